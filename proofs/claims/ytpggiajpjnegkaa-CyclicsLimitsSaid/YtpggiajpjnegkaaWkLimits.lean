/- Statement text: CyclicsLimits. -/
import Derived.Test.YtpggiajpjnegkaaCySeen
import Derived.Test.YtpggiajpjnegkaaBaStart
import Derived.Test.YtpggiajpjnegkaaLawBytes
namespace Go.Proofs.Ytpggiajpjnegkaa
open Go.RowKit

theorem limits_give (lm lo k : Nat) : (li lm lo k 0 0 false).en.accept (loadK k) = (li lm lo (k + 1) 0 0 false).en := Md.give (m := li lm lo k 0 0 false) (Nat.zero_le _)
set_option maxHeartbeats 8000000 in
set_option maxRecDepth 100000 in
theorem limits_any (I : EndFace) (hl : LivesOk) (w : World) (a b d : Nat) (ha : a ≤ 255) (hb : b ≤ 65535) (hd : d ≤ 255) :
    Calls Try.prog 6 #[.agg #[.int .u8 (a : Int), .int .u16 (b : Int)], .int .u8 (d : Int)] w fun e w' => e = .returned (.bool true) ∧ Below w.heap.size w w' := by
  obtain ⟨n, hn⟩ : ∃ n, n = d % 65 := ⟨_, rfl⟩
  have e1 : (d : Int) % 65 = (n : Int) := by omega
  have hn64 : n ≤ 64 := by omega
  have d0 : (0 : Int) ≤ (d : Int) := by omega
  have d1 : (d : Int) ≤ 255 := by omega
  have n0 : (0 : Int) ≤ (n : Int) := by omega
  have n1 : (n : Int) ≤ 64 := by omega
  obtain ⟨W, hW⟩ : ∃ X, X = w.alloc (.cells #[.int .u8 (a : Int), .int .u16 (b : Int)] 24) := ⟨_, rfl⟩
  have hbW : Below w.heap.size w W := by rw [hW]; exact below_alloc _ _
  have oW : Own W w.heap.size 24 [.int .u8 (a : Int), .int .u16 (b : Int)] := by rw [hW]; exact own_lit w _ _ _ rfl
  have hof := of_any a b W ha hb
  obtain ⟨lm1, lm2⟩ := zLm_in a
  obtain ⟨lo1, lo2⟩ := zLo_in b
  obtain ⟨lm, hlm⟩ : ∃ x, x = zLm a := ⟨_, rfl⟩
  obtain ⟨lo, hlo⟩ : ∃ x, x = zLo b := ⟨_, rfl⟩
  rw [← hlm] at hof lm1 lm2
  rw [← hlo] at hof lo1 lo2
  have hLs : Lims lm lo := ⟨lm1, lm2, lo1, lo2⟩
  have HL := Lib.hid hl
  have HW := Lib.hid hW
  have HBW := Lib.hid hbW
  have HOf := Lib.hid hof
  have HLs := Lib.hid hLs
  have HNew := Lib.hid (fun W' => one_new I W' lm lo lm1 lm2 lo1 lo2)
  have s0 := oW.cell 0 (by simp)
  have s1 := oW.cell 1 (by simp)
  simp only [List.getD_cons_succ, List.getD_cons_zero] at s0 s1
  have hlt := oW.lt
  clear hl hn ha hb hd hof hlm hlo hLs hW hbW oW
  go_enter Try.func6, Try.ntmps6
  go_wp2_with fail
  rw [← HW.out]
  with_reducible refine HOf.out.mono ?_
  rintro e w1 ⟨rfl, hb1⟩
  have HB1 := Lib.hid (HBW.out.trans (Below.mono hb1 HBW.out.size))
  clear hb1 HOf s0 s1 hlt
  go_wp2_with fail
  with_reducible refine (HNew.out _).mono ?_
  rintro e w2 ⟨⟨p, rfl, h2⟩, hb2⟩
  have H2 := Lib.hid h2
  have HB2 := Lib.hid (HB1.out.trans (Below.mono hb2 HB1.out.size))
  have hs1 := HB1.out.size
  clear h2 hb2 HNew
  go_wp2_with fail
  clear e1 d0 d1
  go_loopw [10, 11, 12] (fun su wa i wr => ∃ k v : Nat, k ≤ n ∧ i = .int .i64 k ∧ wa = .int .i64 v ∧ su = .int .i64 (ocs 0 v : Nat) ∧ Wants lm lo k v ∧ OneAt I wr w1.heap.size p (li lm lo k 0 0 false).en ∧ Below w.heap.size w wr) (fun _ _ i _ => n - (intOf i).toNat)
  case atStart => exact ⟨0, 0, Nat.zero_le _, rfl, rfl, rfl, ⟨Nat.le_refl _, fun j hj => absurd hj (Nat.not_lt_zero _), .inl rfl⟩, H2.out, HB2.out⟩
  case round =>
    obtain ⟨k, v, hk, rfl, rfl, rfl, hv, h3, hb3⟩ := hrel
    clear H2 HB2
    have hvk := hv.le
    have hoc := ocs_le 0 v
    by_cases hlt : k < n
    · have hki : (k : Int) < (n : Int) := by omega
      have HM := Lib.hid (fun W => kmsg_acc k W (by omega))
      have H3 := Lib.hid h3
      have HB3 := Lib.hid hb3
      have HV := Lib.hid hv
      clear h3 hb3 hv
      go_wp2_with fail
      refine (HM.out _).mono ?_
      rintro e w4 ⟨⟨g, ml, mc, rfl, hmsg⟩, hb4⟩
      have hac := one_accept H3.out hb4 rfl (by show (listL 0 k).length < 64; rw [listL_length]; omega) hmsg
      rw [limits_give] at hac
      have HA := Lib.hid hac
      have HB4 := Lib.hid (HB3.out.trans (Below.mono hb4 HB3.out.size))
      clear hac hmsg hb4 H3 HB3
      go_wp2_with fail
      refine HA.out.mono ?_
      rintro e w5 ⟨rfl, h5, hb5⟩
      have H5 := Lib.hid h5
      have HB5 := Lib.hid (HB4.out.trans (Below.mono hb5 hs1))
      clear h5 hb5 HA HB4
      obtain ⟨O, hO⟩ : ∃ O, O = ocs 0 v := ⟨_, rfl⟩
      rw [← hO]
      rw [← hO] at hoc
      have HO := Lib.hid hO
      clear hO
      by_cases c1 : v = k
      · have c1b : ((v : Int) == (k : Int)) = true := by simp; omega
        by_cases c2 : v < lm
        · have c2i : (v : Int) < (lm : Int) := by omega
          by_cases c3 : O < lo
          · have c3i : (O : Int) < (lo : Int) := by omega
            have c2d : decide ((v : Int) < (lm : Int)) = true := decide_eq_true c2i
            have c3d : decide ((O : Int) < (lo : Int)) = true := decide_eq_true c3i
            go_wp2_with fail
            refine (HM.out _).mono ?_
            rintro e w6 ⟨⟨g6, ml6, mc6, rfl, hmsg6⟩, hb6⟩
            have H6 := Lib.hid (H5.out.later hb6)
            have HB6 := Lib.hid (HB5.out.trans (Below.mono hb6 HB5.out.size))
            have hml := hmsg6.1
            have hml5 := mlen_le k
            clear hmsg6 hb6 H5 HB5 HM
            have eO : ocs 0 (v + 1) = O + ml6 := by
              show ocs 0 v + mlen (0 + v) = _
              rw [Nat.zero_add, ← HO.out, c1, hml]
            rw [← hml] at hml5
            clear hml
            go_wp2_with fail
            go_roundw
            case measure => simp [intOf]; omega
            case rel =>
              refine ⟨k + 1, v + 1, by omega, by go_num, by go_num, by rw [eO]; go_num, ⟨by omega, fun j hj => ?_, .inl (by omega)⟩, H6.out, HB6.out⟩
              by_cases hjv : j = v
              · subst hjv; exact ⟨c2, by rw [← HO.out]; exact c3⟩
              · exact HV.out.room j (by omega)
          · have c3i : ¬ (O : Int) < (lo : Int) := by omega
            have c2d : decide ((v : Int) < (lm : Int)) = true := decide_eq_true c2i
            have c3d : decide ((O : Int) < (lo : Int)) = false := decide_eq_false c3i
            go_wp2_with fail
            go_roundw
            case rel => exact ⟨k + 1, v, by omega, by go_num, by rw [c1], by rw [← HO.out], ⟨(by omega : v ≤ k + 1), HV.out.room, .inr (.inr (by rw [← HO.out]; omega))⟩, H5.out, HB5.out⟩
            case measure => simp [intOf]; omega
        · have c2i : ¬ (v : Int) < (lm : Int) := by omega
          have c2d : decide ((v : Int) < (lm : Int)) = false := decide_eq_false c2i
          go_wp2_with fail
          go_roundw
          case rel => exact ⟨k + 1, v, by omega, by go_num, by rw [c1], by rw [← HO.out], ⟨(by omega : v ≤ k + 1), HV.out.room, .inr (.inl (by omega))⟩, H5.out, HB5.out⟩
          case measure => simp [intOf]; omega
      · have c1b : ((v : Int) == (k : Int)) = false := by simp; omega
        go_wp2_with fail
        go_roundw
        case rel => exact ⟨k + 1, v, by omega, by go_num, rfl, by rw [← HO.out], ⟨by omega, HV.out.room, .inr (HV.out.stop.resolve_left c1)⟩, H5.out, HB5.out⟩
        case measure => simp [intOf]; omega
    · obtain rfl : k = n := by omega
      have hki : ¬ (k : Int) < (k : Int) := by omega
      have H3 := Lib.hid h3
      have HB3 := Lib.hid hb3
      have HV := Lib.hid hv
      clear h3 hb3 hv
      have hv64 : v ≤ 64 := by omega
      obtain ⟨w3, rfl⟩ : ∃ x, x = wr := ⟨_, rfl⟩
      have hmk := make_counts w3
      obtain ⟨V, hV⟩ : ∃ X, X = w3.alloc (.cells (madeCells #[.int .i64 0] 128) 3) := ⟨_, rfl⟩
      rw [← hV] at hmk
      have hbV : Below w3.heap.size w3 V := by rw [hV]; exact below_alloc _ _
      have hoV := own_counts w3
      rw [← hV] at hoV
      have HBV := Lib.hid (HB3.out.trans (Below.mono hbV HB3.out.size))
      have HMk := Lib.hid hmk
      clear hmk hV
      by_cases hk0 : k = 0
      · subst hk0
        have H4 := Lib.hid (H3.out.later hbV)
        obtain rfl : v = 0 := by omega
        clear hbV hoV H3 HB3
        have hmk := HMk.out
        clear HMk
        go_wp2_with fail
        clear hmk
        go_loopw [14] (fun i wr => ∃ j : Nat, j ≤ 200 ∧ i = .int .i64 j ∧ OneAt I wr w1.heap.size p (li lm lo 0 0 0 false).en ∧ Below w.heap.size w wr) (fun i _ => 200 - (intOf i).toNat)
        case atStart => exact ⟨0, Nat.zero_le _, rfl, H4.out, HBV.out⟩
        case round =>
          obtain ⟨j, hj, rfl, h5, hb5⟩ := hrel
          clear H4 HBV
          by_cases hj2 : j < 200
          · have hji : (j : Int) < 200 := by omega
            have hnx := one_next h5 rfl
            rw [Md.next_en (li_ok HLs.out (Nat.le_refl _) (Nat.le_refl _) (by omega)), li_none HLs.out] at hnx
            simp only [unCells] at hnx
            have HN := Lib.hid hnx
            have HB5 := Lib.hid hb5
            clear hnx h5 hb5
            go_wp2_with fail
            refine HN.out.mono ?_
            rintro e w6 ⟨⟨s, rfl, hr⟩, h6, hb6⟩
            have H6 := Lib.hid h6
            have HB6 := Lib.hid (HB5.out.trans (Below.mono hb6 hs1))
            clear hr h6 hb6 HN HB5
            go_wp2_with fail
            refine ⟨⟨j + 1, by omega, by go_num, H6.out.later (below_alloc _ _), HB6.out.trans (Below.mono (below_alloc _ _) HB6.out.size)⟩, by simp [intOf]; omega⟩
          · obtain rfl : j = 200 := by omega
            have HWt := Lib.hid (one_waiting h5)
            have HB5 := Lib.hid hb5
            have eq1 : (li lm lo 0 0 0 false).en.que.length = 0 := rfl
            have eu1 : (li lm lo 0 0 0 false).en.una.length = 0 := rfl
            rw [eq1, eu1] at HWt
            clear h5 hb5 eq1 eu1
            go_wp2_with fail
            refine HWt.out.mono ?_
            rintro e w6 ⟨rfl, q6, hq6⟩
            have HB6 := Lib.hid (HB5.out.trans (by rw [hq6]; exact Below.mono (below_draw wr q6) HB5.out.size : Below w.heap.size wr w6))
            clear hq6 HB5 HWt
            go_wp2_with fail
            go_loopw [19] (fun i wr => i = .int .i64 0 ∧ Below w.heap.size w wr) (fun i _ => 0)
            case atStart => exact ⟨rfl, HB6.out⟩
            case round =>
              obtain ⟨rfl, hb7⟩ := hrel
              have HB7 := Lib.hid hb7
              clear hb7 HB6
              go_wp2_with fail
              refine (HL.out _).mono ?_
              rintro e w9 ⟨rfl, hb9⟩
              have HBX := Lib.hid (HB7.out.trans (Below.mono hb9 HB7.out.size))
              clear hb9
              go_wp2
              go_ret
              exact ⟨rfl, HBX.out⟩
      · have hk1 : 1 ≤ k := by omega
        have hv1 := wants_pos HLs.out HV.out hk1
        have hl0 : liAt lm lo k v 0 = li lm lo k 0 0 false := by unfold liAt; rw [if_pos (Nat.zero_le _)]
        have h4 := SeAt.of_one H3.out hbV (Nat.le_refl _) hoV
        rw [← hl0] at h4
        have H4 := Lib.hid h4
        have hg1 : w1.heap.size ≤ w3.heap.size := H3.out.size
        have hki0 : (0 : Int) < (k : Int) := by omega
        have hkd0 : decide ((0 : Int) < (k : Int)) = true := decide_eq_true hki0
        clear hbV hoV H3 HB3 h4 hl0 hk0
        have hmk := HMk.out
        clear HMk
        obtain ⟨g, hg⟩ : ∃ g, g = w3.heap.size := ⟨_, rfl⟩
        rw [← hg] at hmk H4 hg1
        clear hg
        go_wp2_with fail
        clear hmk
        go_loopw [14] (fun i wr => ∃ (j : Nat) (vs : List Value), j ≤ 200 ∧ i = .int .i64 j ∧ Cnts v j vs ∧ SeAt I wr w1.heap.size p (liAt lm lo k v j).en g vs ∧ Below w.heap.size w wr) (fun i _ => 200 - (intOf i).toNat)
        case atStart => exact ⟨0, _, Nat.zero_le _, rfl, Cnts.zero v hv64, H4.out, HBV.out⟩
        case round =>
          obtain ⟨j, vs, hj, rfl, hcn, h5, hb5⟩ := hrel
          clear H4 HBV
          by_cases hj2 : j < 200
          · have hji : (j : Int) < 200 := by omega
            have hnx := se_next h5 (liAt_failed lm lo k v j)
            rw [Md.next_en (liAt_ok HLs.out HV.out hv1 hn64), liAt_next HV.out hv1 hn64] at hnx
            have hFv : j % v < v := Nat.mod_lt _ hv1
            obtain ⟨F, hF⟩ : ∃ F, F = j % v := ⟨_, rfl⟩
            rw [← hF] at hnx hFv
            simp only [unCells] at hnx
            have hFi : (0 : Int) ≤ (F : Int) := by omega
            have hFi2 : (F : Int) ≤ 63 := by omega
            have hge : ¬ (v : Int) ≤ (F : Int) := by omega
            have hged : decide ((v : Int) ≤ (F : Int)) = false := decide_eq_false hge
            have HN := Lib.hid hnx
            have HB5 := Lib.hid hb5
            have HCn := Lib.hid hcn
            have HF := Lib.hid hF
            clear hnx h5 hb5 hcn hF
            go_wp2_with fail
            refine HN.out.mono ?_
            rintro e w6 ⟨⟨s, rfl, hr⟩, h6, hb6⟩
            have H6 := Lib.hid h6
            have HB6 := Lib.hid (HB5.out.trans (Below.mono hb6 hs1))
            have HR6 := Lib.hid hr
            clear hr h6 hb6 HN HB5
            go_wp2_with fail
            obtain ⟨W7, hW7⟩ : ∃ X, X = w6.alloc (.cells #[.int .u8 127, .bool true, .int .u8 (F : Int), .bool true, .int .u8 2, .int .u8 0, .slice s (loadK F).length (loadK F).length] 45) := ⟨_, rfl⟩
            rw [← hW7]
            have hb7 : Below w6.heap.size w6 W7 := by rw [hW7]; exact below_alloc _ _
            have ou7 : Own W7 w6.heap.size 45 [.int .u8 127, .bool true, .int .u8 (F : Int), .bool true, .int .u8 2, .int .u8 0, .slice s (loadK F).length (loadK F).length] := by rw [hW7]; exact own_lit w6 _ _ _ rfl
            obtain ⟨E, hE⟩ : ∃ E, E = w6.heap.size := ⟨_, rfl⟩
            rw [← hE] at ou7 ⊢
            have hEl := ou7.lt
            have hc2 := ou7.cell 2 (by simp)
            have hc6 := ou7.cell 6 (by simp)
            simp only [List.getD_cons_succ, List.getD_cons_zero] at hc2 hc6
            have hS : ∀ W, Below W7.heap.size W7 W → Below W7.heap.size W7 W ∧ W.cell? ⟨E, 2, none⟩ = some (.int .u8 (F : Int)) ∧ W.cell? ⟨E, 6, none⟩ = some (.slice s (loadK F).length (loadK F).length) := fun W hb' => ⟨hb', (hb'.cell (p := ⟨E, 2, none⟩) hEl).trans hc2, (hb'.cell (p := ⟨E, 6, none⟩) hEl).trans hc6⟩
            have hSn : ∀ W W', Below W7.heap.size W7 W → Below W.heap.size W W' → Below W7.heap.size W7 W' := fun W W' h1 h2 => h1.trans (Below.mono h2 h1.size)
            have hS0 := hS W7 (Below.refl _ _)
            have HSt := Lib.hid hS
            have HSn := Lib.hid hSn
            have H7 := Lib.hid (H6.out.later hb7)
            have HB7 := Lib.hid (HB6.out.trans (Below.mono hb7 HB6.out.size))
            have HR7 := Lib.hid (HR6.out.later hb7)
            have HM := Lib.hid (fun W => kmsg_acc F W (by omega))
            have hwF : IntKind.i64.wrap (F : Int) = (F : Int) := IntWalk.i64_in _ (by omega)
            clear hS hSn hc2 hc6 ou7 hb7 hW7 hE H6 HB6 HR6 hEl
            go_region_held3 (fun W => Below W7.heap.size W7 W ∧ W.cell? ⟨E, 2, none⟩ = some (.int .u8 (F : Int)) ∧ W.cell? ⟨E, 6, none⟩ = some (.slice s (loadK F).length (loadK F).length)) (first | assumption | exact HSt.out _ (below_draw _ _) | exact HSt.out _ (Below.refl _ _))
              (first
                | (go_at_call 13; ((with_reducible refine (HM.out _).mono ?_); rintro e w8 ⟨⟨g8, m8, c8, rfl, hm8⟩, hb8⟩); have hS8 := HSt.out _ (HSn.out _ _ (And.left (by assumption)) hb8); have HM8 := Lib.hid hm8; clear hm8 hb8)
                | (go_at_call 32; ((with_reducible refine (bytes_yes _ _ _ _ _ _ _ (HR7.out.later hS8.1) HM8.out.2.2).mono ?_); rintro e w9 ⟨rfl, q9, rfl⟩); have hS9 := HSt.out _ (hS8.1.trans (Below.mono (below_draw _ q9) hS8.1.size)))
                | fail)
            clear hS0 hS8 HM8
            generalize w8.drewN q9 = W9 at hS9 ⊢
            have h9 := H7.out.later hS9.1
            have h9o := h9.own
            obtain ⟨C, hC⟩ : ∃ C, C = cnt v j (j % v) := ⟨_, rfl⟩
            have hCl : C ≤ 201 := by rw [hC]; exact Nat.le_trans cnt_le (by omega)
            have hcell : W9.cell? ⟨g, F, none⟩ = some (.int .i64 (C : Int)) := by
              rw [h9o.cell F (by rw [HCn.out.1]; omega), HCn.out.2 F hFv, HF.out, ← hC]
            have hfr : W9.frozen? ⟨g, F, none⟩ = false := h9o.frozen F
            have hgl : g < W9.heap.size := h9o.lt
            have hCi : (C : Int) ≤ 201 := by omega
            have hcn2 := HCn.out.next hv1 hv64
            rw [← HF.out, show cnt v j F = C by rw [HF.out, ← hC]] at hcn2
            have hset := h9.set hg1 F (.int .i64 ((C : Int) + 1))
            have HSet := Lib.hid hset
            have HCn2 := Lib.hid hcn2
            have HB9 := Lib.hid (HB7.out.trans (Below.mono hS9.1 HB7.out.size))
            have hE2 := hS9.2.1
            clear hS9 h9 h9o hC hset hcn2 H7 HB7 HCn HSt HSn HR7 HM
            go_wp2_with fail
            go_roundw
            case measure => simp [intOf]; omega
            case rel => exact ⟨j + 1, _, by omega, by go_num, HCn2.out, HSet.out.1, HB9.out.trans (Below.mono HSet.out.2 hs1)⟩
          · obtain rfl : j = 200 := by omega
            have hji : ¬ (200 : Int) < 200 := by omega
            have hwt := se_waiting h5
            obtain ⟨ls1, ls2⟩ := liAt_sent (lm := lm) (lo := lo) (n := k) (w := v) (r := 200) (by omega)
            have eu1 : (liAt lm lo k v 200).en.una.length = v := by
              show (listL (liAt lm lo k v 200).acked (liAt lm lo k v 200).sent).length = v
              rw [ls1, ls2, listL_length]; rfl
            rw [eu1] at hwt
            have hcc : ∀ i, i < v → wr.cell? ⟨g, i, none⟩ = some (.int .i64 (cnt v 200 i : Int)) := fun i hi => by
              rw [h5.own.cell i (by rw [hcn.1]; omega), hcn.2 i hi]
            have HWt := Lib.hid hwt
            have HB5 := Lib.hid hb5
            have hg5 := h5.own.lt
            have HCc := Lib.hid hcc
            clear h5 hb5 eu1 ls1 ls2 hwt hcn hcc
            go_wp2_with fail
            refine HWt.out.mono ?_
            rintro e w6 ⟨rfl, q6, hq6⟩
            have hb6 : Below wr.heap.size wr w6 := by rw [hq6]; exact below_draw wr q6
            have HB6 := Lib.hid (HB5.out.trans (Below.mono hb6 HB5.out.size))
            have HC6 := Lib.hid (fun i (hi : i < v) => (hb6.cell (p := ⟨g, i, none⟩) hg5).trans (HCc.out i hi))
            clear hq6 hb6 HB5 HWt HCc hg5
            go_wp2_with fail
            go_loopw [19] (fun i wr => ∃ j : Nat, j ≤ v ∧ i = .int .i64 j ∧ wr = w6) (fun i _ => v - (intOf i).toNat)
            case atStart => exact ⟨0, Nat.zero_le _, rfl, rfl⟩
            case round =>
              obtain ⟨j, hj, rfl, rfl⟩ := hrel
              by_cases hjv : j < v
              · have hji : (j : Int) < (v : Int) := by omega
                have hcj := HC6.out j hjv
                have h3 := cnt_three (i := j) hv1 hv64
                obtain ⟨N, hN⟩ : ∃ N, N = cnt v 200 j := ⟨_, rfl⟩
                rw [← hN] at hcj h3
                have h3i : ¬ (N : Int) < 3 := by omega
                clear hN
                go_wp2_with fail
                refine ⟨⟨j + 1, by omega, by go_num, by trivial⟩, by simp [intOf]; omega⟩
              · obtain rfl : j = v := by omega
                have hji : ¬ (j : Int) < (j : Int) := by omega
                go_wp2_with fail
                refine (HL.out _).mono ?_
                rintro e w9 ⟨rfl, hb9⟩
                have HBX := Lib.hid (HB6.out.trans (Below.mono hb9 HB6.out.size))
                clear hb9
                go_wp2
                go_ret
                exact ⟨rfl, HBX.out⟩
end Go.Proofs.Ytpggiajpjnegkaa
