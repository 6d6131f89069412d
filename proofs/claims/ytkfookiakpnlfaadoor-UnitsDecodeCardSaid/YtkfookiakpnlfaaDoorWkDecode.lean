/- The walk of UnitsDecode. -/
import Derived.Test.YtkfookiakpnlfaaDoorUnWalk
namespace Go.Proofs.YtkfookiakpnlfaaDoor
open Go.RowKit

theorem low_dec {x : Int} (h0 : 0 ≤ x) (h1 : x ≤ 255) : low (x % 128) (decide (128 ≤ x)) = x := by
  unfold low
  by_cases h : 128 ≤ x
  · rw [if_pos (decide_eq_true h)]; omega
  · rw [if_neg (by simpa using h)]; omega
theorem contL_dec (d : List Int) : contL (kindL d) (statL d) (loadL d) = d := by
  unfold contL kindL statL loadL
  match d with
  | [] => rfl
  | [x] => rfl
  | x :: y :: r => simp
theorem enc_dec {l : List Int} {n : Nat} (hl : l.length = n + 3) (ho : ∀ x ∈ l, 0 ≤ x ∧ x ≤ 255) (h2 : l.getD 2 0 = ((min n 63 : Nat) : Int)) :
    encL (l.getD 0 0 % 128) (decide (128 ≤ l.getD 0 0)) (l.getD 1 0 % 128) (decide (128 ≤ l.getD 1 0)) (kindL (l.drop 3)) (statL (l.drop 3)) (loadL (l.drop 3)) = l := by
  match l, hl with
  | x0 :: x1 :: x2 :: d, hl =>
    simp only [List.length_cons] at hl
    have e1 := ho x0 (by simp)
    have e2 := ho x1 (by simp)
    have e3 : x2 = ((min n 63 : Nat) : Int) := h2
    unfold encL restL
    simp only [List.drop_succ_cons, List.drop_zero, List.getD_cons_zero, List.getD_cons_succ]
    rw [contL_dec, low_dec e1.1 e1.2, low_dec e2.1 e2.2, e3, show d.length = n by omega]
set_option maxHeartbeats 4000000 in
set_option maxRecDepth 100000 in
theorem unitsDecode_walk (a : Option Addr) (n c : Nat) (l : List Int) (w : World) (hp : PowOk w) (h : Row .u8 w a n c l) :
    Calls Tryd.prog 5 #[.slice a n c] w fun e w' => e = .returned (.bool true) ∧ Below w.heap.size w w' := by
  have hle := h.le
  have hcm := h.max
  unfold maxLen at hcm
  have BB0 := Lib.hid (Below.refl w.heap.size w)
  have HP0 := Lib.hid hp
  have RS0 := Lib.hid h
  clear hp
  by_cases hbig : 400 < n
  · clear h
    go_enter Tryd.func5, Tryd.ntmps5
    go_wp2_with fail
    refine (lives_any _ HP0.out).mono ?_
    rintro e w11 ⟨rfl, hb⟩
    have BB12 := Lib.hid (BB0.out.trans ((hb).mono BB0.out.size))
    clear hb BB0 HP0 RS0
    go_wp2
    go_ret
    exact ⟨rfl, BB12.out⟩
  · by_cases hw3 : n < 3 ∨ 276 < n
    · have hn63 : n ≤ 9223372036854775807 := by omega
      rcases (by omega : n < 3 ∨ (3 ≤ n ∧ 276 < n)) with hlo | ⟨hlo, hhi⟩
      all_goals
        go_enter Tryd.func5, Tryd.ntmps5
        try clear h
        go_wp2_with fail
        refine (decode_width a n c w hw3 hn63).mono ?_
        rintro e w11 ⟨rfl, hb⟩
        clear hw3
        have BB12 := Lib.hid (BB0.out.trans ((hb).mono BB0.out.size))
        have HP13 := Lib.hid (HP0.out.later (hb))
        have RS14 := Lib.hid (RS0.out.later (hb))
        clear hb BB0 HP0 RS0
        obtain ⟨w15, hw⟩ : ∃ W, W = w11.alloc (.cells #[.int .u8 0, .bool false, .int .u8 0, .bool false, .int .u8 0, .int .u8 0, .slice none 0 0] 25) := ⟨_, rfl⟩
        have hb : Below w11.heap.size w11 w15 := by rw [hw]; exact below_alloc _ _
        have ho : Own w15 w11.heap.size 25 [.int .u8 0, .bool false, .int .u8 0, .bool false, .int .u8 0, .int .u8 0, .slice none 0 0] := by rw [hw]; exact own_lit _ _ _ _ rfl
        have HW15 := Lib.hid hw
        have BB16 := Lib.hid (BB12.out.trans ((hb).mono BB12.out.size))
        have HP17 := Lib.hid (HP13.out.later (hb))
        have RS18 := Lib.hid (RS14.out.later (hb))
        clear hb hw BB12 HP13 RS14
        go_wp2_with fail
        rw [← HW15.out]
        obtain ⟨k0, k1, k2, k3, k4, k5, k6⟩ := unit_cells ho
        clear ho
        refine (lawsame_any 0 false 0 false 0 0 none 0 0 [] 0 false 0 false 0 0 none 0 0 [] w15 (Row.of_nil _ _) (Row.of_nil _ _)).mono ?_
        clear k0 k1 k2 k3 k4 k5 k6
        have hdt : decide (sameU 0 false 0 false 0 0 [] 0 false 0 false 0 0 []) = true := by decide
        rw [hdt]
        clear hdt
        rintro e w19 ⟨rfl, hb⟩
        have BB20 := Lib.hid (BB16.out.trans ((hb).mono BB16.out.size))
        have HP21 := Lib.hid (HP17.out.later (hb))
        have RS22 := Lib.hid (RS18.out.later (hb))
        clear hb BB16 HP17 RS18
        go_wp2_with fail
        refine (lives_any _ HP21.out).mono ?_
        rintro e w23 ⟨rfl, hb⟩
        have BB24 := Lib.hid (BB20.out.trans ((hb).mono BB20.out.size))
        clear hb BB20 HP21 RS22
        go_wp2
        go_ret
        exact ⟨rfl, BB24.out⟩
    · obtain ⟨N, rfl⟩ : ∃ N, n = N + 3 := ⟨n - 3, by omega⟩
      have hN : N ≤ 273 := by omega
      clear hw3 hbig
      obtain ⟨b, o, rfl, hc⟩ : ∃ b off, a = some ⟨b, off, none⟩ ∧ ∀ i, i < N + 3 → w.cell? ⟨b, off + i, none⟩ = some (.int .u8 (l.getD i 0)) := by
        rcases h.cells with h0 | h0
        · omega
        · exact h0
      have hoct := h.octs8
      have hl := h.len
      have hbl : b < w.heap.size := World.block_lt_of_cell? w _ (hc 0 (by omega))
      obtain ⟨M, hM⟩ : ∃ M : Int, M = ((min N 63 : Nat) : Int) := ⟨_, rfl⟩
      have hif : (if (63 : Int) < (N : Int) then (63 : Int) else (N : Int)) = M := by rw [hM]; split <;> omega
      have hmin : min (N : Int) 63 = M := by rw [hM]; omega
      have hM0 : 0 ≤ M := by omega
      have hM1 : M ≤ 63 := by omega
      have hs3 : (N : Int) + 3 - 3 = N := by omega
      have hs1 : (N : Int) + 3 - 1 = N + 2 := by omega
      have c2 := hc 2 (by omega)
      have cL := hc (N + 2) (by omega)
      obtain ⟨x2, e2⟩ : ∃ x, x = l.getD 2 0 := ⟨_, rfl⟩
      rw [← e2] at c2
      have hx2 : 0 ≤ x2 ∧ x2 ≤ 255 := by rw [e2]; exact getD_octs hoct 2
      obtain ⟨hx20, hx21⟩ := hx2
      obtain ⟨xL, eL⟩ : ∃ x, x = l.getD (N + 2) 0 := ⟨_, rfl⟩
      rw [← eL] at cL
      have hxL : 0 ≤ xL ∧ xL ≤ 255 := by rw [eL]; exact getD_octs hoct _
      obtain ⟨hxL0, hxL1⟩ := hxL
      have hst : statL (l.drop 3) = if N = 1 then xL else 0 := by
        unfold statL
        rw [List.length_drop, hl, Nat.add_sub_cancel]
        split
        · rename_i h1; subst h1; rw [eL]; simp [List.getD_eq_getElem?_getD]
        · rfl
      have HC2 := Lib.hid (fun W (hW : Below w.heap.size w W) => (hW.cell (p := ⟨b, o + 2, none⟩) hbl).trans c2)
      have HCL := Lib.hid (fun W (hW : Below w.heap.size w W) => (hW.cell (p := ⟨b, o + (N + 2), none⟩) hbl).trans cL)
      have HM := Lib.hid hM
      have HST := Lib.hid hst
      have HOct := Lib.hid hoct
      have HLen := Lib.hid hl
      have HE2 := Lib.hid e2
      clear h hc hoct hl hM c2 cL eL hst e2
      by_cases hx2M : x2 = M
      · subst hx2M
        by_cases hN1 : N = 1
        · by_cases hx5 : xL ≤ 5
          · have tn : ((N : Int) != 1) = false := by simp; omega
            have HN1 := Lib.hid hN1
            clear hN1
            obtain ⟨x0, e0⟩ : ∃ x, x = l.getD 0 0 := ⟨_, rfl⟩
            obtain ⟨x1, e1⟩ : ∃ x, x = l.getD 1 0 := ⟨_, rfl⟩
            obtain ⟨hx00, hx01⟩ := getD_octs HOct.out 0
            obtain ⟨hx10, hx11⟩ := getD_octs HOct.out 1
            have hdo : ∀ x ∈ l.drop 3, 0 ≤ x ∧ x ≤ 255 := fun x hx => HOct.out x (List.mem_of_mem_drop hx)
            obtain ⟨m, hm⟩ : ∃ m, (loadL (l.drop 3)).length = m := ⟨_, rfl⟩
            have hm1 : m ≤ 273 := by
              rw [← hm]; unfold loadL; split
              · rw [List.length_drop, HLen.out]; omega
              · simp
            have hst5 : statL (l.drop 3) ≤ 5 := by rw [HST.out]; split <;> omega
            have hck := chk_dec (x0 := l.getD 0 0) (x1 := l.getD 1 0) (d := l.drop 3) (by rw [List.length_drop, HLen.out]; omega) hx00 hx10
            rw [if_pos hst5, hm] at hck
            have hen := enc_dec HLen.out HOct.out (by rw [← HE2.out, ← HM.out])
            have hdec := decode_ok _ (N + 3) c m l w RS0.out (by omega) (by omega) (by rw [← HE2.out, show N + 3 - 3 = N by omega, ← HM.out]) hst5 hm
            obtain ⟨hk0, hk1⟩ := kindL_range (l.drop 3)
            obtain ⟨hs0, hs1'⟩ := statL_range hdo
            have hlo : ∀ x ∈ loadL (l.drop 3), 0 ≤ x ∧ x ≤ 255 := by
              unfold loadL; split
              · exact hdo
              · simp
            have hcl : (contL (kindL (l.drop 3)) (statL (l.drop 3)) (loadL (l.drop 3))).length = N := by rw [contL_dec, List.length_drop, HLen.out]; omega
            obtain ⟨kd, ekd⟩ : ∃ x, x = kindL (l.drop 3) := ⟨_, rfl⟩
            obtain ⟨sd, esd⟩ : ∃ x, x = statL (l.drop 3) := ⟨_, rfl⟩
            obtain ⟨ld, eld⟩ : ∃ x, x = loadL (l.drop 3) := ⟨_, rfl⟩
            rw [← e0, ← e1, ← ekd, ← esd] at hck
            rw [← e0, ← e1, ← ekd, ← esd, ← eld] at hen hdec
            rw [← ekd, ← esd, ← eld] at hcl
            rw [← eld] at hlo hm
            rw [← ekd] at hk0 hk1
            rw [← esd] at hs0 hs1' hst5
            rw [← e0] at hx00 hx01
            rw [← e1] at hx10 hx11
            have HDec := Lib.hid hdec
            have HCk := Lib.hid hck
            have HEn := Lib.hid hen
            have HLo := Lib.hid hlo
            have HMm := Lib.hid hm
            have HCl := Lib.hid hcl
            clear hdec hck hen hlo hm hcl ekd esd eld e0 e1 hdo
            go_enter Tryd.func5, Tryd.ntmps5
            go_wp2_with fail
            refine (HDec.out).mono ?_
            rintro e w11 ⟨⟨s, rfl, hla⟩, hb⟩
            have BB12 := Lib.hid (BB0.out.trans ((hb).mono BB0.out.size))
            have HP13 := Lib.hid (HP0.out.later (hb))
            have RS14 := Lib.hid (RS0.out.later (hb))
            have LA15 := Lib.hid (hla)
            clear hb hla BB0 HP0 RS0
            obtain ⟨w16, hw⟩ : ∃ W, W = w11.alloc (.cells #[.int .u8 (x0 % 128), .bool (decide (128 ≤ x0)), .int .u8 (x1 % 128), .bool (decide (128 ≤ x1)), .int .u8 kd, .int .u8 sd, .slice s m m] 25) := ⟨_, rfl⟩
            have hb : Below w11.heap.size w11 w16 := by rw [hw]; exact below_alloc _ _
            have ho : Own w16 w11.heap.size 25 [.int .u8 (x0 % 128), .bool (decide (128 ≤ x0)), .int .u8 (x1 % 128), .bool (decide (128 ≤ x1)), .int .u8 kd, .int .u8 sd, .slice s m m] := by rw [hw]; exact own_lit _ _ _ _ rfl
            have HW16 := Lib.hid hw
            have BB17 := Lib.hid (BB12.out.trans ((hb).mono BB12.out.size))
            have HP18 := Lib.hid (HP13.out.later (hb))
            have RS19 := Lib.hid (RS14.out.later (hb))
            have LA20 := Lib.hid (LA15.out.later (hb))
            have HO21 := Lib.hid (ho)
            clear hb hw ho BB12 HP13 RS14 LA15
            have hrow : Row .u8 w16 s m m ld := by have := LA20.out.row (by rw [HMm.out]; omega) HLo.out; rwa [HMm.out] at this
            have henc := encode_ok (x0 % 128) (decide (128 ≤ x0)) (x1 % 128) (decide (128 ≤ x1)) kd sd s m m N ld w16 (by omega) (by omega) hk0 hs0 hrow HCk.out HCl.out
            rw [HEn.out] at henc
            have HEnc := Lib.hid henc
            have HRow := Lib.hid hrow
            clear henc hrow
            have g2 := HC2.out _ BB17.out
            have gL := HCL.out _ BB17.out
            rw [HW16.out] at g2 gL
            go_wp2_with fail
            rw [← HW16.out]
            refine (HEnc.out).mono ?_
            clear g2 gL
            rintro e w22 ⟨⟨d, rfl, hd⟩, hb⟩
            have HBe := Lib.hid hb
            have BB23 := Lib.hid (BB17.out.trans ((hb).mono BB17.out.size))
            have HP24 := Lib.hid (HP18.out.later (hb))
            have RS25 := Lib.hid (RS19.out.later (hb))
            have LA26 := Lib.hid (LA20.out.later (hb))
            have HO27 := Lib.hid (HO21.out.later (hb))
            have HD28 := Lib.hid (hd)
            clear hb hd BB17 HP18 RS19 LA20 HO21
            obtain ⟨k0, k1, k2, k3, k4, k5, k6⟩ := unit_cells HO27.out
            go_wp2_with fail
            have hlk := lawcheck_any (x0 % 128) (decide (128 ≤ x0)) (x1 % 128) (decide (128 ≤ x1)) kd sd s m m w22 (by omega) (by omega) (by omega) (by omega) hk0 (by omega) hs0 hs1' (by omega)
            rw [HCk.out] at hlk
            refine hlk.mono ?_
            clear k0 k1 k2 k3 k4 k5 k6 hlk
            rintro e w29 ⟨rfl, hb⟩
            have HD30 := Lib.hid (ownsRow_below HD28.out hb)
            clear HD28
            have HBe2 := Lib.hid (HBe.out.trans (hb.mono HBe.out.size))
            clear HBe
            have BB31 := Lib.hid (BB23.out.trans ((hb).mono BB23.out.size))
            have HP32 := Lib.hid (HP24.out.later (hb))
            have RS33 := Lib.hid (RS25.out.later (hb))
            have LA34 := Lib.hid (LA26.out.later (hb))
            have HO35 := Lib.hid (HO27.out.later (hb))
            clear hb BB23 HP24 RS25 LA26 HO27
            have hrd : Row .u8 w29 (some ⟨d, 0, none⟩) (3 + N) (3 + N) l := by
              obtain ⟨a', c', hv, hr, _⟩ := ownsRow_rowN .u8 HD30.out RS33.out.wf
              simp only [Value.slice.injEq] at hv
              obtain ⟨rfl, _, rfl⟩ := hv
              exact hr
            have HRD := Lib.hid hrd
            clear hrd HD30
            go_wp2_with fail
            refine (bytes_yes _ _ (3 + N) (N + 3) c l _ HRD.out RS33.out).mono ?_
            rintro e w' ⟨rfl, q36, rfl⟩
            clear HRD
            have hb := below_draw w29 q36
            obtain ⟨w36, hw⟩ : ∃ x, x = (w29).drewN q36 := ⟨_, rfl⟩
            rw [← hw] at hb ⊢
            have HBe3 := Lib.hid (HBe2.out.trans (hb.mono HBe2.out.size))
            clear HBe2
            have BB37 := Lib.hid (BB31.out.trans ((hb).mono BB31.out.size))
            have HP38 := Lib.hid (HP32.out.later (hb))
            have RS39 := Lib.hid (RS33.out.later (hb))
            have LA40 := Lib.hid (LA34.out.later (hb))
            have HO41 := Lib.hid (HO35.out.later (hb))
            clear hb hw BB31 HP32 RS33 LA34 HO35
            obtain ⟨k0, k1, k2, k3, k4, k5, k6⟩ := unit_cells HO41.out
            go_wp2_with fail
            have hoc := octets_any (x0 % 128) (decide (128 ≤ x0)) (x1 % 128) (decide (128 ≤ x1)) kd sd s m m N ld w36 (by omega) (by omega) hk0 hs0 (HRow.out.later HBe3.out) HCk.out HCl.out
            rw [HEn.out] at hoc
            refine hoc.mono ?_
            clear k0 k1 k2 k3 k4 k5 k6 hoc
            rintro e w42 ⟨⟨ao, co, rfl, hro⟩, hb⟩
            have BB43 := Lib.hid (BB37.out.trans ((hb).mono BB37.out.size))
            have HP44 := Lib.hid (HP38.out.later (hb))
            have RS45 := Lib.hid (RS39.out.later (hb))
            have LA46 := Lib.hid (LA40.out.later (hb))
            have HO47 := Lib.hid (HO41.out.later (hb))
            have HQ48 := Lib.hid (hro)
            clear hb hro BB37 HP38 RS39 LA40 HO41
            go_wp2_with fail
            refine (same_any ao _ (3 + N) co (N + 3) c l l _ HQ48.out RS45.out).mono ?_
            have hdt : decide (l = l) = true := decide_eq_true rfl
            rw [hdt]
            clear hdt
            rintro e w' ⟨rfl, q49, rfl⟩
            have hb := below_draw w42 q49
            obtain ⟨w49, hw⟩ : ∃ x, x = (w42).drewN q49 := ⟨_, rfl⟩
            rw [← hw] at hb ⊢
            have BB50 := Lib.hid (BB43.out.trans ((hb).mono BB43.out.size))
            have HP51 := Lib.hid (HP44.out.later (hb))
            have RS52 := Lib.hid (RS45.out.later (hb))
            have LA53 := Lib.hid (LA46.out.later (hb))
            have HO54 := Lib.hid (HO47.out.later (hb))
            have HQ55 := Lib.hid (HQ48.out.later (hb))
            clear hb hw BB43 HP44 RS45 LA46 HO47 HQ48
            go_wp2_with fail
            refine (lives_any _ HP51.out).mono ?_
            rintro e w56 ⟨rfl, hb⟩
            have BB57 := Lib.hid (BB50.out.trans ((hb).mono BB50.out.size))
            clear hb BB50 HP51 RS52 LA53 HO54 HQ55
            go_wp2
            go_ret
            exact ⟨rfl, BB57.out⟩
          · have tn : ((N : Int) != 1) = false := by simp; omega
            have HN1 := Lib.hid hN1
            clear hN1
            have tx : decide (xL ≤ 5) = false := decide_eq_false hx5
            go_enter Tryd.func5, Tryd.ntmps5
            go_wp2_with fail
            refine (decode_bad _ (N + 3) c (loadL (l.drop 3)).length l w RS0.out (by omega) (by omega) (by rw [← HE2.out, show N + 3 - 3 = N by omega, ← HM.out]) (by rw [HST.out, if_pos HN1.out]; omega) rfl).mono ?_
            rintro e w11 ⟨rfl, hb⟩
            have BB12 := Lib.hid (BB0.out.trans ((hb).mono BB0.out.size))
            have HP13 := Lib.hid (HP0.out.later (hb))
            have RS14 := Lib.hid (RS0.out.later (hb))
            clear hb BB0 HP0 RS0
            obtain ⟨w15, hw⟩ : ∃ W, W = w11.alloc (.cells #[.int .u8 0, .bool false, .int .u8 0, .bool false, .int .u8 0, .int .u8 0, .slice none 0 0] 25) := ⟨_, rfl⟩
            have hb : Below w11.heap.size w11 w15 := by rw [hw]; exact below_alloc _ _
            have ho : Own w15 w11.heap.size 25 [.int .u8 0, .bool false, .int .u8 0, .bool false, .int .u8 0, .int .u8 0, .slice none 0 0] := by rw [hw]; exact own_lit _ _ _ _ rfl
            have HW15 := Lib.hid hw
            have BB16 := Lib.hid (BB12.out.trans ((hb).mono BB12.out.size))
            have HP17 := Lib.hid (HP13.out.later (hb))
            have RS18 := Lib.hid (RS14.out.later (hb))
            clear hb hw BB12 HP13 RS14
            have g2 := HC2.out _ BB16.out
            have gL := HCL.out _ BB16.out
            rw [HW15.out] at g2 gL
            go_wp2_with fail
            rw [← HW15.out]
            clear g2 gL
            obtain ⟨k0, k1, k2, k3, k4, k5, k6⟩ := unit_cells ho
            clear ho
            refine (lawsame_any 0 false 0 false 0 0 none 0 0 [] 0 false 0 false 0 0 none 0 0 [] w15 (Row.of_nil _ _) (Row.of_nil _ _)).mono ?_
            clear k0 k1 k2 k3 k4 k5 k6
            have hdt : decide (sameU 0 false 0 false 0 0 [] 0 false 0 false 0 0 []) = true := by decide
            rw [hdt]
            clear hdt
            rintro e w19 ⟨rfl, hb⟩
            have BB20 := Lib.hid (BB16.out.trans ((hb).mono BB16.out.size))
            have HP21 := Lib.hid (HP17.out.later (hb))
            have RS22 := Lib.hid (RS18.out.later (hb))
            clear hb BB16 HP17 RS18
            go_wp2_with fail
            refine (lives_any _ HP21.out).mono ?_
            rintro e w23 ⟨rfl, hb⟩
            have BB24 := Lib.hid (BB20.out.trans ((hb).mono BB20.out.size))
            clear hb BB20 HP21 RS22
            go_wp2
            go_ret
            exact ⟨rfl, BB24.out⟩
        · have tn : ((N : Int) != 1) = true := by simp; omega
          obtain ⟨x0, e0⟩ : ∃ x, x = l.getD 0 0 := ⟨_, rfl⟩
          obtain ⟨x1, e1⟩ : ∃ x, x = l.getD 1 0 := ⟨_, rfl⟩
          obtain ⟨hx00, hx01⟩ := getD_octs HOct.out 0
          obtain ⟨hx10, hx11⟩ := getD_octs HOct.out 1
          have hdo : ∀ x ∈ l.drop 3, 0 ≤ x ∧ x ≤ 255 := fun x hx => HOct.out x (List.mem_of_mem_drop hx)
          obtain ⟨m, hm⟩ : ∃ m, (loadL (l.drop 3)).length = m := ⟨_, rfl⟩
          have hm1 : m ≤ 273 := by
            rw [← hm]; unfold loadL; split
            · rw [List.length_drop, HLen.out]; omega
            · simp
          have hst5 : statL (l.drop 3) ≤ 5 := by rw [HST.out]; split <;> omega
          have hck := chk_dec (x0 := l.getD 0 0) (x1 := l.getD 1 0) (d := l.drop 3) (by rw [List.length_drop, HLen.out]; omega) hx00 hx10
          rw [if_pos hst5, hm] at hck
          have hen := enc_dec HLen.out HOct.out (by rw [← HE2.out, ← HM.out])
          have hdec := decode_ok _ (N + 3) c m l w RS0.out (by omega) (by omega) (by rw [← HE2.out, show N + 3 - 3 = N by omega, ← HM.out]) hst5 hm
          obtain ⟨hk0, hk1⟩ := kindL_range (l.drop 3)
          obtain ⟨hs0, hs1'⟩ := statL_range hdo
          have hlo : ∀ x ∈ loadL (l.drop 3), 0 ≤ x ∧ x ≤ 255 := by
            unfold loadL; split
            · exact hdo
            · simp
          have hcl : (contL (kindL (l.drop 3)) (statL (l.drop 3)) (loadL (l.drop 3))).length = N := by rw [contL_dec, List.length_drop, HLen.out]; omega
          obtain ⟨kd, ekd⟩ : ∃ x, x = kindL (l.drop 3) := ⟨_, rfl⟩
          obtain ⟨sd, esd⟩ : ∃ x, x = statL (l.drop 3) := ⟨_, rfl⟩
          obtain ⟨ld, eld⟩ : ∃ x, x = loadL (l.drop 3) := ⟨_, rfl⟩
          rw [← e0, ← e1, ← ekd, ← esd] at hck
          rw [← e0, ← e1, ← ekd, ← esd, ← eld] at hen hdec
          rw [← ekd, ← esd, ← eld] at hcl
          rw [← eld] at hlo hm
          rw [← ekd] at hk0 hk1
          rw [← esd] at hs0 hs1' hst5
          rw [← e0] at hx00 hx01
          rw [← e1] at hx10 hx11
          have HDec := Lib.hid hdec
          have HCk := Lib.hid hck
          have HEn := Lib.hid hen
          have HLo := Lib.hid hlo
          have HMm := Lib.hid hm
          have HCl := Lib.hid hcl
          clear hdec hck hen hlo hm hcl ekd esd eld e0 e1 hdo
          go_enter Tryd.func5, Tryd.ntmps5
          go_wp2_with fail
          refine (HDec.out).mono ?_
          rintro e w11 ⟨⟨s, rfl, hla⟩, hb⟩
          have BB12 := Lib.hid (BB0.out.trans ((hb).mono BB0.out.size))
          have HP13 := Lib.hid (HP0.out.later (hb))
          have RS14 := Lib.hid (RS0.out.later (hb))
          have LA15 := Lib.hid (hla)
          clear hb hla BB0 HP0 RS0
          obtain ⟨w16, hw⟩ : ∃ W, W = w11.alloc (.cells #[.int .u8 (x0 % 128), .bool (decide (128 ≤ x0)), .int .u8 (x1 % 128), .bool (decide (128 ≤ x1)), .int .u8 kd, .int .u8 sd, .slice s m m] 25) := ⟨_, rfl⟩
          have hb : Below w11.heap.size w11 w16 := by rw [hw]; exact below_alloc _ _
          have ho : Own w16 w11.heap.size 25 [.int .u8 (x0 % 128), .bool (decide (128 ≤ x0)), .int .u8 (x1 % 128), .bool (decide (128 ≤ x1)), .int .u8 kd, .int .u8 sd, .slice s m m] := by rw [hw]; exact own_lit _ _ _ _ rfl
          have HW16 := Lib.hid hw
          have BB17 := Lib.hid (BB12.out.trans ((hb).mono BB12.out.size))
          have HP18 := Lib.hid (HP13.out.later (hb))
          have RS19 := Lib.hid (RS14.out.later (hb))
          have LA20 := Lib.hid (LA15.out.later (hb))
          have HO21 := Lib.hid (ho)
          clear hb hw ho BB12 HP13 RS14 LA15
          have hrow : Row .u8 w16 s m m ld := by have := LA20.out.row (by rw [HMm.out]; omega) HLo.out; rwa [HMm.out] at this
          have henc := encode_ok (x0 % 128) (decide (128 ≤ x0)) (x1 % 128) (decide (128 ≤ x1)) kd sd s m m N ld w16 (by omega) (by omega) hk0 hs0 hrow HCk.out HCl.out
          rw [HEn.out] at henc
          have HEnc := Lib.hid henc
          have HRow := Lib.hid hrow
          clear henc hrow
          have g2 := HC2.out _ BB17.out
          have gL := HCL.out _ BB17.out
          rw [HW16.out] at g2 gL
          go_wp2_with fail
          rw [← HW16.out]
          refine (HEnc.out).mono ?_
          clear g2 gL
          rintro e w22 ⟨⟨d, rfl, hd⟩, hb⟩
          have HBe := Lib.hid hb
          have BB23 := Lib.hid (BB17.out.trans ((hb).mono BB17.out.size))
          have HP24 := Lib.hid (HP18.out.later (hb))
          have RS25 := Lib.hid (RS19.out.later (hb))
          have LA26 := Lib.hid (LA20.out.later (hb))
          have HO27 := Lib.hid (HO21.out.later (hb))
          have HD28 := Lib.hid (hd)
          clear hb hd BB17 HP18 RS19 LA20 HO21
          obtain ⟨k0, k1, k2, k3, k4, k5, k6⟩ := unit_cells HO27.out
          go_wp2_with fail
          have hlk := lawcheck_any (x0 % 128) (decide (128 ≤ x0)) (x1 % 128) (decide (128 ≤ x1)) kd sd s m m w22 (by omega) (by omega) (by omega) (by omega) hk0 (by omega) hs0 hs1' (by omega)
          rw [HCk.out] at hlk
          refine hlk.mono ?_
          clear k0 k1 k2 k3 k4 k5 k6 hlk
          rintro e w29 ⟨rfl, hb⟩
          have HD30 := Lib.hid (ownsRow_below HD28.out hb)
          clear HD28
          have HBe2 := Lib.hid (HBe.out.trans (hb.mono HBe.out.size))
          clear HBe
          have BB31 := Lib.hid (BB23.out.trans ((hb).mono BB23.out.size))
          have HP32 := Lib.hid (HP24.out.later (hb))
          have RS33 := Lib.hid (RS25.out.later (hb))
          have LA34 := Lib.hid (LA26.out.later (hb))
          have HO35 := Lib.hid (HO27.out.later (hb))
          clear hb BB23 HP24 RS25 LA26 HO27
          have hrd : Row .u8 w29 (some ⟨d, 0, none⟩) (3 + N) (3 + N) l := by
            obtain ⟨a', c', hv, hr, _⟩ := ownsRow_rowN .u8 HD30.out RS33.out.wf
            simp only [Value.slice.injEq] at hv
            obtain ⟨rfl, _, rfl⟩ := hv
            exact hr
          have HRD := Lib.hid hrd
          clear hrd HD30
          go_wp2_with fail
          refine (bytes_yes _ _ (3 + N) (N + 3) c l _ HRD.out RS33.out).mono ?_
          rintro e w' ⟨rfl, q36, rfl⟩
          clear HRD
          have hb := below_draw w29 q36
          obtain ⟨w36, hw⟩ : ∃ x, x = (w29).drewN q36 := ⟨_, rfl⟩
          rw [← hw] at hb ⊢
          have HBe3 := Lib.hid (HBe2.out.trans (hb.mono HBe2.out.size))
          clear HBe2
          have BB37 := Lib.hid (BB31.out.trans ((hb).mono BB31.out.size))
          have HP38 := Lib.hid (HP32.out.later (hb))
          have RS39 := Lib.hid (RS33.out.later (hb))
          have LA40 := Lib.hid (LA34.out.later (hb))
          have HO41 := Lib.hid (HO35.out.later (hb))
          clear hb hw BB31 HP32 RS33 LA34 HO35
          obtain ⟨k0, k1, k2, k3, k4, k5, k6⟩ := unit_cells HO41.out
          go_wp2_with fail
          have hoc := octets_any (x0 % 128) (decide (128 ≤ x0)) (x1 % 128) (decide (128 ≤ x1)) kd sd s m m N ld w36 (by omega) (by omega) hk0 hs0 (HRow.out.later HBe3.out) HCk.out HCl.out
          rw [HEn.out] at hoc
          refine hoc.mono ?_
          clear k0 k1 k2 k3 k4 k5 k6 hoc
          rintro e w42 ⟨⟨ao, co, rfl, hro⟩, hb⟩
          have BB43 := Lib.hid (BB37.out.trans ((hb).mono BB37.out.size))
          have HP44 := Lib.hid (HP38.out.later (hb))
          have RS45 := Lib.hid (RS39.out.later (hb))
          have LA46 := Lib.hid (LA40.out.later (hb))
          have HO47 := Lib.hid (HO41.out.later (hb))
          have HQ48 := Lib.hid (hro)
          clear hb hro BB37 HP38 RS39 LA40 HO41
          go_wp2_with fail
          refine (same_any ao _ (3 + N) co (N + 3) c l l _ HQ48.out RS45.out).mono ?_
          have hdt : decide (l = l) = true := decide_eq_true rfl
          rw [hdt]
          clear hdt
          rintro e w' ⟨rfl, q49, rfl⟩
          have hb := below_draw w42 q49
          obtain ⟨w49, hw⟩ : ∃ x, x = (w42).drewN q49 := ⟨_, rfl⟩
          rw [← hw] at hb ⊢
          have BB50 := Lib.hid (BB43.out.trans ((hb).mono BB43.out.size))
          have HP51 := Lib.hid (HP44.out.later (hb))
          have RS52 := Lib.hid (RS45.out.later (hb))
          have LA53 := Lib.hid (LA46.out.later (hb))
          have HO54 := Lib.hid (HO47.out.later (hb))
          have HQ55 := Lib.hid (HQ48.out.later (hb))
          clear hb hw BB43 HP44 RS45 LA46 HO47 HQ48
          go_wp2_with fail
          refine (lives_any _ HP51.out).mono ?_
          rintro e w56 ⟨rfl, hb⟩
          have BB57 := Lib.hid (BB50.out.trans ((hb).mono BB50.out.size))
          clear hb BB50 HP51 RS52 LA53 HO54 HQ55
          go_wp2
          go_ret
          exact ⟨rfl, BB57.out⟩
      · have HNE := Lib.hid hx2M
        have tm : (x2 == M) = false := by simpa using hx2M
        clear hx2M
        go_enter Tryd.func5, Tryd.ntmps5
        go_wp2_with fail
        refine (decode_form _ (N + 3) c l w RS0.out (by omega) (by omega) (by rw [← HE2.out, show N + 3 - 3 = N by omega, ← HM.out]; exact HNE.out)).mono ?_
        rintro e w11 ⟨rfl, hb⟩
        have BB12 := Lib.hid (BB0.out.trans ((hb).mono BB0.out.size))
        have HP13 := Lib.hid (HP0.out.later (hb))
        have RS14 := Lib.hid (RS0.out.later (hb))
        clear hb BB0 HP0 RS0
        obtain ⟨w15, hw⟩ : ∃ W, W = w11.alloc (.cells #[.int .u8 0, .bool false, .int .u8 0, .bool false, .int .u8 0, .int .u8 0, .slice none 0 0] 25) := ⟨_, rfl⟩
        have hb : Below w11.heap.size w11 w15 := by rw [hw]; exact below_alloc _ _
        have ho : Own w15 w11.heap.size 25 [.int .u8 0, .bool false, .int .u8 0, .bool false, .int .u8 0, .int .u8 0, .slice none 0 0] := by rw [hw]; exact own_lit _ _ _ _ rfl
        have HW15 := Lib.hid hw
        have BB16 := Lib.hid (BB12.out.trans ((hb).mono BB12.out.size))
        have HP17 := Lib.hid (HP13.out.later (hb))
        have RS18 := Lib.hid (RS14.out.later (hb))
        clear hb hw BB12 HP13 RS14
        have g2 := HC2.out _ BB16.out
        have gL := HCL.out _ BB16.out
        rw [HW15.out] at g2 gL
        go_wp2_with fail
        rw [← HW15.out]
        clear g2 gL
        obtain ⟨k0, k1, k2, k3, k4, k5, k6⟩ := unit_cells ho
        clear ho
        refine (lawsame_any 0 false 0 false 0 0 none 0 0 [] 0 false 0 false 0 0 none 0 0 [] w15 (Row.of_nil _ _) (Row.of_nil _ _)).mono ?_
        clear k0 k1 k2 k3 k4 k5 k6
        have hdt : decide (sameU 0 false 0 false 0 0 [] 0 false 0 false 0 0 []) = true := by decide
        rw [hdt]
        clear hdt
        rintro e w19 ⟨rfl, hb⟩
        have BB20 := Lib.hid (BB16.out.trans ((hb).mono BB16.out.size))
        have HP21 := Lib.hid (HP17.out.later (hb))
        have RS22 := Lib.hid (RS18.out.later (hb))
        clear hb BB16 HP17 RS18
        go_wp2_with fail
        refine (lives_any _ HP21.out).mono ?_
        rintro e w23 ⟨rfl, hb⟩
        have BB24 := Lib.hid (BB20.out.trans ((hb).mono BB20.out.size))
        clear hb BB20 HP21 RS22
        go_wp2
        go_ret
        exact ⟨rfl, BB24.out⟩
end Go.Proofs.YtkfookiakpnlfaaDoor
