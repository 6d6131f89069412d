/- Statements of layer 9: AlignmentsProving. -/
import Derived.Test.YtgfiikbecapodaaAlProv
import Derived.Deep.RegionHeld3
import Derived.Deep.CutBlock
namespace Go.Proofs.Ytgfiikbecapodaa
open Go.RowKit

set_option maxHeartbeats 4000000 in
set_option maxRecDepth 100000 in
theorem proving_any (a0 a1 a2 a3 a4 a5 a6 : Nat) (u : Bool) (s : Option Addr) (n c : Nat) (l : List Int) (w : World) (h0 : a0 ≤ 255) (h1 : a1 ≤ 255) (h2 : a2 ≤ 255) (h3 : a3 ≤ 255) (h4 : a4 ≤ 255) (h5 : a5 ≤ 255) (h6 : a6 ≤ 255) (hr : Row .u8 w s n c l) :
    Calls Try.prog 6 #[.agg #[.int .u8 (a0 : Int), .int .u8 (a1 : Int), .int .u8 (a2 : Int), .int .u8 (a3 : Int), .int .u8 (a4 : Int), .int .u8 (a5 : Int), .int .u8 (a6 : Int)], .bool u, .slice s n c] w fun e w' => e = .returned (.bool true) ∧ Below w.heap.size w w' := by
  obtain ⟨W, hW⟩ : ∃ X, X = w.alloc (.cells #[.int .u8 (a0 : Int), .int .u8 (a1 : Int), .int .u8 (a2 : Int), .int .u8 (a3 : Int), .int .u8 (a4 : Int), .int .u8 (a5 : Int), .int .u8 (a6 : Int)] 23) := ⟨_, rfl⟩
  have hbW : Below w.heap.size w W := by rw [hW]; exact below_alloc _ _
  have oW : Own W w.heap.size 23 [.int .u8 (a0 : Int), .int .u8 (a1 : Int), .int .u8 (a2 : Int), .int .u8 (a3 : Int), .int .u8 (a4 : Int), .int .u8 (a5 : Int), .int .u8 (a6 : Int)] := by rw [hW]; exact own_new w _ _ _ rfl
  have c0 := oW.cell 0 (by simp)
  have c1 := oW.cell 1 (by simp)
  have c2 := oW.cell 2 (by simp)
  have c3 := oW.cell 3 (by simp)
  have c4 := oW.cell 4 (by simp)
  have c5 := oW.cell 5 (by simp)
  have c6 := oW.cell 6 (by simp)
  simp only [List.getD_cons_succ, List.getD_cons_zero] at c0 c1 c2 c3 c4 c5 c6
  obtain ⟨t, ht⟩ : ∃ t, t = tiOf a0 a1 a2 a3 a4 a5 a6 := ⟨_, rfl⟩
  have hlo : t.Low := by rw [ht]; exact tiOf_low ..
  have HOf := Lib.hid (of_lit a0 a1 a2 a3 a4 a5 a6 W h0 h1 h2 h3 h4 h5 h6 t ht)
  have HW := Lib.hid hW
  have HB := Lib.hid hbW
  have HLo := Lib.hid hlo
  have HLv := Lib.hid lives_any
  clear hW hbW oW ht hlo h0 h1 h2 h3 h4 h5 h6
  have HR := Lib.hid hr
  clear hr
  by_cases g1 : 40 < n
  · have g2 : (40 : Int) < (n : Int) := by omega
    clear g1 HOf HLo HR
    go_enter Try.func6, Try.ntmps6
    go_upto_region 1 with fail
    rw [← HW.out]
    go_wp2_with fail
    with_reducible refine (HLv.out W).mono ?_
    rintro e w1 ⟨rfl, hb1⟩
    have HB1 := Lib.hid (HB.out.trans (Below.mono hb1 HB.out.size))
    clear hb1 HLv
    go_wp2
    go_ret
    exact ⟨rfl, HB1.out⟩
  have g2 : ¬ (40 : Int) < (n : Int) := by omega
  have HG := Lib.hid g1
  clear g1
  go_enter Try.func6, Try.ntmps6
  go_upto_region 1 with fail
  rw [← HW.out]
  go_wp2_with fail
  with_reducible refine HOf.out.mono ?_
  rintro e w2 ⟨rfl, hb2⟩
  obtain ⟨W1, hW1⟩ : ∃ X, X = w2.alloc (.cells #[.int .i64 (t.seek : Int), .int .i64 (t.hold : Int), .int .i64 (t.normal : Int), .int .i64 (t.emer : Int), .int .i64 (t.few : Int), .int .i64 (t.fewer : Int), .int .i64 (t.most : Int)] 31) := ⟨_, rfl⟩
  obtain ⟨B, hB⟩ : ∃ B, B = w2.heap.size := ⟨_, rfl⟩
  have oB : Own W1 B 31 [.int .i64 (t.seek : Int), .int .i64 (t.hold : Int), .int .i64 (t.normal : Int), .int .i64 (t.emer : Int), .int .i64 (t.few : Int), .int .i64 (t.fewer : Int), .int .i64 (t.most : Int)] := by rw [hW1, hB]; exact own_new w2 _ _ _ rfl
  have hb1 : Below w.heap.size w W1 := by
    have h := HB.out.trans (Below.mono hb2 HB.out.size)
    rw [hW1]; exact h.alloc h.size _
  have d0 := oB.cell 0 (by simp)
  have d1 := oB.cell 1 (by simp)
  have d2 := oB.cell 2 (by simp)
  have d3 := oB.cell 3 (by simp)
  have d4 := oB.cell 4 (by simp)
  have d5 := oB.cell 5 (by simp)
  have d6 := oB.cell 6 (by simp)
  simp only [List.getD_cons_succ, List.getD_cons_zero] at d0 d1 d2 d3 d4 d5 d6
  have HW1 := Lib.hid hW1
  have HB1 := Lib.hid hb1
  have HO := Lib.hid oB
  clear hb2 HOf HW HB c0 c1 c2 c3 c4 c5 c6 g2 hW1 oB hb1
  go_upto_region 4 with fail
  rw [← HW1.out, ← hB]
  clear HW1 hB
  go_wp2_with fail
  with_reducible refine (new_lit t HLo.out.fit (Below.refl W1.heap.size W1)).mono ?_
  rintro e w3 ⟨b, rfl, _, h3, _⟩
  have H := Lib.hid h3
  clear h3
  go_wp2_with fail
  with_reducible refine (start_yes H.out u (.inl rfl)).mono ?_
  rintro e w4 ⟨rfl, h4⟩
  have p5 := Al.hear_prov ((Al.new t).start u) 0
  have q0 : ((Al.new t).start u).prov = 0 := rfl
  have HP4 := Lib.hid (show ((Al.new t).start u).prov ≤ 1000000 by omega)
  have HP5 := Lib.hid (show (((Al.new t).start u).hear 0).prov ≤ 1000000 by omega)
  clear p5 q0
  have H4 := Lib.hid h4
  clear h4 H
  go_wp2_with fail
  with_reducible refine (hear0_one H4.out HP4.out).mono ?_
  rintro e w5 ⟨rfl, h5⟩
  have H5 := Lib.hid h5
  clear h5 H4
  go_wp2_with fail
  with_reducible refine (hear1_one H5.out HP5.out).mono ?_
  rintro e w6 ⟨rfl, h6⟩
  rw [pv_start HLo.out] at h6
  have H6 := Lib.hid h6
  have HT := Lib.hid (fun W' (h : One W1 W' b (pvSt t u 0)) => HO.out.below h.bel HO.out.lt)
  have HTx := Lib.hid (fun W' (h : Below W1.heap.size W1 W') => HO.out.below h HO.out.lt)
  clear h6 H5 HP4 HP5 d0 d1 d2 d3 d4 d5 d6
  have oB6 := HT.out w6 H6.out
  have d2 := oB6.cell 2 (by simp)
  have d3 := oB6.cell 3 (by simp)
  have d4 := oB6.cell 4 (by simp)
  have d5 := oB6.cell 5 (by simp)
  simp only [List.getD_cons_succ, List.getD_cons_zero] at d2 d3 d4 d5
  obtain ⟨u0, hu0⟩ : ∃ u0, u0 = u := ⟨_, rfl⟩
  obtain ⟨L, hL⟩ : ∃ L, L = t.lim u0 := ⟨_, rfl⟩
  obtain ⟨D, hD⟩ : ∃ D, D = t.dur u0 := ⟨_, rfl⟩
  have HLD := Lib.hid (And.intro hL hD)
  clear HT oB6
  cases u
  · subst hu0
    replace d4 : w6.cell? ⟨B, 4, none⟩ = some (.int .i64 (L : Int)) := by rw [hL]; exact d4
    replace d2 : w6.cell? ⟨B, 2, none⟩ = some (.int .i64 (D : Int)) := by rw [hD]; exact d2
    clear hL hD
    go_wp2_with fail
    go_quiet (fail)
    have h7 := H6.out.drew nq
    generalize w6.drewN nq = W7 at h7 ⊢
    have H7 := Lib.hid h7
    clear h7 H6 d2 d3 d4 d5
    go_wp2_with fail
    go_loopw [12] (fun v wr => ∃ i : Nat, i ≤ t.most ∧ v = .int .i64 i ∧ One W1 wr b (pvSt t false i)) (fun v _ => t.most - (intOf v).toNat)
    case atStart => exact ⟨0, Nat.zero_le _, rfl, H7.out⟩
    case round =>
      obtain ⟨i, hi, rfl, hx⟩ := hrel
      have HX := Lib.hid hx
      have oBr := HTx.out wr hx.bel
      have d6 := oBr.cell 6 (by simp)
      simp only [List.getD_cons_succ, List.getD_cons_zero] at d6
      have hm12 := HLo.out.most
      clear hx H7 oBr
      by_cases hlt : i < t.most
      · have hki : (i : Int) < (t.most : Int) := by omega
        have i0 : (0 : Int) ≤ (i : Int) := by omega
        have hph := phase_one HX.out
        have hpv := provings_one HX.out
        have hlf := left_one HX.out
        rw [(pvSt_ph hlt).1, show ((3 : Nat) : Int) = 3 from rfl] at hph
        rw [(pvSt_ph hlt).2.1] at hpv
        rw [(pvSt_ph hlt).2.2, ← HLD.out.2] at hlf
        obtain ⟨I, hI⟩ : ∃ I, I = i + 1 := ⟨_, rfl⟩
        rw [← hI] at hpv
        have hw1 : IntKind.i64.wrap ((i : Int) + 1) = (I : Int) := by rw [IntWalk.i64_in _ (by omega)]; omega
        have HPh := Lib.hid hph
        have HPv := Lib.hid hpv
        have HLf := Lib.hid hlf
        have HI := Lib.hid (And.intro hI hlt)
        have HM12 := Lib.hid hm12
        clear hph hpv hlf hI hm12 hi hlt
        go_wp2_with fail
        with_reducible refine HPh.out.mono ?_
        rintro e w' ⟨rfl, rfl⟩
        go_wp2_with fail
        with_reducible refine HPv.out.mono ?_
        rintro e w' ⟨rfl, rfl⟩
        go_wp2_with fail
        with_reducible refine HLf.out.mono ?_
        rintro e w' ⟨rfl, rfl⟩
        clear HPh HPv HLf
        go_upto_if 74 with fail
        go_cut [13] from 49 to 115 (fun v13 wx => (∃ M : Nat, v13 = .int .i64 (M : Int) ∧ M ≤ L) ∧ w' = wx)
        case first =>
          by_cases hin : i < n
          · have hin2 : (i : Int) < (n : Int) := by omega
            obtain ⟨sb, so, rfl, hcell, ho⟩ := (HR.out.later (HB1.out.trans (Below.mono HX.out.bel HB1.out.size))).oct i hin
            obtain ⟨o, hoo⟩ : ∃ o, o = oct l i := ⟨_, rfl⟩
            rw [← hoo] at hcell ho
            have o0 : (0 : Int) ≤ (o : Int) := by omega
            have hL12 := HLo.out.lim false
            rw [← HLD.out.1] at hL12
            obtain ⟨P, hP⟩ : ∃ P, P = L + 1 := ⟨_, rfl⟩
            have e1 : IntKind.i64.wrap ((L : Int) + 1) = (P : Int) := by rw [IntWalk.i64_in _ (by omega)]; omega
            have e2 : ¬ (P : Int) = 0 := by omega
            have e3 : ((P : Int) == 0) = false := by simp; omega
            have e4 : ¬ P = 0 := by omega
            have e5 : (P == 0) = false := by simp; omega
            obtain ⟨M, hM⟩ : ∃ M, M = o % P := ⟨_, rfl⟩
            have hML : M ≤ L := by have := Nat.mod_lt o (show 0 < P by omega); omega
            have e6 : (o : Int).tmod (P : Int) = (M : Int) := by rw [Int.tmod_eq_emod_of_nonneg (by omega), hM]; exact Int.natCast_emod o P
            have e7 : (o : Int) % (P : Int) = (M : Int) := by rw [hM]; exact Int.natCast_emod o P
            have e8 : IntKind.i64.wrap (M : Int) = (M : Int) := IntWalk.i64_in _ (by omega)
            have e9 : IntKind.i64.wrap (o : Int) = (o : Int) := IntWalk.i64_in _ (by omega)
            have HM := Lib.hid hML
            clear hM hML hP hoo ho hL12 hin
            go_wp2_with fail
            go_meet
            exact ⟨⟨M, rfl, HM.out⟩, rfl⟩
          · have hin2 : ¬ (i : Int) < (n : Int) := by omega
            clear hin
            go_wp2_with fail
            go_meet
            exact ⟨⟨0, rfl, Nat.zero_le _⟩, rfl⟩
        case rest =>
          obtain ⟨⟨M, rfl, hML⟩, rfl⟩ := hcut
          have HM := Lib.hid hML
          clear hML
          go_wp2_with fail
          go_loopw [14] (fun v wr => ∃ k : Nat, k ≤ M ∧ v = .int .i64 k ∧ One W1 wr b (pvWr t false i k)) (fun v _ => M - (intOf v).toNat)
          case atStart => exact ⟨0, Nat.zero_le _, rfl, by rw [pvWr_zero HLo.out false HI.out.2]; exact HX.out⟩
          case round =>
            obtain ⟨k, hk, rfl, hx2⟩ := hrel
            have HX2 := Lib.hid hx2
            clear hx2 HX
            by_cases hkm : k < M
            · have hkm2 : (k : Int) < (M : Int) := by omega
              have hkL : k < t.lim false := by have := HM.out; have := HLD.out.1; omega
              have hc := wrong_one HX2.out (by have := pvWr_prov (u := false) (k := k) HI.out.2; have := HLo.out.most.2; omega)
              rw [pvWr_step HI.out.2 hkL] at hc
              obtain ⟨K, hK⟩ : ∃ K, K = k + 1 := ⟨_, rfl⟩
              have hM12 := HM.out
              have hL12 := HLo.out.lim false
              rw [← HLD.out.1] at hL12
              have hwk : IntKind.i64.wrap ((k : Int) + 1) = (K : Int) := by rw [IntWalk.i64_in _ (by omega)]; omega
              rw [← hK] at hc
              have HC := Lib.hid hc
              have HK := Lib.hid (And.intro hK hkm)
              clear hc hK hkm hkL hk hM12 hL12
              go_wp2_with fail
              with_reducible refine HC.out.mono ?_
              rintro e w8 ⟨rfl, h8⟩
              have H8 := Lib.hid h8
              clear h8 HC
              go_wp2_with fail
              exact ⟨⟨K, by have := HK.out; omega, by rfl, H8.out⟩, by simp only [intOf]; have := HK.out; omega⟩
            · obtain rfl : k = M := by omega
              have hkm2 : ¬ (k : Int) < (k : Int) := by omega
              clear hkm hk
              by_cases hkL : k < L
              · have hkL2 : (k : Int) < (L : Int) := by omega
                have HKL := Lib.hid hkL
                clear hkL
                go_wp2_with fail
                obtain ⟨wb, rfl⟩ : ∃ x, x = wr := ⟨_, rfl⟩
                go_loopw [15] (fun v wr => ∃ j : Nat, j ≤ D ∧ v = .int .i64 j ∧ One W1 wr b (pvTk t false i k j)) (fun v _ => D - (intOf v).toNat)
                case atStart => exact ⟨0, Nat.zero_le _, rfl, by rw [pvTk_zero HLo.out false (by rw [← HLD.out.1]; exact HKL.out)]; exact HX2.out⟩
                case round =>
                  obtain ⟨j, hj, rfl, hx3⟩ := hrel
                  have HX3 := Lib.hid hx3
                  clear hx3 HX2
                  by_cases hjd : j < D
                  · have hjd2 : (j : Int) < (D : Int) := by omega
                    have hjd3 : j < t.dur false := by rw [← HLD.out.2]; exact hjd
                    have hph := phase_one HX3.out
                    rw [pvTk_ph hjd3, show ((3 : Nat) : Int) = 3 from rfl] at hph
                    have htk := tick_one HX3.out
                    rw [pvTk_step hjd3] at htk
                    obtain ⟨J, hJ⟩ : ∃ J, J = j + 1 := ⟨_, rfl⟩
                    have hD12 := HLo.out.dur false
                    rw [← HLD.out.2] at hD12
                    have hwj : IntKind.i64.wrap ((j : Int) + 1) = (J : Int) := by rw [IntWalk.i64_in _ (by omega)]; omega
                    rw [← hJ] at htk
                    have HPh := Lib.hid hph
                    have HTk := Lib.hid htk
                    have HJ := Lib.hid (And.intro hJ hjd)
                    clear hph htk hJ hjd hjd3 hj hD12
                    go_wp2_with fail
                    with_reducible refine HPh.out.mono ?_
                    rintro e w' ⟨rfl, rfl⟩
                    go_wp2_with fail
                    with_reducible refine HTk.out.mono ?_
                    rintro e w9 ⟨rfl, h9⟩
                    have H9 := Lib.hid h9
                    clear h9 HTk HPh
                    go_wp2_with fail
                    exact ⟨⟨J, by have := HJ.out; omega, by rfl, H9.out⟩, by simp only [intOf]; have := HJ.out; omega⟩
                  · obtain rfl : j = D := by omega
                    have hjd2 : ¬ (j : Int) < (j : Int) := by omega
                    have hph := phase_one HX3.out
                    have hpv := provings_one HX3.out
                    rw [HLD.out.2, (pvTk_end t false i k).1, show ((4 : Nat) : Int) = 4 from rfl] at hph
                    rw [HLD.out.2, (pvTk_end t false i k).2, ← HI.out.1] at hpv
                    have HPh := Lib.hid hph
                    have HPv := Lib.hid hpv
                    clear hph hpv hjd hj
                    go_wp2_with fail
                    with_reducible refine HPh.out.mono ?_
                    rintro e w' ⟨rfl, rfl⟩
                    go_wp2_with fail
                    with_reducible refine HPv.out.mono ?_
                    rintro e w' ⟨rfl, rfl⟩
                    go_wp2_with fail
                    with_reducible refine (HLv.out _).mono ?_
                    rintro e w10 ⟨rfl, hb10⟩
                    have HB10 := Lib.hid ((HB1.out.trans (Below.mono HX3.out.bel HB1.out.size)).trans (Below.mono hb10 (HB1.out.trans (Below.mono HX3.out.bel HB1.out.size)).size))
                    clear hb10 HLv
                    go_wp2
                    go_ret
                    exact ⟨rfl, HB10.out⟩
              · have hkL2 : ¬ (k : Int) < (L : Int) := by omega
                have H9 := HX2.out
                rw [show pvWr t false i k = pvSt t false (i + 1) by unfold pvWr; rw [if_neg (by rw [← HLD.out.1]; exact hkL)], ← HI.out.1] at H9
                have H9 := Lib.hid H9
                clear hkL HX2
                go_wp2_with fail
                exact ⟨⟨I, by have := HI.out; omega, by rfl, H9.out⟩, by simp only [intOf]; have := HI.out; omega⟩
      · obtain rfl : i = t.most := by omega
        have hki : ¬ (t.most : Int) < (t.most : Int) := by omega
        have hph := fun W (h : One W1 W b (pvSt t false t.most)) => phase_one h
        have hpv := fun W (h : One W1 W b (pvSt t false t.most)) => provings_one h
        rw [(pvSt_end t false).1, show ((5 : Nat) : Int) = 5 from rfl] at hph
        rw [(pvSt_end t false).2] at hpv
        have HPh := Lib.hid hph
        have HPv := Lib.hid hpv
        have hS : ∀ W, One W1 W b (pvSt t false t.most) → One W1 W b (pvSt t false t.most) ∧ W.cell? ⟨B, 6, none⟩ = some (.int .i64 (t.most : Int)) := fun W h => ⟨h, by
          have := (HTx.out W h.bel).cell 6 (by simp)
          simp only [List.getD_cons_succ, List.getD_cons_zero] at this
          exact this⟩
        have HS := Lib.hid hS
        clear hph hpv hS hm12 hi hlt
        go_wp2_with fail
        clear d6
        go_region_held3 (fun W => One W1 W b (pvSt t false t.most) ∧ W.cell? ⟨B, 6, none⟩ = some (.int .i64 (t.most : Int))) (first | assumption | exact HS.out _ HX.out | exact HS.out _ (One.drew HX.out _) | exact HS.out _ (One.drew (And.left (by assumption)) _))
          (first
            | (go_at_call 14; ((with_reducible refine (HPh.out _ (And.left (by assumption))).mono ?_); rintro e w11 ⟨rfl, rfl⟩))
            | (go_at_call 16; ((with_reducible refine (HPv.out _ (And.left (by assumption))).mono ?_); rintro e w12 ⟨rfl, rfl⟩))
            | (go_at_call 9; ((with_reducible refine (HLv.out _).mono ?_); rintro e w13 ⟨rfl, hb13⟩); have h13 := HS.out _ (One.more (And.left (by assumption)) hb13); have H13 := Lib.hid h13; clear hb13)
            | fail)
        have HB13 := Lib.hid (HB1.out.trans (Below.mono H13.out.1.bel HB1.out.size))
        clear h13 H13 HS HPh HPv HX
        go_wp2
        go_ret
        exact ⟨rfl, HB13.out⟩
  · subst hu0
    replace d5 : w6.cell? ⟨B, 5, none⟩ = some (.int .i64 (L : Int)) := by rw [hL]; exact d5
    replace d3 : w6.cell? ⟨B, 3, none⟩ = some (.int .i64 (D : Int)) := by rw [hD]; exact d3
    clear hL hD
    go_wp2_with fail
    go_quiet (fail)
    have g7 := H6.out.drew nq
    have e5 : (w6.drewN nq).cell? ⟨B, 5, none⟩ = some (.int .i64 (L : Int)) := d5
    have e3 : (w6.drewN nq).cell? ⟨B, 3, none⟩ = some (.int .i64 (D : Int)) := d3
    generalize w6.drewN nq = W6 at g7 e5 e3 ⊢
    have G7 := Lib.hid g7
    clear g7 H6 d2 d3 d4 d5
    go_wp2_with fail
    go_quiet (fail)
    have h7 := G7.out.drew nq
    generalize W6.drewN nq = W7 at h7 ⊢
    have H7 := Lib.hid h7
    clear h7 G7 e3 e5
    go_wp2_with fail
    go_loopw [12] (fun v wr => ∃ i : Nat, i ≤ t.most ∧ v = .int .i64 i ∧ One W1 wr b (pvSt t true i)) (fun v _ => t.most - (intOf v).toNat)
    case atStart => exact ⟨0, Nat.zero_le _, rfl, H7.out⟩
    case round =>
      obtain ⟨i, hi, rfl, hx⟩ := hrel
      have HX := Lib.hid hx
      have oBr := HTx.out wr hx.bel
      have d6 := oBr.cell 6 (by simp)
      simp only [List.getD_cons_succ, List.getD_cons_zero] at d6
      have hm12 := HLo.out.most
      clear hx H7 oBr
      by_cases hlt : i < t.most
      · have hki : (i : Int) < (t.most : Int) := by omega
        have i0 : (0 : Int) ≤ (i : Int) := by omega
        have hph := phase_one HX.out
        have hpv := provings_one HX.out
        have hlf := left_one HX.out
        rw [(pvSt_ph hlt).1, show ((3 : Nat) : Int) = 3 from rfl] at hph
        rw [(pvSt_ph hlt).2.1] at hpv
        rw [(pvSt_ph hlt).2.2, ← HLD.out.2] at hlf
        obtain ⟨I, hI⟩ : ∃ I, I = i + 1 := ⟨_, rfl⟩
        rw [← hI] at hpv
        have hw1 : IntKind.i64.wrap ((i : Int) + 1) = (I : Int) := by rw [IntWalk.i64_in _ (by omega)]; omega
        have HPh := Lib.hid hph
        have HPv := Lib.hid hpv
        have HLf := Lib.hid hlf
        have HI := Lib.hid (And.intro hI hlt)
        have HM12 := Lib.hid hm12
        clear hph hpv hlf hI hm12 hi hlt
        go_wp2_with fail
        with_reducible refine HPh.out.mono ?_
        rintro e w' ⟨rfl, rfl⟩
        go_wp2_with fail
        with_reducible refine HPv.out.mono ?_
        rintro e w' ⟨rfl, rfl⟩
        go_wp2_with fail
        with_reducible refine HLf.out.mono ?_
        rintro e w' ⟨rfl, rfl⟩
        clear HPh HPv HLf
        go_upto_if 74 with fail
        go_cut [13] from 49 to 115 (fun v13 wx => (∃ M : Nat, v13 = .int .i64 (M : Int) ∧ M ≤ L) ∧ w' = wx)
        case first =>
          by_cases hin : i < n
          · have hin2 : (i : Int) < (n : Int) := by omega
            obtain ⟨sb, so, rfl, hcell, ho⟩ := (HR.out.later (HB1.out.trans (Below.mono HX.out.bel HB1.out.size))).oct i hin
            obtain ⟨o, hoo⟩ : ∃ o, o = oct l i := ⟨_, rfl⟩
            rw [← hoo] at hcell ho
            have o0 : (0 : Int) ≤ (o : Int) := by omega
            have hL12 := HLo.out.lim true
            rw [← HLD.out.1] at hL12
            obtain ⟨P, hP⟩ : ∃ P, P = L + 1 := ⟨_, rfl⟩
            have e1 : IntKind.i64.wrap ((L : Int) + 1) = (P : Int) := by rw [IntWalk.i64_in _ (by omega)]; omega
            have e2 : ¬ (P : Int) = 0 := by omega
            have e3 : ((P : Int) == 0) = false := by simp; omega
            have e4 : ¬ P = 0 := by omega
            have e5 : (P == 0) = false := by simp; omega
            obtain ⟨M, hM⟩ : ∃ M, M = o % P := ⟨_, rfl⟩
            have hML : M ≤ L := by have := Nat.mod_lt o (show 0 < P by omega); omega
            have e6 : (o : Int).tmod (P : Int) = (M : Int) := by rw [Int.tmod_eq_emod_of_nonneg (by omega), hM]; exact Int.natCast_emod o P
            have e7 : (o : Int) % (P : Int) = (M : Int) := by rw [hM]; exact Int.natCast_emod o P
            have e8 : IntKind.i64.wrap (M : Int) = (M : Int) := IntWalk.i64_in _ (by omega)
            have e9 : IntKind.i64.wrap (o : Int) = (o : Int) := IntWalk.i64_in _ (by omega)
            have HM := Lib.hid hML
            clear hM hML hP hoo ho hL12 hin
            go_wp2_with fail
            go_meet
            exact ⟨⟨M, rfl, HM.out⟩, rfl⟩
          · have hin2 : ¬ (i : Int) < (n : Int) := by omega
            clear hin
            go_wp2_with fail
            go_meet
            exact ⟨⟨0, rfl, Nat.zero_le _⟩, rfl⟩
        case rest =>
          obtain ⟨⟨M, rfl, hML⟩, rfl⟩ := hcut
          have HM := Lib.hid hML
          clear hML
          go_wp2_with fail
          go_loopw [14] (fun v wr => ∃ k : Nat, k ≤ M ∧ v = .int .i64 k ∧ One W1 wr b (pvWr t true i k)) (fun v _ => M - (intOf v).toNat)
          case atStart => exact ⟨0, Nat.zero_le _, rfl, by rw [pvWr_zero HLo.out true HI.out.2]; exact HX.out⟩
          case round =>
            obtain ⟨k, hk, rfl, hx2⟩ := hrel
            have HX2 := Lib.hid hx2
            clear hx2 HX
            by_cases hkm : k < M
            · have hkm2 : (k : Int) < (M : Int) := by omega
              have hkL : k < t.lim true := by have := HM.out; have := HLD.out.1; omega
              have hc := wrong_one HX2.out (by have := pvWr_prov (u := true) (k := k) HI.out.2; have := HLo.out.most.2; omega)
              rw [pvWr_step HI.out.2 hkL] at hc
              obtain ⟨K, hK⟩ : ∃ K, K = k + 1 := ⟨_, rfl⟩
              have hM12 := HM.out
              have hL12 := HLo.out.lim true
              rw [← HLD.out.1] at hL12
              have hwk : IntKind.i64.wrap ((k : Int) + 1) = (K : Int) := by rw [IntWalk.i64_in _ (by omega)]; omega
              rw [← hK] at hc
              have HC := Lib.hid hc
              have HK := Lib.hid (And.intro hK hkm)
              clear hc hK hkm hkL hk hM12 hL12
              go_wp2_with fail
              with_reducible refine HC.out.mono ?_
              rintro e w8 ⟨rfl, h8⟩
              have H8 := Lib.hid h8
              clear h8 HC
              go_wp2_with fail
              exact ⟨⟨K, by have := HK.out; omega, by rfl, H8.out⟩, by simp only [intOf]; have := HK.out; omega⟩
            · obtain rfl : k = M := by omega
              have hkm2 : ¬ (k : Int) < (k : Int) := by omega
              clear hkm hk
              by_cases hkL : k < L
              · have hkL2 : (k : Int) < (L : Int) := by omega
                have HKL := Lib.hid hkL
                clear hkL
                go_wp2_with fail
                obtain ⟨wb, rfl⟩ : ∃ x, x = wr := ⟨_, rfl⟩
                go_loopw [15] (fun v wr => ∃ j : Nat, j ≤ D ∧ v = .int .i64 j ∧ One W1 wr b (pvTk t true i k j)) (fun v _ => D - (intOf v).toNat)
                case atStart => exact ⟨0, Nat.zero_le _, rfl, by rw [pvTk_zero HLo.out true (by rw [← HLD.out.1]; exact HKL.out)]; exact HX2.out⟩
                case round =>
                  obtain ⟨j, hj, rfl, hx3⟩ := hrel
                  have HX3 := Lib.hid hx3
                  clear hx3 HX2
                  by_cases hjd : j < D
                  · have hjd2 : (j : Int) < (D : Int) := by omega
                    have hjd3 : j < t.dur true := by rw [← HLD.out.2]; exact hjd
                    have hph := phase_one HX3.out
                    rw [pvTk_ph hjd3, show ((3 : Nat) : Int) = 3 from rfl] at hph
                    have htk := tick_one HX3.out
                    rw [pvTk_step hjd3] at htk
                    obtain ⟨J, hJ⟩ : ∃ J, J = j + 1 := ⟨_, rfl⟩
                    have hD12 := HLo.out.dur true
                    rw [← HLD.out.2] at hD12
                    have hwj : IntKind.i64.wrap ((j : Int) + 1) = (J : Int) := by rw [IntWalk.i64_in _ (by omega)]; omega
                    rw [← hJ] at htk
                    have HPh := Lib.hid hph
                    have HTk := Lib.hid htk
                    have HJ := Lib.hid (And.intro hJ hjd)
                    clear hph htk hJ hjd hjd3 hj hD12
                    go_wp2_with fail
                    with_reducible refine HPh.out.mono ?_
                    rintro e w' ⟨rfl, rfl⟩
                    go_wp2_with fail
                    with_reducible refine HTk.out.mono ?_
                    rintro e w9 ⟨rfl, h9⟩
                    have H9 := Lib.hid h9
                    clear h9 HTk HPh
                    go_wp2_with fail
                    exact ⟨⟨J, by have := HJ.out; omega, by rfl, H9.out⟩, by simp only [intOf]; have := HJ.out; omega⟩
                  · obtain rfl : j = D := by omega
                    have hjd2 : ¬ (j : Int) < (j : Int) := by omega
                    have hph := phase_one HX3.out
                    have hpv := provings_one HX3.out
                    rw [HLD.out.2, (pvTk_end t true i k).1, show ((4 : Nat) : Int) = 4 from rfl] at hph
                    rw [HLD.out.2, (pvTk_end t true i k).2, ← HI.out.1] at hpv
                    have HPh := Lib.hid hph
                    have HPv := Lib.hid hpv
                    clear hph hpv hjd hj
                    go_wp2_with fail
                    with_reducible refine HPh.out.mono ?_
                    rintro e w' ⟨rfl, rfl⟩
                    go_wp2_with fail
                    with_reducible refine HPv.out.mono ?_
                    rintro e w' ⟨rfl, rfl⟩
                    go_wp2_with fail
                    with_reducible refine (HLv.out _).mono ?_
                    rintro e w10 ⟨rfl, hb10⟩
                    have HB10 := Lib.hid ((HB1.out.trans (Below.mono HX3.out.bel HB1.out.size)).trans (Below.mono hb10 (HB1.out.trans (Below.mono HX3.out.bel HB1.out.size)).size))
                    clear hb10 HLv
                    go_wp2
                    go_ret
                    exact ⟨rfl, HB10.out⟩
              · have hkL2 : ¬ (k : Int) < (L : Int) := by omega
                have H9 := HX2.out
                rw [show pvWr t true i k = pvSt t true (i + 1) by unfold pvWr; rw [if_neg (by rw [← HLD.out.1]; exact hkL)], ← HI.out.1] at H9
                have H9 := Lib.hid H9
                clear hkL HX2
                go_wp2_with fail
                exact ⟨⟨I, by have := HI.out; omega, by rfl, H9.out⟩, by simp only [intOf]; have := HI.out; omega⟩
      · obtain rfl : i = t.most := by omega
        have hki : ¬ (t.most : Int) < (t.most : Int) := by omega
        have hph := fun W (h : One W1 W b (pvSt t true t.most)) => phase_one h
        have hpv := fun W (h : One W1 W b (pvSt t true t.most)) => provings_one h
        rw [(pvSt_end t true).1, show ((5 : Nat) : Int) = 5 from rfl] at hph
        rw [(pvSt_end t true).2] at hpv
        have HPh := Lib.hid hph
        have HPv := Lib.hid hpv
        have hS : ∀ W, One W1 W b (pvSt t true t.most) → One W1 W b (pvSt t true t.most) ∧ W.cell? ⟨B, 6, none⟩ = some (.int .i64 (t.most : Int)) := fun W h => ⟨h, by
          have := (HTx.out W h.bel).cell 6 (by simp)
          simp only [List.getD_cons_succ, List.getD_cons_zero] at this
          exact this⟩
        have HS := Lib.hid hS
        clear hph hpv hS hm12 hi hlt
        go_wp2_with fail
        clear d6
        go_region_held3 (fun W => One W1 W b (pvSt t true t.most) ∧ W.cell? ⟨B, 6, none⟩ = some (.int .i64 (t.most : Int))) (first | assumption | exact HS.out _ HX.out | exact HS.out _ (One.drew HX.out _) | exact HS.out _ (One.drew (And.left (by assumption)) _))
          (first
            | (go_at_call 14; ((with_reducible refine (HPh.out _ (And.left (by assumption))).mono ?_); rintro e w11 ⟨rfl, rfl⟩))
            | (go_at_call 16; ((with_reducible refine (HPv.out _ (And.left (by assumption))).mono ?_); rintro e w12 ⟨rfl, rfl⟩))
            | (go_at_call 9; ((with_reducible refine (HLv.out _).mono ?_); rintro e w13 ⟨rfl, hb13⟩); have h13 := HS.out _ (One.more (And.left (by assumption)) hb13); have H13 := Lib.hid h13; clear hb13)
            | fail)
        have HB13 := Lib.hid (HB1.out.trans (Below.mono H13.out.1.bel HB1.out.size))
        clear h13 H13 HS HPh HPv HX
        go_wp2
        go_ret
        exact ⟨rfl, HB13.out⟩
end Go.Proofs.Ytgfiikbecapodaa
