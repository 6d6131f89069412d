/- Statements of layer 9: AlignmentsFinal. -/
import Derived.Test.YtgfiikbecapodaaAlWalk
namespace Go.Proofs.Ytgfiikbecapodaa
open Go.RowKit

set_option maxHeartbeats 4000000 in
set_option maxRecDepth 100000 in
theorem final_any (a0 a1 a2 a3 a4 a5 a6 : Nat) (s : Option Addr) (n c : Nat) (l : List Int) (s2 : Option Addr) (n2 k2 : Nat) (l2 : List Int) (w : World) (h0 : a0 ≤ 255) (h1 : a1 ≤ 255) (h2 : a2 ≤ 255) (h3 : a3 ≤ 255) (h4 : a4 ≤ 255) (h5 : a5 ≤ 255) (h6 : a6 ≤ 255) (hr : Row .u8 w s n c l) (hr2 : Row .u8 w s2 n2 k2 l2) :
    Calls Try.prog 7 #[.agg #[.int .u8 (a0 : Int), .int .u8 (a1 : Int), .int .u8 (a2 : Int), .int .u8 (a3 : Int), .int .u8 (a4 : Int), .int .u8 (a5 : Int), .int .u8 (a6 : Int)], .slice s n c, .slice s2 n2 k2] w fun e w' => e = .returned (.bool true) ∧ Below w.heap.size w w' := by
  obtain ⟨W, hW⟩ : ∃ X, X = w.alloc (.cells #[.int .u8 (a0 : Int), .int .u8 (a1 : Int), .int .u8 (a2 : Int), .int .u8 (a3 : Int), .int .u8 (a4 : Int), .int .u8 (a5 : Int), .int .u8 (a6 : Int)] 23) := ⟨_, rfl⟩
  have hbW : Below w.heap.size w W := by rw [hW]; exact below_alloc _ _
  have oW : Own W w.heap.size 23 [.int .u8 (a0 : Int), .int .u8 (a1 : Int), .int .u8 (a2 : Int), .int .u8 (a3 : Int), .int .u8 (a4 : Int), .int .u8 (a5 : Int), .int .u8 (a6 : Int)] := by rw [hW]; exact own_new w _ _ _ rfl
  have c0 := oW.cell 0 (by simp)
  have c1 := oW.cell 1 (by simp)
  have c2 := oW.cell 2 (by simp)
  have c3 := oW.cell 3 (by simp)
  have c4 := oW.cell 4 (by simp)
  have c5 := oW.cell 5 (by simp)
  have c6 := oW.cell 6 (by simp)
  simp only [List.getD_cons_succ, List.getD_cons_zero] at c0 c1 c2 c3 c4 c5 c6
  obtain ⟨t, ht⟩ : ∃ t, t = tiOf a0 a1 a2 a3 a4 a5 a6 := ⟨_, rfl⟩
  have hlo : t.Low := by rw [ht]; exact tiOf_low ..
  have HOf := Lib.hid (of_lit a0 a1 a2 a3 a4 a5 a6 W h0 h1 h2 h3 h4 h5 h6 t ht)
  have HW := Lib.hid hW
  have HB := Lib.hid hbW
  have HLo := Lib.hid hlo
  have HLv := Lib.hid lives_any
  clear hW hbW oW ht hlo h0 h1 h2 h3 h4 h5 h6
  have HR := Lib.hid hr
  have HR2 := Lib.hid hr2
  clear hr hr2
  by_cases g1 : 100 < n
  · have g2 : (100 : Int) < (n : Int) := by omega
    clear g1 HOf HLo HR HR2
    go_enter Try.func7, Try.ntmps7
    go_upto_region 1 with fail
    rw [← HW.out]
    go_wp2_with fail
    with_reducible refine (HLv.out W).mono ?_
    rintro e w1 ⟨rfl, hb1⟩
    have HB1 := Lib.hid (HB.out.trans (Below.mono hb1 HB.out.size))
    clear hb1 HLv
    go_wp2
    go_ret
    exact ⟨rfl, HB1.out⟩
  have g2 : ¬ (100 : Int) < (n : Int) := by omega
  by_cases g3 : 40 < n2
  · have g4 : (40 : Int) < (n2 : Int) := by omega
    clear g1 g3 HOf HLo HR HR2
    go_enter Try.func7, Try.ntmps7
    go_upto_region 1 with fail
    rw [← HW.out]
    go_wp2_with fail
    with_reducible refine (HLv.out W).mono ?_
    rintro e w1 ⟨rfl, hb1⟩
    have HB1 := Lib.hid (HB.out.trans (Below.mono hb1 HB.out.size))
    clear hb1 HLv
    go_wp2
    go_ret
    exact ⟨rfl, HB1.out⟩
  have g4 : ¬ (40 : Int) < (n2 : Int) := by omega
  have HG := Lib.hid (And.intro g1 g3)
  clear g1 g3
  go_enter Try.func7, Try.ntmps7
  go_upto_region 1 with fail
  rw [← HW.out]
  go_wp2_with fail
  with_reducible refine HOf.out.mono ?_
  rintro e w2 ⟨rfl, hb2⟩
  have HB2 := Lib.hid (HB.out.trans (Below.mono hb2 HB.out.size))
  clear hb2 HOf HW HB c0 c1 c2 c3 c4 c5 c6 g2 g4
  go_wp2_with fail
  with_reducible refine (new_lit t HLo.out.fit HB2.out).mono ?_
  rintro e w3 ⟨b, rfl, _, h3, _⟩
  have H := Lib.hid h3
  clear h3 HB2
  go_wp2_with fail
  go_loopw [9] (fun i wr => ∃ k : Nat, k ≤ n ∧ i = .int .i64 k ∧ ∃ x, One w wr b x ∧ x.prov ≤ k) (fun i _ => n - (intOf i).toNat)
  case atStart => exact ⟨0, Nat.zero_le _, rfl, Al.new t, H.out, Nat.le_refl _⟩
  case round =>
    obtain ⟨k, hk, rfl, x, hx, hp⟩ := hrel
    have HX := Lib.hid (And.intro hx hp)
    clear hx hp H
    by_cases hlt : k < n
    · have hki : (k : Int) < (n : Int) := by omega
      have k0 : (0 : Int) ≤ (k : Int) := by omega
      obtain ⟨sb, so, rfl, hcell, ho⟩ := (HR.out.later HX.out.1.bel).oct k hlt
      obtain ⟨a, ha⟩ : ∃ a, a = oct l k := ⟨_, rfl⟩
      rw [← ha] at hcell ho
      have HC := Lib.hid (perform_one HX.out.1 a (by have := HX.out.2; have := HG.out.1; omega) ho)
      have hw1 : IntKind.i64.wrap ((k : Int) + 1) = ((k + 1 : Nat) : Int) := by have := HG.out.1; rw [IntWalk.i64_in _ (by omega)]; omega
      obtain ⟨K, hK⟩ : ∃ K, K = k + 1 := ⟨_, rfl⟩
      rw [← hK] at hw1
      have HK := Lib.hid (And.intro hK hlt)
      clear ha ho hK hk hlt
      go_wp2_with fail
      with_reducible refine HC.out.mono ?_
      rintro e w4 ⟨rfl, h4⟩
      have H4 := Lib.hid h4
      clear h4 HC
      go_wp2_with fail
      refine ⟨⟨K, by have := HK.out; omega, by rfl, _, H4.out, ?_⟩, by simp only [intOf]; have := HK.out; omega⟩
      have := Al.act_prov x a
      have := HX.out.2
      have := HK.out.1
      omega
    · obtain rfl : k = n := by omega
      have hki : ¬ (k : Int) < (k : Int) := by omega
      clear hlt hk
      go_wp2_with fail
      with_reducible refine (phase_one HX.out.1).mono ?_
      rintro e w' ⟨rfl, rfl⟩
      have hph := HX.out.1.fit.ph
      obtain ⟨p, hpp⟩ : ∃ p, p = x.ph := ⟨_, rfl⟩
      rw [← hpp] at hph ⊢
      by_cases hres : p = 0 ∨ p = 4 ∨ p = 5
      · have HRe := Lib.hid (show x.Rest by unfold Al.Rest; rw [← hpp]; exact hres)
        have HPv := Lib.hid (provings_one HX.out.1)
        have HPp := Lib.hid hpp
        obtain ⟨pv, hpv⟩ : ∃ pv, pv = x.prov := ⟨_, rfl⟩
        rw [← hpv] at HPv
        have HQ := Lib.hid hpv
        have hl0 : x.left = 0 := HX.out.1.fit.some.2 HRe.out
        have HL0 := Lib.hid hl0
        clear hph hpp hpv hki hl0
        rcases hres with rfl | rfl | rfl
        all_goals
          go_wp2_with fail
          with_reducible refine HPv.out.mono ?_
          rintro e w' ⟨rfl, rfl⟩
          clear HPv
          go_wp2_with fail
          go_loopw [12] (fun i wr => ∃ k : Nat, k ≤ n2 ∧ i = .int .i64 k ∧ One w wr b x) (fun i _ => n2 - (intOf i).toNat)
          case atStart => exact ⟨0, Nat.zero_le _, rfl, HX.out.1⟩
          case round =>
            obtain ⟨k, hk, rfl, hx⟩ := hrel
            have HX2 := Lib.hid hx
            have HPr := Lib.hid HX.out.2
            clear hx HX
            by_cases hlt : k < n2
            · have hki : (k : Int) < (n2 : Int) := by omega
              have k0 : (0 : Int) ≤ (k : Int) := by omega
              obtain ⟨sb, so, rfl, hcell, ho⟩ := (HR2.out.later HX2.out.bel).oct k hlt
              obtain ⟨o, hoo⟩ : ∃ o, o = oct l2 k := ⟨_, rfl⟩
              rw [← hoo] at hcell ho
              obtain ⟨R, hR⟩ : ∃ R, R = o % 11 := ⟨_, rfl⟩
              have e1 : (o : Int) % 11 = (R : Int) := by omega
              have e2 : IntKind.u8.wrap (3 + (R : Int)) = ((R + 3 : Nat) : Int) := by rw [IntWalk.u8_in _ (by omega)]; omega
              have hRl : R + 3 ≤ 255 := by omega
              have hc := perform_one HX2.out (R + 3) (by have := HPr.out; have := HG.out.1; omega) hRl
              rw [Al.rest_act HRe.out HX2.out.fit (R + 3) (by omega)] at hc
              have o0 : (0 : Int) ≤ (o : Int) := by omega
              have hw1 : IntKind.i64.wrap ((k : Int) + 1) = ((k + 1 : Nat) : Int) := by have := HG.out.2; rw [IntWalk.i64_in _ (by omega)]; omega
              obtain ⟨K, hK⟩ : ∃ K, K = k + 1 := ⟨_, rfl⟩
              rw [← hK] at hw1
              have HK := Lib.hid (And.intro hK hlt)
              obtain ⟨A, hA⟩ : ∃ A, A = R + 3 := ⟨_, rfl⟩
              rw [← hA] at hc e2
              obtain ⟨E, hE⟩ : ∃ E, E = x.err A := ⟨_, rfl⟩
              rw [← hE] at hc
              have HC := Lib.hid hc
              clear hoo ho hR hRl hc hK hk hlt hA hE
              go_wp2_with fail
              with_reducible refine HC.out.mono ?_
              rintro e w4 ⟨rfl, h4⟩
              have hph := phase_one h4
              have hlf := left_one h4
              have hpv := provings_one h4
              rw [← HPp.out] at hph
              rw [HL0.out] at hlf
              rw [← HQ.out] at hpv
              have H4 := Lib.hid h4
              have HPh := Lib.hid hph
              have HLf := Lib.hid hlf
              have HPv := Lib.hid hpv
              clear h4 HC e1 e2 hph hlf hpv
              go_wp2_with fail
              with_reducible refine HPh.out.mono ?_
              rintro e w' ⟨rfl, rfl⟩
              go_wp2_with fail
              with_reducible refine HLf.out.mono ?_
              rintro e w' ⟨rfl, rfl⟩
              go_wp2_with fail
              with_reducible refine HPv.out.mono ?_
              rintro e w' ⟨rfl, rfl⟩
              go_wp2_with fail
              exact ⟨⟨K, by have := HK.out; omega, by rfl, H4.out⟩, by simp only [intOf]; have := HK.out; omega⟩
            · obtain rfl : k = n2 := by omega
              have hki : ¬ (k : Int) < (k : Int) := by omega
              clear hlt hk
              go_wp2_with fail
              with_reducible refine (HLv.out _).mono ?_
              rintro e w5 ⟨rfl, hb5⟩
              have HB5 := Lib.hid (HX2.out.bel.trans (Below.mono hb5 HX2.out.bel.size))
              clear hb5 HLv
              go_wp2
              go_ret
              exact ⟨rfl, HB5.out⟩
      · have q4 : ¬ (p : Int) = 4 := by omega
        have q0 : ¬ (p : Int) = 0 := by omega
        have q5 : ¬ (p : Int) = 5 := by omega
        have r4 : ((p : Int) != 4) = true := by simp; omega
        have r0 : ((p : Int) != 0) = true := by simp; omega
        have r5 : ((p : Int) != 5) = true := by simp; omega
        clear hph hpp hki hres
        go_wp2_with fail
        with_reducible refine (HLv.out _).mono ?_
        rintro e w5 ⟨rfl, hb5⟩
        have HB5 := Lib.hid (HX.out.1.bel.trans (Below.mono hb5 HX.out.1.bel.size))
        clear hb5 HLv q4 q0 q5 r4 r0 r5
        go_wp2
        go_ret
        exact ⟨rfl, HB5.out⟩
end Go.Proofs.Ytgfiikbecapodaa
