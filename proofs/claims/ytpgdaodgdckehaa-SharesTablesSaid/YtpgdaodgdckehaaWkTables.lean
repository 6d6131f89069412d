/- SharesTables: the walk. -/
import Derived.Test.YtpgdaodgdckehaaShLives
namespace Go.Proofs.Ytpgdaodgdckehaa
open Go.RowKit

theorem plOut_of {v : Int} (h : v = -1 ∨ 0 ≤ v) : (PlOut v = .returned (.tuple #[.int .i64 0, .bool false]) ∧ v = -1) ∨ PlOut v = .returned (.tuple #[.int .i64 v, .bool true]) := by
  rcases h with rfl | h
  · exact .inl ⟨plOut_no, rfl⟩
  · refine .inr ?_
    unfold PlOut
    rw [show max v 0 = v by omega, decide_eq_true h]
set_option maxHeartbeats 4000000 in
set_option maxRecDepth 100000 in
theorem tables_walk (a : Option Addr) (n c : Nat) (R : List (Int × Int)) (a' : Option Addr) (n' c' : Nat) (S : List Int) (a2 : Option Addr) (n2 c2 : Nat) (Z : List (Int × Int × Int)) (a3 : Option Addr) (n3 c3 : Nat) (U : List Bool) (w : World)
    (hR : CRow w a n c R) (hS : Row .u8 w a' n' c' S) (hZ : ZRow w a2 n2 c2 Z) (hU : BRow w a3 n3 c3 U) :
    Calls Try.prog 5 #[.slice a n c, .slice a' n' c', .agg #[.slice a2 n2 c2, .slice a3 n3 c3]] w fun e w' => e = .returned (.bool true) ∧ Below w.heap.size w w' := by
  have HL : Hid (∀ W, Calls Try.prog 8 #[] W fun e w' => e = .returned (.bool true) ∧ Below W.heap.size W w') := Lib.hid lives_any
  obtain ⟨W, hW⟩ : ∃ W, W = w.alloc (.cells #[.slice a2 n2 c2, .slice a3 n3 c3] 36) := ⟨_, rfl⟩
  have hb0 : Below w.heap.size w W := by rw [hW]; exact below_alloc _ _
  have o0 : Own W w.heap.size 36 [.slice a2 n2 c2, .slice a3 n3 c3] := by rw [hW]; exact lit_own w _ _ _ rfl
  have k0 := o0.cell 0 (by simp)
  have k1 := o0.cell 1 (by simp)
  simp only [List.getD_cons_succ, List.getD_cons_zero] at k0 k1
  have HW := Lib.hid hW
  have HB0 := Lib.hid hb0
  by_cases hbig : (40 < n ∨ 60 < n') ∨ 40 < n2 ∨ 60 < n3
  · clear hR hS hZ hU hb0 o0 hW
    have hd : decide ((40 : Int) < (n : Int)) = true ∨ (decide ((40 : Int) < (n : Int)) = false ∧ (decide ((60 : Int) < (n' : Int)) = true ∨ (decide ((60 : Int) < (n' : Int)) = false ∧ (decide ((40 : Int) < (n2 : Int)) = true ∨ (decide ((40 : Int) < (n2 : Int)) = false ∧ decide ((60 : Int) < (n3 : Int)) = true))))) := by
      simp only [decide_eq_true_eq, decide_eq_false_iff_not]; omega
    clear hbig
    rcases hd with h1 | ⟨h1, h2 | ⟨h2, h3 | ⟨h3, h4⟩⟩⟩
    all_goals go_enter Try.func5, Try.ntmps5
    all_goals go_upto_region 1 with fail
    all_goals rw [← HW.out]
    all_goals go_wp2_with fail
    all_goals with_reducible refine (HL.out _).mono ?_
    all_goals rintro e w' ⟨rfl, hb⟩
    all_goals have HB := Lib.hid (HB0.out.trans (hb.mono HB0.out.size))
    all_goals clear hb
    all_goals go_wp2
    all_goals go_ret
    all_goals exact ⟨rfl, HB.out⟩
  · have h1 : ¬ (40 : Int) < (n : Int) := by omega
    have h2 : ¬ (60 : Int) < (n' : Int) := by omega
    have h3 : ¬ (40 : Int) < (n2 : Int) := by omega
    have h4 : ¬ (60 : Int) < (n3 : Int) := by omega
    have HR := Lib.hid (hR.later hb0)
    have HS := Lib.hid (hS.later hb0)
    have HZ := Lib.hid (hZ.later hb0)
    have HU := Lib.hid (hU.later hb0)
    have hn : n ≤ 1000000 := by omega
    have hn2 : n2 ≤ 1000000 := by omega
    clear hR hS hZ hU hb0 o0 hW
    go_enter Try.func5, Try.ntmps5
    go_upto_region 1 with fail
    rw [← HW.out]
    have HK0 := Lib.hid k0
    have HK1 := Lib.hid k1
    go_wp2_with fail
    with_reducible refine (places_any a n c R a' n' c' S W hn HR.out HS.out).mono ?_
    rintro e w1 ⟨g1, hg1, rfl, ho1, hb1⟩
    have HO1 := Lib.hid ho1
    have HB1 := Lib.hid hb1
    clear k0 k1 ho1 hb1
    have k0 := cell_later HK0.out HB1.out
    have k1 := cell_later HK1.out HB1.out
    go_wp2_with fail
    with_reducible refine (lines_any a2 n2 c2 Z a3 n3 c3 U w1 hn2 (HZ.out.later HB1.out) (HU.out.later HB1.out)).mono ?_
    rintro e w2 ⟨g2, hg2, rfl, ho2, hb2⟩
    have HO2 := Lib.hid ho2
    have HO1 := Lib.hid (HO1.out.below hb2 HO1.out.lt)
    have HB2 := Lib.hid (HB1.out.trans (hb2.mono HB1.out.size))
    clear k0 k1 ho2 hb2
    go_wp2_with fail
    go_loopw [9] (fun i wr => ∃ k : Nat, k ≤ 16 ∧ i = .int .i64 k ∧ Below w2.heap.size w2 wr) (fun i _ => 16 - (intOf i).toNat)
    case atStart => exact ⟨0, Nat.zero_le _, rfl, Below.refl _ _⟩
    case round =>
      obtain ⟨k, hk, rfl, hb⟩ := hrel
      by_cases hkn : k < 16
      · have HB3 := Lib.hid (HB2.out.trans (hb.mono HB2.out.size))
        have ce1 : ∀ w', Below w2.heap.size w2 w' → w'.cell? ⟨g1, k, none⟩ = some (.int .i64 (nextM (rks R) S k)) := fun w' h => by
          have := (HO1.out.below h HO1.out.lt).cell k (by rw [nums_length, tab_length]; exact hkn)
          rw [nums_getD _ _ _ (by rw [tab_length]; exact hkn), tab_getD _ hkn] at this
          exact this
        have ce2 : ∀ w', Below w2.heap.size w2 w' → w'.cell? ⟨g2, k, none⟩ = some (.int .i64 (linkM n2 (upM U) k)) := fun w' h => by
          have := (HO2.out.below h HO2.out.lt).cell k (by rw [nums_length, tab_length]; exact hkn)
          rw [nums_getD _ _ _ (by rw [tab_length]; exact hkn), tab_getD _ hkn] at this
          exact this
        have hc1 := fun W' (h : Below W.heap.size W W') => next_any a n c R a' n' c' S k W' hn (HR.out.later h) (HS.out.later h)
        have hc2 := fun W' (h : Below W.heap.size W W') => link_any a2 n2 c2 Z a3 n3 c3 U k W' hn2 (by omega) (HZ.out.later h) (HU.out.later h)
        rw [Nat.mod_eq_of_lt (by omega : k < 16)] at hc1
        have ho1 := plOut_of (nextM_one (rks R) S k)
        have ho2 := plOut_of (linkM_one n2 (upM U) k)
        generalize nextM (rks R) S k = v1 at *
        generalize linkM n2 (upM U) k = v2 at *
        have HC1 := Lib.hid hc1
        have HC2 := Lib.hid hc2
        have HD1 := Lib.hid ce1
        have HD2 := Lib.hid ce2
        have HBr := Lib.hid hb
        have hw8 : IntKind.u8.wrap (k : Int) = (k : Int) := IntWalk.u8_in _ (by omega)
        clear hc1 hc2 ce1 ce2 hb
        rcases ho1 with ⟨e1, rfl⟩ | e1
        all_goals rcases ho2 with ⟨e2, rfl⟩ | e2
        all_goals rw [e1] at HC1
        all_goals rw [e2] at HC2
        all_goals clear e1 e2
        all_goals go_wp2_with fail
        all_goals with_reducible refine (HC1.out wr HB3.out).mono ?_
        all_goals rintro e w4 ⟨rfl, hb4⟩
        all_goals have HB4 := Lib.hid (HB3.out.trans (hb4.mono HB3.out.size))
        all_goals have HBr4 := Lib.hid (HBr.out.trans (hb4.mono HBr.out.size))
        all_goals have k0 := cell_later HK0.out HB4.out
        all_goals have k1 := cell_later HK1.out HB4.out
        all_goals clear hb4
        all_goals go_wp2_with fail
        all_goals with_reducible refine (HC2.out w4 HB4.out).mono ?_
        all_goals rintro e w5 ⟨rfl, hb5⟩
        all_goals have HBr5 := Lib.hid (HBr4.out.trans (hb5.mono HBr4.out.size))
        all_goals have d1 := HD1.out w5 HBr5.out
        all_goals have d2 := HD2.out w5 HBr5.out
        all_goals clear hb5 k0 k1
        all_goals go_wp2
        all_goals exact ⟨⟨k + 1, by omega, by go_num, HBr5.out⟩, by simp [intOf]; omega⟩
      · obtain rfl : k = 16 := by omega
        have HB3 := Lib.hid (HB0.out.trans ((HB2.out.trans (hb.mono HB2.out.size)).mono HB0.out.size))
        clear hb
        go_wp2_with fail
        with_reducible refine (HL.out _).mono ?_
        rintro e w8 ⟨rfl, hb8⟩
        have HB8 := Lib.hid (HB3.out.trans (hb8.mono HB3.out.size))
        clear hb8
        go_wp2
        go_ret
        exact ⟨rfl, HB8.out⟩
end Go.Proofs.Ytpgdaodgdckehaa
