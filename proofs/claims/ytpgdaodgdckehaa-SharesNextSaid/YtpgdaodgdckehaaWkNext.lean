/- SharesNext: the walk. -/
import Derived.Test.YtpgdaodgdckehaaShNx
import Derived.Test.YtpgdaodgdckehaaShLives
namespace Go.Proofs.Ytpgdaodgdckehaa
open Go.RowKit

set_option maxHeartbeats 2000000 in
set_option maxRecDepth 100000 in
theorem next_walk (a : Option Addr) (n c : Nat) (R : List (Int × Int)) (a' : Option Addr) (n' c' : Nat) (S : List Int) (z : Int) (w : World) (hR : CRow w a n c R) (hS : Row .u8 w a' n' c' S) (hz : (Lit.int .u8 z).wf = true) :
    Calls Try.prog 3 #[.slice a n c, .slice a' n' c', .int .u8 z] w fun e w' => e = .returned (.bool true) ∧ Below w.heap.size w w' := by
  obtain ⟨s, rfl⟩ : ∃ s : Nat, z = (s : Int) := ⟨z.toNat, by have := wf_u8.1 hz; omega⟩
  have HL : Hid (∀ W, Calls Try.prog 8 #[] W fun e w' => e = .returned (.bool true) ∧ Below W.heap.size W w') := Lib.hid lives_any
  clear hz
  by_cases hbig : 40 < n
  · have hbi : (40 : Int) < (n : Int) := by omega
    clear hR hS
    go_enter Try.func3, Try.ntmps3
    go_wp2_with fail
    with_reducible refine (HL.out _).mono ?_
    rintro e w' ⟨rfl, hb⟩
    have HB := Lib.hid hb
    clear hb
    go_wp2
    go_ret
    exact ⟨rfl, HB.out⟩
  · by_cases hbig2 : 60 < n'
    · have hbi : ¬ (40 : Int) < (n : Int) := by omega
      have hbi2 : (60 : Int) < (n' : Int) := by omega
      clear hR hS
      go_enter Try.func3, Try.ntmps3
      go_wp2_with fail
      with_reducible refine (HL.out _).mono ?_
      rintro e w' ⟨rfl, hb⟩
      have HB := Lib.hid hb
      clear hb
      go_wp2
      go_ret
      exact ⟨rfl, HB.out⟩
    · have hbi : ¬ (40 : Int) < (n : Int) := by omega
      have hbi2 : ¬ (60 : Int) < (n' : Int) := by omega
      have hc1 := next_any a n c R a' n' c' S s w (by omega) hR hS
      have hc2 := fun W (h : Below w.heap.size w W) => lnext_any a n c R a' n' c' S s W (by omega) (hR.later h) (hS.later h)
      have hone := nextM_one (rks R) S (s % 16)
      generalize nextM (rks R) S (s % 16) = v at *
      have HC1 := Lib.hid hc1
      have HC2 := Lib.hid hc2
      clear hR hS hc1 hc2
      rcases hone with rfl | hv
      · rw [plOut_no] at HC1
        go_enter Try.func3, Try.ntmps3
        go_wp2_with fail
        with_reducible refine HC1.out.mono ?_
        rintro e w1 ⟨rfl, hb1⟩
        have HB1 := Lib.hid hb1
        clear hb1
        go_wp2_with fail
        with_reducible refine (HC2.out w1 HB1.out).mono ?_
        rintro e w2 ⟨rfl, hb2⟩
        have HB2 := Lib.hid (HB1.out.trans (hb2.mono HB1.out.size))
        clear hb2
        go_wp2_with fail
        with_reducible refine (HL.out _).mono ?_
        rintro e w3 ⟨rfl, hb3⟩
        have HB3 := Lib.hid (HB2.out.trans (hb3.mono HB2.out.size))
        clear hb3
        go_wp2
        go_ret
        exact ⟨rfl, HB3.out⟩
      · obtain ⟨x, rfl⟩ : ∃ x : Nat, v = (x : Int) := ⟨v.toNat, by omega⟩
        rw [plOut_nat] at HC1
        have hm : max (x : Int) 0 = x := by omega
        clear hv
        go_enter Try.func3, Try.ntmps3
        go_wp2_with fail
        with_reducible refine HC1.out.mono ?_
        rintro e w1 ⟨rfl, hb1⟩
        have HB1 := Lib.hid hb1
        clear hb1
        go_wp2_with fail
        with_reducible refine (HC2.out w1 HB1.out).mono ?_
        rintro e w2 ⟨rfl, hb2⟩
        have HB2 := Lib.hid (HB1.out.trans (hb2.mono HB1.out.size))
        clear hb2
        go_wp2_with fail
        with_reducible refine (HL.out _).mono ?_
        rintro e w3 ⟨rfl, hb3⟩
        have HB3 := Lib.hid (HB2.out.trans (hb3.mono HB2.out.size))
        clear hb3
        go_wp2
        go_ret
        exact ⟨rfl, HB3.out⟩
end Go.Proofs.Ytpgdaodgdckehaa
