/- Contracts: Check. -/
import Derived.Test.YtnecdmihnndebaaDoorBase
namespace Go.Proofs.YtnecdmihnndebaaDoor
open Go.RowKit

theorem closure_yes (x : Int) (w : World) (hx : 1 < x) :
    Calls Tryd.prog 42 #[.int .u8 x] w fun e w' => e = .returned (.bool true) ∧ w = w' := by
  go_enter Tryd.func42, Tryd.ntmps42
  go_wp2
  go_ret
  exact ⟨ret_bool (by simp), rfl⟩
theorem closure_no (x : Int) (w : World) (hx : ¬ 1 < x) :
    Calls Tryd.prog 42 #[.int .u8 x] w fun e w' => e = .returned (.bool false) ∧ w = w' := by
  go_enter Tryd.func42, Tryd.ntmps42
  go_wp2
  go_ret
  exact ⟨ret_bool (by simp), rfl⟩
def SaysBits (l : List Int) (e : Ending) : Prop := ∃ r : Int, e = .returned (.int .i64 r) ∧ isBits l = decide (r < 0)
set_option maxHeartbeats 400000 in
theorem index8_any (a : Option Addr) (n c : Nat) (l : List Int) (w : World) (h : Row .u8 w a n c l) :
    Calls Tryd.prog 46 #[.slice a n c, .func (.func 42) #[] #[]] w fun e w' => SaysBits l e ∧ w = w' := by
  obtain ⟨hl, hle, hm, hw, hc, _⟩ := h
  unfold maxLen at hm
  have HL := Lib.hid hl
  have HW := Lib.hid hw
  clear hl hw
  go_enter Tryd.func46, Tryd.ntmps46
  go_wp2_with fail
  go_loop [5, 8] (fun _ i => ∃ k : Nat, k ≤ n ∧ i = .int .i64 k ∧ ∀ j, j < k → l.getD j 0 ≤ 1) (fun _ i => n - (intOf i).toNat)
  case atStart => exact ⟨0, Nat.zero_le _, rfl, by intro j hj; omega⟩
  case round =>
    obtain ⟨k, hk, rfl, hall⟩ := hrel
    have HA := Lib.hid hall
    clear hall
    by_cases hlt : k < n
    · rcases hc with h0 | ⟨b, o, rfl, hc⟩
      · omega
      have g := hc k hlt
      obtain ⟨x, hx⟩ : ∃ x, x = l.getD k 0 := ⟨_, rfl⟩
      rw [← hx] at g
      have HX := Lib.hid hx
      clear hx hc
      by_cases hx1 : 1 < x
      · go_wp2_with fail
        refine (closure_yes x w hx1).mono ?_
        rintro e w' ⟨rfl, rfl⟩
        go_wp2
        go_ret
        refine ⟨⟨_, rfl, ?_⟩, rfl⟩
        rw [isBits_false (k := k) (by rw [HL.out]; exact hlt) (by rw [← HX.out]; exact hx1)]
        simp
      · go_wp2_with fail
        refine (closure_no x w (by omega)).mono ?_
        rintro e w' ⟨rfl, rfl⟩
        go_wp2
        go_round
        case rel =>
          refine ⟨k + 1, by omega, by go_num, fun j hj => ?_⟩
          by_cases hjk : j < k
          · exact HA.out j hjk
          · obtain rfl : j = k := by omega
            rw [← HX.out]; omega
        case measure => simp [intOf]; omega
    · go_wp2
      go_ret
      refine ⟨⟨-1, rfl, ?_⟩, rfl⟩
      rw [isBits_true (fun j hj => HA.out j (by rw [HL.out] at hj; omega))]
      simp
set_option maxHeartbeats 400000 in
theorem contains8_any (a : Option Addr) (n c : Nat) (l : List Int) (w : World) (h : Row .u8 w a n c l) :
    Calls Tryd.prog 41 #[.slice a n c, .func (.func 42) #[] #[]] w fun e w' => e = .returned (.bool (!isBits l)) ∧ w = w' := by
  have H := Lib.hid (index8_any a n c l w h)
  clear h
  go_enter Tryd.func41, Tryd.ntmps41
  go_wp2_with fail
  refine H.out.mono ?_
  rintro e w' ⟨⟨r, rfl, hr⟩, rfl⟩
  have HR := Lib.hid hr
  clear hr
  go_wp2
  go_ret
  exact ⟨ret_bool (by rw [HR.out, dec_ge_not]), rfl⟩
set_option maxHeartbeats 400000 in
theorem check_any (a : Option Addr) (n c : Nat) (l : List Int) (w : World) (h : Row .u8 w a n c l) :
    Calls Tryd.prog 35 #[.slice a n c] w fun e w' => e = .returned (.int .i64 (errOf l)) ∧ w = w' := by
  have hcon := contains8_any a n c l w h
  obtain ⟨hl, hle, hm, hw, hc, _⟩ := h
  unfold maxLen at hm
  by_cases hbig : 1048576 < n
  · have hfin : errOf l = 3 := errOf_big (by omega)
    have HF := Lib.hid hfin
    have hb : (1048576 : Int) < (n : Int) := by omega
    clear hfin hl hw hc hcon
    go_enter Tryd.func35, Tryd.ntmps35
    go_wp2
    go_ret
    exact ⟨ret_int HF.out.symm, rfl⟩
  · have hb : ¬ (1048576 : Int) < (n : Int) := by omega
    cases hbb : isBits l with
    | true =>
      have hfin : errOf l = 0 := errOf_ok (by omega) hbb
      rw [hbb] at hcon
      have HF := Lib.hid hfin
      have HC := Lib.hid hcon
      clear hfin hl hw hc hcon hbb
      go_enter Tryd.func35, Tryd.ntmps35
      go_wp2_with fail
      refine HC.out.mono ?_
      rintro e w' ⟨rfl, rfl⟩
      go_wp2
      go_ret
      exact ⟨ret_int HF.out.symm, rfl⟩
    | false =>
      have hfin : errOf l = 1 := errOf_bad (by omega) hbb
      rw [hbb] at hcon
      have HF := Lib.hid hfin
      have HC := Lib.hid hcon
      clear hfin hl hw hc hcon hbb
      go_enter Tryd.func35, Tryd.ntmps35
      go_wp2_with fail
      refine HC.out.mono ?_
      rintro e w' ⟨rfl, rfl⟩
      go_wp2
      go_ret
      exact ⟨ret_int HF.out.symm, rfl⟩
end Go.Proofs.YtnecdmihnndebaaDoor
