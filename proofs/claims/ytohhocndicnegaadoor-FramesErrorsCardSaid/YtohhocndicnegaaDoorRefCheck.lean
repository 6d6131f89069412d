/- Contracts: RefCheck. -/
import Derived.Test.YtohhocndicnegaaDoorBase
namespace Go.Proofs.YtohhocndicnegaaDoor
open Go.RowKit

set_option maxHeartbeats 400000 in
theorem refCheck_any (a : Option Addr) (n c : Nat) (l : List Int) (w : World) (h : Row .u8 w a n c l) :
    Calls Tryd.prog 11 #[.slice a n c] w fun e w' => e = .returned (.int .i64 (errOf l)) ∧ w = w' := by
  obtain ⟨hl, hle, hm, hw, hc, _⟩ := h
  unfold maxLen at hm
  by_cases hbig : 1048576 < n
  · have hfin : errOf l = 3 := errOf_big (by omega)
    have HF := Lib.hid hfin
    clear hfin
    have hb : (1048576 : Int) < (n : Int) := by omega
    go_enter Tryd.func11, Tryd.ntmps11
    go_wp2
    go_ret
    exact ⟨ret_int HF.out.symm, rfl⟩
  · have hb : ¬ (1048576 : Int) < (n : Int) := by omega
    have HL := Lib.hid hl
    have HW := Lib.hid hw
    clear hl hw
    go_enter Tryd.func11, Tryd.ntmps11
    go_wp2
    go_loop [3] (fun i => ∃ k : Nat, k ≤ n ∧ i = .int .i64 k ∧ ∀ j, j < k → l.getD j 0 ≤ 1) (fun i => n - (intOf i).toNat)
    case atStart => exact ⟨0, Nat.zero_le _, rfl, by intro j hj; omega⟩
    case round =>
      obtain ⟨k, hk, rfl, hall⟩ := hrel
      have HA := Lib.hid hall
      clear hall
      by_cases hlt : k < n
      · rcases hc with h0 | ⟨b, o, rfl, hc⟩
        · omega
        have g := hc k hlt
        obtain ⟨x, hx⟩ : ∃ x, x = l.getD k 0 := ⟨_, rfl⟩
        rw [← hx] at g
        have HX := Lib.hid hx
        clear hx hc
        by_cases hx1 : 1 < x
        · go_wp2
          go_ret
          exact ⟨ret_int (errOf_bad (by rw [HL.out]; omega) (isBits_false (k := k) (by rw [HL.out]; exact hlt) (by rw [← HX.out]; exact hx1))).symm, rfl⟩
        · go_wp2
          go_round
          case rel =>
            refine ⟨k + 1, by omega, by go_num, fun j hj => ?_⟩
            by_cases hjk : j < k
            · exact HA.out j hjk
            · obtain rfl : j = k := by omega
              rw [← HX.out]; omega
          case measure => simp [intOf]; omega
      · go_wp2
        go_ret
        exact ⟨ret_int (errOf_ok (by rw [HL.out]; omega) (isBits_true (fun j hj => HA.out j (by rw [HL.out] at hj; omega)))).symm, rfl⟩
end Go.Proofs.YtohhocndicnegaaDoor
