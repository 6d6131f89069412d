/- Contracts: Run. -/
import Derived.Test.YtohhocndicnegaaDoorBase
import Derived.Test.YtohhocndicnegaaDoorRunMath
namespace Go.Proofs.YtohhocndicnegaaDoor
open Go.RowKit

set_option maxHeartbeats 400000 in
theorem run_any (a : Option Addr) (n c : Nat) (l : List Int) (v : Int) (w : World) (h : Row .u8 w a n c l) :
    Calls Tryd.prog 16 #[.slice a n c, .int .u8 v] w fun e w' => e = .returned (.int .i64 (runMax v l)) ∧ w = w' := by
  have hle := h.le
  have hmx := h.max
  have hcc := h.cells
  unfold maxLen at hmx
  have HL := Lib.hid h.len
  clear h
  go_enter Tryd.func16, Tryd.ntmps16
  go_wp2
  go_loop [5, 6, 8, 11] (fun m r _ i => ∃ k : Nat, ∃ x y : Int, k ≤ n ∧ i = .int .i64 k ∧ m = .int .i64 x ∧ r = .int .i64 y ∧ x = runMax v (l.take k) ∧ y = runEnd v (l.take k)) (fun _ _ _ i => n - (intOf i).toNat)
  case atStart => exact ⟨0, 0, 0, Nat.zero_le _, rfl, rfl, rfl, rfl, rfl⟩
  case round =>
    obtain ⟨k, x, y, hk, rfl, rfl, rfl, hx, hy⟩ := hrel
    by_cases hlt : k < n
    · rcases hcc with h0 | ⟨b, o, rfl, hc⟩
      · omega
      have g := hc k hlt
      obtain ⟨z, hz⟩ : ∃ z, z = l.getD k 0 := ⟨_, rfl⟩
      rw [← hz] at g
      have hb := run_bounds v k (l.take k) (by rw [List.length_take]; omega)
      rw [← hx, ← hy] at hb
      obtain ⟨hb1, hb2, hb3, hb4⟩ := hb
      have ht : l.take (k + 1) = l.take k ++ [z] := by rw [hz]; exact take_succ' (by rw [HL.out]; exact hlt)
      have hs1 := runEnd_snoc v z (l.take k)
      have hs2 := runMax_snoc v z (l.take k)
      rw [← ht, ← hy] at hs1
      rw [← ht, ← hx, ← hy] at hs2
      have H1 := Lib.hid hs1
      have H2 := Lib.hid hs2
      clear hx hy hz ht hs1 hs2 hc
      by_cases hzv : z = v
      · have hne : (z != v) = false := by simp [hzv]
        have HZ := Lib.hid hzv
        clear hzv
        go_wp2
        exact ⟨⟨k + 1, _, _, by omega, by go_num, rfl, rfl, by rw [H2.out, if_pos HZ.out], by rw [H1.out, if_pos HZ.out]⟩, by simp [intOf]; omega⟩
      · have hne : (z != v) = true := by simp [hzv]
        have HZ := Lib.hid hzv
        clear hzv
        go_wp2
        exact ⟨⟨k + 1, _, _, by omega, by go_num, rfl, rfl, by rw [H2.out, if_neg HZ.out], by rw [H1.out, if_neg HZ.out]⟩, by simp [intOf]; omega⟩
    · go_wp2
      go_ret
      obtain rfl : k = n := by omega
      refine ⟨ret_int ?_, rfl⟩
      rw [List.take_of_length_le (by rw [HL.out]; exact Nat.le_refl _)]
theorem run_n (a : Option Addr) (n c : Nat) (l : List Int) (v x : Int) (w : World) (h : Row .u8 w a n c l) (hx : runMax v l = x) :
    Calls Tryd.prog 16 #[.slice a n c, .int .u8 v] w fun e w' => e = .returned (.int .i64 x) ∧ w = w' := by
  subst hx; exact run_any a n c l v w h
end Go.Proofs.YtohhocndicnegaaDoor
