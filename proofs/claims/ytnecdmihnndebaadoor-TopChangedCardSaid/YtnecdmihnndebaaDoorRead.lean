/- Contracts: Read. -/
import Derived.Test.YtnecdmihnndebaaDoorBase
namespace Go.Proofs.YtnecdmihnndebaaDoor
open Go.RowKit

set_option maxHeartbeats 400000 in
theorem read_any (a : Option Addr) (n c m : Nat) (l : List Int) (w : World) (h : Row .u8 w a n c l) (hbits : isBits l = true) (hmn : m ≤ n) (h64 : m ≤ 64) :
    Calls Tryd.prog 48 #[.slice a n c, .int .i64 m] w fun e w' => e = .returned (.int .u64 (val (l.take m))) ∧ w = w' := by
  obtain ⟨hl, hle, hm, hw, hc, _⟩ := h
  unfold maxLen at hm
  have h01 : ∀ x ∈ l, 0 ≤ x ∧ x ≤ 1 := fun x hx => ⟨(wf_u8.1 (hw x hx)).1, (isBits_iff l).1 hbits x hx⟩
  have HL := Lib.hid hl
  have HW := Lib.hid h01
  clear hl hw h01 hbits
  go_enter Tryd.func48, Tryd.ntmps48
  go_wp2
  go_loop [5, 6, 8] (fun v _ i => ∃ k : Nat, ∃ y : Int, k ≤ m ∧ i = .int .i64 k ∧ v = .int .u64 y ∧ y = val (l.take k)) (fun _ _ i => m - (intOf i).toNat)
  case atStart => exact ⟨0, 0, Nat.zero_le _, rfl, rfl, rfl⟩
  case round =>
    obtain ⟨k, y, hkm, rfl, rfl, hy⟩ := hrel
    have HY := Lib.hid hy
    clear hy
    by_cases hlt : k < m
    · rcases hc with h0 | ⟨b, o, rfl, hc⟩
      · omega
      have g := hc k (by omega)
      obtain ⟨x, hx⟩ : ∃ x, x = l.getD k 0 := ⟨_, rfl⟩
      rw [← hx] at g
      have HX := Lib.hid hx
      have hx01 := HW.out x (by rw [hx]; rw [List.getD_eq_getElem?_getD, List.getElem?_eq_getElem (by rw [HL.out]; omega), Option.getD_some]; exact List.getElem_mem _)
      obtain ⟨hx0, hx1⟩ := hx01
      clear hx hc
      go_wp2
      go_round
      case rel =>
        refine ⟨k + 1, _, by omega, by go_num, rfl, ?_⟩
        have ht : l.take (k + 1) = l.take k ++ [x] := by rw [HX.out]; exact take_succ' (by rw [HL.out]; omega)
        have hlen : (l.take k).length = k := by rw [List.length_take, HL.out]; omega
        have hb := val_bound (l.take k) (fun z hz => HW.out z (List.mem_of_mem_take hz))
        rw [hlen, ← HY.out] at hb
        rw [ht, val_append, hlen, ← HY.out, or_shl hb.1 hb.2 hx0 hx1 (by omega)]
        simp [val]
      case measure => simp [intOf]; omega
    · go_wp2
      go_ret
      obtain rfl : k = m := by omega
      exact ⟨ret_int (by rw [HY.out]), rfl⟩
end Go.Proofs.YtnecdmihnndebaaDoor
