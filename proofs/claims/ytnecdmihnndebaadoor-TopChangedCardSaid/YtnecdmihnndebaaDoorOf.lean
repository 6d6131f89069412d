/- Contracts: Of. -/
import Derived.Test.YtnecdmihnndebaaDoorWrite
namespace Go.Proofs.YtnecdmihnndebaaDoor
open Go.RowKit

set_option maxHeartbeats 400000 in
theorem of_any (a : Option Addr) (n c : Nat) (l : List Int) (w : World) (h : Row .u8 w a n c l) (hn : n ≤ 131072) :
    Calls Tryd.prog 20 #[.slice a n c] w fun e w' => e = .returned (.slice (some ⟨w.heap.size, 0, none⟩) (8 * n) (8 * n)) ∧ Below w.heap.size w w' ∧ Own w' w.heap.size 5 (nums .u8 (ofL l)) := by
  obtain ⟨hl, hle, hm, hw, hc, _⟩ := h
  unfold maxLen at hm
  have HL := Lib.hid hl
  have HW := Lib.hid hw
  have hmk := make8 (8 * n) (by omega)
  rw [show (((8 * n : Nat)) : Int) = 8 * (n : Int) by omega] at hmk
  clear hl hw
  go_enter Tryd.func20, Tryd.ntmps20
  go_wp2_with fail
  clear hmk
  go_loopw [4, 5, 12] (fun _ _ i wr => ∃ k : Nat, k ≤ n ∧ i = .int .i64 k ∧ Below w.heap.size w wr ∧
      Own wr w.heap.size 5 (nums .u8 (ofL (l.take k) ++ List.replicate (8 * (n - k)) 0))) (fun _ _ i _ => n - (intOf i).toNat)
  case atStart => exact ⟨0, Nat.zero_le _, rfl, below_alloc _ _, by simpa [ofL] using own_made .u8 (8 * n) 5 w⟩
  case round =>
    obtain ⟨k, hk, rfl, hbel, hown⟩ := hrel
    by_cases hlt : k < n
    · rcases hc with h0 | ⟨b, o, rfl, hc⟩
      · omega
      have g0 := hc k hlt
      have hbB : b < w.heap.size := World.block_lt_of_cell? w _ g0
      have g := (hbel.cell (p := ⟨b, o + k, none⟩) hbB).trans g0
      obtain ⟨x, hx⟩ : ∃ x, x = l.getD k 0 := ⟨_, rfl⟩
      rw [← hx] at g
      have hxr := wf_u8.1 (HW.out x (by rw [hx]; rw [List.getD_eq_getElem?_getD, List.getElem?_eq_getElem (by rw [HL.out]; omega), Option.getD_some]; exact List.getElem_mem _))
      obtain ⟨hx0, hx1⟩ := hxr
      have hlen : (ofL (l.take k)).length = 8 * k := by rw [ofL_length, List.length_take, HL.out]; omega
      have hcon := write_any w.heap.size (8 * k) (8 * n - 8 * k) (8 * n - 8 * k) 8 x _ wr hown (by rw [List.length_append, hlen, List.length_replicate]; omega) (by omega) (by omega) hx0 (by omega)
      have HX := Lib.hid hx
      have HB := Lib.hid hbel
      have HC := Lib.hid hcon
      have HN := Lib.hid hlen
      have hsz := hbel.size
      have hBw := hown.lt
      clear hx hbel hown hcon hlen g0 hc
      go_wp2_with fail
      refine HC.out.mono ?_
      rintro e w' ⟨rfl, hon, hown'⟩
      have HW' := Lib.hid hown'
      have HOn := Lib.hid hon
      clear hown' hon
      go_wp2
      go_roundw
      case rel =>
        refine ⟨k + 1, by omega, by go_num, HOn.out.below HB.out (by omega) (Nat.le_refl _), ?_⟩
        have ht : l.take (k + 1) = l.take k ++ [x] := by rw [HX.out]; exact take_succ' (by rw [HL.out]; omega)
        rw [ht, ofL_snoc]
        have := HW'.out
        rw [List.take_left' HN.out, List.drop_append, HN.out, List.drop_of_length_le (by rw [HN.out]; omega), List.nil_append, List.drop_replicate] at this
        rw [show 8 * (n - k) - (8 * k + 8 - 8 * k) = 8 * (n - (k + 1)) by omega] at this
        exact this
      case measure => simp [intOf]; omega
    · go_wp2
      go_ret
      obtain rfl : k = n := by omega
      refine ⟨rfl, hbel, ?_⟩
      rw [List.take_of_length_le (by rw [HL.out]; exact Nat.le_refl _), Nat.sub_self] at hown
      simpa using hown
theorem of_n (a : Option Addr) (n c m : Nat) (l l' : List Int) (w : World) (h : Row .u8 w a n c l) (hn : n ≤ 131072) (hm : 8 * n = m) (hl : ofL l = l') :
    Calls Tryd.prog 20 #[.slice a n c] w fun e w' => IsN m l' w.heap.size e w' ∧ Below w.heap.size w w' := by
  subst hm hl
  refine (of_any a n c l w h hn).mono ?_
  rintro e w' ⟨rfl, hb, ho⟩
  refine ⟨⟨_, rfl, ho.row0 _ _ (by rw [ofL_length, h.len]) (Nat.le_refl _) (by unfold maxLen; omega) (fun x hx => wf_u8.2 (by have := ofL_mem hx; omega)), Nat.le_refl _⟩, hb⟩
end Go.Proofs.YtnecdmihnndebaaDoor
