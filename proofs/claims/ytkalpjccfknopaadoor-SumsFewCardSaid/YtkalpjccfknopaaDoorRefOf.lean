/- Contracts: RefOf. -/
import Derived.Test.YtkalpjccfknopaaDoorRefBit
namespace Go.Proofs.YtkalpjccfknopaaDoor
open Go.RowKit

set_option maxHeartbeats 400000 in
theorem refOf_any (a : Option Addr) (n c : Nat) (l : List Int) (w : World) (h : Row .u8 w a n c l) (hn : n ≤ 131072) :
    Calls Tryd.prog 22 #[.slice a n c] w fun e w' => IsList (ofL l) e w' ∧ Below w.heap.size w w' := by
  have hle := h.le
  have hmx := h.max
  unfold maxLen at hmx
  have HR := Lib.hid h
  obtain ⟨i0, hi, hz0, hz1, hz2⟩ := info_parts info8
  have HI := Lib.hid hi
  have HZ0 := Lib.hid hz0
  have HZ1 := Lib.hid hz1
  have HZ2 := Lib.hid hz2
  clear h hi hz0 hz1 hz2
  go_enter Tryd.func22, Tryd.ntmps22
  go_wp2_with fail
  go_loopw [3, 4, 5] (fun v i _ wr => ∃ k : Nat, k ≤ n ∧ i = .int .i64 k ∧ Below w.heap.size w wr ∧ wr.ownsRow w.heap.size 5 1 v (8 * k) (nums .u8 (ofL (l.take k)))) (fun _ i _ _ => n - (intOf i).toNat)
  case atStart => exact ⟨0, Nat.zero_le _, rfl, Below.refl _ _, by have := World.ownsRow_nil w w.heap.size 5 1; simpa [ofL, nums] using this⟩
  case round =>
    obtain ⟨k, hk, rfl, hbel, hown⟩ := hrel
    by_cases hlt : k < n
    · have HO := Lib.hid hown
      have HBel := Lib.hid hbel
      obtain ⟨b, o, rfl, g0⟩ : ∃ b o, a = some ⟨b, o, none⟩ ∧ w.cell? ⟨b, o + k, none⟩ = some (.int .u8 (l.getD k 0)) := by
        rcases HR.out.cells with h0 | ⟨b, o, ha, hc⟩
        · omega
        · exact ⟨b, o, ha, hc k hlt⟩
      have hbB : b < w.heap.size := World.block_lt_of_cell? w _ g0
      obtain ⟨x, hx⟩ : ∃ x, x = l.getD k 0 := ⟨_, rfl⟩
      rw [← hx] at g0
      have hxr := wf_u8.1 (HR.out.wf x (by rw [hx, List.getD_eq_getElem?_getD, List.getElem?_eq_getElem (by rw [HR.out.len]; omega), Option.getD_some]; exact List.getElem_mem _))
      obtain ⟨hx0, hx1⟩ := hxr
      have ht : l.take (k + 1) = l.take k ++ [x] := by rw [hx]; exact take_succ' (by rw [HR.out.len]; exact hlt)
      have HT := Lib.hid ht
      clear hown hbel hx ht
      go_wp2_with fail
      go_loopw [3, 5] (fun v i wr => ∃ j : Nat, j ≤ 8 ∧ i = .int .i64 j ∧ Below w.heap.size w wr ∧ wr.ownsRow w.heap.size 5 1 v (8 * k + j) (nums .u8 (ofL (l.take k) ++ bitsOf x j))) (fun _ i _ => 8 - (intOf i).toNat)
      case atStart => exact ⟨0, by omega, rfl, HBel.out, by simpa [bitsOf] using HO.out⟩
      case round =>
        obtain ⟨j, hj, rfl, hbel, hown⟩ := hrel
        by_cases hjl : j < 8
        · have g : wr.cell? ⟨b, o + k, none⟩ = some (Value.int IntKind.u8 x) := (hbel.cell (p := ⟨b, o + k, none⟩) hbB).trans g0
          have hbr := bitOf_range x j
          obtain ⟨y, hy⟩ : ∃ y, y = bitOf x j := ⟨_, rfl⟩
          have hbit := bit_any x j wr hx0 (by omega) (by omega)
          change Calls _ _ _ _ (fun e w' => e = .returned (.int .u8 (bitOf x j)) ∧ wr = w') at hbit
          rw [← hy] at hbit hbr
          obtain ⟨hy0, hy1⟩ := hbr
          have HY := Lib.hid hy
          have HBit := Lib.hid hbit
          have HO2 := Lib.hid hown
          have HBel2 := Lib.hid hbel
          have hsz := hbel.size
          clear hbit hown hbel hy
          go_wp2_with fail
          refine HBit.out.mono ?_
          rintro e w' ⟨rfl, rfl⟩
          go_wp2_with (at_builtin; refine wpList_append_own _ rfl _ _ 23 rfl w.heap.size 5 i0 (.int .u8 0) 1 1 Tryd.underlying23 HI.out HZ0.out HZ1.out HZ2.out rfl (by decide) _ _ _ rfl (HO2.out.alloc _) ⟨wr.heap.size, 0, none⟩ 1 1 [.int .u8 y] rfl rfl ?c1 ?c2 ?c3 ?c4 ?c5 ?_)
          case c1 => exact cell_one_new wr _ _
          case c2 => intro u hu; simp at hu; subst hu; rfl
          case c3 => unfold maxLen; omega
          case c4 => omega
          case c5 => simp; omega
          · intro v' w1 hown' hgrow _
            have hbel' : Below w.heap.size w w1 := by
              have hb0 : Below w.heap.size w (wr.alloc (Obj.cells #[Value.int IntKind.u8 y] 5)) := HBel2.out.alloc hsz _
              exact hb0.grown hgrow (by simp; omega) (fun g hg => (World.ownsRow.lt HO2.out g hg).1)
            have HB' := Lib.hid hbel'
            have HO' := Lib.hid hown'
            clear hown' hgrow hbel'
            go_wp2
            refine ⟨⟨j + 1, by omega, by go_num, HB'.out, ?_⟩, by simp [intOf]; omega⟩
            rw [bitsOf_succ, ← HY.out, ← List.append_assoc, nums, List.map_append]
            exact HO'.out
        · obtain rfl : j = 8 := by omega
          have HO2 := Lib.hid hown
          have HBel2 := Lib.hid hbel
          clear hown hbel
          go_wp2
          refine ⟨⟨k + 1, by omega, by go_num, HBel2.out, ?_⟩, by simp [intOf]; omega⟩
          rw [HT.out, ofL_snoc]
          exact HO2.out
    · obtain rfl : k = n := by omega
      rw [List.take_of_length_le (by rw [HR.out.len]; exact Nat.le_refl _)] at hown
      have hlen : (ofL l).length = 8 * k := by rw [ofL_length, HR.out.len]
      rw [← hlen] at hown
      obtain ⟨a', c', rfl, hrow, _⟩ := ownsRow_row .u8 hown (wf_bits (fun x hx => ofL_mem hx))
      have HO := Lib.hid hrow
      have HBel := Lib.hid hbel
      clear hown hbel hrow hlen
      go_wp2
      go_ret
      exact ⟨⟨a', c', rfl, HO.out⟩, HBel.out⟩
theorem refOf_n (a : Option Addr) (n c m : Nat) (l : List Int) (w : World) (h : Row .u8 w a n c l) (hn : n ≤ 131072) (hm : 8 * n = m) :
    Calls Tryd.prog 22 #[.slice a n c] w fun e w' => (∃ a' c', e = .returned (.slice a' m c') ∧ Row .u8 w' a' m c' (ofL l)) ∧ Below w.heap.size w w' := by
  refine (refOf_any a n c l w h hn).mono ?_
  rintro e w' ⟨⟨a', c', rfl, hr⟩, hb⟩
  have : (ofL l).length = m := by rw [ofL_length, h.len, hm]
  rw [this] at hr ⊢
  exact ⟨⟨a', c', rfl, hr⟩, hb⟩
end Go.Proofs.YtkalpjccfknopaaDoor
