/- Contracts of package sums at known lists. -/
import Derived.Test.YtkalpjccfknopaaDoorSumsCheck
import Derived.Test.YtkalpjccfknopaaDoorRefExt
import Derived.Test.YtkalpjccfknopaaDoorLawBytes
import Derived.Lib.SlBytesConst
namespace Go.Proofs.YtkalpjccfknopaaDoor
open Go.RowKit

theorem row_plain {k : IntKind} {w : World} {a : Option Addr} {n c : Nat} {l : List Int} (h : Row k w a n c l) (hn : 0 < n) : ∃ b o, a = some ⟨b, o, none⟩ := by
  rcases h.cells with h0 | ⟨b, o, ha, _⟩
  · omega
  · exact ⟨b, o, ha⟩
/-- The literal of a constant string's bytes: its block bears a mark. -/
theorem row_lit_marked (k : IntKind) (w : World) (t : Nat) (l : List Int) (n : Nat) (m : Nat × Nat) (hn : l.length = n) (h : n ≤ 1000) (hw : ∀ x ∈ l, (Lit.int k x).wf = true) :
    Row k (w.alloc (.cells (nums k l).toArray t m)) (some ⟨w.heap.size, 0, none⟩) n n l := by
  subst hn
  refine ⟨rfl, Nat.le_refl _, by unfold maxLen; omega, hw, .inr ⟨_, 0, rfl, fun i hi => ?_⟩, by simp⟩
  have hh : (w.alloc (.cells (nums k l).toArray t m)).heap[w.heap.size]? = some (.cells (nums k l).toArray t m) := heap_alloc_new w _
  rw [cell_of_row _ w.heap.size (0 + i) _ t m hh, Nat.zero_add]
  simp [nums, hi]
/-- A row of the call's own reads, and lies where. -/
theorem ownsRow_at (k : IntKind) {w : World} {B e n : Nat} {v : Value} {l : List Int} (h : w.ownsRow B e 1 v n (nums k l)) (hw : ∀ x ∈ l, (Lit.int k x).wf = true) :
    ∃ a c, v = .slice a n c ∧ Row k w a n c l ∧ ∀ x, a = some x → B ≤ x.block ∧ x.block < w.heap.size := by
  obtain ⟨a, c, rfl, hr, _⟩ := ownsRow_rowN k h hw
  exact ⟨a, c, rfl, hr, fun x hx => World.ownsRow.lt h x.block (by rw [hx]; rfl)⟩
theorem addL_take (l : List Int) : (addL l).take l.length = l := by simp [addL]
theorem addL_good {l : List Int} (h : ∀ x ∈ l, 0 ≤ x ∧ x ≤ 255) : lastTwo (addL l) l.length = Crc.crc (toN ((addL l).take l.length)) := by
  rw [addL_take]
  have := crc_oct_lt h
  unfold lastTwo addL
  simp only [List.getD_eq_getElem?_getD]
  rw [List.getElem?_append_right (Nat.le_refl _), List.getElem?_append_right (by omega), Nat.sub_self, Nat.add_sub_cancel_left]
  simp
  omega
theorem addL_residue {l : List Int} (h : ∀ x ∈ l, 0 ≤ x ∧ x ≤ 255) : ((Crc.ext 65535 (toN (addL l)) : Nat) : Int) = 61624 := by
  rw [toN_addL, Crc.add_residue (toN_lt h)]; rfl
theorem wrap_u8_range (x : Int) : 0 ≤ IntKind.u8.wrap x ∧ IntKind.u8.wrap x ≤ 255 := by
  unfold IntKind.wrap
  simp [IntKind.bits, IntKind.signed]
  omega
theorem set_octs {l : List Int} (h : ∀ x ∈ l, 0 ≤ x ∧ x ≤ 255) (i : Nat) (v : Int) (hv : 0 ≤ v ∧ v ≤ 255) : ∀ x ∈ l.set i v, 0 ≤ x ∧ x ≤ 255 := by
  intro x hx
  rcases List.mem_or_eq_of_mem_set hx with h1 | h1
  · exact h x h1
  · rw [h1]; exact hv
theorem check_ok (a : Option Addr) (n c m : Nat) (l l' : List Int) (w : World) (hb : BehindOk w) (h : Row .u8 w a n c l) (hm : m + 2 = n) (hn : m ≤ 2097152) (hg : lastTwo l m = Crc.crc (toN (l.take m))) (hl' : l.take m = l') :
    Calls Tryd.prog 17 #[.slice a n c] w fun e w' => (∃ g, e = .returned (.tuple #[.slice (some ⟨g, 0, none⟩) m m, .int .i64 0]) ∧ Row .u8 w' (some ⟨g, 0, none⟩) m m l' ∧ Own w' g 5 (nums .u8 l') ∧ w.heap.size ≤ g) ∧ Below w.heap.size w w' := by
  subst hm
  subst hl'
  obtain ⟨b, o, rfl⟩ := row_plain h (by omega)
  have hoct := h.octs
  have hlen := h.len
  refine (check_good b o m c l w hb h hn hg).mono ?_
  rintro e w' ⟨rfl, hbel, hown⟩
  refine ⟨⟨_, rfl, hown.row0 m m (by rw [List.length_take]; omega) (Nat.le_refl _) (by unfold maxLen; omega) (fun x hx => wf_u8.2 (hoct x (List.mem_of_mem_take hx))), hown, Nat.le_refl _⟩, hbel⟩
theorem check_few (a : Option Addr) (n c : Nat) (w : World) (hn : n < 2) :
    Calls Tryd.prog 17 #[.slice a n c] w fun e w' => e = .returned (.tuple #[.slice none 0 0, .int .i64 5]) ∧ Below w.heap.size w w' :=
  (check_short a n c w hn).mono fun _ _ ⟨he, hw⟩ => ⟨he, by rw [← hw]; exact Below.refl _ _⟩
theorem check_no (a : Option Addr) (n c m : Nat) (l : List Int) (w : World) (hb : BehindOk w) (h : Row .u8 w a n c l) (hm : m + 2 = n) (hn : m ≤ 2097152) (hg : lastTwo l m ≠ Crc.crc (toN (l.take m))) :
    Calls Tryd.prog 17 #[.slice a n c] w fun e w' => e = .returned (.tuple #[.slice none 0 0, .int .i64 10]) ∧ ∃ q, w' = w.drewN q := by
  subst hm
  obtain ⟨b, o, rfl⟩ := row_plain h (by omega)
  exact check_bad b o m c l w hb h hn hg
theorem sum_n (a : Option Addr) (n c : Nat) (l : List Int) (S : Int) (w : World) (hb : BehindOk w) (h : Row .u8 w a n c l) (hS : ((Crc.crc (toN l) : Nat) : Int) = S) :
    Calls Tryd.prog 12 #[.slice a n c] w fun e w' => e = .returned (.int .u16 S) ∧ w = w' := by
  subst hS
  exact sum_any a n c l w hb h
theorem extend_n (r : Nat) (a : Option Addr) (n c : Nat) (l : List Int) (S : Int) (w : World) (hr : r < 65536) (hb : BehindOk w) (h : Row .u8 w a n c l) (hS : ((Crc.ext r (toN l) : Nat) : Int) = S) :
    Calls Tryd.prog 10 #[.int .u16 r, .slice a n c] w fun e w' => e = .returned (.int .u16 S) ∧ w = w' := by
  subst hS
  exact extend_any r a n c l w hr hb h
theorem refExtend_n (r : Nat) (a : Option Addr) (n c : Nat) (l : List Int) (S : Int) (w : World) (hr : r < 65536) (h : Row .u8 w a n c l) (hn : n ≤ 100000) (hS : ((Crc.ext r (toN l) : Nat) : Int) = S) :
    Calls Tryd.prog 11 #[.int .u16 r, .slice a n c] w fun e w' => e = .returned (.int .u16 S) ∧ Below w.heap.size w w' := by
  subst hS
  exact refExtend_any r a n c l w hr h hn
theorem wf_u16 {x : Int} : (Lit.int .u16 x).wf = true ↔ 0 ≤ x ∧ x ≤ 65535 := by
  simp [Lit.wf, IntKind.min, IntKind.max, IntKind.bits, IntKind.signed]
theorem refSum_n (a : Option Addr) (n c : Nat) (l : List Int) (S : Int) (w : World) (h : Row .u8 w a n c l) (hn : n ≤ 100000) (hS : ((Crc.crc (toN l) : Nat) : Int) = S) :
    Calls Tryd.prog 15 #[.slice a n c] w fun e w' => e = .returned (.int .u16 S) ∧ Below w.heap.size w w' := by
  subst hS
  exact refSum_any a n c l w h hn
theorem add_n (a : Option Addr) (n c m : Nat) (l l' : List Int) (w : World) (hb : BehindOk w) (h : Row .u8 w a n c l) (hn : n ≤ 2097152) (hm : n + 2 = m) (hl' : addL l = l') :
    Calls Tryd.prog 14 #[.slice a n c] w fun e w' => (∃ g, e = .returned (.slice (some ⟨g, 0, none⟩) m m) ∧ Row .u8 w' (some ⟨g, 0, none⟩) m m l' ∧ Own w' g 5 (nums .u8 l') ∧ w.heap.size ≤ g) ∧ Below w.heap.size w w' := by
  subst hl'
  exact add_row a n c m l w hb h hn hm
end Go.Proofs.YtkalpjccfknopaaDoor
