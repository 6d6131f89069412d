/- Copies of contents: slices.Clone, slices.Clip. -/
import Derived.Test.YtnkpmjkbkdnfjaaChIt
import Derived.Lib.SliceRun
namespace Go.Proofs.Ytnkpmjkbkdnfjaa
open Go.RowKit

set_option maxHeartbeats 1000000 in
set_option maxRecDepth 100000 in
theorem clip8_any (a : Option Addr) (n c : Nat) (w : World) (hnc : n ≤ c) (_hc : c ≤ maxLen) :
    Calls Try.prog 31 #[.slice a n c] w fun e w' => e = .returned (.slice a n n) ∧ w = w' := by
  have h1 : (n : Int) ≤ (c : Int) := by omega
  go_enter Try.func31, Try.ntmps31
  go_wp2
  go_ret
  exact ⟨rfl, rfl⟩
set_option maxHeartbeats 1000000 in
set_option maxRecDepth 100000 in
theorem clipIt_any (a : Option Addr) (n c : Nat) (w : World) (hnc : n ≤ c) (_hc : c ≤ maxLen) :
    Calls Try.prog 30 #[.slice a n c] w fun e w' => e = .returned (.slice a n n) ∧ w = w' := by
  have h1 : (n : Int) ≤ (c : Int) := by omega
  go_enter Try.func30, Try.ntmps30
  go_wp2
  go_ret
  exact ⟨rfl, rfl⟩
/-- A copy: its memory is new. -/
def CloneOut (w : World) (n : Nat) (l : List Int) (e : Ending) (w' : World) : Prop :=
  ∃ s c, e = .returned (.slice s n c) ∧ Row .u8 w' s n c l ∧ (∀ z, s = some z → w.heap.size ≤ z.block ∧ z.block < w'.heap.size) ∧ Below w.heap.size w w'
set_option maxHeartbeats 1000000 in
set_option maxRecDepth 100000 in
theorem clone8_any (a : Option Addr) (n c : Nat) (l : List Int) (w : World) (h : Row .u8 w a n c l) (hn : n ≤ 1000000) :
    Calls Try.prog 32 #[.slice a n c] w fun e w' => CloneOut w n l e w' := by
  rcases a with _ | ad
  · obtain rfl := h.isNil rfl
    obtain rfl : n = 0 := by have := h.le; omega
    have hl : l = [] := List.eq_nil_of_length_eq_zero h.len
    subst hl
    clear h
    have hq : ∀ w, (binOp .eql 52 (.slice none 0 0) (.slice none 0 0)).run Try.prog w = .ok (.bool true) w := fun w => Lib.run_eql_slice_nil w _ _ none 0 0 0 0 Try.underlying52
    go_enter Try.func32, Try.ntmps32
    go_wp2
    go_ret
    exact ⟨none, 0, rfl, Row.of_nil _ _, by simp, Below.refl _ _⟩
  · have H := Lib.hid h
    clear h
    obtain ⟨i0, hi, hz0, hz1, hz2⟩ := info_parts info8
    have HI := Lib.hid (And.intro hi (And.intro hz0 (And.intro hz1 hz2)))
    clear hi hz0 hz1 hz2
    have hq : ∀ w, (binOp .eql 52 (.slice (some ad) n c) (.slice none 0 0)).run Try.prog w = .ok (.bool false) w := fun w => Lib.run_eql_slice_nil w _ _ (some ad) n c 0 0 Try.underlying52
    go_enter Try.func32, Try.ntmps32
    have hb : Below w.heap.size w (w.alloc (.cells #[] 5)) := below_alloc w _
    have hbuf : Buf (w.alloc (.cells #[] 5)) 5 1 (some w.heap.size) (some ⟨w.heap.size, 0, none⟩) 0 0 [] :=
      ⟨rfl, Nat.le_refl _, Nat.zero_le _, .inr ⟨w.heap.size, 0, [], rfl, rfl, own_lit w _ #[] [] rfl, Nat.le_refl _, fun j hj => by omega⟩⟩
    have HB := Lib.hid hb
    have HBuf := Lib.hid hbuf
    have HSrc := Lib.hid ((H.out.later hb).src (P := Try.prog) Try.underlying52)
    clear hb hbuf
    go_wp2_with (with_reducible refine wpList_append_buf rfl (.tmp 5) (.tmp 6) 52 52 rfl 5 i0 (.int .u8 0) 1 1 Try.underlying52 HI.out.1 HI.out.2.1 HI.out.2.2.1 HI.out.2.2.2 rfl (by decide) (some w.heap.size) (some ⟨w.heap.size, 0, none⟩) 0 0 [] rfl HBuf.out (.slice (some ad) n c) n (nums .u8 l) rfl HSrc.out (by unfold maxLen; omega) (by omega) ?_)
    intro g' a' c' w' h1 h2 h3
    have hb2 : Below w.heap.size w w' := HB.out.trans (h2.below (by simp) (fun i _ hi => by cases hi; exact Nat.le_refl _))
    have hrow := h1.row H.out.wf
    have hz : ∀ z, a' = some z → w.heap.size ≤ z.block ∧ z.block < w'.heap.size := fun z hz => by
      obtain ⟨hg, _⟩ := h1.block hz
      refine ⟨?_, h1.lt hg⟩
      rcases h3 _ hg with h | h
      · first | omega | (simp only [Option.some.injEq] at h; omega)
      · first | omega | (rw [World.size_alloc] at h; omega)
    have HZ := Lib.hid hz
    have HR := Lib.hid hrow
    have HB2 := Lib.hid hb2
    clear h1 h2 h3 hz hrow hb2
    go_wp2
    go_ret
    exact ⟨a', c', rfl, HR.out, HZ.out, HB2.out⟩
theorem row_clip {k : IntKind} {w : World} {a : Option Addr} {n c : Nat} {l : List Int} (h : Row k w a n c l) : Row k w a n n l :=
  ⟨h.len, Nat.le_refl _, Nat.le_trans h.le h.max, h.wf, h.cells, fun ha => by have := h.isNil ha; have := h.le; omega⟩
/-- A copied item: its contents are new. -/
def CopyIt (w : World) (y : It) (e : Ending) (w' : World) : Prop :=
  ∃ s, e = .returned (.agg (encIt { y with loc := s }).toArray) ∧ Row .u8 w' s y.dat.length y.dat.length y.dat ∧ (∀ z, s = some z → w.heap.size ≤ z.block ∧ z.block < w'.heap.size) ∧ Below w.heap.size w w'
theorem own_eight {w : World} {b t : Nat} {v0 v1 v2 v3 v4 v5 v6 v7 : Value} (h : Own w b t [v0, v1, v2, v3, v4, v5, v6, v7]) :
    (w.cell? ⟨b, 0, none⟩ = some v0 ∧ w.cell? ⟨b, 1, none⟩ = some v1 ∧ w.cell? ⟨b, 2, none⟩ = some v2 ∧ w.cell? ⟨b, 3, none⟩ = some v3 ∧ w.cell? ⟨b, 4, none⟩ = some v4 ∧ w.cell? ⟨b, 5, none⟩ = some v5 ∧ w.cell? ⟨b, 6, none⟩ = some v6 ∧ w.cell? ⟨b, 7, none⟩ = some v7) ∧
    (w.frozen? ⟨b, 0, none⟩ = false ∧ w.frozen? ⟨b, 1, none⟩ = false ∧ w.frozen? ⟨b, 2, none⟩ = false ∧ w.frozen? ⟨b, 3, none⟩ = false ∧ w.frozen? ⟨b, 4, none⟩ = false ∧ w.frozen? ⟨b, 5, none⟩ = false ∧ w.frozen? ⟨b, 6, none⟩ = false ∧ w.frozen? ⟨b, 7, none⟩ = false) :=
  ⟨⟨h.cell 0 (by simp), h.cell 1 (by simp), h.cell 2 (by simp), h.cell 3 (by simp), h.cell 4 (by simp), h.cell 5 (by simp), h.cell 6 (by simp), h.cell 7 (by simp)⟩,
   ⟨h.frozen 0, h.frozen 1, h.frozen 2, h.frozen 3, h.frozen 4, h.frozen 5, h.frozen 6, h.frozen 7⟩⟩
end Go.Proofs.Ytnkpmjkbkdnfjaa
