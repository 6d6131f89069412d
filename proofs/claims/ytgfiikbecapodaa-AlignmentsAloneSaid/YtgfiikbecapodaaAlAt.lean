/- Alignments: an alignment in memory. -/
import Derived.Test.YtgfiikbecapodaaAlMath
import Derived.Test.YtgfiikbecapodaaMoSum
namespace Go.Proofs.Ytgfiikbecapodaa
open Go.RowKit

def Ti.cells (t : Ti) : List Value := [int t.seek, int t.hold, int t.normal, int t.emer, int t.few, int t.fewer, int t.most]
def Al.cells (x : Al) (v : Value) : List Value := [int x.t.seek, int x.t.hold, int x.t.normal, int x.t.emer, int x.t.few, int x.t.fewer, int x.t.most, .int .u8 (x.ph : Int), int x.left, .bool x.own, .bool x.urg, int x.prov, v]
/-- The cells of an alignment. -/
abbrev Raw (w : World) (b : Nat) (x : Al) (v : Value) : Prop := Own w b 58 (x.cells v)
theorem Raw.c0 {w : World} {b : Nat} {x : Al} {v : Value} (h : Raw w b x v) : w.cell? ⟨b, 0, none⟩ = some (.int .i64 (x.t.seek : Int)) := Own.cell h 0 (by simp [Al.cells])
theorem Raw.c1 {w : World} {b : Nat} {x : Al} {v : Value} (h : Raw w b x v) : w.cell? ⟨b, 1, none⟩ = some (.int .i64 (x.t.hold : Int)) := Own.cell h 1 (by simp [Al.cells])
theorem Raw.c2 {w : World} {b : Nat} {x : Al} {v : Value} (h : Raw w b x v) : w.cell? ⟨b, 2, none⟩ = some (.int .i64 (x.t.normal : Int)) := Own.cell h 2 (by simp [Al.cells])
theorem Raw.c3 {w : World} {b : Nat} {x : Al} {v : Value} (h : Raw w b x v) : w.cell? ⟨b, 3, none⟩ = some (.int .i64 (x.t.emer : Int)) := Own.cell h 3 (by simp [Al.cells])
theorem Raw.c4 {w : World} {b : Nat} {x : Al} {v : Value} (h : Raw w b x v) : w.cell? ⟨b, 4, none⟩ = some (.int .i64 (x.t.few : Int)) := Own.cell h 4 (by simp [Al.cells])
theorem Raw.c5 {w : World} {b : Nat} {x : Al} {v : Value} (h : Raw w b x v) : w.cell? ⟨b, 5, none⟩ = some (.int .i64 (x.t.fewer : Int)) := Own.cell h 5 (by simp [Al.cells])
theorem Raw.c6 {w : World} {b : Nat} {x : Al} {v : Value} (h : Raw w b x v) : w.cell? ⟨b, 6, none⟩ = some (.int .i64 (x.t.most : Int)) := Own.cell h 6 (by simp [Al.cells])
theorem Raw.ph {w : World} {b : Nat} {x : Al} {v : Value} (h : Raw w b x v) : w.cell? ⟨b, 7, none⟩ = some (.int .u8 (x.ph : Int)) := Own.cell h 7 (by simp [Al.cells])
theorem Raw.left {w : World} {b : Nat} {x : Al} {v : Value} (h : Raw w b x v) : w.cell? ⟨b, 8, none⟩ = some (.int .i64 (x.left : Int)) := Own.cell h 8 (by simp [Al.cells])
theorem Raw.ow {w : World} {b : Nat} {x : Al} {v : Value} (h : Raw w b x v) : w.cell? ⟨b, 9, none⟩ = some (.bool x.own) := Own.cell h 9 (by simp [Al.cells])
theorem Raw.urg {w : World} {b : Nat} {x : Al} {v : Value} (h : Raw w b x v) : w.cell? ⟨b, 10, none⟩ = some (.bool x.urg) := Own.cell h 10 (by simp [Al.cells])
theorem Raw.prov {w : World} {b : Nat} {x : Al} {v : Value} (h : Raw w b x v) : w.cell? ⟨b, 11, none⟩ = some (.int .i64 (x.prov : Int)) := Own.cell h 11 (by simp [Al.cells])
theorem Raw.v {w : World} {b : Nat} {x : Al} {v : Value} (h : Raw w b x v) : w.cell? ⟨b, 12, none⟩ = some (v) := Own.cell h 12 (by simp [Al.cells])
/-- At block b lies the alignment x; g: the block of its monitor while it proves. -/
structure AlAt (w : World) (b g : Nat) (x : Al) : Prop where
  own : ∃ v, Raw w b x v ∧ (x.ph = 3 → v = mval g)
  mon : x.ph = 3 → SuAt w g x.wr x.lim ∧ g ≠ b
  fit : x.Fit
theorem AlAt.lt {w : World} {b g : Nat} {x : Al} (h : AlAt w b g x) : b < w.heap.size := by obtain ⟨v, h, _⟩ := h.own; exact h.lt
theorem AlAt.exc {w w' : World} {b g : Nat} {x : Al} {S : Nat → Prop} (h : AlAt w b g x) (hx : Exc S w w') (hb : ¬ S b) (hg : ¬ S g) : AlAt w' b g x := by
  obtain ⟨v, ho, hv⟩ := h.own
  refine ⟨⟨v, ?_, hv⟩, fun e => ⟨(h.mon e).1.exc hx hg, (h.mon e).2⟩, h.fit⟩
  unfold Raw Own
  rw [hx.block b ho.lt hb]; exact ho
theorem AlAt.below {w w' : World} {b g : Nat} {x : Al} (h : AlAt w b g x) (hx : Below w.heap.size w w') : AlAt w' b g x := h.exc (S := fun _ => False) (Exc.of_below hx) (fun h => h) (fun h => h)
theorem AlAt.z {w : World} {b g : Nat} {x : Al} (h : AlAt w b g x) (j : Nat) : w.frozen? ⟨b, j, none⟩ = false := by obtain ⟨v, h, _⟩ := h.own; exact h.frozen j
theorem AlAt.c0 {w : World} {b g : Nat} {x : Al} (h : AlAt w b g x) : w.cell? ⟨b, 0, none⟩ = some (.int .i64 (x.t.seek : Int)) := by obtain ⟨v, h, _⟩ := h.own; exact Raw.c0 h
theorem AlAt.c1 {w : World} {b g : Nat} {x : Al} (h : AlAt w b g x) : w.cell? ⟨b, 1, none⟩ = some (.int .i64 (x.t.hold : Int)) := by obtain ⟨v, h, _⟩ := h.own; exact Raw.c1 h
theorem AlAt.c2 {w : World} {b g : Nat} {x : Al} (h : AlAt w b g x) : w.cell? ⟨b, 2, none⟩ = some (.int .i64 (x.t.normal : Int)) := by obtain ⟨v, h, _⟩ := h.own; exact Raw.c2 h
theorem AlAt.c3 {w : World} {b g : Nat} {x : Al} (h : AlAt w b g x) : w.cell? ⟨b, 3, none⟩ = some (.int .i64 (x.t.emer : Int)) := by obtain ⟨v, h, _⟩ := h.own; exact Raw.c3 h
theorem AlAt.c4 {w : World} {b g : Nat} {x : Al} (h : AlAt w b g x) : w.cell? ⟨b, 4, none⟩ = some (.int .i64 (x.t.few : Int)) := by obtain ⟨v, h, _⟩ := h.own; exact Raw.c4 h
theorem AlAt.c5 {w : World} {b g : Nat} {x : Al} (h : AlAt w b g x) : w.cell? ⟨b, 5, none⟩ = some (.int .i64 (x.t.fewer : Int)) := by obtain ⟨v, h, _⟩ := h.own; exact Raw.c5 h
theorem AlAt.c6 {w : World} {b g : Nat} {x : Al} (h : AlAt w b g x) : w.cell? ⟨b, 6, none⟩ = some (.int .i64 (x.t.most : Int)) := by obtain ⟨v, h, _⟩ := h.own; exact Raw.c6 h
theorem AlAt.ph {w : World} {b g : Nat} {x : Al} (h : AlAt w b g x) : w.cell? ⟨b, 7, none⟩ = some (.int .u8 (x.ph : Int)) := by obtain ⟨v, h, _⟩ := h.own; exact Raw.ph h
theorem AlAt.left {w : World} {b g : Nat} {x : Al} (h : AlAt w b g x) : w.cell? ⟨b, 8, none⟩ = some (.int .i64 (x.left : Int)) := by obtain ⟨v, h, _⟩ := h.own; exact Raw.left h
theorem AlAt.ow {w : World} {b g : Nat} {x : Al} (h : AlAt w b g x) : w.cell? ⟨b, 9, none⟩ = some (.bool x.own) := by obtain ⟨v, h, _⟩ := h.own; exact Raw.ow h
theorem AlAt.urg {w : World} {b g : Nat} {x : Al} (h : AlAt w b g x) : w.cell? ⟨b, 10, none⟩ = some (.bool x.urg) := by obtain ⟨v, h, _⟩ := h.own; exact Raw.urg h
theorem AlAt.prov {w : World} {b g : Nat} {x : Al} (h : AlAt w b g x) : w.cell? ⟨b, 11, none⟩ = some (.int .i64 (x.prov : Int)) := by obtain ⟨v, h, _⟩ := h.own; exact Raw.prov h
end Go.Proofs.Ytgfiikbecapodaa
