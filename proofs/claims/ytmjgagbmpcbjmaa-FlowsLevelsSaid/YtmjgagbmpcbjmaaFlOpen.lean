/- Statements of layer 10: marks by value, opened. -/
import Derived.Test.YtmjgagbmpcbjmaaFlOne
import Derived.Deep.Fields
import Derived.Deep.Grids
import Derived.ProofKit
import Derived.OpenShut
import Derived.ChangeSame
import Derived.WideKeyArr2
import Derived.LaidMore
import Derived.Stop.Joined
namespace Go.Proofs.Ytmjgagbmpcbjmaa
open Go.ChangeShapes Go.WideShapes Go.ChangeAt Go.WideMaps Go.WideElems Go.RowKit Go.Deep

set_option maxRecDepth 100000 in
/-- The cells of an array of three integers. -/
theorem three_cells {H : Type} {enc : TypeId × Value → H} {W : World} {base fuel : Nat} {sp : Nat → Bool} {held : Bool} {l : List Value} {x : DataW H × List MemPlace} (hl : l.length = 3)
    (h : DataW.trod enc Try.prog W base sp held fuel 50 l = some x) :
    ∃ a b c : Int, l = [.int .i64 a, .int .i64 b, .int .i64 c] := by
  obtain ⟨xs, m, _, hx, _, hlen, hel⟩ := DataW.trod_array Try.underlying50 h
  have c1 : Try.prog.cellsOf 3 = 1 := by kernel_rfl
  match xs, hlen, l, hl with
  | [x0, x1, x2], _, [l0, l1, l2], _ =>
    have h0 := hel 0 (by decide)
    have h1 := hel 1 (by decide)
    have h2 := hel 2 (by decide)
    rw [c1] at h0 h1 h2
    obtain ⟨a, e0, _, _⟩ := DataW.trod_int Try.underlying3 (show DataW.trod enc Try.prog W base sp held m 3 [l0] = some x0 from h0)
    obtain ⟨b, e1, _, _⟩ := DataW.trod_int Try.underlying3 (show DataW.trod enc Try.prog W base sp held m 3 [l1] = some x1 from h1)
    obtain ⟨c, e2, _, _⟩ := DataW.trod_int Try.underlying3 (show DataW.trod enc Try.prog W base sp held m 3 [l2] = some x2 from h2)
    simp at e0 e1 e2
    subst e0 e1 e2
    exact ⟨a, b, c, rfl⟩
set_option maxRecDepth 100000 in
theorem marks_open {H : Type} {enc : TypeId × Value → H} {W : World} {base b0 : Nat} {sp : Nat → Bool} {held : Bool} {v : Value} {d : DataW H} {p : List MemPlace}
    (hv : Value.okWide Try.prog W .any b0 52 v) (h : DataW.Trod enc Try.prog W base sp held 52 v d p) :
    ∃ a0 a1 a2 a3 a4 a5 : Int, v = .agg #[.int .i64 a0, .int .i64 a1, .int .i64 a2, .int .i64 a3, .int .i64 a4, .int .i64 a5] := by
  obtain ⟨cs, rfl, hsz⟩ := okWide_struct Try.underlying52 hv
  obtain ⟨l⟩ := cs
  obtain ⟨fuel, hf⟩ := h
  have hl : l.length = 6 := hsz.trans (by kernel_rfl)
  obtain ⟨xs, m, _, hx, _, hlen, hel⟩ := DataW.trod_struct Try.underlying52 (show DataW.trod enc Try.prog W base sp held fuel 52 l = some (d, p) from hf)
  have c3 : Try.prog.cellsOf 50 = 3 := by kernel_rfl
  match xs, hlen with
  | [x0, x1], _ =>
    have h0 : DataW.trod enc Try.prog W base sp held m 50 ((l.drop 0).take (Try.prog.cellsOf 50)) = some x0 := hel 0 _ rfl
    have h1 : DataW.trod enc Try.prog W base sp held m 50 ((l.drop 3).take (Try.prog.cellsOf 50)) = some x1 := hel 1 _ rfl
    rw [c3] at h0 h1
    rw [List.drop_zero] at h0
    obtain ⟨a0, a1, a2, e0⟩ := three_cells (by simp; omega) h0
    obtain ⟨a3, a4, a5, e1⟩ := three_cells (by simp; omega) h1
    have e : l = l.take 3 ++ (l.drop 3).take 3 := by
      rw [List.take_of_length_le (l := l.drop 3) (by simp; omega), List.take_append_drop]
    rw [e0, e1] at e
    subst e
    exact ⟨a0, a1, a2, a3, a4, a5, rfl⟩
end Go.Proofs.Ytmjgagbmpcbjmaa
