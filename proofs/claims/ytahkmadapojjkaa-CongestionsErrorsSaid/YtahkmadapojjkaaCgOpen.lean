/- Arrays of integers by value, opened. -/
import Derived.Test.YtahkmadapojjkaaBase
import Derived.Deep.Fields
import Derived.ProofKit
import Derived.OpenShut
import Derived.ChangeSame
import Derived.LaidMore
import Derived.Stop.Joined
import Derived.WideKeyArr2
namespace Go.Proofs.Ytahkmadapojjkaa
open Go.ChangeShapes Go.WideShapes Go.ChangeAt Go.WideMaps Go.WideElems Go.RowKit Go.Deep

set_option maxRecDepth 100000 in
theorem marks_key : ArrKey Try.prog 23 5 3 := ⟨Try.underlying23, by kernel_rfl, by kernel_rfl, by kernel_rfl⟩
set_option maxRecDepth 100000 in
theorem marks_open {H : Type} {enc : TypeId × Value → H} {W : World} {base b0 : Nat} {sp : Nat → Bool} {held : Bool} {v : Value} {d : DataW H} {p : List MemPlace}
    (hv : Value.okWide Try.prog W .any b0 23 v) (h : DataW.Trod enc Try.prog W base sp held 23 v d p) :
    ∃ a0 a1 a2 : Int, v = .agg #[.int .u8 a0, .int .u8 a1, .int .u8 a2] ∧ (Lit.int .u8 a0).wf = true ∧ (Lit.int .u8 a1).wf = true ∧ (Lit.int .u8 a2).wf = true := by
  obtain ⟨xs, rfl, hsz⟩ := okWide_arr marks_key hv
  obtain ⟨fuel, hf⟩ := h
  obtain ⟨ys, m, rfl, hx, hlen, hn4, hel⟩ := DataW.trod_array Try.underlying23 hf
  have c1 : Try.prog.cellsOf 5 = 1 := by kernel_rfl
  rcases xs with ⟨l⟩
  have hl : l.length = 3 := by simpa using hsz
  match l, hl with
  | [x0, x1, x2], _ =>
    have key : ∀ (i : Nat) (x : Value), i < 3 → [x0, x1, x2][i]? = some x → ∃ a : Int, x = .int .u8 a ∧ (Lit.int .u8 a).wf = true := by
      intro i x hi hxi
      have he := hel i hi
      rw [c1, Nat.mul_one, List.getElem?_eq_getElem (by omega)] at he
      obtain ⟨a, e1, _, wa⟩ := DataW.trod_int Try.underlying5 he
      refine ⟨a, ?_, wa⟩
      have h2 := congrArg (fun z => z[0]?) e1
      simp only [List.getElem?_take, List.getElem?_drop, Value.cells] at h2
      have h3 : [x0, x1, x2][i]? = some (.int .u8 a) := by simpa using h2
      rw [hxi] at h3
      exact Option.some.inj h3
    obtain ⟨a0, rfl, w0⟩ := key 0 x0 (by decide) rfl
    obtain ⟨a1, rfl, w1⟩ := key 1 x1 (by decide) rfl
    obtain ⟨a2, rfl, w2⟩ := key 2 x2 (by decide) rfl
    exact ⟨a0, a1, a2, rfl, w0, w1, w2⟩
set_option maxRecDepth 100000 in
theorem arr3i_key : ArrKey Try.prog 26 3 3 := ⟨Try.underlying26, by kernel_rfl, by kernel_rfl, by kernel_rfl⟩
set_option maxRecDepth 100000 in
theorem arr3i_open {H : Type} {enc : TypeId × Value → H} {W : World} {base b0 : Nat} {sp : Nat → Bool} {held : Bool} {v : Value} {d : DataW H} {p : List MemPlace}
    (hv : Value.okWide Try.prog W .any b0 26 v) (h : DataW.Trod enc Try.prog W base sp held 26 v d p) :
    ∃ a0 a1 a2 : Int, v = .agg #[.int .i64 a0, .int .i64 a1, .int .i64 a2] ∧ (Lit.int .i64 a0).wf = true ∧ (Lit.int .i64 a1).wf = true ∧ (Lit.int .i64 a2).wf = true := by
  obtain ⟨xs, rfl, hsz⟩ := okWide_arr arr3i_key hv
  obtain ⟨fuel, hf⟩ := h
  obtain ⟨ys, m, rfl, hx, hlen, hn4, hel⟩ := DataW.trod_array Try.underlying26 hf
  have c1 : Try.prog.cellsOf 3 = 1 := by kernel_rfl
  rcases xs with ⟨l⟩
  have hl : l.length = 3 := by simpa using hsz
  match l, hl with
  | [x0, x1, x2], _ =>
    have key : ∀ (i : Nat) (x : Value), i < 3 → [x0, x1, x2][i]? = some x → ∃ a : Int, x = .int .i64 a ∧ (Lit.int .i64 a).wf = true := by
      intro i x hi hxi
      have he := hel i hi
      rw [c1, Nat.mul_one, List.getElem?_eq_getElem (by omega)] at he
      obtain ⟨a, e1, _, wa⟩ := DataW.trod_int Try.underlying3 he
      refine ⟨a, ?_, wa⟩
      have h2 := congrArg (fun z => z[0]?) e1
      simp only [List.getElem?_take, List.getElem?_drop, Value.cells] at h2
      have h3 : [x0, x1, x2][i]? = some (.int .i64 a) := by simpa using h2
      rw [hxi] at h3
      exact Option.some.inj h3
    obtain ⟨a0, rfl, w0⟩ := key 0 x0 (by decide) rfl
    obtain ⟨a1, rfl, w1⟩ := key 1 x1 (by decide) rfl
    obtain ⟨a2, rfl, w2⟩ := key 2 x2 (by decide) rfl
    exact ⟨a0, a1, a2, rfl, w0, w1, w2⟩
set_option maxRecDepth 100000 in
theorem arr2i_key : ArrKey Try.prog 52 3 2 := ⟨Try.underlying52, by kernel_rfl, by kernel_rfl, by kernel_rfl⟩
set_option maxRecDepth 100000 in
theorem arr2i_open {H : Type} {enc : TypeId × Value → H} {W : World} {base b0 : Nat} {sp : Nat → Bool} {held : Bool} {v : Value} {d : DataW H} {p : List MemPlace}
    (hv : Value.okWide Try.prog W .any b0 52 v) (h : DataW.Trod enc Try.prog W base sp held 52 v d p) :
    ∃ a0 a1 : Int, v = .agg #[.int .i64 a0, .int .i64 a1] ∧ (Lit.int .i64 a0).wf = true ∧ (Lit.int .i64 a1).wf = true := by
  obtain ⟨xs, rfl, hsz⟩ := okWide_arr arr2i_key hv
  obtain ⟨fuel, hf⟩ := h
  obtain ⟨ys, m, rfl, hx, hlen, hn4, hel⟩ := DataW.trod_array Try.underlying52 hf
  have c1 : Try.prog.cellsOf 3 = 1 := by kernel_rfl
  rcases xs with ⟨l⟩
  have hl : l.length = 2 := by simpa using hsz
  match l, hl with
  | [x0, x1], _ =>
    have key : ∀ (i : Nat) (x : Value), i < 2 → [x0, x1][i]? = some x → ∃ a : Int, x = .int .i64 a ∧ (Lit.int .i64 a).wf = true := by
      intro i x hi hxi
      have he := hel i hi
      rw [c1, Nat.mul_one, List.getElem?_eq_getElem (by omega)] at he
      obtain ⟨a, e1, _, wa⟩ := DataW.trod_int Try.underlying3 he
      refine ⟨a, ?_, wa⟩
      have h2 := congrArg (fun z => z[0]?) e1
      simp only [List.getElem?_take, List.getElem?_drop, Value.cells] at h2
      have h3 : [x0, x1][i]? = some (.int .i64 a) := by simpa using h2
      rw [hxi] at h3
      exact Option.some.inj h3
    obtain ⟨a0, rfl, w0⟩ := key 0 x0 (by decide) rfl
    obtain ⟨a1, rfl, w1⟩ := key 1 x1 (by decide) rfl
    exact ⟨a0, a1, rfl, w0, w1⟩
end Go.Proofs.Ytahkmadapojjkaa
