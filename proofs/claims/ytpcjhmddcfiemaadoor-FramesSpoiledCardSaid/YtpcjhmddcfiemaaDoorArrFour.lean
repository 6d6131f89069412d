/- An array of four octets by value, opened. -/
import Derived.Test.YtpcjhmddcfiemaaDoorLaidFlag
import Derived.WideKeyArr2
namespace Go.Proofs.YtpcjhmddcfiemaaDoor
open Go.ChangeShapes Go.WideShapes Go.ChangeAt Go.WideMaps Go.WideElems Go.RowKit

theorem arr4_key : ArrKey Tryd.prog 52 5 4 := ⟨Tryd.underlying52, by kernel_rfl, by kernel_rfl, by kernel_rfl⟩
theorem arr4_open {H : Type} {enc : TypeId × Value → H} {W : World} {base b0 : Nat} {sp : Nat → Bool} {held : Bool} {v : Value} {d : DataW H} {p : List MemPlace}
    (hv : Value.okWide Tryd.prog W .any b0 52 v) (h : DataW.Trod enc Tryd.prog W base sp held 52 v d p) :
    ∃ a0 a1 a2 a3 : Int, v = .agg #[.int .u8 a0, .int .u8 a1, .int .u8 a2, .int .u8 a3] ∧ (Lit.int .u8 a0).wf = true ∧ (Lit.int .u8 a1).wf = true ∧ (Lit.int .u8 a2).wf = true ∧ (Lit.int .u8 a3).wf = true := by
  obtain ⟨xs, rfl, hsz⟩ := okWide_arr arr4_key hv
  obtain ⟨fuel, hf⟩ := h
  obtain ⟨ys, m, rfl, hx, hlen, hn4, hel⟩ := DataW.trod_array Tryd.underlying52 hf
  have c1 : Tryd.prog.cellsOf 5 = 1 := by kernel_rfl
  rcases xs with ⟨l⟩
  have hl : l.length = 4 := by simpa using hsz
  match l, hl with
  | [x0, x1, x2, x3], _ =>
    have key : ∀ (i : Nat) (x : Value), i < 4 → [x0, x1, x2, x3][i]? = some x → ∃ a : Int, x = .int .u8 a ∧ (Lit.int .u8 a).wf = true := by
      intro i x hi hxi
      have he := hel i hi
      rw [c1, Nat.mul_one, List.getElem?_eq_getElem (by omega)] at he
      obtain ⟨a, e1, _, wa⟩ := DataW.trod_int Tryd.underlying5 he
      refine ⟨a, ?_, wa⟩
      have h2 := congrArg (fun z => z[0]?) e1
      simp only [List.getElem?_take, List.getElem?_drop, Value.cells] at h2
      have h3 : [x0, x1, x2, x3][i]? = some (.int .u8 a) := by simpa using h2
      rw [hxi] at h3
      exact Option.some.inj h3
    obtain ⟨a0, rfl, w0⟩ := key 0 x0 (by decide) rfl
    obtain ⟨a1, rfl, w1⟩ := key 1 x1 (by decide) rfl
    obtain ⟨a2, rfl, w2⟩ := key 2 x2 (by decide) rfl
    obtain ⟨a3, rfl, w3⟩ := key 3 x3 (by decide) rfl
    exact ⟨a0, a1, a2, a3, rfl, w0, w1, w2, w3⟩
end Go.Proofs.YtpcjhmddcfiemaaDoor
