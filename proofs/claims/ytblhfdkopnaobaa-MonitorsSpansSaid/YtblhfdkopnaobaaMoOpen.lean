/- The arguments of layer 8's statements by value, opened. -/
import Derived.Test.YtblhfdkopnaobaaBase
import Derived.Deep.Fields
import Derived.ProofKit
import Derived.OpenShut
import Derived.ChangeSame
import Derived.WideKeyArr2
import Derived.LaidMore
import Derived.Stop.Joined
namespace Go.Proofs.Ytblhfdkopnaobaa
open Go.ChangeShapes Go.WideShapes Go.ChangeAt Go.WideMaps Go.WideElems Go.RowKit Go.Deep

theorem open_agg5 {H : Type} {enc : TypeId × Value → H} {P : Program} {w : World} {base : Nat} {spare : Nat → Bool} {held : Bool} {r : Reach} {b0 : Nat} {t : TypeId} {f0 f1 f2 f3 f4 : Field} {v : Value} {d : DataW H} {p : List MemPlace}
    (hs : P.underlying t = some (.struct #[f0, f1, f2, f3, f4])) (hone : oneCellFields P #[f0, f1, f2, f3, f4] = true) (hC : P.cellsOf t = 5)
    (hv : Value.okWide P w r b0 t v) (h : DataW.Trod enc P w base spare held t v d p) :
    ∃ (v0 v1 v2 v3 v4 : Value) (y0 y1 y2 y3 y4 : DataW H × List MemPlace) (n : Nat), v = .agg #[v0, v1, v2, v3, v4] ∧ DataW.trod enc P w base spare held n f0.type [v0] = some y0 ∧ DataW.trod enc P w base spare held n f1.type [v1] = some y1 ∧ DataW.trod enc P w base spare held n f2.type [v2] = some y2 ∧ DataW.trod enc P w base spare held n f3.type [v3] = some y3 ∧ DataW.trod enc P w base spare held n f4.type [v4] = some y4 := by
  obtain ⟨cs, rfl, hsz⟩ := okWide_struct hs hv
  obtain ⟨l⟩ := cs
  match l, hsz.trans hC with
  | [c0, c1, c2, c3, c4], _ =>
    obtain ⟨fuel, hf⟩ := h
    obtain ⟨xs, n, _, hx, _, hlen, hg⟩ := DataW.trod_struct hs hf
    obtain ⟨o0, k0⟩ := hone_of hone 0 f0 rfl
    obtain ⟨o1, k1⟩ := hone_of hone 1 f1 rfl
    obtain ⟨o2, k2⟩ := hone_of hone 2 f2 rfl
    obtain ⟨o3, k3⟩ := hone_of hone 3 f3 rfl
    obtain ⟨o4, k4⟩ := hone_of hone 4 f4 rfl
    match xs, hlen with
    | [y0, y1, y2, y3, y4], _ =>
      exact ⟨c0, c1, c2, c3, c4, y0, y1, y2, y3, y4, n, rfl, by simpa [Value.cells, o0, k0] using hg 0 f0 rfl, by simpa [Value.cells, o1, k1] using hg 1 f1 rfl, by simpa [Value.cells, o2, k2] using hg 2 f2 rfl, by simpa [Value.cells, o3, k3] using hg 3 f3 rfl, by simpa [Value.cells, o4, k4] using hg 4 f4 rfl⟩
set_option maxRecDepth 100000 in
theorem m_open {H : Type} {enc : TypeId × Value → H} {W : World} {base b0 : Nat} {held : Bool} {v : Value} {d : DataW H} {p : List MemPlace}
    (hv : Value.okWide Try.prog W .any b0 23 v) (h : DataW.Trod enc Try.prog W base (fun _ => true) held 23 v d p) :
    ∃ (a0 a1 a2 a3 a4 : Nat), v = .agg #[.int .u8 (a0 : Int), .int .u8 (a1 : Int), .int .u8 (a2 : Int), .int .u8 (a3 : Int), .int .u8 (a4 : Int)] ∧ a0 ≤ 255 ∧ a1 ≤ 255 ∧ a2 ≤ 255 ∧ a3 ≤ 255 ∧ a4 ≤ 255 := by
  obtain ⟨v0, v1, v2, v3, v4, y0, y1, y2, y3, y4, n, rfl, t0, t1, t2, t3, t4⟩ := open_agg5 Try.underlying23 (by kernel_rfl) (by kernel_rfl) hv h
  obtain ⟨a0, e0, _, w0⟩ := DataW.trod_int Try.underlying5 t0
  obtain ⟨a1, e1, _, w1⟩ := DataW.trod_int Try.underlying5 t1
  obtain ⟨a2, e2, _, w2⟩ := DataW.trod_int Try.underlying5 t2
  obtain ⟨a3, e3, _, w3⟩ := DataW.trod_int Try.underlying5 t3
  obtain ⟨a4, e4, _, w4⟩ := DataW.trod_int Try.underlying5 t4
  simp at e0 e1 e2 e3 e4
  subst e0 e1 e2 e3 e4
  rw [wf_u8] at w0 w1 w2 w3 w4
  refine ⟨a0.toNat, a1.toNat, a2.toNat, a3.toNat, a4.toNat, ?_, by omega, by omega, by omega, by omega, by omega⟩
  rw [Int.toNat_of_nonneg w0.1, Int.toNat_of_nonneg w1.1, Int.toNat_of_nonneg w2.1, Int.toNat_of_nonneg w3.1, Int.toNat_of_nonneg w4.1]
set_option maxRecDepth 100000 in
theorem arr4_key : ArrKey Try.prog 42 3 4 := ⟨Try.underlying42, by kernel_rfl, by kernel_rfl, by kernel_rfl⟩
set_option maxRecDepth 100000 in
theorem arr4_open {H : Type} {enc : TypeId × Value → H} {W : World} {base b0 : Nat} {sp : Nat → Bool} {held : Bool} {v : Value} {d : DataW H} {p : List MemPlace}
    (hv : Value.okWide Try.prog W .any b0 42 v) (h : DataW.Trod enc Try.prog W base sp held 42 v d p) :
    ∃ a0 a1 a2 a3 : Int, v = .agg #[.int .i64 a0, .int .i64 a1, .int .i64 a2, .int .i64 a3] ∧ (Lit.int .i64 a0).wf = true ∧ (Lit.int .i64 a1).wf = true ∧ (Lit.int .i64 a2).wf = true ∧ (Lit.int .i64 a3).wf = true := by
  obtain ⟨xs, rfl, hsz⟩ := okWide_arr arr4_key hv
  obtain ⟨fuel, hf⟩ := h
  obtain ⟨ys, m, rfl, hx, hlen, hn4, hel⟩ := DataW.trod_array Try.underlying42 hf
  have c1 : Try.prog.cellsOf 3 = 1 := by kernel_rfl
  rcases xs with ⟨l⟩
  have hl : l.length = 4 := by simpa using hsz
  match l, hl with
  | [x0, x1, x2, x3], _ =>
    have key : ∀ (i : Nat) (x : Value), i < 4 → [x0, x1, x2, x3][i]? = some x → ∃ a : Int, x = .int .i64 a ∧ (Lit.int .i64 a).wf = true := by
      intro i x hi hxi
      have he := hel i hi
      rw [c1, Nat.mul_one, List.getElem?_eq_getElem (by omega)] at he
      obtain ⟨a, e1, _, wa⟩ := DataW.trod_int Try.underlying3 he
      refine ⟨a, ?_, wa⟩
      have h2 := congrArg (fun z => z[0]?) e1
      simp only [List.getElem?_take, List.getElem?_drop, Value.cells] at h2
      have h3 : [x0, x1, x2, x3][i]? = some (.int .i64 a) := by simpa using h2
      rw [hxi] at h3
      exact Option.some.inj h3
    obtain ⟨a0, rfl, w0⟩ := key 0 x0 (by decide) rfl
    obtain ⟨a1, rfl, w1⟩ := key 1 x1 (by decide) rfl
    obtain ⟨a2, rfl, w2⟩ := key 2 x2 (by decide) rfl
    obtain ⟨a3, rfl, w3⟩ := key 3 x3 (by decide) rfl
    exact ⟨a0, a1, a2, a3, rfl, w0, w1, w2, w3⟩
end Go.Proofs.Ytblhfdkopnaobaa
