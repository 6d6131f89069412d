/- Parameters opened: arrays of two numbers. -/
import Derived.Test.YtpjdodgbidkblaaUnBase
import Derived.Deep.Fields
import Derived.WideKeyArr2
import Derived.Deep.Grids
import Derived.ProofKit
import Derived.OpenShut
import Derived.ChangeSame
import Derived.LaidMore
import Derived.Stop.Joined
namespace Go.Proofs.Ytpjdodgbidkblaa
open Go.ChangeShapes Go.WideShapes Go.ChangeAt Go.WideMaps Go.WideElems Go.RowKit Go.Deep

theorem wf_u8q {x : Int} (h : (Lit.int .u8 x).wf = true) : 0 ≤ x ∧ x ≤ 255 := by
  simpa [Lit.wf, IntKind.min, IntKind.max, IntKind.bits, IntKind.signed] using h
theorem wf_u16q {x : Int} (h : (Lit.int .u16 x).wf = true) : 0 ≤ x ∧ x ≤ 65535 := by
  simpa [Lit.wf, IntKind.min, IntKind.max, IntKind.bits, IntKind.signed] using h
theorem okWide_array {P : Program} {w : World} {r : Reach} {b0 n : Nat} {t e : TypeId} {v : Value} (hu : P.underlying t = some (.array n e)) (h : Value.okWide P w r b0 t v) : ∃ cs : Array Value, v = .agg cs ∧ cs.size = P.cellsOf t := by
  simp only [Value.okWide, hu] at h
  obtain ⟨cs, h1, h2, _⟩ := h
  exact ⟨cs, h1, h2⟩
set_option maxRecDepth 100000 in
theorem u16x2_open {H : Type} {enc : TypeId × Value → H} {W : World} {base b0 : Nat} {sp : Nat → Bool} {held : Bool} {v : Value} {d : DataW H} {p : List MemPlace}
    (hv : Value.okWide Try.prog W .any b0 40 v) (h : DataW.Trod enc Try.prog W base sp held 40 v d p) :
    ∃ a b : Nat, v = .agg #[.int .u16 (a : Int), .int .u16 (b : Int)] ∧ a ≤ 65535 ∧ b ≤ 65535 := by
  obtain ⟨cs, rfl, hsz⟩ := okWide_array Try.underlying40 hv
  obtain ⟨l⟩ := cs
  obtain ⟨fuel, hf⟩ := h
  have hl : l.length = 2 := hsz.trans (by kernel_rfl)
  obtain ⟨xs, m, _, hx, _, hlen, hel⟩ := DataW.trod_array Try.underlying40 (show DataW.trod enc Try.prog W base sp held fuel 40 l = some (d, p) from hf)
  have c1 : Try.prog.cellsOf 25 = 1 := by kernel_rfl
  match xs, hlen, l, hl with
  | [x0, x1], _, [l0, l1], _ =>
    have h0 := hel 0 (by decide)
    have h1 := hel 1 (by decide)
    rw [c1] at h0 h1
    obtain ⟨a, e0, _, w0⟩ := DataW.trod_int Try.underlying25 (show DataW.trod enc Try.prog W base sp held m 25 [l0] = some x0 from h0)
    obtain ⟨b, e1, _, w1⟩ := DataW.trod_int Try.underlying25 (show DataW.trod enc Try.prog W base sp held m 25 [l1] = some x1 from h1)
    simp at e0 e1
    subst e0 e1
    have w0 := wf_u16q w0
    have w1 := wf_u16q w1
    refine ⟨a.toNat, b.toNat, ?_, by omega, by omega⟩
    rw [Int.toNat_of_nonneg w0.1, Int.toNat_of_nonneg w1.1]
set_option maxRecDepth 100000 in
theorem oct2_open {H : Type} {enc : TypeId × Value → H} {W : World} {base b0 : Nat} {sp : Nat → Bool} {held : Bool} {v : Value} {d : DataW H} {p : List MemPlace}
    (hv : Value.okWide Try.prog W .any b0 41 v) (h : DataW.Trod enc Try.prog W base sp held 41 v d p) :
    ∃ a b : Nat, v = .agg #[.int .u8 (a : Int), .int .u8 (b : Int)] ∧ a ≤ 255 ∧ b ≤ 255 := by
  obtain ⟨cs, rfl, hsz⟩ := okWide_array Try.underlying41 hv
  obtain ⟨l⟩ := cs
  obtain ⟨fuel, hf⟩ := h
  have hl : l.length = 2 := hsz.trans (by kernel_rfl)
  obtain ⟨xs, m, _, hx, _, hlen, hel⟩ := DataW.trod_array Try.underlying41 (show DataW.trod enc Try.prog W base sp held fuel 41 l = some (d, p) from hf)
  have c1 : Try.prog.cellsOf 5 = 1 := by kernel_rfl
  match xs, hlen, l, hl with
  | [x0, x1], _, [l0, l1], _ =>
    have h0 := hel 0 (by decide)
    have h1 := hel 1 (by decide)
    rw [c1] at h0 h1
    obtain ⟨a, e0, _, w0⟩ := DataW.trod_int Try.underlying5 (show DataW.trod enc Try.prog W base sp held m 5 [l0] = some x0 from h0)
    obtain ⟨b, e1, _, w1⟩ := DataW.trod_int Try.underlying5 (show DataW.trod enc Try.prog W base sp held m 5 [l1] = some x1 from h1)
    simp at e0 e1
    subst e0 e1
    have w0 := wf_u8q w0
    have w1 := wf_u8q w1
    refine ⟨a.toNat, b.toNat, ?_, by omega, by omega⟩
    rw [Int.toNat_of_nonneg w0.1, Int.toNat_of_nonneg w1.1]
end Go.Proofs.Ytpjdodgbidkblaa
