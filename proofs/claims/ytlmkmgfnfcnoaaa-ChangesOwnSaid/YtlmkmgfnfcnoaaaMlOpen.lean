/- Layer 16's parameters opened: the statements' M, two numbers of 16 bits. -/
import Derived.Test.YtlmkmgfnfcnoaaaUnBase
import Derived.Deep.Fields
import Derived.WideKeyArr2
import Derived.Deep.Grids
import Derived.ProofKit
import Derived.OpenShut
import Derived.ChangeSame
import Derived.LaidMore
import Derived.Stop.Joined
namespace Go.Proofs.Ytlmkmgfnfcnoaaa
open Go.ChangeShapes Go.WideShapes Go.ChangeAt Go.WideMaps Go.WideElems Go.RowKit Go.Deep

theorem cell_u8 : Try.prog.cellsOf 5 = 1 := by kernel_rfl
theorem cell_u16 : Try.prog.cellsOf 22 = 1 := by kernel_rfl
theorem cell_sl : Try.prog.cellsOf 34 = 1 := by kernel_rfl
theorem bytes_open {H : Type} {enc : TypeId × Value → H} {W : World} {base : Nat} {held : Bool} {fuel : Nat} {v : Value} {x : DataW H × List MemPlace}
    (h : DataW.trod enc Try.prog W base (fun _ => true) held fuel 34 [v] = some x) : ∃ s n c l, v = .slice s n c ∧ Row .u8 W s n c l := by
  rcases open_ints Try.underlying34 Try.underlying5 (by kernel_rfl) h with ⟨hcs, _⟩ | ⟨x, l, c, zs, hcs, _, hl, hm, hz, _, hcell, hwz⟩
  · simp at hcs
    exact ⟨none, 0, 0, [], hcs, Row.of_nil _ _⟩
  · simp at hcs
    exact ⟨_, _, _, _, hcs, Row.of_open (.inr ⟨_, rfl, hl, hm, by simpa using hz, hcell, hwz⟩)⟩
set_option maxRecDepth 100000 in
theorem mlaw_cells {H : Type} {enc : TypeId × Value → H} {W : World} {base fuel : Nat} {held : Bool} {l : List Value} {x : DataW H × List MemPlace} (hl : l.length = 7)
    (h : DataW.trod enc Try.prog W base (fun _ => true) held fuel 51 l = some x) :
    ∃ (a0 a1 a2 a3 a4 a5 : Int) (s : Option Addr) (m c : Nat) (r : List Int), l = [.int .u8 a0, .int .u8 a1, .int .u8 a2, .int .u16 a3, .int .u16 a4, .int .u8 a5, .slice s m c] ∧ (Lit.int .u8 a0).wf = true ∧ (Lit.int .u8 a1).wf = true ∧ (Lit.int .u8 a2).wf = true ∧ (Lit.int .u16 a3).wf = true ∧ (Lit.int .u16 a4).wf = true ∧ (Lit.int .u8 a5).wf = true ∧ Row .u8 W s m c r := by
  match l, hl with
  | [c0, c1, c2, c3, c4, c5, c6], _ =>
    obtain ⟨xs, n, _, hx, _, hlen, hg⟩ := DataW.trod_struct Try.underlying51 h
    match xs, hlen with
    | [y0, y1, y2, y3, y4, y5, y6], _ =>
      have t0 : DataW.trod enc Try.prog W base (fun _ => true) held n 5 [c0] = some y0 := by simpa [cell_u8] using hg 0 _ rfl
      obtain ⟨a0, e0, _, w0⟩ := DataW.trod_int Try.underlying5 t0
      simp at e0
      subst e0
      have t1 : DataW.trod enc Try.prog W base (fun _ => true) held n 5 [c1] = some y1 := by simpa [cell_u8] using hg 1 _ rfl
      obtain ⟨a1, e1, _, w1⟩ := DataW.trod_int Try.underlying5 t1
      simp at e1
      subst e1
      have t2 : DataW.trod enc Try.prog W base (fun _ => true) held n 5 [c2] = some y2 := by simpa [cell_u8] using hg 2 _ rfl
      obtain ⟨a2, e2, _, w2⟩ := DataW.trod_int Try.underlying5 t2
      simp at e2
      subst e2
      have t3 : DataW.trod enc Try.prog W base (fun _ => true) held n 22 [c3] = some y3 := by simpa [cell_u16] using hg 3 _ rfl
      obtain ⟨a3, e3, _, w3⟩ := DataW.trod_int Try.underlying22 t3
      simp at e3
      subst e3
      have t4 : DataW.trod enc Try.prog W base (fun _ => true) held n 22 [c4] = some y4 := by simpa [cell_u16] using hg 4 _ rfl
      obtain ⟨a4, e4, _, w4⟩ := DataW.trod_int Try.underlying22 t4
      simp at e4
      subst e4
      have t5 : DataW.trod enc Try.prog W base (fun _ => true) held n 5 [c5] = some y5 := by simpa [cell_u8] using hg 5 _ rfl
      obtain ⟨a5, e5, _, w5⟩ := DataW.trod_int Try.underlying5 t5
      simp at e5
      subst e5
      have t6 : DataW.trod enc Try.prog W base (fun _ => true) held n 34 [c6] = some y6 := by simpa [cell_sl] using hg 6 _ rfl
      obtain ⟨s, m, c, r, rfl, hr⟩ := bytes_open t6
      exact ⟨a0, a1, a2, a3, a4, a5, s, m, c, r, rfl, w0, w1, w2, w3, w4, w5, hr⟩
set_option maxRecDepth 100000 in
theorem mlaw_open {H : Type} {enc : TypeId × Value → H} {W : World} {base b0 : Nat} {held : Bool} {v : Value} {d : DataW H} {p : List MemPlace}
    (hv : Value.okWide Try.prog W .any b0 51 v) (h : DataW.Trod enc Try.prog W base (fun _ => true) held 51 v d p) :
    ∃ (a0 a1 a2 a3 a4 a5 : Int) (s : Option Addr) (m c : Nat) (r : List Int), v = .agg #[.int .u8 a0, .int .u8 a1, .int .u8 a2, .int .u16 a3, .int .u16 a4, .int .u8 a5, .slice s m c] ∧ (Lit.int .u8 a0).wf = true ∧ (Lit.int .u8 a1).wf = true ∧ (Lit.int .u8 a2).wf = true ∧ (Lit.int .u16 a3).wf = true ∧ (Lit.int .u16 a4).wf = true ∧ (Lit.int .u8 a5).wf = true ∧ Row .u8 W s m c r := by
  obtain ⟨cs, rfl, hsz⟩ := okWide_struct Try.underlying51 hv
  obtain ⟨l⟩ := cs
  obtain ⟨fuel, hf⟩ := h
  obtain ⟨a0, a1, a2, a3, a4, a5, s, m, c, r, e, h⟩ := mlaw_cells (l := l) (hsz.trans (by kernel_rfl)) hf
  subst e
  exact ⟨a0, a1, a2, a3, a4, a5, s, m, c, r, rfl, h⟩
theorem wf_u16q {x : Int} (h : (Lit.int .u16 x).wf = true) : 0 ≤ x ∧ x ≤ 65535 := by
  simpa [Lit.wf, IntKind.min, IntKind.max, IntKind.bits, IntKind.signed] using h
theorem okWide_array {P : Program} {w : World} {r : Reach} {b0 n : Nat} {t e : TypeId} {v : Value} (hu : P.underlying t = some (.array n e)) (h : Value.okWide P w r b0 t v) : ∃ cs : Array Value, v = .agg cs ∧ cs.size = P.cellsOf t := by
  simp only [Value.okWide, hu] at h
  obtain ⟨cs, h1, h2, _⟩ := h
  exact ⟨cs, h1, h2⟩
set_option maxRecDepth 100000 in
theorem u16x2_open {H : Type} {enc : TypeId × Value → H} {W : World} {base b0 : Nat} {sp : Nat → Bool} {held : Bool} {v : Value} {d : DataW H} {p : List MemPlace}
    (hv : Value.okWide Try.prog W .any b0 23 v) (h : DataW.Trod enc Try.prog W base sp held 23 v d p) :
    ∃ a b : Nat, v = .agg #[.int .u16 (a : Int), .int .u16 (b : Int)] ∧ a ≤ 65535 ∧ b ≤ 65535 := by
  obtain ⟨cs, rfl, hsz⟩ := okWide_array Try.underlying23 hv
  obtain ⟨l⟩ := cs
  obtain ⟨fuel, hf⟩ := h
  have hl : l.length = 2 := hsz.trans (by kernel_rfl)
  obtain ⟨xs, m, _, hx, _, hlen, hel⟩ := DataW.trod_array Try.underlying23 (show DataW.trod enc Try.prog W base sp held fuel 23 l = some (d, p) from hf)
  have c1 : Try.prog.cellsOf 22 = 1 := by kernel_rfl
  match xs, hlen, l, hl with
  | [x0, x1], _, [l0, l1], _ =>
    have h0 := hel 0 (by decide)
    have h1 := hel 1 (by decide)
    rw [c1] at h0 h1
    obtain ⟨a, e0, _, w0⟩ := DataW.trod_int Try.underlying22 (show DataW.trod enc Try.prog W base sp held m 22 [l0] = some x0 from h0)
    obtain ⟨b, e1, _, w1⟩ := DataW.trod_int Try.underlying22 (show DataW.trod enc Try.prog W base sp held m 22 [l1] = some x1 from h1)
    simp at e0 e1
    subst e0 e1
    have w0 := wf_u16q w0
    have w1 := wf_u16q w1
    refine ⟨a.toNat, b.toNat, ?_, by omega, by omega⟩
    rw [Int.toNat_of_nonneg w0.1, Int.toNat_of_nonneg w1.1]
end Go.Proofs.Ytlmkmgfnfcnoaaa
