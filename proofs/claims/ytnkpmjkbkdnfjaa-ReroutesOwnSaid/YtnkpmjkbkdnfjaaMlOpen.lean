/- Layer 16's parameters opened: the statements' M, two numbers of 16 bits. -/
import Derived.Test.YtnkpmjkbkdnfjaaUnBase
import Derived.Deep.Fields
import Derived.WideKeyArr2
import Derived.Deep.Grids
import Derived.ProofKit
import Derived.OpenShut
import Derived.ChangeSame
import Derived.LaidMore
import Derived.Stop.Joined
namespace Go.Proofs.Ytnkpmjkbkdnfjaa
open Go.ChangeShapes Go.WideShapes Go.ChangeAt Go.WideMaps Go.WideElems Go.RowKit Go.Deep

theorem cell_u8 : Try.prog.cellsOf 5 = 1 := by kernel_rfl
theorem cell_u16 : Try.prog.cellsOf 29 = 1 := by kernel_rfl
theorem cell_sl : Try.prog.cellsOf 52 = 1 := by kernel_rfl
theorem bytes_open {H : Type} {enc : TypeId × Value → H} {W : World} {base : Nat} {held : Bool} {fuel : Nat} {v : Value} {x : DataW H × List MemPlace}
    (h : DataW.trod enc Try.prog W base (fun _ => true) held fuel 52 [v] = some x) : ∃ s n c l, v = .slice s n c ∧ Row .u8 W s n c l := by
  rcases open_ints Try.underlying52 Try.underlying5 (by kernel_rfl) h with ⟨hcs, _⟩ | ⟨x, l, c, zs, hcs, _, hl, hm, hz, _, hcell, hwz⟩
  · simp at hcs
    exact ⟨none, 0, 0, [], hcs, Row.of_nil _ _⟩
  · simp at hcs
    exact ⟨_, _, _, _, hcs, Row.of_open (.inr ⟨_, rfl, hl, hm, by simpa using hz, hcell, hwz⟩)⟩
set_option maxRecDepth 100000 in
theorem mlaw_cells {H : Type} {enc : TypeId × Value → H} {W : World} {base fuel : Nat} {held : Bool} {l : List Value} {x : DataW H × List MemPlace} (hl : l.length = 7)
    (h : DataW.trod enc Try.prog W base (fun _ => true) held fuel 66 l = some x) :
    ∃ (a0 a1 a2 a3 a4 a5 : Int) (s : Option Addr) (m c : Nat) (r : List Int), l = [.int .u8 a0, .int .u8 a1, .int .u8 a2, .int .u16 a3, .int .u16 a4, .int .u8 a5, .slice s m c] ∧ (Lit.int .u8 a0).wf = true ∧ (Lit.int .u8 a1).wf = true ∧ (Lit.int .u8 a2).wf = true ∧ (Lit.int .u16 a3).wf = true ∧ (Lit.int .u16 a4).wf = true ∧ (Lit.int .u8 a5).wf = true ∧ Row .u8 W s m c r := by
  match l, hl with
  | [c0, c1, c2, c3, c4, c5, c6], _ =>
    obtain ⟨xs, n, _, hx, _, hlen, hg⟩ := DataW.trod_struct Try.underlying66 h
    match xs, hlen with
    | [y0, y1, y2, y3, y4, y5, y6], _ =>
      have t0 : DataW.trod enc Try.prog W base (fun _ => true) held n 5 [c0] = some y0 := by simpa [cell_u8] using hg 0 _ rfl
      obtain ⟨a0, e0, _, w0⟩ := DataW.trod_int Try.underlying5 t0
      simp at e0
      subst e0
      have t1 : DataW.trod enc Try.prog W base (fun _ => true) held n 5 [c1] = some y1 := by simpa [cell_u8] using hg 1 _ rfl
      obtain ⟨a1, e1, _, w1⟩ := DataW.trod_int Try.underlying5 t1
      simp at e1
      subst e1
      have t2 : DataW.trod enc Try.prog W base (fun _ => true) held n 5 [c2] = some y2 := by simpa [cell_u8] using hg 2 _ rfl
      obtain ⟨a2, e2, _, w2⟩ := DataW.trod_int Try.underlying5 t2
      simp at e2
      subst e2
      have t3 : DataW.trod enc Try.prog W base (fun _ => true) held n 29 [c3] = some y3 := by simpa [cell_u16] using hg 3 _ rfl
      obtain ⟨a3, e3, _, w3⟩ := DataW.trod_int Try.underlying29 t3
      simp at e3
      subst e3
      have t4 : DataW.trod enc Try.prog W base (fun _ => true) held n 29 [c4] = some y4 := by simpa [cell_u16] using hg 4 _ rfl
      obtain ⟨a4, e4, _, w4⟩ := DataW.trod_int Try.underlying29 t4
      simp at e4
      subst e4
      have t5 : DataW.trod enc Try.prog W base (fun _ => true) held n 5 [c5] = some y5 := by simpa [cell_u8] using hg 5 _ rfl
      obtain ⟨a5, e5, _, w5⟩ := DataW.trod_int Try.underlying5 t5
      simp at e5
      subst e5
      have t6 : DataW.trod enc Try.prog W base (fun _ => true) held n 52 [c6] = some y6 := by simpa [cell_sl] using hg 6 _ rfl
      obtain ⟨s, m, c, r, rfl, hr⟩ := bytes_open t6
      exact ⟨a0, a1, a2, a3, a4, a5, s, m, c, r, rfl, w0, w1, w2, w3, w4, w5, hr⟩
set_option maxRecDepth 100000 in
theorem mlaw_open {H : Type} {enc : TypeId × Value → H} {W : World} {base b0 : Nat} {held : Bool} {v : Value} {d : DataW H} {p : List MemPlace}
    (hv : Value.okWide Try.prog W .any b0 66 v) (h : DataW.Trod enc Try.prog W base (fun _ => true) held 66 v d p) :
    ∃ (a0 a1 a2 a3 a4 a5 : Int) (s : Option Addr) (m c : Nat) (r : List Int), v = .agg #[.int .u8 a0, .int .u8 a1, .int .u8 a2, .int .u16 a3, .int .u16 a4, .int .u8 a5, .slice s m c] ∧ (Lit.int .u8 a0).wf = true ∧ (Lit.int .u8 a1).wf = true ∧ (Lit.int .u8 a2).wf = true ∧ (Lit.int .u16 a3).wf = true ∧ (Lit.int .u16 a4).wf = true ∧ (Lit.int .u8 a5).wf = true ∧ Row .u8 W s m c r := by
  obtain ⟨cs, rfl, hsz⟩ := okWide_struct Try.underlying66 hv
  obtain ⟨l⟩ := cs
  obtain ⟨fuel, hf⟩ := h
  obtain ⟨a0, a1, a2, a3, a4, a5, s, m, c, r, e, h⟩ := mlaw_cells (l := l) (hsz.trans (by kernel_rfl)) hf
  subst e
  exact ⟨a0, a1, a2, a3, a4, a5, s, m, c, r, rfl, h⟩
theorem wf_u16q {x : Int} (h : (Lit.int .u16 x).wf = true) : 0 ≤ x ∧ x ≤ 65535 := by
  simpa [Lit.wf, IntKind.min, IntKind.max, IntKind.bits, IntKind.signed] using h
theorem okWide_array {P : Program} {w : World} {r : Reach} {b0 n : Nat} {t e : TypeId} {v : Value} (hu : P.underlying t = some (.array n e)) (h : Value.okWide P w r b0 t v) : ∃ cs : Array Value, v = .agg cs ∧ cs.size = P.cellsOf t := by
  simp only [Value.okWide, hu] at h
  obtain ⟨cs, h1, h2, _⟩ := h
  exact ⟨cs, h1, h2⟩
end Go.Proofs.Ytnkpmjkbkdnfjaa
