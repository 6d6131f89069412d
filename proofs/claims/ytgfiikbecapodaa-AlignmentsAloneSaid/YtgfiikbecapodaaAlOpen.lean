/- Statements of layer 9: the arguments by value, opened. -/
import Derived.Test.YtgfiikbecapodaaAlWalk
import Derived.Deep.Fields
import Derived.Deep.Grids
import Derived.ProofKit
import Derived.OpenShut
import Derived.ChangeSame
import Derived.WideKeyArr2
import Derived.LaidMore
import Derived.Stop.Joined
namespace Go.Proofs.Ytgfiikbecapodaa
open Go.ChangeShapes Go.WideShapes Go.ChangeAt Go.WideMaps Go.WideElems Go.RowKit Go.Deep

theorem cells7 {H : Type} {enc : TypeId × Value → H} {P : Program} {w : World} {base : Nat} {spare : Nat → Bool} {held : Bool} {fuel : Nat} {t : TypeId} {f0 f1 f2 f3 f4 f5 f6 : Field} {x : DataW H × List MemPlace}
    (hs : P.underlying t = some (.struct #[f0, f1, f2, f3, f4, f5, f6])) (hone : oneCellFields P #[f0, f1, f2, f3, f4, f5, f6] = true) {l : List Value} (hl : l.length = 7) (h : DataW.trod enc P w base spare held fuel t l = some x) :
    ∃ (v0 v1 v2 v3 v4 v5 v6 : Value) (y0 y1 y2 y3 y4 y5 y6 : DataW H × List MemPlace) (n : Nat), l = [v0, v1, v2, v3, v4, v5, v6] ∧ DataW.trod enc P w base spare held n f0.type [v0] = some y0 ∧ DataW.trod enc P w base spare held n f1.type [v1] = some y1 ∧ DataW.trod enc P w base spare held n f2.type [v2] = some y2 ∧ DataW.trod enc P w base spare held n f3.type [v3] = some y3 ∧ DataW.trod enc P w base spare held n f4.type [v4] = some y4 ∧ DataW.trod enc P w base spare held n f5.type [v5] = some y5 ∧ DataW.trod enc P w base spare held n f6.type [v6] = some y6 := by
  match l, hl with
  | [c0, c1, c2, c3, c4, c5, c6], _ =>
    obtain ⟨xs, n, _, hx, _, hlen, hg⟩ := DataW.trod_struct hs h
    obtain ⟨o0, k0⟩ := hone_of hone 0 f0 rfl
    obtain ⟨o1, k1⟩ := hone_of hone 1 f1 rfl
    obtain ⟨o2, k2⟩ := hone_of hone 2 f2 rfl
    obtain ⟨o3, k3⟩ := hone_of hone 3 f3 rfl
    obtain ⟨o4, k4⟩ := hone_of hone 4 f4 rfl
    obtain ⟨o5, k5⟩ := hone_of hone 5 f5 rfl
    obtain ⟨o6, k6⟩ := hone_of hone 6 f6 rfl
    match xs, hlen with
    | [y0, y1, y2, y3, y4, y5, y6], _ =>
      exact ⟨c0, c1, c2, c3, c4, c5, c6, y0, y1, y2, y3, y4, y5, y6, n, rfl, by simpa [o0, k0] using hg 0 f0 rfl, by simpa [o1, k1] using hg 1 f1 rfl, by simpa [o2, k2] using hg 2 f2 rfl, by simpa [o3, k3] using hg 3 f3 rfl, by simpa [o4, k4] using hg 4 f4 rfl, by simpa [o5, k5] using hg 5 f5 rfl, by simpa [o6, k6] using hg 6 f6 rfl⟩
set_option maxRecDepth 100000 in
/-- The cells of a T. -/
theorem t_cells {H : Type} {enc : TypeId × Value → H} {W : World} {base fuel : Nat} {sp : Nat → Bool} {held : Bool} {l : List Value} {x : DataW H × List MemPlace} (hl : l.length = 7)
    (h : DataW.trod enc Try.prog W base sp held fuel 23 l = some x) :
    ∃ (a0 a1 a2 a3 a4 a5 a6 : Nat), l = [.int .u8 (a0 : Int), .int .u8 (a1 : Int), .int .u8 (a2 : Int), .int .u8 (a3 : Int), .int .u8 (a4 : Int), .int .u8 (a5 : Int), .int .u8 (a6 : Int)] ∧ a0 ≤ 255 ∧ a1 ≤ 255 ∧ a2 ≤ 255 ∧ a3 ≤ 255 ∧ a4 ≤ 255 ∧ a5 ≤ 255 ∧ a6 ≤ 255 := by
  obtain ⟨v0, v1, v2, v3, v4, v5, v6, y0, y1, y2, y3, y4, y5, y6, n, rfl, t0, t1, t2, t3, t4, t5, t6⟩ := cells7 Try.underlying23 (by kernel_rfl) hl h
  obtain ⟨a0, e0, _, w0⟩ := DataW.trod_int Try.underlying5 t0
  obtain ⟨a1, e1, _, w1⟩ := DataW.trod_int Try.underlying5 t1
  obtain ⟨a2, e2, _, w2⟩ := DataW.trod_int Try.underlying5 t2
  obtain ⟨a3, e3, _, w3⟩ := DataW.trod_int Try.underlying5 t3
  obtain ⟨a4, e4, _, w4⟩ := DataW.trod_int Try.underlying5 t4
  obtain ⟨a5, e5, _, w5⟩ := DataW.trod_int Try.underlying5 t5
  obtain ⟨a6, e6, _, w6⟩ := DataW.trod_int Try.underlying5 t6
  simp at e0 e1 e2 e3 e4 e5 e6
  subst e0 e1 e2 e3 e4 e5 e6
  rw [wf_u8] at w0 w1 w2 w3 w4 w5 w6
  refine ⟨a0.toNat, a1.toNat, a2.toNat, a3.toNat, a4.toNat, a5.toNat, a6.toNat, ?_, by omega, by omega, by omega, by omega, by omega, by omega, by omega⟩
  rw [Int.toNat_of_nonneg w0.1, Int.toNat_of_nonneg w1.1, Int.toNat_of_nonneg w2.1, Int.toNat_of_nonneg w3.1, Int.toNat_of_nonneg w4.1, Int.toNat_of_nonneg w5.1, Int.toNat_of_nonneg w6.1]
set_option maxRecDepth 100000 in
theorem t_open {H : Type} {enc : TypeId × Value → H} {W : World} {base b0 : Nat} {sp : Nat → Bool} {held : Bool} {v : Value} {d : DataW H} {p : List MemPlace}
    (hv : Value.okWide Try.prog W .any b0 23 v) (h : DataW.Trod enc Try.prog W base sp held 23 v d p) :
    ∃ (a0 a1 a2 a3 a4 a5 a6 : Nat), v = .agg #[.int .u8 (a0 : Int), .int .u8 (a1 : Int), .int .u8 (a2 : Int), .int .u8 (a3 : Int), .int .u8 (a4 : Int), .int .u8 (a5 : Int), .int .u8 (a6 : Int)] ∧ a0 ≤ 255 ∧ a1 ≤ 255 ∧ a2 ≤ 255 ∧ a3 ≤ 255 ∧ a4 ≤ 255 ∧ a5 ≤ 255 ∧ a6 ≤ 255 := by
  obtain ⟨cs, rfl, hsz⟩ := okWide_struct Try.underlying23 hv
  obtain ⟨l⟩ := cs
  obtain ⟨fuel, hf⟩ := h
  obtain ⟨a0, a1, a2, a3, a4, a5, a6, e, h⟩ := t_cells (l := l) (hsz.trans (by kernel_rfl)) hf
  subst e
  exact ⟨a0, a1, a2, a3, a4, a5, a6, rfl, h⟩
theorem okWide_array {P : Program} {w : World} {r : Reach} {b0 n : Nat} {t e : TypeId} {v : Value} (hu : P.underlying t = some (.array n e)) (h : Value.okWide P w r b0 t v) : ∃ cs : Array Value, v = .agg cs ∧ cs.size = P.cellsOf t := by
  simp only [Value.okWide, hu] at h
  obtain ⟨cs, h1, h2, _⟩ := h
  exact ⟨cs, h1, h2⟩
set_option maxRecDepth 100000 in
theorem tpair_open {H : Type} {enc : TypeId × Value → H} {W : World} {base b0 : Nat} {sp : Nat → Bool} {held : Bool} {v : Value} {d : DataW H} {p : List MemPlace}
    (hv : Value.okWide Try.prog W .any b0 43 v) (h : DataW.Trod enc Try.prog W base sp held 43 v d p) :
    ∃ (a0 a1 a2 a3 a4 a5 a6 a7 a8 a9 a10 a11 a12 a13 : Nat), v = .agg #[.int .u8 (a0 : Int), .int .u8 (a1 : Int), .int .u8 (a2 : Int), .int .u8 (a3 : Int), .int .u8 (a4 : Int), .int .u8 (a5 : Int), .int .u8 (a6 : Int), .int .u8 (a7 : Int), .int .u8 (a8 : Int), .int .u8 (a9 : Int), .int .u8 (a10 : Int), .int .u8 (a11 : Int), .int .u8 (a12 : Int), .int .u8 (a13 : Int)] ∧ a0 ≤ 255 ∧ a1 ≤ 255 ∧ a2 ≤ 255 ∧ a3 ≤ 255 ∧ a4 ≤ 255 ∧ a5 ≤ 255 ∧ a6 ≤ 255 ∧ a7 ≤ 255 ∧ a8 ≤ 255 ∧ a9 ≤ 255 ∧ a10 ≤ 255 ∧ a11 ≤ 255 ∧ a12 ≤ 255 ∧ a13 ≤ 255 := by
  obtain ⟨cs, rfl, hsz⟩ := okWide_array Try.underlying43 hv
  obtain ⟨l⟩ := cs
  obtain ⟨fuel, hf⟩ := h
  have hl : l.length = 14 := hsz.trans (by kernel_rfl)
  obtain ⟨xs, m, _, hx, _, hlen, hel⟩ := DataW.trod_array Try.underlying43 (show DataW.trod enc Try.prog W base sp held fuel 43 l = some (d, p) from hf)
  have c1 : Try.prog.cellsOf 23 = 7 := by kernel_rfl
  match xs, hlen with
  | [x0, x1], _ =>
    have h0 := hel 0 (by decide)
    have h1 := hel 1 (by decide)
    rw [c1] at h0 h1
    simp only [Nat.zero_mul, List.drop_zero, Nat.one_mul, List.getElem?_cons_zero, List.getElem?_cons_succ] at h0 h1
    obtain ⟨a0, a1, a2, a3, a4, a5, a6, e0, q0, q1, q2, q3, q4, q5, q6⟩ := t_cells (by simp; omega) h0
    obtain ⟨b0, b1, b2, b3, b4, b5, b6, e1, r0, r1, r2, r3, r4, r5, r6⟩ := t_cells (by simp; omega) h1
    have e : l = l.take 7 ++ (l.drop 7).take 7 := by
      rw [List.take_of_length_le (l := l.drop 7) (by simp; omega), List.take_append_drop]
    rw [e0, e1] at e
    subst e
    exact ⟨a0, a1, a2, a3, a4, a5, a6, b0, b1, b2, b3, b4, b5, b6, rfl, q0, q1, q2, q3, q4, q5, q6, r0, r1, r2, r3, r4, r5, r6⟩
set_option maxRecDepth 100000 in
theorem bpair_open {H : Type} {enc : TypeId × Value → H} {W : World} {base b0 : Nat} {sp : Nat → Bool} {held : Bool} {v : Value} {d : DataW H} {p : List MemPlace}
    (hv : Value.okWide Try.prog W .any b0 44 v) (h : DataW.Trod enc Try.prog W base sp held 44 v d p) :
    ∃ a b : Bool, v = .agg #[.bool a, .bool b] := by
  obtain ⟨cs, rfl, hsz⟩ := okWide_array Try.underlying44 hv
  obtain ⟨l⟩ := cs
  obtain ⟨fuel, hf⟩ := h
  have hl : l.length = 2 := hsz.trans (by kernel_rfl)
  obtain ⟨xs, m, _, hx, _, hlen, hel⟩ := DataW.trod_array Try.underlying44 (show DataW.trod enc Try.prog W base sp held fuel 44 l = some (d, p) from hf)
  have c1 : Try.prog.cellsOf 4 = 1 := by kernel_rfl
  match xs, hlen, l, hl with
  | [x0, x1], _, [l0, l1], _ =>
    have h0 := hel 0 (by decide)
    have h1 := hel 1 (by decide)
    rw [c1] at h0 h1
    obtain ⟨a, e0, _⟩ := DataW.trod_bool Try.underlying4 (show DataW.trod enc Try.prog W base sp held m 4 [l0] = some x0 from h0)
    obtain ⟨b, e1, _⟩ := DataW.trod_bool Try.underlying4 (show DataW.trod enc Try.prog W base sp held m 4 [l1] = some x1 from h1)
    simp at e0 e1
    subst e0 e1
    exact ⟨a, b, rfl⟩
set_option maxRecDepth 100000 in
theorem upair_open {H : Type} {enc : TypeId × Value → H} {W : World} {base b0 : Nat} {sp : Nat → Bool} {held : Bool} {v : Value} {d : DataW H} {p : List MemPlace}
    (hv : Value.okWide Try.prog W .any b0 45 v) (h : DataW.Trod enc Try.prog W base sp held 45 v d p) :
    ∃ a b : Nat, v = .agg #[.int .u8 (a : Int), .int .u8 (b : Int)] ∧ a ≤ 255 ∧ b ≤ 255 := by
  obtain ⟨cs, rfl, hsz⟩ := okWide_array Try.underlying45 hv
  obtain ⟨l⟩ := cs
  obtain ⟨fuel, hf⟩ := h
  have hl : l.length = 2 := hsz.trans (by kernel_rfl)
  obtain ⟨xs, m, _, hx, _, hlen, hel⟩ := DataW.trod_array Try.underlying45 (show DataW.trod enc Try.prog W base sp held fuel 45 l = some (d, p) from hf)
  have c1 : Try.prog.cellsOf 5 = 1 := by kernel_rfl
  match xs, hlen, l, hl with
  | [x0, x1], _, [l0, l1], _ =>
    have h0 := hel 0 (by decide)
    have h1 := hel 1 (by decide)
    rw [c1] at h0 h1
    obtain ⟨a, e0, _, w0⟩ := DataW.trod_int Try.underlying5 (show DataW.trod enc Try.prog W base sp held m 5 [l0] = some x0 from h0)
    obtain ⟨b, e1, _, w1⟩ := DataW.trod_int Try.underlying5 (show DataW.trod enc Try.prog W base sp held m 5 [l1] = some x1 from h1)
    simp at e0 e1
    subst e0 e1
    rw [wf_u8] at w0 w1
    refine ⟨a.toNat, b.toNat, ?_, by omega, by omega⟩
    rw [Int.toNat_of_nonneg w0.1, Int.toNat_of_nonneg w1.1]
set_option maxRecDepth 100000 in
theorem times_open {H : Type} {enc : TypeId × Value → H} {W : World} {base b0 : Nat} {sp : Nat → Bool} {held : Bool} {v : Value} {d : DataW H} {p : List MemPlace}
    (hv : Value.okWide Try.prog W .any b0 31 v) (h : DataW.Trod enc Try.prog W base sp held 31 v d p) :
    ∃ (a0 a1 a2 a3 a4 a5 a6 : Int), v = .agg #[.int .i64 a0, .int .i64 a1, .int .i64 a2, .int .i64 a3, .int .i64 a4, .int .i64 a5, .int .i64 a6] ∧ (Lit.int .i64 a0).wf = true ∧ (Lit.int .i64 a1).wf = true ∧ (Lit.int .i64 a2).wf = true ∧ (Lit.int .i64 a3).wf = true ∧ (Lit.int .i64 a4).wf = true ∧ (Lit.int .i64 a5).wf = true ∧ (Lit.int .i64 a6).wf = true := by
  obtain ⟨cs, rfl, hsz⟩ := okWide_struct Try.underlying31 hv
  obtain ⟨l⟩ := cs
  obtain ⟨fuel, hf⟩ := h
  obtain ⟨v0, v1, v2, v3, v4, v5, v6, y0, y1, y2, y3, y4, y5, y6, n, e, t0, t1, t2, t3, t4, t5, t6⟩ := cells7 (l := l) Try.underlying31 (by kernel_rfl) (hsz.trans (by kernel_rfl)) hf
  subst e
  obtain ⟨a0, e0, _, w0⟩ := DataW.trod_int Try.underlying3 t0
  obtain ⟨a1, e1, _, w1⟩ := DataW.trod_int Try.underlying3 t1
  obtain ⟨a2, e2, _, w2⟩ := DataW.trod_int Try.underlying3 t2
  obtain ⟨a3, e3, _, w3⟩ := DataW.trod_int Try.underlying3 t3
  obtain ⟨a4, e4, _, w4⟩ := DataW.trod_int Try.underlying3 t4
  obtain ⟨a5, e5, _, w5⟩ := DataW.trod_int Try.underlying3 t5
  obtain ⟨a6, e6, _, w6⟩ := DataW.trod_int Try.underlying3 t6
  simp at e0 e1 e2 e3 e4 e5 e6
  subst e0 e1 e2 e3 e4 e5 e6
  exact ⟨a0, a1, a2, a3, a4, a5, a6, rfl, w0, w1, w2, w3, w4, w5, w6⟩
/-- A slice of bools. -/
theorem BRow.of_open {w : World} {a : Addr} {len cap : Nat} {B : Nat → Bool} (hl : len ≤ cap) (hm : cap ≤ maxLen) (hc : ∀ i, i < cap → w.cell? (a.add i) = some (.bool (B i))) :
    BRow w (some a) len cap ((List.range len).map B) := by
  refine ⟨by simp, hl, hm, ?_⟩
  by_cases h0 : len = 0
  · exact .inl h0
  · obtain ⟨b, off, spot⟩ := a
    have h1 := hc 0 (by omega)
    have hspot : spot = none := by simpa [Addr.add] using World.cell?_spot h1
    subst hspot
    refine .inr ⟨b, off, rfl, fun i hi => ?_⟩
    have h2 := hc i (by omega)
    rw [Addr.add_mid] at h2
    rw [h2]
    simp [List.getD_eq_getElem?_getD, hi]
end Go.Proofs.Ytgfiikbecapodaa
