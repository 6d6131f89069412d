/- The statements' data of a plan (N) by value, opened. -/
import Derived.Test.YtekaedmhdoijeaaPlOpen
import Derived.Test.YtekaedmhdoijeaaOpenTri
namespace Go.Proofs.Ytekaedmhdoijeaa
open Go.ChangeShapes Go.WideShapes Go.ChangeAt Go.WideMaps Go.WideElems Go.RowKit Go.Deep

theorem pcell_a38 : Try.prog.cellsOf 77 = 3 := by kernel_rfl
theorem pcell_a68 : Try.prog.cellsOf 36 = 6 := by kernel_rfl
theorem pcell_a28 : Try.prog.cellsOf 38 = 2 := by kernel_rfl
theorem pcell_s38 : Try.prog.cellsOf 37 = 1 := by kernel_rfl
set_option maxRecDepth 100000 in
theorem oct3_cells {H : Type} {enc : TypeId × Value → H} {W : World} {base fuel : Nat} {held : Bool} {l : List Value} {x : DataW H × List MemPlace} (hl : l.length = 3) (h : DataW.trod enc Try.prog W base (fun _ => true) held fuel 77 l = some x) :
    ∃ (a0 a1 a2 : Int), l = [.int .u8 a0, .int .u8 a1, .int .u8 a2] ∧ (Lit.int .u8 a0).wf = true ∧ (Lit.int .u8 a1).wf = true ∧ (Lit.int .u8 a2).wf = true := by
  match l, hl with
  | [c0, c1, c2], _ =>
    obtain ⟨xs, n, _, hx, _, hlen, hg⟩ := DataW.trod_array Try.underlying77 h
    match xs, hlen with
    | [y0, y1, y2], _ =>
      have t0 : DataW.trod enc Try.prog W base (fun _ => true) held n 5 [c0] = some y0 := by simpa [pcell_u8] using hg 0 (by decide)
      obtain ⟨a0, e0, _, w0⟩ := DataW.trod_int Try.underlying5 t0
      simp at e0
      subst e0
      have t1 : DataW.trod enc Try.prog W base (fun _ => true) held n 5 [c1] = some y1 := by simpa [pcell_u8] using hg 1 (by decide)
      obtain ⟨a1, e1, _, w1⟩ := DataW.trod_int Try.underlying5 t1
      simp at e1
      subst e1
      have t2 : DataW.trod enc Try.prog W base (fun _ => true) held n 5 [c2] = some y2 := by simpa [pcell_u8] using hg 2 (by decide)
      obtain ⟨a2, e2, _, w2⟩ := DataW.trod_int Try.underlying5 t2
      simp at e2
      subst e2
      exact ⟨a0, a1, a2, rfl, w0, w1, w2⟩
set_option maxRecDepth 100000 in
theorem oct6_cells {H : Type} {enc : TypeId × Value → H} {W : World} {base fuel : Nat} {held : Bool} {l : List Value} {x : DataW H × List MemPlace} (hl : l.length = 6) (h : DataW.trod enc Try.prog W base (fun _ => true) held fuel 36 l = some x) :
    ∃ (a0 a1 a2 a3 a4 a5 : Int), l = [.int .u8 a0, .int .u8 a1, .int .u8 a2, .int .u8 a3, .int .u8 a4, .int .u8 a5] ∧ (Lit.int .u8 a0).wf = true ∧ (Lit.int .u8 a1).wf = true ∧ (Lit.int .u8 a2).wf = true ∧ (Lit.int .u8 a3).wf = true ∧ (Lit.int .u8 a4).wf = true ∧ (Lit.int .u8 a5).wf = true := by
  match l, hl with
  | [c0, c1, c2, c3, c4, c5], _ =>
    obtain ⟨xs, n, _, hx, _, hlen, hg⟩ := DataW.trod_array Try.underlying36 h
    match xs, hlen with
    | [y0, y1, y2, y3, y4, y5], _ =>
      have t0 : DataW.trod enc Try.prog W base (fun _ => true) held n 5 [c0] = some y0 := by simpa [pcell_u8] using hg 0 (by decide)
      obtain ⟨a0, e0, _, w0⟩ := DataW.trod_int Try.underlying5 t0
      simp at e0
      subst e0
      have t1 : DataW.trod enc Try.prog W base (fun _ => true) held n 5 [c1] = some y1 := by simpa [pcell_u8] using hg 1 (by decide)
      obtain ⟨a1, e1, _, w1⟩ := DataW.trod_int Try.underlying5 t1
      simp at e1
      subst e1
      have t2 : DataW.trod enc Try.prog W base (fun _ => true) held n 5 [c2] = some y2 := by simpa [pcell_u8] using hg 2 (by decide)
      obtain ⟨a2, e2, _, w2⟩ := DataW.trod_int Try.underlying5 t2
      simp at e2
      subst e2
      have t3 : DataW.trod enc Try.prog W base (fun _ => true) held n 5 [c3] = some y3 := by simpa [pcell_u8] using hg 3 (by decide)
      obtain ⟨a3, e3, _, w3⟩ := DataW.trod_int Try.underlying5 t3
      simp at e3
      subst e3
      have t4 : DataW.trod enc Try.prog W base (fun _ => true) held n 5 [c4] = some y4 := by simpa [pcell_u8] using hg 4 (by decide)
      obtain ⟨a4, e4, _, w4⟩ := DataW.trod_int Try.underlying5 t4
      simp at e4
      subst e4
      have t5 : DataW.trod enc Try.prog W base (fun _ => true) held n 5 [c5] = some y5 := by simpa [pcell_u8] using hg 5 (by decide)
      obtain ⟨a5, e5, _, w5⟩ := DataW.trod_int Try.underlying5 t5
      simp at e5
      subst e5
      exact ⟨a0, a1, a2, a3, a4, a5, rfl, w0, w1, w2, w3, w4, w5⟩
set_option maxRecDepth 100000 in
theorem oct2_cells {H : Type} {enc : TypeId × Value → H} {W : World} {base fuel : Nat} {held : Bool} {l : List Value} {x : DataW H × List MemPlace} (hl : l.length = 2) (h : DataW.trod enc Try.prog W base (fun _ => true) held fuel 38 l = some x) :
    ∃ (a0 a1 : Int), l = [.int .u8 a0, .int .u8 a1] ∧ (Lit.int .u8 a0).wf = true ∧ (Lit.int .u8 a1).wf = true := by
  match l, hl with
  | [c0, c1], _ =>
    obtain ⟨xs, n, _, hx, _, hlen, hg⟩ := DataW.trod_array Try.underlying38 h
    match xs, hlen with
    | [y0, y1], _ =>
      have t0 : DataW.trod enc Try.prog W base (fun _ => true) held n 5 [c0] = some y0 := by simpa [pcell_u8] using hg 0 (by decide)
      obtain ⟨a0, e0, _, w0⟩ := DataW.trod_int Try.underlying5 t0
      simp at e0
      subst e0
      have t1 : DataW.trod enc Try.prog W base (fun _ => true) held n 5 [c1] = some y1 := by simpa [pcell_u8] using hg 1 (by decide)
      obtain ⟨a1, e1, _, w1⟩ := DataW.trod_int Try.underlying5 t1
      simp at e1
      subst e1
      exact ⟨a0, a1, rfl, w0, w1⟩
theorem extra_open {H : Type} {enc : TypeId × Value → H} {W : World} {base fuel : Nat} {held : Bool} {v : Value} {x : DataW H × List MemPlace} (h : DataW.trod enc Try.prog W base (fun _ => true) held fuel 37 [v] = some x) : ∃ s n c l, v = .slice s n c ∧ Tris .u8 .u8 .u8 W s n c l := by
  rcases DataW.trod_slice Try.underlying37 h with ⟨hv, _⟩ | ⟨a, len, cap, elems, rest, n, _, hv, _, _, hl, hm, hlen, hel, _, _⟩
  · simp at hv
    exact ⟨none, 0, 0, [], hv, Tris.of_nil _ _ _ _⟩
  · simp at hv
    have each : ∀ i, i < len → ∃ y : (Int × Int × Int), (W.cell? (a.add (i * 3)) = some (.int .u8 y.1) ∧ W.cell? ((a.add (i * 3)).add 1) = some (.int .u8 y.2.1) ∧ W.cell? ((a.add (i * 3)).add 2) = some (.int .u8 y.2.2)) ∧ ((Lit.int .u8 y.1).wf = true ∧ (Lit.int .u8 y.2.1).wf = true ∧ (Lit.int .u8 y.2.2).wf = true) := by
      intro i hi
      have he' := hel i hi
      rw [pcell_a38, List.getElem?_eq_getElem (by omega), Option.bind_eq_some_iff] at he'
      obtain ⟨cs', hcs, hy⟩ := he'
      obtain ⟨hl2, hg⟩ := cells_len hcs
      obtain ⟨a0, a1, a2, rfl, w0, w1, w2⟩ := oct3_cells hl2 hy
      exact ⟨(a0, a1, a2), ⟨by simpa [Addr.add] using hg 0 (by decide), by simpa using hg 1 (by decide), by simpa using hg 2 (by decide)⟩, w0, w1, w2⟩
    have hex : ∃ l : List (Int × Int × Int), l.length = len ∧ ∀ i, i < len → (W.cell? (a.add (i * 3)) = some (.int .u8 (l.getD i (0, 0, 0)).1) ∧ W.cell? ((a.add (i * 3)).add 1) = some (.int .u8 (l.getD i (0, 0, 0)).2.1) ∧ W.cell? ((a.add (i * 3)).add 2) = some (.int .u8 (l.getD i (0, 0, 0)).2.2)) ∧ ((Lit.int .u8 (l.getD i (0, 0, 0)).1).wf = true ∧ (Lit.int .u8 (l.getD i (0, 0, 0)).2.1).wf = true ∧ (Lit.int .u8 (l.getD i (0, 0, 0)).2.2).wf = true) := by
      refine ⟨(List.range len).map fun i => if hi : i < len then Classical.choose (each i hi) else (0, 0, 0), by simp, fun i hi => ?_⟩
      have := Classical.choose_spec (each i hi)
      simpa [List.getD_eq_getElem?_getD, hi] using this
    obtain ⟨l, hll, hcell⟩ := hex
    refine ⟨some a, len, cap, l, hv, hll, hl, hm, fun y hy => ?_, ?_, by simp⟩
    · obtain ⟨i, hi, rfl⟩ := List.getElem_of_mem hy
      have := (hcell i (by omega)).2
      simp only [List.getD_eq_getElem?_getD, List.getElem?_eq_getElem hi, Option.getD_some] at this
      exact this
    · by_cases h0 : len = 0
      · exact .inl h0
      · obtain ⟨b, off, spot⟩ := a
        have h1 := (hcell 0 (by omega)).1.1
        have hspot : spot = none := by simpa [Addr.add] using World.cell?_spot h1
        subst hspot
        have hadd : ∀ (o j : Nat), (⟨b, o, none⟩ : Addr).add j = ⟨b, o + j, none⟩ := fun o j => by unfold Addr.add; split <;> simp_all
        refine .inr ⟨b, off, rfl, fun i hi => ?_⟩
        obtain ⟨hg, _⟩ := hcell i hi
        simp only [hadd] at hg
        exact hg
/-- An octet. -/
def Oc (x : Int) : Prop := (Lit.int .u8 x).wf = true
theorem Oc.range {x : Int} (h : Oc x) : 0 ≤ x ∧ x ≤ 255 := wf_u8p h
set_option maxRecDepth 100000 in
theorem nn_cells {H : Type} {enc : TypeId × Value → H} {W : World} {base fuel : Nat} {held : Bool} {l : List Value} {x : DataW H × List MemPlace} (hl : l.length = 19) (h : DataW.trod enc Try.prog W base (fun _ => true) held fuel 40 l = some x) :
    ∃ (mn p0 p1 p2 p3 p4 p5 en t0 t1 t2 t3 t4 t5 ra ro k0 k1 : Int) (s : Option Addr) (m c : Nat) (E : List (Int × Int × Int)), l = [.int .u8 mn, .int .u8 p0, .int .u8 p1, .int .u8 p2, .int .u8 p3, .int .u8 p4, .int .u8 p5, .int .u8 en, .int .u8 t0, .int .u8 t1, .int .u8 t2, .int .u8 t3, .int .u8 t4, .int .u8 t5, .slice s m c, .int .u8 ra, .int .u8 ro, .int .u8 k0, .int .u8 k1] ∧ Tris .u8 .u8 .u8 W s m c E ∧ Oc mn ∧ Oc p0 ∧ Oc p1 ∧ Oc p2 ∧ Oc p3 ∧ Oc p4 ∧ Oc p5 ∧ Oc en ∧ Oc t0 ∧ Oc t1 ∧ Oc t2 ∧ Oc t3 ∧ Oc t4 ∧ Oc t5 ∧ Oc ra ∧ Oc ro ∧ Oc k0 ∧ Oc k1 := by
  match l, hl with
  | [c0, c1, c2, c3, c4, c5, c6, c7, c8, c9, c10, c11, c12, c13, c14, c15, c16, c17, c18], _ =>
    obtain ⟨xs, n, _, hx, _, hlen, hg⟩ := DataW.trod_struct Try.underlying40 h
    match xs, hlen with
    | [y0, y1, y2, y3, y4, y5, y6, y7], _ =>
      have u0 : DataW.trod enc Try.prog W base (fun _ => true) held n 5 [c0] = some y0 := by simpa [pcell_u8] using hg 0 _ rfl
      obtain ⟨mn, e0, _, wmn⟩ := DataW.trod_int Try.underlying5 u0
      simp at e0
      subst e0
      have u1 : DataW.trod enc Try.prog W base (fun _ => true) held n 36 [c1, c2, c3, c4, c5, c6] = some y1 := by simpa [pcell_a68] using hg 1 _ rfl
      obtain ⟨p0, p1, p2, p3, p4, p5, e1, wp0, wp1, wp2, wp3, wp4, wp5⟩ := oct6_cells rfl u1
      simp at e1
      obtain ⟨rfl, rfl, rfl, rfl, rfl, rfl⟩ := e1
      have u2 : DataW.trod enc Try.prog W base (fun _ => true) held n 5 [c7] = some y2 := by simpa [pcell_u8] using hg 2 _ rfl
      obtain ⟨en, e2, _, wen⟩ := DataW.trod_int Try.underlying5 u2
      simp at e2
      subst e2
      have u3 : DataW.trod enc Try.prog W base (fun _ => true) held n 36 [c8, c9, c10, c11, c12, c13] = some y3 := by simpa [pcell_a68] using hg 3 _ rfl
      obtain ⟨t0, t1, t2, t3, t4, t5, e3, wt0, wt1, wt2, wt3, wt4, wt5⟩ := oct6_cells rfl u3
      simp at e3
      obtain ⟨rfl, rfl, rfl, rfl, rfl, rfl⟩ := e3
      have u4 : DataW.trod enc Try.prog W base (fun _ => true) held n 37 [c14] = some y4 := by simpa [pcell_s38] using hg 4 _ rfl
      obtain ⟨s, m, c, E, rfl, hE⟩ := extra_open u4
      have u5 : DataW.trod enc Try.prog W base (fun _ => true) held n 5 [c15] = some y5 := by simpa [pcell_u8] using hg 5 _ rfl
      obtain ⟨ra, e5, _, wra⟩ := DataW.trod_int Try.underlying5 u5
      simp at e5
      subst e5
      have u6 : DataW.trod enc Try.prog W base (fun _ => true) held n 5 [c16] = some y6 := by simpa [pcell_u8] using hg 6 _ rfl
      obtain ⟨ro, e6, _, wro⟩ := DataW.trod_int Try.underlying5 u6
      simp at e6
      subst e6
      have u7 : DataW.trod enc Try.prog W base (fun _ => true) held n 38 [c17, c18] = some y7 := by simpa [pcell_a28] using hg 7 _ rfl
      obtain ⟨k0, k1, e7, wk0, wk1⟩ := oct2_cells rfl u7
      simp at e7
      obtain ⟨rfl, rfl⟩ := e7
      exact ⟨mn, p0, p1, p2, p3, p4, p5, en, t0, t1, t2, t3, t4, t5, ra, ro, k0, k1, s, m, c, E, rfl, hE, wmn, wp0, wp1, wp2, wp3, wp4, wp5, wen, wt0, wt1, wt2, wt3, wt4, wt5, wra, wro, wk0, wk1⟩
set_option maxRecDepth 100000 in
theorem nn_open {H : Type} {enc : TypeId × Value → H} {W : World} {base b0 : Nat} {held : Bool} {v : Value} {d : DataW H} {p : List MemPlace}
    (hv : Value.okWide Try.prog W .any b0 40 v) (h : DataW.Trod enc Try.prog W base (fun _ => true) held 40 v d p) :
    ∃ (mn p0 p1 p2 p3 p4 p5 en t0 t1 t2 t3 t4 t5 ra ro k0 k1 : Int) (s : Option Addr) (m c : Nat) (E : List (Int × Int × Int)), v = .agg #[.int .u8 mn, .int .u8 p0, .int .u8 p1, .int .u8 p2, .int .u8 p3, .int .u8 p4, .int .u8 p5, .int .u8 en, .int .u8 t0, .int .u8 t1, .int .u8 t2, .int .u8 t3, .int .u8 t4, .int .u8 t5, .slice s m c, .int .u8 ra, .int .u8 ro, .int .u8 k0, .int .u8 k1] ∧ Tris .u8 .u8 .u8 W s m c E ∧ Oc mn ∧ Oc p0 ∧ Oc p1 ∧ Oc p2 ∧ Oc p3 ∧ Oc p4 ∧ Oc p5 ∧ Oc en ∧ Oc t0 ∧ Oc t1 ∧ Oc t2 ∧ Oc t3 ∧ Oc t4 ∧ Oc t5 ∧ Oc ra ∧ Oc ro ∧ Oc k0 ∧ Oc k1 := by
  obtain ⟨cs, rfl, hsz⟩ := okWide_struct Try.underlying40 hv
  obtain ⟨l⟩ := cs
  obtain ⟨fuel, hf⟩ := h
  obtain ⟨mn, p0, p1, p2, p3, p4, p5, en, t0, t1, t2, t3, t4, t5, ra, ro, k0, k1, s, m, c, E, e, h⟩ := nn_cells (l := l) (hsz.trans (by kernel_rfl)) hf
  subst e
  exact ⟨mn, p0, p1, p2, p3, p4, p5, en, t0, t1, t2, t3, t4, t5, ra, ro, k0, k1, s, m, c, E, rfl, h⟩
end Go.Proofs.Ytekaedmhdoijeaa
