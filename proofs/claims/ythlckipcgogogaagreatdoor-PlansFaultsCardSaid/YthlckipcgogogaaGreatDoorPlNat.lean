/- Joined: PlNOpen LbLink PlNat. -/
import Derived.Test.YthlckipcgogogaaGreatDoorOpenTri
import Derived.Test.YthlckipcgogogaaGreatDoorPlCells
import Derived.WideKeyArr2
import Derived.Deep.Grids
import Derived.Test.YthlckipcgogogaaGreatDoorPlN
/- The statements' data of a plan (N) by value, opened. -/
namespace Go.Proofs.YthlckipcgogogaaGreatDoor
set_option linter.unusedVariables false
open Go.ChangeShapes Go.WideShapes Go.ChangeAt Go.WideMaps Go.WideElems Go.RowKit Go.Deep

theorem pcell_a38 : Tryz.prog.cellsOf 78 = 3 := by kernel_rfl
theorem pcell_a68 : Tryz.prog.cellsOf 22 = 6 := by kernel_rfl
theorem pcell_a28 : Tryz.prog.cellsOf 24 = 2 := by kernel_rfl
theorem pcell_s38 : Tryz.prog.cellsOf 23 = 1 := by kernel_rfl
set_option maxRecDepth 100000 in
theorem oct3_cells {H : Type} {enc : TypeId × Value → H} {W : World} {base fuel : Nat} {held : Bool} {l : List Value} {x : DataW H × List MemPlace} (hl : l.length = 3) (h : DataW.trod enc Tryz.prog W base (fun _ => true) held fuel 78 l = some x) :
    ∃ (a0 a1 a2 : Int), l = [.int .u8 a0, .int .u8 a1, .int .u8 a2] ∧ (Lit.int .u8 a0).wf = true ∧ (Lit.int .u8 a1).wf = true ∧ (Lit.int .u8 a2).wf = true := by
  match l, hl with
  | [c0, c1, c2], _ =>
    obtain ⟨xs, n, _, hx, _, hlen, hg⟩ := DataW.trod_array Tryz.underlying78 h
    match xs, hlen with
    | [y0, y1, y2], _ =>
      have t0 : DataW.trod enc Tryz.prog W base (fun _ => true) held n 5 [c0] = some y0 := by simpa [pcell_u8] using hg 0 (by decide)
      obtain ⟨a0, e0, _, w0⟩ := DataW.trod_int Tryz.underlying5 t0
      simp at e0
      subst e0
      have t1 : DataW.trod enc Tryz.prog W base (fun _ => true) held n 5 [c1] = some y1 := by simpa [pcell_u8] using hg 1 (by decide)
      obtain ⟨a1, e1, _, w1⟩ := DataW.trod_int Tryz.underlying5 t1
      simp at e1
      subst e1
      have t2 : DataW.trod enc Tryz.prog W base (fun _ => true) held n 5 [c2] = some y2 := by simpa [pcell_u8] using hg 2 (by decide)
      obtain ⟨a2, e2, _, w2⟩ := DataW.trod_int Tryz.underlying5 t2
      simp at e2
      subst e2
      exact ⟨a0, a1, a2, rfl, w0, w1, w2⟩
set_option maxRecDepth 100000 in
theorem oct6_cells {H : Type} {enc : TypeId × Value → H} {W : World} {base fuel : Nat} {held : Bool} {l : List Value} {x : DataW H × List MemPlace} (hl : l.length = 6) (h : DataW.trod enc Tryz.prog W base (fun _ => true) held fuel 22 l = some x) :
    ∃ (a0 a1 a2 a3 a4 a5 : Int), l = [.int .u8 a0, .int .u8 a1, .int .u8 a2, .int .u8 a3, .int .u8 a4, .int .u8 a5] ∧ (Lit.int .u8 a0).wf = true ∧ (Lit.int .u8 a1).wf = true ∧ (Lit.int .u8 a2).wf = true ∧ (Lit.int .u8 a3).wf = true ∧ (Lit.int .u8 a4).wf = true ∧ (Lit.int .u8 a5).wf = true := by
  match l, hl with
  | [c0, c1, c2, c3, c4, c5], _ =>
    obtain ⟨xs, n, _, hx, _, hlen, hg⟩ := DataW.trod_array Tryz.underlying22 h
    match xs, hlen with
    | [y0, y1, y2, y3, y4, y5], _ =>
      have t0 : DataW.trod enc Tryz.prog W base (fun _ => true) held n 5 [c0] = some y0 := by simpa [pcell_u8] using hg 0 (by decide)
      obtain ⟨a0, e0, _, w0⟩ := DataW.trod_int Tryz.underlying5 t0
      simp at e0
      subst e0
      have t1 : DataW.trod enc Tryz.prog W base (fun _ => true) held n 5 [c1] = some y1 := by simpa [pcell_u8] using hg 1 (by decide)
      obtain ⟨a1, e1, _, w1⟩ := DataW.trod_int Tryz.underlying5 t1
      simp at e1
      subst e1
      have t2 : DataW.trod enc Tryz.prog W base (fun _ => true) held n 5 [c2] = some y2 := by simpa [pcell_u8] using hg 2 (by decide)
      obtain ⟨a2, e2, _, w2⟩ := DataW.trod_int Tryz.underlying5 t2
      simp at e2
      subst e2
      have t3 : DataW.trod enc Tryz.prog W base (fun _ => true) held n 5 [c3] = some y3 := by simpa [pcell_u8] using hg 3 (by decide)
      obtain ⟨a3, e3, _, w3⟩ := DataW.trod_int Tryz.underlying5 t3
      simp at e3
      subst e3
      have t4 : DataW.trod enc Tryz.prog W base (fun _ => true) held n 5 [c4] = some y4 := by simpa [pcell_u8] using hg 4 (by decide)
      obtain ⟨a4, e4, _, w4⟩ := DataW.trod_int Tryz.underlying5 t4
      simp at e4
      subst e4
      have t5 : DataW.trod enc Tryz.prog W base (fun _ => true) held n 5 [c5] = some y5 := by simpa [pcell_u8] using hg 5 (by decide)
      obtain ⟨a5, e5, _, w5⟩ := DataW.trod_int Tryz.underlying5 t5
      simp at e5
      subst e5
      exact ⟨a0, a1, a2, a3, a4, a5, rfl, w0, w1, w2, w3, w4, w5⟩
set_option maxRecDepth 100000 in
theorem oct2_cells {H : Type} {enc : TypeId × Value → H} {W : World} {base fuel : Nat} {held : Bool} {l : List Value} {x : DataW H × List MemPlace} (hl : l.length = 2) (h : DataW.trod enc Tryz.prog W base (fun _ => true) held fuel 24 l = some x) :
    ∃ (a0 a1 : Int), l = [.int .u8 a0, .int .u8 a1] ∧ (Lit.int .u8 a0).wf = true ∧ (Lit.int .u8 a1).wf = true := by
  match l, hl with
  | [c0, c1], _ =>
    obtain ⟨xs, n, _, hx, _, hlen, hg⟩ := DataW.trod_array Tryz.underlying24 h
    match xs, hlen with
    | [y0, y1], _ =>
      have t0 : DataW.trod enc Tryz.prog W base (fun _ => true) held n 5 [c0] = some y0 := by simpa [pcell_u8] using hg 0 (by decide)
      obtain ⟨a0, e0, _, w0⟩ := DataW.trod_int Tryz.underlying5 t0
      simp at e0
      subst e0
      have t1 : DataW.trod enc Tryz.prog W base (fun _ => true) held n 5 [c1] = some y1 := by simpa [pcell_u8] using hg 1 (by decide)
      obtain ⟨a1, e1, _, w1⟩ := DataW.trod_int Tryz.underlying5 t1
      simp at e1
      subst e1
      exact ⟨a0, a1, rfl, w0, w1⟩
theorem extra_open {H : Type} {enc : TypeId × Value → H} {W : World} {base fuel : Nat} {held : Bool} {v : Value} {x : DataW H × List MemPlace} (h : DataW.trod enc Tryz.prog W base (fun _ => true) held fuel 23 [v] = some x) : ∃ s n c l, v = .slice s n c ∧ Tris .u8 .u8 .u8 W s n c l := by
  rcases DataW.trod_slice Tryz.underlying23 h with ⟨hv, _⟩ | ⟨a, len, cap, elems, rest, n, _, hv, _, _, hl, hm, hlen, hel, _, _⟩
  · simp at hv
    exact ⟨none, 0, 0, [], hv, Tris.of_nil _ _ _ _⟩
  · simp at hv
    have each : ∀ i, i < len → ∃ y : (Int × Int × Int), (W.cell? (a.add (i * 3)) = some (.int .u8 y.1) ∧ W.cell? ((a.add (i * 3)).add 1) = some (.int .u8 y.2.1) ∧ W.cell? ((a.add (i * 3)).add 2) = some (.int .u8 y.2.2)) ∧ ((Lit.int .u8 y.1).wf = true ∧ (Lit.int .u8 y.2.1).wf = true ∧ (Lit.int .u8 y.2.2).wf = true) := by
      intro i hi
      have he' := hel i hi
      rw [pcell_a38, List.getElem?_eq_getElem (by omega), Option.bind_eq_some_iff] at he'
      obtain ⟨cs', hcs, hy⟩ := he'
      obtain ⟨hl2, hg⟩ := cells_len hcs
      obtain ⟨a0, a1, a2, rfl, w0, w1, w2⟩ := oct3_cells hl2 hy
      exact ⟨(a0, a1, a2), ⟨by simpa [Addr.add] using hg 0 (by decide), by simpa using hg 1 (by decide), by simpa using hg 2 (by decide)⟩, w0, w1, w2⟩
    have hex : ∃ l : List (Int × Int × Int), l.length = len ∧ ∀ i, i < len → (W.cell? (a.add (i * 3)) = some (.int .u8 (l.getD i (0, 0, 0)).1) ∧ W.cell? ((a.add (i * 3)).add 1) = some (.int .u8 (l.getD i (0, 0, 0)).2.1) ∧ W.cell? ((a.add (i * 3)).add 2) = some (.int .u8 (l.getD i (0, 0, 0)).2.2)) ∧ ((Lit.int .u8 (l.getD i (0, 0, 0)).1).wf = true ∧ (Lit.int .u8 (l.getD i (0, 0, 0)).2.1).wf = true ∧ (Lit.int .u8 (l.getD i (0, 0, 0)).2.2).wf = true) := by
      refine ⟨(List.range len).map fun i => if hi : i < len then Classical.choose (each i hi) else (0, 0, 0), by simp, fun i hi => ?_⟩
      have := Classical.choose_spec (each i hi)
      simpa [List.getD_eq_getElem?_getD, hi] using this
    obtain ⟨l, hll, hcell⟩ := hex
    refine ⟨some a, len, cap, l, hv, hll, hl, hm, fun y hy => ?_, ?_, by simp⟩
    · obtain ⟨i, hi, rfl⟩ := List.getElem_of_mem hy
      have := (hcell i (by omega)).2
      simp only [List.getD_eq_getElem?_getD, List.getElem?_eq_getElem hi, Option.getD_some] at this
      exact this
    · by_cases h0 : len = 0
      · exact .inl h0
      · obtain ⟨b, off, spot⟩ := a
        have h1 := (hcell 0 (by omega)).1.1
        have hspot : spot = none := by simpa [Addr.add] using World.cell?_spot h1
        subst hspot
        have hadd : ∀ (o j : Nat), (⟨b, o, none⟩ : Addr).add j = ⟨b, o + j, none⟩ := fun o j => by unfold Addr.add; split <;> simp_all
        refine .inr ⟨b, off, rfl, fun i hi => ?_⟩
        obtain ⟨hg, _⟩ := hcell i hi
        simp only [hadd] at hg
        exact hg
/-- An octet. -/
def Oc (x : Int) : Prop := (Lit.int .u8 x).wf = true
theorem Oc.range {x : Int} (h : Oc x) : 0 ≤ x ∧ x ≤ 255 := wf_u8p h
set_option maxRecDepth 100000 in
theorem nn_cells {H : Type} {enc : TypeId × Value → H} {W : World} {base fuel : Nat} {held : Bool} {l : List Value} {x : DataW H × List MemPlace} (hl : l.length = 19) (h : DataW.trod enc Tryz.prog W base (fun _ => true) held fuel 26 l = some x) :
    ∃ (mn p0 p1 p2 p3 p4 p5 en t0 t1 t2 t3 t4 t5 ra ro k0 k1 : Int) (s : Option Addr) (m c : Nat) (E : List (Int × Int × Int)), l = [.int .u8 mn, .int .u8 p0, .int .u8 p1, .int .u8 p2, .int .u8 p3, .int .u8 p4, .int .u8 p5, .int .u8 en, .int .u8 t0, .int .u8 t1, .int .u8 t2, .int .u8 t3, .int .u8 t4, .int .u8 t5, .slice s m c, .int .u8 ra, .int .u8 ro, .int .u8 k0, .int .u8 k1] ∧ Tris .u8 .u8 .u8 W s m c E ∧ Oc mn ∧ Oc p0 ∧ Oc p1 ∧ Oc p2 ∧ Oc p3 ∧ Oc p4 ∧ Oc p5 ∧ Oc en ∧ Oc t0 ∧ Oc t1 ∧ Oc t2 ∧ Oc t3 ∧ Oc t4 ∧ Oc t5 ∧ Oc ra ∧ Oc ro ∧ Oc k0 ∧ Oc k1 := by
  match l, hl with
  | [c0, c1, c2, c3, c4, c5, c6, c7, c8, c9, c10, c11, c12, c13, c14, c15, c16, c17, c18], _ =>
    obtain ⟨xs, n, _, hx, _, hlen, hg⟩ := DataW.trod_struct Tryz.underlying26 h
    match xs, hlen with
    | [y0, y1, y2, y3, y4, y5, y6, y7], _ =>
      have u0 : DataW.trod enc Tryz.prog W base (fun _ => true) held n 5 [c0] = some y0 := by simpa [pcell_u8] using hg 0 _ rfl
      obtain ⟨mn, e0, _, wmn⟩ := DataW.trod_int Tryz.underlying5 u0
      simp at e0
      subst e0
      have u1 : DataW.trod enc Tryz.prog W base (fun _ => true) held n 22 [c1, c2, c3, c4, c5, c6] = some y1 := by simpa [pcell_a68] using hg 1 _ rfl
      obtain ⟨p0, p1, p2, p3, p4, p5, e1, wp0, wp1, wp2, wp3, wp4, wp5⟩ := oct6_cells rfl u1
      simp at e1
      obtain ⟨rfl, rfl, rfl, rfl, rfl, rfl⟩ := e1
      have u2 : DataW.trod enc Tryz.prog W base (fun _ => true) held n 5 [c7] = some y2 := by simpa [pcell_u8] using hg 2 _ rfl
      obtain ⟨en, e2, _, wen⟩ := DataW.trod_int Tryz.underlying5 u2
      simp at e2
      subst e2
      have u3 : DataW.trod enc Tryz.prog W base (fun _ => true) held n 22 [c8, c9, c10, c11, c12, c13] = some y3 := by simpa [pcell_a68] using hg 3 _ rfl
      obtain ⟨t0, t1, t2, t3, t4, t5, e3, wt0, wt1, wt2, wt3, wt4, wt5⟩ := oct6_cells rfl u3
      simp at e3
      obtain ⟨rfl, rfl, rfl, rfl, rfl, rfl⟩ := e3
      have u4 : DataW.trod enc Tryz.prog W base (fun _ => true) held n 23 [c14] = some y4 := by simpa [pcell_s38] using hg 4 _ rfl
      obtain ⟨s, m, c, E, rfl, hE⟩ := extra_open u4
      have u5 : DataW.trod enc Tryz.prog W base (fun _ => true) held n 5 [c15] = some y5 := by simpa [pcell_u8] using hg 5 _ rfl
      obtain ⟨ra, e5, _, wra⟩ := DataW.trod_int Tryz.underlying5 u5
      simp at e5
      subst e5
      have u6 : DataW.trod enc Tryz.prog W base (fun _ => true) held n 5 [c16] = some y6 := by simpa [pcell_u8] using hg 6 _ rfl
      obtain ⟨ro, e6, _, wro⟩ := DataW.trod_int Tryz.underlying5 u6
      simp at e6
      subst e6
      have u7 : DataW.trod enc Tryz.prog W base (fun _ => true) held n 24 [c17, c18] = some y7 := by simpa [pcell_a28] using hg 7 _ rfl
      obtain ⟨k0, k1, e7, wk0, wk1⟩ := oct2_cells rfl u7
      simp at e7
      obtain ⟨rfl, rfl⟩ := e7
      exact ⟨mn, p0, p1, p2, p3, p4, p5, en, t0, t1, t2, t3, t4, t5, ra, ro, k0, k1, s, m, c, E, rfl, hE, wmn, wp0, wp1, wp2, wp3, wp4, wp5, wen, wt0, wt1, wt2, wt3, wt4, wt5, wra, wro, wk0, wk1⟩
set_option maxRecDepth 100000 in
theorem nn_open {H : Type} {enc : TypeId × Value → H} {W : World} {base b0 : Nat} {held : Bool} {v : Value} {d : DataW H} {p : List MemPlace}
    (hv : Value.okWide Tryz.prog W .any b0 26 v) (h : DataW.Trod enc Tryz.prog W base (fun _ => true) held 26 v d p) :
    ∃ (mn p0 p1 p2 p3 p4 p5 en t0 t1 t2 t3 t4 t5 ra ro k0 k1 : Int) (s : Option Addr) (m c : Nat) (E : List (Int × Int × Int)), v = .agg #[.int .u8 mn, .int .u8 p0, .int .u8 p1, .int .u8 p2, .int .u8 p3, .int .u8 p4, .int .u8 p5, .int .u8 en, .int .u8 t0, .int .u8 t1, .int .u8 t2, .int .u8 t3, .int .u8 t4, .int .u8 t5, .slice s m c, .int .u8 ra, .int .u8 ro, .int .u8 k0, .int .u8 k1] ∧ Tris .u8 .u8 .u8 W s m c E ∧ Oc mn ∧ Oc p0 ∧ Oc p1 ∧ Oc p2 ∧ Oc p3 ∧ Oc p4 ∧ Oc p5 ∧ Oc en ∧ Oc t0 ∧ Oc t1 ∧ Oc t2 ∧ Oc t3 ∧ Oc t4 ∧ Oc t5 ∧ Oc ra ∧ Oc ro ∧ Oc k0 ∧ Oc k1 := by
  obtain ⟨cs, rfl, hsz⟩ := okWide_struct Tryz.underlying26 hv
  obtain ⟨l⟩ := cs
  obtain ⟨fuel, hf⟩ := h
  obtain ⟨mn, p0, p1, p2, p3, p4, p5, en, t0, t1, t2, t3, t4, t5, ra, ro, k0, k1, s, m, c, E, e, h⟩ := nn_cells (l := l) (hsz.trans (by kernel_rfl)) hf
  subst e
  exact ⟨mn, p0, p1, p2, p3, p4, p5, en, t0, t1, t2, t3, t4, t5, ra, ro, k0, k1, s, m, c, E, rfl, h⟩
end Go.Proofs.YthlckipcgogogaaGreatDoor
/- Contracts of package labels: Other. -/
namespace Go.Proofs.YthlckipcgogogaaGreatDoor
set_option linter.unusedVariables false
open Go.RowKit

theorem wf_u16 {x : Int} : (Lit.int .u16 x).wf = true ↔ 0 ≤ x ∧ x ≤ 65535 := by
  simp [Lit.wf, IntKind.min, IntKind.max, IntKind.bits, IntKind.signed]
/-- The other end of a link, and whether there is one. -/
def othB (A B P : Int) : Bool := decide (A = P) != decide (B = P)
def othL (A B P : Int) : Int := if othB A B P then (if A = P then B else A) else 0
theorem other_any (A B C P : Int) (w : World) :
    Calls Tryz.prog 87 #[.agg #[.int .u16 A, .int .u16 B, .int .u8 C], .int .u16 P] w fun e w' => e = .returned (.tuple #[.int .u16 (othL A B P), .bool (othB A B P)]) ∧ Below w.heap.size w w' := by
  by_cases h1 : A = P
  · by_cases h2 : B = P
    · have r1 : othB A B P = false := by simp [othB, h1, h2]
      have r2 : othL A B P = 0 := by simp [othL, r1]
      rw [r1, r2]
      clear r1 r2
      subst h1; subst h2
      go_enter Tryz.func87, Tryz.ntmps87
      go_wp2
      go_ret2
      exact ⟨rfl, below_alloc _ _⟩
    · have r1 : othB A B P = true := by simp [othB, h1, h2]
      have r2 : othL A B P = B := by rw [othL, r1, if_pos rfl, if_pos h1]
      rw [r1, r2]
      clear r1 r2
      subst h1
      have h3 : (B == A) = false := by simpa using h2
      go_enter Tryz.func87, Tryz.ntmps87
      go_wp2
      go_ret2
      exact ⟨rfl, below_alloc _ _⟩
  · have h3 : (A == P) = false := by simpa using h1
    by_cases h2 : B = P
    · have r1 : othB A B P = true := by simp [othB, h1, h2]
      have r2 : othL A B P = A := by rw [othL, r1, if_pos rfl, if_neg h1]
      rw [r1, r2]
      clear r1 r2
      subst h2
      go_enter Tryz.func87, Tryz.ntmps87
      go_wp2
      go_ret2
      exact ⟨rfl, below_alloc _ _⟩
    · have r1 : othB A B P = false := by simp [othB, h1, h2]
      have r2 : othL A B P = 0 := by simp [othL, r1]
      rw [r1, r2]
      clear r1 r2
      have h4 : (B == P) = false := by simpa using h2
      go_enter Tryz.func87, Tryz.ntmps87
      go_wp2
      go_ret2
      exact ⟨rfl, below_alloc _ _⟩
end Go.Proofs.YthlckipcgogogaaGreatDoor
/- The statements' data of a plan as natural numbers. -/
namespace Go.Proofs.YthlckipcgogogaaGreatDoor
set_option linter.unusedVariables false
open Go.RowKit Go.ChangeShapes Go.WideShapes Go.ChangeAt Go.WideMaps Go.WideElems Go.Deep

/-- The data in bounds. -/
structure NnOk (x : Nn) : Prop where
  many : x.many ≤ 255
  codes : x.codes.length = 6 ∧ ∀ y ∈ x.codes, y ≤ 255
  ends : x.ends ≤ 255
  tree : x.tree.length = 6 ∧ ∀ y ∈ x.tree, y ≤ 255
  extra : ∀ e ∈ x.extra, e.1 ≤ 255 ∧ e.2.1 ≤ 255 ∧ e.2.2 ≤ 255
  rate : x.rate ≤ 255
  room : x.room ≤ 255
  k0 : x.k0 ≤ 255
  k1 : x.k1 ≤ 255
/-- The further lines as a slice value. -/
structure ERow (w : World) (a : Option Addr) (n c : Nat) (E : List (Nat × Nat × Nat)) : Prop where
  len : E.length = n
  le : n ≤ c
  max : c ≤ maxLen
  cells : n = 0 ∨ ∃ b off, a = some ⟨b, off, none⟩ ∧ ∀ i, i < n → w.cell? ⟨b, off + i * 3, none⟩ = some (.int .u8 ((E.getD i (0, 0, 0)).1 : Int)) ∧ w.cell? ⟨b, off + i * 3 + 1, none⟩ = some (.int .u8 ((E.getD i (0, 0, 0)).2.1 : Int)) ∧ w.cell? ⟨b, off + i * 3 + 2, none⟩ = some (.int .u8 ((E.getD i (0, 0, 0)).2.2 : Int))
theorem ERow.later {w w' : World} {a : Option Addr} {n c : Nat} {E : List (Nat × Nat × Nat)} (h : ERow w a n c E) (hb : Below w.heap.size w w') : ERow w' a n c E := by
  refine ⟨h.len, h.le, h.max, ?_⟩
  rcases h.cells with h0 | ⟨b, off, ha, hc⟩
  · exact .inl h0
  · refine .inr ⟨b, off, ha, fun i hi => ?_⟩
    obtain ⟨c0, c1, c2⟩ := hc i hi
    exact ⟨(hb.cell (World.block_lt_of_cell? _ _ c0)).trans c0, (hb.cell (World.block_lt_of_cell? _ _ c1)).trans c1, (hb.cell (World.block_lt_of_cell? _ _ c2)).trans c2⟩
def nnCells (x : Nn) (s : Option Addr) (m c : Nat) : List Value := [.int .u8 x.many, .int .u8 (x.codes.getD 0 0 : Nat), .int .u8 (x.codes.getD 1 0 : Nat), .int .u8 (x.codes.getD 2 0 : Nat), .int .u8 (x.codes.getD 3 0 : Nat), .int .u8 (x.codes.getD 4 0 : Nat), .int .u8 (x.codes.getD 5 0 : Nat), .int .u8 x.ends, .int .u8 (x.tree.getD 0 0 : Nat), .int .u8 (x.tree.getD 1 0 : Nat), .int .u8 (x.tree.getD 2 0 : Nat), .int .u8 (x.tree.getD 3 0 : Nat), .int .u8 (x.tree.getD 4 0 : Nat), .int .u8 (x.tree.getD 5 0 : Nat), .slice s m c, .int .u8 x.rate, .int .u8 x.room, .int .u8 x.k0, .int .u8 x.k1]
theorem nn_code (x : Nn) (s : Option Addr) (m c k : Nat) (hk : k < 6) : (nnCells x s m c).getD (1 + k) undef = .int .u8 (x.codes.getD k 0 : Nat) := by
  match k, hk with
  | 0, _ => rfl
  | 1, _ => rfl
  | 2, _ => rfl
  | 3, _ => rfl
  | 4, _ => rfl
  | 5, _ => rfl
theorem nn_tree (x : Nn) (s : Option Addr) (m c k : Nat) (hk : k < 6) : (nnCells x s m c).getD (8 + k) undef = .int .u8 (x.tree.getD k 0 : Nat) := by
  match k, hk with
  | 0, _ => rfl
  | 1, _ => rfl
  | 2, _ => rfl
  | 3, _ => rfl
  | 4, _ => rfl
  | 5, _ => rfl
theorem NnOk.code {x : Nn} (h : NnOk x) {k : Nat} (hk : k < 6) : x.codes.getD k 0 ≤ 255 := by
  have e : x.codes.getD k 0 = x.codes[k]'(by rw [h.codes.1]; exact hk) := by rw [List.getD_eq_getElem?_getD, List.getElem?_eq_getElem]; rfl
  rw [e]
  exact h.codes.2 _ (List.getElem_mem _)
theorem NnOk.treeAt {x : Nn} (h : NnOk x) {k : Nat} (hk : k < 6) : x.tree.getD k 0 ≤ 255 := by
  have e : x.tree.getD k 0 = x.tree[k]'(by rw [h.tree.1]; exact hk) := by rw [List.getD_eq_getElem?_getD, List.getElem?_eq_getElem]; rfl
  rw [e]
  exact h.tree.2 _ (List.getElem_mem _)
theorem NnOk.extraAt {x : Nn} (h : NnOk x) {k : Nat} (hk : k < x.extra.length) : (x.extra.getD k (0, 0, 0)).1 ≤ 255 ∧ (x.extra.getD k (0, 0, 0)).2.1 ≤ 255 ∧ (x.extra.getD k (0, 0, 0)).2.2 ≤ 255 := by
  have e : x.extra.getD k (0, 0, 0) = x.extra[k] := by rw [List.getD_eq_getElem?_getD, List.getElem?_eq_getElem hk]; rfl
  rw [e]
  exact h.extra _ (List.getElem_mem _)
def nnV (x : Nn) (s : Option Addr) (c : Nat) : Value := .agg (nnCells x s x.extra.length c).toArray
/-- The argument reads as data. -/
structure NnAt (w : World) (x : Nn) (s : Option Addr) (c : Nat) : Prop where
  ok : NnOk x
  row : ERow w s x.extra.length c x.extra
theorem NnAt.later {w w' : World} {x : Nn} {s : Option Addr} {c : Nat} (h : NnAt w x s c) (hb : Below w.heap.size w w') : NnAt w' x s c := ⟨h.ok, h.row.later hb⟩
theorem oc_nat {x : Int} (h : Oc x) : ∃ k : Nat, x = k ∧ k ≤ 255 := ⟨x.toNat, by have := h.range; omega, by have := h.range; omega⟩
def triN (e : Int × Int × Int) : Nat × Nat × Nat := (e.1.toNat, e.2.1.toNat, e.2.2.toNat)
theorem tris_nat {w : World} {s : Option Addr} {m c : Nat} {E : List (Int × Int × Int)} (h : Tris .u8 .u8 .u8 w s m c E) : ERow w s m c (E.map triN) ∧ ∀ e ∈ E.map triN, e.1 ≤ 255 ∧ e.2.1 ≤ 255 ∧ e.2.2 ≤ 255 := by
  have hwf : ∀ x ∈ E, (0 ≤ x.1 ∧ x.1 ≤ 255) ∧ (0 ≤ x.2.1 ∧ x.2.1 ≤ 255) ∧ (0 ≤ x.2.2 ∧ x.2.2 ≤ 255) := fun x hx => by
    obtain ⟨h0, h1, h2⟩ := h.wf x hx
    exact ⟨wf_u8p h0, wf_u8p h1, wf_u8p h2⟩
  refine ⟨⟨by rw [List.length_map]; exact h.len, h.le, h.max, ?_⟩, fun e he => ?_⟩
  · rcases h.cells with h0 | ⟨b, off, ha, hc⟩
    · exact .inl h0
    · refine .inr ⟨b, off, ha, fun i hi => ?_⟩
      obtain ⟨c0, c1, c2⟩ := hc i hi
      have hl : i < E.length := by rw [h.len]; exact hi
      have e1 : (E.map triN).getD i (0, 0, 0) = triN (E.getD i (0, 0, 0)) := by simp [List.getD_eq_getElem?_getD, hl]
      have hx : E.getD i (0, 0, 0) ∈ E := by
        have : E.getD i (0, 0, 0) = E[i] := by simp [List.getD_eq_getElem?_getD, hl]
        rw [this]; exact List.getElem_mem hl
      obtain ⟨w0, w1, w2⟩ := hwf _ hx
      rw [e1]
      unfold triN
      simp only
      rw [Int.toNat_of_nonneg w0.1, Int.toNat_of_nonneg w1.1, Int.toNat_of_nonneg w2.1]
      exact ⟨c0, c1, c2⟩
  · obtain ⟨x, hx, rfl⟩ := List.mem_map.1 he
    obtain ⟨w0, w1, w2⟩ := hwf x hx
    unfold triN
    simp only
    omega
set_option maxRecDepth 100000 in
theorem nn_nat {H : Type} {enc : TypeId × Value → H} {W : World} {base b0 : Nat} {held : Bool} {v : Value} {d : DataW H} {p : List MemPlace}
    (hv : Value.okWide Tryz.prog W .any b0 26 v) (h : DataW.Trod enc Tryz.prog W base (fun _ => true) held 26 v d p) :
    ∃ (x : Nn) (s : Option Addr) (c : Nat), v = nnV x s c ∧ NnAt W x s c := by
  obtain ⟨mn, p0, p1, p2, p3, p4, p5, en, t0, t1, t2, t3, t4, t5, ra, ro, k0, k1, s, m, c, E, rfl, hE, wmn, wp0, wp1, wp2, wp3, wp4, wp5, wen, wt0, wt1, wt2, wt3, wt4, wt5, wra, wro, wk0, wk1⟩ := nn_open hv h
  obtain ⟨mn, rfl, vmn⟩ := oc_nat wmn
  obtain ⟨p0, rfl, vp0⟩ := oc_nat wp0
  obtain ⟨p1, rfl, vp1⟩ := oc_nat wp1
  obtain ⟨p2, rfl, vp2⟩ := oc_nat wp2
  obtain ⟨p3, rfl, vp3⟩ := oc_nat wp3
  obtain ⟨p4, rfl, vp4⟩ := oc_nat wp4
  obtain ⟨p5, rfl, vp5⟩ := oc_nat wp5
  obtain ⟨en, rfl, ven⟩ := oc_nat wen
  obtain ⟨t0, rfl, vt0⟩ := oc_nat wt0
  obtain ⟨t1, rfl, vt1⟩ := oc_nat wt1
  obtain ⟨t2, rfl, vt2⟩ := oc_nat wt2
  obtain ⟨t3, rfl, vt3⟩ := oc_nat wt3
  obtain ⟨t4, rfl, vt4⟩ := oc_nat wt4
  obtain ⟨t5, rfl, vt5⟩ := oc_nat wt5
  obtain ⟨ra, rfl, vra⟩ := oc_nat wra
  obtain ⟨ro, rfl, vro⟩ := oc_nat wro
  obtain ⟨k0, rfl, vk0⟩ := oc_nat wk0
  obtain ⟨k1, rfl, vk1⟩ := oc_nat wk1
  obtain ⟨hr, hx⟩ := tris_nat hE
  have hm : (E.map triN).length = m := hr.len
  subst hm
  refine ⟨⟨mn, [p0, p1, p2, p3, p4, p5], en, [t0, t1, t2, t3, t4, t5], E.map triN, ra, ro, k0, k1⟩, s, c, rfl, ⟨vmn, ⟨rfl, ?_⟩, ven, ⟨rfl, ?_⟩, hx, vra, vro, vk0, vk1⟩, hr⟩
  · intro y hy
    simp only [List.mem_cons, List.not_mem_nil, or_false] at hy
    omega
  · intro y hy
    simp only [List.mem_cons, List.not_mem_nil, or_false] at hy
    omega
theorem okWide_array {P : Program} {w : World} {r : Reach} {b0 n : Nat} {t e : TypeId} {v : Value} (hu : P.underlying t = some (.array n e)) (h : Value.okWide P w r b0 t v) : ∃ cs : Array Value, v = .agg cs ∧ cs.size = P.cellsOf t := by
  simp only [Value.okWide, hu] at h
  obtain ⟨cs, h1, h2, _⟩ := h
  exact ⟨cs, h1, h2⟩
set_option maxRecDepth 100000 in
theorem oct2_open {H : Type} {enc : TypeId × Value → H} {W : World} {base b0 : Nat} {sp : Nat → Bool} {held : Bool} {v : Value} {d : DataW H} {p : List MemPlace}
    (hv : Value.okWide Tryz.prog W .any b0 24 v) (h : DataW.Trod enc Tryz.prog W base sp held 24 v d p) :
    ∃ a b : Nat, v = .agg #[.int .u8 (a : Int), .int .u8 (b : Int)] ∧ a ≤ 255 ∧ b ≤ 255 := by
  obtain ⟨cs, rfl, hsz⟩ := okWide_array Tryz.underlying24 hv
  obtain ⟨l⟩ := cs
  obtain ⟨fuel, hf⟩ := h
  have hl : l.length = 2 := hsz.trans (by kernel_rfl)
  obtain ⟨xs, m, _, hx, _, hlen, hel⟩ := DataW.trod_array Tryz.underlying24 (show DataW.trod enc Tryz.prog W base sp held fuel 24 l = some (d, p) from hf)
  have c1 : Tryz.prog.cellsOf 5 = 1 := by kernel_rfl
  match xs, hlen, l, hl with
  | [x0, x1], _, [l0, l1], _ =>
    have h0 := hel 0 (by decide)
    have h1 := hel 1 (by decide)
    rw [c1] at h0 h1
    obtain ⟨a, e0, _, w0⟩ := DataW.trod_int Tryz.underlying5 (show DataW.trod enc Tryz.prog W base sp held m 5 [l0] = some x0 from h0)
    obtain ⟨b, e1, _, w1⟩ := DataW.trod_int Tryz.underlying5 (show DataW.trod enc Tryz.prog W base sp held m 5 [l1] = some x1 from h1)
    simp at e0 e1
    subst e0 e1
    have w0 := wf_u8p w0
    have w1 := wf_u8p w1
    refine ⟨a.toNat, b.toNat, ?_, by omega, by omega⟩
    rw [Int.toNat_of_nonneg w0.1, Int.toNat_of_nonneg w1.1]
end Go.Proofs.YthlckipcgogogaaGreatDoor
