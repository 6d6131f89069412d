/- Joined: PlOpen OpenTri. -/
import Derived.Test.YthlckipcgogogaaGreatDoorPlCells
import Derived.Deep.Fields
import Derived.ProofKit
import Derived.OpenShut
import Derived.ChangeSame
import Derived.LaidMore
import Derived.Stop.Joined
import Derived.Test.YthlckipcgogogaaGreatDoorBase
/- Plans by value, opened: what lies at which cell. -/
namespace Go.Proofs.YthlckipcgogogaaGreatDoor
set_option linter.unusedVariables false
open Go.ChangeShapes Go.WideShapes Go.ChangeAt Go.WideMaps Go.WideElems Go.RowKit Go.Deep

theorem pcell_int : Tryz.prog.cellsOf 3 = 1 := by kernel_rfl
theorem pcell_bool : Tryz.prog.cellsOf 4 = 1 := by kernel_rfl
theorem pcell_u8 : Tryz.prog.cellsOf 5 = 1 := by kernel_rfl
theorem pcell_pt : Tryz.prog.cellsOf 53 = 1 := by kernel_rfl
theorem pcell_lk : Tryz.prog.cellsOf 74 = 3 := by kernel_rfl
theorem pcell_pl : Tryz.prog.cellsOf 72 = 2 := by kernel_rfl
theorem pcell_ln : Tryz.prog.cellsOf 76 = 4 := by kernel_rfl
theorem pcell_sp : Tryz.prog.cellsOf 27 = 1 := by kernel_rfl
theorem pcell_sl : Tryz.prog.cellsOf 28 = 1 := by kernel_rfl
theorem pcell_a3 : Tryz.prog.cellsOf 29 = 3 := by kernel_rfl
theorem cells_len : ∀ {w : World} {base k : Nat} {a : Addr} {cs : List Value}, w.cells? base a k = some cs → cs.length = k ∧ ∀ i, i < k → w.cell? (a.add i) = some (cs.getD i undef) := by
  intro w base k a cs h
  unfold World.cells? at h
  split at h
  · have hl := mapM_some_length h
    refine ⟨by simpa using hl, fun i hi => ?_⟩
    have := mapM_some_get h i i (by simp [hi])
    rw [this]
    simp [List.getD_eq_getElem?_getD, show i < cs.length by simp at hl; omega]
  · cases h
set_option maxRecDepth 100000 in
theorem place_cells {H : Type} {enc : TypeId × Value → H} {W : World} {base fuel : Nat} {held : Bool} {l : List Value} {x : DataW H × List MemPlace} (hl : l.length = 2) (h : DataW.trod enc Tryz.prog W base (fun _ => true) held fuel 72 l = some x) :
    ∃ (a0 : Int) (b1 : Bool), l = [.int .u16 a0, .bool b1] ∧ (Lit.int .u16 a0).wf = true := by
  match l, hl with
  | [c0, c1], _ =>
    obtain ⟨xs, n, _, hx, _, hlen, hg⟩ := DataW.trod_struct Tryz.underlying72 h
    match xs, hlen with
    | [y0, y1], _ =>
      have t0 : DataW.trod enc Tryz.prog W base (fun _ => true) held n 53 [c0] = some y0 := by simpa [pcell_pt] using hg 0 _ rfl
      obtain ⟨a0, e0, _, w0⟩ := DataW.trod_int Tryz.underlying53 t0
      simp at e0
      subst e0
      have t1 : DataW.trod enc Tryz.prog W base (fun _ => true) held n 4 [c1] = some y1 := by simpa [pcell_bool] using hg 1 _ rfl
      obtain ⟨b1, e1, _⟩ := DataW.trod_bool Tryz.underlying4 t1
      simp at e1
      subst e1
      exact ⟨a0, b1, rfl, w0⟩
set_option maxRecDepth 100000 in
theorem plink_cells {H : Type} {enc : TypeId × Value → H} {W : World} {base fuel : Nat} {held : Bool} {l : List Value} {x : DataW H × List MemPlace} (hl : l.length = 3) (h : DataW.trod enc Tryz.prog W base (fun _ => true) held fuel 74 l = some x) :
    ∃ (a0 a1 a2 : Int), l = [.int .u16 a0, .int .u16 a1, .int .u8 a2] ∧ (Lit.int .u16 a0).wf = true ∧ (Lit.int .u16 a1).wf = true ∧ (Lit.int .u8 a2).wf = true := by
  match l, hl with
  | [c0, c1, c2], _ =>
    obtain ⟨xs, n, _, hx, _, hlen, hg⟩ := DataW.trod_struct Tryz.underlying74 h
    match xs, hlen with
    | [y0, y1, y2], _ =>
      have t0 : DataW.trod enc Tryz.prog W base (fun _ => true) held n 53 [c0] = some y0 := by simpa [pcell_pt] using hg 0 _ rfl
      obtain ⟨a0, e0, _, w0⟩ := DataW.trod_int Tryz.underlying53 t0
      simp at e0
      subst e0
      have t1 : DataW.trod enc Tryz.prog W base (fun _ => true) held n 53 [c1] = some y1 := by simpa [pcell_pt] using hg 1 _ rfl
      obtain ⟨a1, e1, _, w1⟩ := DataW.trod_int Tryz.underlying53 t1
      simp at e1
      subst e1
      have t2 : DataW.trod enc Tryz.prog W base (fun _ => true) held n 5 [c2] = some y2 := by simpa [pcell_u8] using hg 2 _ rfl
      obtain ⟨a2, e2, _, w2⟩ := DataW.trod_int Tryz.underlying5 t2
      simp at e2
      subst e2
      exact ⟨a0, a1, a2, rfl, w0, w1, w2⟩
set_option maxRecDepth 100000 in
theorem line_cells {H : Type} {enc : TypeId × Value → H} {W : World} {base fuel : Nat} {held : Bool} {l : List Value} {x : DataW H × List MemPlace} (hl : l.length = 4) (h : DataW.trod enc Tryz.prog W base (fun _ => true) held fuel 76 l = some x) :
    ∃ (a0 a1 a2 a3 : Int), l = [.int .u16 a0, .int .u16 a1, .int .u8 a2, .int .i64 a3] ∧ (Lit.int .u16 a0).wf = true ∧ (Lit.int .u16 a1).wf = true ∧ (Lit.int .u8 a2).wf = true ∧ (Lit.int .i64 a3).wf = true := by
  match l, hl with
  | [c0, c1, c2, c3], _ =>
    obtain ⟨xs, n, _, hx, _, hlen, hg⟩ := DataW.trod_struct Tryz.underlying76 h
    match xs, hlen with
    | [y0, y1], _ =>
      have t0 : DataW.trod enc Tryz.prog W base (fun _ => true) held n 74 [c0, c1, c2] = some y0 := by simpa [pcell_lk] using hg 0 _ rfl
      obtain ⟨a0, a1, a2, e0, w0, w1, w2⟩ := plink_cells rfl t0
      simp at e0
      obtain ⟨rfl, rfl, rfl⟩ := e0
      have t1 : DataW.trod enc Tryz.prog W base (fun _ => true) held n 3 [c3] = some y1 := by simpa [pcell_int] using hg 1 _ rfl
      obtain ⟨a3, e3, _, w3⟩ := DataW.trod_int Tryz.underlying3 t1
      simp at e3
      subst e3
      exact ⟨a0, a1, a2, a3, rfl, w0, w1, w2, w3⟩
theorem wf_u16p {x : Int} (h : (Lit.int .u16 x).wf = true) : 0 ≤ x ∧ x ≤ 65535 := by simpa [Lit.wf, IntKind.min, IntKind.max, IntKind.bits, IntKind.signed] using h
theorem wf_u8p {x : Int} (h : (Lit.int .u8 x).wf = true) : 0 ≤ x ∧ x ≤ 255 := by simpa [Lit.wf, IntKind.min, IntKind.max, IntKind.bits, IntKind.signed] using h
theorem wf_i64p {x : Int} (h : (Lit.int .i64 x).wf = true) : -9223372036854775808 ≤ x ∧ x ≤ 9223372036854775807 := by simpa [Lit.wf, IntKind.min, IntKind.max, IntKind.bits, IntKind.signed] using h
theorem places_open {H : Type} {enc : TypeId × Value → H} {W : World} {base fuel : Nat} {held : Bool} {v : Value} {x : DataW H × List MemPlace} (h : DataW.trod enc Tryz.prog W base (fun _ => true) held fuel 27 [v] = some x) : ∃ s n c l, v = .slice s n c ∧ PRow W s n c l := by
  rcases DataW.trod_slice Tryz.underlying27 h with ⟨hv, _⟩ | ⟨a, len, cap, elems, rest, n, _, hv, _, _, hl, hm, hlen, hel, _, _⟩
  · simp at hv
    exact ⟨none, 0, 0, [], hv, PRow.of_nil _⟩
  · simp at hv
    have each : ∀ i, i < len → ∃ y : (Int × Bool), (W.cell? (a.add (i * 2)) = some (.int .u16 y.1) ∧ W.cell? ((a.add (i * 2)).add 1) = some (.bool y.2)) ∧ (Lit.int .u16 y.1).wf = true := by
      intro i hi
      have he' := hel i hi
      rw [pcell_pl, List.getElem?_eq_getElem (by omega), Option.bind_eq_some_iff] at he'
      obtain ⟨cs', hcs, hy⟩ := he'
      obtain ⟨hl2, hg⟩ := cells_len hcs
      obtain ⟨a0, b1, rfl, w0⟩ := place_cells hl2 hy
      exact ⟨(a0, b1), ⟨by simpa [Addr.add] using hg 0 (by decide), by simpa using hg 1 (by decide)⟩, w0⟩
    have hex : ∃ l : List (Int × Bool), l.length = len ∧ ∀ i, i < len → (W.cell? (a.add (i * 2)) = some (.int .u16 (l.getD i (0, false)).1) ∧ W.cell? ((a.add (i * 2)).add 1) = some (.bool (l.getD i (0, false)).2)) ∧ (Lit.int .u16 (l.getD i (0, false)).1).wf = true := by
      refine ⟨(List.range len).map fun i => if hi : i < len then Classical.choose (each i hi) else (0, false), by simp, fun i hi => ?_⟩
      have := Classical.choose_spec (each i hi)
      simpa [List.getD_eq_getElem?_getD, hi] using this
    obtain ⟨l, hll, hcell⟩ := hex
    refine ⟨some a, len, cap, l, hv, hll, hl, hm, fun y hy => ?_, ?_, by simp⟩
    · obtain ⟨i, hi, rfl⟩ := List.getElem_of_mem hy
      have := (hcell i (by omega)).2
      simp only [List.getD_eq_getElem?_getD, List.getElem?_eq_getElem hi, Option.getD_some] at this
      exact wf_u16p this
    · by_cases h0 : len = 0
      · exact .inl h0
      · obtain ⟨b, off, spot⟩ := a
        have h1 := (hcell 0 (by omega)).1.1
        have hspot : spot = none := by simpa [Addr.add] using World.cell?_spot h1
        subst hspot
        have hadd : ∀ (o j : Nat), (⟨b, o, none⟩ : Addr).add j = ⟨b, o + j, none⟩ := fun o j => by unfold Addr.add; split <;> simp_all
        refine .inr ⟨b, off, rfl, fun i hi => ?_⟩
        obtain ⟨hg, _⟩ := hcell i hi
        simp only [hadd] at hg
        exact hg
theorem lines_open {H : Type} {enc : TypeId × Value → H} {W : World} {base fuel : Nat} {held : Bool} {v : Value} {x : DataW H × List MemPlace} (h : DataW.trod enc Tryz.prog W base (fun _ => true) held fuel 28 [v] = some x) : ∃ s n c l, v = .slice s n c ∧ LRow W s n c l := by
  rcases DataW.trod_slice Tryz.underlying28 h with ⟨hv, _⟩ | ⟨a, len, cap, elems, rest, n, _, hv, _, _, hl, hm, hlen, hel, _, _⟩
  · simp at hv
    exact ⟨none, 0, 0, [], hv, LRow.of_nil _⟩
  · simp at hv
    have each : ∀ i, i < len → ∃ y : Ln, (W.cell? (a.add (i * 4)) = some (.int .u16 y.A) ∧ W.cell? ((a.add (i * 4)).add 1) = some (.int .u16 y.B) ∧ W.cell? ((a.add (i * 4)).add 2) = some (.int .u8 y.C) ∧ W.cell? ((a.add (i * 4)).add 3) = some (.int .i64 y.D)) ∧ ((Lit.int .u16 y.A).wf = true ∧ (Lit.int .u16 y.B).wf = true ∧ (Lit.int .u8 y.C).wf = true ∧ (Lit.int .i64 y.D).wf = true) := by
      intro i hi
      have he' := hel i hi
      rw [pcell_ln, List.getElem?_eq_getElem (by omega), Option.bind_eq_some_iff] at he'
      obtain ⟨cs', hcs, hy⟩ := he'
      obtain ⟨hl2, hg⟩ := cells_len hcs
      obtain ⟨a0, a1, a2, a3, rfl, w0, w1, w2, w3⟩ := line_cells hl2 hy
      exact ⟨⟨a0, a1, a2, a3⟩, ⟨by simpa [Addr.add] using hg 0 (by decide), by simpa using hg 1 (by decide), by simpa using hg 2 (by decide), by simpa using hg 3 (by decide)⟩, w0, w1, w2, w3⟩
    have hex : ∃ l : List Ln, l.length = len ∧ ∀ i, i < len → (W.cell? (a.add (i * 4)) = some (.int .u16 (l.getD i Ln.zero).A) ∧ W.cell? ((a.add (i * 4)).add 1) = some (.int .u16 (l.getD i Ln.zero).B) ∧ W.cell? ((a.add (i * 4)).add 2) = some (.int .u8 (l.getD i Ln.zero).C) ∧ W.cell? ((a.add (i * 4)).add 3) = some (.int .i64 (l.getD i Ln.zero).D)) ∧ ((Lit.int .u16 (l.getD i Ln.zero).A).wf = true ∧ (Lit.int .u16 (l.getD i Ln.zero).B).wf = true ∧ (Lit.int .u8 (l.getD i Ln.zero).C).wf = true ∧ (Lit.int .i64 (l.getD i Ln.zero).D).wf = true) := by
      refine ⟨(List.range len).map fun i => if hi : i < len then Classical.choose (each i hi) else Ln.zero, by simp, fun i hi => ?_⟩
      have := Classical.choose_spec (each i hi)
      simpa [List.getD_eq_getElem?_getD, hi] using this
    obtain ⟨l, hll, hcell⟩ := hex
    refine ⟨some a, len, cap, l, hv, hll, hl, hm, fun y hy => ?_, ?_, by simp⟩
    · obtain ⟨i, hi, rfl⟩ := List.getElem_of_mem hy
      have := (hcell i (by omega)).2
      simp only [List.getD_eq_getElem?_getD, List.getElem?_eq_getElem hi, Option.getD_some] at this
      exact ⟨wf_u16p this.1, wf_u16p this.2.1, wf_u8p this.2.2.1, wf_i64p this.2.2.2⟩
    · by_cases h0 : len = 0
      · exact .inl h0
      · obtain ⟨b, off, spot⟩ := a
        have h1 := (hcell 0 (by omega)).1.1
        have hspot : spot = none := by simpa [Addr.add] using World.cell?_spot h1
        subst hspot
        have hadd : ∀ (o j : Nat), (⟨b, o, none⟩ : Addr).add j = ⟨b, o + j, none⟩ := fun o j => by unfold Addr.add; split <;> simp_all
        refine .inr ⟨b, off, rfl, fun i hi => ?_⟩
        obtain ⟨hg, _⟩ := hcell i hi
        simp only [hadd] at hg
        exact hg
set_option maxRecDepth 100000 in
theorem marks_cells {H : Type} {enc : TypeId × Value → H} {W : World} {base fuel : Nat} {held : Bool} {l : List Value} {x : DataW H × List MemPlace} (hl : l.length = 3) (h : DataW.trod enc Tryz.prog W base (fun _ => true) held fuel 29 l = some x) :
    ∃ (a0 a1 a2 : Int), l = [.int .i64 a0, .int .i64 a1, .int .i64 a2] ∧ (Lit.int .i64 a0).wf = true ∧ (Lit.int .i64 a1).wf = true ∧ (Lit.int .i64 a2).wf = true := by
  match l, hl with
  | [c0, c1, c2], _ =>
    obtain ⟨xs, n, _, hx, _, hlen, hg⟩ := DataW.trod_array Tryz.underlying29 h
    match xs, hlen with
    | [y0, y1, y2], _ =>
      have t0 : DataW.trod enc Tryz.prog W base (fun _ => true) held n 3 [c0] = some y0 := by simpa [pcell_int] using hg 0 (by decide)
      have t1 : DataW.trod enc Tryz.prog W base (fun _ => true) held n 3 [c1] = some y1 := by simpa [pcell_int] using hg 1 (by decide)
      have t2 : DataW.trod enc Tryz.prog W base (fun _ => true) held n 3 [c2] = some y2 := by simpa [pcell_int] using hg 2 (by decide)
      obtain ⟨a0, e0, _, w0⟩ := DataW.trod_int Tryz.underlying3 t0
      obtain ⟨a1, e1, _, w1⟩ := DataW.trod_int Tryz.underlying3 t1
      obtain ⟨a2, e2, _, w2⟩ := DataW.trod_int Tryz.underlying3 t2
      simp at e0 e1 e2
      subst e0 e1 e2
      exact ⟨a0, a1, a2, rfl, w0, w1, w2⟩
/-- The numbers of a plan are of 64 bits. -/
structure NumOk (p : Pn) : Prop where
  rate : (Lit.int .i64 p.rate).wf = true
  room : (Lit.int .i64 p.room).wf = true
  m0 : (Lit.int .i64 p.m0).wf = true
  m1 : (Lit.int .i64 p.m1).wf = true
  m2 : (Lit.int .i64 p.m2).wf = true
set_option maxRecDepth 100000 in
theorem plan_cells {H : Type} {enc : TypeId × Value → H} {W : World} {base fuel : Nat} {held : Bool} {l : List Value} {x : DataW H × List MemPlace} (hl : l.length = 7) (h : DataW.trod enc Tryz.prog W base (fun _ => true) held fuel 31 l = some x) :
    ∃ a n c a' n' c' p, l = [.slice a n c, .slice a' n' c', .int .i64 p.rate, .int .i64 p.room, .int .i64 p.m0, .int .i64 p.m1, .int .i64 p.m2] ∧ PRow W a n c p.P ∧ LRow W a' n' c' p.L ∧ NumOk p := by
  match l, hl with
  | [c0, c1, c2, c3, c4, c5, c6], _ =>
    obtain ⟨xs, m, _, hx, _, hlen, hg⟩ := DataW.trod_struct Tryz.underlying31 h
    match xs, hlen with
    | [y0, y1, y2, y3, y4], _ =>
      have t0 : DataW.trod enc Tryz.prog W base (fun _ => true) held m 27 [c0] = some y0 := by simpa [pcell_sp] using hg 0 _ rfl
      obtain ⟨a, n, c, P, rfl, hP⟩ := places_open t0
      have t1 : DataW.trod enc Tryz.prog W base (fun _ => true) held m 28 [c1] = some y1 := by simpa [pcell_sl] using hg 1 _ rfl
      obtain ⟨a', n', c', L, rfl, hL⟩ := lines_open t1
      have t2 : DataW.trod enc Tryz.prog W base (fun _ => true) held m 3 [c2] = some y2 := by simpa [pcell_int] using hg 2 _ rfl
      obtain ⟨r, e2, _, w2⟩ := DataW.trod_int Tryz.underlying3 t2
      simp at e2
      subst e2
      have t3 : DataW.trod enc Tryz.prog W base (fun _ => true) held m 3 [c3] = some y3 := by simpa [pcell_int] using hg 3 _ rfl
      obtain ⟨q, e3, _, w3⟩ := DataW.trod_int Tryz.underlying3 t3
      simp at e3
      subst e3
      have t4 : DataW.trod enc Tryz.prog W base (fun _ => true) held m 29 [c4, c5, c6] = some y4 := by simpa [pcell_a3] using hg 4 _ rfl
      obtain ⟨m0, m1, m2, e4, w4, w5, w6⟩ := marks_cells rfl t4
      simp at e4
      obtain ⟨rfl, rfl, rfl⟩ := e4
      exact ⟨a, n, c, a', n', c', ⟨P, L, r, q, m0, m1, m2⟩, rfl, hP, hL, w2, w3, w4, w5, w6⟩
set_option maxRecDepth 100000 in
theorem plan_open {H : Type} {enc : TypeId × Value → H} {W : World} {base b0 : Nat} {held : Bool} {v : Value} {d : DataW H} {p : List MemPlace}
    (hv : Value.okWide Tryz.prog W .any b0 31 v) (h : DataW.Trod enc Tryz.prog W base (fun _ => true) held 31 v d p) :
    ∃ a n c a' n' c' q, v = planV a n c a' n' c' q ∧ PRow W a n c q.P ∧ LRow W a' n' c' q.L ∧ NumOk q := by
  obtain ⟨cs, rfl, hsz⟩ := okWide_struct Tryz.underlying31 hv
  obtain ⟨l⟩ := cs
  obtain ⟨fuel, hf⟩ := h
  obtain ⟨a, n, c, a', n', c', q, e, h⟩ := plan_cells (l := l) (hsz.trans (by kernel_rfl)) hf
  subst e
  exact ⟨a, n, c, a', n', c', q, rfl, h⟩
end Go.Proofs.YthlckipcgogogaaGreatDoor
/- Slices of structs of three integers, opened: what lies at which cell. -/
namespace Go.Proofs.YthlckipcgogogaaGreatDoor
set_option linter.unusedVariables false
open Go.ChangeShapes Go.WideShapes Go.ChangeAt Go.WideMaps Go.WideElems Go.RowKit Go.Deep

/-- A slice value (address, length, capacity) reads in w as the triples l. -/
structure Tris (k0 k1 k2 : IntKind) (w : World) (a : Option Addr) (n c : Nat) (l : List (Int × Int × Int)) : Prop where
  len : l.length = n
  le : n ≤ c
  max : c ≤ maxLen
  wf : ∀ x ∈ l, (Lit.int k0 x.1).wf = true ∧ (Lit.int k1 x.2.1).wf = true ∧ (Lit.int k2 x.2.2).wf = true
  cells : n = 0 ∨ ∃ b off, a = some ⟨b, off, none⟩ ∧ ∀ i, i < n → w.cell? ⟨b, off + i * 3, none⟩ = some (.int k0 (l.getD i (0, 0, 0)).1) ∧ w.cell? ⟨b, off + i * 3 + 1, none⟩ = some (.int k1 (l.getD i (0, 0, 0)).2.1) ∧ w.cell? ⟨b, off + i * 3 + 2, none⟩ = some (.int k2 (l.getD i (0, 0, 0)).2.2)
  isNil : a = none → c = 0
theorem Tris.of_nil (k0 k1 k2 : IntKind) (w : World) : Tris k0 k1 k2 w none 0 0 [] := ⟨rfl, Nat.le_refl _, Nat.zero_le _, by simp, .inl rfl, fun _ => rfl⟩
theorem Tris.later {k0 k1 k2 : IntKind} {w w' : World} {a : Option Addr} {n c : Nat} {l : List (Int × Int × Int)} (h : Tris k0 k1 k2 w a n c l) (hb : Below w.heap.size w w') : Tris k0 k1 k2 w' a n c l := by
  refine ⟨h.len, h.le, h.max, h.wf, ?_, h.isNil⟩
  rcases h.cells with h0 | ⟨b, off, ha, hc⟩
  · exact .inl h0
  · refine .inr ⟨b, off, ha, fun i hi => ?_⟩
    obtain ⟨h1, h2, h3⟩ := hc i hi
    have hlt : b < w.heap.size := World.block_lt_of_cell? w _ h1
    exact ⟨(hb.cell (p := ⟨b, off + i * 3, none⟩) hlt).trans h1, (hb.cell (p := ⟨b, off + i * 3 + 1, none⟩) hlt).trans h2, (hb.cell (p := ⟨b, off + i * 3 + 2, none⟩) hlt).trans h3⟩
/-- Three cells in a row. -/
theorem cells3 {w : World} {base : Nat} {a : Addr} {cs : List Value} (h : w.cells? base a 3 = some cs) : ∃ x y z, cs = [x, y, z] ∧ w.cell? a = some x ∧ w.cell? (a.add 1) = some y ∧ w.cell? (a.add 2) = some z := by
  unfold World.cells? at h
  split at h
  · rw [show List.range 3 = [0, 1, 2] from rfl] at h
    simp only [List.mapM_cons, List.mapM_nil, Option.bind_eq_bind, Option.pure_def] at h
    simp only [Option.bind_eq_some_iff] at h
    obtain ⟨x, hx, r, ⟨y, hy, r2, ⟨z, hz, r3, hr3, h2⟩, h1⟩, h0⟩ := h
    cases hr3
    cases h2
    cases h1
    cases h0
    exact ⟨x, y, z, rfl, by simpa [Addr.add] using hx, hy, hz⟩
  · cases h
theorem open_tris {H : Type} {enc : TypeId × Value → H} {P : Program} {w : World} {base : Nat} {spare : Nat → Bool} {held : Bool} {fuel : Nat} {t e : TypeId} {f0 f1 f2 : Field} {k0 k1 k2 : IntKind} {cs : List Value} {x : DataW H × List MemPlace}
    (ht : P.underlying t = some (.slice e)) (he : P.underlying e = some (.struct #[f0, f1, f2])) (hone : oneCellFields P #[f0, f1, f2] = true) (hC : P.cellsOf e = 3)
    (t0 : P.underlying f0.type = some (.int k0)) (t1 : P.underlying f1.type = some (.int k1)) (t2 : P.underlying f2.type = some (.int k2))
    (h : DataW.trod enc P w base spare held fuel t cs = some x) : ∃ s n c l, cs = [.slice s n c] ∧ Tris k0 k1 k2 w s n c l := by
  rcases DataW.trod_slice ht h with ⟨rfl, _⟩ | ⟨a, len, cap, elems, rest, n, _, rfl, _, _, hl, hm, hlen, hel, _, _⟩
  · exact ⟨none, 0, 0, [], rfl, Tris.of_nil _ _ _ _⟩
  · have each : ∀ i, i < len → ∃ y : Int × Int × Int, w.cell? (a.add (i * 3)) = some (.int k0 y.1) ∧ w.cell? ((a.add (i * 3)).add 1) = some (.int k1 y.2.1) ∧ w.cell? ((a.add (i * 3)).add 2) = some (.int k2 y.2.2) ∧ (Lit.int k0 y.1).wf = true ∧ (Lit.int k1 y.2.1).wf = true ∧ (Lit.int k2 y.2.2).wf = true := by
      intro i hi
      have he' := hel i hi
      rw [hC, List.getElem?_eq_getElem (by omega), Option.bind_eq_some_iff] at he'
      obtain ⟨cs', hcs, hy⟩ := he'
      obtain ⟨c0, c1, c2, rfl, g0, g1, g2⟩ := cells3 hcs
      obtain ⟨xs, m, _, _, _, hxl, hg⟩ := DataW.trod_struct he hy
      obtain ⟨o0, q0⟩ := hone_of hone 0 f0 rfl
      obtain ⟨o1, q1⟩ := hone_of hone 1 f1 rfl
      obtain ⟨o2, q2⟩ := hone_of hone 2 f2 rfl
      match xs, hxl with
      | [y0, y1, y2], _ =>
        have r0 : DataW.trod enc P w base spare held m f0.type [c0] = some y0 := by simpa [o0, q0] using hg 0 f0 rfl
        have r1 : DataW.trod enc P w base spare held m f1.type [c1] = some y1 := by simpa [o1, q1] using hg 1 f1 rfl
        have r2 : DataW.trod enc P w base spare held m f2.type [c2] = some y2 := by simpa [o2, q2] using hg 2 f2 rfl
        obtain ⟨v0, e0, _, w0⟩ := DataW.trod_int t0 r0
        obtain ⟨v1, e1, _, w1⟩ := DataW.trod_int t1 r1
        obtain ⟨v2, e2, _, w2⟩ := DataW.trod_int t2 r2
        simp at e0 e1 e2
        subst e0 e1 e2
        exact ⟨(v0, v1, v2), g0, g1, g2, w0, w1, w2⟩
    have hex : ∃ l : List (Int × Int × Int), l.length = len ∧ ∀ i, i < len → w.cell? (a.add (i * 3)) = some (.int k0 (l.getD i (0, 0, 0)).1) ∧ w.cell? ((a.add (i * 3)).add 1) = some (.int k1 (l.getD i (0, 0, 0)).2.1) ∧ w.cell? ((a.add (i * 3)).add 2) = some (.int k2 (l.getD i (0, 0, 0)).2.2) ∧ (Lit.int k0 (l.getD i (0, 0, 0)).1).wf = true ∧ (Lit.int k1 (l.getD i (0, 0, 0)).2.1).wf = true ∧ (Lit.int k2 (l.getD i (0, 0, 0)).2.2).wf = true := by
      refine ⟨(List.range len).map fun i => if hi : i < len then Classical.choose (each i hi) else (0, 0, 0), by simp, fun i hi => ?_⟩
      have := Classical.choose_spec (each i hi)
      simpa [List.getD_eq_getElem?_getD, hi] using this
    obtain ⟨l, hll, hcell⟩ := hex
    refine ⟨some a, len, cap, l, rfl, hll, hl, hm, fun y hy => ?_, ?_, by simp⟩
    · obtain ⟨i, hi, rfl⟩ := List.getElem_of_mem hy
      have := (hcell i (by omega)).2.2.2
      simpa [List.getD_eq_getElem?_getD, hi] using this
    · by_cases h0 : len = 0
      · exact .inl h0
      · obtain ⟨b, off, spot⟩ := a
        have h1 := (hcell 0 (by omega)).1
        have hspot : spot = none := by simpa [Addr.add] using World.cell?_spot h1
        subst hspot
        have hadd : ∀ (o j : Nat), (⟨b, o, none⟩ : Addr).add j = ⟨b, o + j, none⟩ := fun o j => by unfold Addr.add; split <;> simp_all
        refine .inr ⟨b, off, rfl, fun i hi => ?_⟩
        obtain ⟨g0, g1, g2, _⟩ := hcell i hi
        rw [hadd] at g0 g1 g2
        rw [hadd] at g1 g2
        exact ⟨g0, g1, g2⟩
end Go.Proofs.YthlckipcgogogaaGreatDoor
