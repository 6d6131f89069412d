/- Choices, links and the statements' Links, opened: what lies at which cell. -/
import Derived.Test.YtpgdaodgdckehaaShRow
import Derived.Deep.Fields
import Derived.Deep.Grids
import Derived.ProofKit
import Derived.OpenShut
import Derived.ChangeSame
import Derived.LaidMore
import Derived.Stop.Joined
namespace Go.Proofs.Ytpgdaodgdckehaa
open Go.ChangeShapes Go.WideShapes Go.ChangeAt Go.WideMaps Go.WideElems Go.RowKit Go.Deep

theorem scell_int : Try.prog.cellsOf 3 = 1 := by kernel_rfl
theorem scell_u8 : Try.prog.cellsOf 5 = 1 := by kernel_rfl
theorem scell_pt : Try.prog.cellsOf 41 = 1 := by kernel_rfl
theorem scell_lk : Try.prog.cellsOf 43 = 3 := by kernel_rfl
theorem scell_ch : Try.prog.cellsOf 48 = 2 := by kernel_rfl
theorem scell_sl : Try.prog.cellsOf 29 = 1 := by kernel_rfl
theorem scell_sb : Try.prog.cellsOf 30 = 1 := by kernel_rfl
theorem scells_len : ∀ {w : World} {base k : Nat} {a : Addr} {cs : List Value}, w.cells? base a k = some cs → cs.length = k ∧ ∀ i, i < k → w.cell? (a.add i) = some (cs.getD i undef) := by
  intro w base k a cs h
  unfold World.cells? at h
  split at h
  · have hl := mapM_some_length h
    refine ⟨by simpa using hl, fun i hi => ?_⟩
    have := mapM_some_get h i i (by simp [hi])
    rw [this]
    simp [List.getD_eq_getElem?_getD, show i < cs.length by simp at hl; omega]
  · cases h
set_option maxRecDepth 100000 in
theorem choice_cells {H : Type} {enc : TypeId × Value → H} {W : World} {base fuel : Nat} {held : Bool} {l : List Value} {x : DataW H × List MemPlace} (hl : l.length = 2) (h : DataW.trod enc Try.prog W base (fun _ => true) held fuel 48 l = some x) :
    ∃ (a0 a1 : Int), l = [.int .u16 a0, .int .i64 a1] := by
  match l, hl with
  | [c0, c1], _ =>
    obtain ⟨xs, n, _, hx, _, hlen, hg⟩ := DataW.trod_struct Try.underlying48 h
    match xs, hlen with
    | [y0, y1], _ =>
      have t0 : DataW.trod enc Try.prog W base (fun _ => true) held n 41 [c0] = some y0 := by simpa [scell_pt] using hg 0 _ rfl
      obtain ⟨a0, e0, _, w0⟩ := DataW.trod_int Try.underlying41 t0
      simp at e0
      subst e0
      have t1 : DataW.trod enc Try.prog W base (fun _ => true) held n 3 [c1] = some y1 := by simpa [scell_int] using hg 1 _ rfl
      obtain ⟨a1, e1, _, w1⟩ := DataW.trod_int Try.underlying3 t1
      simp at e1
      subst e1
      exact ⟨a0, a1, rfl⟩
set_option maxRecDepth 100000 in
theorem slink_cells {H : Type} {enc : TypeId × Value → H} {W : World} {base fuel : Nat} {held : Bool} {l : List Value} {x : DataW H × List MemPlace} (hl : l.length = 3) (h : DataW.trod enc Try.prog W base (fun _ => true) held fuel 43 l = some x) :
    ∃ (a0 a1 a2 : Int), l = [.int .u16 a0, .int .u16 a1, .int .u8 a2] := by
  match l, hl with
  | [c0, c1, c2], _ =>
    obtain ⟨xs, n, _, hx, _, hlen, hg⟩ := DataW.trod_struct Try.underlying43 h
    match xs, hlen with
    | [y0, y1, y2], _ =>
      have t0 : DataW.trod enc Try.prog W base (fun _ => true) held n 41 [c0] = some y0 := by simpa [scell_pt] using hg 0 _ rfl
      obtain ⟨a0, e0, _, w0⟩ := DataW.trod_int Try.underlying41 t0
      simp at e0
      subst e0
      have t1 : DataW.trod enc Try.prog W base (fun _ => true) held n 41 [c1] = some y1 := by simpa [scell_pt] using hg 1 _ rfl
      obtain ⟨a1, e1, _, w1⟩ := DataW.trod_int Try.underlying41 t1
      simp at e1
      subst e1
      have t2 : DataW.trod enc Try.prog W base (fun _ => true) held n 5 [c2] = some y2 := by simpa [scell_u8] using hg 2 _ rfl
      obtain ⟨a2, e2, _, w2⟩ := DataW.trod_int Try.underlying5 t2
      simp at e2
      subst e2
      exact ⟨a0, a1, a2, rfl⟩
theorem choices_open {H : Type} {enc : TypeId × Value → H} {W : World} {base fuel : Nat} {held : Bool} {v : Value} {x : DataW H × List MemPlace} (h : DataW.trod enc Try.prog W base (fun _ => true) held fuel 22 [v] = some x) : ∃ s n c l, v = .slice s n c ∧ CRow W s n c l := by
  rcases DataW.trod_slice Try.underlying22 h with ⟨hv, _⟩ | ⟨a, len, cap, elems, rest, n, _, hv, _, _, hl, hm, hlen, hel, _, _⟩
  · simp at hv
    exact ⟨none, 0, 0, [], hv, CRow.of_nil _⟩
  · simp at hv
    have each : ∀ i, i < len → ∃ y : Int × Int, W.cell? (a.add (i * 2)) = some (.int .u16 y.1) ∧ W.cell? ((a.add (i * 2)).add 1) = some (.int .i64 y.2) := by
      intro i hi
      have he' := hel i hi
      rw [scell_ch, List.getElem?_eq_getElem (by omega), Option.bind_eq_some_iff] at he'
      obtain ⟨cs', hcs, hy⟩ := he'
      obtain ⟨hl2, hg⟩ := scells_len hcs
      obtain ⟨a0, a1, rfl⟩ := choice_cells hl2 hy
      exact ⟨(a0, a1), by simpa [Addr.add] using hg 0 (by decide), by simpa using hg 1 (by decide)⟩
    have hex : ∃ l : List (Int × Int), l.length = len ∧ ∀ i, i < len → W.cell? (a.add (i * 2)) = some (.int .u16 (l.getD i (0, 0)).1) ∧ W.cell? ((a.add (i * 2)).add 1) = some (.int .i64 (l.getD i (0, 0)).2) := by
      refine ⟨(List.range len).map fun i => if hi : i < len then Classical.choose (each i hi) else (0, 0), by simp, fun i hi => ?_⟩
      have := Classical.choose_spec (each i hi)
      simpa [List.getD_eq_getElem?_getD, hi] using this
    obtain ⟨l, hll, hcell⟩ := hex
    refine ⟨some a, len, cap, l, hv, hll, hl, hm, ?_⟩
    by_cases h0 : len = 0
    · exact .inl h0
    · obtain ⟨b, off, spot⟩ := a
      have h1 := (hcell 0 (by omega)).1
      have hspot : spot = none := by simpa [Addr.add] using World.cell?_spot h1
      subst hspot
      have hadd : ∀ (o j : Nat), (⟨b, o, none⟩ : Addr).add j = ⟨b, o + j, none⟩ := fun o j => by unfold Addr.add; split <;> simp_all
      refine .inr ⟨b, off, rfl, fun i hi => ?_⟩
      have hg := hcell i hi
      simp only [hadd] at hg
      exact hg
theorem links_open {H : Type} {enc : TypeId × Value → H} {W : World} {base fuel : Nat} {held : Bool} {v : Value} {x : DataW H × List MemPlace} (h : DataW.trod enc Try.prog W base (fun _ => true) held fuel 29 [v] = some x) : ∃ s n c l, v = .slice s n c ∧ ZRow W s n c l := by
  rcases DataW.trod_slice Try.underlying29 h with ⟨hv, _⟩ | ⟨a, len, cap, elems, rest, n, _, hv, _, _, hl, hm, hlen, hel, _, _⟩
  · simp at hv
    exact ⟨none, 0, 0, [], hv, ZRow.of_nil _⟩
  · simp at hv
    have each : ∀ i, i < len → ∃ y : Int × Int × Int, W.cell? (a.add (i * 3)) = some (.int .u16 y.1) ∧ W.cell? ((a.add (i * 3)).add 1) = some (.int .u16 y.2.1) ∧ W.cell? ((a.add (i * 3)).add 2) = some (.int .u8 y.2.2) := by
      intro i hi
      have he' := hel i hi
      rw [scell_lk, List.getElem?_eq_getElem (by omega), Option.bind_eq_some_iff] at he'
      obtain ⟨cs', hcs, hy⟩ := he'
      obtain ⟨hl2, hg⟩ := scells_len hcs
      obtain ⟨a0, a1, a2, rfl⟩ := slink_cells hl2 hy
      exact ⟨(a0, a1, a2), by simpa [Addr.add] using hg 0 (by decide), by simpa using hg 1 (by decide), by simpa using hg 2 (by decide)⟩
    have hex : ∃ l : List (Int × Int × Int), l.length = len ∧ ∀ i, i < len → W.cell? (a.add (i * 3)) = some (.int .u16 (l.getD i (0, 0, 0)).1) ∧ W.cell? ((a.add (i * 3)).add 1) = some (.int .u16 (l.getD i (0, 0, 0)).2.1) ∧ W.cell? ((a.add (i * 3)).add 2) = some (.int .u8 (l.getD i (0, 0, 0)).2.2) := by
      refine ⟨(List.range len).map fun i => if hi : i < len then Classical.choose (each i hi) else (0, 0, 0), by simp, fun i hi => ?_⟩
      have := Classical.choose_spec (each i hi)
      simpa [List.getD_eq_getElem?_getD, hi] using this
    obtain ⟨l, hll, hcell⟩ := hex
    refine ⟨some a, len, cap, l, hv, hll, hl, hm, ?_⟩
    by_cases h0 : len = 0
    · exact .inl h0
    · obtain ⟨b, off, spot⟩ := a
      have h1 := (hcell 0 (by omega)).1
      have hspot : spot = none := by simpa [Addr.add] using World.cell?_spot h1
      subst hspot
      have hadd : ∀ (o j : Nat), (⟨b, o, none⟩ : Addr).add j = ⟨b, o + j, none⟩ := fun o j => by unfold Addr.add; split <;> simp_all
      refine .inr ⟨b, off, rfl, fun i hi => ?_⟩
      have hg := hcell i hi
      simp only [hadd] at hg
      exact hg
/-- A slice of bools. -/
theorem BRow.of_open {w : World} {a : Addr} {len cap : Nat} {B : Nat → Bool} (hl : len ≤ cap) (hm : cap ≤ maxLen) (hc : ∀ i, i < cap → w.cell? (a.add i) = some (.bool (B i))) :
    BRow w (some a) len cap ((List.range len).map B) := by
  refine ⟨by simp, hl, hm, ?_⟩
  by_cases h0 : len = 0
  · exact .inl h0
  · obtain ⟨b, off, spot⟩ := a
    have h1 := hc 0 (by omega)
    have hspot : spot = none := by simpa [Addr.add] using World.cell?_spot h1
    subst hspot
    refine .inr ⟨b, off, rfl, fun i hi => ?_⟩
    have h2 := hc i (by omega)
    have hadd : ∀ (o j : Nat), (⟨b, o, none⟩ : Addr).add j = ⟨b, o + j, none⟩ := fun o j => by unfold Addr.add; split <;> simp_all
    rw [hadd] at h2
    rw [h2]
    simp [List.getD_eq_getElem?_getD, hi]
theorem bools_open {H : Type} {enc : TypeId × Value → H} {W : World} {base fuel : Nat} {held : Bool} {v : Value} {x : DataW H × List MemPlace} (h : DataW.trod enc Try.prog W base (fun _ => true) held fuel 30 [v] = some x) : ∃ s n c l, v = .slice s n c ∧ BRow W s n c l := by
  rcases Go.Deep.open_bools Try.underlying30 Try.underlying4 (by kernel_rfl) h with ⟨hcs, _⟩ | ⟨x, l, c, B, hcs, _, hl, hm, _, hcell⟩
  · simp at hcs
    exact ⟨none, 0, 0, [], hcs, BRow.of_nil _⟩
  · simp at hcs
    exact ⟨_, _, _, _, hcs, BRow.of_open hl hm hcell⟩
set_option maxRecDepth 100000 in
theorem lz_cells {H : Type} {enc : TypeId × Value → H} {W : World} {base fuel : Nat} {held : Bool} {l : List Value} {x : DataW H × List MemPlace} (hl : l.length = 2) (h : DataW.trod enc Try.prog W base (fun _ => true) held fuel 36 l = some x) :
    ∃ a n c Z a' n' c' U, l = [.slice a n c, .slice a' n' c'] ∧ ZRow W a n c Z ∧ BRow W a' n' c' U := by
  match l, hl with
  | [c0, c1], _ =>
    obtain ⟨xs, m, _, hx, _, hlen, hg⟩ := DataW.trod_struct Try.underlying36 h
    match xs, hlen with
    | [y0, y1], _ =>
      have t0 : DataW.trod enc Try.prog W base (fun _ => true) held m 29 [c0] = some y0 := by simpa [scell_sl] using hg 0 _ rfl
      obtain ⟨a, n, c, Z, rfl, hZ⟩ := links_open t0
      have t1 : DataW.trod enc Try.prog W base (fun _ => true) held m 30 [c1] = some y1 := by simpa [scell_sb] using hg 1 _ rfl
      obtain ⟨a', n', c', U, rfl, hU⟩ := bools_open t1
      exact ⟨a, n, c, Z, a', n', c', U, rfl, hZ, hU⟩
set_option maxRecDepth 100000 in
theorem lz_open {H : Type} {enc : TypeId × Value → H} {W : World} {base b0 : Nat} {held : Bool} {v : Value} {d : DataW H} {p : List MemPlace}
    (hv : Value.okWide Try.prog W .any b0 36 v) (h : DataW.Trod enc Try.prog W base (fun _ => true) held 36 v d p) :
    ∃ a n c Z a' n' c' U, v = .agg #[.slice a n c, .slice a' n' c'] ∧ ZRow W a n c Z ∧ BRow W a' n' c' U := by
  obtain ⟨cs, rfl, hsz⟩ := okWide_struct Try.underlying36 hv
  obtain ⟨l⟩ := cs
  obtain ⟨fuel, hf⟩ := h
  obtain ⟨a, n, c, Z, a', n', c', U, e, h1, h2⟩ := lz_cells (l := l) (hsz.trans (by kernel_rfl)) hf
  subst e
  exact ⟨a, n, c, Z, a', n', c', U, rfl, h1, h2⟩
end Go.Proofs.Ytpgdaodgdckehaa
