/- Slices of structs of three integers, opened: what lies at which cell. -/
import Derived.Test.YtahkmadapojjkaaBase
import Derived.Deep.Fields
import Derived.ProofKit
import Derived.OpenShut
import Derived.ChangeSame
import Derived.LaidMore
import Derived.Stop.Joined
namespace Go.Proofs.Ytahkmadapojjkaa
open Go.ChangeShapes Go.WideShapes Go.ChangeAt Go.WideMaps Go.WideElems Go.RowKit Go.Deep

/-- A slice value (address, length, capacity) reads in w as the triples l. -/
structure Tris (k0 k1 k2 : IntKind) (w : World) (a : Option Addr) (n c : Nat) (l : List (Int × Int × Int)) : Prop where
  len : l.length = n
  le : n ≤ c
  max : c ≤ maxLen
  wf : ∀ x ∈ l, (Lit.int k0 x.1).wf = true ∧ (Lit.int k1 x.2.1).wf = true ∧ (Lit.int k2 x.2.2).wf = true
  cells : n = 0 ∨ ∃ b off, a = some ⟨b, off, none⟩ ∧ ∀ i, i < n → w.cell? ⟨b, off + i * 3, none⟩ = some (.int k0 (l.getD i (0, 0, 0)).1) ∧ w.cell? ⟨b, off + i * 3 + 1, none⟩ = some (.int k1 (l.getD i (0, 0, 0)).2.1) ∧ w.cell? ⟨b, off + i * 3 + 2, none⟩ = some (.int k2 (l.getD i (0, 0, 0)).2.2)
  isNil : a = none → c = 0
theorem Tris.of_nil (k0 k1 k2 : IntKind) (w : World) : Tris k0 k1 k2 w none 0 0 [] := ⟨rfl, Nat.le_refl _, Nat.zero_le _, by simp, .inl rfl, fun _ => rfl⟩
theorem Tris.later {k0 k1 k2 : IntKind} {w w' : World} {a : Option Addr} {n c : Nat} {l : List (Int × Int × Int)} (h : Tris k0 k1 k2 w a n c l) (hb : Below w.heap.size w w') : Tris k0 k1 k2 w' a n c l := by
  refine ⟨h.len, h.le, h.max, h.wf, ?_, h.isNil⟩
  rcases h.cells with h0 | ⟨b, off, ha, hc⟩
  · exact .inl h0
  · refine .inr ⟨b, off, ha, fun i hi => ?_⟩
    obtain ⟨h1, h2, h3⟩ := hc i hi
    have hlt : b < w.heap.size := World.block_lt_of_cell? w _ h1
    exact ⟨(hb.cell (p := ⟨b, off + i * 3, none⟩) hlt).trans h1, (hb.cell (p := ⟨b, off + i * 3 + 1, none⟩) hlt).trans h2, (hb.cell (p := ⟨b, off + i * 3 + 2, none⟩) hlt).trans h3⟩
/-- Three cells in a row. -/
theorem cells3 {w : World} {base : Nat} {a : Addr} {cs : List Value} (h : w.cells? base a 3 = some cs) : ∃ x y z, cs = [x, y, z] ∧ w.cell? a = some x ∧ w.cell? (a.add 1) = some y ∧ w.cell? (a.add 2) = some z := by
  unfold World.cells? at h
  split at h
  · rw [show List.range 3 = [0, 1, 2] from rfl] at h
    simp only [List.mapM_cons, List.mapM_nil, Option.bind_eq_bind, Option.pure_def] at h
    simp only [Option.bind_eq_some_iff] at h
    obtain ⟨x, hx, r, ⟨y, hy, r2, ⟨z, hz, r3, hr3, h2⟩, h1⟩, h0⟩ := h
    cases hr3
    cases h2
    cases h1
    cases h0
    exact ⟨x, y, z, rfl, by simpa [Addr.add] using hx, hy, hz⟩
  · cases h
theorem open_tris {H : Type} {enc : TypeId × Value → H} {P : Program} {w : World} {base : Nat} {spare : Nat → Bool} {held : Bool} {fuel : Nat} {t e : TypeId} {f0 f1 f2 : Field} {k0 k1 k2 : IntKind} {cs : List Value} {x : DataW H × List MemPlace}
    (ht : P.underlying t = some (.slice e)) (he : P.underlying e = some (.struct #[f0, f1, f2])) (hone : oneCellFields P #[f0, f1, f2] = true) (hC : P.cellsOf e = 3)
    (t0 : P.underlying f0.type = some (.int k0)) (t1 : P.underlying f1.type = some (.int k1)) (t2 : P.underlying f2.type = some (.int k2))
    (h : DataW.trod enc P w base spare held fuel t cs = some x) : ∃ s n c l, cs = [.slice s n c] ∧ Tris k0 k1 k2 w s n c l := by
  rcases DataW.trod_slice ht h with ⟨rfl, _⟩ | ⟨a, len, cap, elems, rest, n, _, rfl, _, _, hl, hm, hlen, hel, _, _⟩
  · exact ⟨none, 0, 0, [], rfl, Tris.of_nil _ _ _ _⟩
  · have each : ∀ i, i < len → ∃ y : Int × Int × Int, w.cell? (a.add (i * 3)) = some (.int k0 y.1) ∧ w.cell? ((a.add (i * 3)).add 1) = some (.int k1 y.2.1) ∧ w.cell? ((a.add (i * 3)).add 2) = some (.int k2 y.2.2) ∧ (Lit.int k0 y.1).wf = true ∧ (Lit.int k1 y.2.1).wf = true ∧ (Lit.int k2 y.2.2).wf = true := by
      intro i hi
      have he' := hel i hi
      rw [hC, List.getElem?_eq_getElem (by omega), Option.bind_eq_some_iff] at he'
      obtain ⟨cs', hcs, hy⟩ := he'
      obtain ⟨c0, c1, c2, rfl, g0, g1, g2⟩ := cells3 hcs
      obtain ⟨xs, m, _, _, _, hxl, hg⟩ := DataW.trod_struct he hy
      obtain ⟨o0, q0⟩ := hone_of hone 0 f0 rfl
      obtain ⟨o1, q1⟩ := hone_of hone 1 f1 rfl
      obtain ⟨o2, q2⟩ := hone_of hone 2 f2 rfl
      match xs, hxl with
      | [y0, y1, y2], _ =>
        have r0 : DataW.trod enc P w base spare held m f0.type [c0] = some y0 := by simpa [o0, q0] using hg 0 f0 rfl
        have r1 : DataW.trod enc P w base spare held m f1.type [c1] = some y1 := by simpa [o1, q1] using hg 1 f1 rfl
        have r2 : DataW.trod enc P w base spare held m f2.type [c2] = some y2 := by simpa [o2, q2] using hg 2 f2 rfl
        obtain ⟨v0, e0, _, w0⟩ := DataW.trod_int t0 r0
        obtain ⟨v1, e1, _, w1⟩ := DataW.trod_int t1 r1
        obtain ⟨v2, e2, _, w2⟩ := DataW.trod_int t2 r2
        simp at e0 e1 e2
        subst e0 e1 e2
        exact ⟨(v0, v1, v2), g0, g1, g2, w0, w1, w2⟩
    have hex : ∃ l : List (Int × Int × Int), l.length = len ∧ ∀ i, i < len → w.cell? (a.add (i * 3)) = some (.int k0 (l.getD i (0, 0, 0)).1) ∧ w.cell? ((a.add (i * 3)).add 1) = some (.int k1 (l.getD i (0, 0, 0)).2.1) ∧ w.cell? ((a.add (i * 3)).add 2) = some (.int k2 (l.getD i (0, 0, 0)).2.2) ∧ (Lit.int k0 (l.getD i (0, 0, 0)).1).wf = true ∧ (Lit.int k1 (l.getD i (0, 0, 0)).2.1).wf = true ∧ (Lit.int k2 (l.getD i (0, 0, 0)).2.2).wf = true := by
      refine ⟨(List.range len).map fun i => if hi : i < len then Classical.choose (each i hi) else (0, 0, 0), by simp, fun i hi => ?_⟩
      have := Classical.choose_spec (each i hi)
      simpa [List.getD_eq_getElem?_getD, hi] using this
    obtain ⟨l, hll, hcell⟩ := hex
    refine ⟨some a, len, cap, l, rfl, hll, hl, hm, fun y hy => ?_, ?_, by simp⟩
    · obtain ⟨i, hi, rfl⟩ := List.getElem_of_mem hy
      have := (hcell i (by omega)).2.2.2
      simpa [List.getD_eq_getElem?_getD, hi] using this
    · by_cases h0 : len = 0
      · exact .inl h0
      · obtain ⟨b, off, spot⟩ := a
        have h1 := (hcell 0 (by omega)).1
        have hspot : spot = none := by simpa [Addr.add] using World.cell?_spot h1
        subst hspot
        have hadd : ∀ (o j : Nat), (⟨b, o, none⟩ : Addr).add j = ⟨b, o + j, none⟩ := fun o j => by unfold Addr.add; split <;> simp_all
        refine .inr ⟨b, off, rfl, fun i hi => ?_⟩
        obtain ⟨g0, g1, g2, _⟩ := hcell i hi
        rw [hadd] at g0 g1 g2
        rw [hadd] at g1 g2
        exact ⟨g0, g1, g2⟩
end Go.Proofs.Ytahkmadapojjkaa
