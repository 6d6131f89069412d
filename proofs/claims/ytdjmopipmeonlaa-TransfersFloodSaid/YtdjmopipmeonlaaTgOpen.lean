/- Joined: OpenActs TgOpen. -/
import Derived.Test.YtdjmopipmeonlaaOpenTri
import Derived.SliceStrings
import Derived.Test.YtdjmopipmeonlaaTgSt
/- Slices of strings, slices of structs of an integer and a string, and a struct of an integer and a slice of structs, opened. -/
namespace Go.Proofs.Ytdjmopipmeonlaa
set_option linter.unusedVariables false
open Go.ChangeShapes Go.WideShapes Go.ChangeAt Go.WideMaps Go.WideElems Go.RowKit Go.Deep

/-- A slice value reads in w as the strings l. -/
structure Strs (w : World) (a : Option Addr) (n c : Nat) (l : List ByteArray) : Prop where
  len : l.length = n
  le : n ≤ c
  max : c ≤ maxLen
  wf : ∀ x ∈ l, x.size ≤ maxLen
  cells : n = 0 ∨ ∃ b off, a = some ⟨b, off, none⟩ ∧ ∀ i, i < n → w.cell? ⟨b, off + i, none⟩ = some (.string (l.getD i ByteArray.empty))
  isNil : a = none → c = 0
theorem Strs.of_nil (w : World) : Strs w none 0 0 [] := ⟨rfl, Nat.le_refl _, Nat.zero_le _, by simp, .inl rfl, fun _ => rfl⟩
theorem Strs.later {w w' : World} {a : Option Addr} {n c : Nat} {l : List ByteArray} (h : Strs w a n c l) (hb : Below w.heap.size w w') : Strs w' a n c l := by
  refine ⟨h.len, h.le, h.max, h.wf, ?_, h.isNil⟩
  rcases h.cells with h0 | ⟨b, off, ha, hc⟩
  · exact .inl h0
  · refine .inr ⟨b, off, ha, fun i hi => ?_⟩
    have h1 := hc i hi
    exact (hb.cell (p := ⟨b, off + i, none⟩) (World.block_lt_of_cell? w _ h1)).trans h1
theorem strs_open {H : Type} {enc : TypeId × Value → H} {P : Program} {w : World} {base : Nat} {held : Bool} {fuel : Nat} {t e : TypeId} {cs : List Value} {x : DataW H × List MemPlace}
    (ht : P.underlying t = some (.slice e)) (he : P.underlying e = some .string) (hc : P.cellsOf e = 1) (h : DataW.trod enc P w base (fun _ => true) held fuel t cs = some x) : ∃ s n c l, cs = [.slice s n c] ∧ Strs w s n c l := by
  rcases open_strings ht he hc h with ⟨rfl, _⟩ | ⟨a, len, cap, ss, rfl, _, hl, hm, hsl, _, hcell, hw⟩
  · exact ⟨none, 0, 0, [], rfl, Strs.of_nil _⟩
  · rw [if_pos rfl] at hsl
    refine ⟨some a, len, cap, ss.take len, rfl, by rw [List.length_take]; omega, hl, hm, fun y hy => hw y (List.mem_of_mem_take hy), ?_, by simp⟩
    by_cases h0 : len = 0
    · exact .inl h0
    · obtain ⟨b, off, spot⟩ := a
      have h1 := hcell 0 (by omega)
      have hspot : spot = none := by simpa [Addr.add] using World.cell?_spot h1
      subst hspot
      refine .inr ⟨b, off, rfl, fun i hi => ?_⟩
      have h2 := hcell i (by omega)
      have hadd : (⟨b, off, none⟩ : Addr).add i = ⟨b, off + i, none⟩ := by unfold Addr.add; split <;> simp_all
      rw [hadd] at h2
      rw [h2]
      simp [List.getD_eq_getElem?_getD, hi]
/-- A slice value reads in w as the pairs l of an integer and a string. -/
structure Prs (k0 : IntKind) (w : World) (a : Option Addr) (n c : Nat) (l : List (Int × ByteArray)) : Prop where
  len : l.length = n
  le : n ≤ c
  max : c ≤ maxLen
  wf : ∀ x ∈ l, (Lit.int k0 x.1).wf = true ∧ x.2.size ≤ maxLen
  cells : n = 0 ∨ ∃ b off, a = some ⟨b, off, none⟩ ∧ ∀ i, i < n → w.cell? ⟨b, off + i * 2, none⟩ = some (.int k0 (l.getD i (0, ByteArray.empty)).1) ∧ w.cell? ⟨b, off + i * 2 + 1, none⟩ = some (.string (l.getD i (0, ByteArray.empty)).2)
  isNil : a = none → c = 0
theorem Prs.of_nil (k0 : IntKind) (w : World) : Prs k0 w none 0 0 [] := ⟨rfl, Nat.le_refl _, Nat.zero_le _, by simp, .inl rfl, fun _ => rfl⟩
theorem Prs.later {k0 : IntKind} {w w' : World} {a : Option Addr} {n c : Nat} {l : List (Int × ByteArray)} (h : Prs k0 w a n c l) (hb : Below w.heap.size w w') : Prs k0 w' a n c l := by
  refine ⟨h.len, h.le, h.max, h.wf, ?_, h.isNil⟩
  rcases h.cells with h0 | ⟨b, off, ha, hc⟩
  · exact .inl h0
  · refine .inr ⟨b, off, ha, fun i hi => ?_⟩
    obtain ⟨h1, h2⟩ := hc i hi
    have hlt : b < w.heap.size := World.block_lt_of_cell? w _ h1
    exact ⟨(hb.cell (p := ⟨b, off + i * 2, none⟩) hlt).trans h1, (hb.cell (p := ⟨b, off + i * 2 + 1, none⟩) hlt).trans h2⟩
theorem cells2 {w : World} {base : Nat} {a : Addr} {cs : List Value} (h : w.cells? base a 2 = some cs) : ∃ x y, cs = [x, y] ∧ w.cell? a = some x ∧ w.cell? (a.add 1) = some y := by
  unfold World.cells? at h
  split at h
  · rw [show List.range 2 = [0, 1] from rfl] at h
    simp only [List.mapM_cons, List.mapM_nil, Option.bind_eq_bind, Option.pure_def] at h
    simp only [Option.bind_eq_some_iff] at h
    obtain ⟨x, hx, r, ⟨y, hy, r2, hr2, h1⟩, h0⟩ := h
    cases hr2
    cases h1
    cases h0
    exact ⟨x, y, rfl, by simpa [Addr.add] using hx, hy⟩
  · cases h
theorem open_prs {H : Type} {enc : TypeId × Value → H} {P : Program} {w : World} {base : Nat} {spare : Nat → Bool} {held : Bool} {fuel : Nat} {t e : TypeId} {f0 f1 : Field} {k0 : IntKind} {cs : List Value} {x : DataW H × List MemPlace}
    (ht : P.underlying t = some (.slice e)) (he : P.underlying e = some (.struct #[f0, f1])) (hone : oneCellFields P #[f0, f1] = true) (hC : P.cellsOf e = 2)
    (t0 : P.underlying f0.type = some (.int k0)) (t1 : P.underlying f1.type = some .string)
    (h : DataW.trod enc P w base spare held fuel t cs = some x) : ∃ s n c l, cs = [.slice s n c] ∧ Prs k0 w s n c l := by
  rcases DataW.trod_slice ht h with ⟨rfl, _⟩ | ⟨a, len, cap, elems, rest, n, _, rfl, _, _, hl, hm, hlen, hel, _, _⟩
  · exact ⟨none, 0, 0, [], rfl, Prs.of_nil _ _⟩
  · have each : ∀ i, i < len → ∃ y : Int × ByteArray, w.cell? (a.add (i * 2)) = some (.int k0 y.1) ∧ w.cell? ((a.add (i * 2)).add 1) = some (.string y.2) ∧ (Lit.int k0 y.1).wf = true ∧ y.2.size ≤ maxLen := by
      intro i hi
      have he' := hel i hi
      rw [hC, List.getElem?_eq_getElem (by omega), Option.bind_eq_some_iff] at he'
      obtain ⟨cs', hcs, hy⟩ := he'
      obtain ⟨c0, c1, rfl, g0, g1⟩ := cells2 hcs
      obtain ⟨xs, m, _, _, _, hxl, hg⟩ := DataW.trod_struct he hy
      obtain ⟨o0, q0⟩ := hone_of hone 0 f0 rfl
      obtain ⟨o1, q1⟩ := hone_of hone 1 f1 rfl
      match xs, hxl with
      | [y0, y1], _ =>
        have r0 : DataW.trod enc P w base spare held m f0.type [c0] = some y0 := by simpa [o0, q0] using hg 0 f0 rfl
        have r1 : DataW.trod enc P w base spare held m f1.type [c1] = some y1 := by simpa [o1, q1] using hg 1 f1 rfl
        obtain ⟨v0, e0, _, w0⟩ := DataW.trod_int t0 r0
        obtain ⟨v1, e1, _, w1⟩ := DataW.trod_string t1 r1
        simp at e0 e1
        subst e0 e1
        exact ⟨(v0, v1), g0, g1, w0, w1⟩
    have hex : ∃ l : List (Int × ByteArray), l.length = len ∧ ∀ i, i < len → w.cell? (a.add (i * 2)) = some (.int k0 (l.getD i (0, ByteArray.empty)).1) ∧ w.cell? ((a.add (i * 2)).add 1) = some (.string (l.getD i (0, ByteArray.empty)).2) ∧ (Lit.int k0 (l.getD i (0, ByteArray.empty)).1).wf = true ∧ (l.getD i (0, ByteArray.empty)).2.size ≤ maxLen := by
      refine ⟨(List.range len).map fun i => if hi : i < len then Classical.choose (each i hi) else (0, ByteArray.empty), by simp, fun i hi => ?_⟩
      have := Classical.choose_spec (each i hi)
      simpa [List.getD_eq_getElem?_getD, hi] using this
    obtain ⟨l, hll, hcell⟩ := hex
    refine ⟨some a, len, cap, l, rfl, hll, hl, hm, fun y hy => ?_, ?_, by simp⟩
    · obtain ⟨i, hi, rfl⟩ := List.getElem_of_mem hy
      have := (hcell i (by omega)).2.2
      simpa [List.getD_eq_getElem?_getD, hi] using this
    · by_cases h0 : len = 0
      · exact .inl h0
      · obtain ⟨b, off, spot⟩ := a
        have h1 := (hcell 0 (by omega)).1
        have hspot : spot = none := by simpa [Addr.add] using World.cell?_spot h1
        subst hspot
        have hadd : ∀ (o j : Nat), (⟨b, o, none⟩ : Addr).add j = ⟨b, o + j, none⟩ := fun o j => by unfold Addr.add; split <;> simp_all
        refine .inr ⟨b, off, rfl, fun i hi => ?_⟩
        obtain ⟨g0, g1, _⟩ := hcell i hi
        rw [hadd] at g0 g1
        rw [hadd] at g1
        exact ⟨g0, g1⟩
/-- A struct of two fields of one cell each, by value. -/
theorem open_agg2v {H : Type} {enc : TypeId × Value → H} {P : Program} {w : World} {base : Nat} {spare : Nat → Bool} {held : Bool} {r : Reach} {b0 : Nat} {t : TypeId} {f0 f1 : Field} {v : Value} {d : DataW H} {p : List MemPlace}
    (hs : P.underlying t = some (.struct #[f0, f1])) (hone : oneCellFields P #[f0, f1] = true) (hC : P.cellsOf t = 2)
    (hv : Value.okWide P w r b0 t v) (h : DataW.Trod enc P w base spare held t v d p) :
    ∃ (v0 v1 : Value) (y0 y1 : DataW H × List MemPlace) (n : Nat), v = .agg #[v0, v1] ∧ DataW.trod enc P w base spare held n f0.type [v0] = some y0 ∧ DataW.trod enc P w base spare held n f1.type [v1] = some y1 := by
  obtain ⟨cs, rfl, hsz⟩ := okWide_struct hs hv
  obtain ⟨l⟩ := cs
  match l, hsz.trans hC with
  | [c0, c1], _ =>
    obtain ⟨fuel, hf⟩ := h
    obtain ⟨xs, n, _, hx, _, hlen, hg⟩ := DataW.trod_struct hs hf
    obtain ⟨o0, k0⟩ := hone_of hone 0 f0 rfl
    obtain ⟨o1, k1⟩ := hone_of hone 1 f1 rfl
    match xs, hlen with
    | [y0, y1], _ =>
      exact ⟨c0, c1, y0, y1, n, rfl, by simpa [Value.cells, o0, k0] using hg 0 f0 rfl, by simpa [Value.cells, o1, k1] using hg 1 f1 rfl⟩
/-- A struct of an integer and a slice of structs of three integers, by value (a line of the statements). -/
theorem open_line {H : Type} {enc : TypeId × Value → H} {P : Program} {w : World} {base : Nat} {spare : Nat → Bool} {held : Bool} {r : Reach} {b0 : Nat} {t ts e : TypeId} {f0 f1 g0 g1 g2 : Field} {k k0 k1 k2 : IntKind} {v : Value} {d : DataW H} {p : List MemPlace}
    (hs : P.underlying t = some (.struct #[f0, f1])) (hone : oneCellFields P #[f0, f1] = true) (hC : P.cellsOf t = 2) (tk : P.underlying f0.type = some (.int k)) (hts : f1.type = ts)
    (ht : P.underlying ts = some (.slice e)) (he : P.underlying e = some (.struct #[g0, g1, g2])) (hone3 : oneCellFields P #[g0, g1, g2] = true) (hC3 : P.cellsOf e = 3)
    (t0 : P.underlying g0.type = some (.int k0)) (t1 : P.underlying g1.type = some (.int k1)) (t2 : P.underlying g2.type = some (.int k2))
    (hv : Value.okWide P w r b0 t v) (h : DataW.Trod enc P w base spare held t v d p) :
    ∃ (x : Int) (s : Option Addr) (n c : Nat) (l : List (Int × Int × Int)), v = .agg #[.int k x, .slice s n c] ∧ (Lit.int k x).wf = true ∧ Tris k0 k1 k2 w s n c l := by
  obtain ⟨v0, v1, y0, y1, n, rfl, r0, r1⟩ := open_agg2v hs hone hC hv h
  obtain ⟨x, e0, _, w0⟩ := DataW.trod_int tk r0
  rw [hts] at r1
  obtain ⟨s, m, c, l, e1, hT⟩ := open_tris ht he hone3 hC3 t0 t1 t2 r1
  simp at e0 e1
  subst e0 e1
  exact ⟨x, s, m, c, l, rfl, w0, hT⟩
end Go.Proofs.Ytdjmopipmeonlaa
/- Slices of cuts opened: two octets and a flag each. -/
namespace Go.Proofs.Ytdjmopipmeonlaa
set_option linter.unusedVariables false
set_option linter.unusedVariables false
open Go.ChangeShapes Go.WideShapes Go.ChangeAt Go.WideMaps Go.WideElems Go.RowKit Go.Deep

theorem oct_natK {v : Int} (h : (Lit.int .u8 v).wf = true) : ∃ k : Nat, v = (k : Int) ∧ k ≤ 255 := by
  have := wf_u8.1 h
  exact ⟨v.toNat, by omega, by omega⟩
theorem kts_open {H : Type} {enc : TypeId × Value → H} {w : World} {base : Nat} {held : Bool} {fuel : Nat} {cs : List Value} {x : DataW H × List MemPlace}
    (h : DataW.trod enc Try.prog w base (fun _ => true) held fuel 65 cs = some x) : ∃ s n c l, cs = [.slice s n c] ∧ KtRow w s n c l := by
  have ht := Try.underlying65
  have he := Try.underlying74
  have hC : Try.prog.cellsOf 74 = 3 := by kernel_rfl
  have k5 : Try.prog.cellsOf 5 = 1 := by kernel_rfl
  have k6 : Try.prog.cellsOf 4 = 1 := by kernel_rfl
  rcases DataW.trod_slice ht h with ⟨rfl, _⟩ | ⟨a, len, cap, elems, rest, n, _, rfl, _, _, hl, hm, hlen, hel, _, _⟩
  · exact ⟨none, 0, 0, [], rfl, KtRow.of_nil _⟩
  · have each : ∀ i, i < len → ∃ y : Nat × Nat × Bool, w.cell? (a.add (i * 3)) = some (.int .u8 (y.1 : Int)) ∧ w.cell? ((a.add (i * 3)).add 1) = some (.int .u8 (y.2.1 : Int)) ∧ w.cell? ((a.add (i * 3)).add 2) = some (.bool y.2.2) ∧ y.1 ≤ 255 ∧ y.2.1 ≤ 255 := by
      intro i hi
      have he' := hel i hi
      rw [hC, List.getElem?_eq_getElem (by omega), Option.bind_eq_some_iff] at he'
      obtain ⟨cs', hcs, hy⟩ := he'
      obtain ⟨c0, c1, c2, rfl, g0, g1, g2⟩ := cells3 hcs
      obtain ⟨xs, m, _, _, _, hxl, hg⟩ := DataW.trod_struct he hy
      match xs, hxl with
      | [y0, y1, y2], _ =>
        have r0 : DataW.trod enc Try.prog w base (fun _ => true) held m 5 [c0] = some y0 := by simpa [k5] using hg 0 _ rfl
        have r1 : DataW.trod enc Try.prog w base (fun _ => true) held m 5 [c1] = some y1 := by simpa [k5] using hg 1 _ rfl
        have r2 : DataW.trod enc Try.prog w base (fun _ => true) held m 4 [c2] = some y2 := by simpa [k5, k6] using hg 2 _ rfl
        obtain ⟨v0, e0, _, w0⟩ := DataW.trod_int Try.underlying5 r0
        obtain ⟨v1, e1, _, w1⟩ := DataW.trod_int Try.underlying5 r1
        obtain ⟨v2, e2, _⟩ := DataW.trod_bool Try.underlying4 r2
        simp at e0 e1 e2
        subst e0 e1 e2
        obtain ⟨z0, rfl, h0⟩ := oct_natK w0
        obtain ⟨z1, rfl, h1⟩ := oct_natK w1
        exact ⟨(z0, z1, v2), g0, g1, g2, h0, h1⟩
    have hex : ∃ l : List (Nat × Nat × Bool), l.length = len ∧ ∀ i, i < len → w.cell? (a.add (i * 3)) = some (.int .u8 ((l.getD i (0, 0, false)).1 : Int)) ∧ w.cell? ((a.add (i * 3)).add 1) = some (.int .u8 ((l.getD i (0, 0, false)).2.1 : Int)) ∧ w.cell? ((a.add (i * 3)).add 2) = some (.bool (l.getD i (0, 0, false)).2.2) ∧ (l.getD i (0, 0, false)).1 ≤ 255 ∧ (l.getD i (0, 0, false)).2.1 ≤ 255 := by
      refine ⟨(List.range len).map fun i => if hi : i < len then Classical.choose (each i hi) else (0, 0, false), by simp, fun i hi => ?_⟩
      have := Classical.choose_spec (each i hi)
      simpa [List.getD_eq_getElem?_getD, hi] using this
    obtain ⟨l, hll, hcell⟩ := hex
    refine ⟨some a, len, cap, l, rfl, hll, hl, hm, fun y hy => ?_, ?_⟩
    · obtain ⟨i, hi, rfl⟩ := List.getElem_of_mem hy
      have := (hcell i (by omega)).2.2.2
      simpa [List.getD_eq_getElem?_getD, hi] using this
    · by_cases h0 : len = 0
      · exact .inl h0
      · obtain ⟨b, off, spot⟩ := a
        have h1 := (hcell 0 (by omega)).1
        have hspot : spot = none := by simpa [Addr.add] using World.cell?_spot h1
        subst hspot
        have hadd : ∀ (o j : Nat), (⟨b, o, none⟩ : Addr).add j = ⟨b, o + j, none⟩ := fun o j => by unfold Addr.add; split <;> simp_all
        refine .inr ⟨b, off, rfl, fun i hi => ?_⟩
        obtain ⟨g0, g1, g2, _⟩ := hcell i hi
        rw [hadd] at g0 g1 g2
        rw [hadd] at g1 g2
        exact ⟨g0, g1, g2⟩
end Go.Proofs.Ytdjmopipmeonlaa
