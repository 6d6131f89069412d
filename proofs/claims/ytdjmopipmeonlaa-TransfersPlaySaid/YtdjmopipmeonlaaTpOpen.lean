/- Joined: TpPlay OpenActs TpOpen. -/
import Derived.Test.YtdjmopipmeonlaaTpNew
import Derived.Test.YtdjmopipmeonlaaTpPlB
import Derived.Test.YtdjmopipmeonlaaTpPlD
import Derived.Test.YtdjmopipmeonlaaOpenTri
import Derived.SliceStrings
import Derived.Test.YtdjmopipmeonlaaTfMap
/- play returns what an act does, as plain data. -/
namespace Go.Proofs.Ytdjmopipmeonlaa
set_option linter.unusedVariables false
open Go.RowKit Go.Maps

theorem MOut.of {y : Tl} {T : Tb} {E : Int} {V : World} {f : Nat} {args : Array Value} (hV : TbAt V y T) (h : Calls Try.prog f args V fun e w' => e = .returned (.int .i64 E) ∧ Below V.heap.size V w') : Calls Try.prog f args V (MOut y T E V) :=
  h.mono fun _ _ h9 => ⟨h9.1, hV.below h9.2, Exc.of_below h9.2⟩
set_option maxRecDepth 100000 in
theorem play_any {x : Nn} {p : Pn} {n m at' : Nat} {y : Tl} {T : Tb} (hp : PF x p n m) (hI : Inv p at' T) (hat : at' < n) (a : Option Addr) (c : Nat) (a' : Option Addr) (c' : Nat) (x0 x1 x2 x3 : Nat) (hx0 : x0 ≤ 255) (hx1 : x1 ≤ 255) (hx2 : x2 ≤ 255) (hx3 : x3 ≤ 255) (w : World) (hrow : PRow w a n c p.P) (h : TbAt w y T) :
    Calls Try.prog 11 #[.pointer (some ⟨y.tb, 0, none⟩), planV a n c a' m c' p, actV x0 x1 x2 x3] w (PlOut y (actM T p.P at' n x0 x1 x2 x3).2.2 (actM T p.P at' n x0 x1 x2 x3).1 (actM T p.P at' n x0 x1 x2 x3).2.1 w) := by
  have hn2 := hp.n2
  have hlen := hp.len
  have hnn : x1 % n < n := Nat.mod_lt _ (by omega)
  have hdn : x2 % n < n := Nat.mod_lt _ (by omega)
  have wf : ∀ k, k < n → (Lit.int .u16 (pc p.P k)).wf = true := fun k hk => by
    have h1 := hp.code hk
    generalize pc p.P k = z at h1
    simp [Lit.wf, IntKind.min, IntKind.max, IntKind.bits, IntKind.signed]
    omega
  have hme : ∀ k, k < n → (pc p.P k = T.me ↔ k = at') := fun k hk => by rw [hI.me]; exact pc_inj hp (by omega) (by omega)
  have hD : ∀ k, k < n → k ≠ at' → pc p.P k ∈ T.D := fun k hk hne => by
    rw [hI.D]
    refine mem_dests.2 ⟨?_, fun e => hne ((pc_inj hp (by omega) (by omega)).1 e)⟩
    unfold codesP pc
    rw [List.getD_eq_getElem?_getD, List.getElem?_eq_getElem (by omega)]
    exact List.mem_map_of_mem (List.getElem_mem _)
  have hs4 : (Int.ofNat (x3 % 4)) = ((x3 % 4 : Nat) : Int) := rfl
  unfold actM
  by_cases h0 : x0 % 7 = 0
  · rw [if_pos h0]
    by_cases hN : pc p.P (x1 % n) ∈ T.N
    · rw [if_pos hN]; exact play_up hp a c a' c' x0 x1 x2 x3 hx0 hx1 hx2 hx3 w hrow h h0 _ _ (fun V hV => up_ok _ V hV hN)
    · rw [if_neg hN]; exact play_up hp a c a' c' x0 x1 x2 x3 hx0 hx1 hx2 hx3 w hrow h h0 _ _ (fun V hV => MOut.of hV (up_no _ V hV (wf _ hnn) hN))
  rw [if_neg h0]
  by_cases h1 : x0 % 7 = 1
  · rw [if_pos h1]
    by_cases hN : pc p.P (x1 % n) ∈ T.N
    · rw [if_pos hN]; exact play_down hp a c a' c' x0 x1 x2 x3 hx0 hx1 hx2 hx3 w hrow h h1 _ _ (fun V hV => down_ok _ V hV hN)
    · rw [if_neg hN]; exact play_down hp a c a' c' x0 x1 x2 x3 hx0 hx1 hx2 hx3 w hrow h h1 _ _ (fun V hV => MOut.of hV (down_no _ V hV (wf _ hnn) hN))
  rw [if_neg h1]
  by_cases h2 : x0 % 7 = 2
  · rw [if_pos h2]
    by_cases hN : pc p.P (x1 % n) ∈ T.N
    · rw [if_pos hN]
      by_cases ha : x2 % n = at'
      · rw [if_pos (.inr (.inl ha))]
        refine play_hear hp a c a' c' x0 x1 x2 x3 hx0 hx1 hx2 hx3 w hrow h h2 _ _ (fun V hV => MOut.of hV ?_)
        by_cases hs : 2 < x3 % 4
        · exact hear_me_hi _ _ _ V hV hN (wf _ hdn) ((hme _ hdn).2 ha) (by rw [hs4]; omega)
        · exact hear_me_lo _ _ _ V hV hN (wf _ hdn) ((hme _ hdn).2 ha) (by rw [hs4]; omega)
      by_cases hs : 2 < x3 % 4
      · rw [if_pos (.inl hs)]
        exact play_hear hp a c a' c' x0 x1 x2 x3 hx0 hx1 hx2 hx3 w hrow h h2 _ _ (fun V hV => MOut.of hV (hear_hi _ _ _ V hV hN (wf _ hdn) (fun e => ha ((hme _ hdn).1 e)) (hD _ hdn ha) (by rw [hs4]; omega)))
      by_cases he : x2 % n = x1 % n
      · rw [if_pos (.inr (.inr he))]
        exact play_hear hp a c a' c' x0 x1 x2 x3 hx0 hx1 hx2 hx3 w hrow h h2 _ _ (fun V hV => MOut.of hV (hear_self _ _ _ V hV hN (wf _ hdn) (fun e => ha ((hme _ hdn).1 e)) (hD _ hdn ha) (by rw [hs4]; omega) (by rw [he])))
      rw [if_neg (fun h9 => h9.elim hs (fun h8 => h8.elim ha he))]
      exact play_hear hp a c a' c' x0 x1 x2 x3 hx0 hx1 hx2 hx3 w hrow h h2 _ _ (fun V hV => hear_ok _ _ _ V hV hN (wf _ hdn) (fun e => ha ((hme _ hdn).1 e)) (hD _ hdn ha) (by rw [hs4]; omega) (by rw [hs4]; omega) (fun e => he ((pc_inj hp (by omega) (by omega)).1 e)))
    · rw [if_neg hN]; exact play_hear hp a c a' c' x0 x1 x2 x3 hx0 hx1 hx2 hx3 w hrow h h2 _ _ (fun V hV => MOut.of hV (hear_no _ _ _ V hV (wf _ hnn) hN))
  rw [if_neg h2]
  by_cases h3 : x0 % 7 = 3
  · rw [if_pos h3]; exact play_tell hp a c a' c' x0 x1 x2 x3 hx0 hx1 hx2 hx3 w hrow h h3 _ _ _ rfl (fun V hV => tell_any V hV)
  rw [if_neg h3]
  by_cases h4 : x0 % 7 = 4
  · rw [if_pos h4]
    by_cases hN : pc p.P (x1 % n) ∈ T.N
    · rw [if_pos hN]; exact play_greet hp a c a' c' x0 x1 x2 x3 hx0 hx1 hx2 hx3 w hrow h h4 _ _ _ (fun V hV => (greet_ok _ V hV hN).mono fun _ _ h9 => by
        obtain ⟨a5, e1, e2, e3, e4, _⟩ := h9
        exact ⟨a5, e1, e2, e3, e4⟩)
    · rw [if_neg hN]; exact play_greet hp a c a' c' x0 x1 x2 x3 hx0 hx1 hx2 hx3 w hrow h h4 _ _ _ (fun V hV => (greet_no _ V hV (wf _ hnn) hN).mono fun _ _ h9 => ⟨none, h9.1, NRow.nil _, hV.below h9.2, Exc.of_below h9.2⟩)
  rw [if_neg h4]
  by_cases h5 : x0 % 7 = 5
  · rw [if_pos h5]; exact play_ask hp a c a' c' x0 x1 x2 x3 hx0 hx1 hx2 hx3 w hrow h h5 _ _ _ rfl rfl (fun V hV => ask_any V hV)
  rw [if_neg h5]
  have h6 : x0 % 7 = 6 := by omega
  cases ht : T.tr
  · rw [if_neg (fun h9 => by cases h9.1)]; exact play_ans_no hp a c a' c' x0 x1 x2 x3 hx0 hx1 hx2 hx3 w hrow h h6 (fun V hV => answer_end _ _ _ V hV (wf _ hnn) (wf _ hdn) ht)
  cases hu : T.isUp (pc p.P (x1 % n))
  · rw [if_neg (fun h9 => by cases h9.2.1)]; exact play_ans_no hp a c a' c' x0 x1 x2 x3 hx0 hx1 hx2 hx3 w hrow h h6 (fun V hV => answer_down _ _ _ V hV (wf _ hnn) (wf _ hdn) ht hu)
  by_cases ha : x2 % n = at'
  · rw [if_neg (fun h9 => h9.2.2.1 ha)]; exact play_ans_no hp a c a' c' x0 x1 x2 x3 hx0 hx1 hx2 hx3 w hrow h h6 (fun V hV => answer_none _ _ _ V hV (wf _ hnn) (wf _ hdn) ht hu (by rw [ha]; exact hI.meD))
  by_cases he : x2 % n = x1 % n
  · rw [if_neg (fun h9 => h9.2.2.2.1 he)]; exact play_ans_no hp a c a' c' x0 x1 x2 x3 hx0 hx1 hx2 hx3 w hrow h h6 (fun V hV => answer_self _ _ _ V hV (wf _ hnn) (wf _ hdn) ht hu (hD _ hdn ha) (by rw [he]))
  have hne : pc p.P (x2 % n) ≠ pc p.P (x1 % n) := fun e => he ((pc_inj hp (by omega) (by omega)).1 e)
  by_cases hs : T.st (pc p.P (x2 % n)) = Int.ofNat (x3 % 4)
  · rw [if_neg (fun h9 => h9.2.2.2.2 hs)]; exact play_ans_no hp a c a' c' x0 x1 x2 x3 hx0 hx1 hx2 hx3 w hrow h h6 (fun V hV => by
      have h9 := answer_ok (pc p.P (x1 % n)) (pc p.P (x2 % n)) (Int.ofNat (x3 % 4)) V hV (wf _ hnn) (wf _ hdn) ht hu (hD _ hdn ha) hne
      rw [if_pos hs] at h9; exact h9)
  rw [if_pos ⟨rfl, rfl, ha, he, hs⟩]
  exact play_ans_ok hp a c a' c' x0 x1 x2 x3 hx0 hx1 hx2 hx3 w hrow h h6 _ _ (fun V hV => by
      have h9 := answer_ok (pc p.P (x1 % n)) (pc p.P (x2 % n)) (Int.ofNat (x3 % 4)) V hV (wf _ hnn) (wf _ hdn) ht hu (hD _ hdn ha) hne
      rw [if_neg hs] at h9; exact h9)
end Go.Proofs.Ytdjmopipmeonlaa
/- Slices of strings, slices of structs of an integer and a string, and a struct of an integer and a slice of structs, opened. -/
namespace Go.Proofs.Ytdjmopipmeonlaa
set_option linter.unusedVariables false
open Go.ChangeShapes Go.WideShapes Go.ChangeAt Go.WideMaps Go.WideElems Go.RowKit Go.Deep

/-- A slice value reads in w as the strings l. -/
structure Strs (w : World) (a : Option Addr) (n c : Nat) (l : List ByteArray) : Prop where
  len : l.length = n
  le : n ≤ c
  max : c ≤ maxLen
  wf : ∀ x ∈ l, x.size ≤ maxLen
  cells : n = 0 ∨ ∃ b off, a = some ⟨b, off, none⟩ ∧ ∀ i, i < n → w.cell? ⟨b, off + i, none⟩ = some (.string (l.getD i ByteArray.empty))
  isNil : a = none → c = 0
theorem Strs.of_nil (w : World) : Strs w none 0 0 [] := ⟨rfl, Nat.le_refl _, Nat.zero_le _, by simp, .inl rfl, fun _ => rfl⟩
theorem Strs.later {w w' : World} {a : Option Addr} {n c : Nat} {l : List ByteArray} (h : Strs w a n c l) (hb : Below w.heap.size w w') : Strs w' a n c l := by
  refine ⟨h.len, h.le, h.max, h.wf, ?_, h.isNil⟩
  rcases h.cells with h0 | ⟨b, off, ha, hc⟩
  · exact .inl h0
  · refine .inr ⟨b, off, ha, fun i hi => ?_⟩
    have h1 := hc i hi
    exact (hb.cell (p := ⟨b, off + i, none⟩) (World.block_lt_of_cell? w _ h1)).trans h1
theorem strs_open {H : Type} {enc : TypeId × Value → H} {P : Program} {w : World} {base : Nat} {held : Bool} {fuel : Nat} {t e : TypeId} {cs : List Value} {x : DataW H × List MemPlace}
    (ht : P.underlying t = some (.slice e)) (he : P.underlying e = some .string) (hc : P.cellsOf e = 1) (h : DataW.trod enc P w base (fun _ => true) held fuel t cs = some x) : ∃ s n c l, cs = [.slice s n c] ∧ Strs w s n c l := by
  rcases open_strings ht he hc h with ⟨rfl, _⟩ | ⟨a, len, cap, ss, rfl, _, hl, hm, hsl, _, hcell, hw⟩
  · exact ⟨none, 0, 0, [], rfl, Strs.of_nil _⟩
  · rw [if_pos rfl] at hsl
    refine ⟨some a, len, cap, ss.take len, rfl, by rw [List.length_take]; omega, hl, hm, fun y hy => hw y (List.mem_of_mem_take hy), ?_, by simp⟩
    by_cases h0 : len = 0
    · exact .inl h0
    · obtain ⟨b, off, spot⟩ := a
      have h1 := hcell 0 (by omega)
      have hspot : spot = none := by simpa [Addr.add] using World.cell?_spot h1
      subst hspot
      refine .inr ⟨b, off, rfl, fun i hi => ?_⟩
      have h2 := hcell i (by omega)
      have hadd : (⟨b, off, none⟩ : Addr).add i = ⟨b, off + i, none⟩ := by unfold Addr.add; split <;> simp_all
      rw [hadd] at h2
      rw [h2]
      simp [List.getD_eq_getElem?_getD, hi]
/-- A slice value reads in w as the pairs l of an integer and a string. -/
structure Prs (k0 : IntKind) (w : World) (a : Option Addr) (n c : Nat) (l : List (Int × ByteArray)) : Prop where
  len : l.length = n
  le : n ≤ c
  max : c ≤ maxLen
  wf : ∀ x ∈ l, (Lit.int k0 x.1).wf = true ∧ x.2.size ≤ maxLen
  cells : n = 0 ∨ ∃ b off, a = some ⟨b, off, none⟩ ∧ ∀ i, i < n → w.cell? ⟨b, off + i * 2, none⟩ = some (.int k0 (l.getD i (0, ByteArray.empty)).1) ∧ w.cell? ⟨b, off + i * 2 + 1, none⟩ = some (.string (l.getD i (0, ByteArray.empty)).2)
  isNil : a = none → c = 0
theorem Prs.of_nil (k0 : IntKind) (w : World) : Prs k0 w none 0 0 [] := ⟨rfl, Nat.le_refl _, Nat.zero_le _, by simp, .inl rfl, fun _ => rfl⟩
theorem Prs.later {k0 : IntKind} {w w' : World} {a : Option Addr} {n c : Nat} {l : List (Int × ByteArray)} (h : Prs k0 w a n c l) (hb : Below w.heap.size w w') : Prs k0 w' a n c l := by
  refine ⟨h.len, h.le, h.max, h.wf, ?_, h.isNil⟩
  rcases h.cells with h0 | ⟨b, off, ha, hc⟩
  · exact .inl h0
  · refine .inr ⟨b, off, ha, fun i hi => ?_⟩
    obtain ⟨h1, h2⟩ := hc i hi
    have hlt : b < w.heap.size := World.block_lt_of_cell? w _ h1
    exact ⟨(hb.cell (p := ⟨b, off + i * 2, none⟩) hlt).trans h1, (hb.cell (p := ⟨b, off + i * 2 + 1, none⟩) hlt).trans h2⟩
theorem cells2 {w : World} {base : Nat} {a : Addr} {cs : List Value} (h : w.cells? base a 2 = some cs) : ∃ x y, cs = [x, y] ∧ w.cell? a = some x ∧ w.cell? (a.add 1) = some y := by
  unfold World.cells? at h
  split at h
  · rw [show List.range 2 = [0, 1] from rfl] at h
    simp only [List.mapM_cons, List.mapM_nil, Option.bind_eq_bind, Option.pure_def] at h
    simp only [Option.bind_eq_some_iff] at h
    obtain ⟨x, hx, r, ⟨y, hy, r2, hr2, h1⟩, h0⟩ := h
    cases hr2
    cases h1
    cases h0
    exact ⟨x, y, rfl, by simpa [Addr.add] using hx, hy⟩
  · cases h
theorem open_prs {H : Type} {enc : TypeId × Value → H} {P : Program} {w : World} {base : Nat} {spare : Nat → Bool} {held : Bool} {fuel : Nat} {t e : TypeId} {f0 f1 : Field} {k0 : IntKind} {cs : List Value} {x : DataW H × List MemPlace}
    (ht : P.underlying t = some (.slice e)) (he : P.underlying e = some (.struct #[f0, f1])) (hone : oneCellFields P #[f0, f1] = true) (hC : P.cellsOf e = 2)
    (t0 : P.underlying f0.type = some (.int k0)) (t1 : P.underlying f1.type = some .string)
    (h : DataW.trod enc P w base spare held fuel t cs = some x) : ∃ s n c l, cs = [.slice s n c] ∧ Prs k0 w s n c l := by
  rcases DataW.trod_slice ht h with ⟨rfl, _⟩ | ⟨a, len, cap, elems, rest, n, _, rfl, _, _, hl, hm, hlen, hel, _, _⟩
  · exact ⟨none, 0, 0, [], rfl, Prs.of_nil _ _⟩
  · have each : ∀ i, i < len → ∃ y : Int × ByteArray, w.cell? (a.add (i * 2)) = some (.int k0 y.1) ∧ w.cell? ((a.add (i * 2)).add 1) = some (.string y.2) ∧ (Lit.int k0 y.1).wf = true ∧ y.2.size ≤ maxLen := by
      intro i hi
      have he' := hel i hi
      rw [hC, List.getElem?_eq_getElem (by omega), Option.bind_eq_some_iff] at he'
      obtain ⟨cs', hcs, hy⟩ := he'
      obtain ⟨c0, c1, rfl, g0, g1⟩ := cells2 hcs
      obtain ⟨xs, m, _, _, _, hxl, hg⟩ := DataW.trod_struct he hy
      obtain ⟨o0, q0⟩ := hone_of hone 0 f0 rfl
      obtain ⟨o1, q1⟩ := hone_of hone 1 f1 rfl
      match xs, hxl with
      | [y0, y1], _ =>
        have r0 : DataW.trod enc P w base spare held m f0.type [c0] = some y0 := by simpa [o0, q0] using hg 0 f0 rfl
        have r1 : DataW.trod enc P w base spare held m f1.type [c1] = some y1 := by simpa [o1, q1] using hg 1 f1 rfl
        obtain ⟨v0, e0, _, w0⟩ := DataW.trod_int t0 r0
        obtain ⟨v1, e1, _, w1⟩ := DataW.trod_string t1 r1
        simp at e0 e1
        subst e0 e1
        exact ⟨(v0, v1), g0, g1, w0, w1⟩
    have hex : ∃ l : List (Int × ByteArray), l.length = len ∧ ∀ i, i < len → w.cell? (a.add (i * 2)) = some (.int k0 (l.getD i (0, ByteArray.empty)).1) ∧ w.cell? ((a.add (i * 2)).add 1) = some (.string (l.getD i (0, ByteArray.empty)).2) ∧ (Lit.int k0 (l.getD i (0, ByteArray.empty)).1).wf = true ∧ (l.getD i (0, ByteArray.empty)).2.size ≤ maxLen := by
      refine ⟨(List.range len).map fun i => if hi : i < len then Classical.choose (each i hi) else (0, ByteArray.empty), by simp, fun i hi => ?_⟩
      have := Classical.choose_spec (each i hi)
      simpa [List.getD_eq_getElem?_getD, hi] using this
    obtain ⟨l, hll, hcell⟩ := hex
    refine ⟨some a, len, cap, l, rfl, hll, hl, hm, fun y hy => ?_, ?_, by simp⟩
    · obtain ⟨i, hi, rfl⟩ := List.getElem_of_mem hy
      have := (hcell i (by omega)).2.2
      simpa [List.getD_eq_getElem?_getD, hi] using this
    · by_cases h0 : len = 0
      · exact .inl h0
      · obtain ⟨b, off, spot⟩ := a
        have h1 := (hcell 0 (by omega)).1
        have hspot : spot = none := by simpa [Addr.add] using World.cell?_spot h1
        subst hspot
        have hadd : ∀ (o j : Nat), (⟨b, o, none⟩ : Addr).add j = ⟨b, o + j, none⟩ := fun o j => by unfold Addr.add; split <;> simp_all
        refine .inr ⟨b, off, rfl, fun i hi => ?_⟩
        obtain ⟨g0, g1, _⟩ := hcell i hi
        rw [hadd] at g0 g1
        rw [hadd] at g1
        exact ⟨g0, g1⟩
/-- A struct of two fields of one cell each, by value. -/
theorem open_agg2v {H : Type} {enc : TypeId × Value → H} {P : Program} {w : World} {base : Nat} {spare : Nat → Bool} {held : Bool} {r : Reach} {b0 : Nat} {t : TypeId} {f0 f1 : Field} {v : Value} {d : DataW H} {p : List MemPlace}
    (hs : P.underlying t = some (.struct #[f0, f1])) (hone : oneCellFields P #[f0, f1] = true) (hC : P.cellsOf t = 2)
    (hv : Value.okWide P w r b0 t v) (h : DataW.Trod enc P w base spare held t v d p) :
    ∃ (v0 v1 : Value) (y0 y1 : DataW H × List MemPlace) (n : Nat), v = .agg #[v0, v1] ∧ DataW.trod enc P w base spare held n f0.type [v0] = some y0 ∧ DataW.trod enc P w base spare held n f1.type [v1] = some y1 := by
  obtain ⟨cs, rfl, hsz⟩ := okWide_struct hs hv
  obtain ⟨l⟩ := cs
  match l, hsz.trans hC with
  | [c0, c1], _ =>
    obtain ⟨fuel, hf⟩ := h
    obtain ⟨xs, n, _, hx, _, hlen, hg⟩ := DataW.trod_struct hs hf
    obtain ⟨o0, k0⟩ := hone_of hone 0 f0 rfl
    obtain ⟨o1, k1⟩ := hone_of hone 1 f1 rfl
    match xs, hlen with
    | [y0, y1], _ =>
      exact ⟨c0, c1, y0, y1, n, rfl, by simpa [Value.cells, o0, k0] using hg 0 f0 rfl, by simpa [Value.cells, o1, k1] using hg 1 f1 rfl⟩
/-- A struct of an integer and a slice of structs of three integers, by value (a line of the statements). -/
theorem open_line {H : Type} {enc : TypeId × Value → H} {P : Program} {w : World} {base : Nat} {spare : Nat → Bool} {held : Bool} {r : Reach} {b0 : Nat} {t ts e : TypeId} {f0 f1 g0 g1 g2 : Field} {k k0 k1 k2 : IntKind} {v : Value} {d : DataW H} {p : List MemPlace}
    (hs : P.underlying t = some (.struct #[f0, f1])) (hone : oneCellFields P #[f0, f1] = true) (hC : P.cellsOf t = 2) (tk : P.underlying f0.type = some (.int k)) (hts : f1.type = ts)
    (ht : P.underlying ts = some (.slice e)) (he : P.underlying e = some (.struct #[g0, g1, g2])) (hone3 : oneCellFields P #[g0, g1, g2] = true) (hC3 : P.cellsOf e = 3)
    (t0 : P.underlying g0.type = some (.int k0)) (t1 : P.underlying g1.type = some (.int k1)) (t2 : P.underlying g2.type = some (.int k2))
    (hv : Value.okWide P w r b0 t v) (h : DataW.Trod enc P w base spare held t v d p) :
    ∃ (x : Int) (s : Option Addr) (n c : Nat) (l : List (Int × Int × Int)), v = .agg #[.int k x, .slice s n c] ∧ (Lit.int k x).wf = true ∧ Tris k0 k1 k2 w s n c l := by
  obtain ⟨v0, v1, y0, y1, n, rfl, r0, r1⟩ := open_agg2v hs hone hC hv h
  obtain ⟨x, e0, _, w0⟩ := DataW.trod_int tk r0
  rw [hts] at r1
  obtain ⟨s, m, c, l, e1, hT⟩ := open_tris ht he hone3 hC3 t0 t1 t2 r1
  simp at e0 e1
  subst e0 e1
  exact ⟨x, s, m, c, l, rfl, w0, hT⟩
end Go.Proofs.Ytdjmopipmeonlaa
/- Slices of acts opened: four octets each. -/
namespace Go.Proofs.Ytdjmopipmeonlaa
set_option linter.unusedVariables false
open Go.ChangeShapes Go.WideShapes Go.ChangeAt Go.WideMaps Go.WideElems Go.RowKit Go.Deep

/-- A slice value reads in w as the acts l. -/
structure QRow (w : World) (a : Option Addr) (n c : Nat) (l : List (Nat × Nat × Nat × Nat)) : Prop where
  len : l.length = n
  le : n ≤ c
  max : c ≤ maxLen
  wf : ∀ x ∈ l, x.1 ≤ 255 ∧ x.2.1 ≤ 255 ∧ x.2.2.1 ≤ 255 ∧ x.2.2.2 ≤ 255
  cells : n = 0 ∨ ∃ b off, a = some ⟨b, off, none⟩ ∧ ∀ i, i < n → w.cell? ⟨b, off + i * 4, none⟩ = some (.int .u8 ((l.getD i (0, 0, 0, 0)).1 : Int)) ∧ w.cell? ⟨b, off + i * 4 + 1, none⟩ = some (.int .u8 ((l.getD i (0, 0, 0, 0)).2.1 : Int)) ∧ w.cell? ⟨b, off + i * 4 + 2, none⟩ = some (.int .u8 ((l.getD i (0, 0, 0, 0)).2.2.1 : Int)) ∧ w.cell? ⟨b, off + i * 4 + 3, none⟩ = some (.int .u8 ((l.getD i (0, 0, 0, 0)).2.2.2 : Int))
theorem QRow.of_nil (w : World) : QRow w none 0 0 [] := ⟨rfl, Nat.le_refl _, Nat.zero_le _, by simp, .inl rfl⟩
theorem QRow.exc {S : Nat → Prop} {w w' : World} {a : Option Addr} {n c : Nat} {l : List (Nat × Nat × Nat × Nat)} (h : QRow w a n c l) (hx : Exc S w w') (hn : 0 < n → ∀ x, a = some x → ¬ S x.block) : QRow w' a n c l := by
  refine ⟨h.len, h.le, h.max, h.wf, ?_⟩
  rcases Nat.eq_zero_or_pos n with h0 | h0
  · exact .inl h0
  · obtain ⟨b, off, ha, hc⟩ := h.cells.resolve_left (by omega)
    have hb : ¬ S b := hn h0 _ ha
    exact .inr ⟨b, off, ha, fun i hi => ⟨hx.cell (hc i hi).1 hb, hx.cell (hc i hi).2.1 hb, hx.cell (hc i hi).2.2.1 hb, hx.cell (hc i hi).2.2.2 hb⟩⟩
theorem QRow.later {w w' : World} {a : Option Addr} {n c : Nat} {l : List (Nat × Nat × Nat × Nat)} (h : QRow w a n c l) (hb : Below w.heap.size w w') : QRow w' a n c l :=
  h.exc (S := fun _ => False) (Exc.of_below hb) (fun _ _ _ h => h)
theorem cells4 {w : World} {base : Nat} {a : Addr} {cs : List Value} (h : w.cells? base a 4 = some cs) : ∃ x y z u, cs = [x, y, z, u] ∧ w.cell? a = some x ∧ w.cell? (a.add 1) = some y ∧ w.cell? (a.add 2) = some z ∧ w.cell? (a.add 3) = some u := by
  unfold World.cells? at h
  split at h
  · rw [show List.range 4 = [0, 1, 2, 3] from rfl] at h
    simp only [List.mapM_cons, List.mapM_nil, Option.bind_eq_bind, Option.pure_def] at h
    simp only [Option.bind_eq_some_iff] at h
    obtain ⟨x, hx, r, ⟨y, hy, r2, ⟨z, hz, r3, ⟨u, hu, r4, hr4, h3⟩, h2⟩, h1⟩, h0⟩ := h
    cases hr4
    cases h3
    cases h2
    cases h1
    cases h0
    exact ⟨x, y, z, u, rfl, by simpa [Addr.add] using hx, hy, hz, hu⟩
  · cases h
theorem oct_nat {v : Int} (h : (Lit.int .u8 v).wf = true) : ∃ k : Nat, v = (k : Int) ∧ k ≤ 255 := by
  have := wf_u8.1 h
  exact ⟨v.toNat, by omega, by omega⟩
theorem qacts_open {H : Type} {enc : TypeId × Value → H} {w : World} {base : Nat} {held : Bool} {fuel : Nat} {cs : List Value} {x : DataW H × List MemPlace}
    (h : DataW.trod enc Try.prog w base (fun _ => true) held fuel 27 cs = some x) : ∃ s n c l, cs = [.slice s n c] ∧ QRow w s n c l := by
  have ht := Try.underlying27
  have he := Try.underlying49
  have hC : Try.prog.cellsOf 49 = 4 := by kernel_rfl
  have k5 : Try.prog.cellsOf 5 = 1 := by kernel_rfl
  rcases DataW.trod_slice ht h with ⟨rfl, _⟩ | ⟨a, len, cap, elems, rest, n, _, rfl, _, _, hl, hm, hlen, hel, _, _⟩
  · exact ⟨none, 0, 0, [], rfl, QRow.of_nil _⟩
  · have each : ∀ i, i < len → ∃ y : Nat × Nat × Nat × Nat, w.cell? (a.add (i * 4)) = some (.int .u8 (y.1 : Int)) ∧ w.cell? ((a.add (i * 4)).add 1) = some (.int .u8 (y.2.1 : Int)) ∧ w.cell? ((a.add (i * 4)).add 2) = some (.int .u8 (y.2.2.1 : Int)) ∧ w.cell? ((a.add (i * 4)).add 3) = some (.int .u8 (y.2.2.2 : Int)) ∧ (y.1 ≤ 255 ∧ y.2.1 ≤ 255 ∧ y.2.2.1 ≤ 255 ∧ y.2.2.2 ≤ 255) := by
      intro i hi
      have he' := hel i hi
      rw [hC, List.getElem?_eq_getElem (by omega), Option.bind_eq_some_iff] at he'
      obtain ⟨cs', hcs, hy⟩ := he'
      obtain ⟨c0, c1, c2, c3, rfl, g0, g1, g2, g3⟩ := cells4 hcs
      obtain ⟨xs, m, _, _, _, hxl, hg⟩ := DataW.trod_struct he hy
      match xs, hxl with
      | [y0, y1, y2, y3], _ =>
        have r0 : DataW.trod enc Try.prog w base (fun _ => true) held m 5 [c0] = some y0 := by simpa [k5] using hg 0 _ rfl
        have r1 : DataW.trod enc Try.prog w base (fun _ => true) held m 5 [c1] = some y1 := by simpa [k5] using hg 1 _ rfl
        have r2 : DataW.trod enc Try.prog w base (fun _ => true) held m 5 [c2] = some y2 := by simpa [k5] using hg 2 _ rfl
        have r3 : DataW.trod enc Try.prog w base (fun _ => true) held m 5 [c3] = some y3 := by simpa [k5] using hg 3 _ rfl
        obtain ⟨v0, e0, _, w0⟩ := DataW.trod_int Try.underlying5 r0
        obtain ⟨v1, e1, _, w1⟩ := DataW.trod_int Try.underlying5 r1
        obtain ⟨v2, e2, _, w2⟩ := DataW.trod_int Try.underlying5 r2
        obtain ⟨v3, e3, _, w3⟩ := DataW.trod_int Try.underlying5 r3
        simp at e0 e1 e2 e3
        subst e0 e1 e2 e3
        obtain ⟨z0, rfl, h0⟩ := oct_nat w0
        obtain ⟨z1, rfl, h1⟩ := oct_nat w1
        obtain ⟨z2, rfl, h2⟩ := oct_nat w2
        obtain ⟨z3, rfl, h3⟩ := oct_nat w3
        exact ⟨(z0, z1, z2, z3), g0, g1, g2, g3, h0, h1, h2, h3⟩
    have hex : ∃ l : List (Nat × Nat × Nat × Nat), l.length = len ∧ ∀ i, i < len → w.cell? (a.add (i * 4)) = some (.int .u8 ((l.getD i (0, 0, 0, 0)).1 : Int)) ∧ w.cell? ((a.add (i * 4)).add 1) = some (.int .u8 ((l.getD i (0, 0, 0, 0)).2.1 : Int)) ∧ w.cell? ((a.add (i * 4)).add 2) = some (.int .u8 ((l.getD i (0, 0, 0, 0)).2.2.1 : Int)) ∧ w.cell? ((a.add (i * 4)).add 3) = some (.int .u8 ((l.getD i (0, 0, 0, 0)).2.2.2 : Int)) ∧ ((l.getD i (0, 0, 0, 0)).1 ≤ 255 ∧ (l.getD i (0, 0, 0, 0)).2.1 ≤ 255 ∧ (l.getD i (0, 0, 0, 0)).2.2.1 ≤ 255 ∧ (l.getD i (0, 0, 0, 0)).2.2.2 ≤ 255) := by
      refine ⟨(List.range len).map fun i => if hi : i < len then Classical.choose (each i hi) else (0, 0, 0, 0), by simp, fun i hi => ?_⟩
      have := Classical.choose_spec (each i hi)
      simpa [List.getD_eq_getElem?_getD, hi] using this
    obtain ⟨l, hll, hcell⟩ := hex
    refine ⟨some a, len, cap, l, rfl, hll, hl, hm, fun y hy => ?_, ?_⟩
    · obtain ⟨i, hi, rfl⟩ := List.getElem_of_mem hy
      have := (hcell i (by omega)).2.2.2.2
      simpa [List.getD_eq_getElem?_getD, hi] using this
    · by_cases h0 : len = 0
      · exact .inl h0
      · obtain ⟨b, off, spot⟩ := a
        have h1 := (hcell 0 (by omega)).1
        have hspot : spot = none := by simpa [Addr.add] using World.cell?_spot h1
        subst hspot
        have hadd : ∀ (o j : Nat), (⟨b, o, none⟩ : Addr).add j = ⟨b, o + j, none⟩ := fun o j => by unfold Addr.add; split <;> simp_all
        refine .inr ⟨b, off, rfl, fun i hi => ?_⟩
        obtain ⟨g0, g1, g2, g3, _⟩ := hcell i hi
        rw [hadd] at g0 g1 g2 g3
        rw [hadd] at g1 g2 g3
        exact ⟨g0, g1, g2, g3⟩
end Go.Proofs.Ytdjmopipmeonlaa
