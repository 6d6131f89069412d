import Derived.Test.YthlckipcgogogaaGreatDoorPlNOf
import Derived.Test.YthlckipcgogogaaGreatDoorPcSmall
import Derived.Deep.MidRow
/- What the statements' walks know of the plan that N.Of returned. -/
namespace Go.Proofs.YthlckipcgogogaaGreatDoor
set_option linter.unusedVariables false
open Go.RowKit

theorem range_own {w : World} {b t : Nat} {cs : List Value} (h : Own w b t cs) : w.rangeAt b 0 cs := fun j v hv => by
  have hj := (List.getElem?_eq_some_iff.1 hv).1
  rw [Nat.zero_add, h.cell j hj, List.getD_eq_getElem?_getD, hv]
  rfl
theorem Row.cell0 {k : IntKind} {w : World} {g n c : Nat} {l : List Int} (h : Row k w (some ⟨g, 0, none⟩) n c l) (i : Nat) (hi : i < n) : w.cell? ⟨g, i, none⟩ = some (.int k (l.getD i 0)) := by
  obtain ⟨b, off, e, hc⟩ := h.cells.resolve_left (by omega)
  cases e
  have := hc i hi
  rwa [Nat.zero_add] at this
theorem htN_congr {n : Nat} {D E : Nat → Int} {i : Nat} (h : ∀ y, y < n → D y = E y) (hi : i < n) : htN n D i = htN n E i := by
  unfold htN
  refine List.countP_congr fun y hy => ?_
  have hy' := List.mem_range.1 hy
  unfold lowerB
  rw [h y hy', h i hi]
/-- The plan p, its places and lines. -/
structure PF (x : Nn) (p : Pn) (n m : Nat) : Prop where
  eq : p = planN x
  valid : ValidPl p
  len : p.P.length = n
  n2 : 2 ≤ n
  n6 : n ≤ 6
  llen : p.L.length = m
  m11 : m ≤ 11
  fine : LnsOk p.P p.L
theorem PF.asc {x : Nn} {p : Pn} {n m : Nat} (h : PF x p n m) : Asc p.P := h.valid.asc
theorem PF.chk {x : Nn} {p : Pn} {n m : Nat} (h : PF x p n m) : chkPl p = 0 := chkPl_zero.2 h.valid
theorem PF.fnd {x : Nn} {p : Pn} {n m : Nat} (h : PF x p n m) {i : Nat} (hi : i < n) : fnd p.P (pc p.P i) = some i := h.asc.fnd (by rw [h.len]; exact hi)
theorem PF.one {x : Nn} {p : Pn} {n m : Nat} (h : PF x p n m) {i : Nat} (hi : i < n) : chkPts p [pc p.P i] = 0 :=
  chkPts_ok.2 ⟨h.valid, by simp [badI, (idN_some (h.fnd hi)).2]⟩
theorem PF.two {x : Nn} {p : Pn} {n m : Nat} (h : PF x p n m) {i j : Nat} (hi : i < n) (hj : j < n) : chkPts p [pc p.P i, pc p.P j] = 0 :=
  chkPts_ok.2 ⟨h.valid, by simp [badI, (idN_some (h.fnd hi)).2, (idN_some (h.fnd hj)).2]⟩
theorem PF.of (x : Nn) : PF x (planN x) x.n (linesN x).length := by
  have hn := x.n_range
  have hl := linesN_ok x
  exact ⟨rfl, planN_valid x, placesN_length x x.n, hn.1, hn.2, rfl, hl.2, hl.1⟩
theorem PF.code {x : Nn} {p : Pn} {n m : Nat} (h : PF x p n m) {i : Nat} (hi : i < n) : 0 ≤ pc p.P i ∧ pc p.P i ≤ 59 := by
  have e := h.eq
  have hl := h.len
  subst e
  exact placesN_range x (k := x.n) (i := i) (by have : (planN x).P.length = x.n := placesN_length x x.n; omega) x.n_range.2
/-- In the world W: the plan's places and lines, and the variable that holds it at block b. -/
structure St (w : World) (p : Pn) (b : Nat) (aP : Option Addr) (n cP : Nat) (aL : Option Addr) (m cL : Nat) (W : World) : Prop where
  row : PRow W aP n cP p.P
  lrow : LRow W aL m cL p.L
  box : PlanAt W b aP n cP aL m cL p
  bel : Below w.heap.size w W
theorem St.later {w : World} {p : Pn} {b : Nat} {aP : Option Addr} {n cP : Nat} {aL : Option Addr} {m cL : Nat} {W W' : World} (h : St w p b aP n cP aL m cL W) (hb : Below W.heap.size W W') : St w p b aP n cP aL m cL W' :=
  ⟨h.row.later hb, h.lrow.later hb, h.box.later hb, h.bel.trans (hb.mono h.bel.size)⟩
theorem St.new {w w1 : World} {p : Pn} {aP : Option Addr} {n cP : Nat} {aL : Option Addr} {m cL : Nat} (hP : PRow w1 aP n cP p.P) (hL : LRow w1 aL m cL p.L) (hb : Below w.heap.size w w1) : St w p w1.heap.size aP n cP aL m cL (w1.alloc (.cells #[.slice aP n cP, .slice aL m cL, .int .i64 p.rate, .int .i64 p.room, .int .i64 p.m0, .int .i64 p.m1, .int .i64 p.m2] 31)) :=
  ⟨hP.later (below_alloc _ _), hL.later (below_alloc _ _), PlanAt.new _ _ _ _ _ _ _ _, hb.alloc hb.size _⟩
theorem St.code {w : World} {p : Pn} {b : Nat} {aP : Option Addr} {n cP : Nat} {aL : Option Addr} {m cL : Nat} {W : World} (h : St w p b aP n cP aL m cL W) (hn : 0 < n) : ∃ b2 off, aP = some ⟨b2, off, none⟩ ∧ ∀ i, i < n → W.cell? ⟨b2, off + i * 2, none⟩ = some (.int .u16 (pc p.P i)) ∧ W.cell? ⟨b2, off + i * 2 + 1, none⟩ = some (.bool (pt p.P i)) := h.row.cells.resolve_left (by omega)
/-- What N.Of leaves, with letters. -/
def OfSt (x : Nn) (w : World) (e : Ending) (w' : World) : Prop := ∃ p aP n cP aL m cL, PF x p n m ∧ e = .returned (.agg #[.slice aP n cP, .slice aL m cL, .int .i64 p.rate, .int .i64 p.room, .int .i64 p.m0, .int .i64 p.m1, .int .i64 p.m2]) ∧ PRow w' aP n cP p.P ∧ LRow w' aL m cL p.L ∧ Below w.heap.size w w'
theorem of_any (x : Nn) (s : Option Addr) (c : Nat) (w : World) (hx : NnAt w x s c) : Calls Tryz.prog 6 #[nnV x s c] w (OfSt x w) :=
  (nOf_any x s c w hx).mono fun _ _ ⟨aP, cP, aL, cL, he, hP, hL, hb⟩ => ⟨planN x, aP, x.n, cP, aL, _, cL, PF.of x, he, hP, hL, hb⟩
/-- Hold's answer with letters: H the height of the place. -/
def HoL (p : Pn) (u : Int) (i : Nat) (w : World) (e : Ending) (w' : World) : Prop := ∃ l X E, DisOk p u l ∧ e = .returned (.tuple #[.int .i64 X, .int .i64 E]) ∧ (htI p.P.length l i = -1 → X = 0 ∧ E = 11) ∧ (htI p.P.length l i ≠ -1 → X = (htI p.P.length l i + 1) * baseI p ∧ E = 0) ∧ Below w.heap.size w w'
theorem hold_let {p : Pn} {u : Int} {i : Nat} {w : World} {e : Ending} {w' : World} (h : HoS p u i w e w') : HoL p u i w e w' := by
  obtain ⟨l, hok, he, hb⟩ := h
  unfold holdE at he
  by_cases hx : htI p.P.length l i = -1
  · rw [if_pos hx] at he
    exact ⟨l, _, _, hok, he, fun _ => ⟨rfl, rfl⟩, fun hn => absurd hx hn, hb⟩
  · rw [if_neg hx] at he
    exact ⟨l, _, _, hok, he, fun hn => absurd hn hx, fun _ => ⟨rfl, rfl⟩, hb⟩
theorem filter_at {L : List Int} {P : Int → Bool} {j : Nat} (hj : j < L.length) (hP : P (L.getD j 0) = true) : (L.take j).countP P < (L.filter P).length ∧ (L.filter P).getD ((L.take j).countP P) 0 = L.getD j 0 := by
  have e : L.getD j 0 = L[j] := by simp [List.getD_eq_getElem?_getD, hj]
  rw [e] at hP ⊢
  have hs : L = L.take j ++ L[j] :: L.drop (j + 1) := by simp
  have hf : L.filter P = (L.take j).filter P ++ L[j] :: (L.drop (j + 1)).filter P := by
    conv => lhs; rw [hs]
    rw [List.filter_append, List.filter_cons_of_pos hP]
  rw [hf, List.countP_eq_length_filter]
  exact ⟨by simp, by simp [List.getD_eq_getElem?_getD]⟩
theorem countP_take {L : List Int} {P : Int → Bool} {j : Nat} (hj : j < L.length) : (L.take (j + 1)).countP P = (L.take j).countP P + (if P (L.getD j 0) then 1 else 0) := by
  have e : L.getD j 0 = L[j] := by simp [List.getD_eq_getElem?_getD, hj]
  rw [e, List.take_succ_eq_append_getElem hj, List.countP_append]
  simp [List.countP_cons]
/-- The codes of the places. -/
def codesL (p : Pn) : List Int := p.P.map (·.1)
theorem codesL_length (p : Pn) : (codesL p).length = p.P.length := by simp [codesL]
theorem codesL_getD (p : Pn) (i : Nat) : (codesL p).getD i 0 = pc p.P i := by
  unfold codesL pc
  rw [List.getD_eq_getElem?_getD, List.getD_eq_getElem?_getD, List.getElem?_map]
  cases p.P[i]? <;> rfl
def nearB (p : Pn) (c x : Int) : Bool := decide (0 < nearN p.L c x)
theorem near_self {p : Pn} (h : ValidPl p) (c : Int) : nearB p c c = false := by
  unfold nearB nearN
  rw [decide_eq_false_iff_not]
  have : p.L.countP (fun l => joins l c c) = 0 := by
    rw [List.countP_eq_zero]
    intro l hl
    have := (line_of_valid h hl).1
    unfold joins
    simp only [Bool.or_eq_true, Bool.and_eq_true, decide_eq_true_eq]
    omega
  omega
theorem near_links {p : Pn} (h : ValidPl p) {a b : Int} (_hab : a ≠ b) : nearN p.L a b = (linksL p (min a b) (max a b)).length := by
  unfold nearN linksL
  rw [List.length_map, ← List.countP_eq_length_filter]
  refine List.countP_congr fun l hl => ?_
  have := (line_of_valid h hl).1
  unfold joins pairB
  simp only [Bool.or_eq_true, Bool.and_eq_true, decide_eq_true_eq]
  omega
theorem links_at {p : Pn} (hf : Fine p.L) (x y : Int) {m : Nat} (hm : m < (linksL p x y).length) : (linksL p x y).getD m (0, 0, 0) = (x, y, (m : Int)) := by
  have hc := hf.codes x y
  have hl : (p.L.filter (pairB x y)).length = (linksL p x y).length := by unfold linksL; rw [List.length_map]
  have hm' : m < (p.L.filter (pairB x y)).length := by omega
  have h1 : (linksL p x y).getD m (0, 0, 0) = (((p.L.filter (pairB x y))[m]).A, ((p.L.filter (pairB x y))[m]).B, ((p.L.filter (pairB x y))[m]).C) := by
    unfold linksL
    rw [List.getD_eq_getElem?_getD, List.getElem?_map, List.getElem?_eq_getElem hm']
    rfl
  have h2 : pairB x y ((p.L.filter (pairB x y))[m]) = true := (List.mem_filter.1 (List.getElem_mem hm')).2
  have h3 : ((p.L.filter (pairB x y))[m]).C = (m : Int) := by
    have h4 : ((p.L.filter (pairB x y)).map (·.C))[m]? = ((List.range (p.L.countP (pairB x y))).map (fun (k : Nat) => (k : Int)))[m]? := by rw [hc]
    rw [List.getElem?_map, List.getElem?_eq_getElem hm', List.getElem?_map, List.getElem?_range (by rw [List.countP_eq_length_filter]; exact hm')] at h4
    simpa using h4
  rw [h1, h3]
  simp only [pairB, Bool.and_eq_true, decide_eq_true_eq] at h2
  rw [h2.1, h2.2]
theorem rangeF_at {P : Nat → Bool} {k : Nat} (hP : P k = true) : ∀ n, k < n → ((List.range n).filter P)[(List.range k).countP P]? = some k
  | 0, h => absurd h (Nat.not_lt_zero _)
  | n + 1, h => by
    rw [List.range_succ, List.filter_append]
    by_cases e : k = n
    · subst e
      have hl : (List.range k).countP P = ((List.range k).filter P).length := List.countP_eq_length_filter
      rw [List.getElem?_append_right (by omega), hl, Nat.sub_self, List.filter_cons_of_pos hP]
      rfl
    · have ih := rangeF_at hP n (by omega)
      have hl := (List.getElem?_eq_some_iff.1 ih).1
      rw [List.getElem?_append_left hl]
      exact ih
theorem chL_succ (P : List (Int × Bool)) (L : List Ln) (t : Int) (D : Nat → Int) (i r : Nat) : chL P L t D i (r + 1) = chL P L t D i r ++ ((List.range P.length).filter (isCh P L t D i r)).map fun k => (r, k) := by
  simp [chL, List.range_succ, List.flatMap_append]
theorem chL_pre (P : List (Int × Bool)) (L : List Ln) (t : Int) (D : Nat → Int) (i r : Nat) : ∀ d, ∃ Z, chL P L t D i (r + d) = chL P L t D i r ++ Z
  | 0 => ⟨[], by simp⟩
  | d + 1 => by
    obtain ⟨Z, h⟩ := chL_pre P L t D i r d
    exact ⟨Z ++ _, by rw [← Nat.add_assoc, chL_succ, h, List.append_assoc]⟩
/-- How many choices the law has counted at rank r, place k. -/
def cntRK (P : List (Int × Bool)) (L : List Ln) (t : Int) (D : Nat → Int) (i r k : Nat) : Nat := (chL P L t D i r).length + (List.range k).countP (isCh P L t D i r)
theorem cntRK_zero (P : List (Int × Bool)) (L : List Ln) (t : Int) (D : Nat → Int) (i r : Nat) : cntRK P L t D i r 0 = (chL P L t D i r).length := by simp [cntRK]
theorem cntRK_succ (P : List (Int × Bool)) (L : List Ln) (t : Int) (D : Nat → Int) (i r k : Nat) : cntRK P L t D i r (k + 1) = cntRK P L t D i r k + (if isCh P L t D i r k then 1 else 0) := by
  unfold cntRK
  rw [List.range_succ, List.countP_append]
  simp [List.countP_cons, Nat.add_assoc]
theorem cntRK_full (P : List (Int × Bool)) (L : List Ln) (t : Int) (D : Nat → Int) (i r : Nat) : cntRK P L t D i r P.length = (chL P L t D i (r + 1)).length := by
  rw [chL_succ, List.length_append, List.length_map, ← List.countP_eq_length_filter]
  rfl
theorem cntRK_at {P : List (Int × Bool)} {L : List Ln} {t : Int} {D : Nat → Int} {i r k m : Nat} (hr : r < m) (hk : k < P.length) (hc : isCh P L t D i r k = true) : (chL P L t D i m)[cntRK P L t D i r k]? = some (r, k) := by
  obtain ⟨Z, hZ⟩ := chL_pre P L t D i (r + 1) (m - (r + 1))
  rw [show r + 1 + (m - (r + 1)) = m by omega, chL_succ] at hZ
  rw [hZ, List.append_assoc]
  have h1 := rangeF_at hc P.length hk
  unfold cntRK
  rw [List.getElem?_append_right (by omega), Nat.add_sub_cancel_left, List.getElem?_append_left (by rw [List.length_map]; exact (List.getElem?_eq_some_iff.1 h1).1), List.getElem?_map, h1]
  rfl
theorem chC_length (p : Pn) (t : Int) (l : List Int) (own : Nat) : (chC p t l own).length = (chL p.P p.L t (fun i => d99 (l.getD i 0)) own 99).length := by unfold chC; rw [List.length_map]
theorem chC_at {p : Pn} {t : Int} {l : List Int} {own r k : Nat} (hr : r < 99) (hk : k < p.P.length) (hc : isCh p.P p.L t (fun i => d99 (l.getD i 0)) own r k = true) : cntRK p.P p.L t (fun i => d99 (l.getD i 0)) own r k < (chC p t l own).length ∧ (chC p t l own).getD (cntRK p.P p.L t (fun i => d99 (l.getD i 0)) own r k) (0, 0) = (pc p.P k, (r : Int)) := by
  have h := cntRK_at (m := 99) hr hk hc
  refine ⟨by rw [chC_length]; exact (List.getElem?_eq_some_iff.1 h).1, ?_⟩
  unfold chC
  rw [List.getD_eq_getElem?_getD, List.getElem?_map, h]
  rfl
theorem cntRK_le {p : Pn} {t : Int} {l : List Int} {own r k : Nat} (hk : k ≤ p.P.length) : cntRK p.P p.L t (fun i => d99 (l.getD i 0)) own r k ≤ (chL p.P p.L t (fun i => d99 (l.getD i 0)) own (r + 1)).length := by
  rw [← cntRK_full]
  unfold cntRK
  refine Nat.add_le_add_left ?_ _
  exact (List.Sublist.countP_le (List.range_sublist.2 hk))
theorem chL_len {P : List (Int × Bool)} {L : List Ln} {t : Int} {D : Nat → Int} {i : Nat} : ∀ m, (chL P L t D i m).length ≤ m * P.length
  | 0 => by simp [chL]
  | m + 1 => by
    rw [chL_succ, List.length_append, List.length_map, Nat.succ_mul]
    have h1 := chL_len (P := P) (L := L) (t := t) (D := D) (i := i) m
    have h2 := List.length_filter_le (isCh P L t D i m) (List.range P.length)
    rw [List.length_range] at h2
    omega
end Go.Proofs.YthlckipcgogogaaGreatDoor
