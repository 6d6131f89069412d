/- Joined: PlWay PlN. -/
import Derived.Test.YthlckipcgogogaaGreatDoorPlOf
/- Plans: the error of a plan; distances stay below the number of places; choices in order. -/
namespace Go.Proofs.YthlckipcgogogaaGreatDoor
set_option linter.unusedVariables false

def lt3B (x y : Ln) : Bool := decide (x.A < y.A) || decide (x.A = y.A) && (decide (x.B < y.B) || decide (x.B = y.B) && decide (x.C < y.C))
theorem lt3B_iff {x y : Ln} : lt3B x y = true ↔ lt3 x y := by simp [lt3B, lt3]
def okPl (P : List (Int × Bool)) (i : Nat) : Bool := decide (pc P i ≤ 16383) && (decide (i = 0) || decide (pc P (i - 1) < pc P i))
def okLn (L : List Ln) (i : Nat) : Bool := decide ((lnAt L i).A < (lnAt L i).B) && decide ((lnAt L i).C ≤ 15) && decide (1 ≤ (lnAt L i).D) && decide ((lnAt L i).D ≤ 64) && (decide (i = 0) || lt3B (lnAt L (i - 1)) (lnAt L i))
def okEnd (P : List (Int × Bool)) (L : List Ln) (i : Nat) : Bool := (fnd P (lnAt L i).A).isSome && (fnd P (lnAt L i).B).isSome
def okNum (p : Pn) : Bool := decide (1 ≤ p.rate) && decide (p.rate ≤ 16) && decide (1 ≤ p.room) && decide (p.room ≤ 64) && decide (1 ≤ p.m0) && decide (p.m0 < p.m1) && decide (p.m1 < p.m2) && decide (p.m2 ≤ p.room)
/-- The error of a plan. -/
def chkPl (p : Pn) : Int :=
  if 64 < p.P.length ∨ 1024 < p.L.length then 3 else if p.P.length = 0 then 1
  else if (List.range p.P.length).all (okPl p.P) then
    if (List.range p.L.length).all (okLn p.L) then
      if (List.range p.L.length).all (okEnd p.P p.L) then (if okNum p then 0 else 1) else 7
    else 1
  else 1
theorem all_range {n : Nat} {f : Nat → Bool} : (List.range n).all f = true ↔ ∀ i, i < n → f i = true := by simp [List.all_eq_true]
theorem all_range_no {n i : Nat} {f : Nat → Bool} (hi : i < n) (h : f i = false) : (List.range n).all f = false := by
  cases e : (List.range n).all f
  · rfl
  · rw [all_range] at e; rw [e i hi] at h; cases h
/-- A plan is valid exactly if all of this holds. -/
structure ValidPl (p : Pn) : Prop where
  np : p.P.length ≤ 64
  nl : p.L.length ≤ 1024
  n0 : 0 < p.P.length
  pl : ∀ i, i < p.P.length → okPl p.P i = true
  ln : ∀ i, i < p.L.length → okLn p.L i = true
  en : ∀ i, i < p.L.length → okEnd p.P p.L i = true
  nu : okNum p = true
theorem chkPl_zero {p : Pn} : chkPl p = 0 ↔ ValidPl p := by
  constructor
  · intro h
    unfold chkPl at h
    split at h
    · cases h
    · split at h
      · cases h
      · split at h
        · rename_i a
          split at h
          · rename_i b
            split at h
            · rename_i c
              split at h
              · rename_i d
                exact ⟨by omega, by omega, by omega, all_range.1 a, all_range.1 b, all_range.1 c, d⟩
              · cases h
            · cases h
          · cases h
        · cases h
  · rintro ⟨h1, h2, h3, h4, h5, h6, h7⟩
    unfold chkPl
    rw [if_neg (by omega), if_neg (by omega), if_pos (all_range.2 h4), if_pos (all_range.2 h5), if_pos (all_range.2 h6), if_pos h7]
theorem ValidPl.asc {p : Pn} (h : ValidPl p) : Asc p.P := by
  intro i j hij hj
  obtain ⟨d, rfl⟩ : ∃ d, j = i + 1 + d := ⟨j - (i + 1), by omega⟩
  clear hij
  induction d with
  | zero =>
    have := h.pl (i + 1) hj
    simp only [okPl, Bool.and_eq_true, Bool.or_eq_true, decide_eq_true_eq] at this
    rcases this.2 with h1 | h1
    · omega
    · simpa using h1
  | succ d ih =>
    have h0 := ih (by omega)
    have := h.pl (i + 1 + (d + 1)) hj
    simp only [okPl, Bool.and_eq_true, Bool.or_eq_true, decide_eq_true_eq] at this
    rcases this.2 with h1 | h1
    · omega
    · have e : i + 1 + (d + 1) - 1 = i + 1 + d := by omega
      rw [e] at h1; omega
/-- Every distance below 99 is below the number of places. -/
theorem Dist.all {P : List (Int × Bool)} {L : List Ln} {t : Int} {D : Nat → Int} (h : Dist P L t D) : ∀ n : Nat, ∀ i, i < P.length → D i = n → n < 99 → ∀ r : Nat, r ≤ n → ∃ k, k < P.length ∧ D k = r := by
  intro n
  induction n with
  | zero => intro i hi hd _ r hr; exact ⟨i, hi, by rw [hd]; omega⟩
  | succ n ih =>
    intro i hi hd hn r hr
    by_cases e : r = n + 1
    · exact ⟨i, hi, by rw [hd, e]⟩
    · have hne : pc P i ≠ t := fun e => by have := h.zero i hi e; omega
      obtain ⟨k, hk, _, hD⟩ := h.att i hi (by omega) hne
      exact ih k hk (by omega) (by omega) r (by omega)
theorem count_values {n : Nat} {D : Nat → Int} : ∀ m : Nat, (∀ r : Nat, r < m → ∃ k, k < n ∧ D k = r) → m ≤ (List.range n).countP (fun k => decide (D k < m)) := by
  intro m
  induction m with
  | zero => intro _; exact Nat.zero_le _
  | succ m ih =>
    intro h
    have h1 := ih fun r hr => h r (by omega)
    obtain ⟨k, hk, e⟩ := h m (by omega)
    have h2 : (List.range n).countP (fun k => decide (D k < m)) < (List.range n).countP (fun k => decide (D k < (m + 1 : Nat))) := by
      refine countP_lt (fun x _ hx => ?_) ⟨k, List.mem_range.2 hk, ?_, ?_⟩
      · simp only [decide_eq_true_eq] at *; omega
      · simp only [decide_eq_true_eq]; omega
      · simp only [decide_eq_false_iff_not]; omega
    omega
theorem Dist.lt_n {P : List (Int × Bool)} {L : List Ln} {t : Int} {D : Nat → Int} (h : Dist P L t D) {i : Nat} (hi : i < P.length) (hd : D i < 99) : D i < P.length := by
  have h0 := h.nonneg hi
  have h1 := count_values (n := P.length) (D := D) ((D i).toNat + 1) fun r hr => h.all (D i).toNat i hi (by omega) (by omega) r (by omega)
  have h2 := List.countP_le_length (p := fun k => decide (D k < ((D i).toNat + 1 : Nat))) (l := List.range P.length)
  simp only [List.length_range] at h2
  omega
/-- A step between neighbors. -/
theorem Dist.step {P : List (Int × Bool)} {L : List Ln} {t : Int} {D : Nat → Int} (h : Dist P L t D) (hn : P.length ≤ 98) {i k : Nat} (hi : i < P.length) (hk : k < P.length) (hs : stepB P L t i k = true) (hd : D k < 99) : D i < 99 ∧ D i ≤ D k + 1 := by
  have h1 := h.low i k hi hk hs
  have h2 := h.lt_n hk hd
  exact ⟨by omega, h1⟩
/-- Place k is a choice of rank r at place i. -/
def isCh (P : List (Int × Bool)) (L : List Ln) (t : Int) (D : Nat → Int) (i r k : Nat) : Bool := decide (D k = r) && lowerB D k i && stepB P L t i k
/-- The choices in order, of the ranks below m. -/
def chL (P : List (Int × Bool)) (L : List Ln) (t : Int) (D : Nat → Int) (i m : Nat) : List (Nat × Nat) := (List.range m).flatMap fun r => ((List.range P.length).filter (isCh P L t D i r)).map fun k => (r, k)
theorem mem_chL {P : List (Int × Bool)} {L : List Ln} {t : Int} {D : Nat → Int} {i m : Nat} {x : Nat × Nat} : x ∈ chL P L t D i m ↔ x.1 < m ∧ x.2 < P.length ∧ isCh P L t D i x.1 x.2 = true := by
  obtain ⟨r, k⟩ := x
  simp only [chL, List.mem_flatMap, List.mem_map, List.mem_filter, List.mem_range]
  constructor
  · rintro ⟨r', hr, k', ⟨hk, hc⟩, e⟩; cases e; exact ⟨hr, hk, hc⟩
  · rintro ⟨hr, hk, hc⟩; exact ⟨r, hr, k, ⟨hk, hc⟩, rfl⟩
/-- Without a way there is no choice. -/
theorem chL_none {P : List (Int × Bool)} {L : List Ln} {t : Int} {D : Nat → Int} (h : Dist P L t D) (hn : P.length ≤ 98) {i : Nat} (hi : i < P.length) (hd : D i = 99) (m : Nat) (hm : m ≤ 99) : chL P L t D i m = [] := by
  rw [List.eq_nil_iff_forall_not_mem]
  intro x hx
  obtain ⟨h1, h2, h3⟩ := mem_chL.1 hx
  simp only [isCh, Bool.and_eq_true, decide_eq_true_eq] at h3
  have := h.step hn hi h2 h3.2 (by omega)
  omega
/-- With a way there is a choice, whose rank is one less than the distance; no choice has a lower rank. -/
theorem chL_some {P : List (Int × Bool)} {L : List Ln} {t : Int} {D : Nat → Int} (h : Dist P L t D) (hn : P.length ≤ 98) {i : Nat} (hi : i < P.length) (hd : D i < 99) (ht : pc P i ≠ t) (m : Nat) (hm : P.length ≤ m) :
    ∃ x l, chL P L t D i m = x :: l ∧ (x.1 : Int) = D i - 1 := by
  obtain ⟨k, hk, hs, hD⟩ := h.att i hi hd ht
  have h0 := h.nonneg hk
  have hlt := h.lt_n hi hd
  obtain ⟨r, hr⟩ : ∃ r : Nat, D k = r := ⟨(D k).toNat, by omega⟩
  have hmem : (r, k) ∈ chL P L t D i m := mem_chL.2 ⟨by show r < m; omega, hk, by simp only [isCh, lowerB, Bool.and_eq_true, Bool.or_eq_true, decide_eq_true_eq]; exact ⟨⟨hr, .inl (by omega)⟩, hs⟩⟩
  have hlow : (List.range r).flatMap (fun r => ((List.range P.length).filter (isCh P L t D i r)).map fun k => (r, k)) = [] := by
    have e : (List.range r).flatMap (fun r => ((List.range P.length).filter (isCh P L t D i r)).map fun k => (r, k)) = chL P L t D i r := rfl
    rw [e, List.eq_nil_iff_forall_not_mem]
    intro x hx
    obtain ⟨h1, h2, h3⟩ := mem_chL.1 hx
    simp only [isCh, Bool.and_eq_true, decide_eq_true_eq] at h3
    have := (h.step hn hi h2 h3.2 (by omega)).2
    omega
  have hrm : r < m := by omega
  have hsp : chL P L t D i m = ((List.range P.length).filter (isCh P L t D i r)).map (fun k => (r, k)) ++ (List.range' (r + 1) (m - (r + 1))).flatMap (fun r => ((List.range P.length).filter (isCh P L t D i r)).map fun k => (r, k)) := by
    have e : List.range m = List.range r ++ (r :: List.range' (r + 1) (m - (r + 1))) := by
      rw [List.range_eq_range', List.range_eq_range', ← List.range'_succ, show m - (r + 1) + 1 = m - r by omega]
      have := List.range'_append (s := 0) (m := r) (n := m - r) (step := 1)
      simp at this
      rw [this, show r + (m - r) = m by omega]
    unfold chL
    rw [e, List.flatMap_append, hlow, List.nil_append, List.flatMap_cons]
  have hne : ((List.range P.length).filter (isCh P L t D i r)) ≠ [] := by
    intro e
    have : k ∈ (List.range P.length).filter (isCh P L t D i r) := List.mem_filter.2 ⟨List.mem_range.2 hk, (mem_chL.1 hmem).2.2⟩
    rw [e] at this; cases this
  obtain ⟨y, l, hy⟩ := List.exists_cons_of_ne_nil hne
  refine ⟨(r, y), _, by rw [hsp, hy]; rfl, ?_⟩
  show (r : Int) = _
  omega
end Go.Proofs.YthlckipcgogogaaGreatDoor
/- The statements' plans: what N.Of returns, as plain data, is valid. -/
namespace Go.Proofs.YthlckipcgogogaaGreatDoor
set_option linter.unusedVariables false

/-- The statements' data of a plan. -/
structure Nn where
  many : Nat
  codes : List Nat
  ends : Nat
  tree : List Nat
  extra : List (Nat × Nat × Nat)
  rate : Nat
  room : Nat
  k0 : Nat
  k1 : Nat
def Nn.n (x : Nn) : Nat := 2 + x.many % 5
def placeN (x : Nn) (i : Nat) : Int × Bool := (10 * (i : Int) + ((x.codes.getD i 0 % 10 : Nat) : Int), decide (x.ends / 2 ^ i % 2 = 0))
def placesN (x : Nn) (k : Nat) : List (Int × Bool) := (List.range k).map (placeN x)
theorem placesN_succ (x : Nn) (k : Nat) : placesN x (k + 1) = placesN x k ++ [placeN x k] := by simp [placesN, List.range_succ]
theorem placesN_length (x : Nn) (k : Nat) : (placesN x k).length = k := by simp [placesN]
theorem placesN_pc (x : Nn) {k i : Nat} (h : i < k) : pc (placesN x k) i = 10 * (i : Int) + ((x.codes.getD i 0 % 10 : Nat) : Int) := by
  simp [pc, placesN, placeN, List.getD_eq_getElem?_getD, h]
theorem placesN_pt (x : Nn) {k i : Nat} (h : i < k) : pt (placesN x k) i = decide (x.ends / 2 ^ i % 2 = 0) := by
  simp [pt, placesN, placeN, List.getD_eq_getElem?_getD, h]
theorem placesN_lt (x : Nn) {k i j : Nat} (h : i < j) (hj : j < k) : pc (placesN x k) i < pc (placesN x k) j := by
  rw [placesN_pc x (by omega), placesN_pc x hj]; omega
theorem placesN_range (x : Nn) {k i : Nat} (h : i < k) (hk : k ≤ 6) : 0 ≤ pc (placesN x k) i ∧ pc (placesN x k) i ≤ 59 := by
  rw [placesN_pc x h]; omega
/-- A line between the places a and b is put in order. -/
def putN (P : List (Int × Bool)) (L : List Ln) (a b d : Nat) : List Ln := addL L (pc P (min a b)) (pc P (max a b)) (1 + ((d % 3 : Nat) : Int))
/-- The lines after the places before k. -/
def treeN (x : Nn) : Nat → List Ln
  | 0 => []
  | k + 1 => if k = 0 then [] else putN (placesN x x.n) (treeN x k) k (x.tree.getD k 0 % k) (x.tree.getD k 0 / 16)
/-- And after j further ones. -/
def extraN (x : Nn) : Nat → List Ln
  | 0 => treeN x x.n
  | j + 1 =>
    if (x.extra.getD j (0, 0, 0)).1 % x.n = (x.extra.getD j (0, 0, 0)).2.1 % x.n then extraN x j
    else putN (placesN x x.n) (extraN x j) ((x.extra.getD j (0, 0, 0)).1 % x.n) ((x.extra.getD j (0, 0, 0)).2.1 % x.n) (x.extra.getD j (0, 0, 0)).2.2
def linesN (x : Nn) : List Ln := extraN x (min x.extra.length 6)
def Nn.rm (x : Nn) : Nat := 3 + x.room % 6
def Nn.mk0 (x : Nn) : Nat := 1 + x.k0 % (x.rm - 2)
def Nn.mk1 (x : Nn) : Nat := x.mk0 + 1 + x.k1 % (x.rm - 1 - x.mk0)
def planN (x : Nn) : Pn := ⟨placesN x x.n, linesN x, 1 + ((x.rate % 3 : Nat) : Int), x.rm, x.mk0, x.mk1, x.rm⟩
/-- What holds of the lines of such a plan. -/
structure LnsOk (P : List (Int × Bool)) (L : List Ln) : Prop where
  fine : Fine L
  ends : ∀ l ∈ L, ∃ a b, a < b ∧ b < P.length ∧ l.A = pc P a ∧ l.B = pc P b
  delay : ∀ l ∈ L, 1 ≤ l.D ∧ l.D ≤ 3
  code : ∀ l ∈ L, 0 ≤ l.C
theorem LnsOk.nil (P : List (Int × Bool)) : LnsOk P [] := ⟨Fine.nil, by simp, by simp, by simp⟩
theorem LnsOk.put {P : List (Int × Bool)} {L : List Ln} (h : LnsOk P L) {a b : Nat} (d : Nat) (ha : a < P.length) (hb : b < P.length) (hne : a ≠ b) : LnsOk P (putN P L a b d) := by
  refine ⟨h.fine.add _ _ _, fun l hl => ?_, fun l hl => ?_, fun l hl => ?_⟩ <;> rcases mem_addL hl with hl | rfl
  · exact h.ends l hl
  · exact ⟨min a b, max a b, by omega, by omega, rfl, rfl⟩
  · exact h.delay l hl
  · constructor <;> simp only <;> omega
  · exact h.code l hl
  · simp only; omega
theorem putN_length (P : List (Int × Bool)) (L : List Ln) (a b d : Nat) : (putN P L a b d).length = L.length + 1 := addL_length _ _ _ _
theorem Nn.n_range (x : Nn) : 2 ≤ x.n ∧ x.n ≤ 6 := by unfold Nn.n; omega
theorem treeN_ok (x : Nn) : ∀ k, k ≤ x.n → LnsOk (placesN x x.n) (treeN x k) ∧ (treeN x k).length = k - 1
  | 0, _ => ⟨LnsOk.nil _, rfl⟩
  | k + 1, hk => by
    unfold treeN
    split
    · rename_i h; subst h; exact ⟨LnsOk.nil _, rfl⟩
    · rename_i h
      obtain ⟨h1, h2⟩ := treeN_ok x k (by omega)
      have hm : x.tree.getD k 0 % k < k := Nat.mod_lt _ (by omega)
      exact ⟨h1.put _ (by rw [placesN_length]; omega) (by rw [placesN_length]; omega) (by omega), by rw [putN_length, h2]; omega⟩
theorem extraN_ok (x : Nn) : ∀ j, LnsOk (placesN x x.n) (extraN x j) ∧ (extraN x j).length ≤ 5 + j
  | 0 => by
    obtain ⟨h1, h2⟩ := treeN_ok x x.n (Nat.le_refl _)
    have := x.n_range
    exact ⟨h1, by show (treeN x x.n).length ≤ _; omega⟩
  | j + 1 => by
    obtain ⟨h1, h2⟩ := extraN_ok x j
    unfold extraN
    split
    · exact ⟨h1, by omega⟩
    · rename_i h
      have hn := x.n_range
      have m1 : (x.extra.getD j (0, 0, 0)).1 % x.n < x.n := Nat.mod_lt _ (by omega)
      have m2 : (x.extra.getD j (0, 0, 0)).2.1 % x.n < x.n := Nat.mod_lt _ (by omega)
      exact ⟨h1.put _ (by rw [placesN_length]; exact m1) (by rw [placesN_length]; exact m2) h, by rw [putN_length]; omega⟩
theorem linesN_ok (x : Nn) : LnsOk (placesN x x.n) (linesN x) ∧ (linesN x).length ≤ 11 := by
  obtain ⟨h1, h2⟩ := extraN_ok x (min x.extra.length 6)
  exact ⟨h1, by unfold linesN; omega⟩
theorem Nn.marks (x : Nn) : 1 ≤ x.mk0 ∧ x.mk0 < x.mk1 ∧ x.mk1 < x.rm ∧ 3 ≤ x.rm ∧ x.rm ≤ 8 := by
  have h0 : 3 ≤ x.rm ∧ x.rm ≤ 8 := by unfold Nn.rm; omega
  have h1 : x.k0 % (x.rm - 2) < x.rm - 2 := Nat.mod_lt _ (by omega)
  have h2 : x.mk0 = 1 + x.k0 % (x.rm - 2) := rfl
  have h3 : x.k1 % (x.rm - 1 - x.mk0) < x.rm - 1 - x.mk0 := Nat.mod_lt _ (by omega)
  have h4 : x.mk1 = x.mk0 + 1 + x.k1 % (x.rm - 1 - x.mk0) := rfl
  omega
theorem planN_asc (x : Nn) : Asc (planN x).P := fun i j hij hj => placesN_lt x hij (by simpa [planN, placesN_length] using hj)
theorem planN_valid (x : Nn) : ValidPl (planN x) := by
  have hn := x.n_range
  have hlen : (planN x).P.length = x.n := placesN_length x x.n
  obtain ⟨hl, hll⟩ := linesN_ok x
  have hL : (planN x).L = linesN x := rfl
  have hP : (planN x).P = placesN x x.n := rfl
  refine ⟨by omega, by rw [hL]; omega, by omega, fun i hi => ?_, fun i hi => ?_, fun i hi => ?_, ?_⟩
  · rw [hlen] at hi
    simp only [okPl, Bool.and_eq_true, Bool.or_eq_true, decide_eq_true_eq]
    refine ⟨by have := placesN_range x hi hn.2; rw [hP]; omega, ?_⟩
    by_cases e : i = 0
    · exact .inl e
    · exact .inr (by rw [hP]; exact placesN_lt x (by omega) hi)
  · rw [hL] at hi
    have hm : lnAt (linesN x) i ∈ linesN x := by
      have : lnAt (linesN x) i = (linesN x)[i] := by simp [lnAt, List.getD_eq_getElem?_getD, hi]
      rw [this]; exact List.getElem_mem hi
    obtain ⟨a, b, hab, hb, eA, eB⟩ := hl.ends _ hm
    have hd := hl.delay _ hm
    have hc : (lnAt (linesN x) i).C ≤ 11 := by
      have h1 := hl.fine.code hm (A := (lnAt (linesN x) i).A) (B := (lnAt (linesN x) i).B) (by simp [pairB])
      have h2 := List.countP_le_length (p := pairB (lnAt (linesN x) i).A (lnAt (linesN x) i).B) (l := linesN x)
      omega
    simp only [okLn, Bool.and_eq_true, Bool.or_eq_true, decide_eq_true_eq, hL]
    refine ⟨⟨⟨⟨?_, by omega⟩, by omega⟩, by omega⟩, ?_⟩
    · rw [eA, eB]; exact placesN_lt x hab (by rwa [placesN_length] at hb)
    · by_cases e : i = 0
      · exact .inl e
      · exact .inr (lt3B_iff.2 (hl.fine.ord.at (by omega) hi))
  · rw [hL] at hi
    have hm : lnAt (linesN x) i ∈ linesN x := by
      have : lnAt (linesN x) i = (linesN x)[i] := by simp [lnAt, List.getD_eq_getElem?_getD, hi]
      rw [this]; exact List.getElem_mem hi
    obtain ⟨a, b, hab, hb, eA, eB⟩ := hl.ends _ hm
    have hasc : Asc (placesN x x.n) := planN_asc x
    simp only [okEnd, hL, hP, eA, eB, Bool.and_eq_true]
    exact ⟨by rw [hasc.fnd (k := a) (by omega)]; rfl, by rw [hasc.fnd (k := b) hb]; rfl⟩
  · have hm := x.marks
    have d1 : decide ((1 : Int) ≤ 1 + ((x.rate % 3 : Nat) : Int)) = true := decide_eq_true (by omega)
    have d2 : decide (1 + ((x.rate % 3 : Nat) : Int) ≤ 16) = true := decide_eq_true (by omega)
    have d3 : decide ((1 : Int) ≤ x.rm) = true := decide_eq_true (by omega)
    have d4 : decide ((x.rm : Int) ≤ 64) = true := decide_eq_true (by omega)
    have d5 : decide ((1 : Int) ≤ x.mk0) = true := decide_eq_true (by omega)
    have d6 : decide ((x.mk0 : Int) < x.mk1) = true := decide_eq_true (by omega)
    have d7 : decide ((x.mk1 : Int) < x.rm) = true := decide_eq_true (by omega)
    have d8 : decide ((x.rm : Int) ≤ x.rm) = true := decide_eq_true (by omega)
    unfold okNum
    rw [Bool.and_eq_true, Bool.and_eq_true, Bool.and_eq_true, Bool.and_eq_true, Bool.and_eq_true, Bool.and_eq_true, Bool.and_eq_true]
    exact ⟨⟨⟨⟨⟨⟨⟨d1, d2⟩, d3⟩, d4⟩, d5⟩, d6⟩, d7⟩, d8⟩
theorem planN_chk (x : Nn) : chkPl (planN x) = 0 := chkPl_zero.2 (planN_valid x)
end Go.Proofs.YthlckipcgogogaaGreatDoor
