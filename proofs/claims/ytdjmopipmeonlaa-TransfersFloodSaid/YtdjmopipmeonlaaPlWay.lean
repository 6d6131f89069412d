/- Joined: PlOf PlWay. -/
import Derived.Test.YtdjmopipmeonlaaPlMath
/- The statements' plans as plain data: lines that are put in order. -/
namespace Go.Proofs.Ytdjmopipmeonlaa
set_option linter.unusedVariables false

/-- A line does not come behind those from A to B. -/
def le2 (A B : Int) (l : Ln) : Bool := decide (l.A < A) || decide (l.A = A) && decide (l.B ≤ B)
def pairB (A B : Int) (l : Ln) : Bool := decide (l.A = A) && decide (l.B = B)
theorem le2_of_pair {A B : Int} {l : Ln} (h : pairB A B l = true) : le2 A B l = true := by
  simp only [pairB, le2, Bool.or_eq_true, Bool.and_eq_true, decide_eq_true_eq] at *; omega
/-- Lines in order: by the lower code, the higher one, and the link's. -/
def lt3 (x y : Ln) : Prop := x.A < y.A ∨ x.A = y.A ∧ (x.B < y.B ∨ x.B = y.B ∧ x.C < y.C)
/-- Where a line from A to B is put, when k lines have been looked at. -/
def atK (L : List Ln) (A B : Int) : Nat → Nat
  | 0 => 0
  | k + 1 => if le2 A B (lnAt L k) then k + 1 else atK L A B k
theorem atK_le (L : List Ln) (A B : Int) : ∀ k, atK L A B k ≤ k
  | 0 => Nat.le_refl _
  | k + 1 => by unfold atK; split; · exact Nat.le_refl _
                · exact Nat.le_succ_of_le (atK_le L A B k)
theorem atK_above (L : List Ln) (A B : Int) : ∀ k i, atK L A B k ≤ i → i < k → le2 A B (lnAt L i) = false
  | 0, _, _, h => absurd h (Nat.not_lt_zero _)
  | k + 1, i, h, hi => by
    unfold atK at h
    split at h
    · omega
    · rename_i hn
      rcases Nat.lt_succ_iff_lt_or_eq.1 hi with h1 | rfl
      · exact atK_above L A B k i h h1
      · simpa using hn
/-- The lines in order. -/
def Ord (L : List Ln) : Prop := L.Pairwise lt3
theorem Ord.at {L : List Ln} (h : Ord L) {i j : Nat} (hij : i < j) (hj : j < L.length) : lt3 (lnAt L i) (lnAt L j) := by
  have := List.pairwise_iff_getElem.1 h i j (by omega) hj hij
  simpa [lnAt, List.getD_eq_getElem?_getD, hj, show i < L.length by omega] using this
theorem atK_below {L : List Ln} (h : Ord L) (A B : Int) : ∀ k, k ≤ L.length → ∀ i, i < atK L A B k → le2 A B (lnAt L i) = true
  | 0, _, _, h => absurd h (Nat.not_lt_zero _)
  | k + 1, hk, i, hi => by
    unfold atK at hi
    split at hi
    · rename_i hl
      rcases Nat.lt_succ_iff_lt_or_eq.1 hi with h1 | rfl
      · have := h.at h1 (by omega)
        simp only [le2, lt3, Bool.or_eq_true, Bool.and_eq_true, decide_eq_true_eq] at *; omega
      · exact hl
    · exact atK_below h A B k (by omega) i hi
/-- The code of a further line from A to B, when k lines have been looked at. -/
def cntK (L : List Ln) (A B : Int) (k : Nat) : Nat := (L.take k).countP (pairB A B)
theorem cntK_zero (L : List Ln) (A B : Int) : cntK L A B 0 = 0 := by simp [cntK]
theorem cntK_succ (L : List Ln) (A B : Int) (k : Nat) (hk : k < L.length) : cntK L A B (k + 1) = cntK L A B k + (if pairB A B (lnAt L k) then 1 else 0) := by
  unfold cntK lnAt
  rw [List.take_succ_eq_append_getElem hk, List.countP_append]
  simp [List.getD_eq_getElem?_getD, hk, List.countP_cons]
theorem cntK_le (L : List Ln) (A B : Int) (k : Nat) : cntK L A B k ≤ k := by
  have := List.countP_le_length (p := pairB A B) (l := L.take k)
  simp at this; unfold cntK; omega
/-- A line is put in order. -/
def addL (L : List Ln) (A B d : Int) : List Ln := L.take (atK L A B L.length) ++ ⟨A, B, cntK L A B L.length, d⟩ :: L.drop (atK L A B L.length)
theorem addL_length (L : List Ln) (A B d : Int) : (addL L A B d).length = L.length + 1 := by
  have := atK_le L A B L.length
  simp [addL]; omega
theorem mem_addL {L : List Ln} {A B d : Int} {x : Ln} (h : x ∈ addL L A B d) : x ∈ L ∨ x = ⟨A, B, cntK L A B L.length, d⟩ := by
  unfold addL at h
  rcases List.mem_append.1 h with h | h
  · exact .inl (List.mem_of_mem_take h)
  · rcases List.mem_cons.1 h with h | h
    · exact .inr h
    · exact .inl (List.mem_of_mem_drop h)
/-- In order, and the links of each pair have the codes 0, 1, .. in order. -/
structure Fine (L : List Ln) : Prop where
  ord : Ord L
  codes : ∀ A B, (L.filter (pairB A B)).map (·.C) = (List.range (L.countP (pairB A B))).map (fun (k : Nat) => (k : Int))
theorem Fine.nil : Fine [] := ⟨List.Pairwise.nil, fun _ _ => by simp⟩
theorem lnAt_mem {L : List Ln} {x : Ln} (h : x ∈ L) : ∃ i, i < L.length ∧ x = lnAt L i := by
  obtain ⟨i, hi, rfl⟩ := List.getElem_of_mem h
  exact ⟨i, hi, by simp [lnAt, List.getD_eq_getElem?_getD, hi]⟩
theorem take_le2 {L : List Ln} (h : Ord L) (A B : Int) {x : Ln} (hx : x ∈ L.take (atK L A B L.length)) : le2 A B x = true := by
  obtain ⟨i, hi, rfl⟩ := List.getElem_of_mem hx
  simp only [List.length_take] at hi
  have := atK_below h A B L.length (Nat.le_refl _) i (by omega)
  simpa [lnAt, List.getD_eq_getElem?_getD, show i < L.length by omega] using this
theorem drop_le2 (L : List Ln) (A B : Int) {x : Ln} (hx : x ∈ L.drop (atK L A B L.length)) : le2 A B x = false := by
  obtain ⟨i, hi, rfl⟩ := List.getElem_of_mem hx
  simp only [List.length_drop] at hi
  have := atK_above L A B L.length (atK L A B L.length + i) (by omega) (by omega)
  simpa [lnAt, List.getD_eq_getElem?_getD, show atK L A B L.length + i < L.length by omega] using this
/-- A code of a pair is below their number. -/
theorem Fine.code {L : List Ln} (h : Fine L) {x : Ln} (hx : x ∈ L) {A B : Int} (hp : pairB A B x = true) : x.C < L.countP (pairB A B) := by
  have h1 : x.C ∈ (L.filter (pairB A B)).map (·.C) := List.mem_map.2 ⟨x, List.mem_filter.2 ⟨hx, hp⟩, rfl⟩
  rw [h.codes] at h1
  obtain ⟨k, hk, e⟩ := List.mem_map.1 h1
  have := List.mem_range.1 hk
  omega
theorem Fine.add {L : List Ln} (h : Fine L) (A B d : Int) : Fine (addL L A B d) := by
  have hcnt : cntK L A B L.length = L.countP (pairB A B) := by simp [cntK]
  have hsplit : L.take (atK L A B L.length) ++ L.drop (atK L A B L.length) = L := List.take_append_drop _ _
  refine ⟨?_, fun X Y => ?_⟩
  · unfold addL Ord
    have hp := h.ord
    unfold Ord at hp
    rw [← hsplit, List.pairwise_append] at hp
    obtain ⟨h1, h2, h3⟩ := hp
    refine List.pairwise_append.2 ⟨h1, List.pairwise_cons.2 ⟨fun y hy => ?_, h2⟩, fun x hx y hy => ?_⟩
    · have := drop_le2 L A B hy
      simp only [le2, lt3, Bool.or_eq_false_iff, Bool.and_eq_false_iff, decide_eq_false_iff_not] at *; omega
    · rcases List.mem_cons.1 hy with rfl | hy
      · have h4 := take_le2 h.ord A B hx
        by_cases hpr : pairB A B x = true
        · have := h.code (List.mem_of_mem_take hx) hpr
          rw [hcnt]
          simp only [pairB, lt3, Bool.and_eq_true, decide_eq_true_eq] at *; omega
        · simp only [pairB, le2, lt3, Bool.or_eq_true, Bool.and_eq_true, decide_eq_true_eq] at *; omega
      · exact h3 x hx y hy
  · have hc := h.codes X Y
    by_cases e : X = A ∧ Y = B
    · obtain ⟨rfl, rfl⟩ := e
      have hd : (L.drop (atK L X Y L.length)).filter (pairB X Y) = [] := by
        rw [List.filter_eq_nil_iff]
        intro x hx hp
        have := drop_le2 L X Y hx
        rw [le2_of_pair hp] at this; cases this
      have ht : (L.take (atK L X Y L.length)).filter (pairB X Y) = L.filter (pairB X Y) := by
        conv => rhs; rw [← hsplit, List.filter_append, hd, List.append_nil]
      have hn : pairB X Y ⟨X, Y, cntK L X Y L.length, d⟩ = true := by simp [pairB]
      have hf : (addL L X Y d).filter (pairB X Y) = L.filter (pairB X Y) ++ [⟨X, Y, cntK L X Y L.length, d⟩] := by
        unfold addL
        rw [List.filter_append, List.filter_cons_of_pos hn, hd, ht]
      have hk : (addL L X Y d).countP (pairB X Y) = L.countP (pairB X Y) + 1 := by
        rw [List.countP_eq_length_filter, hf, List.countP_eq_length_filter]; simp
      rw [hf, hk, List.map_append, hc, List.range_succ, List.map_append, hcnt]
      rfl
    · have hn : ¬ pairB X Y ⟨A, B, cntK L A B L.length, d⟩ = true := by
        simp only [pairB, Bool.and_eq_true, decide_eq_true_eq]; omega
      have hf : (addL L A B d).filter (pairB X Y) = L.filter (pairB X Y) := by
        conv => rhs; rw [← hsplit]
        unfold addL
        rw [List.filter_append, List.filter_cons_of_neg hn, List.filter_append]
      rw [List.countP_eq_length_filter, hf, hc, List.countP_eq_length_filter]
end Go.Proofs.Ytdjmopipmeonlaa
/- Plans: the error of a plan; distances stay below the number of places; choices in order. -/
namespace Go.Proofs.Ytdjmopipmeonlaa
set_option linter.unusedVariables false

def lt3B (x y : Ln) : Bool := decide (x.A < y.A) || decide (x.A = y.A) && (decide (x.B < y.B) || decide (x.B = y.B) && decide (x.C < y.C))
theorem lt3B_iff {x y : Ln} : lt3B x y = true ↔ lt3 x y := by simp [lt3B, lt3]
def okPl (P : List (Int × Bool)) (i : Nat) : Bool := decide (pc P i ≤ 16383) && (decide (i = 0) || decide (pc P (i - 1) < pc P i))
def okLn (L : List Ln) (i : Nat) : Bool := decide ((lnAt L i).A < (lnAt L i).B) && decide ((lnAt L i).C ≤ 15) && decide (1 ≤ (lnAt L i).D) && decide ((lnAt L i).D ≤ 64) && (decide (i = 0) || lt3B (lnAt L (i - 1)) (lnAt L i))
def okEnd (P : List (Int × Bool)) (L : List Ln) (i : Nat) : Bool := (fnd P (lnAt L i).A).isSome && (fnd P (lnAt L i).B).isSome
def okNum (p : Pn) : Bool := decide (1 ≤ p.rate) && decide (p.rate ≤ 16) && decide (1 ≤ p.room) && decide (p.room ≤ 64) && decide (1 ≤ p.m0) && decide (p.m0 < p.m1) && decide (p.m1 < p.m2) && decide (p.m2 ≤ p.room)
/-- The error of a plan. -/
def chkPl (p : Pn) : Int :=
  if 64 < p.P.length ∨ 1024 < p.L.length then 3 else if p.P.length = 0 then 1
  else if (List.range p.P.length).all (okPl p.P) then
    if (List.range p.L.length).all (okLn p.L) then
      if (List.range p.L.length).all (okEnd p.P p.L) then (if okNum p then 0 else 1) else 7
    else 1
  else 1
theorem all_range {n : Nat} {f : Nat → Bool} : (List.range n).all f = true ↔ ∀ i, i < n → f i = true := by simp [List.all_eq_true]
theorem all_range_no {n i : Nat} {f : Nat → Bool} (hi : i < n) (h : f i = false) : (List.range n).all f = false := by
  cases e : (List.range n).all f
  · rfl
  · rw [all_range] at e; rw [e i hi] at h; cases h
/-- A plan is valid exactly if all of this holds. -/
structure ValidPl (p : Pn) : Prop where
  np : p.P.length ≤ 64
  nl : p.L.length ≤ 1024
  n0 : 0 < p.P.length
  pl : ∀ i, i < p.P.length → okPl p.P i = true
  ln : ∀ i, i < p.L.length → okLn p.L i = true
  en : ∀ i, i < p.L.length → okEnd p.P p.L i = true
  nu : okNum p = true
theorem chkPl_zero {p : Pn} : chkPl p = 0 ↔ ValidPl p := by
  constructor
  · intro h
    unfold chkPl at h
    split at h
    · cases h
    · split at h
      · cases h
      · split at h
        · rename_i a
          split at h
          · rename_i b
            split at h
            · rename_i c
              split at h
              · rename_i d
                exact ⟨by omega, by omega, by omega, all_range.1 a, all_range.1 b, all_range.1 c, d⟩
              · cases h
            · cases h
          · cases h
        · cases h
  · rintro ⟨h1, h2, h3, h4, h5, h6, h7⟩
    unfold chkPl
    rw [if_neg (by omega), if_neg (by omega), if_pos (all_range.2 h4), if_pos (all_range.2 h5), if_pos (all_range.2 h6), if_pos h7]
theorem ValidPl.asc {p : Pn} (h : ValidPl p) : Asc p.P := by
  intro i j hij hj
  obtain ⟨d, rfl⟩ : ∃ d, j = i + 1 + d := ⟨j - (i + 1), by omega⟩
  clear hij
  induction d with
  | zero =>
    have := h.pl (i + 1) hj
    simp only [okPl, Bool.and_eq_true, Bool.or_eq_true, decide_eq_true_eq] at this
    rcases this.2 with h1 | h1
    · omega
    · simpa using h1
  | succ d ih =>
    have h0 := ih (by omega)
    have := h.pl (i + 1 + (d + 1)) hj
    simp only [okPl, Bool.and_eq_true, Bool.or_eq_true, decide_eq_true_eq] at this
    rcases this.2 with h1 | h1
    · omega
    · have e : i + 1 + (d + 1) - 1 = i + 1 + d := by omega
      rw [e] at h1; omega
/-- Every distance below 99 is below the number of places. -/
theorem Dist.all {P : List (Int × Bool)} {L : List Ln} {t : Int} {D : Nat → Int} (h : Dist P L t D) : ∀ n : Nat, ∀ i, i < P.length → D i = n → n < 99 → ∀ r : Nat, r ≤ n → ∃ k, k < P.length ∧ D k = r := by
  intro n
  induction n with
  | zero => intro i hi hd _ r hr; exact ⟨i, hi, by rw [hd]; omega⟩
  | succ n ih =>
    intro i hi hd hn r hr
    by_cases e : r = n + 1
    · exact ⟨i, hi, by rw [hd, e]⟩
    · have hne : pc P i ≠ t := fun e => by have := h.zero i hi e; omega
      obtain ⟨k, hk, _, hD⟩ := h.att i hi (by omega) hne
      exact ih k hk (by omega) (by omega) r (by omega)
theorem count_values {n : Nat} {D : Nat → Int} : ∀ m : Nat, (∀ r : Nat, r < m → ∃ k, k < n ∧ D k = r) → m ≤ (List.range n).countP (fun k => decide (D k < m)) := by
  intro m
  induction m with
  | zero => intro _; exact Nat.zero_le _
  | succ m ih =>
    intro h
    have h1 := ih fun r hr => h r (by omega)
    obtain ⟨k, hk, e⟩ := h m (by omega)
    have h2 : (List.range n).countP (fun k => decide (D k < m)) < (List.range n).countP (fun k => decide (D k < (m + 1 : Nat))) := by
      refine countP_lt (fun x _ hx => ?_) ⟨k, List.mem_range.2 hk, ?_, ?_⟩
      · simp only [decide_eq_true_eq] at *; omega
      · simp only [decide_eq_true_eq]; omega
      · simp only [decide_eq_false_iff_not]; omega
    omega
theorem Dist.lt_n {P : List (Int × Bool)} {L : List Ln} {t : Int} {D : Nat → Int} (h : Dist P L t D) {i : Nat} (hi : i < P.length) (hd : D i < 99) : D i < P.length := by
  have h0 := h.nonneg hi
  have h1 := count_values (n := P.length) (D := D) ((D i).toNat + 1) fun r hr => h.all (D i).toNat i hi (by omega) (by omega) r (by omega)
  have h2 := List.countP_le_length (p := fun k => decide (D k < ((D i).toNat + 1 : Nat))) (l := List.range P.length)
  simp only [List.length_range] at h2
  omega
/-- A step between neighbors. -/
theorem Dist.step {P : List (Int × Bool)} {L : List Ln} {t : Int} {D : Nat → Int} (h : Dist P L t D) (hn : P.length ≤ 98) {i k : Nat} (hi : i < P.length) (hk : k < P.length) (hs : stepB P L t i k = true) (hd : D k < 99) : D i < 99 ∧ D i ≤ D k + 1 := by
  have h1 := h.low i k hi hk hs
  have h2 := h.lt_n hk hd
  exact ⟨by omega, h1⟩
/-- Place k is a choice of rank r at place i. -/
def isCh (P : List (Int × Bool)) (L : List Ln) (t : Int) (D : Nat → Int) (i r k : Nat) : Bool := decide (D k = r) && lowerB D k i && stepB P L t i k
/-- The choices in order, of the ranks below m. -/
def chL (P : List (Int × Bool)) (L : List Ln) (t : Int) (D : Nat → Int) (i m : Nat) : List (Nat × Nat) := (List.range m).flatMap fun r => ((List.range P.length).filter (isCh P L t D i r)).map fun k => (r, k)
theorem mem_chL {P : List (Int × Bool)} {L : List Ln} {t : Int} {D : Nat → Int} {i m : Nat} {x : Nat × Nat} : x ∈ chL P L t D i m ↔ x.1 < m ∧ x.2 < P.length ∧ isCh P L t D i x.1 x.2 = true := by
  obtain ⟨r, k⟩ := x
  simp only [chL, List.mem_flatMap, List.mem_map, List.mem_filter, List.mem_range]
  constructor
  · rintro ⟨r', hr, k', ⟨hk, hc⟩, e⟩; cases e; exact ⟨hr, hk, hc⟩
  · rintro ⟨hr, hk, hc⟩; exact ⟨r, hr, k, ⟨hk, hc⟩, rfl⟩
/-- Without a way there is no choice. -/
theorem chL_none {P : List (Int × Bool)} {L : List Ln} {t : Int} {D : Nat → Int} (h : Dist P L t D) (hn : P.length ≤ 98) {i : Nat} (hi : i < P.length) (hd : D i = 99) (m : Nat) (hm : m ≤ 99) : chL P L t D i m = [] := by
  rw [List.eq_nil_iff_forall_not_mem]
  intro x hx
  obtain ⟨h1, h2, h3⟩ := mem_chL.1 hx
  simp only [isCh, Bool.and_eq_true, decide_eq_true_eq] at h3
  have := h.step hn hi h2 h3.2 (by omega)
  omega
/-- With a way there is a choice, whose rank is one less than the distance; no choice has a lower rank. -/
theorem chL_some {P : List (Int × Bool)} {L : List Ln} {t : Int} {D : Nat → Int} (h : Dist P L t D) (hn : P.length ≤ 98) {i : Nat} (hi : i < P.length) (hd : D i < 99) (ht : pc P i ≠ t) (m : Nat) (hm : P.length ≤ m) :
    ∃ x l, chL P L t D i m = x :: l ∧ (x.1 : Int) = D i - 1 := by
  obtain ⟨k, hk, hs, hD⟩ := h.att i hi hd ht
  have h0 := h.nonneg hk
  have hlt := h.lt_n hi hd
  obtain ⟨r, hr⟩ : ∃ r : Nat, D k = r := ⟨(D k).toNat, by omega⟩
  have hmem : (r, k) ∈ chL P L t D i m := mem_chL.2 ⟨by show r < m; omega, hk, by simp only [isCh, lowerB, Bool.and_eq_true, Bool.or_eq_true, decide_eq_true_eq]; exact ⟨⟨hr, .inl (by omega)⟩, hs⟩⟩
  have hlow : (List.range r).flatMap (fun r => ((List.range P.length).filter (isCh P L t D i r)).map fun k => (r, k)) = [] := by
    have e : (List.range r).flatMap (fun r => ((List.range P.length).filter (isCh P L t D i r)).map fun k => (r, k)) = chL P L t D i r := rfl
    rw [e, List.eq_nil_iff_forall_not_mem]
    intro x hx
    obtain ⟨h1, h2, h3⟩ := mem_chL.1 hx
    simp only [isCh, Bool.and_eq_true, decide_eq_true_eq] at h3
    have := (h.step hn hi h2 h3.2 (by omega)).2
    omega
  have hrm : r < m := by omega
  have hsp : chL P L t D i m = ((List.range P.length).filter (isCh P L t D i r)).map (fun k => (r, k)) ++ (List.range' (r + 1) (m - (r + 1))).flatMap (fun r => ((List.range P.length).filter (isCh P L t D i r)).map fun k => (r, k)) := by
    have e : List.range m = List.range r ++ (r :: List.range' (r + 1) (m - (r + 1))) := by
      rw [List.range_eq_range', List.range_eq_range', ← List.range'_succ, show m - (r + 1) + 1 = m - r by omega]
      have := List.range'_append (s := 0) (m := r) (n := m - r) (step := 1)
      simp at this
      rw [this, show r + (m - r) = m by omega]
    unfold chL
    rw [e, List.flatMap_append, hlow, List.nil_append, List.flatMap_cons]
  have hne : ((List.range P.length).filter (isCh P L t D i r)) ≠ [] := by
    intro e
    have : k ∈ (List.range P.length).filter (isCh P L t D i r) := List.mem_filter.2 ⟨List.mem_range.2 hk, (mem_chL.1 hmem).2.2⟩
    rw [e] at this; cases this
  obtain ⟨y, l, hy⟩ := List.exists_cons_of_ne_nil hne
  refine ⟨(r, y), _, by rw [hsp, hy]; rfl, ?_⟩
  show (r : Int) = _
  omega
end Go.Proofs.Ytdjmopipmeonlaa
