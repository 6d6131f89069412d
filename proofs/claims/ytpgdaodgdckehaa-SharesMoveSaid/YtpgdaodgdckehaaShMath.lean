/- Shares as plain data: the place of a number in a group, the choice and the link of a selection code. -/
import Derived.Test.YtpgdaodgdckehaaMath
namespace Go.Proofs.Ytpgdaodgdckehaa

/-- The element of a group that a number gets, or -1. -/
def placeM (g : List Nat) (us : Nat → Bool) (q : Nat) : Int :=
  if g.length = 0 then -1 else
  if us (g.getD (q % g.length) 0) then (g.getD (q % g.length) 0 : Nat) else
  if (g.filter us).length = 0 then -1 else ((g.filter us).getD (q / g.length % (g.filter us).length) 0 : Nat)
theorem placeM_nil (us : Nat → Bool) (q : Nat) : placeM [] us q = -1 := rfl
theorem placeM_home {g : List Nat} {us : Nat → Bool} {q : Nat} (h0 : g.length ≠ 0) (h : us (g.getD (q % g.length) 0) = true) : placeM g us q = (g.getD (q % g.length) 0 : Nat) := by
  unfold placeM; rw [if_neg h0, if_pos h]
theorem placeM_none {g : List Nat} {us : Nat → Bool} {q : Nat} (h : ¬ us (g.getD (q % g.length) 0) = true) (hf : (g.filter us).length = 0) : placeM g us q = -1 := by
  unfold placeM
  by_cases h0 : g.length = 0
  · rw [if_pos h0]
  · rw [if_neg h0, if_neg h, if_pos hf]
theorem placeM_other {g : List Nat} {us : Nat → Bool} {q : Nat} (h0 : g.length ≠ 0) (h : ¬ us (g.getD (q % g.length) 0) = true) (hf : (g.filter us).length ≠ 0) : placeM g us q = ((g.filter us).getD (q / g.length % (g.filter us).length) 0 : Nat) := by
  unfold placeM; rw [if_neg h0, if_neg h, if_neg hf]
theorem getD_memN {g : List Nat} {i : Nat} (h : i < g.length) : g.getD i 0 ∈ g := by
  have : g.getD i 0 = g[i] := by simp [List.getD_eq_getElem?_getD, h]
  rw [this]; exact List.getElem_mem _
/-- What is got is an element of the group that is usable, or nothing is. -/
theorem placeM_cases (g : List Nat) (us : Nat → Bool) (q : Nat) : placeM g us q = -1 ∨ ∃ x : Nat, placeM g us q = x ∧ x ∈ g ∧ us x = true := by
  by_cases h0 : g.length = 0
  · left; unfold placeM; rw [if_pos h0]
  · have hm : q % g.length < g.length := Nat.mod_lt _ (by omega)
    by_cases h : us (g.getD (q % g.length) 0) = true
    · exact .inr ⟨_, placeM_home h0 h, getD_memN hm, h⟩
    · by_cases hf : (g.filter us).length = 0
      · exact .inl (placeM_none h hf)
      · have hm2 : q / g.length % (g.filter us).length < (g.filter us).length := Nat.mod_lt _ (by omega)
        obtain ⟨h1, h2⟩ := List.mem_filter.1 (getD_memN hm2)
        exact .inr ⟨_, placeM_other h0 h hf, h1, h2⟩
theorem placeM_congr {g : List Nat} {us us' : Nat → Bool} (h : ∀ x ∈ g, us x = us' x) (q : Nat) : placeM g us q = placeM g us' q := by
  unfold placeM
  by_cases h0 : g.length = 0
  · rw [if_pos h0, if_pos h0]
  · have hm : q % g.length < g.length := Nat.mod_lt _ (by omega)
    rw [if_neg h0, if_neg h0, h _ (getD_memN hm), List.filter_congr h]
/-- The home of a number among n links. -/
theorem range_getD {n i : Nat} (h : i < n) : (List.range n).getD i 0 = i := by simp [List.getD_eq_getElem?_getD, h]
def rotM (s : Nat) : Nat := 4 * (s % 4) + s / 4 % 4
def linkM (n : Nat) (up : Nat → Bool) (s : Nat) : Int := placeM (List.range n) up (rotM s)
theorem linkM_home {n : Nat} {up : Nat → Bool} {s : Nat} (hn : 0 < n) (h : up (rotM s % n) = true) : linkM n up s = (rotM s % n : Nat) := by
  have hm : rotM s % n < n := Nat.mod_lt _ hn
  unfold linkM
  have e : (List.range n).getD (rotM s % (List.range n).length) 0 = rotM s % n := by rw [List.length_range, range_getD hm]
  rw [placeM_home (by rw [List.length_range]; omega) (by rw [e]; exact h), e]
theorem linkM_cases (n : Nat) (up : Nat → Bool) (s : Nat) : linkM n up s = -1 ∨ ∃ x : Nat, linkM n up s = x ∧ x < n ∧ up x = true := by
  rcases placeM_cases (List.range n) up (rotM s) with h | ⟨x, h1, h2, h3⟩
  · exact .inl h
  · exact .inr ⟨x, h1, List.mem_range.1 h2, h3⟩
theorem linkM_ne {n : Nat} {up : Nat → Bool} {k : Nat} (h : up k = false) (s : Nat) : linkM n up s ≠ k := by
  rcases linkM_cases n up s with e | ⟨x, e, _, h2⟩
  · rw [e]; omega
  · rw [e]
    intro hx
    have : x = k := by omega
    subst this
    rw [h] at h2; cases h2
/-- The law of movement, at one selection code. -/
theorem move_law {n k : Nat} {up : Nat → Bool} (hn : 0 < n) (s : Nat) :
    ∃ home : Nat, linkM n (fun _ => true) s = home ∧ home < n ∧ (home ≠ k → linkM n (fun i => decide (i ≠ k)) s = home) ∧ linkM n (fun i => up i && decide (i ≠ k)) s ≠ k ∧ linkM n (fun i => decide (i ≠ k)) s ≠ k ∧
      (up home = true → home ≠ k → linkM n up s = home ∧ linkM n (fun i => up i && decide (i ≠ k)) s = home) := by
  refine ⟨rotM s % n, linkM_home hn rfl, Nat.mod_lt _ hn, fun h => linkM_home hn (by simpa using h), linkM_ne (by simp) s, linkM_ne (by simp) s, fun h1 h2 => ⟨linkM_home hn h1, linkM_home hn (by simp [h1, h2])⟩⟩
/-- How many of the 16 selection codes get i. -/
def cntM (f : Nat → Int) (i : Nat) : Nat → Nat
  | 0 => 0
  | s + 1 => cntM f i s + (if f s = i then 1 else 0)
theorem even_links : ∀ n, n < 17 → 0 < n → ∀ i, i < n → 16 / n ≤ cntM (linkM n (fun _ => true)) i 16 ∧ cntM (linkM n (fun _ => true)) i 16 ≤ (15 + n) / n := by decide +kernel
theorem even_places : ∀ n, n < 17 → 0 < n → ∀ i, i < n → 16 / n ≤ cntM (fun s => placeM (List.range n) (fun _ => true) s) i 16 ∧ cntM (fun s => placeM (List.range n) (fun _ => true) s) i 16 ≤ (15 + n) / n := by decide +kernel
/-- The status of a choice. -/
def stM (S : List Int) (i : Nat) : Int := if i < S.length ∧ S.getD i 0 ≤ 2 then S.getD i 0 else 2
def bestK (S : List Int) : Nat → Int
  | 0 => 2
  | k + 1 => min (bestK S k) (stM S k)
theorem stM_le (S : List Int) (i : Nat) : stM S i ≤ 2 := by unfold stM; split <;> omega
theorem bestK_le (S : List Int) : ∀ k, bestK S k ≤ 2
  | 0 => Int.le_refl _
  | k + 1 => by have := bestK_le S k; show min _ _ ≤ _; omega
theorem bestK_low (S : List Int) : ∀ k i, i < k → bestK S k ≤ stM S i
  | 0, _, h => absurd h (Nat.not_lt_zero _)
  | k + 1, i, h => by
    show min _ _ ≤ _
    by_cases e : i = k
    · subst e; omega
    · have := bestK_low S k i (by omega); omega
theorem bestK_att (S : List Int) : ∀ k, bestK S k = 2 ∨ ∃ i, i < k ∧ stM S i = bestK S k
  | 0 => .inl rfl
  | k + 1 => by
    rcases bestK_att S k with h | ⟨i, hi, h⟩
    · by_cases e : stM S k = 2
      · left; show min _ _ = _; omega
      · right; exact ⟨k, by omega, by have := stM_le S k; show stM S k = min _ _; omega⟩
    · right
      by_cases e : stM S k < bestK S k
      · exact ⟨k, by omega, by show stM S k = min _ _; omega⟩
      · exact ⟨i, by omega, by show stM S i = min _ _; omega⟩
def useM (S : List Int) (b : Int) (i : Nat) : Bool := decide (stM S i = b)
/-- The first usable choice of the smallest rank among those before k, or -1. -/
def firstK (R S : List Int) (b : Int) : Nat → Int
  | 0 => -1
  | k + 1 => if useM S b k = true ∧ (firstK R S b k < 0 ∨ R.getD k 0 < R.getD (firstK R S b k).toNat 0) then k else firstK R S b k
theorem firstK_ok (R S : List Int) (b : Int) : ∀ k, (firstK R S b k = -1 ∧ ∀ i, i < k → useM S b i = false) ∨ ∃ f : Nat, firstK R S b k = f ∧ f < k ∧ useM S b f = true ∧ ∀ i, i < k → useM S b i = true → R.getD f 0 ≤ R.getD i 0
  | 0 => .inl ⟨rfl, fun _ h => absurd h (Nat.not_lt_zero _)⟩
  | k + 1 => by
    unfold firstK
    rcases firstK_ok R S b k with ⟨e, h⟩ | ⟨f, e, hf, hu, h⟩
    · by_cases hk : useM S b k = true
      · rw [if_pos ⟨hk, .inl (by omega)⟩]
        refine .inr ⟨k, rfl, by omega, hk, fun i hi hui => ?_⟩
        by_cases ei : i = k
        · subst ei; omega
        · rw [h i (by omega)] at hui; cases hui
      · rw [if_neg (fun hh => hk hh.1)]
        refine .inl ⟨e, fun i hi => ?_⟩
        by_cases ei : i = k
        · subst ei; simpa using hk
        · exact h i (by omega)
    · by_cases hk : useM S b k = true ∧ (firstK R S b k < 0 ∨ R.getD k 0 < R.getD (firstK R S b k).toNat 0)
      · rw [if_pos hk]
        have h2 : R.getD k 0 < R.getD f 0 := by
          rcases hk.2 with h3 | h3
          · omega
          · rw [e] at h3; simpa using h3
        refine .inr ⟨k, rfl, by omega, hk.1, fun i hi hui => ?_⟩
        by_cases ei : i = k
        · subst ei; omega
        · have := h i (by omega) hui; omega
      · rw [if_neg hk]
        refine .inr ⟨f, e, by omega, hu, fun i hi hui => ?_⟩
        by_cases ei : i = k
        · subst ei
          have h3 : ¬ R.getD i 0 < R.getD f 0 := fun h4 => hk ⟨hui, .inr (by rw [e]; simpa using h4)⟩
          omega
        · exact h i (by omega) hui
/-- The choices of a rank. -/
def groupR (R : List Int) (r : Int) (n : Nat) : List Nat := (List.range n).filter (fun i => decide (R.getD i 0 = r))
theorem groupR_succ (R : List Int) (r : Int) (n : Nat) : groupR R r (n + 1) = groupR R r n ++ (if R.getD n 0 = r then [n] else []) := by
  unfold groupR
  rw [List.range_succ, List.filter_append]
  by_cases h : R.getD n 0 = r
  · rw [if_pos h, List.filter_cons_of_pos (by simpa using h)]; rfl
  · rw [if_neg h, List.filter_cons_of_neg (by simpa using h)]; rfl
theorem groupR_lt {R : List Int} {r : Int} {n x : Nat} (h : x ∈ groupR R r n) : x < n := List.mem_range.1 (List.mem_filter.1 h).1
/-- The choice of a selection code (of its low four bits), or -1. -/
def nextM (R S : List Int) (q : Nat) : Int :=
  if bestK S R.length = 2 then -1 else placeM (groupR R (R.getD (firstK R S (bestK S R.length) R.length).toNat 0) R.length) (useM S (bestK S R.length)) q
end Go.Proofs.Ytpgdaodgdckehaa
