/- The statements' plans as plain data: lines that are put in order. -/
import Derived.Test.YtppbcehcaeeocaaPlMath
namespace Go.Proofs.Ytppbcehcaeeocaa

/-- A line does not come behind those from A to B. -/
def le2 (A B : Int) (l : Ln) : Bool := decide (l.A < A) || decide (l.A = A) && decide (l.B ≤ B)
def pairB (A B : Int) (l : Ln) : Bool := decide (l.A = A) && decide (l.B = B)
theorem le2_of_pair {A B : Int} {l : Ln} (h : pairB A B l = true) : le2 A B l = true := by
  simp only [pairB, le2, Bool.or_eq_true, Bool.and_eq_true, decide_eq_true_eq] at *; omega
/-- Lines in order: by the lower code, the higher one, and the link's. -/
def lt3 (x y : Ln) : Prop := x.A < y.A ∨ x.A = y.A ∧ (x.B < y.B ∨ x.B = y.B ∧ x.C < y.C)
/-- Where a line from A to B is put, when k lines have been looked at. -/
def atK (L : List Ln) (A B : Int) : Nat → Nat
  | 0 => 0
  | k + 1 => if le2 A B (lnAt L k) then k + 1 else atK L A B k
theorem atK_le (L : List Ln) (A B : Int) : ∀ k, atK L A B k ≤ k
  | 0 => Nat.le_refl _
  | k + 1 => by unfold atK; split; · exact Nat.le_refl _
                · exact Nat.le_succ_of_le (atK_le L A B k)
theorem atK_above (L : List Ln) (A B : Int) : ∀ k i, atK L A B k ≤ i → i < k → le2 A B (lnAt L i) = false
  | 0, _, _, h => absurd h (Nat.not_lt_zero _)
  | k + 1, i, h, hi => by
    unfold atK at h
    split at h
    · omega
    · rename_i hn
      rcases Nat.lt_succ_iff_lt_or_eq.1 hi with h1 | rfl
      · exact atK_above L A B k i h h1
      · simpa using hn
/-- The lines in order. -/
def Ord (L : List Ln) : Prop := L.Pairwise lt3
theorem Ord.at {L : List Ln} (h : Ord L) {i j : Nat} (hij : i < j) (hj : j < L.length) : lt3 (lnAt L i) (lnAt L j) := by
  have := List.pairwise_iff_getElem.1 h i j (by omega) hj hij
  simpa [lnAt, List.getD_eq_getElem?_getD, hj, show i < L.length by omega] using this
theorem atK_below {L : List Ln} (h : Ord L) (A B : Int) : ∀ k, k ≤ L.length → ∀ i, i < atK L A B k → le2 A B (lnAt L i) = true
  | 0, _, _, h => absurd h (Nat.not_lt_zero _)
  | k + 1, hk, i, hi => by
    unfold atK at hi
    split at hi
    · rename_i hl
      rcases Nat.lt_succ_iff_lt_or_eq.1 hi with h1 | rfl
      · have := h.at h1 (by omega)
        simp only [le2, lt3, Bool.or_eq_true, Bool.and_eq_true, decide_eq_true_eq] at *; omega
      · exact hl
    · exact atK_below h A B k (by omega) i hi
/-- The code of a further line from A to B, when k lines have been looked at. -/
def cntK (L : List Ln) (A B : Int) (k : Nat) : Nat := (L.take k).countP (pairB A B)
theorem cntK_zero (L : List Ln) (A B : Int) : cntK L A B 0 = 0 := by simp [cntK]
theorem cntK_succ (L : List Ln) (A B : Int) (k : Nat) (hk : k < L.length) : cntK L A B (k + 1) = cntK L A B k + (if pairB A B (lnAt L k) then 1 else 0) := by
  unfold cntK lnAt
  rw [List.take_succ_eq_append_getElem hk, List.countP_append]
  simp [List.getD_eq_getElem?_getD, hk, List.countP_cons]
theorem cntK_le (L : List Ln) (A B : Int) (k : Nat) : cntK L A B k ≤ k := by
  have := List.countP_le_length (p := pairB A B) (l := L.take k)
  simp at this; unfold cntK; omega
/-- A line is put in order. -/
def addL (L : List Ln) (A B d : Int) : List Ln := L.take (atK L A B L.length) ++ ⟨A, B, cntK L A B L.length, d⟩ :: L.drop (atK L A B L.length)
theorem addL_length (L : List Ln) (A B d : Int) : (addL L A B d).length = L.length + 1 := by
  have := atK_le L A B L.length
  simp [addL]; omega
theorem mem_addL {L : List Ln} {A B d : Int} {x : Ln} (h : x ∈ addL L A B d) : x ∈ L ∨ x = ⟨A, B, cntK L A B L.length, d⟩ := by
  unfold addL at h
  rcases List.mem_append.1 h with h | h
  · exact .inl (List.mem_of_mem_take h)
  · rcases List.mem_cons.1 h with h | h
    · exact .inr h
    · exact .inl (List.mem_of_mem_drop h)
/-- In order, and the links of each pair have the codes 0, 1, .. in order. -/
structure Fine (L : List Ln) : Prop where
  ord : Ord L
  codes : ∀ A B, (L.filter (pairB A B)).map (·.C) = (List.range (L.countP (pairB A B))).map (fun (k : Nat) => (k : Int))
theorem Fine.nil : Fine [] := ⟨List.Pairwise.nil, fun _ _ => by simp⟩
theorem lnAt_mem {L : List Ln} {x : Ln} (h : x ∈ L) : ∃ i, i < L.length ∧ x = lnAt L i := by
  obtain ⟨i, hi, rfl⟩ := List.getElem_of_mem h
  exact ⟨i, hi, by simp [lnAt, List.getD_eq_getElem?_getD, hi]⟩
theorem take_le2 {L : List Ln} (h : Ord L) (A B : Int) {x : Ln} (hx : x ∈ L.take (atK L A B L.length)) : le2 A B x = true := by
  obtain ⟨i, hi, rfl⟩ := List.getElem_of_mem hx
  simp only [List.length_take] at hi
  have := atK_below h A B L.length (Nat.le_refl _) i (by omega)
  simpa [lnAt, List.getD_eq_getElem?_getD, show i < L.length by omega] using this
theorem drop_le2 (L : List Ln) (A B : Int) {x : Ln} (hx : x ∈ L.drop (atK L A B L.length)) : le2 A B x = false := by
  obtain ⟨i, hi, rfl⟩ := List.getElem_of_mem hx
  simp only [List.length_drop] at hi
  have := atK_above L A B L.length (atK L A B L.length + i) (by omega) (by omega)
  simpa [lnAt, List.getD_eq_getElem?_getD, show atK L A B L.length + i < L.length by omega] using this
/-- A code of a pair is below their number. -/
theorem Fine.code {L : List Ln} (h : Fine L) {x : Ln} (hx : x ∈ L) {A B : Int} (hp : pairB A B x = true) : x.C < L.countP (pairB A B) := by
  have h1 : x.C ∈ (L.filter (pairB A B)).map (·.C) := List.mem_map.2 ⟨x, List.mem_filter.2 ⟨hx, hp⟩, rfl⟩
  rw [h.codes] at h1
  obtain ⟨k, hk, e⟩ := List.mem_map.1 h1
  have := List.mem_range.1 hk
  omega
theorem Fine.add {L : List Ln} (h : Fine L) (A B d : Int) : Fine (addL L A B d) := by
  have hcnt : cntK L A B L.length = L.countP (pairB A B) := by simp [cntK]
  have hsplit : L.take (atK L A B L.length) ++ L.drop (atK L A B L.length) = L := List.take_append_drop _ _
  refine ⟨?_, fun X Y => ?_⟩
  · unfold addL Ord
    have hp := h.ord
    unfold Ord at hp
    rw [← hsplit, List.pairwise_append] at hp
    obtain ⟨h1, h2, h3⟩ := hp
    refine List.pairwise_append.2 ⟨h1, List.pairwise_cons.2 ⟨fun y hy => ?_, h2⟩, fun x hx y hy => ?_⟩
    · have := drop_le2 L A B hy
      simp only [le2, lt3, Bool.or_eq_false_iff, Bool.and_eq_false_iff, decide_eq_false_iff_not] at *; omega
    · rcases List.mem_cons.1 hy with rfl | hy
      · have h4 := take_le2 h.ord A B hx
        by_cases hpr : pairB A B x = true
        · have := h.code (List.mem_of_mem_take hx) hpr
          rw [hcnt]
          simp only [pairB, lt3, Bool.and_eq_true, decide_eq_true_eq] at *; omega
        · simp only [pairB, le2, lt3, Bool.or_eq_true, Bool.and_eq_true, decide_eq_true_eq] at *; omega
      · exact h3 x hx y hy
  · have hc := h.codes X Y
    by_cases e : X = A ∧ Y = B
    · obtain ⟨rfl, rfl⟩ := e
      have hd : (L.drop (atK L X Y L.length)).filter (pairB X Y) = [] := by
        rw [List.filter_eq_nil_iff]
        intro x hx hp
        have := drop_le2 L X Y hx
        rw [le2_of_pair hp] at this; cases this
      have ht : (L.take (atK L X Y L.length)).filter (pairB X Y) = L.filter (pairB X Y) := by
        conv => rhs; rw [← hsplit, List.filter_append, hd, List.append_nil]
      have hn : pairB X Y ⟨X, Y, cntK L X Y L.length, d⟩ = true := by simp [pairB]
      have hf : (addL L X Y d).filter (pairB X Y) = L.filter (pairB X Y) ++ [⟨X, Y, cntK L X Y L.length, d⟩] := by
        unfold addL
        rw [List.filter_append, List.filter_cons_of_pos hn, hd, ht]
      have hk : (addL L X Y d).countP (pairB X Y) = L.countP (pairB X Y) + 1 := by
        rw [List.countP_eq_length_filter, hf, List.countP_eq_length_filter]; simp
      rw [hf, hk, List.map_append, hc, List.range_succ, List.map_append, hcnt]
      rfl
    · have hn : ¬ pairB X Y ⟨A, B, cntK L A B L.length, d⟩ = true := by
        simp only [pairB, Bool.and_eq_true, decide_eq_true_eq]; omega
      have hf : (addL L A B d).filter (pairB X Y) = L.filter (pairB X Y) := by
        conv => rhs; rw [← hsplit]
        unfold addL
        rw [List.filter_append, List.filter_cons_of_neg hn, List.filter_append]
      rw [List.countP_eq_length_filter, hf, hc, List.countP_eq_length_filter]
end Go.Proofs.Ytppbcehcaeeocaa
