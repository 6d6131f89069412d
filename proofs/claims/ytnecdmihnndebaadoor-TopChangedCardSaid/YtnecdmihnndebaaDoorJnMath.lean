/- Plain mathematics of frames: joined contents, and what a scanner finds in them. -/
import Derived.Test.YtnecdmihnndebaaDoorScMath
namespace Go.Proofs.YtnecdmihnndebaaDoor

def flagL : List Int := [0, 1, 1, 1, 1, 1, 1, 0]
def joinL (L : List (List Int)) : List Int := flagL ++ L.flatMap fun b => stuff (ofL b) ++ flagL
theorem joinL_nil : joinL [] = flagL := rfl
theorem joinL_snoc (L : List (List Int)) (b : List Int) : joinL (L ++ [b]) = joinL L ++ stuff (ofL b) ++ flagL := by simp [joinL]
theorem bin_flag : Bin flagL := by unfold Bin flagL; decide
theorem bin_joinL (L : List (List Int)) : Bin (joinL L) := by
  unfold joinL
  refine bin_flag.app fun x hx => ?_
  simp only [List.mem_flatMap] at hx
  obtain ⟨b, _, hx⟩ := hx
  exact ((bin_stuff (bin_ofL b)).app bin_flag) x hx
/-- A bit that ends nothing. -/
theorem step_plain (x : Sc) (b : Int) (h6 : ¬ (b = 0 ∧ x.ones = 6)) (h5 : ¬ (b = 0 ∧ x.ones = 5)) (h7 : cnt x.ones b ≤ 6) : x.step b = (⟨x.ins, cnt x.ones b, keepL x.ins x.kept b, x.errs⟩, []) := by
  unfold Sc.step
  rw [if_neg h6, if_neg h5, if_neg (by omega)]
theorem step_drop (x : Sc) (h5 : x.ones = 5) : x.step 0 = (⟨x.ins, 0, x.kept, x.errs⟩, []) := by
  unfold Sc.step
  rw [if_neg (by omega), if_pos ⟨rfl, h5⟩]
theorem step_fin (x : Sc) (h6 : x.ones = 6) : x.step 0 = x.fin := by
  unfold Sc.step
  rw [if_pos ⟨rfl, h6⟩]
theorem cnt_one (o : Int) : cnt o 1 = o + 1 := rfl
theorem cnt_zero (o : Int) : cnt o 0 = 0 := rfl
theorem feed_cons (x : Sc) (b : Int) (l : List Int) : feed x (b :: l) = ((feed (x.step b).1 l).1, addC [] (x.step b).2 ++ (feed (x.step b).1 l).2) := by
  have := feed_append x [b] l
  rw [feed_one] at this
  exact this
/-- Six ones behind a state without ones. -/
def keep6 (ins : Bool) (k : List Int) : List Int := keepL ins (keepL ins (keepL ins (keepL ins (keepL ins (keepL ins k 1) 1) 1) 1) 1) 1
theorem feed6 (ins : Bool) (k : List Int) (e : Int) (l : List Int) : feed ⟨ins, 0, k, e⟩ (1 :: 1 :: 1 :: 1 :: 1 :: 1 :: l) = feed ⟨ins, 6, keep6 ins k, e⟩ l := by
  have one (o : Int) (k : List Int) (l : List Int) (ho : o ≤ 5) : feed ⟨ins, o, k, e⟩ (1 :: l) = feed ⟨ins, o + 1, keepL ins k 1, e⟩ l := by
    rw [feed_cons, step_plain _ _ (by simp) (by simp) (by rw [cnt_one]; simp; omega)]
    simp [addC, cnt_one]
  rw [one 0 _ _ (by omega), one _ _ _ (by omega), one _ _ _ (by omega), one _ _ _ (by omega), one _ _ _ (by omega), one _ _ _ (by omega)]
  rfl
theorem fin_some (x : Sc) : ∃ e c, x.fin = (⟨true, 0, [], e⟩, c) := by
  unfold Sc.fin
  split
  · split
    · exact ⟨_, _, rfl⟩
    · exact ⟨_, _, rfl⟩
  · exact ⟨_, _, rfl⟩
theorem addC_len (c : List Int) : (addC [] c).length ≤ 1 := by unfold addC; split <;> simp
/-- A flag, whatever came before: behind it the scanner is inside; at most one content ended. -/
theorem feed_flag (x : Sc) : ∃ e X, feed x flagL = (⟨true, 0, [], e⟩, X) ∧ X.length ≤ 1 := by
  unfold flagL
  rw [feed_cons]
  by_cases h6 : x.ones = 6
  · rw [step_fin x h6]
    obtain ⟨e, c, hf⟩ := fin_some x
    rw [hf]
    have : feed ⟨true, 0, [], e⟩ [1, 1, 1, 1, 1, 1, 0] = (⟨true, 0, [], e⟩, []) := by
      rw [feed6, feed_one, step_fin _ rfl]
      rfl
    rw [this]
    exact ⟨e, addC [] c, by simp, addC_len c⟩
  · have h1 : ∃ k, x.step 0 = (⟨x.ins, 0, k, x.errs⟩, []) := by
      by_cases h5 : x.ones = 5
      · exact ⟨_, step_drop x h5⟩
      · exact ⟨_, step_plain x 0 (by simp [h6]) (by simp [h5]) (by rw [cnt_zero]; decide)⟩
    obtain ⟨k, h1⟩ := h1
    rw [h1, feed6, feed_one, step_fin _ rfl]
    obtain ⟨e, c, hf⟩ := fin_some ⟨x.ins, 6, keep6 x.ins k, x.errs⟩
    rw [hf]
    exact ⟨e, addC [] c, by simp [addC], addC_len c⟩
theorem feed_first : feed Sc.zero flagL = (⟨true, 0, [], 0⟩, []) := by
  unfold flagL
  rw [feed_cons]
  have : Sc.zero.step 0 = (⟨false, 0, [], 0⟩, []) := rfl
  rw [this, feed6, feed_one, step_fin _ rfl]
  rfl
/-- Stuffed bits inside: they are kept without the stuffing. -/
theorem feed_stuff (u : List Int) (hu : Bin u) (e : Int) : feed ⟨true, 0, [], e⟩ (stuff u) = (⟨true, runEnd 1 (stuff u), u.take 2248, e⟩, []) := by
  induction u using snocInd with
  | h0 => rfl
  | h1 u b ih =>
    have ih := ih hu.left
    have hr := stuff_runs u
    have h0 := runEnd_nonneg 1 (stuff u)
    have hb := hu.last
    have hc : cnt (runEnd 1 (stuff u)) b = runEnd 1 (stuff u ++ [b]) := by
      unfold cnt; rw [runEnd_snoc]; rcases hb with rfl | rfl <;> simp
    have hle : runEnd 1 (stuff u ++ [b]) ≤ 5 := by rw [runEnd_snoc]; split <;> omega
    have h1 : feed ⟨true, 0, [], e⟩ (stuff u ++ [b]) = (⟨true, runEnd 1 (stuff u ++ [b]), (u ++ [b]).take 2248, e⟩, []) := by
      rw [feed_snoc, ih, step_plain _ _ (by simp; omega) (by simp; omega) (by simp only; rw [hc]; omega)]
      simp only [hc, keep_take]
      rfl
    rw [stuff_snoc]
    split
    · rename_i h5
      have e2 : stuff u ++ [b, 0] = (stuff u ++ [b]) ++ [0] := by simp
      have e0 : runEnd 1 (stuff u ++ [b] ++ [0]) = 0 := by rw [runEnd_snoc, if_neg (by decide)]
      rw [e2, feed_snoc, h1, step_drop _ h5, e0]
      rfl
    · exact h1
/-- A flag behind what was kept. -/
theorem feed_close (u : List Int) (o e : Int) (ho : o ≤ 4) : feed ⟨true, o, u.take 2248, e⟩ flagL =
    if u.length = 0 then (⟨true, 0, [], e⟩, []) else if badC u then (⟨true, 0, [], e + 1⟩, []) else (⟨true, 0, [], e⟩, [octs u]) := by
  unfold flagL
  rw [feed_cons, step_plain _ _ (by simp; omega) (by simp; omega) (by rw [cnt_zero]; decide), cnt_zero, feed6, feed_one, step_fin _ rfl]
  have hk : keep6 true (keepL true (u.take 2248) 0) = (u ++ [0, 1, 1, 1, 1, 1, 1]).take 2248 := by
    unfold keep6
    simp only [keep_take]
    simp
  simp only [hk]
  have hlen : (u ++ [0, 1, 1, 1, 1, 1, 1]).length = u.length + 7 := by simp
  have hfront : front (u ++ [0, 1, 1, 1, 1, 1, 1]) = u := by
    unfold front
    rw [hlen, Nat.add_sub_cancel, List.take_left' rfl]
  have hft := front_take (u ++ [0, 1, 1, 1, 1, 1, 1])
  rw [hfront] at hft
  have hu0 : ¬ badC u → u.length = 0 ∨ octs u ≠ [] := fun h => .inr (octs_ne h)
  unfold Sc.fin
  simp only [true_and]
  by_cases h0 : u.length = 0
  · rw [if_pos h0]
    rcases hft with h | h
    · rw [h, if_neg (by omega)]; rfl
    · omega
  · rw [if_neg h0]
    by_cases hbad : badC u
    · rw [if_pos hbad]
      rcases hft with h | h
      · rw [h, if_pos (by omega), if_pos hbad]; rfl
      · rw [if_pos h.2.2.1, if_pos h.1]; rfl
    · rw [if_neg hbad]
      rcases hft with h | h
      · rw [h, if_pos (by omega), if_neg hbad]
        simp [addC, octs_ne hbad]
      · exact absurd h.2.1 hbad
theorem feed_unit (u : List Int) (hu : Bin u) (e : Int) : feed ⟨true, 0, [], e⟩ (stuff u ++ flagL) =
    if u.length = 0 then (⟨true, 0, [], e⟩, []) else if badC u then (⟨true, 0, [], e + 1⟩, []) else (⟨true, 0, [], e⟩, [octs u]) := by
  rw [feed_append, feed_stuff u hu e]
  simp only [List.nil_append]
  rw [feed_close _ _ _ (stuff_runs u).1]
/-- What may be sent. -/
def okC (b : List Int) : Prop := 5 ≤ b.length ∧ b.length ≤ 280 ∧ ∀ x ∈ b, 0 ≤ x ∧ x ≤ 255
theorem feed_content (b : List Int) (h : okC b) (e : Int) : feed ⟨true, 0, [], e⟩ (stuff (ofL b) ++ flagL) = (⟨true, 0, [], e⟩, [b]) := by
  obtain ⟨h1, h2, h3⟩ := h
  have hl := ofL_length b
  rw [feed_unit _ (bin_ofL b), if_neg (by omega), if_neg (by unfold badC; omega), octs_ofL b h3]
theorem feed_long (b : List Int) (h : 280 < b.length) (e : Int) : feed ⟨true, 0, [], e⟩ (stuff (ofL b) ++ flagL) = (⟨true, 0, [], e + 1⟩, []) := by
  have hl := ofL_length b
  rw [feed_unit _ (bin_ofL b), if_neg (by omega), if_pos (by unfold badC; omega)]
theorem feed_contents (L : List (List Int)) (h : ∀ b ∈ L, okC b) (e : Int) : feed ⟨true, 0, [], e⟩ (L.flatMap fun b => stuff (ofL b) ++ flagL) = (⟨true, 0, [], e⟩, L) := by
  induction L with
  | nil => rfl
  | cons b L ih =>
    rw [List.flatMap_cons, feed_append, feed_content b (h b (by simp)) e]
    simp only
    rw [ih fun c hc => h c (by simp [hc])]
    rfl
theorem feed_joinL (L : List (List Int)) (h : ∀ b ∈ L, okC b) : feed Sc.zero (joinL L) = (⟨true, 0, [], 0⟩, L) := by
  unfold joinL
  rw [feed_append, feed_first]
  simp only [List.nil_append]
  rw [feed_contents L h]
theorem feed_joinL_any (x : Sc) (L : List (List Int)) (h : ∀ b ∈ L, okC b) : ∃ e X, feed x (joinL L) = (⟨true, 0, [], e⟩, X ++ L) ∧ X.length ≤ 1 := by
  obtain ⟨e, X, hf, hX⟩ := feed_flag x
  refine ⟨e, X, ?_, hX⟩
  unfold joinL
  rw [feed_append, hf]
  simp only
  rw [feed_contents L h]
theorem joinL_length (L : List (List Int)) (n m : Nat) (hm : ∀ b ∈ L, b.length ≤ m) (hn : L.length ≤ n) : (joinL L).length ≤ 8 + n * (10 * m + 8) := by
  unfold joinL
  rw [List.length_append]
  have h8 : flagL.length = 8 := rfl
  rw [h8]
  suffices h : (L.flatMap fun b => stuff (ofL b) ++ flagL).length ≤ L.length * (10 * m + 8) by
    have := Nat.mul_le_mul_right (10 * m + 8) hn
    omega
  clear hn
  induction L with
  | nil => simp
  | cons b L ih =>
    have ih := ih fun c hc => hm c (by simp [hc])
    have hb := hm b (by simp)
    have h1 := stuff_length_le (ofL b)
    have h2 := ofL_length b
    have h3 := runEnd_nonneg 1 (stuff (ofL b))
    rw [List.flatMap_cons, List.length_append, List.length_append, h8, List.length_cons, Nat.add_mul]
    omega
end Go.Proofs.YtnecdmihnndebaaDoor
