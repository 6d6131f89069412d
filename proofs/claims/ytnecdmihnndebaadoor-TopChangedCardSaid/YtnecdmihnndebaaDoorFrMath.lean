/- Plain mathematics of frames: stuffing, and a scanner of flags. -/
import Derived.Test.YtnecdmihnndebaaDoorRunMath
namespace Go.Proofs.YtnecdmihnndebaaDoor

theorem snocInd {P : List Int → Prop} (h0 : P []) (h1 : ∀ l x, P l → P (l ++ [x])) : ∀ l, P l := by
  have : ∀ n (l : List Int), l.length = n → P l := by
    intro n
    induction n with
    | zero => intro l h; rw [List.eq_nil_of_length_eq_zero h]; exact h0
    | succ n ih =>
      intro l h
      have hne : l ≠ [] := by intro e; subst e; simp at h
      rw [← List.dropLast_concat_getLast hne]
      exact h1 _ _ (ih _ (by simp [h]))
  exact fun l => this _ l rfl
def Bin (l : List Int) : Prop := ∀ x ∈ l, x = 0 ∨ x = 1
theorem Bin.app {a b : List Int} (ha : Bin a) (hb : Bin b) : Bin (a ++ b) := by
  intro x hx
  rcases List.mem_append.1 hx with h | h
  · exact ha x h
  · exact hb x h
theorem Bin.left {a b : List Int} (h : Bin (a ++ b)) : Bin a := fun x hx => h x (List.mem_append_left _ hx)
theorem Bin.right {a b : List Int} (h : Bin (a ++ b)) : Bin b := fun x hx => h x (List.mem_append_right _ hx)
theorem Bin.last {a : List Int} {x : Int} (h : Bin (a ++ [x])) : x = 0 ∨ x = 1 := h x (by simp)
theorem Bin.take {a : List Int} (h : Bin a) (k : Nat) : Bin (a.take k) := fun x hx => h x (List.mem_of_mem_take hx)
theorem Bin.drop {a : List Int} (h : Bin a) (k : Nat) : Bin (a.drop k) := fun x hx => h x (List.mem_of_mem_drop hx)
theorem bin_bits {a : List Int} (h : isBits a = true) (h0 : ∀ x ∈ a, 0 ≤ x) : Bin a := fun x hx => by
  have := (isBits_iff a).1 h x hx
  have := h0 x hx
  omega
theorem Bin.isBits {a : List Int} (h : Bin a) : isBits a = true := (isBits_iff a).2 fun x hx => by have := h x hx; omega
theorem bin_ofL (a : List Int) : Bin (ofL a) := fun x hx => by have := ofL_mem hx; omega
theorem runEnd_nil (v : Int) : runEnd v [] = 0 := rfl
theorem runMax_nil (v : Int) : runMax v [] = 0 := rfl
theorem runEnd_nonneg (v : Int) (l : List Int) : 0 ≤ runEnd v l := (run_bounds v _ l (Nat.le_refl _)).1
theorem runEnd_le_max (v : Int) (l : List Int) : runEnd v l ≤ runMax v l := by
  induction l using snocInd with
  | h0 => simp [runEnd, runMax]
  | h1 l x ih =>
    rw [runEnd_snoc, runMax_snoc]
    have := run_bounds v _ l (Nat.le_refl _)
    split
    · split <;> omega
    · omega

/-! ## Stuffing -/
def stuff (l : List Int) : List Int := l.foldl (fun out b => if runEnd 1 (out ++ [b]) = 5 then out ++ [b, 0] else out ++ [b]) []
theorem stuff_nil : stuff [] = [] := rfl
theorem stuff_snoc (l : List Int) (b : Int) : stuff (l ++ [b]) = if runEnd 1 (stuff l ++ [b]) = 5 then stuff l ++ [b, 0] else stuff l ++ [b] := by
  unfold stuff
  rw [List.foldl_append, List.foldl_cons, List.foldl_nil]
theorem stuff_runs (l : List Int) : runEnd 1 (stuff l) ≤ 4 ∧ runMax 1 (stuff l) ≤ 5 := by
  induction l using snocInd with
  | h0 => simp [stuff, runEnd, runMax]
  | h1 l x ih =>
    have e : stuff l ++ [x, 0] = (stuff l ++ [x]) ++ [0] := by simp
    have h0 := runEnd_nonneg 1 (stuff l)
    rw [stuff_snoc]
    split
    · rename_i h
      rw [e, runEnd_snoc, runMax_snoc, if_neg (by decide), if_neg (by decide)]
      rw [runEnd_snoc] at h
      rw [runMax_snoc]
      split at h
      · rename_i hx
        rw [if_pos hx]
        split <;> omega
      · omega
    · rename_i h
      rw [runEnd_snoc] at h ⊢
      rw [runMax_snoc]
      split at h
      · rename_i hx
        rw [if_pos hx, if_pos hx]
        split <;> omega
      · rename_i hx
        rw [if_neg hx, if_neg hx]
        omega
theorem bin_stuff {l : List Int} (h : Bin l) : Bin (stuff l) := by
  induction l using snocInd with
  | h0 => intro x hx; simp [stuff] at hx
  | h1 l x ih =>
    have hl := ih h.left
    have hx := h.last
    rw [stuff_snoc]
    split
    · intro y hy
      simp only [List.mem_append, List.mem_cons, List.not_mem_nil, or_false] at hy
      rcases hy with hy | rfl | rfl
      · exact hl y hy
      · exact hx
      · exact .inl rfl
    · intro y hy
      simp only [List.mem_append, List.mem_cons, List.not_mem_nil, or_false] at hy
      rcases hy with hy | rfl
      · exact hl y hy
      · exact hx
/-- Without the bits behind five ones, unless they are ones. -/
def plain (l : List Int) : List Int := (l.foldl (fun (p : List Int × Int) x => (if x = 1 ∨ p.2 ≠ 5 then p.1 ++ [x] else p.1, if x = 1 then p.2 + 1 else 0)) ([], 0)).1
theorem plain_nil : plain [] = [] := rfl
theorem plain_snd (l : List Int) : (l.foldl (fun (p : List Int × Int) x => (if x = 1 ∨ p.2 ≠ 5 then p.1 ++ [x] else p.1, if x = 1 then p.2 + 1 else 0)) ([], 0)).2 = runEnd 1 l := by
  induction l using snocInd with
  | h0 => rfl
  | h1 l x ih => rw [List.foldl_append, runEnd_snoc, List.foldl_cons, List.foldl_nil, ih]
theorem plain_snoc (l : List Int) (x : Int) : plain (l ++ [x]) = if x = 1 ∨ runEnd 1 l ≠ 5 then plain l ++ [x] else plain l := by
  have h := plain_snd l
  unfold plain
  rw [List.foldl_append, List.foldl_cons, List.foldl_nil, h]
theorem bin_plain {l : List Int} (h : Bin l) : Bin (plain l) := by
  induction l using snocInd with
  | h0 => intro x hx; simp [plain] at hx
  | h1 l x ih =>
    rw [plain_snoc]
    split
    · exact (ih h.left).app (fun y hy => by simp at hy; subst hy; exact h.last)
    · exact ih h.left
theorem plain_length (l : List Int) : (plain l).length ≤ l.length := by
  induction l using snocInd with
  | h0 => simp [plain]
  | h1 l x ih =>
    rw [plain_snoc, List.length_append]
    split
    · rw [List.length_append]; omega
    · omega
theorem plain_stuff (l : List Int) : plain (stuff l) = l := by
  induction l using snocInd with
  | h0 => rfl
  | h1 l x ih =>
    have hr := stuff_runs l
    have e : plain (stuff l ++ [x]) = l ++ [x] := by rw [plain_snoc, if_pos (by right; omega), ih]
    rw [stuff_snoc]
    split
    · rename_i h
      have e2 : stuff l ++ [x, 0] = (stuff l ++ [x]) ++ [0] := by simp
      rw [e2, plain_snoc, if_neg (by simp [h]), e]
    · exact e
theorem stuff_plain (s : List Int) (hb : Bin s) (h : runMax 1 s ≤ 5) : stuff (plain s) = if runEnd 1 s = 5 then s ++ [0] else s := by
  induction s using snocInd with
  | h0 => simp [stuff, plain, runEnd]
  | h1 l x ih =>
    have hm := runMax_snoc 1 x l
    have hle := runEnd_le_max 1 l
    have hl : runMax 1 l ≤ 5 := by
      rw [hm] at h
      split at h
      · split at h <;> omega
      · exact h
    have ih := ih hb.left hl
    have hx := hb.last
    by_cases h5 : runEnd 1 l = 5
    · have hx0 : x = 0 := by
        rcases hx with hx | hx
        · exact hx
        · rw [hm, if_pos hx] at h
          split at h <;> omega
      subst hx0
      have e0 : runEnd 1 (l ++ [0]) = 0 := by rw [runEnd_snoc, if_neg (by decide)]
      rw [plain_snoc, if_neg (by simp [h5]), ih, if_pos h5, e0, if_neg (by decide)]
    · rw [if_neg h5] at ih
      rw [plain_snoc, if_pos (.inr h5), stuff_snoc, ih]
      split
      · simp
      · rfl
/-- What may be without stuffing: exactly the stuffed streams. -/
def isStuffed (s : List Int) : Bool := decide (runMax 1 s ≤ 5) && decide (runEnd 1 s ≠ 5)
theorem isStuffed_stuff (l : List Int) : isStuffed (stuff l) = true := by
  have := stuff_runs l
  simp [isStuffed]
  omega
theorem stuff_plain_of {s : List Int} (hb : Bin s) (h : isStuffed s = true) : stuff (plain s) = s := by
  simp [isStuffed] at h
  rw [stuff_plain s hb h.1, if_neg h.2]
theorem not_stuffed {s : List Int} (h : isStuffed s = false) (l : List Int) : stuff l ≠ s := by
  intro e
  rw [← e, isStuffed_stuff] at h
  cases h
theorem stuff_length_le (l : List Int) : l.length ≤ (stuff l).length ∧ 5 * (stuff l).length + runEnd 1 (stuff l) ≤ 6 * l.length := by
  induction l using snocInd with
  | h0 => simp [stuff, runEnd]
  | h1 l x ih =>
    have h0 := runEnd_nonneg 1 (stuff l)
    have e : stuff l ++ [x, 0] = (stuff l ++ [x]) ++ [0] := by simp
    rw [stuff_snoc]
    split
    · rename_i h
      rw [e, runEnd_snoc, if_neg (by decide)]
      rw [runEnd_snoc] at h
      split at h
      · simp; omega
      · omega
    · rename_i h
      rw [runEnd_snoc] at h ⊢
      simp only [List.length_append, List.length_cons, List.length_nil]
      split at h
      · omega
      · omega
theorem stuff_ones_length (n : Nat) : 5 * ((stuff (List.replicate n 1)).length : Int) + runEnd 1 (stuff (List.replicate n 1)) = 6 * n := by
  induction n with
  | zero => simp [stuff, runEnd]
  | succ n ih =>
    have e : (stuff (List.replicate n 1)) ++ [1, 0] = (stuff (List.replicate n 1) ++ [1]) ++ [0] := by simp
    rw [List.replicate_succ', stuff_snoc]
    split
    · rename_i h
      rw [e, runEnd_snoc, if_neg (by decide)]
      rw [runEnd_snoc, if_pos rfl] at h
      simp
      omega
    · rename_i h
      rw [runEnd_snoc, if_pos rfl] at h ⊢
      simp
      omega
theorem stuff_zeros (n : Nat) : stuff (List.replicate n 0) = List.replicate n 0 := by
  induction n with
  | zero => rfl
  | succ n ih =>
    rw [List.replicate_succ', stuff_snoc, ih, if_neg]
    rw [runEnd_snoc, if_neg (by decide)]
    decide
end Go.Proofs.YtnecdmihnndebaaDoor
