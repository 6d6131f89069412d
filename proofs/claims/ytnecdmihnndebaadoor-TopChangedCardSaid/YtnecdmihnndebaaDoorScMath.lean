/- Plain mathematics of frames: a scanner of flags, bit by bit, and over a whole stream. -/
import Derived.Test.YtnecdmihnndebaaDoorFrMath
namespace Go.Proofs.YtnecdmihnndebaaDoor

/-- The state of a scanner, and what a bit does. -/
structure Sc where
  ins : Bool
  ones : Int
  kept : List Int
  errs : Int
def Sc.zero : Sc := ⟨false, 0, [], 0⟩
def keepL (ins : Bool) (k : List Int) (b : Int) : List Int := if ins = true ∧ k.length < 2248 then k ++ [b] else k
def front (k : List Int) : List Int := k.take (k.length - 7)
def badC (c : List Int) : Prop := c.length % 8 ≠ 0 ∨ c.length < 40 ∨ 2240 < c.length
instance (c : List Int) : Decidable (badC c) := by unfold badC; infer_instance
def cnt (o b : Int) : Int := if b = 0 then 0 else o + 1
/-- The end of a flag. -/
def Sc.fin (x : Sc) : Sc × List Int :=
  if x.ins = true ∧ 0 < (front x.kept).length then
    if badC (front x.kept) then (⟨true, 0, [], x.errs + 1⟩, []) else (⟨true, 0, [], x.errs⟩, octs (front x.kept))
  else (⟨true, 0, [], x.errs⟩, [])
def Sc.step (x : Sc) (b : Int) : Sc × List Int :=
  if b = 0 ∧ x.ones = 6 then x.fin
  else if b = 0 ∧ x.ones = 5 then (⟨x.ins, 0, x.kept, x.errs⟩, [])
  else if 6 < cnt x.ones b ∧ x.ins = true then (⟨false, cnt x.ones b, keepL x.ins x.kept b, x.errs + 1⟩, [])
  else (⟨x.ins, cnt x.ones b, keepL x.ins x.kept b, x.errs⟩, [])
def addC (L : List (List Int)) (c : List Int) : List (List Int) := if c = [] then L else L ++ [c]
theorem addC_nil (L : List (List Int)) : addC L [] = L := rfl
theorem addC_app (A L : List (List Int)) (c : List Int) : A ++ addC L c = addC (A ++ L) c := by
  unfold addC; split <;> simp
def feed (x : Sc) (l : List Int) : Sc × List (List Int) := l.foldl (fun p b => ((p.1.step b).1, addC p.2 (p.1.step b).2)) (x, [])
theorem feed_nil (x : Sc) : feed x [] = (x, []) := rfl
theorem feed_from (x : Sc) (A : List (List Int)) (l : List Int) : l.foldl (fun (p : Sc × List (List Int)) b => ((p.1.step b).1, addC p.2 (p.1.step b).2)) (x, A) = ((feed x l).1, A ++ (feed x l).2) := by
  unfold feed
  induction l using snocInd with
  | h0 => simp
  | h1 l b ih => simp only [List.foldl_append, List.foldl_cons, List.foldl_nil, ih, addC_app]
theorem feed_append (x : Sc) (a b : List Int) : feed x (a ++ b) = ((feed (feed x a).1 b).1, (feed x a).2 ++ (feed (feed x a).1 b).2) := by
  conv => lhs; unfold feed
  rw [List.foldl_append]
  exact feed_from (feed x a).1 (feed x a).2 b
theorem feed_snoc (x : Sc) (a : List Int) (b : Int) : feed x (a ++ [b]) = (((feed x a).1.step b).1, addC (feed x a).2 ((feed x a).1.step b).2) := by
  simp only [feed, List.foldl_append, List.foldl_cons, List.foldl_nil]
theorem feed_one (x : Sc) (b : Int) : feed x [b] = ((x.step b).1, addC [] (x.step b).2) := rfl

/-! ## A whole stream -/
def abortL (l : List Int) : Bool := (List.range l.length).any fun i => decide (runEnd 1 (l.take (i + 1)) = 7)
theorem abortL_nil : abortL [] = false := rfl
theorem any_congr' {n : Nat} {f g : Nat → Bool} (h : ∀ i, i < n → f i = g i) : (List.range n).any f = (List.range n).any g := by
  induction n with
  | zero => rfl
  | succ n ih => rw [List.range_succ, List.any_append, List.any_append, ih (fun i hi => h i (by omega))]; simp [h n (by omega)]
theorem abortL_snoc (l : List Int) (x : Int) : abortL (l ++ [x]) = (abortL l || decide (runEnd 1 (l ++ [x]) = 7)) := by
  unfold abortL
  rw [List.length_append, List.length_singleton, List.range_succ, List.any_append]
  congr 1
  · refine any_congr' fun i hi => ?_
    rw [List.take_append_of_le_length (by omega)]
  · simp [List.take_of_length_le]
theorem abortL_run (l : List Int) (h : abortL l = false) : runEnd 1 l ≤ 6 := by
  induction l using snocInd with
  | h0 => simp [runEnd]
  | h1 l x ih =>
    rw [abortL_snoc, Bool.or_eq_false_iff] at h
    have h1 := ih h.1
    have h2 := h.2
    simp only [decide_eq_false_iff_not] at h2
    rw [runEnd_snoc] at h2 ⊢
    split at h2 <;> split <;> omega
def judge (b : List Int) (ab : Bool) : List (List Int) × Int :=
  if ab then ([], 1) else if (front b).length = 0 then ([], 0) else if badC (front b) then ([], 1) else ([octs (front b)], 0)
/-- The part of a stream from a flag's end through the next one: its contents and errors. -/
def judgeR (part : List Int) : List (List Int) × Int := judge (plain part.dropLast) (abortL part)
/-- The whole stream, bit by bit. -/
structure RS where
  seen : Bool
  part : List Int
  outs : List (List Int)
  errs : Int
def RS.step (x : RS) (b : Int) : RS :=
  if b = 0 ∧ runEnd 1 x.part = 6 then ⟨true, [], if x.seen then x.outs ++ (judgeR (x.part ++ [b])).1 else x.outs, if x.seen then x.errs + (judgeR (x.part ++ [b])).2 else x.errs⟩
  else ⟨x.seen, x.part ++ [b], x.outs, x.errs⟩
def RS.zero : RS := ⟨false, [], [], 0⟩
def rs (l : List Int) : RS := l.foldl RS.step RS.zero
theorem rs_snoc (l : List Int) (b : Int) : rs (l ++ [b]) = (rs l).step b := by simp [rs, List.foldl_append]
theorem octs_ne {c : List Int} (h : ¬ badC c) : octs c ≠ [] := by
  intro e
  have := congrArg List.length e
  simp [octs] at this
  simp [badC] at h
  omega
/-- The scanner and the whole stream agree. -/
structure Agree (x : RS) (y : Sc) (L : List (List Int)) : Prop where
  ones : y.ones = runEnd 1 x.part
  ins : y.ins = (x.seen && !abortL x.part)
  kept : y.ins = true → y.kept = (plain x.part).take 2248
  errs : y.errs = x.errs + (if x.seen && abortL x.part then 1 else 0)
  outs : L = x.outs
theorem keep_take (p : List Int) (b : Int) : keepL true (p.take 2248) b = (p ++ [b]).take 2248 := by
  unfold keepL
  split
  · rename_i h
    have h := h.2
    rw [List.length_take] at h
    rw [List.take_of_length_le (by omega : p.length ≤ 2248), List.take_of_length_le (by rw [List.length_append, List.length_singleton]; omega)]
  · rename_i h
    rw [List.length_take] at h
    have h : 2248 ≤ p.length := by simp at h; omega
    rw [List.take_append_of_le_length h]
theorem front_take (p : List Int) : front (p.take 2248) = front p ∨ (badC (front (p.take 2248)) ∧ badC (front p) ∧ 0 < (front (p.take 2248)).length ∧ 0 < (front p).length) := by
  by_cases h : p.length ≤ 2248
  · left; rw [List.take_of_length_le h]
  · right
    have h1 : (front (p.take 2248)).length = 2241 := by unfold front; rw [List.length_take, List.length_take]; omega
    have h2 : (front p).length = p.length - 7 := by unfold front; rw [List.length_take]; omega
    unfold badC
    omega
theorem agree_step {x : RS} {y : Sc} {L : List (List Int)} (h : Agree x y L) (b : Int) (hb : b = 0 ∨ b = 1) : Agree (x.step b) (y.step b).1 (addC L (y.step b).2) := by
  obtain ⟨ho, hi, hk, he, hl⟩ := h
  subst hl
  unfold RS.step Sc.step
  rw [ho]
  by_cases h6 : b = 0 ∧ runEnd 1 x.part = 6
  · rw [if_pos h6, if_pos h6]
    have hab : abortL (x.part ++ [b]) = abortL x.part := by
      rw [abortL_snoc, runEnd_snoc, if_neg (by omega)]; simp
    have hj : judgeR (x.part ++ [b]) = judge (plain x.part) (abortL x.part) := by
      unfold judgeR; rw [hab, List.dropLast_concat]
    rw [hj]
    cases hs : x.seen with
    | false =>
      rw [hs] at hi he
      simp only [Bool.false_and] at hi he
      have hf : y.fin = (⟨true, 0, [], y.errs⟩, []) := by unfold Sc.fin; rw [if_neg (by simp [hi])]
      rw [hf]
      refine ⟨rfl, rfl, fun _ => rfl, ?_, ?_⟩
      · simp only [he, abortL_nil]; simp
      · simp [addC]
    | true =>
      rw [hs] at hi he
      simp only [Bool.true_and] at hi he
      cases ha : abortL x.part with
      | true =>
        rw [ha] at hi he
        simp only [Bool.not_true] at hi
        have hf : y.fin = (⟨true, 0, [], y.errs⟩, []) := by unfold Sc.fin; rw [if_neg (by simp [hi])]
        rw [hf]
        refine ⟨rfl, rfl, fun _ => rfl, ?_, ?_⟩
        · simp [he, abortL_nil, judge]
        · simp [addC, judge]
      | false =>
        rw [ha] at hi he
        simp only [Bool.not_false] at hi
        have hk := hk hi
        have hft := front_take (plain x.part)
        by_cases h0 : 0 < (front (plain x.part)).length
        · have h0' : 0 < (front ((plain x.part).take 2248)).length := by
            rcases hft with h | h
            · rw [h]; exact h0
            · exact h.2.2.1
          by_cases hbad : badC (front (plain x.part))
          · have hbad' : badC (front ((plain x.part).take 2248)) := by
              rcases hft with h | h
              · rw [h]; exact hbad
              · exact h.1
            have hf : y.fin = (⟨true, 0, [], y.errs + 1⟩, []) := by unfold Sc.fin; rw [hk, if_pos ⟨hi, h0'⟩, if_pos hbad']
            have hj : judge (plain x.part) false = ([], 1) := by unfold judge; rw [if_neg (by decide), if_neg (by omega), if_pos hbad]
            rw [hf, hj]
            refine ⟨rfl, rfl, fun _ => rfl, ?_, ?_⟩
            · simp [he, abortL_nil]
            · simp [addC]
          · have heq : front ((plain x.part).take 2248) = front (plain x.part) := by
              rcases hft with h | h
              · exact h
              · exact absurd h.2.1 hbad
            have hf : y.fin = (⟨true, 0, [], y.errs⟩, octs (front (plain x.part))) := by unfold Sc.fin; rw [hk, heq, if_pos ⟨hi, h0⟩, if_neg hbad]
            have hj : judge (plain x.part) false = ([octs (front (plain x.part))], 0) := by unfold judge; rw [if_neg (by decide), if_neg (by omega), if_neg hbad]
            rw [hf, hj]
            refine ⟨rfl, rfl, fun _ => rfl, ?_, ?_⟩
            · simp [he, abortL_nil]
            · simp [addC, octs_ne hbad]
        · have h0' : ¬ 0 < (front ((plain x.part).take 2248)).length := by
            rcases hft with h | h
            · rw [h]; exact h0
            · exact absurd h.2.2.2 h0
          have hf : y.fin = (⟨true, 0, [], y.errs⟩, []) := by unfold Sc.fin; rw [hk, if_neg (fun h => h0' h.2)]
          have hj : judge (plain x.part) false = ([], 0) := by unfold judge; rw [if_neg (by decide), if_pos (by omega)]
          rw [hf, hj]
          refine ⟨rfl, rfl, fun _ => rfl, ?_, ?_⟩
          · simp [he, abortL_nil]
          · simp [addC]
  · rw [if_neg h6, if_neg h6]
    have hcnt : cnt (runEnd 1 x.part) b = runEnd 1 (x.part ++ [b]) := by
      unfold cnt
      rw [runEnd_snoc]
      rcases hb with rfl | rfl <;> simp
    by_cases h5 : b = 0 ∧ runEnd 1 x.part = 5
    · rw [if_pos h5]
      obtain ⟨rfl, h5⟩ := h5
      have hr : runEnd 1 (x.part ++ [0]) = 0 := by rw [runEnd_snoc, if_neg (by decide)]
      have hab : abortL (x.part ++ [0]) = abortL x.part := by rw [abortL_snoc, hr]; simp
      refine ⟨hr.symm, by rw [hab]; exact hi, fun h => ?_, by rw [hab]; exact he, by simp [addC]⟩
      rw [plain_snoc, if_neg (by simp [h5])]
      exact hk h
    · rw [if_neg h5, hcnt]
      have hp : plain (x.part ++ [b]) = plain x.part ++ [b] := by
        rw [plain_snoc, if_pos]
        rcases hb with rfl | rfl
        · right; intro h; exact h5 ⟨rfl, h⟩
        · left; rfl
      have hk' : y.ins = true → keepL y.ins y.kept b = (plain (x.part ++ [b])).take 2248 := by
        intro h
        rw [hp, hk h, h, keep_take]
      by_cases h7 : 6 < runEnd 1 (x.part ++ [b]) ∧ y.ins = true
      · rw [if_pos h7]
        obtain ⟨h7, hin⟩ := h7
        rw [hi, Bool.and_eq_true, Bool.not_eq_true'] at hin
        have hle := abortL_run _ hin.2
        have h77 : runEnd 1 (x.part ++ [b]) = 7 := by
          rw [runEnd_snoc] at h7 ⊢
          split at h7 <;> split <;> omega
        have hab : abortL (x.part ++ [b]) = true := by rw [abortL_snoc, h77]; simp
        refine ⟨rfl, by rw [hab]; simp, fun h => by simp at h, ?_, by simp [addC]⟩
        simp [hab, he, hin.1, hin.2]
      · rw [if_neg h7]
        have hab : x.seen = true → abortL (x.part ++ [b]) = abortL x.part := by
          intro hs
          cases ha : abortL x.part with
          | true => rw [abortL_snoc, ha]; rfl
          | false =>
            have hin : y.ins = true := by rw [hi, hs, ha]; rfl
            have : ¬ runEnd 1 (x.part ++ [b]) = 7 := fun e => h7 ⟨by omega, hin⟩
            rw [abortL_snoc, ha]
            simpa using this
        refine ⟨rfl, ?_, hk', ?_, by simp [addC]⟩
        · cases hs : x.seen with
          | false => simp [hi, hs]
          | true => simp only [hab hs]; rw [hi, hs]
        · cases hs : x.seen with
          | false => simp [he, hs]
          | true => simp only [hab hs]; rw [he, hs]
theorem agree (l : List Int) (hb : Bin l) : Agree (rs l) (feed Sc.zero l).1 (feed Sc.zero l).2 := by
  induction l using snocInd with
  | h0 => exact ⟨rfl, rfl, (fun h => by cases h), rfl, rfl⟩
  | h1 l x ih =>
    rw [rs_snoc, feed_snoc]
    exact agree_step (ih hb.left) x hb.last
/-! ## The ends of flags, and what lies between them -/
def endsL (s : List Int) : List Nat := (List.range s.length).flatMap fun i => if s.getD i 0 = 0 ∧ runEnd 1 (s.take i) = 6 then [i + 1] else []
theorem endsL_nil : endsL [] = [] := rfl
theorem flatMap_congr' {n : Nat} {f g : Nat → List Nat} (h : ∀ i, i < n → f i = g i) : (List.range n).flatMap f = (List.range n).flatMap g := by
  induction n with
  | zero => rfl
  | succ n ih => rw [List.range_succ, List.flatMap_append, List.flatMap_append, ih (fun i hi => h i (by omega))]; simp [h n (by omega)]
theorem endsL_snoc (s : List Int) (b : Int) : endsL (s ++ [b]) = endsL s ++ if b = 0 ∧ runEnd 1 s = 6 then [s.length + 1] else [] := by
  unfold endsL
  rw [List.length_append, List.length_singleton, List.range_succ, List.flatMap_append]
  congr 1
  · refine flatMap_congr' fun i hi => ?_
    rw [List.take_append_of_le_length (by omega), List.getD_eq_getElem?_getD, List.getElem?_append_left hi, ← List.getD_eq_getElem?_getD]
  · simp [List.getD_eq_getElem?_getD]
theorem endsL_le (s : List Int) : ∀ e ∈ endsL s, 1 ≤ e ∧ e ≤ s.length := by
  induction s using snocInd with
  | h0 => simp [endsL]
  | h1 s b ih =>
    intro e he
    rw [endsL_snoc] at he
    rw [List.length_append, List.length_singleton]
    rcases List.mem_append.1 he with h | h
    · have := ih e h; omega
    · split at h
      · simp at h; omega
      · simp at h
def lastE (E : List Nat) : Nat := E.getD (E.length - 1) 0
def partOf (s : List Int) (E : List Nat) (i : Nat) : List Int := (s.take (E.getD i 0)).drop (E.getD (i - 1) 0)
def outsR (s : List Int) (E : List Nat) : Nat → List (List Int) × Int
  | 0 => ([], 0)
  | k + 1 => ((outsR s E k).1 ++ (judgeR (partOf s E (k + 1))).1, (outsR s E k).2 + (judgeR (partOf s E (k + 1))).2)
theorem getD_app (A B : List Nat) (i : Nat) (h : i < A.length) : (A ++ B).getD i 0 = A.getD i 0 := by
  rw [List.getD_eq_getElem?_getD, List.getElem?_append_left h, ← List.getD_eq_getElem?_getD]
theorem getD_le {s : List Int} {E : List Nat} (h : ∀ e ∈ E, 1 ≤ e ∧ e ≤ s.length) (i : Nat) : E.getD i 0 ≤ s.length := by
  by_cases hi : i < E.length
  · have := h E[i] (List.getElem_mem hi)
    simp only [List.getD_eq_getElem?_getD, List.getElem?_eq_getElem hi, Option.getD_some]
    exact this.2
  · simp [List.getD_eq_getElem?_getD, List.getElem?_eq_none (by omega : E.length ≤ i)]
theorem outsR_more (s : List Int) (E : List Nat) (b : Int) (F : List Nat) (h : ∀ e ∈ E, 1 ≤ e ∧ e ≤ s.length) (k : Nat) (hk : k < E.length ∨ k = 0) : outsR (s ++ [b]) (E ++ F) k = outsR s E k := by
  induction k with
  | zero => rfl
  | succ k ih =>
    have hp : partOf (s ++ [b]) (E ++ F) (k + 1) = partOf s E (k + 1) := by
      unfold partOf
      rw [getD_app _ _ _ (by omega), getD_app _ _ _ (by omega), List.take_append_of_le_length (getD_le h _)]
    simp only [outsR]
    rw [hp, ih (by omega)]
structure Whole (s : List Int) : Prop where
  seen : (rs s).seen = decide (0 < (endsL s).length)
  part : (rs s).part = s.drop (lastE (endsL s))
  outs : ((rs s).outs, (rs s).errs) = outsR s (endsL s) ((endsL s).length - 1)
  run : runEnd 1 (rs s).part = runEnd 1 s
theorem whole (s : List Int) : Whole s := by
  induction s using snocInd with
  | h0 => exact ⟨rfl, rfl, rfl, rfl⟩
  | h1 s b ih =>
    obtain ⟨h1, h2, h3, h4⟩ := ih
    have hle := endsL_le s
    have hll : lastE (endsL s) ≤ s.length := getD_le hle _
    by_cases h6 : b = 0 ∧ runEnd 1 s = 6
    · have e1 : rs (s ++ [b]) = ⟨true, [], if (rs s).seen then (rs s).outs ++ (judgeR ((rs s).part ++ [b])).1 else (rs s).outs, if (rs s).seen then (rs s).errs + (judgeR ((rs s).part ++ [b])).2 else (rs s).errs⟩ := by
        rw [rs_snoc]; unfold RS.step; rw [h4, if_pos h6]
      have e2 : endsL (s ++ [b]) = endsL s ++ [s.length + 1] := by rw [endsL_snoc, if_pos h6]
      have e3 : lastE (endsL s ++ [s.length + 1]) = s.length + 1 := by simp [lastE, List.getD_eq_getElem?_getD]
      refine ⟨?_, ?_, ?_, ?_⟩
      · rw [e1, e2]; simp
      · rw [e1, e2, e3]; simp
      · rw [e1, e2]
        rw [h1]
        simp only [decide_eq_true_eq, List.length_append, List.length_singleton, Nat.add_sub_cancel]
        by_cases h0 : 0 < (endsL s).length
        · rw [if_pos h0, if_pos h0]
          obtain ⟨m, hm⟩ : ∃ m, (endsL s).length = m + 1 := ⟨_, (Nat.succ_pred_eq_of_pos h0).symm⟩
          have h3' := h3
          rw [hm, Nat.add_sub_cancel] at h3'
          rw [hm]
          simp only [outsR]
          rw [outsR_more s (endsL s) b _ hle m (by omega), ← h3']
          have hp : partOf (s ++ [b]) (endsL s ++ [s.length + 1]) (m + 1) = (rs s).part ++ [b] := by
            unfold partOf
            rw [Nat.add_sub_cancel, getD_app _ _ m (by omega), h2]
            have : (endsL s ++ [s.length + 1]).getD (m + 1) 0 = s.length + 1 := by simp [List.getD_eq_getElem?_getD, hm]
            rw [this, List.take_of_length_le (by simp), List.drop_append_of_le_length (getD_le hle _)]
            unfold lastE
            rw [hm, Nat.add_sub_cancel]
          rw [hp]
        · have h00 : (endsL s).length = 0 := by omega
          rw [if_neg h0, if_neg h0, h00]
          rw [h00] at h3
          exact h3
      · have e0 : runEnd 1 (s ++ [b]) = 0 := by rw [runEnd_snoc, if_neg (by omega)]
        rw [e1, e0]
        rfl
    · have e1 : rs (s ++ [b]) = ⟨(rs s).seen, (rs s).part ++ [b], (rs s).outs, (rs s).errs⟩ := by
        rw [rs_snoc]; unfold RS.step; rw [h4, if_neg h6]
      have e2 : endsL (s ++ [b]) = endsL s := by rw [endsL_snoc, if_neg h6, List.append_nil]
      refine ⟨?_, ?_, ?_, ?_⟩
      · rw [e1, e2]; exact h1
      · rw [e1, e2, List.drop_append_of_le_length hll, h2]
      · rw [e1, e2]
        have := outsR_more s (endsL s) b [] hle ((endsL s).length - 1) (by omega)
        rw [List.append_nil] at this
        rw [this]
        exact h3
      · rw [e1]
        rw [runEnd_snoc, runEnd_snoc, h4]
/-- The scan of a whole stream: contents, errors, hunting. -/
def scanL (s : List Int) : List (List Int) × Int × Bool :=
  if (endsL s).length = 0 then ([], 0, true)
  else ((outsR s (endsL s) ((endsL s).length - 1)).1, (outsR s (endsL s) ((endsL s).length - 1)).2 + (if abortL (s.drop (lastE (endsL s))) then 1 else 0), abortL (s.drop (lastE (endsL s))))
theorem scan_feed (s : List Int) (hb : Bin s) : scanL s = ((feed Sc.zero s).2, (feed Sc.zero s).1.errs, !(feed Sc.zero s).1.ins) := by
  obtain ⟨_, hi, _, he, hl⟩ := agree s hb
  obtain ⟨h1, h2, h3, _⟩ := whole s
  rw [hl, he, hi, h1, h2]
  unfold scanL
  split
  · rename_i h0
    rw [h0] at h3
    have h3 : ((rs s).outs, (rs s).errs) = ([], 0) := h3
    simp only [Prod.mk.injEq] at h3
    rw [h3.1, h3.2, h0]
    simp
  · rename_i h0
    have : decide (0 < (endsL s).length) = true := by simp; omega
    rw [this, ← h3]
    simp
end Go.Proofs.YtnecdmihnndebaaDoor
