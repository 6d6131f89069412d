/- Monitors: the mathematics (no program in it). -/
import Derived.Test.YtgfiikbecapodaaRows
namespace Go.Proofs.Ytgfiikbecapodaa

inductive Kd | rate | sum | span
/-- A monitor of the code in plain data. -/
structure Mo where
  kd : Kd
  lim : Nat
  size : Nat
  up : Nat
  down : Nat
  lvl : Nat
  cnt : Nat
  wrong : Bool
/-- One more wrong unit. -/
def Mo.one (m : Mo) (ok : Bool) : Nat := if ok then m.lvl else min (m.lvl + 1) m.lim
def Mo.count (m : Mo) (ok : Bool) : Mo :=
  match m.kd with
  | .rate => if m.one ok = m.lim then { m with lvl := m.one ok } else if m.cnt + 1 = m.size then { m with lvl := m.one ok - 1, cnt := 0 } else { m with lvl := m.one ok, cnt := m.cnt + 1 }
  | .sum => { m with lvl := m.one ok }
  | .span => if m.lvl = m.lim then m else if m.cnt + 1 = m.size then { m with lvl := if m.wrong || !ok then min (m.lvl + m.up) m.lim else m.lvl - m.down, cnt := 0, wrong := false }
    else { m with cnt := m.cnt + 1, wrong := m.wrong || !ok }
def Mo.reset (m : Mo) : Mo := { m with lvl := 0, cnt := 0, wrong := false }
def Mo.new (k : Kd) (lim size up down : Nat) : Mo := ⟨k, lim, size, up, down, 0, 0, false⟩
def Mo.over (m : Mo) : Bool := decide (m.lvl = m.lim)
def Mo.run (m : Mo) : List Bool → Mo
  | [] => m
  | b :: l => (m.count b).run l
structure Mo.Fit (m : Mo) : Prop where
  lim0 : 1 ≤ m.lim
  lim1 : m.lim ≤ 1048576
  lvl : m.lvl ≤ m.lim
  size0 : 1 ≤ m.size
  size1 : m.size ≤ 1048576
  up1 : m.up ≤ 1048576
  down1 : m.down ≤ 1048576
  cnt : m.cnt < m.size
theorem Mo.one_le {m : Mo} (h : m.lvl ≤ m.lim) (ok : Bool) : m.one ok ≤ m.lim := by
  unfold Mo.one; split <;> omega
theorem Mo.count_kd (m : Mo) (ok : Bool) : (m.count ok).kd = m.kd := by unfold Mo.count; split <;> (repeat' split) <;> simp_all
theorem Mo.count_lim (m : Mo) (ok : Bool) : (m.count ok).lim = m.lim := by unfold Mo.count; split <;> (repeat' split) <;> simp_all
theorem Mo.count_size (m : Mo) (ok : Bool) : (m.count ok).size = m.size := by unfold Mo.count; split <;> (repeat' split) <;> simp_all
theorem Mo.count_up (m : Mo) (ok : Bool) : (m.count ok).up = m.up := by unfold Mo.count; split <;> (repeat' split) <;> simp_all
theorem Mo.count_down (m : Mo) (ok : Bool) : (m.count ok).down = m.down := by unfold Mo.count; split <;> (repeat' split) <;> simp_all
theorem Mo.Fit.count {m : Mo} (h : m.Fit) (ok : Bool) : (m.count ok).Fit := by
  have h1 := Mo.one_le h.lvl ok
  obtain ⟨a, b, c, d, e, f, g, i⟩ := h
  refine ⟨by rw [Mo.count_lim]; exact a, by rw [Mo.count_lim]; exact b, ?_, by rw [Mo.count_size]; exact d, by rw [Mo.count_size]; exact e, by rw [Mo.count_up]; exact f, by rw [Mo.count_down]; exact g, ?_⟩
  · rw [Mo.count_lim]; unfold Mo.count; split <;> (repeat' split) <;> simp_all <;> omega
  · rw [Mo.count_size]; unfold Mo.count; split <;> (repeat' split) <;> simp_all <;> omega
theorem Mo.Fit.reset {m : Mo} (h : m.Fit) : m.reset.Fit := ⟨h.lim0, h.lim1, Nat.zero_le _, h.size0, h.size1, h.up1, h.down1, by have := h.size0; show 0 < m.size; omega⟩
theorem Mo.Fit.new {k : Kd} {lim size up down : Nat} (h1 : 1 ≤ lim) (h2 : lim ≤ 1048576) (h3 : 1 ≤ size) (h4 : size ≤ 1048576) (h5 : up ≤ 1048576) (h6 : down ≤ 1048576) : (Mo.new k lim size up down).Fit :=
  ⟨h1, h2, Nat.zero_le _, h3, h4, h5, h6, h3⟩
theorem Mo.run_append (m : Mo) (l k : List Bool) : m.run (l ++ k) = (m.run l).run k := by
  induction l generalizing m with
  | nil => rfl
  | cons b l ih => exact ih _
theorem Mo.run_snoc (m : Mo) (l : List Bool) (b : Bool) : m.run (l ++ [b]) = (m.run l).count b := Mo.run_append m l [b]
theorem take_snoc {α} (l : List α) (i : Nat) (d : α) (h : i < l.length) : l.take (i + 1) = l.take i ++ [l.getD i d] := by
  rw [List.take_succ_eq_append_getElem h]; simp [List.getD_eq_getElem?_getD, h]
theorem Mo.run_take_succ (m : Mo) (l : List Bool) (i : Nat) (h : i < l.length) : m.run (l.take (i + 1)) = (m.run (l.take i)).count (l.getD i true) := by
  rw [take_snoc l i true h, Mo.run_snoc]
theorem Mo.run_lim (m : Mo) (l : List Bool) : (m.run l).lim = m.lim := by
  induction l generalizing m with
  | nil => rfl
  | cons b l ih => rw [Mo.run, ih, Mo.count_lim]
theorem Mo.run_kd (m : Mo) (l : List Bool) : (m.run l).kd = m.kd := by
  induction l generalizing m with
  | nil => rfl
  | cons b l ih => rw [Mo.run, ih, Mo.count_kd]
theorem Mo.run_size (m : Mo) (l : List Bool) : (m.run l).size = m.size := by
  induction l generalizing m with
  | nil => rfl
  | cons b l ih => rw [Mo.run, ih, Mo.count_size]
theorem Mo.run_up (m : Mo) (l : List Bool) : (m.run l).up = m.up := by
  induction l generalizing m with
  | nil => rfl
  | cons b l ih => rw [Mo.run, ih, Mo.count_up]
theorem Mo.run_down (m : Mo) (l : List Bool) : (m.run l).down = m.down := by
  induction l generalizing m with
  | nil => rfl
  | cons b l ih => rw [Mo.run, ih, Mo.count_down]
theorem Mo.Fit.run {m : Mo} (h : m.Fit) (l : List Bool) : (m.run l).Fit := by
  induction l generalizing m with
  | nil => exact h
  | cons b l ih => exact ih (h.count b)
theorem Mo.reset_run (k : Kd) (lim size up down : Nat) (l : List Bool) : ((Mo.new k lim size up down).run l).reset = Mo.new k lim size up down := by
  unfold Mo.reset
  rw [Mo.run_kd, Mo.run_lim, Mo.run_size, Mo.run_up, Mo.run_down]; rfl
theorem Mo.over_count {m : Mo} (h : m.lvl = m.lim) (ok : Bool) : (m.count ok).lvl = m.lim := by
  have h1 : m.one ok = m.lim := by unfold Mo.one; split <;> omega
  unfold Mo.count; split <;> (repeat' split) <;> simp_all
theorem Mo.over_run {m : Mo} (h : m.lvl = m.lim) (l : List Bool) : (m.run l).lvl = m.lim := by
  induction l generalizing m with
  | nil => exact h
  | cons b l ih => rw [Mo.run, ih (by rw [Mo.over_count h, Mo.count_lim]), Mo.count_lim]
/-- The number of the unit with which it is over. -/
def Mo.first (m : Mo) : List Bool → Option Nat
  | [] => if m.over then some 0 else none
  | b :: l => if m.over then some 0 else ((m.count b).first l).map (· + 1)
/-- How many First counts. -/
def Mo.after (m : Mo) : List Bool → Mo
  | [] => m
  | b :: l => if m.over then m else (m.count b).after l
theorem Mo.first_none_iff (m : Mo) (l : List Bool) : m.first l = none ↔ ∀ i, i ≤ l.length → (m.run (l.take i)).lvl ≠ m.lim := by
  induction l generalizing m with
  | nil =>
    unfold Mo.first Mo.over
    constructor
    · intro h i hi
      obtain rfl : i = 0 := by simpa using hi
      intro e; simp_all [Mo.run]
    · intro h
      have := h 0 (by simp)
      simp_all [Mo.run]
  | cons b l ih =>
    unfold Mo.first Mo.over
    by_cases e : m.lvl = m.lim
    · simp only [e, decide_true, if_true]
      constructor
      · intro h; cases h
      · intro h; exact absurd e (h 0 (by simp))
    · simp only [e, decide_false, Bool.false_eq_true, if_false, Option.map_eq_none_iff]
      rw [ih]
      constructor
      · intro h i hi
        cases i with
        | zero => exact e
        | succ i =>
          have := h i (by simpa using hi)
          rw [Mo.count_lim] at this
          exact this
      · intro h i hi
        have := h (i + 1) (by simpa using hi)
        rw [Mo.count_lim]
        exact this
theorem Mo.first_some {m : Mo} {l : List Bool} {k : Nat} (h : m.first l = some k) : k ≤ l.length ∧ (m.run (l.take k)).lvl = m.lim ∧ ∀ i, i < k → (m.run (l.take i)).lvl ≠ m.lim := by
  induction l generalizing m k with
  | nil =>
    unfold Mo.first Mo.over at h
    by_cases e : m.lvl = m.lim
    · simp [e] at h; subst h; exact ⟨by simp, e, fun i hi => absurd hi (Nat.not_lt_zero _)⟩
    · simp [e] at h
  | cons b l ih =>
    unfold Mo.first Mo.over at h
    by_cases e : m.lvl = m.lim
    · simp [e] at h; subst h; exact ⟨by simp, e, fun i hi => absurd hi (Nat.not_lt_zero _)⟩
    · simp only [e, decide_false, Bool.false_eq_true, if_false, Option.map_eq_some_iff] at h
      obtain ⟨j, hj, rfl⟩ := h
      obtain ⟨a, b', c⟩ := ih hj
      refine ⟨by simpa using a, by rw [Mo.count_lim] at b'; exact b', fun i hi => ?_⟩
      cases i with
      | zero => exact e
      | succ i => have := c i (by omega); rw [Mo.count_lim] at this; exact this
theorem Mo.first_eq_some {m : Mo} {l : List Bool} {k : Nat} (hk : k ≤ l.length) (h1 : (m.run (l.take k)).lvl = m.lim) (h2 : ∀ i, i < k → (m.run (l.take i)).lvl ≠ m.lim) : m.first l = some k := by
  cases h : m.first l with
  | none => exact absurd h1 ((Mo.first_none_iff m l).1 h k hk)
  | some j =>
    obtain ⟨_, b, c⟩ := Mo.first_some h
    rcases Nat.lt_trichotomy j k with hjk | rfl | hjk
    · exact absurd b (h2 j hjk)
    · rfl
    · exact absurd h1 (c k hjk)
theorem Mo.after_some {m : Mo} {l : List Bool} {k : Nat} (h : m.first l = some k) : m.after l = m.run (l.take k) := by
  induction l generalizing m k with
  | nil =>
    unfold Mo.first at h
    split at h
    · cases h; rfl
    · cases h
  | cons b l ih =>
    unfold Mo.first at h
    unfold Mo.after
    split at h
    · cases h; rw [if_pos (by assumption)]; rfl
    · rw [if_neg (by assumption)]
      rw [Option.map_eq_some_iff] at h
      obtain ⟨j, hj, rfl⟩ := h
      rw [ih hj]; rfl
theorem Mo.after_none {m : Mo} {l : List Bool} (h : m.first l = none) : m.after l = m.run l := by
  induction l generalizing m with
  | nil => rfl
  | cons b l ih =>
    unfold Mo.first at h
    unfold Mo.after
    split at h
    · cases h
    · rw [if_neg (by assumption)]
      exact ih (by simpa using h)
/-- What First returns. -/
def Mo.firstI (m : Mo) (l : List Bool) : Int := match m.first l with | some k => (k : Int) | none => -1

/-- The chapter's level: one round of its loop. -/
def anyWrong (l : List Bool) (a n : Nat) : Bool := ((l.drop a).take n).any (fun b => !b)
theorem anyWrong_zero (l : List Bool) (a : Nat) : anyWrong l a 0 = false := by simp [anyWrong]
theorem anyWrong_succ (l : List Bool) (a n : Nat) (h : a + n < l.length) : anyWrong l a (n + 1) = (anyWrong l a n || !(l.getD (a + n) true)) := by
  unfold anyWrong
  rw [take_snoc (l.drop a) n true (by rw [List.length_drop]; omega), List.any_append]
  simp [List.getD_eq_getElem?_getD]
def lvl1 (n : Nat) (ok : Bool) : Nat := if ok then n else n + 1
def lvStep (k : Kd) (lim size up down : Nat) (l : List Bool) (n i : Nat) : Nat :=
  match k with
  | .rate => if (i + 1) % size = 0 ∧ 0 < lvl1 n (l.getD i true) ∧ lvl1 n (l.getD i true) < lim then lvl1 n (l.getD i true) - 1 else lvl1 n (l.getD i true)
  | .sum => lvl1 n (l.getD i true)
  | .span => if (i + 1) % size ≠ 0 then n else if anyWrong l (i + 1 - size) size then min (n + up) lim else n - down
def lev (k : Kd) (lim size up down : Nat) (l : List Bool) : Nat → Nat
  | 0 => 0
  | i + 1 => if lev k lim size up down l i < lim then lvStep k lim size up down l (lev k lim size up down l i) i else lev k lim size up down l i
theorem lvl1_le {n lim : Nat} (h : n < lim) (ok : Bool) : lvl1 n ok ≤ lim := by unfold lvl1; split <;> omega
theorem lvStep_le {k : Kd} {lim size up down : Nat} {l : List Bool} {n i : Nat} (h : n < lim) : lvStep k lim size up down l n i ≤ lim := by
  have := lvl1_le h (l.getD i true)
  unfold lvStep
  split <;> (repeat' split) <;> omega
theorem lev_le (k : Kd) (lim size up down : Nat) (l : List Bool) (i : Nat) : lev k lim size up down l i ≤ lim := by
  induction i with
  | zero => exact Nat.zero_le _
  | succ i ih =>
    unfold lev
    split
    · exact lvStep_le (by assumption)
    · exact ih
theorem lev_stop {k : Kd} {lim size up down : Nat} {l : List Bool} {i : Nat} (h : ¬ lev k lim size up down l i < lim) (j : Nat) (hj : i ≤ j) : lev k lim size up down l j = lev k lim size up down l i := by
  induction j with
  | zero => obtain rfl : i = 0 := by omega
            rfl
  | succ j ih =>
    by_cases e : i = j + 1
    · rw [e]
    · have := ih (by omega)
      rw [lev, this, if_neg h]
theorem mod_succ {i s : Nat} (h : 0 < s) : (i % s + 1 = s ∧ (i + 1) % s = 0) ∨ (i % s + 1 < s ∧ (i + 1) % s = i % s + 1) := by
  have h1 := Nat.mod_lt i h
  by_cases e : i % s + 1 = s
  · left; refine ⟨e, ?_⟩
    rw [Nat.add_mod, show i % s + 1 % s = i % s + 1 % s from rfl]
    by_cases h2 : s = 1
    · subst h2; omega
    · rw [Nat.mod_eq_of_lt (by omega : 1 < s), e, Nat.mod_self]
  · right; refine ⟨by omega, ?_⟩
    rw [Nat.add_mod, Nat.mod_eq_of_lt (by omega : 1 < s), Nat.mod_eq_of_lt (by omega)]
/-- The code's monitor beside the chapter's level. -/
structure Beside (k : Kd) (lim size up down : Nat) (l : List Bool) (i : Nat) (m : Mo) : Prop where
  lvl : m.lvl = lev k lim size up down l i
  cnt : m.lvl < lim → k ≠ .sum → m.cnt = i % size
  wrong : m.lvl < lim → k = .span → m.wrong = anyWrong l (i - i % size) (i % size)
theorem beside (k : Kd) (lim size up down : Nat) (l : List Bool) (h3 : 1 ≤ size) (i : Nat) (hi : i ≤ l.length) : Beside k lim size up down l i ((Mo.new k lim size up down).run (l.take i)) := by
  induction i with
  | zero =>
    refine ⟨rfl, fun _ _ => ?_, fun _ _ => ?_⟩
    · rw [Nat.zero_mod]; rfl
    · rw [Nat.zero_mod, anyWrong_zero]; rfl
  | succ i ih =>
    obtain ⟨a, b, c⟩ := ih (by omega)
    rw [Mo.run_take_succ _ _ _ (by omega)]
    obtain ⟨m, hm⟩ : ∃ m, m = (Mo.new k lim size up down).run (l.take i) := ⟨_, rfl⟩
    have ek : m.kd = k := by rw [hm, Mo.run_kd]; rfl
    have el : m.lim = lim := by rw [hm, Mo.run_lim]; rfl
    have es : m.size = size := by rw [hm, Mo.run_size]; rfl
    have eu : m.up = up := by rw [hm, Mo.run_up]; rfl
    have ed : m.down = down := by rw [hm, Mo.run_down]; rfl
    rw [← hm] at a b c ⊢
    have hle := lev_le k lim size up down l i
    clear hm
    obtain ⟨ok, hok⟩ : ∃ ok, ok = l.getD i true := ⟨_, rfl⟩
    by_cases hlt : m.lvl < lim
    · have hb := b hlt
      have hc := c hlt
      have hlt' : lev k lim size up down l i < lim := by rw [← a]; exact hlt
      have hone : m.one ok = lvl1 m.lvl ok := by unfold Mo.one lvl1; split <;> omega
      rcases mod_succ (i := i) (s := size) (by omega) with ⟨e1, e2⟩ | ⟨e1, e2⟩
      all_goals
        cases k
        · have hb := hb (by simp)
          unfold Mo.count
          rw [ek]
          dsimp only
          rw [← hok, hone, el, es, hb]
          refine ⟨?_, fun h _ => ?_, fun _ h => by cases h⟩
          · rw [lev, if_pos hlt', lvStep, ← hok, ← a, e2]
            have := lvl1_le hlt ok
            repeat' split
            all_goals simp_all
            all_goals omega
          · revert h
            rw [e2]
            repeat' split
            all_goals simp_all
            all_goals omega
        · unfold Mo.count
          rw [ek]
          dsimp only
          rw [← hok, hone]
          refine ⟨?_, fun h h' => absurd rfl h', fun _ h => by cases h⟩
          rw [lev, if_pos hlt', lvStep, ← hok, ← a]
        · have hb := hb (by simp)
          have hc := hc rfl
          unfold Mo.count
          rw [ek]
          dsimp only
          rw [if_neg (by omega), ← hok, el, es, eu, ed, hb]
          have hmod := Nat.mod_le i size
          have hw : anyWrong l (i - i % size) (i % size + 1) = (m.wrong || !ok) := by
            rw [anyWrong_succ _ _ _ (by omega), ← hc, show i - i % size + i % size = i from by omega, ← hok]
          by_cases e3 : i % size + 1 = size
          · have e4 : (i + 1) % size = 0 := by omega
            rw [if_pos e3]
            refine ⟨?_, fun h _ => by (show 0 = _; rw [e4]), fun _ _ => by (show false = _; rw [e4, anyWrong_zero])⟩
            dsimp only
            rw [lev, if_pos hlt', lvStep, if_neg (by omega : ¬ (i + 1) % size ≠ 0), ← a]
            rw [show i + 1 - size = i - i % size from by omega]
            rw [e3] at hw
            rw [hw]
          · have e4 : (i + 1) % size = i % size + 1 := by omega
            rw [if_neg e3]
            refine ⟨?_, fun h _ => by (show i % size + 1 = _; rw [e4]), fun _ _ => by (show (m.wrong || !ok) = _; rw [e4, show i + 1 - (i % size + 1) = i - i % size from by omega, hw])⟩
            dsimp only
            rw [lev, if_pos hlt', lvStep, if_pos (by omega : (i + 1) % size ≠ 0), ← a]
    · have e : m.lvl = m.lim := by omega
      have e2 := Mo.over_count e ok
      rw [hok] at e2
      refine ⟨?_, fun h => by omega, fun h => by omega⟩
      rw [e2, el, lev, if_neg (by omega)]; omega
theorem run_level (k : Kd) (lim size up down : Nat) (l : List Bool) (h3 : 1 ≤ size) (i : Nat) (hi : i ≤ l.length) : ((Mo.new k lim size up down).run (l.take i)).lvl = lev k lim size up down l i := (beside k lim size up down l h3 i hi).lvl
end Go.Proofs.Ytgfiikbecapodaa
