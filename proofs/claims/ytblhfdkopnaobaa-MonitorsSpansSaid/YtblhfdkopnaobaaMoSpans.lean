/- Monitors: spans are blind for the order of their units; sums (mathematics). -/
import Derived.Test.YtblhfdkopnaobaaMoFirstM
import Derived.Test.YtblhfdkopnaobaaMoRate
namespace Go.Proofs.Ytblhfdkopnaobaa

theorem anyWrong_iff (l : List Bool) (a s : Nat) : anyWrong l a s = true ↔ ∃ q, q < s ∧ l.getD (a + q) true = false := by
  unfold anyWrong
  rw [List.any_eq_true]
  constructor
  · rintro ⟨b, hb, hn⟩
    obtain ⟨q, hq, rfl⟩ := List.mem_iff_getElem.1 hb
    rw [List.length_take, List.length_drop] at hq
    refine ⟨q, by omega, ?_⟩
    rw [List.getElem_take, List.getElem_drop] at hn
    rw [List.getD_eq_getElem?_getD, List.getElem?_eq_getElem (by omega), Option.getD_some]
    simpa using hn
  · rintro ⟨q, hq, h⟩
    have hlen : a + q < l.length := by
      rcases Nat.lt_or_ge (a + q) l.length with h2 | h2
      · exact h2
      · rw [List.getD_eq_getElem?_getD, List.getElem?_eq_none h2] at h; cases h
    refine ⟨false, ?_, rfl⟩
    rw [List.getD_eq_getElem?_getD, List.getElem?_eq_getElem hlen, Option.getD_some] at h
    rw [List.mem_iff_getElem]
    refine ⟨q, by rw [List.length_take, List.length_drop]; omega, ?_⟩
    rw [List.getElem_take, List.getElem_drop, h]
/-- Where the turned unit number i comes from. -/
def tpos (n size by_ i : Nat) : Nat := i / size * size + (i - i / size * size + by_) % min size (n - i / size * size)
def turn (l : List Bool) (size by_ : Nat) : List Bool := (List.range l.length).map fun i => l.getD (tpos l.length size by_ i) true
theorem turn_length (l : List Bool) (s b : Nat) : (turn l s b).length = l.length := by simp [turn]
theorem turn_getD (l : List Bool) (s b i : Nat) (h : i < l.length) : (turn l s b).getD i true = l.getD (tpos l.length s b i) true := by
  simp [turn, List.getD_eq_getElem?_getD, h]
theorem tpos_lt {n s b i : Nat} (hs : 1 ≤ s) (hi : i < n) : tpos n s b i < n := by
  unfold tpos
  have h1 : i / s * s ≤ i := Nat.div_mul_le_self i s
  have h2 : (i - i / s * s + b) % min s (n - i / s * s) < min s (n - i / s * s) := Nat.mod_lt _ (by omega)
  omega
theorem tpos_span {n s b a q : Nat} (ha : a % s = 0) (hq : q < s) (hn : a + s ≤ n) : tpos n s b (a + q) = a + (q + b) % s := by
  have h1 : (a + q) / s * s = a := by
    have h2 := Nat.div_add_mod (a + q) s
    have h3 : (a + q) % s = q := by rw [Nat.add_mod, ha, Nat.zero_add, Nat.mod_mod, Nat.mod_eq_of_lt hq]
    rw [h3, Nat.mul_comm] at h2
    omega
  unfold tpos
  rw [h1, show a + q - a = q from by omega, Nat.min_eq_left (by omega)]
theorem turn_any (l : List Bool) (s b a : Nat) (hs : 1 ≤ s) (ha : a % s = 0) (hn : a + s ≤ l.length) : anyWrong (turn l s b) a s = anyWrong l a s := by
  rw [Bool.eq_iff_iff, anyWrong_iff, anyWrong_iff]
  constructor
  · rintro ⟨q, hq, h⟩
    rw [turn_getD _ _ _ _ (by omega), tpos_span ha hq hn] at h
    exact ⟨(q + b) % s, Nat.mod_lt _ (by omega), h⟩
  · rintro ⟨q, hq, h⟩
    have hb := Nat.mod_lt b (show 0 < s by omega)
    refine ⟨(q + (s - b % s)) % s, Nat.mod_lt _ (by omega), ?_⟩
    have h2 := Nat.mod_lt (q + (s - b % s)) (show 0 < s by omega)
    rw [turn_getD _ _ _ _ (by omega), tpos_span ha h2 hn]
    have e : ((q + (s - b % s)) % s + b) % s = q := by
      rw [Nat.add_mod, Nat.mod_mod, ← Nat.add_mod, show q + (s - b % s) + b = q + ((s - b % s) + b) from by omega, Nat.add_mod]
      have : ((s - b % s) + b) % s = 0 := by
        have h3 := Nat.div_add_mod b s
        have h4 : (s - b % s) + b = s * (b / s + 1) := by rw [Nat.mul_add, Nat.mul_one]; omega
        rw [h4, Nat.mul_mod_right]
      rw [this, Nat.add_zero, Nat.mod_mod, Nat.mod_eq_of_lt hq]
    rw [e]; exact h
theorem turn_lev (lim s u d b : Nat) (l : List Bool) (hs : 1 ≤ s) (i : Nat) (hi : i ≤ l.length) : lev .span lim s u d (turn l s b) i = lev .span lim s u d l i := by
  induction i with
  | zero => rfl
  | succ i ih =>
    unfold lev
    rw [ih (by omega)]
    split
    · unfold lvStep
      dsimp only
      split
      · rfl
      · have h0 : (i + 1) % s = 0 := by omega
        have h1 : s ≤ i + 1 := by
          rcases Nat.lt_or_ge (i + 1) s with h | h
          · rw [Nat.mod_eq_of_lt h] at h0; omega
          · exact h
        rw [turn_any l s b (i + 1 - s) hs (by
          have h2 := Nat.mod_add_div (i + 1) s
          rw [h0, Nat.zero_add] at h2
          have h3 : i + 1 - s = s * ((i + 1) / s - 1) := by rw [Nat.mul_sub, Nat.mul_one, h2]
          rw [h3, Nat.mul_mod_right]) (by omega)]
    · rfl
theorem turn_run (lim s u d b : Nat) (l : List Bool) (hs : 1 ≤ s) (i : Nat) (hi : i ≤ l.length) :
    ((Mo.new .span lim s u d).run ((turn l s b).take i)).lvl = ((Mo.new .span lim s u d).run (l.take i)).lvl := by
  rw [run_level _ _ _ _ _ _ hs _ (by rw [turn_length]; exact hi), run_level _ _ _ _ _ _ hs _ hi, turn_lev lim s u d b l hs i hi]
theorem first_congr {m : Mo} {l k : List Bool} (hl : k.length = l.length) (h : ∀ i, i ≤ l.length → (m.run (k.take i)).lvl = (m.run (l.take i)).lvl) : m.firstI k = m.firstI l := by
  unfold Mo.firstI
  cases hf : m.first l with
  | none =>
    have h1 := (Mo.first_none_iff _ _).1 hf
    rw [(Mo.first_none_iff _ _).2 (fun i hi => by rw [hl] at hi; rw [h i hi]; exact h1 i hi)]
  | some j =>
    obtain ⟨a, b, c⟩ := Mo.first_some hf
    rw [Mo.first_eq_some (k := j) (by omega) (by rw [h j a]; exact b) (fun i hi => by rw [h i (by omega)]; exact c i hi)]
theorem turn_first (lim s u d b : Nat) (l : List Bool) (hs : 1 ≤ s) : (Mo.new .span lim s u d).firstI (turn l s b) = (Mo.new .span lim s u d).firstI l :=
  first_congr (turn_length _ _ _) (fun i hi => turn_run lim s u d b l hs i hi)
theorem turn_after (lim s u d b : Nat) (l : List Bool) (hs : 1 ≤ s) : ((Mo.new .span lim s u d).after (turn l s b)).lvl = ((Mo.new .span lim s u d).after l).lvl := by
  rw [after_lvl, after_lvl]
  have h := turn_run lim s u d b l hs l.length (Nat.le_refl _)
  rw [List.take_length] at h
  rw [← h, ← turn_length l s b, List.take_length]
theorem sum_lvl (lim : Nat) (l : List Bool) (i : Nat) (hi : i ≤ l.length) : ((Mo.new .sum lim 1 1 1).run (l.take i)).lvl = min (wrs (l.take i)) lim := by
  induction i with
  | zero => simp [Mo.run, Mo.new, wrs]
  | succ i ih =>
    have ih := ih (by omega)
    rw [Mo.run_take_succ _ _ _ (by omega), wrs_take_succ l i (by omega)]
    obtain ⟨m, hm⟩ : ∃ m, m = (Mo.new .sum lim 1 1 1).run (l.take i) := ⟨_, rfl⟩
    have ek : m.kd = .sum := by rw [hm, Mo.run_kd]; rfl
    have el : m.lim = lim := by rw [hm, Mo.run_lim]; rfl
    rw [← hm] at ih ⊢
    have e : (m.count (l.getD i true)).lvl = m.one (l.getD i true) := by unfold Mo.count; rw [ek]
    rw [e]
    unfold Mo.one
    rw [el, ih]
    split <;> omega
theorem sum_over (lim : Nat) (l : List Bool) (i : Nat) (hi : i ≤ l.length) : ((Mo.new .sum lim 1 1 1).run (l.take i)).over = decide (lim ≤ wrs (l.take i)) := by
  unfold Mo.over
  rw [sum_lvl lim l i hi, Mo.run_lim]
  show decide (min _ lim = lim) = _
  exact decide_eq_decide.2 (by omega)
theorem set_turn {l : List Bool} {n : Nat} (hl : l.length = n) (j : Nat) (hj : j < n) : (l.take j ++ List.replicate (n - j) false).set j (l.getD j true) = l.take (j + 1) ++ List.replicate (n - (j + 1)) false := by
  have h1 : (l.take j).length = j := by rw [List.length_take]; omega
  rw [List.set_append_right _ _ (by omega), h1, Nat.sub_self, take_snoc l j true (by omega), show n - j = (n - (j + 1)) + 1 from by omega, List.replicate_succ, List.set_cons_zero, List.append_assoc]
  rfl
end Go.Proofs.Ytblhfdkopnaobaa
