/- Monitors: the mathematics of a Rate monitor. -/
import Derived.Test.YtblhfdkopnaobaaMoMath
namespace Go.Proofs.Ytblhfdkopnaobaa

/-- How many units are wrong. -/
def wrs : List Bool → Nat
  | [] => 0
  | b :: l => (if b then 0 else 1) + wrs l
theorem wrs_append (l k : List Bool) : wrs (l ++ k) = wrs l + wrs k := by
  induction l with
  | nil => simp [wrs]
  | cons b l ih => show _ + wrs (l ++ k) = _ + wrs l + _; rw [ih]; omega
theorem wrs_take_succ (l : List Bool) (i : Nat) (h : i < l.length) : wrs (l.take (i + 1)) = wrs (l.take i) + (if l.getD i true then 0 else 1) := by
  rw [take_snoc l i true h, wrs_append]
  show _ + ((if _ then 0 else 1) + 0) = _
  omega
theorem wrs_take_le (l : List Bool) (i : Nat) : wrs (l.take i) ≤ wrs l := by
  have h := wrs_append (l.take i) (l.drop i)
  rw [List.take_append_drop] at h
  omega
theorem wrs_le (l : List Bool) : wrs l ≤ l.length := by
  induction l with
  | nil => simp [wrs]
  | cons b l ih => show (if b then 0 else 1) + wrs l ≤ l.length + 1; split <;> omega
theorem div_succ {i s : Nat} (h : 0 < s) : (i % s + 1 = s ∧ (i + 1) / s = i / s + 1) ∨ (i % s + 1 < s ∧ (i + 1) / s = i / s) := by
  have h1 := Nat.div_add_mod i s
  have h2 := Nat.div_add_mod (i + 1) s
  rcases mod_succ (i := i) h with ⟨e1, e2⟩ | ⟨e1, e2⟩
  · left
    refine ⟨e1, ?_⟩
    apply Nat.eq_of_mul_eq_mul_left h
    rw [Nat.mul_add, Nat.mul_one]
    omega
  · right
    refine ⟨e1, ?_⟩
    apply Nat.eq_of_mul_eq_mul_left h
    omega
theorem rate_count_lvl {m : Mo} (hk : m.kd = .rate) (ok : Bool) : (m.count ok).lvl = if m.one ok = m.lim then m.one ok else if m.cnt + 1 = m.size then m.one ok - 1 else m.one ok := by
  unfold Mo.count
  rw [hk]
  dsimp only
  (repeat' split) <;> simp_all
theorem rate_up (lim size : Nat) (l : List Bool) (h3 : 1 ≤ size) (i : Nat) (hi : i ≤ l.length) (hno : ∀ j, j ≤ i → ((Mo.new .rate lim size 1 1).run (l.take j)).lvl ≠ lim) :
    wrs (l.take i) ≤ ((Mo.new .rate lim size 1 1).run (l.take i)).lvl + i / size := by
  induction i with
  | zero => simp [wrs]
  | succ i ih =>
    have ih := ih (by omega) (fun j hj => hno j (by omega))
    have hb := beside .rate lim size 1 1 l h3 i (by omega)
    have h0 := hno i (by omega)
    have h1 := hno (i + 1) (by omega)
    rw [Mo.run_take_succ _ _ _ (by omega)] at h1 ⊢
    obtain ⟨m, hm⟩ : ∃ m, m = (Mo.new .rate lim size 1 1).run (l.take i) := ⟨_, rfl⟩
    have ek : m.kd = .rate := by rw [hm, Mo.run_kd]; rfl
    have el : m.lim = lim := by rw [hm, Mo.run_lim]; rfl
    have es : m.size = size := by rw [hm, Mo.run_size]; rfl
    rw [← hm] at hb h0 h1 ih ⊢
    have hlt : m.lvl < lim := by
      have := hb.lvl
      have := lev_le .rate lim size 1 1 l i
      omega
    have hc := hb.cnt hlt (by simp)
    rw [rate_count_lvl ek, el, es, hc] at h1 ⊢
    rw [wrs_take_succ l i (by omega)]
    have ho : m.one (l.getD i true) = m.lvl + (if l.getD i true then 0 else 1) := by unfold Mo.one; rw [el]; split <;> omega
    rw [ho] at h1 ⊢
    generalize (if l.getD i true = true then 0 else 1) = x at h1 ⊢
    rcases div_succ (i := i) (s := size) (by omega) with ⟨e1, e2⟩ | ⟨e1, e2⟩
    · rw [e2]
      revert h1
      (repeat' split) <;> omega
    · rw [e2]
      revert h1
      (repeat' split) <;> omega
theorem rate_down (lim size : Nat) (l : List Bool) (i : Nat) (hi : i ≤ l.length) : ((Mo.new .rate lim size 1 1).run (l.take i)).lvl ≤ wrs (l.take i) := by
  induction i with
  | zero => exact Nat.zero_le _
  | succ i ih =>
    have ih := ih (by omega)
    rw [Mo.run_take_succ _ _ _ (by omega), wrs_take_succ l i (by omega)]
    obtain ⟨m, hm⟩ : ∃ m, m = (Mo.new .rate lim size 1 1).run (l.take i) := ⟨_, rfl⟩
    have ek : m.kd = .rate := by rw [hm, Mo.run_kd]; rfl
    rw [← hm] at ih ⊢
    rw [rate_count_lvl ek]
    have ho : m.one (l.getD i true) ≤ m.lvl + (if l.getD i true then 0 else 1) := by unfold Mo.one; split <;> omega
    (repeat' split) <;> simp_all <;> omega
theorem rate_over (lim size : Nat) (l : List Bool) (h3 : 1 ≤ size) (h : lim + l.length / size ≤ wrs l) : (Mo.new .rate lim size 1 1).first l ≠ none := by
  intro hn
  have hno := (Mo.first_none_iff _ _).1 hn
  have h1 := rate_up lim size l h3 l.length (Nat.le_refl _) hno
  have h2 := hno l.length (Nat.le_refl _)
  have h4 := run_level .rate lim size 1 1 l h3 l.length (Nat.le_refl _)
  have h5 := lev_le .rate lim size 1 1 l l.length
  rw [List.take_length] at h1 h2 h4
  have h6 : (Mo.new .rate lim size 1 1).lim = lim := rfl
  rw [h6] at h2
  omega
theorem rate_calm (lim size : Nat) (l : List Bool) (h : wrs l < lim) : (Mo.new .rate lim size 1 1).first l = none := by
  refine (Mo.first_none_iff _ _).2 fun i hi => ?_
  have h1 := rate_down lim size l i hi
  have h2 := wrs_take_le l i
  show _ ≠ lim
  omega
/-- What First returns for a Rate monitor. -/
theorem rate_says (lim size : Nat) (l : List Bool) (h3 : 1 ≤ size) :
    (lim + l.length / size ≤ wrs l → 0 ≤ (Mo.new .rate lim size 1 1).firstI l) ∧ (wrs l < lim → (Mo.new .rate lim size 1 1).firstI l < 0) := by
  constructor
  · intro h
    have := rate_over lim size l h3 h
    unfold Mo.firstI
    cases hf : (Mo.new .rate lim size 1 1).first l with
    | none => exact absurd hf this
    | some k => dsimp only; omega
  · intro h
    unfold Mo.firstI
    rw [rate_calm lim size l h]
    decide
end Go.Proofs.Ytblhfdkopnaobaa
