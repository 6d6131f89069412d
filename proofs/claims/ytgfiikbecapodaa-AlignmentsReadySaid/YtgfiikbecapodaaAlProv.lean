/- Statements of layer 9: provings (mathematics). -/
import Derived.Test.YtgfiikbecapodaaAlWalk
namespace Go.Proofs.Ytgfiikbecapodaa

def Ti.dur (t : Ti) (u : Bool) : Nat := if u then t.emer else t.normal
def Ti.lim (t : Ti) (u : Bool) : Nat := if u then t.fewer else t.few
def pvA (t : Ti) (u : Bool) (i k l : Nat) : Al := ⟨t, 3, l, u, u, i + 1, k⟩
/-- Ahead of proving i. -/
def pvSt (t : Ti) (u : Bool) (i : Nat) : Al := if i < t.most then pvA t u i 0 (t.dur u) else ⟨t, 5, 0, u, u, t.most, t.lim u⟩
/-- Behind k wrong units of proving i. -/
def pvWr (t : Ti) (u : Bool) (i k : Nat) : Al := if k < t.lim u then pvA t u i k (t.dur u) else pvSt t u (i + 1)
/-- Behind k ticks of proving i with n wrong units. -/
def pvTk (t : Ti) (u : Bool) (i n k : Nat) : Al := if k < t.dur u then pvA t u i n (t.dur u - k) else ⟨t, 4, 0, u, u, i + 1, n⟩
theorem Ti.Low.dur {t : Ti} (h : t.Low) (u : Bool) : 1 ≤ t.dur u ∧ t.dur u ≤ 12 := by
  have := h.emer; have := h.normal
  unfold Ti.dur; split <;> omega
theorem Ti.Low.lim {t : Ti} (h : t.Low) (u : Bool) : 1 ≤ t.lim u ∧ t.lim u ≤ 12 := by
  have := h.few; have := h.fewer
  unfold Ti.lim; split <;> omega
theorem pvWr_zero {t : Ti} (h : t.Low) (u : Bool) {i : Nat} (hi : i < t.most) : pvWr t u i 0 = pvSt t u i := by
  have := h.lim u
  unfold pvWr pvSt
  rw [if_pos (by omega), if_pos hi]
theorem pvTk_zero {t : Ti} (h : t.Low) (u : Bool) {i n : Nat} (hn : n < t.lim u) : pvTk t u i n 0 = pvWr t u i n := by
  have := h.dur u
  unfold pvWr pvTk
  rw [if_pos (by omega), if_pos hn]; rfl
theorem pvWr_step {t : Ti} {u : Bool} {i k : Nat} (hi : i < t.most) (hk : k < t.lim u) : (pvWr t u i k).wrong = pvWr t u i (k + 1) := by
  have e : pvWr t u i k = pvA t u i k (t.dur u) := by unfold pvWr; rw [if_pos hk]
  rw [e]
  have hl : (pvA t u i k (t.dur u)).lim = t.lim u := rfl
  unfold Al.wrong
  rw [if_pos (show (pvA t u i k (t.dur u)).ph = 3 from rfl), hl]
  unfold pvWr
  by_cases h : k + 1 < t.lim u
  · rw [if_neg (by show ¬ k + 1 = t.lim u; omega), if_pos h]; rfl
  · rw [if_pos (by show k + 1 = t.lim u; omega), if_neg h]
    unfold pvSt
    by_cases h2 : i + 1 < t.most
    · rw [if_pos (by exact h2), if_pos h2]; rfl
    · rw [if_neg (by exact h2), if_neg h2]
      have e1 : i + 1 = t.most := by omega
      have e2 : k + 1 = t.lim u := by omega
      show (⟨t, 5, 0, u, u, i + 1, k + 1⟩ : Al) = _
      rw [e1, e2]
theorem pvTk_step {t : Ti} {u : Bool} {i n k : Nat} (hk : k < t.dur u) : (pvTk t u i n k).tick = pvTk t u i n (k + 1) := by
  have e : pvTk t u i n k = pvA t u i n (t.dur u - k) := by unfold pvTk; rw [if_pos hk]
  rw [e]
  unfold Al.tick pvTk
  rw [if_neg (by show ¬ t.dur u - k = 0; omega)]
  by_cases h : k + 1 < t.dur u
  · rw [if_neg (by show ¬ t.dur u - k = 1; omega), if_pos h]
    show (⟨t, 3, t.dur u - k - 1, u, u, i + 1, n⟩ : Al) = ⟨t, 3, t.dur u - (k + 1), u, u, i + 1, n⟩
    rw [Nat.sub_sub]
  · rw [if_pos (by show t.dur u - k = 1; omega), if_neg h]; rfl
theorem pvSt_ph {t : Ti} {u : Bool} {i : Nat} (h : i < t.most) : (pvSt t u i).ph = 3 ∧ (pvSt t u i).prov = i + 1 ∧ (pvSt t u i).left = t.dur u := by
  unfold pvSt; rw [if_pos h]; exact ⟨rfl, rfl, rfl⟩
theorem pvSt_end (t : Ti) (u : Bool) : (pvSt t u t.most).ph = 5 ∧ (pvSt t u t.most).prov = t.most := by
  unfold pvSt; rw [if_neg (by omega)]; exact ⟨rfl, rfl⟩
theorem pvWr_prov {t : Ti} {u : Bool} {i k : Nat} (hi : i < t.most) : (pvWr t u i k).prov ≤ t.most := by
  unfold pvWr pvSt pvA
  repeat' split
  all_goals first | omega | (show i + 1 ≤ t.most; omega) | (show i + 1 + 1 ≤ t.most; omega) | (show t.most ≤ t.most; omega)
theorem pvTk_ph {t : Ti} {u : Bool} {i n k : Nat} (h : k < t.dur u) : (pvTk t u i n k).ph = 3 := by unfold pvTk; rw [if_pos h]; rfl
theorem pvTk_end (t : Ti) (u : Bool) (i n : Nat) : (pvTk t u i n (t.dur u)).ph = 4 ∧ (pvTk t u i n (t.dur u)).prov = i + 1 := by
  unfold pvTk; rw [if_neg (by omega)]; exact ⟨rfl, rfl⟩
/-- Start, Out, Normal. -/
theorem pv_start {t : Ti} (h : t.Low) (u : Bool) : (((Al.new t).start u).hear 0).hear 1 = pvSt t u 0 := by
  have := h.most
  unfold pvSt
  rw [if_pos (by omega)]
  cases u <;> rfl
end Go.Proofs.Ytgfiikbecapodaa
