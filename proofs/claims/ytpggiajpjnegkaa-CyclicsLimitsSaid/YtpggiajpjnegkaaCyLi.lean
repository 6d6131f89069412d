/- The model that is given n loads and hears nothing: what it sends. -/
import Derived.Test.YtpggiajpjnegkaaCyOne
namespace Go.Proofs.Ytpggiajpjnegkaa
open Go.RowKit

def li (lm lo n s p : Nat) (f : Bool) : Md := ⟨lm, lo, n, s, 0, p, f, 127, false, false, false⟩
/-- w loads are sent before the limits, of n. -/
structure Wants (lm lo n w : Nat) : Prop where
  le : w ≤ n
  room : ∀ j, j < w → j < lm ∧ ocs 0 j < lo
  stop : w = n ∨ lm ≤ w ∨ lo ≤ ocs 0 w
structure Lims (lm lo : Nat) : Prop where
  lm1 : 1 ≤ lm
  lm2 : lm ≤ 127
  lo1 : 1 ≤ lo
  lo2 : lo ≤ 65535
def liB (lm lo w : Nat) : Bool := decide (lm ≤ w) || decide (lo ≤ ocs 0 w)
theorem li_lim (lm lo n s p : Nat) (f : Bool) : (li lm lo n s p f).lim = liB lm lo s := rfl
theorem li_ok {lm lo n s p : Nat} {f : Bool} (h : Lims lm lo) (hp : p ≤ s) (hs : s ≤ n) (hn : n ≤ 64) : (li lm lo n s p f).Ok :=
  ⟨h.lm1, h.lm2, h.lo1, h.lo2, Nat.zero_le _, hp, hs, by show s ≤ 0 + 127; omega, by show n ≤ s + 64; omega, (by decide : (127 : Nat) < 128)⟩
theorem li_new {lm lo n w r : Nat} (h : Wants lm lo n w) (hr : r < w) (hn : n ≤ 64) : (li lm lo n r 0 false).next = (⟨127, true, r, true, 2, 0, loadK r⟩, li lm lo n (r + 1) 0 false) := by
  obtain ⟨h1, h2⟩ := h.room r hr
  have hle := h.le
  rw [Md.free_next (by rw [li_lim]; unfold liB; simp; omega) rfl]
  unfold Md.go
  rw [if_pos ⟨rfl, show r < n by omega⟩]
  show ((⟨127, true, num (r + 1), true, 2, 0, loadK r⟩ : Un), _) = _
  rw [num_fore (by omega)]
  rfl
theorem li_go {lm lo n w p i : Nat} {f : Bool} (hw : 1 ≤ w) (hn : n ≤ 64) (hwn : w ≤ n) (hp : p ≤ w) (hi : i = if p = w then 0 else p) (hf : f = true ∨ w = n) : (li lm lo n w p f).go = (⟨127, true, i, true, 2, 0, loadK i⟩, li lm lo n w (i + 1) f) := by
  have hiw : i < w := by rw [hi]; split <;> omega
  have hi' : (li lm lo n w p f).idx = i := hi.symm
  unfold Md.go
  rw [if_neg (fun hh => by
    obtain ⟨h1, h2⟩ := hh
    have h2' : w < n := h2
    have h1' : f = false := h1
    rcases hf with h5 | h5
    · rw [h5] at h1'; cases h1'
    · omega), if_pos (show (li lm lo n w p f).acked < (li lm lo n w p f).sent from (by show 0 < w; omega)), hi']
  show ((⟨127, true, num (i + 1), true, 2, 0, loadK i⟩ : Un), _) = _
  rw [num_fore (by omega)]
  rfl
theorem li_again {lm lo n w p i : Nat} {f : Bool} (h : Wants lm lo n w) (hw : 1 ≤ w) (hn : n ≤ 64) (hp : p ≤ w) (hi : i = if p = w then 0 else p) (hf : f = liB lm lo w ∨ (f = false ∧ p = 0)) :
    (li lm lo n w p f).next = (⟨127, true, i, true, 2, 0, loadK i⟩, li lm lo n w (i + 1) (liB lm lo w)) := by
  have hst : liB lm lo w = true ∨ w = n := by
    rcases h.stop with h5 | h5
    · exact .inr h5
    · left
      unfold liB
      simp only [Bool.or_eq_true, decide_eq_true_eq]
      exact h5
  have hl := li_lim lm lo n w p f
  unfold Md.next
  rcases (li lm lo n w p f).pre_cases with ⟨c1, c2, e⟩ | ⟨c1, c2, e⟩ | ⟨c1, c2, e⟩ | ⟨c1, c2, e⟩
  · rw [hl] at c1
    have c2' : f = false := c2
    have hp0 : p = 0 := by
      rcases hf with h5 | h5
      · rw [c1, c2'] at h5; cases h5
      · exact h5.2
    rw [e, c1]
    have : ({ li lm lo n w p f with forced := true, plc := (li lm lo n w p f).acked } : Md) = li lm lo n w p true := by rw [hp0]; rfl
    rw [this]
    exact li_go hw hn h.le hp hi (.inl rfl)
  · rw [hl] at c1
    have c2' : f = true := c2
    rw [e, c1, c2']
    exact li_go hw hn h.le hp hi (.inl rfl)
  · rw [hl] at c1
    have hwn : w = n := by
      rcases hst with h5 | h5
      · rw [c1] at h5; cases h5
      · exact h5
    rw [e, c1]
    exact li_go hw hn h.le hp hi (.inr hwn)
  · rw [hl] at c1
    have hwn : w = n := by
      rcases hst with h5 | h5
      · rw [c1] at h5; cases h5
      · exact h5
    have hff : f = false := by
      rcases hf with h5 | h5
      · rw [h5, c1]
      · exact h5.1
    rw [e, c1, hff]
    exact li_go hw hn h.le hp hi (.inr hwn)
theorem mod_next {r w : Nat} (hw : 1 ≤ w) : (r + 1) % w = if r % w + 1 = w then 0 else r % w + 1 := by
  have h1 := Nat.div_add_mod r w
  have h2 := Nat.mod_lt r hw
  have h3 : r + 1 = w * (r / w) + (r % w + 1) := by omega
  rw [h3, Nat.mul_add_mod]
  split
  · rename_i h; rw [h, Nat.mod_self]
  · rw [Nat.mod_eq_of_lt (by omega)]
theorem div_next {r w : Nat} (hw : 1 ≤ w) : (r + 1) / w = if r % w + 1 = w then r / w + 1 else r / w := by
  have h1 := Nat.div_add_mod r w
  have h2 := Nat.mod_lt r hw
  have h3 : r + 1 = (r % w + 1) + w * (r / w) := by omega
  rw [h3, Nat.add_mul_div_left _ _ hw]
  split
  · rename_i h; rw [h, Nat.div_self hw]; omega
  · rw [Nat.div_eq_of_lt (by omega)]; omega
/-- After r units. -/
def liAt (lm lo n w r : Nat) : Md := if r ≤ w then li lm lo n r 0 false else li lm lo n w ((r - 1) % w + 1) (liB lm lo w)
theorem liAt_next {lm lo n w r : Nat} (h : Wants lm lo n w) (hw : 1 ≤ w) (hn : n ≤ 64) : (liAt lm lo n w r).next = (⟨127, true, r % w, true, 2, 0, loadK (r % w)⟩, liAt lm lo n w (r + 1)) := by
  unfold liAt
  by_cases h1 : r < w
  · rw [if_pos (by omega), if_pos (by omega), li_new h h1 hn, Nat.mod_eq_of_lt h1]
  · rw [if_neg (show ¬ r + 1 ≤ w by omega), Nat.add_sub_cancel]
    by_cases h2 : r = w
    · subst h2
      rw [if_pos (Nat.le_refl _), li_again h hw hn (Nat.zero_le _) (i := r % r) (by rw [Nat.mod_self]; split <;> rfl) (.inr ⟨rfl, rfl⟩)]
    · rw [if_neg (by omega)]
      have h3 := mod_next (r := r - 1) hw
      rw [show r - 1 + 1 = r by omega] at h3
      have h4 := Nat.mod_lt (r - 1) hw
      rw [li_again h hw hn (p := (r - 1) % w + 1) (by omega) (i := r % w) h3 (.inl rfl)]
theorem liAt_ok {lm lo n w r : Nat} (hl : Lims lm lo) (h : Wants lm lo n w) (hw : 1 ≤ w) (hn : n ≤ 64) : (liAt lm lo n w r).Ok := by
  have hle := h.le
  unfold liAt
  split
  · exact li_ok hl (Nat.zero_le _) (by omega) hn
  · have h4 := Nat.mod_lt (r - 1) hw
    exact li_ok hl (by omega) hle hn
theorem liAt_failed (lm lo n w r : Nat) : (liAt lm lo n w r).en.failed = false := by unfold liAt; split <;> rfl
theorem liAt_sent {lm lo n w r : Nat} (h : w ≤ r) : (liAt lm lo n w r).sent = w ∧ (liAt lm lo n w r).acked = 0 := by
  unfold liAt
  split
  · exact ⟨by show r = w; omega, rfl⟩
  · exact ⟨rfl, rfl⟩
theorem li_none {lm lo : Nat} (h : Lims lm lo) : (li lm lo 0 0 0 false).next = (⟨127, true, 127, true, 0, 0, []⟩, li lm lo 0 0 0 false) := by
  have h1 := h.lm1
  have h2 := h.lo1
  have e2 : ocs 0 0 = 0 := rfl
  rw [Md.free_next (by rw [li_lim]; unfold liB; rw [e2]; simp; omega) rfl]
  rfl
theorem wants_pos {lm lo n w : Nat} (hl : Lims lm lo) (h : Wants lm lo n w) (hn : 1 ≤ n) : 1 ≤ w := by
  have h1 := hl.lm1
  have h2 := hl.lo1
  have e2 : ocs 0 0 = 0 := rfl
  rcases Nat.eq_zero_or_pos w with h5 | h5
  · rcases h.stop with h6 | h6 | h6
    · omega
    · omega
    · rw [h5, e2] at h6; omega
  · exact h5
/-- How often load i is sent in r units. -/
def cnt (w r i : Nat) : Nat := r / w + if i < r % w then 1 else 0
theorem cnt_zero (w i : Nat) : cnt w 0 i = 0 := by simp [cnt]
theorem cnt_next {w r i : Nat} (hw : 1 ≤ w) (hi : i < w) : cnt w (r + 1) i = cnt w r i + if r % w = i then 1 else 0 := by
  unfold cnt
  rw [mod_next hw, div_next hw]
  have h4 := Nat.mod_lt r hw
  by_cases h : r % w + 1 = w
  · rw [if_pos h, if_pos h]
    split <;> split <;> split <;> omega
  · rw [if_neg h, if_neg h]
    split <;> split <;> split <;> omega
theorem cnt_le {w r i : Nat} : cnt w r i ≤ r + 1 := by
  unfold cnt
  have := Nat.div_le_self r w
  split <;> omega
theorem cnt_three {w i : Nat} (hw : 1 ≤ w) (h64 : w ≤ 64) : 3 ≤ cnt w 200 i := by
  unfold cnt
  have : 3 ≤ 200 / w := by
    rw [Nat.le_div_iff_mul_le hw]
    omega
  omega
end Go.Proofs.Ytpggiajpjnegkaa
