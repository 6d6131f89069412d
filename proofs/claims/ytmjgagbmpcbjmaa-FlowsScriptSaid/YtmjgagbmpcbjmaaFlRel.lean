/- Statements of layer 10: a flow control and the statements' own model say the same. -/
import Derived.Test.YtmjgagbmpcbjmaaFlModel
namespace Go.Proofs.Ytmjgagbmpcbjmaa

/-- A time that runs: left at the end, left in the model (-1: none). -/
def Same (a : Nat) (b : Int) : Prop := (a = 0 ∧ b = -1) ∨ (0 < a ∧ b = (a : Int))
structure Rel (K : Nat) (x : Fl) (m : Fm) : Prop where
  t : m.t = x.t
  out : m.out = x.out
  far : m.far = x.away
  failed : m.failed = x.failed
  n0 : 0 ≤ m.now
  n1 : m.now ≤ K
  con : x.con = true → 0 ≤ m.began ∧ m.began ≤ m.now ∧ (x.since : Int) = (m.now - m.began) % (x.t.again : Int)
  non : x.con = false → m.began = -1
  busy : x.failed = false → Same x.busy m.busy
  wait : x.failed = false → Same x.wait m.wait
  y0 : -1 ≤ m.busy
  y1 : m.busy ≤ 1048576
  w0 : -1 ≤ m.wait
  w1 : m.wait ≤ 1048576
theorem Rel.mfit {K : Nat} {x : Fl} {m : Fm} (h : Rel K x m) (hf : x.t.Fit) (hK : K ≤ 1000000) : m.Fit := by
  have h0 := h.n0
  have h1 := h.n1
  have hb : -1 ≤ m.began ∧ m.began ≤ m.now := by
    cases hc : x.con
    · have := h.non hc; omega
    · have := h.con hc; omega
  exact ⟨by rw [h.t]; exact hf, hb.1, by omega, hb.2, h0, by omega, h.y0, h.y1, h.w0, h.w1⟩
theorem Rel.up {K K' : Nat} {x : Fl} {m : Fm} (h : Rel K x m) (hK : K ≤ K') : Rel K' x m :=
  ⟨h.t, h.out, h.far, h.failed, h.n0, by have := h.n1; omega, h.con, h.non, h.busy, h.wait, h.y0, h.y1, h.w0, h.w1⟩
theorem lo1 : (-1 : Int) ≤ -1 := by decide
theorem hi1 : (-1 : Int) ≤ 1048576 := by decide
theorem ff {P : Prop} {b : Bool} (h : b = true) (k : b = false) : P := by rw [h] at k; cases k
theorem Rel.new (t : Tm) : Rel 0 (Fl.new t) ⟨t, -1, 0, false, false, -1, -1, false⟩ :=
  ⟨rfl, rfl, rfl, rfl, Int.le_refl _, Int.le_refl _, fun h => ff h rfl, fun _ => rfl, fun _ => .inl ⟨rfl, rfl⟩, fun _ => .inl ⟨rfl, rfl⟩, lo1, hi1, lo1, hi1⟩
theorem Rel.stat {K : Nat} {x : Fl} {m : Fm} (h : Rel K x m) : m.stat = x.stat := by
  unfold Fm.stat Fl.stat
  rw [h.failed, h.out]
  cases hf : x.failed
  · cases ho : x.out
    · cases hc : x.con
      · have := h.non hc
        rw [if_neg (show ¬ (0 ≤ m.began ∧ _) by omega)]
        simp
      · obtain ⟨h1, h2, h3⟩ := h.con hc
        rw [h.t, ← h3]
        by_cases hs : x.since = 0
        · simp [h1, hs]
        · have : ¬ (x.since : Int) = 0 := by omega
          simp [hs]
    · simp
  · simp
theorem Rel.err {K : Nat} {x : Fl} {m : Fm} (h : Rel K x m) (a : Nat) : m.err a = x.err a := by
  unfold Fm.err Fl.err Fl.code Fl.hearCode
  rw [h.failed]
  cases hf : x.failed
  · by_cases h10 : a < 10
    · have : ¬ 15 < a := by omega
      simp [h10, this]
    · by_cases h15 : 15 < a
      · have : 5 < a - 10 := by omega
        simp [h10, h15, this]
      · have : ¬ 5 < a - 10 := by omega
        simp [h10, h15, this]
  · simp
theorem Rel.act {K : Nat} {x : Fl} {m : Fm} (h : Rel K x m) (hx : x.Fit) (a : Nat) : Rel (K + 1) (x.act a) (m.act a) := by
  obtain ⟨tt, con, since, out, away, busy, wait, failed⟩ := x
  obtain ⟨mt, began, now, mout, far, mbusy, mwait, mfailed⟩ := m
  obtain ⟨r1, r2, r3, r4, n0, n1, hc, hn, hb, hw, y0, y1, w0, w1⟩ := h
  obtain ⟨tf, f1, f2, f3⟩ := hx
  dsimp only at r1 r2 r3 r4 n0 n1 hc hn hb hw y0 y1 w0 w1 f1 f2 f3
  subst r1 r2 r3 r4
  have t1 := tf.a0
  have t2 := tf.m0
  have t3 := tf.m1
  have t4 := tf.w0
  have t5 := tf.w1
  dsimp only at t1 t2 t3 t4 t5
  cases mfailed
  case true =>
    have e1 : Fl.act ⟨mt, con, since, mout, far, busy, wait, true⟩ a = ⟨mt, con, since, mout, far, busy, wait, true⟩ := by
      unfold Fl.act
      repeat' split
      all_goals rfl
    rw [e1]
    exact ⟨rfl, rfl, rfl, rfl, n0, by show now ≤ ((K + 1 : Nat) : Int); omega, hc, hn, fun h => ff rfl h, fun h => ff rfl h, y0, y1, w0, w1⟩
  case false =>
    have hb := hb rfl
    have hw := hw rfl
    by_cases h15 : 15 < a
    · have e1 : Fl.act ⟨mt, con, since, mout, far, busy, wait, false⟩ a = ⟨mt, con, since, mout, far, busy, wait, false⟩ := by
        have : 5 < a - 10 := by omega
        unfold Fl.act
        rw [if_neg (by omega), if_neg (by omega), if_neg (by omega), if_neg (by omega), if_neg (by omega)]
        simp [Fl.hear, this]
      have e2 : Fm.act ⟨mt, began, now, mout, far, mbusy, mwait, false⟩ a = ⟨mt, began, now, mout, far, mbusy, mwait, false⟩ := by
        unfold Fm.act
        rw [if_neg (by simp), if_neg (by omega), if_neg (by omega), if_neg (by omega), if_neg (by omega), if_neg (by omega), if_neg (by omega), if_pos h15]
      rw [e1, e2]
      exact ⟨rfl, rfl, rfl, rfl, n0, by show now ≤ ((K + 1 : Nat) : Int); omega, hc, hn, fun _ => hb, fun _ => hw, y0, y1, w0, w1⟩
    have hcases : a = 0 ∨ a = 1 ∨ a = 2 ∨ a = 3 ∨ a = 4 ∨ a = 5 ∨ a = 6 ∨ a = 7 ∨ a = 8 ∨ a = 9 ∨ a = 10 ∨ a = 11 ∨ a = 12 ∨ a = 13 ∨ a = 14 ∨ a = 15 := by omega
    clear h15
    rcases hcases with rfl | rfl | rfl | rfl | rfl | rfl | rfl | rfl | rfl | rfl | rfl | rfl | rfl | rfl | rfl | rfl
    · exact ⟨rfl, rfl, rfl, rfl, n0, by show now ≤ ((K + 1 : Nat) : Int); omega, fun h => ff h rfl, fun _ => rfl, fun _ => hb, fun _ => hw, y0, y1, w0, w1⟩
    · cases con
      · have hn := hn rfl
        subst hn
        exact ⟨rfl, rfl, rfl, rfl, n0, by show now ≤ ((K + 1 : Nat) : Int); omega, fun _ => ⟨n0, Int.le_refl _, by show (0 : Int) = (now - now) % (mt.again : Int); simp⟩, fun h => ff rfl h, fun _ => hb, fun _ => hw, y0, y1, w0, w1⟩
      · have hc := hc rfl
        have e2 : Fm.act ⟨mt, began, now, mout, far, mbusy, mwait, false⟩ 1 = ⟨mt, began, now, mout, far, mbusy, mwait, false⟩ := by
          have : ¬ began < 0 := by omega
          simp [Fm.act, this]
        rw [e2]
        exact ⟨rfl, rfl, rfl, rfl, n0, by show now ≤ ((K + 1 : Nat) : Int); omega, fun _ => hc, fun h => ff rfl h, fun _ => hb, fun _ => hw, y0, y1, w0, w1⟩
    · exact ⟨rfl, rfl, rfl, rfl, n0, by show now ≤ ((K + 1 : Nat) : Int); omega, hc, hn, fun _ => hb, fun _ => hw, y0, y1, w0, w1⟩
    · exact ⟨rfl, rfl, rfl, rfl, n0, by show now ≤ ((K + 1 : Nat) : Int); omega, hc, hn, fun _ => hb, fun _ => hw, y0, y1, w0, w1⟩
    · exact ⟨rfl, rfl, rfl, rfl, n0, by show now ≤ ((K + 1 : Nat) : Int); omega, hc, hn, fun _ => hb, fun _ => .inl ⟨rfl, rfl⟩, y0, y1, lo1, hi1⟩
    · have e1 : Fl.act ⟨mt, con, since, mout, far, busy, wait, false⟩ 5 = ⟨mt, con, since, mout, far, busy, if wait = 0 then mt.wait else wait, false⟩ := by
        show Fl.opens ⟨mt, con, since, mout, far, busy, wait, false⟩ true false = _
        simp [Fl.opens]
      have e2 : Fm.act ⟨mt, began, now, mout, far, mbusy, mwait, false⟩ 5 = ⟨mt, began, now, mout, far, mbusy, if mwait < 0 then (mt.wait : Int) else mwait, false⟩ := by simp [Fm.act]
      rw [e1, e2]
      have hq : Same (if wait = 0 then mt.wait else wait) (if mwait < 0 then (mt.wait : Int) else mwait) ∧ -1 ≤ (if mwait < 0 then (mt.wait : Int) else mwait) ∧ (if mwait < 0 then (mt.wait : Int) else mwait) ≤ 1048576 := by
        rcases hw with ⟨rfl, rfl⟩ | ⟨hw1, rfl⟩
        · exact ⟨.inr ⟨t4, rfl⟩, by show -1 ≤ (mt.wait : Int); omega, by show (mt.wait : Int) ≤ 1048576; omega⟩
        · have q1 : ¬ wait = 0 := by omega
          have q2 : ¬ (wait : Int) < 0 := by omega
          rw [if_neg q1, if_neg q2]
          exact ⟨.inr ⟨hw1, rfl⟩, by omega, by omega⟩
      exact ⟨rfl, rfl, rfl, rfl, n0, by show now ≤ ((K + 1 : Nat) : Int); omega, hc, hn, fun _ => hb, fun _ => hq.1, y0, y1, hq.2.1, hq.2.2⟩
    · exact ⟨rfl, rfl, rfl, rfl, n0, by show now ≤ ((K + 1 : Nat) : Int); omega, hc, hn, fun _ => .inl ⟨rfl, rfl⟩, fun _ => .inl ⟨rfl, rfl⟩, lo1, hi1, lo1, hi1⟩
    · exact ⟨rfl, rfl, rfl, rfl, n0, by show now ≤ ((K + 1 : Nat) : Int); omega, hc, hn, fun _ => .inl ⟨rfl, rfl⟩, fun _ => .inr ⟨t4, rfl⟩, lo1, hi1, by show -1 ≤ (mt.wait : Int); omega, by show (mt.wait : Int) ≤ 1048576; omega⟩
    · obtain ⟨y, hy⟩ : ∃ y, y = Fm.nb ⟨mt, began, now, mout, far, mbusy, mwait, false⟩ := ⟨_, rfl⟩
      obtain ⟨v, hv⟩ : ∃ v, v = Fm.nw ⟨mt, began, now, mout, far, mbusy, mwait, false⟩ := ⟨_, rfl⟩
      have e2 : Fm.act ⟨mt, began, now, mout, far, mbusy, mwait, false⟩ 8 = ⟨mt, began, now + 1, mout, far, y, v, decide (y = 0) || decide (v = 0)⟩ := by rw [hy, hv]; rfl
      have e1 : Fl.act ⟨mt, con, since, mout, far, busy, wait, false⟩ 8 = ⟨mt, con, if con then (since + 1) % mt.again else since, mout, far, busy - 1, if mout || far then wait else wait - 1, decide (busy = 1) || (!(mout || far) && decide (wait = 1))⟩ := rfl
      have by1 : (busy = 1 ↔ y = 0) ∧ (busy ≠ 1 → Same (busy - 1) y) ∧ -1 ≤ y ∧ y ≤ 1048576 := by
        unfold Fm.nb at hy
        dsimp only at hy
        rcases hb with ⟨rfl, rfl⟩ | ⟨hb1, rfl⟩
        · rw [if_neg (by decide)] at hy
          subst hy
          exact ⟨by decide, fun _ => .inl ⟨rfl, rfl⟩, by decide, by decide⟩
        · rw [if_pos (by omega)] at hy
          subst hy
          exact ⟨by omega, fun h => .inr ⟨by omega, by omega⟩, by omega, by omega⟩
      have bw : ((!(mout || far) && decide (wait = 1)) = decide (v = 0)) ∧ ((!(mout || far) && decide (wait = 1)) = false → Same (if mout || far then wait else wait - 1) v) ∧ -1 ≤ v ∧ v ≤ 1048576 := by
        unfold Fm.nw at hv
        dsimp only at hv
        rcases hw with ⟨rfl, rfl⟩ | ⟨hw1, rfl⟩
        · rw [if_neg (by omega)] at hv
          subst hv
          refine ⟨by simp, fun _ => .inl ⟨by simp, rfl⟩, by decide, by decide⟩
        · cases mout <;> cases far
          · rw [if_pos ⟨by omega, rfl, rfl⟩] at hv
            subst hv
            refine ⟨by simp; omega, fun h => ?_, by omega, by omega⟩
            have : ¬ wait = 1 := by simpa using h
            exact .inr ⟨by simp; omega, by simp; omega⟩
          · rw [if_neg (by simp)] at hv
            subst hv
            exact ⟨by simp; omega, fun _ => .inr ⟨hw1, rfl⟩, by omega, by omega⟩
          · rw [if_neg (by simp)] at hv
            subst hv
            exact ⟨by simp; omega, fun _ => .inr ⟨hw1, rfl⟩, by omega, by omega⟩
          · rw [if_neg (by simp)] at hv
            subst hv
            exact ⟨by simp; omega, fun _ => .inr ⟨hw1, rfl⟩, by omega, by omega⟩
      have hfe : (decide (busy = 1) || (!(mout || far) && decide (wait = 1))) = (decide (y = 0) || decide (v = 0)) := by rw [bw.1, decide_eq_decide.2 by1.1]
      rw [e1, e2]
      refine ⟨rfl, rfl, rfl, hfe.symm, by show 0 ≤ now + 1; omega, by show now + 1 ≤ ((K + 1 : Nat) : Int); omega, fun h => ?_, hn, fun h => ?_, fun h => ?_, by1.2.2.1, by1.2.2.2, bw.2.2.1, bw.2.2.2⟩
      · dsimp only at h
        subst h
        obtain ⟨g1, g2, g3⟩ := hc rfl
        refine ⟨g1, by show began ≤ now + 1; omega, ?_⟩
        show (((since + 1) % mt.again : Nat) : Int) = (now + 1 - began) % (mt.again : Int)
        rw [show now + 1 - began = (now - began) + 1 by omega, ← Int.emod_add_emod, ← g3]
        push_cast
        rfl
      · dsimp only at h
        rw [Bool.or_eq_false_iff] at h
        exact by1.2.1 (by simpa using h.1)
      · dsimp only at h
        rw [Bool.or_eq_false_iff] at h
        exact bw.2.1 h.2
    · exact ⟨rfl, rfl, rfl, rfl, n0, by show now ≤ ((K + 1 : Nat) : Int); omega, hc, hn, fun _ => hb, fun _ => hw, y0, y1, w0, w1⟩
    · exact ⟨rfl, rfl, rfl, rfl, n0, by show now ≤ ((K + 1 : Nat) : Int); omega, hc, hn, fun h => ff rfl h, fun h => ff rfl h, y0, y1, w0, w1⟩
    · exact ⟨rfl, rfl, rfl, rfl, n0, by show now ≤ ((K + 1 : Nat) : Int); omega, hc, hn, fun h => ff rfl h, fun h => ff rfl h, y0, y1, w0, w1⟩
    · exact ⟨rfl, rfl, rfl, rfl, n0, by show now ≤ ((K + 1 : Nat) : Int); omega, hc, hn, fun h => ff rfl h, fun h => ff rfl h, y0, y1, w0, w1⟩
    · exact ⟨rfl, rfl, rfl, rfl, n0, by show now ≤ ((K + 1 : Nat) : Int); omega, hc, hn, fun h => ff rfl h, fun h => ff rfl h, y0, y1, w0, w1⟩
    · exact ⟨rfl, rfl, rfl, rfl, n0, by show now ≤ ((K + 1 : Nat) : Int); omega, hc, hn, fun _ => hb, fun _ => hw, y0, y1, w0, w1⟩
    · have e1 : Fl.act ⟨mt, con, since, mout, far, busy, wait, false⟩ 15 = ⟨mt, con, since, mout, far, if busy = 0 then mt.most else busy, if 0 < wait then mt.wait else wait, false⟩ := rfl
      have e2 : Fm.act ⟨mt, began, now, mout, far, mbusy, mwait, false⟩ 15 = ⟨mt, began, now, mout, far, if mbusy < 0 then (mt.most : Int) else mbusy, if 0 ≤ mwait then (mt.wait : Int) else mwait, false⟩ := by simp [Fm.act]
      rw [e1, e2]
      have qb : Same (if busy = 0 then mt.most else busy) (if mbusy < 0 then (mt.most : Int) else mbusy) ∧ -1 ≤ (if mbusy < 0 then (mt.most : Int) else mbusy) ∧ (if mbusy < 0 then (mt.most : Int) else mbusy) ≤ 1048576 := by
        rcases hb with ⟨rfl, rfl⟩ | ⟨hb1, rfl⟩
        · exact ⟨.inr ⟨t2, rfl⟩, by show -1 ≤ (mt.most : Int); omega, by show (mt.most : Int) ≤ 1048576; omega⟩
        · have q1 : ¬ busy = 0 := by omega
          have q2 : ¬ (busy : Int) < 0 := by omega
          rw [if_neg q1, if_neg q2]
          exact ⟨.inr ⟨hb1, rfl⟩, by omega, by omega⟩
      have qw : Same (if 0 < wait then mt.wait else wait) (if 0 ≤ mwait then (mt.wait : Int) else mwait) ∧ -1 ≤ (if 0 ≤ mwait then (mt.wait : Int) else mwait) ∧ (if 0 ≤ mwait then (mt.wait : Int) else mwait) ≤ 1048576 := by
        rcases hw with ⟨rfl, rfl⟩ | ⟨hw1, rfl⟩
        · exact ⟨.inl ⟨rfl, rfl⟩, lo1, hi1⟩
        · rw [if_pos hw1, if_pos (by omega)]
          exact ⟨.inr ⟨t4, rfl⟩, by omega, by omega⟩
      exact ⟨rfl, rfl, rfl, rfl, n0, by show now ≤ ((K + 1 : Nat) : Int); omega, hc, hn, fun _ => qb.1, fun _ => qw.1, qb.2.1, qb.2.2, qw.2.1, qw.2.2⟩
end Go.Proofs.Ytmjgagbmpcbjmaa
