/- Statements of layer 9: two alignments (mathematics). -/
import Derived.Test.YtgfiikbecapodaaAlProv
namespace Go.Proofs.Ytgfiikbecapodaa

/-- What hears what the other one sends, if anything. -/
def Al.hears (x y : Al) : Al := if y.sents then x.hear y.sent else x
/-- The law's exchange: the first one, the second one. -/
def exA (x y : Al) : Al := (x.hears y).tick
def exB (x y : Al) : Al := (y.hears (x.hears y)).tick
/-- Behind k rounds: times t, started so (u), the other one so (o); l ticks are left at first, and m: urgent behind one round. -/
def rdy (t : Ti) (u o : Bool) (l : Nat) (m : Bool) (k : Nat) : Al :=
  if k = 0 then ⟨t, 1, l, u, u, 0, 0⟩ else if k = 1 then ⟨t, 2, t.hold - 1, u, m, 0, 0⟩
  else if k ≤ t.dur (u || o) then ⟨t, 3, t.dur (u || o) + 1 - k, u, u || o, 1, 0⟩ else ⟨t, 4, 0, u, u || o, 1, 0⟩
theorem sends1 {x : Al} (h : x.ph = 1) : x.sents = true ∧ x.sent = 0 := by unfold Al.sents Al.sent Al.sends; rw [if_pos h]; exact ⟨rfl, rfl⟩
theorem sends23 {x : Al} (h : x.ph = 2 ∨ x.ph = 3) : x.sents = true ∧ x.sent = if x.own then 2 else 1 := by
  unfold Al.sents Al.sent Al.sends; rw [if_neg (by omega), if_pos h]; exact ⟨rfl, rfl⟩
theorem sends4 {x : Al} (h : x.ph = 4) : x.sents = false := by
  unfold Al.sents Al.sends; rw [if_neg (by omega), if_neg (by omega), if_neg (by omega)]; rfl
/-- In Proving or Ready, urgent if the other one is. -/
theorem hears_late {x y : Al} (hx : x.ph = 3 ∨ x.ph = 4) (hy : y.ph = 3 ∨ y.ph = 4) (hu : y.own = true → x.urg = true) : x.hears y = x := by
  unfold Al.hears
  rcases hy with hy | hy
  · obtain ⟨e1, e2⟩ := sends23 (.inr hy)
    rw [e1, e2, if_pos rfl]
    unfold Al.hear
    rcases hx with hx | hx
    · cases ho : y.own
      · simp [hx]
      · simp [hx, hu ho]
    · simp [hx]
  · rw [sends4 hy]; rfl
theorem late_tick {t : Ti} {u o m : Bool} {l k : Nat} (hk : 2 ≤ k) : (rdy t u o l m k).tick = rdy t u o l m (k + 1) := by
  unfold rdy
  rw [if_neg (by omega : ¬ k = 0), if_neg (by omega : ¬ k = 1), if_neg (by omega : ¬ k + 1 = 0), if_neg (by omega : ¬ k + 1 = 1)]
  by_cases h1 : k ≤ t.dur (u || o)
  · rw [if_pos h1]
    unfold Al.tick
    rw [if_neg (by show ¬ t.dur (u || o) + 1 - k = 0; omega)]
    by_cases h2 : k + 1 ≤ t.dur (u || o)
    · rw [if_pos h2, if_neg (by show ¬ t.dur (u || o) + 1 - k = 1; omega)]
      show (⟨t, 3, t.dur (u || o) + 1 - k - 1, u, u || o, 1, 0⟩ : Al) = ⟨t, 3, t.dur (u || o) + 1 - (k + 1), u, u || o, 1, 0⟩
      rw [Nat.sub_sub]
    · rw [if_neg h2, if_pos (by show t.dur (u || o) + 1 - k = 1; omega)]; rfl
  · rw [if_neg h1, if_neg (by omega)]; rfl
theorem late_ph {t : Ti} {u o m : Bool} {l k : Nat} (hk : 2 ≤ k) : ((rdy t u o l m k).ph = 3 ∨ (rdy t u o l m k).ph = 4) ∧ (rdy t u o l m k).own = u ∧ (rdy t u o l m k).urg = (u || o) := by
  unfold rdy
  rw [if_neg (by omega), if_neg (by omega)]
  split
  · exact ⟨.inl rfl, rfl, rfl⟩
  · exact ⟨.inr rfl, rfl, rfl⟩
theorem prove_tick {t : Ti} {u o m n : Bool} {l : Nat} (ht : t.Low) (hn : n = (u || o)) : (⟨t, 3, t.dur (u || o), u, n, 1, 0⟩ : Al).tick = rdy t u o l m 2 := by
  subst hn
  have := ht.dur (u || o)
  unfold Al.tick rdy
  rw [if_neg (by show ¬ t.dur (u || o) = 0; omega), if_neg (by omega : ¬ 2 = 0), if_neg (by omega : ¬ 2 = 1)]
  by_cases h2 : 2 ≤ t.dur (u || o)
  · rw [if_pos h2, if_neg (by show ¬ t.dur (u || o) = 1; omega)]
    show (⟨t, 3, t.dur (u || o) - 1, u, u || o, 1, 0⟩ : Al) = ⟨t, 3, t.dur (u || o) + 1 - 2, u, u || o, 1, 0⟩
    rw [show t.dur (u || o) - 1 = t.dur (u || o) + 1 - 2 by omega]
  · rw [if_neg h2, if_pos (by show t.dur (u || o) = 1; omega)]; rfl
theorem hold_tick {t : Ti} {u o m : Bool} {l : Nat} (h : 2 ≤ t.hold) : (⟨t, 2, t.hold, u, m, 0, 0⟩ : Al).tick = rdy t u o l m 1 := by
  unfold Al.tick rdy
  rw [if_neg (by show ¬ t.hold = 0; omega), if_neg (by show ¬ t.hold = 1; omega), if_neg (by omega), if_pos rfl]
/-- A round of two that hear each other. -/
theorem exchange_round {t t' : Ti} {u o : Bool} {l l' k : Nat} (ht : t.Low) (ht' : t'.Low) (h : 2 ≤ t.hold) (h' : 2 ≤ t'.hold) :
    exA (rdy t u o l u k) (rdy t' o u l' (o || u) k) = rdy t u o l u (k + 1) ∧ exB (rdy t u o l u k) (rdy t' o u l' (o || u) k) = rdy t' o u l' (o || u) (k + 1) := by
  by_cases h2 : 2 ≤ k
  · obtain ⟨p1, o1, u1⟩ := late_ph (t := t) (u := u) (o := o) (m := u) (l := l) h2
    obtain ⟨p2, o2, u2⟩ := late_ph (t := t') (u := o) (o := u) (m := (o || u)) (l := l') h2
    have e1 : (rdy t u o l u k).hears (rdy t' o u l' (o || u) k) = rdy t u o l u k := hears_late p1 p2 (by rw [o2, u1]; intro h; rw [h]; simp)
    have e2 : (rdy t' o u l' (o || u) k).hears (rdy t u o l u k) = rdy t' o u l' (o || u) k := hears_late p2 p1 (by rw [o1, u2]; intro h; rw [h]; simp)
    unfold exA exB
    rw [e1, e2]
    exact ⟨late_tick h2, late_tick h2⟩
  · have hk : k = 0 ∨ k = 1 := by omega
    rcases hk with rfl | rfl
    · have e1 : (rdy t u o l u 0).hears (rdy t' o u l' (o || u) 0) = ⟨t, 2, t.hold, u, u, 0, 0⟩ := by
        cases u <;> rfl
      have e2 : (rdy t' o u l' (o || u) 0).hears ⟨t, 2, t.hold, u, u, 0, 0⟩ = ⟨t', 2, t'.hold, o, o || u, 0, 0⟩ := by
        cases u <;> cases o <;> rfl
      unfold exA exB
      rw [e1, e2]
      exact ⟨hold_tick h, hold_tick h'⟩
    · have e1 : (rdy t u o l u 1).hears (rdy t' o u l' (o || u) 1) = ⟨t, 3, t.dur (u || o), u, u || o, 1, 0⟩ := by
        cases u <;> cases o <;> rfl
      have e2 : (rdy t' o u l' (o || u) 1).hears ⟨t, 3, t.dur (u || o), u, u || o, 1, 0⟩ = ⟨t', 3, t'.dur (o || u), o, o || u, 1, 0⟩ := by
        cases u <;> cases o <;> rfl
      unfold exA exB
      rw [e1, e2]
      exact ⟨prove_tick ht rfl, prove_tick ht' rfl⟩
/-- Seeking, k ticks behind. -/
def rdS (t : Ti) (u : Bool) (k : Nat) : Al := ⟨t, 1, t.seek - k, u, u, 0, 0⟩
theorem rdS_tick {t : Ti} {u : Bool} {k : Nat} (hk : k + 1 < t.seek) : (rdS t u k).tick = rdS t u (k + 1) := by
  unfold rdS Al.tick
  rw [if_neg (by show ¬ t.seek - k = 0; omega), if_neg (by show ¬ t.seek - k = 1; omega)]
  show (⟨t, 1, t.seek - k - 1, u, u, 0, 0⟩ : Al) = ⟨t, 1, t.seek - (k + 1), u, u, 0, 0⟩
  rw [Nat.sub_sub]
theorem rdy_ph {t : Ti} {u o m : Bool} {l k : Nat} (hk : 1 ≤ k) (ht : t.Low) : ((rdy t u o l m k).ph = 4) ↔ (t.dur (u || o) + 1 ≤ k) := by
  have := ht.dur (u || o)
  unfold rdy
  rw [if_neg (by omega)]
  split
  · constructor
    · intro h; exact absurd h (by show 2 ≠ 4; decide)
    · intro h; omega
  · split
    · constructor
      · intro h; exact absurd h (by show 3 ≠ 4; decide)
      · intro h; omega
    · constructor
      · intro _; omega
      · intro _; rfl
theorem rdy_prov {t : Ti} {u o m : Bool} {l k : Nat} (hk : 2 ≤ k) : (rdy t u o l m k).prov = 1 := by
  unfold rdy
  rw [if_neg (by omega), if_neg (by omega)]
  split <;> rfl
theorem rdy_le (t : Ti) (u o m : Bool) (l k : Nat) : (rdy t u o l m k).prov ≤ 1 := by
  unfold rdy
  repeat' split
  all_goals first | (show 0 ≤ 1; omega) | (show 1 ≤ 1; omega)
theorem Al.sent_le (x : Al) : x.sent ≤ 3 := by
  unfold Al.sent Al.sends
  repeat' split
  all_goals decide
end Go.Proofs.Ytgfiikbecapodaa
