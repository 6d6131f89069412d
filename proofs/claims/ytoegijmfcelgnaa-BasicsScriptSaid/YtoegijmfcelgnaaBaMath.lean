/- The plain mathematics of layer 6: two ends of the basic method that lose units: nothing false is accepted, and all is accepted when no unit is lost any more. -/
import Derived.Test.YtoegijmfcelgnaaMath
namespace Go.Proofs.Ytoegijmfcelgnaa

/-- The number of the load before load n. -/
def num (n : Nat) : Nat := (n + 127) % 128
theorem num_lt (n : Nat) : num n < 128 := Nat.mod_lt _ (by decide)
theorem num_inj {a b : Nat} (h1 : a ≤ b + 127) (h2 : b ≤ a + 127) (h : num a = num b) : a = b := by unfold num at h; omega
theorem num_succ (n : Nat) : num (n + 1) = (num n + 1) % 128 := by unfold num; omega
theorem num_diff {a b : Nat} (h1 : a ≤ b) (h2 : b ≤ a + 127) : (num b + 128 - num a) % 128 = b - a := by unfold num; omega

/-! ## An end in counts: what it sends, and what it accepts -/
/-- The sending part: loads given, sent, acknowledged, the next one to be repeated; how often it has turned its fore bit. -/
structure Sn where
  G : Nat
  S : Nat
  A : Nat
  R : Nat
  p : Nat
/-- The receiving part: loads accepted; how often it has turned its back bit. -/
structure Rv where
  n : Nat
  q : Nat
/-- A unit under way. -/
structure Ut where
  idx : Option Nat
  s : Nat
  f : Nat
  n : Nat
  b : Nat
def Sn.next (x : Sn) : Option Nat × Sn :=
  if x.R < x.S then (some x.R, { x with R := x.R + 1 })
  else if x.S < x.G ∧ x.S - x.A < 127 then (some x.S, { x with S := x.S + 1, R := x.S + 1 })
  else (none, x)
def Sn.unit (x : Sn) (y : Rv) : Ut := ⟨x.next.1, x.next.2.S, x.p, y.n, y.q⟩
def Sn.hear (x : Sn) (n b : Nat) : Sn := if b = x.p then { x with A := n, R := max x.R n } else { x with A := n, R := n, p := b }
/-- The number that a unit bears counts the loads up to this one. -/
def Ut.v (u : Ut) : Nat := match u.idx with | some i => i + 1 | none => u.s
def Rv.takes (y : Rv) (u : Ut) : Bool := u.f == y.q && u.idx == some y.n
def Rv.hear (y : Rv) (u : Ut) : Rv := if u.f = y.q then (if u.idx = some y.n then { y with n := y.n + 1 } else if u.v = y.n then y else { y with q := y.q + 1 }) else y

/-- One direction: a sending part, the other end's receiving part, the units to it, and those from it. -/
structure Dir (x : Sn) (y : Rv) (F B : List Ut) : Prop where
  an : x.A ≤ y.n
  ns : y.n ≤ x.S
  sg : x.S ≤ x.G
  ar : x.A ≤ x.R
  rs : x.R ≤ x.S
  win : x.S ≤ x.A + 127
  pq : x.p ≤ y.q
  qp : y.q ≤ x.p + 1
  fwd : ∀ u ∈ F, y.n ≤ u.s ∧ u.s ≤ x.S ∧ u.f ≤ x.p ∧ y.q ≤ u.f + 1 ∧ (∀ i, u.idx = some i → i < u.s ∧ u.s ≤ i + 127 ∧ (u.f = x.p → i < x.R))
  fmono : F.Pairwise fun a b => a.s ≤ b.s ∧ a.f ≤ b.f
  bwd : ∀ u ∈ B, x.A ≤ u.n ∧ u.n ≤ y.n ∧ x.p ≤ u.b ∧ u.b ≤ y.q ∧ (u.b = y.q → y.q = x.p + 1 → u.n = y.n)
  bmono : B.Pairwise fun a b => a.n ≤ b.n ∧ a.b ≤ b.b
  rn : x.p = y.q → y.n ≤ x.R
def Sn.zero : Sn := ⟨0, 0, 0, 0, 0⟩
def Rv.zero : Rv := ⟨0, 0⟩
theorem Dir.zero : Dir Sn.zero Rv.zero [] [] := by
  constructor <;> simp [Sn.zero, Rv.zero]
theorem Dir.give {x : Sn} {y : Rv} {F B : List Ut} (h : Dir x y F B) : Dir { x with G := x.G + 1 } y F B :=
  ⟨h.an, h.ns, Nat.le_succ_of_le h.sg, h.ar, h.rs, h.win, h.pq, h.qp, h.fwd, h.fmono, h.bwd, h.bmono, h.rn⟩
theorem Sn.next_cases (x : Sn) : (x.R < x.S ∧ x.next = (some x.R, { x with R := x.R + 1 })) ∨ (¬ x.R < x.S ∧ (x.S < x.G ∧ x.S - x.A < 127) ∧ x.next = (some x.S, { x with S := x.S + 1, R := x.S + 1 })) ∨
    (¬ x.R < x.S ∧ ¬ (x.S < x.G ∧ x.S - x.A < 127) ∧ x.next = (none, x)) := by
  unfold Sn.next
  by_cases h : x.R < x.S
  · exact .inl ⟨h, by rw [if_pos h]⟩
  · by_cases h2 : x.S < x.G ∧ x.S - x.A < 127
    · exact .inr (.inl ⟨h, h2, by rw [if_neg h, if_pos h2]⟩)
    · exact .inr (.inr ⟨h, h2, by rw [if_neg h, if_neg h2]⟩)
theorem Dir.send {x : Sn} {y y' : Rv} {F B : List Ut} (h : Dir x y F B) : Dir x.next.2 y (F ++ [x.unit y']) B := by
  obtain ⟨h1, h2, h3, h4, h5, h6, h7, h8, h9, h10, h11, h12, h13⟩ := h
  have key : ∀ (x' : Sn) (i : Option Nat), x.next = (i, x') → x'.A = x.A → x'.p = x.p → x'.G = x.G → x.S ≤ x'.S → x.R ≤ x'.R → x'.S ≤ x'.G → x'.R ≤ x'.S → x'.S ≤ x.A + 127 →
      (∀ k, i = some k → k < x'.S ∧ x'.S ≤ k + 127 ∧ k < x'.R) → Dir x.next.2 y (F ++ [x.unit y']) B := by
    intro x' i e a p g hS hR hG hRS hw hi
    have e1 : x.unit y' = ⟨i, x'.S, x.p, y'.n, y'.q⟩ := by unfold Sn.unit; rw [e]
    rw [e, e1]
    refine ⟨by rw [a]; exact h1, by show y.n ≤ x'.S; omega, hG, by show x'.A ≤ x'.R; omega, hRS, by show x'.S ≤ x'.A + 127; omega, by rw [p]; exact h7, by rw [p]; exact h8, ?_, ?_, ?_, h12, fun hh => ?_⟩
    · intro u hu
      rw [List.mem_append] at hu
      rcases hu with hu | hu
      · obtain ⟨c1, c2, c3, c4, c5⟩ := h9 u hu
        refine ⟨c1, Nat.le_trans c2 hS, by rw [p]; exact c3, c4, fun k hk => ?_⟩
        obtain ⟨d1, d2, d3⟩ := c5 k hk
        exact ⟨d1, d2, fun hh => Nat.lt_of_lt_of_le (d3 (by rw [hh]; exact p)) hR⟩
      · rw [List.mem_singleton] at hu
        subst hu
        refine ⟨by show y.n ≤ x'.S; omega, Nat.le_refl _, by rw [p]; exact Nat.le_refl _, h8, fun k hk => ?_⟩
        obtain ⟨d1, d2, d3⟩ := hi k hk
        exact ⟨d1, d2, fun _ => d3⟩
    · rw [List.pairwise_append]
      refine ⟨h10, by simp, fun u hu v hv => ?_⟩
      rw [List.mem_singleton] at hv
      subst hv
      obtain ⟨c1, c2, c3, c4, c5⟩ := h9 u hu
      exact ⟨Nat.le_trans c2 hS, c3⟩
    · intro u hu
      obtain ⟨c1, c2, c3, c4, c5⟩ := h11 u hu
      exact ⟨by rw [a]; exact c1, c2, by rw [p]; exact c3, c4, fun k1 k2 => c5 k1 (by rw [k2]; show x'.p + 1 = _; rw [p])⟩
    · exact Nat.le_trans (h13 (by rw [← p]; exact hh)) hR
  rcases x.next_cases with ⟨c, e⟩ | ⟨c, c2, e⟩ | ⟨c, c2, e⟩
  · exact key _ _ e rfl rfl rfl (Nat.le_refl _) (by simp) h3 (by simp; omega) h6 (fun k hk => by cases hk; simp; omega)
  · exact key _ _ e rfl rfl rfl (by simp) (by simp; omega) (by simp; omega) (by simp) (by simp; omega) (fun k hk => by cases hk; simp)
  · exact key _ _ e rfl rfl rfl (Nat.le_refl _) (Nat.le_refl _) h3 h5 h6 (fun k hk => by cases hk)
theorem Dir.reply {x : Sn} {y : Rv} {F B : List Ut} (h : Dir x y F B) (u : Ut) (hn : u.n = y.n) (hb : u.b = y.q) : Dir x y F (B ++ [u]) := by
  refine ⟨h.an, h.ns, h.sg, h.ar, h.rs, h.win, h.pq, h.qp, h.fwd, h.fmono, ?_, ?_, h.rn⟩
  · intro v hv
    rw [List.mem_append] at hv
    rcases hv with hv | hv
    · exact h.bwd v hv
    · rw [List.mem_singleton] at hv
      subst hv
      exact ⟨by rw [hn]; exact h.an, by rw [hn]; exact Nat.le_refl _, by rw [hb]; exact h.pq, by rw [hb]; exact Nat.le_refl _, fun _ _ => hn⟩
  · rw [List.pairwise_append]
    refine ⟨h.bmono, by simp, fun a ha b hb' => ?_⟩
    rw [List.mem_singleton] at hb'
    subst hb'
    obtain ⟨c1, c2, c3, c4, _⟩ := h.bwd a ha
    exact ⟨by rw [hn]; exact c2, by rw [hb]; exact c4⟩
theorem Dir.lose {x : Sn} {y : Rv} {F B : List Ut} {u : Ut} (h : Dir x y (u :: F) B) : Dir x y F B :=
  ⟨h.an, h.ns, h.sg, h.ar, h.rs, h.win, h.pq, h.qp, fun v hv => h.fwd v (by simp [hv]), (List.pairwise_cons.1 h.fmono).2, h.bwd, h.bmono, h.rn⟩
theorem Dir.loseB {x : Sn} {y : Rv} {F B : List Ut} {u : Ut} (h : Dir x y F (u :: B)) : Dir x y F B :=
  ⟨h.an, h.ns, h.sg, h.ar, h.rs, h.win, h.pq, h.qp, h.fwd, h.fmono, fun v hv => h.bwd v (by simp [hv]), (List.pairwise_cons.1 h.bmono).2, h.rn⟩
/-- The other end hears the next unit. -/
theorem Dir.hear {x : Sn} {y : Rv} {F B : List Ut} {u : Ut} (h : Dir x y (u :: F) B) : Dir x (y.hear u) F B := by
  have hl := h.lose
  obtain ⟨c1, c2, c3, c4, c5⟩ := h.fwd u (by simp)
  have hm := (List.pairwise_cons.1 h.fmono).1
  unfold Rv.hear
  by_cases hf : u.f = y.q
  · rw [if_pos hf]
    have hp : x.p = y.q := by have := h.pq; omega
    by_cases hi : u.idx = some y.n
    · rw [if_pos hi]
      obtain ⟨d1, d2, d3⟩ := c5 _ hi
      refine ⟨by have := h.an; show x.A ≤ y.n + 1; omega, by show y.n + 1 ≤ x.S; omega, h.sg, h.ar, h.rs, h.win, h.pq, h.qp, ?_, hl.fmono, ?_, h.bmono, fun _ => d3 (by omega)⟩
      · intro v hv
        obtain ⟨e1, e2, e3, e4, e5⟩ := h.fwd v (by simp [hv])
        have := (hm v hv).1
        exact ⟨by show y.n + 1 ≤ v.s; omega, e2, e3, e4, e5⟩
      · intro v hv
        obtain ⟨e1, e2, e3, e4, e5⟩ := h.bwd v hv
        exact ⟨e1, by show v.n ≤ y.n + 1; omega, e3, e4, fun _ hh => by exfalso; have : y.q = x.p + 1 := hh; omega⟩
    · rw [if_neg hi]
      by_cases hv : u.v = y.n
      · rw [if_pos hv]; exact hl
      · rw [if_neg hv]
        refine ⟨h.an, h.ns, h.sg, h.ar, h.rs, h.win, by show x.p ≤ y.q + 1; omega, by show y.q + 1 ≤ x.p + 1; omega, ?_, hl.fmono, ?_, h.bmono, fun hh => by exfalso; have : x.p = y.q + 1 := hh; omega⟩
        · intro v hv
          obtain ⟨e1, e2, e3, e4, e5⟩ := h.fwd v (by simp [hv])
          have := (hm v hv).2
          exact ⟨e1, e2, e3, by show y.q + 1 ≤ v.f + 1; omega, e5⟩
        · intro v hv
          obtain ⟨e1, e2, e3, e4, e5⟩ := h.bwd v hv
          exact ⟨e1, e2, e3, by show v.b ≤ y.q + 1; omega, fun hh => by exfalso; have : v.b = y.q + 1 := hh; omega⟩
  · rw [if_neg hf]; exact hl
/-- The sending end hears the next unit. -/
theorem Dir.ack {x : Sn} {y : Rv} {F B : List Ut} {u : Ut} (h : Dir x y F (u :: B)) : Dir (x.hear u.n u.b) y F B := by
  obtain ⟨c1, c2, c3, c4, c5⟩ := h.bwd u (by simp)
  have hm := (List.pairwise_cons.1 h.bmono).1
  have h1 := h.an; have h2 := h.ns; have h3 := h.ar; have h4 := h.rs; have h5 := h.win; have h6 := h.pq; have h7 := h.qp
  unfold Sn.hear
  by_cases hb : u.b = x.p
  · rw [if_pos hb]
    refine ⟨c2, h.ns, h.sg, Nat.le_max_right _ _, by show max x.R u.n ≤ x.S; omega, by show x.S ≤ u.n + 127; omega, h.pq, h.qp, ?_, h.fmono, ?_, (List.pairwise_cons.1 h.bmono).2, fun hh => by have := h.rn hh; show y.n ≤ max x.R u.n; omega⟩
    · intro v hv
      obtain ⟨e1, e2, e3, e4, e5⟩ := h.fwd v hv
      refine ⟨e1, e2, e3, e4, fun i hi => ?_⟩
      obtain ⟨d1, d2, d3⟩ := e5 i hi
      exact ⟨d1, d2, fun hh => by have := d3 hh; show i < max x.R u.n; omega⟩
    · intro v hv
      obtain ⟨e1, e2, e3, e4, e5⟩ := h.bwd v (by simp [hv])
      exact ⟨(hm v hv).1, e2, e3, e4, e5⟩
  · rw [if_neg hb]
    have hbq : u.b = y.q ∧ y.q = x.p + 1 := by omega
    have hn := c5 hbq.1 hbq.2
    refine ⟨c2, h.ns, h.sg, Nat.le_refl _, by show u.n ≤ x.S; omega, by show x.S ≤ u.n + 127; omega, by show u.b ≤ y.q; omega, by show y.q ≤ u.b + 1; omega, ?_, h.fmono, ?_, (List.pairwise_cons.1 h.bmono).2, fun _ => by show y.n ≤ u.n; omega⟩
    · intro v hv
      obtain ⟨e1, e2, e3, e4, e5⟩ := h.fwd v hv
      refine ⟨e1, e2, by show v.f ≤ u.b; omega, e4, fun i hi => ?_⟩
      obtain ⟨d1, d2, d3⟩ := e5 i hi
      exact ⟨d1, d2, fun hh => by exfalso; have : v.f = u.b := hh; omega⟩
    · intro v hv
      obtain ⟨e1, e2, e3, e4, e5⟩ := h.bwd v (by simp [hv])
      exact ⟨(hm v hv).1, e2, by show u.b ≤ v.b; exact (hm v hv).2, e4, fun _ hh => by exfalso; have : y.q = u.b + 1 := hh; omega⟩

/-! ## What the numbers say -/
/-- A unit that is under way acknowledges what was sent. -/
theorem Dir.ack_num {x : Sn} {y : Rv} {F B : List Ut} {u : Ut} (h : Dir x y F (u :: B)) : (num u.n + 128 - num x.A) % 128 = u.n - x.A ∧ u.n - x.A ≤ x.S - x.A := by
  obtain ⟨c1, c2, _⟩ := h.bwd u (by simp)
  have h2 := h.ns; have h5 := h.win
  exact ⟨num_diff c1 (by omega), by omega⟩
/-- The number of a unit under way says which load it is. -/
theorem Dir.fore_num {x : Sn} {y : Rv} {F B : List Ut} {u : Ut} (h : Dir x y (u :: F) B) : (num u.v = num y.n ↔ u.v = y.n) ∧ (∀ i, u.idx = some i → (num u.v = (num y.n + 1) % 128 ↔ i = y.n)) := by
  obtain ⟨c1, c2, c3, c4, c5⟩ := h.fwd u (by simp)
  have h1 := h.an; have h5 := h.win
  have hv : u.v ≤ y.n + 127 ∧ y.n ≤ u.v + 127 := by
    unfold Ut.v
    cases hi : u.idx with
    | none => simp only; omega
    | some i => obtain ⟨d1, d2, _⟩ := c5 i hi; simp only; omega
  refine ⟨⟨fun hh => num_inj hv.1 hv.2 hh, fun hh => by rw [hh]⟩, fun i hi => ?_⟩
  obtain ⟨d1, d2, _⟩ := c5 i hi
  have e : u.v = i + 1 := by unfold Ut.v; rw [hi]
  rw [e, ← num_succ]
  exact ⟨fun hh => by have := num_inj (a := i + 1) (b := y.n + 1) (by omega) (by omega) hh; omega, fun hh => by rw [hh]⟩
theorem Dir.phase {x : Sn} {y : Rv} {F B : List Ut} {u : Ut} (h : Dir x y (u :: F) B) : (u.f % 2 = y.q % 2) ↔ u.f = y.q := by
  obtain ⟨_, _, c3, c4, _⟩ := h.fwd u (by simp)
  have := h.pq
  omega
theorem Dir.phaseB {x : Sn} {y : Rv} {F B : List Ut} {u : Ut} (h : Dir x y F (u :: B)) : (u.b % 2 = x.p % 2) ↔ u.b = x.p := by
  obtain ⟨_, _, c3, c4, _⟩ := h.bwd u (by simp)
  have := h.qp
  omega

/-! ## When no unit is lost any more -/
/-- One round: both ends send a unit and hear the other's. -/
def stepS (x : Sn) (y : Rv) : Sn := x.next.2.hear y.n y.q
def stepR (x : Sn) (y : Rv) : Rv := y.hear ⟨x.next.1, x.next.2.S, x.p, 0, 0⟩
theorem Rv.hear_eq (y : Rv) (i : Option Nat) (s f n b n' b' : Nat) : y.hear ⟨i, s, f, n, b⟩ = y.hear ⟨i, s, f, n', b'⟩ := rfl
theorem Dir.step {x : Sn} {y : Rv} (h : Dir x y [] []) : Dir (stepS x y) (stepR x y) [] [] := by
  have h1 := (h.send (y' := ⟨0, 0⟩)).reply ⟨none, 0, 0, y.n, y.q⟩ rfl rfl
  have h2 := Dir.ack (B := []) h1
  exact Dir.hear (F := []) h2
theorem Sn.next_G (x : Sn) : x.next.2.G = x.G := by rcases x.next_cases with ⟨_, e⟩ | ⟨_, _, e⟩ | ⟨_, _, e⟩ <;> rw [e]
theorem Sn.next_p (x : Sn) : x.next.2.p = x.p := by rcases x.next_cases with ⟨_, e⟩ | ⟨_, _, e⟩ | ⟨_, _, e⟩ <;> rw [e]
theorem stepS_G (x : Sn) (y : Rv) : (stepS x y).G = x.G := by
  unfold stepS Sn.hear
  split <;> exact x.next_G
theorem stepS_A (x : Sn) (y : Rv) : (stepS x y).A = y.n := by
  unfold stepS Sn.hear
  split <;> rfl
def Sync (x : Sn) (y : Rv) : Prop := x.p = y.q ∧ x.R = y.n
theorem step_apart {x : Sn} {y : Rv} (hp : x.p ≠ y.q) : Sync (stepS x y) (stepR x y) ∧ (stepR x y).n = y.n := by
  have e : stepR x y = y := by unfold stepR Rv.hear; rw [if_neg hp]
  rw [e]
  have hb : ¬ y.q = x.next.2.p := by rw [x.next_p]; exact fun hh => hp hh.symm
  refine ⟨⟨?_, ?_⟩, rfl⟩
  · unfold stepS Sn.hear; rw [if_neg hb]
  · unfold stepS Sn.hear; rw [if_neg hb]
theorem step_behind {x : Sn} {y : Rv} (h : Dir x y [] []) (hp : x.p = y.q) (hR : y.n < x.R) : (stepS x y).p ≠ (stepR x y).q ∧ (stepR x y).n = y.n := by
  have e : (stepS x y).p = x.p := by
    unfold stepS Sn.hear
    rw [if_pos (by rw [x.next_p, hp])]
    exact x.next_p
  have e2 : stepR x y = { y with q := y.q + 1 } := by
    have h4 := h.rs
    unfold stepR Rv.hear
    rw [if_pos hp]
    rcases x.next_cases with ⟨c, e⟩ | ⟨c, c2, e⟩ | ⟨c, c2, e⟩
    · rw [e, if_neg (by simp; omega), if_neg (by simp [Ut.v]; omega)]
    · rw [e, if_neg (by simp; omega), if_neg (by simp [Ut.v]; omega)]
    · rw [e, if_neg (by simp), if_neg (by simp [Ut.v]; omega)]
  rw [e, e2]
  exact ⟨by show x.p ≠ y.q + 1; omega, rfl⟩
theorem step_sync {x : Sn} {y : Rv} (h : Dir x y [] []) (hs : Sync x y) : Sync (stepS x y) (stepR x y) ∧ ((stepR x y).n = y.n ∨ (stepR x y).n = y.n + 1) ∧ (y.n < x.G → x.S - x.A < 127 → (stepR x y).n = y.n + 1) := by
  obtain ⟨hp, hR⟩ := hs
  have h3 := h.sg; have h4 := h.rs; have h5 := h.an
  have eb : y.q = x.next.2.p := by rw [x.next_p, hp]
  rcases x.next_cases with ⟨c, e⟩ | ⟨c, c2, e⟩ | ⟨c, c2, e⟩
  · have e2 : stepR x y = { y with n := y.n + 1 } := by unfold stepR Rv.hear; rw [if_pos hp, e, if_pos (by simp; omega)]
    have e3 : stepS x y = { x with A := y.n, R := max (x.R + 1) y.n } := by unfold stepS Sn.hear; rw [if_pos eb, e]
    rw [e2, e3]
    exact ⟨⟨hp, by show max (x.R + 1) y.n = y.n + 1; omega⟩, .inr rfl, fun _ _ => rfl⟩
  · have e2 : stepR x y = { y with n := y.n + 1 } := by unfold stepR Rv.hear; rw [if_pos hp, e, if_pos (by simp; omega)]
    have e3 : stepS x y = { x with S := x.S + 1, A := y.n, R := max (x.S + 1) y.n } := by unfold stepS Sn.hear; rw [if_pos eb, e]
    rw [e2, e3]
    exact ⟨⟨hp, by show max (x.S + 1) y.n = y.n + 1; omega⟩, .inr rfl, fun _ _ => rfl⟩
  · have e2 : stepR x y = y := by unfold stepR Rv.hear; rw [if_pos hp, e, if_neg (by simp), if_pos (by simp [Ut.v]; omega)]
    have e3 : stepS x y = { x with A := y.n, R := max x.R y.n } := by unfold stepS Sn.hear; rw [if_pos eb, e]
    rw [e2, e3]
    exact ⟨⟨hp, by show max x.R y.n = y.n; omega⟩, .inl rfl, fun g1 g2 => by exfalso; omega⟩
/-- k rounds. -/
def steps : Nat → Sn × Rv → Sn × Rv
  | 0, z => z
  | k + 1, z => steps k (stepS z.1 z.2, stepR z.1 z.2)
theorem steps_add (j k : Nat) (z : Sn × Rv) : steps (j + k) z = steps k (steps j z) := by
  induction j generalizing z with
  | zero => rw [Nat.zero_add]; rfl
  | succ j ih => rw [Nat.succ_add]; exact ih _
theorem steps_succ (k : Nat) (z : Sn × Rv) : steps (k + 1) z = (stepS (steps k z).1 (steps k z).2, stepR (steps k z).1 (steps k z).2) := by
  rw [steps_add k 1]; rfl
theorem steps_dir (k : Nat) {z : Sn × Rv} (h : Dir z.1 z.2 [] []) : Dir (steps k z).1 (steps k z).2 [] [] := by
  induction k generalizing z with
  | zero => exact h
  | succ k ih => exact ih h.step
theorem steps_G (k : Nat) (z : Sn × Rv) : (steps k z).1.G = z.1.G := by
  induction k generalizing z with
  | zero => rfl
  | succ k ih => show (steps k _).1.G = _; rw [ih]; exact stepS_G _ _
/-- In step, and what is accepted is acknowledged but for one. -/
def Near (z : Sn × Rv) : Prop := Dir z.1 z.2 [] [] ∧ Sync z.1 z.2 ∧ z.2.n ≤ z.1.A + 1
theorem near_step {z : Sn × Rv} (h : Near z) : Near (steps 1 z) ∧ (z.2.n < z.1.G → (steps 1 z).2.n = z.2.n + 1) ∧ (z.2.n = z.1.G → (steps 1 z).2.n = z.2.n) := by
  obtain ⟨hd, hs, hA⟩ := h
  obtain ⟨s1, s2, s3⟩ := step_sync hd hs
  have hds := hd.step
  have hR := hs.2
  have a1 := stepS_A z.1 z.2
  have g1 := stepS_G z.1 z.2
  refine ⟨⟨hds, s1, ?_⟩, fun hlt => ?_, fun he => ?_⟩
  · show (stepR z.1 z.2).n ≤ (stepS z.1 z.2).A + 1
    rw [a1]
    rcases s2 with s2 | s2 <;> omega
  · by_cases hw : z.1.S - z.1.A < 127
    · exact s3 hlt hw
    · -- the window is full only where loads are to be repeated
      have hc : z.1.R < z.1.S := by omega
      have e := z.1.next_cases
      rcases e with ⟨c, e⟩ | ⟨c, _, _⟩ | ⟨c, _, _⟩
      · show (stepR z.1 z.2).n = _
        unfold stepR Rv.hear
        rw [if_pos hs.1, e, if_pos (by simp; omega)]
      · exact absurd hc c
      · exact absurd hc c
  · have h1 := hds.ns
    have h2 := hds.sg
    rw [g1] at h2
    show (stepR z.1 z.2).n = _
    rcases s2 with s2 | s2 <;> omega
theorem near_steps (k : Nat) {z : Sn × Rv} (h : Near z) : Near (steps k z) ∧ min (z.1.G) (z.2.n + k) ≤ (steps k z).2.n := by
  induction k with
  | zero => exact ⟨h, by show min _ (z.2.n + 0) ≤ z.2.n; omega⟩
  | succ k ih =>
    obtain ⟨i1, i2⟩ := ih
    have hs := near_step i1
    have e : steps (k + 1) z = steps 1 (steps k z) := steps_add k 1 z
    rw [e]
    refine ⟨hs.1, ?_⟩
    have hg := steps_G k z
    have hle : (steps k z).2.n ≤ (steps k z).1.G := Nat.le_trans i1.1.ns i1.1.sg
    by_cases hlt : (steps k z).2.n < (steps k z).1.G
    · rw [hs.2.1 hlt]; omega
    · rw [hs.2.2 (by omega)]; omega
/-- After three rounds the two ends are in step. -/
theorem near_three {z : Sn × Rv} (h : Dir z.1 z.2 [] []) : ∃ k, k ≤ 3 ∧ Near (steps k z) ∧ z.2.n ≤ (steps k z).2.n := by
  -- in step, one more round acknowledges
  have fin : ∀ k, k ≤ 2 → Sync (steps k z).1 (steps k z).2 → z.2.n ≤ (steps k z).2.n → ∃ k, k ≤ 3 ∧ Near (steps k z) ∧ z.2.n ≤ (steps k z).2.n := by
    intro k hk hs hn
    have hd := steps_dir k h
    obtain ⟨s1, s2, _⟩ := step_sync hd hs
    have a1 := stepS_A (steps k z).1 (steps k z).2
    refine ⟨k + 1, by omega, ?_, ?_⟩
    · rw [steps_succ]
      refine ⟨hd.step, s1, ?_⟩
      show (stepR _ _).n ≤ (stepS _ _).A + 1
      rw [a1]
      rcases s2 with s2 | s2 <;> omega
    · rw [steps_succ]
      show z.2.n ≤ (stepR _ _).n
      rcases s2 with s2 | s2 <;> omega
  by_cases hp : z.1.p = z.2.q
  · have hrn := h.rn hp
    by_cases hR : z.1.R = z.2.n
    · exact fin 0 (by decide) ⟨hp, hR⟩ (Nat.le_refl _)
    · obtain ⟨t1, t2⟩ := step_behind h hp (by omega)
      obtain ⟨u1, u2⟩ := step_apart t1
      exact fin 2 (by decide) u1 (by show z.2.n ≤ (stepR (stepS z.1 z.2) (stepR z.1 z.2)).n; omega)
  · obtain ⟨u1, u2⟩ := step_apart hp
    exact fin 1 (by decide) u1 (by show z.2.n ≤ (stepR z.1 z.2).n; omega)
/-- When no unit is lost any more, all is accepted and acknowledged. -/
theorem all_steps {z : Sn × Rv} (h : Dir z.1 z.2 [] []) (m : Nat) (hq : z.1.G ≤ z.1.S + 64) (hm : 195 ≤ m) : (steps m z).2.n = z.1.G ∧ (steps m z).1.A = z.1.G ∧ (steps m z).1.S = z.1.G := by
  obtain ⟨k, hk, hn, hle⟩ := near_three h
  obtain ⟨j, rfl⟩ : ∃ j, m = k + (j + 1) := ⟨m - k - 1, by omega⟩
  have hs := near_steps j hn
  have hw := h.win
  have ha := h.an
  have hg := steps_G k z
  have hd := hs.1.1
  have hG2 : (steps j (steps k z)).1.G = z.1.G := by rw [steps_G, hg]
  have hall : (steps j (steps k z)).2.n = z.1.G := by
    have h1 := hd.ns
    have h2 := hd.sg
    have h3 := hs.2
    omega
  rw [steps_add, steps_add j 1]
  have hlast := near_step hs.1
  have e1 := hlast.2.2 (by omega)
  have a1 : (steps 1 (steps j (steps k z))).1.A = (steps j (steps k z)).2.n := stepS_A _ _
  have hd1 := hlast.1.1
  have h1 := hd1.ns
  have h2 := hd1.sg
  have hG3 : (steps 1 (steps j (steps k z))).1.G = z.1.G := by rw [steps_G, hG2]
  exact ⟨by omega, by omega, by omega⟩
end Go.Proofs.Ytoegijmfcelgnaa
