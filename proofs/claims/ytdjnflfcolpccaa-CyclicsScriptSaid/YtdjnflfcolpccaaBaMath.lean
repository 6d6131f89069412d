/- The plain mathematics of layer 7: two ends of preventive cyclic retransmission that lose units: nothing false is accepted, and all is accepted when no unit is lost any more. -/
import Derived.Test.YtdjnflfcolpccaaMath
namespace Go.Proofs.Ytdjnflfcolpccaa

/-- The number of the load before load n. -/
def num (n : Nat) : Nat := (n + 127) % 128
theorem num_lt (n : Nat) : num n < 128 := Nat.mod_lt _ (by decide)
theorem num_inj {a b : Nat} (h1 : a ≤ b + 127) (h2 : b ≤ a + 127) (h : num a = num b) : a = b := by unfold num at h; omega
theorem num_succ (n : Nat) : num (n + 1) = (num n + 1) % 128 := by unfold num; omega
theorem num_diff {a b : Nat} (h1 : a ≤ b) (h2 : b ≤ a + 127) : (num b + 128 - num a) % 128 = b - a := by unfold num; omega
/-- The octets of load k, and of the n loads from load a on. -/
def mlen (k : Nat) : Nat := 2 + k % 4
def ocs (a : Nat) : Nat → Nat
  | 0 => 0
  | n + 1 => ocs a n + mlen (a + n)
theorem mlen_le (k : Nat) : mlen k ≤ 5 := by unfold mlen; omega
theorem ocs_le (a n : Nat) : ocs a n ≤ 5 * n := by
  induction n with
  | zero => exact Nat.le_refl _
  | succ n ih => have := mlen_le (a + n); show ocs a n + mlen (a + n) ≤ _; omega

/-! ## An end in counts: what it sends, and what it accepts -/
/-- The sending part: its limits; loads given, sent, acknowledged; the next one to be repeated; whether a forced repetition is under way. -/
structure Sn where
  lm : Nat
  lo : Nat
  G : Nat
  S : Nat
  A : Nat
  P : Nat
  f : Bool
/-- The receiving part: loads accepted. -/
structure Rv where
  n : Nat
/-- A unit under way. -/
structure Ut where
  idx : Option Nat
  s : Nat
  n : Nat
def Sn.lim (x : Sn) : Bool := decide (x.lm ≤ x.S - x.A) || decide (x.lo ≤ ocs x.A (x.S - x.A))
/-- A forced repetition begins, or ends. -/
def Sn.pre (x : Sn) : Sn :=
  if x.lim = true ∧ x.f = false then { x with f := true, P := x.A }
  else if x.lim = false ∧ x.P = x.S then { x with f := false } else x
def Sn.go (y : Sn) : Option Nat × Sn :=
  if y.f = false ∧ y.S < y.G then (some y.S, { y with S := y.S + 1 })
  else if y.A < y.S then (some (if y.P = y.S then y.A else y.P), { y with P := (if y.P = y.S then y.A else y.P) + 1 })
  else (none, y)
def Sn.next (x : Sn) : Option Nat × Sn := x.pre.go
def Sn.unit (x : Sn) (y : Rv) : Ut := ⟨x.next.1, x.next.2.S, y.n⟩
def Sn.hear (x : Sn) (n : Nat) : Sn := { x with A := n, P := max x.P n }
/-- The number that a unit bears counts the loads up to this one. -/
def Ut.v (u : Ut) : Nat := match u.idx with | some i => i + 1 | none => u.s
def Rv.takes (y : Rv) (u : Ut) : Bool := u.idx == some y.n
def Rv.hear (y : Rv) (u : Ut) : Rv := if u.idx = some y.n then ⟨y.n + 1⟩ else y

/-- One direction: a sending part, the other end's receiving part, the units to it, and those from it. -/
structure Dir (x : Sn) (y : Rv) (F B : List Ut) : Prop where
  lm1 : 1 ≤ x.lm
  lm2 : x.lm ≤ 127
  lo1 : 1 ≤ x.lo
  lo2 : x.lo ≤ 65535
  an : x.A ≤ y.n
  ns : y.n ≤ x.S
  sg : x.S ≤ x.G
  ap : x.A ≤ x.P
  ps : x.P ≤ x.S
  win : x.S ≤ x.A + 127
  fwd : ∀ u ∈ F, y.n ≤ u.s ∧ u.s ≤ x.S ∧ (∀ i, u.idx = some i → i < u.s ∧ u.s ≤ i + 127)
  fmono : F.Pairwise fun a b => a.s ≤ b.s
  bwd : ∀ u ∈ B, x.A ≤ u.n ∧ u.n ≤ y.n
  bmono : B.Pairwise fun a b => a.n ≤ b.n
def Sn.zero (lm lo : Nat) : Sn := ⟨lm, lo, 0, 0, 0, 0, false⟩
def Rv.zero : Rv := ⟨0⟩
theorem Dir.zero {lm lo : Nat} (h1 : 1 ≤ lm) (h2 : lm ≤ 127) (h3 : 1 ≤ lo) (h4 : lo ≤ 65535) : Dir (Sn.zero lm lo) Rv.zero [] [] := by
  constructor <;> simp [Sn.zero, Rv.zero] <;> assumption
theorem Dir.give {x : Sn} {y : Rv} {F B : List Ut} (h : Dir x y F B) : Dir { x with G := x.G + 1 } y F B :=
  ⟨h.lm1, h.lm2, h.lo1, h.lo2, h.an, h.ns, Nat.le_succ_of_le h.sg, h.ap, h.ps, h.win, h.fwd, h.fmono, h.bwd, h.bmono⟩
theorem Sn.pre_cases (x : Sn) : (x.lim = true ∧ x.f = false ∧ x.pre = { x with f := true, P := x.A }) ∨ (x.lim = true ∧ x.f = true ∧ x.pre = x) ∨ (x.lim = false ∧ x.P = x.S ∧ x.pre = { x with f := false }) ∨ (x.lim = false ∧ x.P ≠ x.S ∧ x.pre = x) := by
  unfold Sn.pre
  cases hl : x.lim
  · by_cases hp : x.P = x.S
    · exact .inr (.inr (.inl ⟨rfl, hp, by rw [if_neg (by simp), if_pos ⟨rfl, hp⟩]⟩))
    · exact .inr (.inr (.inr ⟨rfl, hp, by rw [if_neg (by simp), if_neg (by simp [hp])]⟩))
  · cases hf : x.f
    · exact .inl ⟨rfl, rfl, by rw [if_pos ⟨rfl, rfl⟩]⟩
    · exact .inr (.inl ⟨rfl, rfl, by rw [if_neg (by simp), if_neg (by simp)]⟩)
/-- What is sent: a new load, a load again, or none. -/
theorem Sn.next_cases (x : Sn) (h1 : 1 ≤ x.lm) (h2 : 1 ≤ x.lo) (hap : x.A ≤ x.P) (hps : x.P ≤ x.S) (hsg : x.S ≤ x.G) :
    (x.lim = false ∧ x.S < x.G ∧ x.next = (some x.S, { x with S := x.S + 1, f := false })) ∨
    (∃ i f', x.A ≤ i ∧ i < x.S ∧ (i = x.A ∨ i = x.P) ∧ x.next = (some i, { x with P := i + 1, f := f' })) ∨
    (x.A = x.S ∧ x.S = x.G ∧ x.next = (none, { x with f := false })) := by
  have hz : x.A = x.S → x.lim = false := by
    intro he
    unfold Sn.lim
    rw [he, Nat.sub_self]
    have e2 : ocs x.S 0 = 0 := rfl
    rw [e2]
    simp; omega
  have key : ∀ y : Sn, x.pre = y → y.S = x.S → y.G = x.G → y.A = x.A → (y.f = false → x.lim = false ∧ y = { x with f := false }) → y = { x with P := y.P, f := y.f } → (y.P = x.A ∨ y.P = x.P) → (x.A = x.S → y.f = false) →
      ((x.lim = false ∧ x.S < x.G ∧ x.next = (some x.S, { x with S := x.S + 1, f := false })) ∨
      (∃ i f', x.A ≤ i ∧ i < x.S ∧ (i = x.A ∨ i = x.P) ∧ x.next = (some i, { x with P := i + 1, f := f' })) ∨
      (x.A = x.S ∧ x.S = x.G ∧ x.next = (none, { x with f := false }))) := by
    intro y e eS eG eA hf hy hp hfe
    unfold Sn.next
    rw [e]
    unfold Sn.go
    by_cases hc : y.f = false ∧ y.S < y.G
    · obtain ⟨l1, l2⟩ := hf hc.1
      rw [if_pos hc]
      have h5 := hc.2
      exact .inl ⟨l1, by omega, by rw [l2]⟩
    · rw [if_neg hc]
      by_cases hl : y.A < y.S
      · rw [if_pos hl]
        refine .inr (.inl ⟨if y.P = y.S then y.A else y.P, y.f, ?_, ?_, ?_, ?_⟩)
        · split <;> omega
        · split <;> omega
        · split
          · exact .inl eA
          · exact hp
        · rw [hy]
      · rw [if_neg hl]
        have he : x.A = x.S := by omega
        have hff := hfe he
        have : ¬ y.S < y.G := fun hh => hc ⟨hff, hh⟩
        exact .inr (.inr ⟨he, by omega, by rw [(hf hff).2]⟩)
  rcases x.pre_cases with ⟨c1, c2, e⟩ | ⟨c1, c2, e⟩ | ⟨c1, c2, e⟩ | ⟨c1, c2, e⟩
  · exact key _ e rfl rfl rfl (fun hh => by simp at hh) rfl (.inl rfl) (fun hh => by have := hz hh; rw [c1] at this; cases this)
  · exact key _ e rfl rfl rfl (fun hh => by rw [c2] at hh; cases hh) rfl (.inr rfl) (fun hh => by have := hz hh; rw [c1] at this; cases this)
  · exact key _ e rfl rfl rfl (fun _ => ⟨c1, rfl⟩) rfl (.inr rfl) (fun _ => rfl)
  · by_cases hf : x.f = false
    · exact key _ e rfl rfl rfl (fun _ => ⟨c1, by rw [← hf]⟩) rfl (.inr rfl) (fun _ => hf)
    · exact key _ e rfl rfl rfl (fun hh => absurd hh hf) rfl (.inr rfl) (fun hh => by omega)
theorem Dir.cases {x : Sn} {y : Rv} {F B : List Ut} (h : Dir x y F B) :
    (x.lim = false ∧ x.S < x.G ∧ x.next = (some x.S, { x with S := x.S + 1, f := false })) ∨
    (∃ i f', x.A ≤ i ∧ i < x.S ∧ (i = x.A ∨ i = x.P) ∧ x.next = (some i, { x with P := i + 1, f := f' })) ∨
    (x.A = x.S ∧ x.S = x.G ∧ x.next = (none, { x with f := false })) := x.next_cases h.lm1 h.lo1 h.ap h.ps h.sg
theorem Sn.lim_room {x : Sn} (h : x.lim = false) : x.S - x.A < x.lm ∧ ocs x.A (x.S - x.A) < x.lo := by
  unfold Sn.lim at h
  simp only [Bool.or_eq_false_iff, decide_eq_false_iff_not] at h
  omega
theorem Dir.send {x : Sn} {y y' : Rv} {F B : List Ut} (h : Dir x y F B) : Dir x.next.2 y (F ++ [x.unit y']) B := by
  have hcs := h.cases
  obtain ⟨a1, a2, a3, a4, h1, h2, h3, h4, h5, h6, h9, h10, h11, h12⟩ := h
  have key : ∀ (x' : Sn) (i : Option Nat), x.next = (i, x') → x'.lm = x.lm → x'.lo = x.lo → x'.A = x.A → x'.G = x.G → x.S ≤ x'.S → x'.S ≤ x'.G → x.A ≤ x'.P → x'.P ≤ x'.S → x'.S ≤ x.A + 127 →
      (∀ k, i = some k → k < x'.S ∧ x'.S ≤ k + 127) → Dir x.next.2 y (F ++ [x.unit y']) B := by
    intro x' i e l1 l2 a g hS hG hAP hPS hw hi
    have e1 : x.unit y' = ⟨i, x'.S, y'.n⟩ := by unfold Sn.unit; rw [e]
    rw [e, e1]
    refine ⟨by rw [l1]; exact a1, by rw [l1]; exact a2, by rw [l2]; exact a3, by rw [l2]; exact a4, by rw [a]; exact h1, by show y.n ≤ x'.S; omega, hG, by rw [a]; exact hAP, hPS, by show x'.S ≤ x'.A + 127; omega, ?_, ?_, ?_, h12⟩
    · intro u hu
      rw [List.mem_append] at hu
      rcases hu with hu | hu
      · obtain ⟨c1, c2, c5⟩ := h9 u hu
        exact ⟨c1, Nat.le_trans c2 hS, c5⟩
      · rw [List.mem_singleton] at hu
        subst hu
        exact ⟨by show y.n ≤ x'.S; omega, Nat.le_refl _, fun k hk => hi k hk⟩
    · rw [List.pairwise_append]
      refine ⟨h10, by simp, fun u hu v hv => ?_⟩
      rw [List.mem_singleton] at hv
      subst hv
      exact Nat.le_trans (h9 u hu).2.1 hS
    · intro u hu
      obtain ⟨c1, c2⟩ := h11 u hu
      exact ⟨by rw [a]; exact c1, c2⟩
  rcases hcs with ⟨c, c2, e⟩ | ⟨i, f', c, c2, c3, e⟩ | ⟨c, c2, e⟩
  · have := (Sn.lim_room c).1
    exact key _ _ e rfl rfl rfl rfl (by simp) (by simp; omega) h4 (by simp; omega) (by simp; omega) (fun k hk => by cases hk; simp)
  · exact key _ _ e rfl rfl rfl rfl (Nat.le_refl _) h3 (by simp; omega) (by simp; omega) h6 (fun k hk => by cases hk; simp; omega)
  · exact key _ _ e rfl rfl rfl rfl (Nat.le_refl _) h3 h4 h5 h6 (fun k hk => by cases hk)
theorem Dir.reply {x : Sn} {y : Rv} {F B : List Ut} (h : Dir x y F B) (u : Ut) (hn : u.n = y.n) : Dir x y F (B ++ [u]) := by
  refine ⟨h.lm1, h.lm2, h.lo1, h.lo2, h.an, h.ns, h.sg, h.ap, h.ps, h.win, h.fwd, h.fmono, ?_, ?_⟩
  · intro v hv
    rw [List.mem_append] at hv
    rcases hv with hv | hv
    · exact h.bwd v hv
    · rw [List.mem_singleton] at hv
      subst hv
      exact ⟨by rw [hn]; exact h.an, by rw [hn]; exact Nat.le_refl _⟩
  · rw [List.pairwise_append]
    refine ⟨h.bmono, by simp, fun a ha b hb' => ?_⟩
    rw [List.mem_singleton] at hb'
    subst hb'
    rw [hn]; exact (h.bwd a ha).2
theorem Dir.lose {x : Sn} {y : Rv} {F B : List Ut} {u : Ut} (h : Dir x y (u :: F) B) : Dir x y F B :=
  ⟨h.lm1, h.lm2, h.lo1, h.lo2, h.an, h.ns, h.sg, h.ap, h.ps, h.win, fun v hv => h.fwd v (by simp [hv]), (List.pairwise_cons.1 h.fmono).2, h.bwd, h.bmono⟩
theorem Dir.loseB {x : Sn} {y : Rv} {F B : List Ut} {u : Ut} (h : Dir x y F (u :: B)) : Dir x y F B :=
  ⟨h.lm1, h.lm2, h.lo1, h.lo2, h.an, h.ns, h.sg, h.ap, h.ps, h.win, h.fwd, h.fmono, fun v hv => h.bwd v (by simp [hv]), (List.pairwise_cons.1 h.bmono).2⟩
/-- The other end hears the next unit. -/
theorem Dir.hear {x : Sn} {y : Rv} {F B : List Ut} {u : Ut} (h : Dir x y (u :: F) B) : Dir x (y.hear u) F B := by
  have hl := h.lose
  obtain ⟨c1, c2, c5⟩ := h.fwd u (by simp)
  have hm := (List.pairwise_cons.1 h.fmono).1
  unfold Rv.hear
  by_cases hi : u.idx = some y.n
  · rw [if_pos hi]
    obtain ⟨d1, d2⟩ := c5 _ hi
    refine ⟨h.lm1, h.lm2, h.lo1, h.lo2, by have := h.an; show x.A ≤ y.n + 1; omega, by show y.n + 1 ≤ x.S; omega, h.sg, h.ap, h.ps, h.win, ?_, hl.fmono, ?_, h.bmono⟩
    · intro v hv
      obtain ⟨e1, e2, e5⟩ := h.fwd v (by simp [hv])
      have := hm v hv
      exact ⟨by show y.n + 1 ≤ v.s; omega, e2, e5⟩
    · intro v hv
      obtain ⟨e1, e2⟩ := h.bwd v hv
      exact ⟨e1, by show v.n ≤ y.n + 1; omega⟩
  · rw [if_neg hi]; exact hl
/-- The sending end hears the next unit. -/
theorem Dir.ack {x : Sn} {y : Rv} {F B : List Ut} {u : Ut} (h : Dir x y F (u :: B)) : Dir (x.hear u.n) y F B := by
  obtain ⟨c1, c2⟩ := h.bwd u (by simp)
  have hm := (List.pairwise_cons.1 h.bmono).1
  have h1 := h.an; have h2 := h.ns; have h3 := h.ap; have h4 := h.ps; have h5 := h.win
  refine ⟨h.lm1, h.lm2, h.lo1, h.lo2, c2, h.ns, h.sg, Nat.le_max_right _ _, by show max x.P u.n ≤ x.S; omega, by show x.S ≤ u.n + 127; omega, h.fwd, h.fmono, ?_, (List.pairwise_cons.1 h.bmono).2⟩
  intro v hv
  exact ⟨hm v hv, (h.bwd v (by simp [hv])).2⟩

/-! ## What the numbers say -/
/-- A unit that is under way acknowledges what was sent. -/
theorem Dir.ack_num {x : Sn} {y : Rv} {F B : List Ut} {u : Ut} (h : Dir x y F (u :: B)) : (num u.n + 128 - num x.A) % 128 = u.n - x.A ∧ u.n - x.A ≤ x.S - x.A := by
  obtain ⟨c1, c2⟩ := h.bwd u (by simp)
  have h2 := h.ns; have h5 := h.win
  exact ⟨num_diff c1 (by omega), by omega⟩
/-- The number of a unit under way says which load it is. -/
theorem Dir.fore_num {x : Sn} {y : Rv} {F B : List Ut} {u : Ut} (h : Dir x y (u :: F) B) : ∀ i, u.idx = some i → (num u.v = (num y.n + 1) % 128 ↔ i = y.n) := by
  obtain ⟨c1, c2, c5⟩ := h.fwd u (by simp)
  have h1 := h.an; have h5 := h.win
  intro i hi
  obtain ⟨d1, d2⟩ := c5 i hi
  have e : u.v = i + 1 := by unfold Ut.v; rw [hi]
  rw [e, ← num_succ]
  exact ⟨fun hh => by have := num_inj (a := i + 1) (b := y.n + 1) (by omega) (by omega) hh; omega, fun hh => by rw [hh]⟩

/-! ## When no unit is lost any more -/
/-- One round: both ends send a unit and hear the other's. -/
def stepS (x : Sn) (y : Rv) : Sn := x.next.2.hear y.n
def stepR (x : Sn) (y : Rv) : Rv := y.hear ⟨x.next.1, x.next.2.S, 0⟩
theorem Dir.step {x : Sn} {y : Rv} (h : Dir x y [] []) : Dir (stepS x y) (stepR x y) [] [] := by
  have h1 := (h.send (y' := ⟨0⟩)).reply ⟨none, 0, y.n⟩ rfl
  have h2 := Dir.ack (B := []) h1
  exact Dir.hear (F := []) h2
theorem Dir.next_G {x : Sn} {y : Rv} {F B : List Ut} (h : Dir x y F B) : x.next.2.G = x.G := by rcases h.cases with ⟨_, _, e⟩ | ⟨_, _, _, _, _, e⟩ | ⟨_, _, e⟩ <;> rw [e]
theorem Dir.next_S {x : Sn} {y : Rv} {F B : List Ut} (h : Dir x y F B) : x.S ≤ x.next.2.S := by rcases h.cases with ⟨_, _, e⟩ | ⟨_, _, _, _, _, e⟩ | ⟨_, _, e⟩ <;> rw [e] <;> simp
/-- k rounds. -/
def steps : Nat → Sn × Rv → Sn × Rv
  | 0, z => z
  | k + 1, z => steps k (stepS z.1 z.2, stepR z.1 z.2)
theorem steps_add (j k : Nat) (z : Sn × Rv) : steps (j + k) z = steps k (steps j z) := by
  induction j generalizing z with
  | zero => rw [Nat.zero_add]; rfl
  | succ j ih => rw [Nat.succ_add]; exact ih _
theorem steps_succ (k : Nat) (z : Sn × Rv) : steps (k + 1) z = (stepS (steps k z).1 (steps k z).2, stepR (steps k z).1 (steps k z).2) := by
  rw [steps_add k 1]; rfl
theorem steps_dir (k : Nat) {z : Sn × Rv} (h : Dir z.1 z.2 [] []) : Dir (steps k z).1 (steps k z).2 [] [] := by
  induction k generalizing z with
  | zero => exact h
  | succ k ih => exact ih h.step
theorem steps_G (k : Nat) {z : Sn × Rv} (h : Dir z.1 z.2 [] []) : (steps k z).1.G = z.1.G ∧ z.1.S ≤ (steps k z).1.S := by
  induction k generalizing z with
  | zero => exact ⟨rfl, Nat.le_refl _⟩
  | succ k ih =>
    have := ih (z := (stepS z.1 z.2, stepR z.1 z.2)) h.step
    have e1 : (stepS z.1 z.2).G = z.1.G := h.next_G
    have e2 : z.1.S ≤ (stepS z.1 z.2).S := h.next_S
    exact ⟨this.1.trans e1, Nat.le_trans e2 this.2⟩
/-- In step: what is accepted is acknowledged but for one, and the place is not behind. -/
def Sync (z : Sn × Rv) : Prop := Dir z.1 z.2 [] [] ∧ z.2.n ≤ z.1.A + 1 ∧ z.1.P ≤ z.2.n
def Late (z : Sn × Rv) : Prop := Dir z.1 z.2 [] [] ∧ z.2.n ≤ z.1.A + 1 ∧ z.2.n < z.1.P
def mu (z : Sn × Rv) : Nat := 2 * (z.1.G - z.2.n) + (z.1.G - z.1.S) + (z.2.n - z.1.A)
def nu (z : Sn × Rv) : Nat := 2 * (z.1.G - z.1.S) + (z.1.S - z.1.P)
/-- One round, in plain numbers. -/
theorem step_cases {z : Sn × Rv} (h : Dir z.1 z.2 [] []) :
    (z.1.S < z.1.G ∧ (steps 1 z).1.S = z.1.S + 1 ∧ (steps 1 z).1.P = max z.1.P z.2.n ∧ (steps 1 z).2.n = if z.1.S = z.2.n then z.2.n + 1 else z.2.n) ∨
    (∃ i, z.1.A ≤ i ∧ i < z.1.S ∧ (i = z.1.A ∨ i = z.1.P) ∧ (steps 1 z).1.S = z.1.S ∧ (steps 1 z).1.P = max (i + 1) z.2.n ∧ (steps 1 z).2.n = if i = z.2.n then z.2.n + 1 else z.2.n) ∨
    (z.1.A = z.1.S ∧ z.1.S = z.1.G ∧ (steps 1 z).1.S = z.1.S ∧ (steps 1 z).1.P = max z.1.P z.2.n ∧ (steps 1 z).2.n = z.2.n) := by
  have e1 : (steps 1 z).1 = z.1.next.2.hear z.2.n := rfl
  have e2 : (steps 1 z).2 = z.2.hear ⟨z.1.next.1, z.1.next.2.S, 0⟩ := rfl
  rw [e1, e2]
  rcases h.cases with ⟨c, c2, e⟩ | ⟨i, f', c, c2, c3, e⟩ | ⟨c, c2, e⟩
  · left
    rw [e]
    refine ⟨c2, rfl, rfl, ?_⟩
    unfold Rv.hear
    by_cases hi : z.1.S = z.2.n
    · rw [if_pos (by rw [hi]), if_pos hi]
    · rw [if_neg (by simpa using hi), if_neg hi]
  · right; left
    rw [e]
    refine ⟨i, c, c2, c3, rfl, rfl, ?_⟩
    unfold Rv.hear
    by_cases hi : i = z.2.n
    · rw [if_pos (by rw [hi]), if_pos hi]
    · rw [if_neg (by simpa using hi), if_neg hi]
  · right; right
    rw [e]
    refine ⟨c, c2, rfl, rfl, ?_⟩
    unfold Rv.hear
    rw [if_neg (by simp)]
theorem step_A {z : Sn × Rv} : (steps 1 z).1.A = z.2.n := rfl
theorem sync_step {z : Sn × Rv} (h : Sync z) : Sync (steps 1 z) ∧ mu (steps 1 z) ≤ mu z - 1 := by
  obtain ⟨hd, hA, hP⟩ := h
  have hd1 := steps_dir 1 hd
  have hg := (steps_G 1 hd).1
  have h1 := hd.an; have h2 := hd.ns; have h3 := hd.sg; have h4 := hd.ap; have h5 := hd.ps
  have hA1 := step_A (z := z)
  unfold Sync mu
  rcases step_cases hd with ⟨c, e1, e2, e3⟩ | ⟨i, c, c2, c3, e1, e2, e3⟩ | ⟨c, c2, e1, e2, e3⟩
  · rw [hg, e1, e2, hA1, e3]
    split at e3
    · rename_i hh
      rw [if_pos hh]
      exact ⟨⟨hd1, by omega, by omega⟩, by omega⟩
    · rename_i hh
      rw [if_neg hh]
      exact ⟨⟨hd1, by omega, by omega⟩, by omega⟩
  · rw [hg, e1, e2, hA1, e3]
    by_cases hh : i = z.2.n
    · rw [if_pos hh]
      exact ⟨⟨hd1, by omega, by omega⟩, by omega⟩
    · rw [if_neg hh]
      exact ⟨⟨hd1, by omega, by omega⟩, by omega⟩
  · rw [hg, e1, e2, hA1, e3]
    exact ⟨⟨hd1, by omega, by omega⟩, by omega⟩
theorem late_step {z : Sn × Rv} (h : Late z) : Sync (steps 1 z) ∨ (Late (steps 1 z) ∧ nu (steps 1 z) < nu z) := by
  obtain ⟨hd, hA, hP⟩ := h
  have hd1 := steps_dir 1 hd
  have hg := (steps_G 1 hd).1
  have h1 := hd.an; have h2 := hd.ns; have h3 := hd.sg; have h4 := hd.ap; have h5 := hd.ps
  have hA1 := step_A (z := z)
  unfold Sync Late nu
  rcases step_cases hd with ⟨c, e1, e2, e3⟩ | ⟨i, c, c2, c3, e1, e2, e3⟩ | ⟨c, c2, e1, e2, e3⟩
  · right
    rw [if_neg (by omega)] at e3
    rw [hg, e1, e2, hA1, e3]
    exact ⟨⟨hd1, by omega, by omega⟩, by omega⟩
  · by_cases hh : i = z.2.n
    · rw [if_pos hh] at e3
      left
      rw [e2, hA1, e3]
      exact ⟨hd1, by omega, by omega⟩
    · rw [if_neg hh] at e3
      by_cases hi : i = z.1.P
      · right
        rw [hg, e1, e2, hA1, e3]
        exact ⟨⟨hd1, by omega, by omega⟩, by omega⟩
      · left
        rw [e2, hA1, e3]
        exact ⟨hd1, by omega, by omega⟩
  · exfalso; omega
theorem sync_steps (k : Nat) {z : Sn × Rv} (h : Sync z) : Sync (steps k z) ∧ mu (steps k z) ≤ mu z - k := by
  induction k with
  | zero => exact ⟨h, Nat.le_refl _⟩
  | succ k ih =>
    obtain ⟨i1, i2⟩ := ih
    have hs := sync_step i1
    have e : steps (k + 1) z = steps 1 (steps k z) := steps_add k 1 z
    rw [e]
    exact ⟨hs.1, by have := hs.2; omega⟩
theorem late_sync : ∀ (n : Nat) {z : Sn × Rv}, Late z → nu z ≤ n → ∃ k, k ≤ n + 1 ∧ Sync (steps k z) := by
  intro n
  induction n with
  | zero =>
    intro z h hn
    rcases late_step h with h1 | ⟨_, h2⟩
    · exact ⟨1, Nat.le_refl _, h1⟩
    · omega
  | succ n ih =>
    intro z h hn
    rcases late_step h with h1 | ⟨h1, h2⟩
    · exact ⟨1, by omega, h1⟩
    · obtain ⟨k, hk, hs⟩ := ih h1 (by omega)
      exact ⟨1 + k, by omega, by rw [steps_add]; exact hs⟩
/-- When no unit is lost any more, all is accepted and acknowledged. -/
theorem all_steps {z : Sn × Rv} (h : Dir z.1 z.2 [] []) (m : Nat) (hq : z.1.G ≤ z.1.S + 64) (hm : 704 ≤ m) : (steps m z).2.n = z.1.G ∧ (steps m z).1.A = z.1.G ∧ (steps m z).1.S = z.1.G := by
  have hd1 := steps_dir 1 h
  have hg1 := steps_G 1 h
  have hA1 : (steps 1 z).2.n ≤ (steps 1 z).1.A + 1 := by
    rw [step_A]
    show (z.2.hear _).n ≤ _
    unfold Rv.hear
    split
    · exact Nat.le_refl _
    · exact Nat.le_succ _
  have hk : ∃ k, k ≤ 257 ∧ Sync (steps k z) := by
    by_cases hP : (steps 1 z).1.P ≤ (steps 1 z).2.n
    · exact ⟨1, by omega, hd1, hA1, hP⟩
    · have hl : Late (steps 1 z) := ⟨hd1, hA1, by omega⟩
      have hn : nu (steps 1 z) ≤ 255 := by
        unfold nu
        have := hd1.win; have := hd1.ap
        omega
      obtain ⟨k, hk, hs⟩ := late_sync 255 hl hn
      exact ⟨1 + k, by omega, by rw [steps_add]; exact hs⟩
  obtain ⟨k, hk, hs⟩ := hk
  obtain ⟨j, rfl⟩ : ∃ j, m = k + j := ⟨m - k, by omega⟩
  have hgk := steps_G k h
  have hmu : mu (steps k z) ≤ 447 := by
    have hd := hs.1
    have := hd.win; have := hd.an; have := hd.ns; have := hd.sg; have := hs.2.1
    unfold mu
    omega
  obtain ⟨s1, s2⟩ := sync_steps j hs
  rw [steps_add]
  have hgj := (steps_G j hs.1).1
  have h0 : mu (steps j (steps k z)) = 0 := by omega
  unfold mu at h0
  have hd := s1.1
  have := hd.an; have := hd.ns; have := hd.sg
  omega
end Go.Proofs.Ytdjnflfcolpccaa
