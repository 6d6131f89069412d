/- Two ends in counts: rounds in which no unit is lost. -/
import Derived.Test.YtpggiajpjnegkaaBaDuo
namespace Go.Proofs.Ytpggiajpjnegkaa
open Go.RowKit

/-- What is left when all units to the end have been heard. -/
def Duo.hears0 (d : Duo) : List Ut → Duo
  | [] => d
  | u :: us => Duo.hears0 (d.hear0 u us) us
theorem Duo.hears0_ok : ∀ (us : List Ut) (d : Duo), d.Ok → d.U0 = us → (d.hears0 us).Ok ∧ (d.hears0 us).U0 = [] ∧ (d.hears0 us).U1 = d.U1
  | [], _, h, hu => ⟨h, hu, rfl⟩
  | u :: us, d, h, hu => Duo.hears0_ok us (d.hear0 u us) (Duo.hear0_ok h hu) rfl
theorem Duo.hears0_small {N : Nat} : ∀ (us : List Ut) (d : Duo), d.Small N → d.U0 = us → (d.hears0 us).Small N ∧ (d.hears0 us).x0.G = d.x0.G ∧ (d.hears0 us).x1.G = d.x1.G
  | [], _, h, _ => ⟨h, rfl, rfl⟩
  | u :: us, d, h, hu => by
    have hk := h.u0
    rw [hu, List.length_cons] at hk
    have s0 : (d.hear0 u us).x0.G = d.x0.G := by show (d.x0.hear u.n).G = _; exact Sn.hear_G _ _
    have s1 : (d.hear0 u us).x1.G = d.x1.G := rfl
    have v1 : (d.hear0 u us).U1.length ≤ N := h.u1
    have v0 : (d.hear0 u us).U0.length ≤ N := by show us.length ≤ N; omega
    have hs : (d.hear0 u us).Small N := ⟨by rw [s0]; exact h.g0, by rw [s1]; exact h.g1, v0, v1⟩
    have ih := Duo.hears0_small us (d.hear0 u us) hs rfl
    exact ⟨ih.1, ih.2.1.trans s0, ih.2.2.trans s1⟩
theorem Duo.send0_small {d : Duo} {N : Nat} (ok : d.Ok) (sm : d.Small N) (hu : d.U1.length < N) : d.send0.Small N := by
  have s0 : d.send0.x0.G ≤ N := by show d.x0.next.2.G ≤ N; rw [ok.d0.next_G]; exact sm.g0
  have s1 : d.send0.x1.G ≤ N := sm.g1
  have v1 : d.send0.U1.length ≤ N := by show (d.U1 ++ [_]).length ≤ N; rw [List.length_append, List.length_singleton]; omega
  have v0 : d.send0.U0.length ≤ N := sm.u0
  exact ⟨s0, s1, v0, v1⟩
theorem Duo.hear0_small {d : Duo} {N : Nat} {u : Ut} {us : List Ut} (sm : d.Small N) (hu : d.U0 = u :: us) : (d.hear0 u us).Small N := by
  have hk := sm.u0
  rw [hu, List.length_cons] at hk
  have s0 : (d.hear0 u us).x0.G ≤ N := by show (d.x0.hear u.n).G ≤ N; rw [Sn.hear_G]; exact sm.g0
  have s1 : (d.hear0 u us).x1.G ≤ N := sm.g1
  have v1 : (d.hear0 u us).U1.length ≤ N := sm.u1
  have v0 : (d.hear0 u us).U0.length ≤ N := by show us.length ≤ N; omega
  exact ⟨s0, s1, v0, v1⟩
theorem send0_ex (I : EndFace) {w : World} {p : Nat} {d : Duo} {L : PLay} (h : PairAt I w p d.st L) (ok : d.Ok) (hu : d.U1.length ≤ 10000) :
    Calls Try.prog 30 #[.pointer (some ⟨p, 0, none⟩), .int .i64 0] w fun e w' => e = .returned (.tuple #[]) ∧ (∃ L', L'.B = L.B ∧ PairAt I w' p d.send0.st L') ∧ Below L.B w w' := by
  refine (send0_any I w p d.st L h rfl (by show (d.U1.map Ut.un).length ≤ 100000; rw [List.length_map]; omega)).mono ?_
  rintro e w' ⟨rfl, ⟨L', hL, hp'⟩, hb⟩
  exact ⟨rfl, ⟨L', hL, by rw [Duo.send0_st ok]; exact hp'⟩, hb⟩
theorem hear0_ex (I : EndFace) {w : World} {p : Nat} {d : Duo} {L : PLay} {u : Ut} {us : List Ut} (h : PairAt I w p d.st L) (ok : d.Ok) (hu : d.U0 = u :: us) (hg : d.x1.G ≤ 10000) :
    Calls Try.prog 31 #[.pointer (some ⟨p, 0, none⟩), .int .i64 0, .bool false] w fun e w' => e = .returned (.tuple #[]) ∧ (∃ L', L'.B = L.B ∧ PairAt I w' p (d.hear0 u us).st L') ∧ Below L.B w w' := by
  have hst : d.st.f0 = u.un :: us.map Ut.un := by show d.U0.map Ut.un = _; rw [hu]; rfl
  have hkt : d.st.t0.length ≤ 100000 := by
    show (listL 0 d.y0.n).length ≤ 100000
    rw [listL_length]
    have := ok.n0
    omega
  have hen := Duo.hear0_en ok hu
  refine (bring0_heard I w p d.st L u.un (us.map Ut.un) h hst ⟨rfl, u.un_kind, u.un_chk, by rw [hen]; rfl⟩ hkt).mono ?_
  rintro e w' ⟨rfl, ⟨L', hL, hp'⟩, hb⟩
  exact ⟨rfl, ⟨L', hL, by rw [Duo.hear0_st ok hu]; exact hp'⟩, hb⟩
/-- What is left when all units to the end have been heard. -/
def Duo.hears1 (d : Duo) : List Ut → Duo
  | [] => d
  | u :: us => Duo.hears1 (d.hear1 u us) us
theorem Duo.hears1_ok : ∀ (us : List Ut) (d : Duo), d.Ok → d.U1 = us → (d.hears1 us).Ok ∧ (d.hears1 us).U1 = [] ∧ (d.hears1 us).U0 = d.U0
  | [], _, h, hu => ⟨h, hu, rfl⟩
  | u :: us, d, h, hu => Duo.hears1_ok us (d.hear1 u us) (Duo.hear1_ok h hu) rfl
theorem Duo.hears1_small {N : Nat} : ∀ (us : List Ut) (d : Duo), d.Small N → d.U1 = us → (d.hears1 us).Small N ∧ (d.hears1 us).x1.G = d.x1.G ∧ (d.hears1 us).x0.G = d.x0.G
  | [], _, h, _ => ⟨h, rfl, rfl⟩
  | u :: us, d, h, hu => by
    have hk := h.u1
    rw [hu, List.length_cons] at hk
    have s1 : (d.hear1 u us).x1.G = d.x1.G := by show (d.x1.hear u.n).G = _; exact Sn.hear_G _ _
    have s0 : (d.hear1 u us).x0.G = d.x0.G := rfl
    have v0 : (d.hear1 u us).U0.length ≤ N := h.u0
    have v1 : (d.hear1 u us).U1.length ≤ N := by show us.length ≤ N; omega
    have hs : (d.hear1 u us).Small N := ⟨by rw [s0]; exact h.g0, by rw [s1]; exact h.g1, v0, v1⟩
    have ih := Duo.hears1_small us (d.hear1 u us) hs rfl
    exact ⟨ih.1, ih.2.1.trans s1, ih.2.2.trans s0⟩
theorem Duo.send1_small {d : Duo} {N : Nat} (ok : d.Ok) (sm : d.Small N) (hu : d.U0.length < N) : d.send1.Small N := by
  have s1 : d.send1.x1.G ≤ N := by show d.x1.next.2.G ≤ N; rw [ok.d1.next_G]; exact sm.g1
  have s0 : d.send1.x0.G ≤ N := sm.g0
  have v0 : d.send1.U0.length ≤ N := by show (d.U0 ++ [_]).length ≤ N; rw [List.length_append, List.length_singleton]; omega
  have v1 : d.send1.U1.length ≤ N := sm.u1
  exact ⟨s0, s1, v0, v1⟩
theorem Duo.hear1_small {d : Duo} {N : Nat} {u : Ut} {us : List Ut} (sm : d.Small N) (hu : d.U1 = u :: us) : (d.hear1 u us).Small N := by
  have hk := sm.u1
  rw [hu, List.length_cons] at hk
  have s1 : (d.hear1 u us).x1.G ≤ N := by show (d.x1.hear u.n).G ≤ N; rw [Sn.hear_G]; exact sm.g1
  have s0 : (d.hear1 u us).x0.G ≤ N := sm.g0
  have v0 : (d.hear1 u us).U0.length ≤ N := sm.u0
  have v1 : (d.hear1 u us).U1.length ≤ N := by show us.length ≤ N; omega
  exact ⟨s0, s1, v0, v1⟩
theorem send1_ex (I : EndFace) {w : World} {p : Nat} {d : Duo} {L : PLay} (h : PairAt I w p d.st L) (ok : d.Ok) (hu : d.U0.length ≤ 10000) :
    Calls Try.prog 30 #[.pointer (some ⟨p, 0, none⟩), .int .i64 1] w fun e w' => e = .returned (.tuple #[]) ∧ (∃ L', L'.B = L.B ∧ PairAt I w' p d.send1.st L') ∧ Below L.B w w' := by
  refine (send1_any I w p d.st L h rfl (by show (d.U0.map Ut.un).length ≤ 100000; rw [List.length_map]; omega)).mono ?_
  rintro e w' ⟨rfl, ⟨L', hL, hp'⟩, hb⟩
  exact ⟨rfl, ⟨L', hL, by rw [Duo.send1_st ok]; exact hp'⟩, hb⟩
theorem hear1_ex (I : EndFace) {w : World} {p : Nat} {d : Duo} {L : PLay} {u : Ut} {us : List Ut} (h : PairAt I w p d.st L) (ok : d.Ok) (hu : d.U1 = u :: us) (hg : d.x0.G ≤ 10000) :
    Calls Try.prog 31 #[.pointer (some ⟨p, 0, none⟩), .int .i64 1, .bool false] w fun e w' => e = .returned (.tuple #[]) ∧ (∃ L', L'.B = L.B ∧ PairAt I w' p (d.hear1 u us).st L') ∧ Below L.B w w' := by
  have hst : d.st.f1 = u.un :: us.map Ut.un := by show d.U1.map Ut.un = _; rw [hu]; rfl
  have hkt : d.st.t1.length ≤ 100000 := by
    show (listL 0 d.y1.n).length ≤ 100000
    rw [listL_length]
    have := ok.n1
    omega
  have hen := Duo.hear1_en ok hu
  refine (bring1_heard I w p d.st L u.un (us.map Ut.un) h hst ⟨rfl, u.un_kind, u.un_chk, by rw [hen]; rfl⟩ hkt).mono ?_
  rintro e w' ⟨rfl, ⟨L', hL, hp'⟩, hb⟩
  exact ⟨rfl, ⟨L', hL, by rw [Duo.hear1_st ok hu]; exact hp'⟩, hb⟩
/-- A round: both ends send, and then all units are heard. -/
def Duo.heard0 (d : Duo) : Duo := d.send0.send1.hears0 d.send0.send1.U0
def Duo.round (d : Duo) : Duo := d.heard0.hears1 d.heard0.U1
theorem Duo.round_ok {d : Duo} (h : d.Ok) : d.round.Ok ∧ d.round.U0 = [] ∧ d.round.U1 = [] := by
  have h1 := Duo.hears0_ok _ d.send0.send1 (Duo.send1_ok (Duo.send0_ok h)) rfl
  have h2 := Duo.hears1_ok _ d.heard0 h1.1 rfl
  exact ⟨h2.1, h2.2.2.trans h1.2.1, h2.2.1⟩
theorem Duo.sent_small {d : Duo} {N : Nat} (ok : d.Ok) (h : d.Small N) : d.send0.send1.Small (N + 1) := by
  have a : d.Small (N + 1) := ⟨Nat.le_succ_of_le h.g0, Nat.le_succ_of_le h.g1, Nat.le_succ_of_le h.u0, Nat.le_succ_of_le h.u1⟩
  exact Duo.send1_small (Duo.send0_ok ok) (Duo.send0_small ok a (Nat.lt_succ_of_le h.u1)) (Nat.lt_succ_of_le h.u0)
theorem Duo.round_small {d : Duo} {N : Nat} (ok : d.Ok) (h : d.Small N) : d.round.Small N := by
  obtain ⟨_, e0, e1⟩ := Duo.round_ok ok
  have h1 := Duo.hears0_small _ d.send0.send1 (Duo.sent_small ok h) rfl
  have h2 := Duo.hears1_small _ d.heard0 h1.1 rfl
  have g0 : d.round.x0.G = d.x0.G := h2.2.2.trans (h1.2.1.trans ok.d0.next_G)
  have g1 : d.round.x1.G = d.x1.G := h2.2.1.trans (h1.2.2.trans ok.d1.next_G)
  exact ⟨by rw [g0]; exact h.g0, by rw [g1]; exact h.g1, by rw [e0]; exact Nat.zero_le _, by rw [e1]; exact Nat.zero_le _⟩
theorem Duo.round_eq {d : Duo} (h0 : d.U0 = []) (h1 : d.U1 = []) : d.round = ⟨stepS d.x0 d.y1, stepS d.x1 d.y0, stepR d.x1 d.y0, stepR d.x0 d.y1, [], []⟩ := by
  obtain ⟨x0, x1, y0, y1, U0, U1⟩ := d
  subst h0 h1
  rfl
def Duo.rounds : Nat → Duo → Duo
  | 0, d => d
  | k + 1, d => (Duo.rounds k d).round
theorem Duo.rounds_ok (k : Nat) {d : Duo} (h : d.Ok) : (Duo.rounds k d).Ok := by
  induction k with
  | zero => exact h
  | succ k ih => exact (Duo.round_ok ih).1
theorem Duo.rounds_small (k : Nat) {d : Duo} {N : Nat} (ok : d.Ok) (h : d.Small N) : (Duo.rounds k d).Small N := by
  induction k with
  | zero => exact h
  | succ k ih => exact Duo.round_small (Duo.rounds_ok k ok) ih
theorem Duo.rounds_eq (k : Nat) {d : Duo} (h0 : d.U0 = []) (h1 : d.U1 = []) :
    Duo.rounds k d = ⟨(steps k (d.x0, d.y1)).1, (steps k (d.x1, d.y0)).1, (steps k (d.x1, d.y0)).2, (steps k (d.x0, d.y1)).2, [], []⟩ := by
  induction k with
  | zero =>
    obtain ⟨x0, x1, y0, y1, U0, U1⟩ := d
    subst h0 h1
    rfl
  | succ k ih =>
    rw [Duo.rounds, ih, Duo.round_eq rfl rfl, steps_succ, steps_succ]
theorem Duo.rounds_front (k : Nat) (d : Duo) : Duo.rounds (k + 1) d = Duo.rounds k d.round := by
  induction k with
  | zero => rfl
  | succ k ih => rw [Duo.rounds, ih, Duo.rounds]
/-- All loads are accepted and acknowledged. -/
theorem Duo.rounds_all {d : Duo} (h : d.Ok) (m : Nat) (hm : 705 ≤ m) :
    (Duo.rounds m d).y0.n = (Duo.rounds m d).x1.G ∧ (Duo.rounds m d).y1.n = (Duo.rounds m d).x0.G ∧ (Duo.rounds m d).x0.A = (Duo.rounds m d).x0.G ∧ (Duo.rounds m d).x0.S = (Duo.rounds m d).x0.G ∧ (Duo.rounds m d).x1.A = (Duo.rounds m d).x1.G ∧ (Duo.rounds m d).x1.S = (Duo.rounds m d).x1.G := by
  obtain ⟨k, rfl⟩ : ∃ k, m = k + 1 := ⟨m - 1, by omega⟩
  obtain ⟨o, e0, e1⟩ := Duo.round_ok h
  have a0 := o.d0
  have a1 := o.d1
  rw [e0, e1] at a0 a1
  have b0 := all_steps (z := (d.round.x0, d.round.y1)) a0 k o.q0 (by omega)
  have b1 := all_steps (z := (d.round.x1, d.round.y0)) a1 k o.q1 (by omega)
  rw [Duo.rounds_front, Duo.rounds_eq k e0 e1]
  have g0 := (steps_G k (z := (d.round.x0, d.round.y1)) a0).1
  have g1 := (steps_G k (z := (d.round.x1, d.round.y0)) a1).1
  show (steps k (d.round.x1, d.round.y0)).2.n = (steps k (d.round.x1, d.round.y0)).1.G ∧ (steps k (d.round.x0, d.round.y1)).2.n = (steps k (d.round.x0, d.round.y1)).1.G ∧ (steps k (d.round.x0, d.round.y1)).1.A = (steps k (d.round.x0, d.round.y1)).1.G ∧ (steps k (d.round.x0, d.round.y1)).1.S = (steps k (d.round.x0, d.round.y1)).1.G ∧ (steps k (d.round.x1, d.round.y0)).1.A = (steps k (d.round.x1, d.round.y0)).1.G ∧ (steps k (d.round.x1, d.round.y0)).1.S = (steps k (d.round.x1, d.round.y0)).1.G
  rw [g0, g1]
  exact ⟨b1.1, b0.1, b0.2.1, b0.2.2, b1.2.1, b1.2.2⟩
end Go.Proofs.Ytpggiajpjnegkaa
