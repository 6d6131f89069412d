/- Two ends in counts with the units under way: what the pair's acts do to them. -/
import Derived.Test.YtdjnflfcolpccaaBaGood
namespace Go.Proofs.Ytdjnflfcolpccaa
open Go.RowKit

structure Duo where
  x0 : Sn
  x1 : Sn
  y0 : Rv
  y1 : Rv
  U0 : List Ut
  U1 : List Ut
def Duo.st (d : Duo) : PSt := ⟨(Md.of d.x0 d.y0).en, (Md.of d.x1 d.y1).en, d.U0.map Ut.un, d.U1.map Ut.un, d.x0.G, d.x1.G, listL 0 d.y0.n, listL 0 d.y1.n⟩
structure Duo.Ok (d : Duo) : Prop where
  d0 : Dir d.x0 d.y1 d.U1 d.U0
  d1 : Dir d.x1 d.y0 d.U0 d.U1
  q0 : d.x0.G ≤ d.x0.S + 64
  q1 : d.x1.G ≤ d.x1.S + 64
structure Duo.Small (d : Duo) (N : Nat) : Prop where
  g0 : d.x0.G ≤ N
  g1 : d.x1.G ≤ N
  u0 : d.U0.length ≤ N
  u1 : d.U1.length ≤ N
def Duo.zero (lm lo : Nat) : Duo := ⟨Sn.zero lm lo, Sn.zero lm lo, Rv.zero, Rv.zero, [], []⟩
theorem Duo.zero_ok {lm lo : Nat} (h1 : 1 ≤ lm) (h2 : lm ≤ 127) (h3 : 1 ≤ lo) (h4 : lo ≤ 65535) : (Duo.zero lm lo).Ok := ⟨Dir.zero h1 h2 h3 h4, Dir.zero h1 h2 h3 h4, Nat.zero_le _, Nat.zero_le _⟩
theorem Duo.zero_st (lm lo : Nat) : (Duo.zero lm lo).st = PSt.zero lm lo := by
  unfold Duo.st Duo.zero PSt.zero
  simp only [Sn.zero, Rv.zero, Md.of, Md.en, En.zero, listL_nil, Nat.sub_self, List.map_nil]
  rfl
theorem Duo.zero_small (lm lo : Nat) : (Duo.zero lm lo).Small 0 := ⟨Nat.le_refl _, Nat.le_refl _, Nat.le_refl _, Nat.le_refl _⟩
theorem Sn.hear_G (x : Sn) (n : Nat) : (x.hear n).G = x.G := rfl
theorem Sn.hear_S (x : Sn) (n : Nat) : (x.hear n).S = x.S := rfl
theorem Md.of_give (x : Sn) (y : Rv) (h : x.S ≤ x.G) : (Md.of x y).en.accept (loadK x.G) = (Md.of { x with G := x.G + 1 } y).en := by
  show (⟨x.lm, x.lo, listL x.S x.G ++ [loadK x.G], listL x.A x.S, x.P - x.A, x.f, num x.S, num y.n, false, false, false⟩ : En) = _
  rw [listL_snoc h]; rfl
theorem Rv.hear_n (y : Rv) (u : Ut) : (y.hear u).n = if y.takes u then y.n + 1 else y.n := by
  unfold Rv.hear Rv.takes
  by_cases h2 : u.idx = some y.n
  · simp [h2]
  · simp [h2]
theorem Rv.takes_load {y : Rv} {u : Ut} (h : y.takes u = true) : u.un.load = loadK y.n := by
  unfold Rv.takes at h
  simp only [beq_iff_eq] at h
  unfold Ut.un
  rw [h]
theorem Ut.un_kind (u : Ut) : u.un.kind ≠ 1 := by
  show (match u.idx with | some _ => 2 | none => 0) ≠ 1
  cases u.idx <;> simp
theorem Ut.un_chk (u : Ut) : chk (u.un.back : Int) (u.un.fore : Int) (u.un.kind : Int) (u.un.state : Int) u.un.load.length = 0 := by
  rw [chk_ok]
  obtain ⟨i, s, n⟩ := u
  refine ⟨?_, ?_, ?_, ?_, ?_, ?_, ?_⟩
  · exact Int.ofNat_le.2 (Nat.le_of_lt_succ (num_lt n))
  · exact Int.ofNat_le.2 (Nat.le_of_lt_succ (num_lt _))
  all_goals cases i <;> simp [Ut.un, loadK_length, mlen] <;> omega
def DuoAt (I : EndFace) (w : World) (p B N : Nat) : Prop := ∃ d L, Duo.Ok d ∧ d.Small N ∧ L.B = B ∧ PairAt I w p d.st L
def Duo.give0 (d : Duo) : Duo := { d with x0 := { d.x0 with G := d.x0.G + 1 } }
def Duo.send0 (d : Duo) : Duo := { d with x0 := d.x0.next.2, U1 := d.U1 ++ [d.x0.unit d.y0] }
def Duo.lose0 (d : Duo) (us : List Ut) : Duo := { d with U0 := us }
def Duo.hear0 (d : Duo) (u : Ut) (us : List Ut) : Duo := { d with x0 := d.x0.hear u.n, y0 := d.y0.hear u, U0 := us }
theorem Duo.give0_ok {d : Duo} (h : d.Ok) (hq : d.x0.G < d.x0.S + 64) : d.give0.Ok := by
  have h0 := h.d0.give
  have h1 := h.d1
  have e1 := h.q1
  have e0 : d.give0.x0.G ≤ d.give0.x0.S + 64 := hq
  exact ⟨h0, h1, e0, e1⟩
theorem Duo.send0_ok {d : Duo} (h : d.Ok) : d.send0.Ok := by
  have h0 := h.d0.send (y' := d.y0)
  have h1 := h.d1.reply (d.x0.unit d.y0) rfl
  have e1 := h.q1
  have e0 : d.send0.x0.G ≤ d.send0.x0.S + 64 := by
    show d.x0.next.2.G ≤ d.x0.next.2.S + 64
    have := h.d0.next_S
    rw [h.d0.next_G]
    have := h.q0
    omega
  exact ⟨h0, h1, e0, e1⟩
theorem Duo.lose0_ok {d : Duo} {u : Ut} {us : List Ut} (h : d.Ok) (hu : d.U0 = u :: us) : (d.lose0 us).Ok := by
  have h0 := h.d0
  have h1 := h.d1
  rw [hu] at h0 h1
  have g0 := h0.loseB
  have g1 := h1.lose
  exact ⟨g0, g1, h.q0, h.q1⟩
theorem Duo.hear0_ok {d : Duo} {u : Ut} {us : List Ut} (h : d.Ok) (hu : d.U0 = u :: us) : (d.hear0 u us).Ok := by
  have h0 := h.d0
  have h1 := h.d1
  rw [hu] at h0 h1
  have g0 := h0.ack
  have g1 := h1.hear
  have e1 := h.q1
  have e0 : (d.hear0 u us).x0.G ≤ (d.hear0 u us).x0.S + 64 := by
    show (d.x0.hear u.n).G ≤ (d.x0.hear u.n).S + 64
    rw [Sn.hear_G, Sn.hear_S]
    exact h.q0
  exact ⟨g0, g1, e0, e1⟩
theorem Duo.give0_st {d : Duo} (h : d.Ok) : d.give0.st = { d.st with x0 := d.st.x0.accept (loadK d.st.n0), n0 := d.st.n0 + 1 } := by
  have e := Md.of_give d.x0 d.y0 h.d0.sg
  show d.give0.st = { d.st with x0 := (Md.of d.x0 d.y0).en.accept (loadK d.x0.G), n0 := d.x0.G + 1 }
  rw [e]; rfl
theorem Duo.send0_st {d : Duo} (h : d.Ok) : d.send0.st = { d.st with x0 := d.st.x0.next.2, f1 := d.st.f1 ++ [d.st.x0.next.1] } := by
  have e : d.st.x0.next = ((d.x0.unit d.y0).un, (Md.of d.x0.next.2 d.y0).en) := by
    show (Md.of d.x0 d.y0).en.next = _
    rw [Md.next_en (Md.of_ok h.d0 h.q0), Md.of_next]
  rw [e]
  show _ = ({ d.st with x0 := (Md.of d.x0.next.2 d.y0).en, f1 := d.U1.map Ut.un ++ [(d.x0.unit d.y0).un] } : PSt)
  unfold Duo.send0 Duo.st
  simp only [List.map_append, List.map_cons, List.map_nil, h.d0.next_G]
theorem Duo.hear0_en {d : Duo} {u : Ut} {us : List Ut} (h : d.Ok) (hu : d.U0 = u :: us) :
    d.st.x0.hear u.un = (if d.y0.takes u then some u.un.load else none, (Md.of (d.x0.hear u.n) (d.y0.hear u)).en) := by
  have h0 := h.d0
  have h1 := h.d1
  rw [hu] at h0 h1
  show (Md.of d.x0 d.y0).en.hear u.un = _
  rw [Md.hear_en (Md.of_ok h.d0 h.q0), Md.of_hear h0 h1]
theorem Duo.hear0_st {d : Duo} {u : Ut} {us : List Ut} (h : d.Ok) (hu : d.U0 = u :: us) :
    (d.hear0 u us).st = { d.st with x0 := (d.st.x0.hear u.un).2, f0 := us.map Ut.un, t0 := d.st.t0 ++ (d.st.x0.hear u.un).1.toList } := by
  rw [Duo.hear0_en h hu]
  have e : listL 0 (d.y0.hear u).n = listL 0 d.y0.n ++ (if d.y0.takes u then some u.un.load else none).toList := by
    rw [Rv.hear_n]
    by_cases ht : d.y0.takes u = true
    · rw [if_pos ht, if_pos ht, Rv.takes_load ht]
      exact (listL_snoc (Nat.zero_le _)).symm
    · rw [if_neg ht, if_neg ht]; simp
  show _ = ({ d.st with x0 := (Md.of (d.x0.hear u.n) (d.y0.hear u)).en, f0 := us.map Ut.un, t0 := listL 0 d.y0.n ++ (if d.y0.takes u then some u.un.load else none).toList } : PSt)
  rw [← e]
  unfold Duo.hear0 Duo.st
  simp only [Sn.hear_G]
theorem Duo.Ok.n0 {d : Duo} (h : d.Ok) : d.y0.n ≤ d.x1.G := Nat.le_trans h.d1.ns h.d1.sg
theorem send_duo0 (I : EndFace) {w : World} {p B N : Nat} (h : DuoAt I w p B N) (hN : N ≤ 10000) :
    Calls Try.prog 40 #[.pointer (some ⟨p, 0, none⟩), .int .i64 0] w fun e w' => e = .returned (.tuple #[]) ∧ (DuoAt I w' p B (N + 1) ∧ Below B w w') := by
  obtain ⟨d, L, ok, sm, rfl, hp⟩ := h
  have hu := sm.u1
  refine (send0_any I w p d.st L hp rfl (by show (d.U1.map Ut.un).length ≤ 100000; rw [List.length_map]; omega)).mono ?_
  rintro e w' ⟨rfl, ⟨L', hL, hp'⟩, hb⟩
  refine ⟨rfl, ⟨d.send0, L', Duo.send0_ok ok, ?_, hL, by rw [Duo.send0_st ok]; exact hp'⟩, hb⟩
  have s0 : d.send0.x0.G ≤ N + 1 := by show d.x0.next.2.G ≤ N + 1; rw [ok.d0.next_G]; exact Nat.le_succ_of_le sm.g0
  have s1 : d.send0.x1.G ≤ N + 1 := Nat.le_succ_of_le sm.g1
  have v1 : d.send0.U1.length ≤ N + 1 := by show (d.U1 ++ [_]).length ≤ N + 1; rw [List.length_append, List.length_singleton]; omega
  have v0 : d.send0.U0.length ≤ N + 1 := Nat.le_succ_of_le sm.u0
  exact ⟨s0, s1, v0, v1⟩
theorem bring_duo0 (I : EndFace) {w : World} {p B N : Nat} (lost : Bool) (h : DuoAt I w p B N) (hN : N ≤ 10000) :
    Calls Try.prog 41 #[.pointer (some ⟨p, 0, none⟩), .int .i64 0, .bool lost] w fun e w' => e = .returned (.tuple #[]) ∧ (DuoAt I w' p B (N + 1) ∧ Below B w w') := by
  obtain ⟨d, L, ok, sm, rfl, hp⟩ := h
  have hsm : ∀ us : List Ut, us.length ≤ N + 1 → ∀ x y, x.G ≤ N + 1 → ({ d with x0 := x, y0 := y, U0 := us } : Duo).Small (N + 1) := fun us hu x y hx => by
    have s0 : ({ d with x0 := x, y0 := y, U0 := us } : Duo).x0.G ≤ N + 1 := hx
    have s1 : ({ d with x0 := x, y0 := y, U0 := us } : Duo).x1.G ≤ N + 1 := Nat.le_succ_of_le sm.g1
    have v1 : ({ d with x0 := x, y0 := y, U0 := us } : Duo).U1.length ≤ N + 1 := Nat.le_succ_of_le sm.u1
    have v0 : ({ d with x0 := x, y0 := y, U0 := us } : Duo).U0.length ≤ N + 1 := hu
    exact ⟨s0, s1, v0, v1⟩
  have hku := sm.u0
  have hkg := sm.g0
  have hkt : d.st.t0.length ≤ 100000 := by
    show (listL 0 d.y0.n).length ≤ 100000
    rw [listL_length]
    have := ok.n0
    have := sm.g1
    omega
  cases hu : d.U0 with
  | nil =>
    refine (bring0_none I w p d.st L lost hp (by show d.U0.map Ut.un = []; rw [hu]; rfl)).mono ?_
    rintro e w' ⟨rfl, rfl⟩
    exact ⟨rfl, ⟨d, L, ok, ⟨Nat.le_succ_of_le sm.g0, Nat.le_succ_of_le sm.g1, Nat.le_succ_of_le sm.u0, Nat.le_succ_of_le sm.u1⟩, rfl, hp⟩, Below.refl _ _⟩
  | cons u us =>
    rw [hu, List.length_cons] at hku
    have hst : d.st.f0 = u.un :: us.map Ut.un := by show d.U0.map Ut.un = _; rw [hu]; rfl
    cases lost with
    | true =>
      refine (bring0_lost I w p d.st L u.un (us.map Ut.un) hp hst).mono ?_
      rintro e w' ⟨rfl, ⟨L', hL, hp'⟩, hb⟩
      exact ⟨rfl, ⟨d.lose0 us, L', Duo.lose0_ok ok hu, hsm us (by omega) _ _ (by omega), hL, hp'⟩, hb⟩
    | false =>
      have hen := Duo.hear0_en ok hu
      refine (bring0_heard I w p d.st L u.un (us.map Ut.un) hp hst ⟨rfl, u.un_kind, u.un_chk, by rw [hen]; rfl⟩ hkt).mono ?_
      rintro e w' ⟨rfl, ⟨L', hL, hp'⟩, hb⟩
      exact ⟨rfl, ⟨d.hear0 u us, L', Duo.hear0_ok ok hu, hsm us (by omega) _ _ (by rw [Sn.hear_G]; omega), hL, by rw [Duo.hear0_st ok hu]; exact hp'⟩, hb⟩
theorem act_duo0 (I : EndFace) {w : World} {p B N : Nat} (a : Int) (ha : 0 ≤ a) (hb : a ≤ 255) (hk : a % 2 = 0) (h : DuoAt I w p B N) (hN : N ≤ 10000) :
    Calls Try.prog 24 #[.pointer (some ⟨p, 0, none⟩), .int .u8 a] w fun e w' => e = .returned (.tuple #[]) ∧ (DuoAt I w' p B (N + 1) ∧ Below B w w') := by
  by_cases h1 : a / 2 % 8 = 0 ∨ a / 2 % 8 = 1
  · obtain ⟨d, L, ok, sm, rfl, hp⟩ := h
    have hg := sm.g0
    have hsg := ok.d0.sg
    have hqq := ok.q0
    have hql : d.st.x0.que.length = d.x0.G - d.x0.S := by show (listL d.x0.S d.x0.G).length = _; exact listL_length _ _
    by_cases hq : d.x0.G < d.x0.S + 64
    · refine (act_give0 I w p d.st L a hp ha hb hk h1 rfl (by show d.x0.G ≤ 100000; omega) (by omega)).mono ?_
      rintro e w' ⟨rfl, ⟨L', hL, hp'⟩, hb⟩
      refine ⟨rfl, ⟨d.give0, L', Duo.give0_ok ok hq, ?_, hL, by rw [Duo.give0_st ok]; exact hp'⟩, hb⟩
      have s0 : d.give0.x0.G ≤ N + 1 := Nat.succ_le_succ sm.g0
      have s1 : d.give0.x1.G ≤ N + 1 := Nat.le_succ_of_le sm.g1
      exact ⟨s0, s1, Nat.le_succ_of_le sm.u0, Nat.le_succ_of_le sm.u1⟩
    · refine (act_full0 I w p d.st L a hp ha hb hk h1 rfl (by show d.x0.G ≤ 100000; omega) (by omega)).mono ?_
      rintro e w' ⟨rfl, ⟨L', hL, hp'⟩, hb⟩
      exact ⟨rfl, ⟨d, L', ok, ⟨Nat.le_succ_of_le sm.g0, Nat.le_succ_of_le sm.g1, Nat.le_succ_of_le sm.u0, Nat.le_succ_of_le sm.u1⟩, hL, hp'⟩, hb⟩
  · by_cases h2 : a / 2 % 8 = 2 ∨ a / 2 % 8 = 3 ∨ a / 2 % 8 = 4
    · exact act_send ha hb hk h2 (send_duo0 I h hN)
    · exact act_bring ha hb hk (by omega) (bring_duo0 I _ h hN)
theorem good_duo0 (I : EndFace) {w : World} {p B N : Nat} (h : DuoAt I w p B N) (hN : N ≤ 10000) :
    Calls Try.prog 25 #[.pointer (some ⟨p, 0, none⟩), .int .i64 0] w fun e w' => e = .returned (.bool true) ∧ Below w.heap.size w w' := by
  obtain ⟨d, L, ok, sm, rfl, hp⟩ := h
  have hg := sm.g1
  have hd := ok.d1
  have han := hd.an
  have hns := hd.ns
  have hwi := hd.win
  have hah : (Md.of d.x1 d.y1).en.ahead (num d.y0.n) ≤ (listL d.x1.A d.x1.S).length := by
    rw [Md.ahead_en (Md.of_ok hd ok.q1), listL_length]
    show (num d.y0.n + 128 - num d.x1.A) % 128 ≤ _
    rw [num_diff han (by omega)]
    omega
  exact good0_yes I w p d.st L d.y0.n hp ok.n0 (by show d.x1.G ≤ 100000; omega) rfl rfl hah (Md.rest_en (Md.of_ok hd ok.q1) han hns)
def Duo.give1 (d : Duo) : Duo := { d with x1 := { d.x1 with G := d.x1.G + 1 } }
def Duo.send1 (d : Duo) : Duo := { d with x1 := d.x1.next.2, U0 := d.U0 ++ [d.x1.unit d.y1] }
def Duo.lose1 (d : Duo) (us : List Ut) : Duo := { d with U1 := us }
def Duo.hear1 (d : Duo) (u : Ut) (us : List Ut) : Duo := { d with x1 := d.x1.hear u.n, y1 := d.y1.hear u, U1 := us }
theorem Duo.give1_ok {d : Duo} (h : d.Ok) (hq : d.x1.G < d.x1.S + 64) : d.give1.Ok := by
  have h1 := h.d1.give
  have h0 := h.d0
  have e0 := h.q0
  have e1 : d.give1.x1.G ≤ d.give1.x1.S + 64 := hq
  exact ⟨h0, h1, e0, e1⟩
theorem Duo.send1_ok {d : Duo} (h : d.Ok) : d.send1.Ok := by
  have h1 := h.d1.send (y' := d.y1)
  have h0 := h.d0.reply (d.x1.unit d.y1) rfl
  have e0 := h.q0
  have e1 : d.send1.x1.G ≤ d.send1.x1.S + 64 := by
    show d.x1.next.2.G ≤ d.x1.next.2.S + 64
    have := h.d1.next_S
    rw [h.d1.next_G]
    have := h.q1
    omega
  exact ⟨h0, h1, e0, e1⟩
theorem Duo.lose1_ok {d : Duo} {u : Ut} {us : List Ut} (h : d.Ok) (hu : d.U1 = u :: us) : (d.lose1 us).Ok := by
  have h1 := h.d1
  have h0 := h.d0
  rw [hu] at h1 h0
  have g1 := h1.loseB
  have g0 := h0.lose
  exact ⟨g0, g1, h.q0, h.q1⟩
theorem Duo.hear1_ok {d : Duo} {u : Ut} {us : List Ut} (h : d.Ok) (hu : d.U1 = u :: us) : (d.hear1 u us).Ok := by
  have h1 := h.d1
  have h0 := h.d0
  rw [hu] at h1 h0
  have g1 := h1.ack
  have g0 := h0.hear
  have e0 := h.q0
  have e1 : (d.hear1 u us).x1.G ≤ (d.hear1 u us).x1.S + 64 := by
    show (d.x1.hear u.n).G ≤ (d.x1.hear u.n).S + 64
    rw [Sn.hear_G, Sn.hear_S]
    exact h.q1
  exact ⟨g0, g1, e0, e1⟩
theorem Duo.give1_st {d : Duo} (h : d.Ok) : d.give1.st = { d.st with x1 := d.st.x1.accept (loadK d.st.n1), n1 := d.st.n1 + 1 } := by
  have e := Md.of_give d.x1 d.y1 h.d1.sg
  show d.give1.st = { d.st with x1 := (Md.of d.x1 d.y1).en.accept (loadK d.x1.G), n1 := d.x1.G + 1 }
  rw [e]; rfl
theorem Duo.send1_st {d : Duo} (h : d.Ok) : d.send1.st = { d.st with x1 := d.st.x1.next.2, f0 := d.st.f0 ++ [d.st.x1.next.1] } := by
  have e : d.st.x1.next = ((d.x1.unit d.y1).un, (Md.of d.x1.next.2 d.y1).en) := by
    show (Md.of d.x1 d.y1).en.next = _
    rw [Md.next_en (Md.of_ok h.d1 h.q1), Md.of_next]
  rw [e]
  show _ = ({ d.st with x1 := (Md.of d.x1.next.2 d.y1).en, f0 := d.U0.map Ut.un ++ [(d.x1.unit d.y1).un] } : PSt)
  unfold Duo.send1 Duo.st
  simp only [List.map_append, List.map_cons, List.map_nil, h.d1.next_G]
theorem Duo.hear1_en {d : Duo} {u : Ut} {us : List Ut} (h : d.Ok) (hu : d.U1 = u :: us) :
    d.st.x1.hear u.un = (if d.y1.takes u then some u.un.load else none, (Md.of (d.x1.hear u.n) (d.y1.hear u)).en) := by
  have h1 := h.d1
  have h0 := h.d0
  rw [hu] at h1 h0
  show (Md.of d.x1 d.y1).en.hear u.un = _
  rw [Md.hear_en (Md.of_ok h.d1 h.q1), Md.of_hear h1 h0]
theorem Duo.hear1_st {d : Duo} {u : Ut} {us : List Ut} (h : d.Ok) (hu : d.U1 = u :: us) :
    (d.hear1 u us).st = { d.st with x1 := (d.st.x1.hear u.un).2, f1 := us.map Ut.un, t1 := d.st.t1 ++ (d.st.x1.hear u.un).1.toList } := by
  rw [Duo.hear1_en h hu]
  have e : listL 0 (d.y1.hear u).n = listL 0 d.y1.n ++ (if d.y1.takes u then some u.un.load else none).toList := by
    rw [Rv.hear_n]
    by_cases ht : d.y1.takes u = true
    · rw [if_pos ht, if_pos ht, Rv.takes_load ht]
      exact (listL_snoc (Nat.zero_le _)).symm
    · rw [if_neg ht, if_neg ht]; simp
  show _ = ({ d.st with x1 := (Md.of (d.x1.hear u.n) (d.y1.hear u)).en, f1 := us.map Ut.un, t1 := listL 0 d.y1.n ++ (if d.y1.takes u then some u.un.load else none).toList } : PSt)
  rw [← e]
  unfold Duo.hear1 Duo.st
  simp only [Sn.hear_G]
theorem Duo.Ok.n1 {d : Duo} (h : d.Ok) : d.y1.n ≤ d.x0.G := Nat.le_trans h.d0.ns h.d0.sg
theorem send_duo1 (I : EndFace) {w : World} {p B N : Nat} (h : DuoAt I w p B N) (hN : N ≤ 10000) :
    Calls Try.prog 40 #[.pointer (some ⟨p, 0, none⟩), .int .i64 1] w fun e w' => e = .returned (.tuple #[]) ∧ (DuoAt I w' p B (N + 1) ∧ Below B w w') := by
  obtain ⟨d, L, ok, sm, rfl, hp⟩ := h
  have hu := sm.u0
  refine (send1_any I w p d.st L hp rfl (by show (d.U0.map Ut.un).length ≤ 100000; rw [List.length_map]; omega)).mono ?_
  rintro e w' ⟨rfl, ⟨L', hL, hp'⟩, hb⟩
  refine ⟨rfl, ⟨d.send1, L', Duo.send1_ok ok, ?_, hL, by rw [Duo.send1_st ok]; exact hp'⟩, hb⟩
  have s1 : d.send1.x1.G ≤ N + 1 := by show d.x1.next.2.G ≤ N + 1; rw [ok.d1.next_G]; exact Nat.le_succ_of_le sm.g1
  have s0 : d.send1.x0.G ≤ N + 1 := Nat.le_succ_of_le sm.g0
  have v0 : d.send1.U0.length ≤ N + 1 := by show (d.U0 ++ [_]).length ≤ N + 1; rw [List.length_append, List.length_singleton]; omega
  have v1 : d.send1.U1.length ≤ N + 1 := Nat.le_succ_of_le sm.u1
  exact ⟨s0, s1, v0, v1⟩
theorem bring_duo1 (I : EndFace) {w : World} {p B N : Nat} (lost : Bool) (h : DuoAt I w p B N) (hN : N ≤ 10000) :
    Calls Try.prog 41 #[.pointer (some ⟨p, 0, none⟩), .int .i64 1, .bool lost] w fun e w' => e = .returned (.tuple #[]) ∧ (DuoAt I w' p B (N + 1) ∧ Below B w w') := by
  obtain ⟨d, L, ok, sm, rfl, hp⟩ := h
  have hsm : ∀ us : List Ut, us.length ≤ N + 1 → ∀ x y, x.G ≤ N + 1 → ({ d with x1 := x, y1 := y, U1 := us } : Duo).Small (N + 1) := fun us hu x y hx => by
    have s1 : ({ d with x1 := x, y1 := y, U1 := us } : Duo).x1.G ≤ N + 1 := hx
    have s0 : ({ d with x1 := x, y1 := y, U1 := us } : Duo).x0.G ≤ N + 1 := Nat.le_succ_of_le sm.g0
    have v0 : ({ d with x1 := x, y1 := y, U1 := us } : Duo).U0.length ≤ N + 1 := Nat.le_succ_of_le sm.u0
    have v1 : ({ d with x1 := x, y1 := y, U1 := us } : Duo).U1.length ≤ N + 1 := hu
    exact ⟨s0, s1, v0, v1⟩
  have hku := sm.u1
  have hkg := sm.g1
  have hkt : d.st.t1.length ≤ 100000 := by
    show (listL 0 d.y1.n).length ≤ 100000
    rw [listL_length]
    have := ok.n1
    have := sm.g0
    omega
  cases hu : d.U1 with
  | nil =>
    refine (bring1_none I w p d.st L lost hp (by show d.U1.map Ut.un = []; rw [hu]; rfl)).mono ?_
    rintro e w' ⟨rfl, rfl⟩
    exact ⟨rfl, ⟨d, L, ok, ⟨Nat.le_succ_of_le sm.g0, Nat.le_succ_of_le sm.g1, Nat.le_succ_of_le sm.u0, Nat.le_succ_of_le sm.u1⟩, rfl, hp⟩, Below.refl _ _⟩
  | cons u us =>
    rw [hu, List.length_cons] at hku
    have hst : d.st.f1 = u.un :: us.map Ut.un := by show d.U1.map Ut.un = _; rw [hu]; rfl
    cases lost with
    | true =>
      refine (bring1_lost I w p d.st L u.un (us.map Ut.un) hp hst).mono ?_
      rintro e w' ⟨rfl, ⟨L', hL, hp'⟩, hb⟩
      exact ⟨rfl, ⟨d.lose1 us, L', Duo.lose1_ok ok hu, hsm us (by omega) _ _ (by omega), hL, hp'⟩, hb⟩
    | false =>
      have hen := Duo.hear1_en ok hu
      refine (bring1_heard I w p d.st L u.un (us.map Ut.un) hp hst ⟨rfl, u.un_kind, u.un_chk, by rw [hen]; rfl⟩ hkt).mono ?_
      rintro e w' ⟨rfl, ⟨L', hL, hp'⟩, hb⟩
      exact ⟨rfl, ⟨d.hear1 u us, L', Duo.hear1_ok ok hu, hsm us (by omega) _ _ (by rw [Sn.hear_G]; omega), hL, by rw [Duo.hear1_st ok hu]; exact hp'⟩, hb⟩
theorem act_duo1 (I : EndFace) {w : World} {p B N : Nat} (a : Int) (ha : 0 ≤ a) (hb : a ≤ 255) (hk : a % 2 = 1) (h : DuoAt I w p B N) (hN : N ≤ 10000) :
    Calls Try.prog 24 #[.pointer (some ⟨p, 0, none⟩), .int .u8 a] w fun e w' => e = .returned (.tuple #[]) ∧ (DuoAt I w' p B (N + 1) ∧ Below B w w') := by
  by_cases h1 : a / 2 % 8 = 0 ∨ a / 2 % 8 = 1
  · obtain ⟨d, L, ok, sm, rfl, hp⟩ := h
    have hg := sm.g1
    have hsg := ok.d1.sg
    have hqq := ok.q1
    have hql : d.st.x1.que.length = d.x1.G - d.x1.S := by show (listL d.x1.S d.x1.G).length = _; exact listL_length _ _
    by_cases hq : d.x1.G < d.x1.S + 64
    · refine (act_give1 I w p d.st L a hp ha hb hk h1 rfl (by show d.x1.G ≤ 100000; omega) (by omega)).mono ?_
      rintro e w' ⟨rfl, ⟨L', hL, hp'⟩, hb⟩
      refine ⟨rfl, ⟨d.give1, L', Duo.give1_ok ok hq, ?_, hL, by rw [Duo.give1_st ok]; exact hp'⟩, hb⟩
      have s1 : d.give1.x1.G ≤ N + 1 := Nat.succ_le_succ sm.g1
      have s0 : d.give1.x0.G ≤ N + 1 := Nat.le_succ_of_le sm.g0
      exact ⟨s0, s1, Nat.le_succ_of_le sm.u0, Nat.le_succ_of_le sm.u1⟩
    · refine (act_full1 I w p d.st L a hp ha hb hk h1 rfl (by show d.x1.G ≤ 100000; omega) (by omega)).mono ?_
      rintro e w' ⟨rfl, ⟨L', hL, hp'⟩, hb⟩
      exact ⟨rfl, ⟨d, L', ok, ⟨Nat.le_succ_of_le sm.g0, Nat.le_succ_of_le sm.g1, Nat.le_succ_of_le sm.u0, Nat.le_succ_of_le sm.u1⟩, hL, hp'⟩, hb⟩
  · by_cases h2 : a / 2 % 8 = 2 ∨ a / 2 % 8 = 3 ∨ a / 2 % 8 = 4
    · exact act_send ha hb hk h2 (send_duo1 I h hN)
    · exact act_bring ha hb hk (by omega) (bring_duo1 I _ h hN)
theorem good_duo1 (I : EndFace) {w : World} {p B N : Nat} (h : DuoAt I w p B N) (hN : N ≤ 10000) :
    Calls Try.prog 25 #[.pointer (some ⟨p, 0, none⟩), .int .i64 1] w fun e w' => e = .returned (.bool true) ∧ Below w.heap.size w w' := by
  obtain ⟨d, L, ok, sm, rfl, hp⟩ := h
  have hg := sm.g0
  have hd := ok.d0
  have han := hd.an
  have hns := hd.ns
  have hwi := hd.win
  have hah : (Md.of d.x0 d.y0).en.ahead (num d.y1.n) ≤ (listL d.x0.A d.x0.S).length := by
    rw [Md.ahead_en (Md.of_ok hd ok.q0), listL_length]
    show (num d.y1.n + 128 - num d.x0.A) % 128 ≤ _
    rw [num_diff han (by omega)]
    omega
  exact good1_yes I w p d.st L d.y1.n hp ok.n1 (by show d.x0.G ≤ 100000; omega) rfl rfl hah (Md.rest_en (Md.of_ok hd ok.q0) han hns)
theorem act_any (I : EndFace) {w : World} {p B N : Nat} (a : Int) (ha : 0 ≤ a) (hb : a ≤ 255) (h : DuoAt I w p B N) (hN : N ≤ 10000) :
    Calls Try.prog 24 #[.pointer (some ⟨p, 0, none⟩), .int .u8 a] w fun e w' => e = .returned (.tuple #[]) ∧ (DuoAt I w' p B (N + 1) ∧ Below B w w') := by
  have : a % 2 = 0 ∨ a % 2 = 1 := by omega
  rcases this with hk | hk
  · exact act_duo0 I a ha hb hk h hN
  · exact act_duo1 I a ha hb hk h hN
theorem start_duo (I : EndFace) (a b : Nat) (w : World) (ha : a ≤ 255) (hb : b ≤ 65535) :
    Calls Try.prog 23 #[.agg #[.int .u8 (a : Int), .int .u16 (b : Int)]] w fun e w' => (∃ p, e = .returned (.pointer (some ⟨p, 0, none⟩)) ∧ DuoAt I w' p w.heap.size 0) ∧ Below w.heap.size w w' := by
  refine (start_any I a b w ha hb).mono ?_
  rintro e w' ⟨⟨p, L, hB, rfl, hp⟩, hb⟩
  exact ⟨⟨p, rfl, Duo.zero _ _, L, Duo.zero_ok (zLm_in a).1 (zLm_in a).2 (zLo_in b).1 (zLo_in b).2, Duo.zero_small _ _, hB, by rw [Duo.zero_st]; exact hp⟩, hb⟩
end Go.Proofs.Ytdjnflfcolpccaa
