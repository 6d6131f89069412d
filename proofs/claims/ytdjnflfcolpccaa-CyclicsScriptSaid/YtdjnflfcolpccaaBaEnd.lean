/- Layer 7: an end by the chapter, the statements' model of it, and what the one says of the other. -/
import Derived.Test.YtdjnflfcolpccaaBaMath
namespace Go.Proofs.Ytdjnflfcolpccaa

/-- A unit: acknowledged number and bit, own number and bit, kind, state, load. -/
structure Un where
  back : Nat
  bb : Bool
  fore : Nat
  fb : Bool
  kind : Nat
  state : Nat
  load : List Int
/-- An end by the chapter. -/
structure En where
  lm : Nat
  lo : Nat
  que : List (List Int)
  una : List (List Int)
  plc : Nat
  forced : Bool
  sent : Nat
  acc : Nat
  w1 : Bool
  w2 : Bool
  failed : Bool
def En.zero (lm lo : Nat) : En := ⟨lm, lo, [], [], 0, false, 127, 127, false, false, false⟩
def En.acked (x : En) : Nat := (x.sent + 128 - x.una.length) % 128
/-- The octets of some loads. -/
def tot : List (List Int) → Nat
  | [] => 0
  | l :: ls => l.length + tot ls
theorem tot_append (a b : List (List Int)) : tot (a ++ b) = tot a + tot b := by
  induction a with
  | nil => simp [tot]
  | cons l a ih => simp only [List.cons_append, tot, ih]; omega
def En.lim (x : En) : Bool := decide (x.lm ≤ x.una.length) || decide (x.lo ≤ tot x.una)
def En.pre (x : En) : En :=
  if x.lim = true ∧ x.forced = false then { x with forced := true, plc := 0 }
  else if x.lim = false ∧ x.plc = x.una.length then { x with forced := false } else x
def En.fill (x : En) : Un := ⟨x.acc, true, x.sent, true, 0, 0, []⟩
/-- The index of the load that is repeated. -/
def En.idx (x : En) : Nat := if x.plc = x.una.length then 0 else x.plc
def En.unit (x : En) (i : Nat) : Un := ⟨x.acc, true, (x.sent + 129 + i - x.una.length) % 128, true, 2, 0, x.una.getD i []⟩
def En.again (x : En) : Un × En := if 0 < x.una.length then (x.unit x.idx, { x with plc := x.idx + 1 }) else (x.fill, x)
def En.new (x : En) (l : List Int) (q : List (List Int)) : Un × En := (⟨x.acc, true, (x.sent + 1) % 128, true, 2, 0, l⟩, { x with que := q, una := x.una ++ [l], sent := (x.sent + 1) % 128 })
def En.go (x : En) : Un × En :=
  match x.que with
  | l :: q => if x.forced = false then x.new l q else x.again
  | [] => x.again
def En.next (x : En) : Un × En := x.pre.go
def En.ahead (x : En) (n : Nat) : Nat := (n + 128 - x.acked) % 128
def En.wrong (x : En) (u : Un) : Bool := decide (x.una.length < x.ahead u.back)
/-- What is acknowledged, when a unit that is not abnormal is heard. -/
def En.ack (x : En) (u : Un) : En := { x with una := x.una.drop (x.ahead u.back), plc := x.plc - x.ahead u.back, w1 := x.w2, w2 := false }
def En.takes (x : En) (u : Un) : Bool := u.kind == 2 && u.fore == (x.acc + 1) % 128
def En.hear (x : En) (u : Un) : Option (List Int) × En :=
  if x.wrong u then (none, { x with w1 := x.w2, w2 := true, failed := x.w1 || x.w2 })
  else if x.takes u then (some u.load, { x.ack u with acc := u.fore })
  else (none, x.ack u)
def En.accept (x : En) (l : List Int) : En := { x with que := x.que ++ [l] }
/-- What can be retrieved behind a number. -/
def En.rest (x : En) (n : Nat) : List (List Int) := x.una.drop (x.ahead n) ++ x.que
theorem En.pre_cases (x : En) : (x.lim = true ∧ x.forced = false ∧ x.pre = { x with forced := true, plc := 0 }) ∨ (x.lim = true ∧ x.forced = true ∧ x.pre = x) ∨ (x.lim = false ∧ x.plc = x.una.length ∧ x.pre = { x with forced := false }) ∨ (x.lim = false ∧ x.plc ≠ x.una.length ∧ x.pre = x) := by
  unfold En.pre
  cases hl : x.lim
  · by_cases hp : x.plc = x.una.length
    · exact .inr (.inr (.inl ⟨rfl, hp, by rw [if_neg (by simp), if_pos ⟨rfl, hp⟩]⟩))
    · exact .inr (.inr (.inr ⟨rfl, hp, by rw [if_neg (by simp), if_neg (by simp [hp])]⟩))
  · cases hf : x.forced
    · exact .inl ⟨rfl, rfl, by rw [if_pos ⟨rfl, rfl⟩]⟩
    · exact .inr (.inl ⟨rfl, rfl, by rw [if_neg (by simp), if_neg (by simp)]⟩)

/-! ## The statements' model -/
structure Md where
  lm : Nat
  lo : Nat
  given : Nat
  sent : Nat
  acked : Nat
  plc : Nat
  forced : Bool
  accepted : Nat
  w0 : Bool
  w1 : Bool
  failed : Bool
def loadK (k : Nat) : List Int := [((k % 256 : Nat) : Int), ((k / 256 % 256 : Nat) : Int)] ++ List.replicate (k % 4) 0
theorem loadK_length (k : Nat) : (loadK k).length = mlen k := by simp [loadK, mlen]; omega
def listL (a b : Nat) : List (List Int) := (List.range' a (b - a)).map loadK
theorem listL_length (a b : Nat) : (listL a b).length = b - a := by simp [listL]
theorem listL_drop {a b d : Nat} (_h : a + d ≤ b) : (listL a b).drop d = listL (a + d) b := by
  unfold listL
  have e : b - a - d = b - (a + d) := by omega
  rw [← List.map_drop, List.drop_range', e, Nat.mul_one]
theorem listL_append {a b c : Nat} (h1 : a ≤ b) (h2 : b ≤ c) : listL a b ++ listL b c = listL a c := by
  unfold listL
  rw [← List.map_append]
  congr 1
  obtain ⟨m, rfl⟩ : ∃ m, b = a + m := ⟨b - a, by omega⟩
  obtain ⟨k, rfl⟩ : ∃ k, c = a + m + k := ⟨c - (a + m), by omega⟩
  rw [Nat.add_sub_cancel_left, Nat.add_sub_cancel_left, show a + m + k - a = m + k by omega]
  have := List.range'_append (s := a) (m := m) (n := k) (step := 1)
  simp
theorem listL_snoc {a b : Nat} (h : a ≤ b) : listL a b ++ [loadK b] = listL a (b + 1) := by
  rw [← listL_append h (Nat.le_succ b)]
  congr 1
  unfold listL
  rw [show b + 1 - b = 1 by omega]
  rfl
theorem listL_cons {a b : Nat} (h : a < b) : listL a b = loadK a :: listL (a + 1) b := by
  rw [← listL_append (show a ≤ a + 1 by omega) (show a + 1 ≤ b by omega)]
  unfold listL
  rw [show a + 1 - a = 1 by omega]
  rfl
theorem listL_nil (a : Nat) : listL a a = [] := by unfold listL; rw [Nat.sub_self]; rfl
theorem listL_getD {a b k : Nat} (h : a + k < b) : (listL a b).getD k [] = loadK (a + k) := by
  unfold listL
  rw [List.getD_eq_getElem?_getD, List.getElem?_map, List.getElem?_range' (by omega)]
  simp
theorem tot_listL (a n : Nat) : tot (listL a (a + n)) = ocs a n := by
  induction n with
  | zero => rw [Nat.add_zero, listL_nil]; rfl
  | succ n ih =>
    rw [← Nat.add_assoc, ← listL_snoc (by omega), tot_append, ih]
    show ocs a n + ((loadK (a + n)).length + 0) = ocs a n + mlen (a + n)
    rw [loadK_length]; rfl
structure Md.Ok (m : Md) : Prop where
  lm1 : 1 ≤ m.lm
  lm2 : m.lm ≤ 127
  lo1 : 1 ≤ m.lo
  lo2 : m.lo ≤ 65535
  ap : m.acked ≤ m.plc
  ps : m.plc ≤ m.sent
  sg : m.sent ≤ m.given
  win : m.sent ≤ m.acked + 127
  que : m.given ≤ m.sent + 64
  acc : m.accepted < 128
def Md.fresh (lm lo : Nat) : Md := ⟨lm, lo, 0, 0, 0, 0, false, 127, false, false, false⟩
theorem Md.fresh_ok {lm lo : Nat} (h1 : 1 ≤ lm) (h2 : lm ≤ 127) (h3 : 1 ≤ lo) (h4 : lo ≤ 65535) : (Md.fresh lm lo).Ok :=
  ⟨h1, h2, h3, h4, Nat.le_refl _, Nat.le_refl _, Nat.le_refl _, Nat.zero_le _, Nat.zero_le _, (by decide : 127 < 128)⟩
/-- The end that the model stands for. -/
def Md.en (m : Md) : En := ⟨m.lm, m.lo, listL m.sent m.given, listL m.acked m.sent, m.plc - m.acked, m.forced, num m.sent, m.accepted, m.w0, m.w1, m.failed⟩
theorem Md.fresh_en (lm lo : Nat) : (Md.fresh lm lo).en = En.zero lm lo := by
  unfold Md.en Md.fresh En.zero
  simp only [listL_nil, Nat.sub_self]
  rfl
theorem Md.en_acked {m : Md} (h : m.Ok) : m.en.acked = num m.acked := by
  show (num m.sent + 128 - (listL m.acked m.sent).length) % 128 = _
  rw [listL_length]
  have := h.ap; have := h.ps; have := h.win
  unfold num; omega
def Md.lim (m : Md) : Bool := decide (m.lm ≤ m.sent - m.acked) || decide (m.lo ≤ ocs m.acked (m.sent - m.acked))
def Md.pre (m : Md) : Md :=
  if m.lim = true ∧ m.forced = false then { m with forced := true, plc := m.acked }
  else if m.lim = false ∧ m.plc = m.sent then { m with forced := false } else m
def Md.idx (m : Md) : Nat := if m.plc = m.sent then m.acked else m.plc
def Md.go (m : Md) : Un × Md :=
  if m.forced = false ∧ m.sent < m.given then (⟨m.accepted, true, num (m.sent + 1), true, 2, 0, loadK m.sent⟩, { m with sent := m.sent + 1 })
  else if m.acked < m.sent then (⟨m.accepted, true, num (m.idx + 1), true, 2, 0, loadK m.idx⟩, { m with plc := m.idx + 1 })
  else (⟨m.accepted, true, num m.sent, true, 0, 0, []⟩, m)
def Md.next (m : Md) : Un × Md := m.pre.go
theorem Md.pre_cases (x : Md) : (x.lim = true ∧ x.forced = false ∧ x.pre = { x with forced := true, plc := x.acked }) ∨ (x.lim = true ∧ x.forced = true ∧ x.pre = x) ∨ (x.lim = false ∧ x.plc = x.sent ∧ x.pre = { x with forced := false }) ∨ (x.lim = false ∧ x.plc ≠ x.sent ∧ x.pre = x) := by
  unfold Md.pre
  cases hl : x.lim
  · by_cases hp : x.plc = x.sent
    · exact .inr (.inr (.inl ⟨rfl, hp, by rw [if_neg (by simp), if_pos ⟨rfl, hp⟩]⟩))
    · exact .inr (.inr (.inr ⟨rfl, hp, by rw [if_neg (by simp), if_neg (by simp [hp])]⟩))
  · cases hf : x.forced
    · exact .inl ⟨rfl, rfl, by rw [if_pos ⟨rfl, rfl⟩]⟩
    · exact .inr (.inl ⟨rfl, rfl, by rw [if_neg (by simp), if_neg (by simp)]⟩)
theorem Md.lim_room {m : Md} (h : m.lim = false) : m.sent - m.acked < m.lm ∧ ocs m.acked (m.sent - m.acked) < m.lo := by
  unfold Md.lim at h
  simp only [Bool.or_eq_false_iff, decide_eq_false_iff_not] at h
  omega
/-- Where nothing is open, nothing is limited. -/
theorem Md.lim_none {m : Md} (h : m.Ok) (he : m.acked = m.sent) : m.lim = false := by
  have h1 := h.lm1; have h2 := h.lo1
  unfold Md.lim
  rw [he, Nat.sub_self]
  have e2 : ocs m.sent 0 = 0 := rfl
  rw [e2]
  simp; omega
theorem Md.pre_ok {m : Md} (h : m.Ok) : m.pre.Ok := by
  rcases m.pre_cases with ⟨_, _, e⟩ | ⟨_, _, e⟩ | ⟨_, _, e⟩ | ⟨_, _, e⟩
  · rw [e]; exact ⟨h.lm1, h.lm2, h.lo1, h.lo2, Nat.le_refl _, Nat.le_trans h.ap h.ps, h.sg, h.win, h.que, h.acc⟩
  · rw [e]; exact h
  · rw [e]; exact ⟨h.lm1, h.lm2, h.lo1, h.lo2, h.ap, h.ps, h.sg, h.win, h.que, h.acc⟩
  · rw [e]; exact h
/-- Behind the beginning of a step no forced repetition is under way only where the end is not limited. -/
theorem Md.pre_free {m : Md} (hf : m.pre.forced = false) : m.pre.lim = false ∧ m.pre.sent - m.pre.acked < m.pre.lm := by
  have key : m.lim = false → m.pre.lim = m.lim ∧ m.pre.sent = m.sent ∧ m.pre.acked = m.acked ∧ m.pre.lm = m.lm := by
    intro hl
    rcases m.pre_cases with ⟨c, _, e⟩ | ⟨c, _, e⟩ | ⟨_, _, e⟩ | ⟨_, _, e⟩
    · rw [c] at hl; cases hl
    · rw [c] at hl; cases hl
    · rw [e]; exact ⟨rfl, rfl, rfl, rfl⟩
    · rw [e]; exact ⟨rfl, rfl, rfl, rfl⟩
  have hl : m.lim = false := by
    rcases m.pre_cases with ⟨_, _, e⟩ | ⟨_, c, e⟩ | ⟨c, _, e⟩ | ⟨c, _, e⟩
    · rw [e] at hf; cases hf
    · rw [e, c] at hf; cases hf
    · exact c
    · exact c
  obtain ⟨k1, k2, k3, k4⟩ := key hl
  exact ⟨k1.trans hl, by rw [k2, k3, k4]; exact (Md.lim_room hl).1⟩
theorem Md.idx_le {m : Md} (h : m.Ok) (hl : m.acked < m.sent) : m.acked ≤ m.idx ∧ m.idx < m.sent := by
  have h1 := h.ap; have h2 := h.ps
  unfold Md.idx
  split <;> omega
theorem Md.go_ok {m : Md} (h : m.Ok) (hr : m.forced = false → m.sent - m.acked < m.lm) : m.go.2.Ok := by
  have h1 := h.ap; have h2 := h.ps; have h3 := h.sg; have h4 := h.win; have h5 := h.que; have h6 := h.lm2
  unfold Md.go
  by_cases hc : m.forced = false ∧ m.sent < m.given
  · rw [if_pos hc]
    have := hr hc.1
    have := hc.2
    exact ⟨h.lm1, h.lm2, h.lo1, h.lo2, h.ap, by show m.plc ≤ m.sent + 1; omega, by show m.sent + 1 ≤ m.given; omega, by show m.sent + 1 ≤ m.acked + 127; omega, by show m.given ≤ m.sent + 1 + 64; omega, h.acc⟩
  · rw [if_neg hc]
    by_cases hl : m.acked < m.sent
    · rw [if_pos hl]
      obtain ⟨i1, i2⟩ := Md.idx_le h hl
      exact ⟨h.lm1, h.lm2, h.lo1, h.lo2, by show m.acked ≤ m.idx + 1; omega, i2, h.sg, h.win, h.que, h.acc⟩
    · rw [if_neg hl]; exact h
theorem Md.next_ok {m : Md} (h : m.Ok) : m.next.2.Ok := Md.go_ok (Md.pre_ok h) (fun hf => (Md.pre_free hf).2)
theorem Md.lim_en {m : Md} (h : m.Ok) : m.en.lim = m.lim := by
  have h1 := h.ap; have h2 := h.ps
  unfold En.lim Md.lim
  show (decide (m.lm ≤ (listL m.acked m.sent).length) || decide (m.lo ≤ tot (listL m.acked m.sent))) = _
  rw [listL_length]
  have e : tot (listL m.acked m.sent) = ocs m.acked (m.sent - m.acked) := by
    have hh := tot_listL m.acked (m.sent - m.acked)
    rw [show m.acked + (m.sent - m.acked) = m.sent by omega] at hh
    exact hh
  rw [e]
theorem Md.pre_en {m : Md} (h : m.Ok) : m.en.pre = m.pre.en := by
  have h1 := h.ap; have h2 := h.ps
  have el := Md.lim_en h
  have eu : m.en.una.length = m.sent - m.acked := listL_length _ _
  have ep : m.en.plc = m.plc - m.acked := rfl
  rcases m.pre_cases with ⟨c1, c2, e⟩ | ⟨c1, c2, e⟩ | ⟨c1, c2, e⟩ | ⟨c1, c2, e⟩
  · rw [e]
    unfold En.pre
    rw [if_pos ⟨el.trans c1, c2⟩]
    unfold Md.en
    simp only [Nat.sub_self]
  · rw [e]
    unfold En.pre
    have c2' : m.en.forced = true := c2
    rw [if_neg (by rw [c2']; simp), if_neg (by rw [el, c1]; simp)]
  · rw [e]
    unfold En.pre
    rw [if_neg (by rw [el, c1]; simp), if_pos ⟨el.trans c1, by rw [eu, ep]; omega⟩]
    rfl
  · rw [e]
    unfold En.pre
    rw [if_neg (by rw [el, c1]; simp), if_neg (by rw [eu, ep]; omega)]
theorem Md.go_en {m : Md} (h : m.Ok) : m.en.go = (m.go.1, m.go.2.en) := by
  have h1 := h.ap; have h2 := h.ps; have h3 := h.sg; have h4 := h.win
  have eu : m.en.una.length = m.sent - m.acked := listL_length _ _
  have ep : m.en.plc = m.plc - m.acked := rfl
  have again : ¬ (m.forced = false ∧ m.sent < m.given) → m.en.again = (m.go.1, m.go.2.en) := by
    intro hc
    unfold Md.go En.again
    rw [if_neg hc, eu]
    by_cases hl : m.acked < m.sent
    · rw [if_pos hl, if_pos (by omega)]
      obtain ⟨i1, i2⟩ := Md.idx_le h hl
      have ei : m.en.idx = m.idx - m.acked := by
        unfold En.idx Md.idx
        rw [eu, ep]
        by_cases hp : m.plc = m.sent
        · rw [if_pos (by omega), if_pos hp]; omega
        · rw [if_neg (by omega), if_neg hp]
      have e1 : (m.en.sent + 129 + m.en.idx - m.en.una.length) % 128 = num (m.idx + 1) := by
        rw [ei, eu]
        show (num m.sent + 129 + (m.idx - m.acked) - (m.sent - m.acked)) % 128 = _
        unfold num; omega
      have e2 : m.en.una.getD m.en.idx [] = loadK m.idx := by
        show (listL m.acked m.sent).getD m.en.idx [] = _
        rw [ei, listL_getD (by omega)]
        congr 1; omega
      have e3 : m.en.idx + 1 = m.idx + 1 - m.acked := by rw [ei]; omega
      unfold En.unit
      rw [e1, e2, e3]
      rfl
    · rw [if_neg hl, if_neg (by omega)]
      rfl
  unfold En.go
  by_cases c4 : m.sent < m.given
  · have e1 : m.en.que = loadK m.sent :: listL (m.sent + 1) m.given := listL_cons c4
    rw [e1]
    simp only
    by_cases hf : m.forced = false
    · have hf' : m.en.forced = false := hf
      rw [if_pos hf']
      unfold Md.go En.new
      rw [if_pos ⟨hf, c4⟩]
      have e3 : m.en.una ++ [loadK m.sent] = listL m.acked (m.sent + 1) := listL_snoc (by omega)
      have e4 : (m.en.sent + 1) % 128 = num (m.sent + 1) := (num_succ _).symm
      rw [e3, e4]
      rfl
    · have hf' : ¬ m.en.forced = false := hf
      rw [if_neg hf']
      exact again (fun hh => hf hh.1)
  · have e0 : m.sent = m.given := by omega
    have e1 : m.en.que = [] := by show listL m.sent m.given = []; rw [e0]; exact listL_nil _
    rw [e1]
    exact again (fun hh => c4 hh.2)
/-- What the end sends is what the model sends. -/
theorem Md.next_en {m : Md} (h : m.Ok) : m.en.next = (m.next.1, m.next.2.en) := by
  unfold En.next Md.next
  rw [Md.pre_en h]
  exact Md.go_en (Md.pre_ok h)
/-- The model hears. -/
def Md.d (m : Md) (u : Un) : Nat := (u.back + 128 - num m.acked) % 128
def Md.wrong (m : Md) (u : Un) : Bool := decide (m.sent - m.acked < m.d u)
def Md.ack (m : Md) (u : Un) : Md := { m with acked := m.acked + m.d u, plc := max m.plc (m.acked + m.d u), w0 := m.w1, w1 := false }
def Md.takes (m : Md) (u : Un) : Bool := u.kind == 2 && u.fore == (m.accepted + 1) % 128
def Md.hear (m : Md) (u : Un) : Bool × Md :=
  if m.wrong u then (false, { m with w0 := m.w1, w1 := true, failed := m.w0 || m.w1 })
  else if m.takes u then (true, { m.ack u with accepted := u.fore })
  else (false, m.ack u)
theorem Md.ahead_en {m : Md} (h : m.Ok) (n : Nat) : m.en.ahead n = (n + 128 - num m.acked) % 128 := by unfold En.ahead; rw [m.en_acked h]
theorem Md.wrong_en {m : Md} (h : m.Ok) (u : Un) : m.en.wrong u = m.wrong u := by
  unfold En.wrong Md.wrong Md.d
  rw [m.ahead_en h]
  show decide ((listL m.acked m.sent).length < _) = _
  rw [listL_length]
theorem Md.ack_en {m : Md} (h : m.Ok) (u : Un) (hw : m.wrong u = false) : m.en.ack u = (m.ack u).en := by
  have hd : m.d u ≤ m.sent - m.acked := by unfold Md.wrong at hw; simpa using hw
  have h1 := h.ap; have h2 := h.ps
  unfold En.ack
  rw [m.ahead_en h]
  show (⟨m.lm, m.lo, listL m.sent m.given, (listL m.acked m.sent).drop (m.d u), m.plc - m.acked - m.d u, m.forced, num m.sent, m.accepted, m.w1, false, m.failed⟩ : En) = _
  rw [listL_drop (by omega)]
  unfold Md.ack Md.en
  simp only
  congr 1
  omega
theorem Md.hear_en {m : Md} (h : m.Ok) (u : Un) : m.en.hear u = (if (m.hear u).1 then some u.load else none, (m.hear u).2.en) := by
  unfold En.hear Md.hear
  rw [m.wrong_en h]
  cases hw : m.wrong u with
  | true => rfl
  | false =>
    simp only [Bool.false_eq_true, if_false]
    rw [m.ack_en h u hw, show m.en.takes u = m.takes u from rfl]
    cases ht : m.takes u with
    | true => rfl
    | false => rfl
theorem Md.hear_ok {m : Md} (h : m.Ok) (u : Un) (hu : u.fore < 128) : (m.hear u).2.Ok := by
  have h1 := h.ap; have h2 := h.ps; have h4 := h.win
  have hack : m.wrong u = false → (m.ack u).Ok := by
    intro hw
    have hd : m.d u ≤ m.sent - m.acked := by unfold Md.wrong at hw; simpa using hw
    exact ⟨h.lm1, h.lm2, h.lo1, h.lo2, Nat.le_max_right _ _, by show max m.plc (m.acked + m.d u) ≤ m.sent; omega, h.sg, by show m.sent ≤ m.acked + m.d u + 127; omega, h.que, h.acc⟩
  unfold Md.hear
  cases hw : m.wrong u with
  | true => rw [if_pos rfl]; exact ⟨h.lm1, h.lm2, h.lo1, h.lo2, h.ap, h.ps, h.sg, h.win, h.que, h.acc⟩
  | false =>
    have k := hack hw
    simp only [Bool.false_eq_true, if_false]
    split
    · exact ⟨k.lm1, k.lm2, k.lo1, k.lo2, k.ap, k.ps, k.sg, k.win, k.que, hu⟩
    · exact k
theorem Md.rest_en {m : Md} (h : m.Ok) {k : Nat} (h1 : m.acked ≤ k) (h2 : k ≤ m.sent) : m.en.rest (num k) = listL k m.given := by
  unfold En.rest
  rw [m.ahead_en h, num_diff h1 (by have := h.win; omega)]
  show (listL m.acked m.sent).drop (k - m.acked) ++ listL m.sent m.given = _
  rw [listL_drop (by omega), show m.acked + (k - m.acked) = k by omega, listL_append h2 h.sg]

/-! ## Two ends in counts are two models -/
def Md.of (x : Sn) (y : Rv) : Md := ⟨x.lm, x.lo, x.G, x.S, x.A, x.P, x.f, num y.n, false, false, false⟩
def Ut.un (u : Ut) : Un := ⟨num u.n, true, num u.v, true, (match u.idx with | some _ => 2 | none => 0), 0, (match u.idx with | some i => loadK i | none => [])⟩
theorem Md.of_ok {x : Sn} {y y' : Rv} {F B : List Ut} (h : Dir x y F B) (hq : x.G ≤ x.S + 64) : (Md.of x y').Ok := ⟨h.lm1, h.lm2, h.lo1, h.lo2, h.ap, h.ps, h.sg, h.win, hq, num_lt _⟩
theorem Md.of_pre (x : Sn) (y : Rv) : (Md.of x y).pre = Md.of x.pre y := by
  have el : (Md.of x y).lim = x.lim := rfl
  unfold Md.pre Sn.pre
  rw [el]
  show (if x.lim = true ∧ x.f = false then _ else if x.lim = false ∧ x.P = x.S then _ else _) = _
  split
  · rfl
  · split <;> rfl
theorem Md.of_go (x : Sn) (y : Rv) : (Md.of x y).go = ((⟨x.go.1, x.go.2.S, y.n⟩ : Ut).un, Md.of x.go.2 y) := by
  unfold Md.go Sn.go
  show (if x.f = false ∧ x.S < x.G then _ else if x.A < x.S then _ else _) = _
  split
  · rfl
  · split <;> rfl
theorem Md.of_next (x : Sn) (y' : Rv) : (Md.of x y').next = ((x.unit y').un, Md.of x.next.2 y') := by
  unfold Md.next
  rw [Md.of_pre, Md.of_go]
  rfl
/-- An end that hears a unit under way: as the counts say. -/
theorem Md.of_hear {x xo : Sn} {y yo : Rv} {F B : List Ut} {u : Ut} {F' B' : List Ut} (hB : Dir x y F (u :: B)) (hF : Dir xo yo (u :: F') B') :
    (Md.of x yo).hear u.un = (yo.takes u, Md.of (x.hear u.n) (yo.hear u)) := by
  obtain ⟨a1, a2⟩ := hB.ack_num
  have b2 := hF.fore_num
  obtain ⟨g1, g2⟩ := hB.bwd u (by simp)
  have hd : (Md.of x yo).d u.un = u.n - x.A := a1
  have hw : (Md.of x yo).wrong u.un = false := by
    unfold Md.wrong
    rw [hd]
    show decide (x.S - x.A < u.n - x.A) = false
    rw [decide_eq_false]; omega
  have hA : (Md.of x yo).ack u.un = Md.of (x.hear u.n) yo := by
    unfold Md.ack
    rw [hd]
    show (⟨x.lm, x.lo, x.G, x.S, x.A + (u.n - x.A), max x.P (x.A + (u.n - x.A)), x.f, num yo.n, false, false, false⟩ : Md) = _
    rw [show x.A + (u.n - x.A) = u.n by omega]
    rfl
  unfold Md.hear
  rw [hw, hA]
  simp only [Bool.false_eq_true, if_false]
  have ht : (Md.of x yo).takes u.un = yo.takes u := by
    unfold Md.takes Rv.takes
    show ((match u.idx with | some _ => 2 | none => 0) == 2 && num u.v == (num yo.n + 1) % 128) = _
    cases hi : u.idx with
    | none => simp
    | some i =>
      have := b2 i hi
      have e2 : (num u.v == (num yo.n + 1) % 128) = (some i == some yo.n) := by
        rw [Bool.eq_iff_iff]; simp only [beq_iff_eq, Option.some.injEq]; exact this
      rw [e2]; simp
  rw [ht]
  by_cases hi : u.idx = some yo.n
  · have h1 : yo.takes u = true := by unfold Rv.takes; simp [hi]
    rw [h1, if_pos rfl]
    have e2 : yo.hear u = ⟨yo.n + 1⟩ := by unfold Rv.hear; rw [if_pos hi]
    have e3 : num u.v = num (yo.n + 1) := by unfold Ut.v; rw [hi]
    rw [e2]
    show (true, ({ Md.of (x.hear u.n) yo with accepted := num u.v } : Md)) = _
    rw [e3]; rfl
  · have h1 : yo.takes u = false := by unfold Rv.takes; simp [hi]
    have e2 : yo.hear u = yo := by unfold Rv.hear; rw [if_neg hi]
    rw [h1, e2]
    rfl
end Go.Proofs.Ytdjnflfcolpccaa
