/- Layer 6: an end by the chapter, the statements' model of it, and what the one says of the other. -/
import Derived.Test.YtoegijmfcelgnaaBaMath
namespace Go.Proofs.Ytoegijmfcelgnaa

/-- A unit: acknowledged number and bit, own number and bit, kind, state, load. -/
structure Un where
  back : Nat
  bb : Bool
  fore : Nat
  fb : Bool
  kind : Nat
  state : Nat
  load : List Int
/-- An end by the chapter. -/
structure En where
  que : List (List Int)
  una : List (List Int)
  rep : Nat
  sent : Nat
  fore : Bool
  acc : Nat
  back : Bool
  w1 : Bool
  w2 : Bool
  failed : Bool
def En.zero : En := ⟨[], [], 0, 127, true, 127, true, false, false, false⟩
def En.acked (x : En) : Nat := (x.sent + 128 - x.una.length) % 128
def En.fill (x : En) : Un := ⟨x.acc, x.back, x.sent, x.fore, 0, 0, []⟩
def En.next (x : En) : Un × En :=
  if 0 < x.rep then (⟨x.acc, x.back, (x.sent + 129 - x.rep) % 128, x.fore, 2, 0, x.una.getD (x.una.length - x.rep) []⟩, { x with rep := x.rep - 1 })
  else match x.que with
    | l :: q => if x.una.length < 127 then (⟨x.acc, x.back, (x.sent + 1) % 128, x.fore, 2, 0, l⟩, { x with que := q, una := x.una ++ [l], sent := (x.sent + 1) % 128 }) else (x.fill, x)
    | [] => (x.fill, x)
def En.ahead (x : En) (n : Nat) : Nat := (n + 128 - x.acked) % 128
def En.wrong (x : En) (u : Un) : Bool := decide (x.una.length < x.ahead u.back)
/-- What is acknowledged and turned, when a unit that is not abnormal is heard. -/
def En.ack (x : En) (u : Un) : En :=
  { x with una := x.una.drop (x.ahead u.back), fore := u.bb, rep := if u.bb = x.fore then min x.rep (x.una.length - x.ahead u.back) else x.una.length - x.ahead u.back, w1 := x.w2, w2 := false }
def En.takes (x : En) (u : Un) : Bool := u.fb == x.back && u.kind == 2 && u.fore == (x.acc + 1) % 128
def En.hear (x : En) (u : Un) : Option (List Int) × En :=
  if x.wrong u then (none, { x with w1 := x.w2, w2 := true, failed := x.w1 || x.w2 })
  else if x.takes u then (some u.load, { x.ack u with acc := u.fore })
  else if u.fb = x.back ∧ u.fore ≠ x.acc then (none, { x.ack u with back := !x.back })
  else (none, x.ack u)
def En.accept (x : En) (l : List Int) : En := { x with que := x.que ++ [l] }
/-- What can be retrieved behind a number. -/
def En.rest (x : En) (n : Nat) : List (List Int) := x.una.drop (x.ahead n) ++ x.que

/-! ## The statements' model -/
structure Md where
  given : Nat
  sent : Nat
  acked : Nat
  rep : Nat
  fore : Bool
  accepted : Nat
  back : Bool
  w0 : Bool
  w1 : Bool
  failed : Bool
def loadK (k : Nat) : List Int := [((k % 256 : Nat) : Int), ((k / 256 % 256 : Nat) : Int)]
def listL (a b : Nat) : List (List Int) := (List.range' a (b - a)).map loadK
theorem listL_length (a b : Nat) : (listL a b).length = b - a := by simp [listL]
theorem listL_drop {a b d : Nat} (_h : a + d ≤ b) : (listL a b).drop d = listL (a + d) b := by
  unfold listL
  have e : b - a - d = b - (a + d) := by omega
  rw [← List.map_drop, List.drop_range', e, Nat.mul_one]
theorem listL_append {a b c : Nat} (h1 : a ≤ b) (h2 : b ≤ c) : listL a b ++ listL b c = listL a c := by
  unfold listL
  rw [← List.map_append]
  congr 1
  obtain ⟨m, rfl⟩ : ∃ m, b = a + m := ⟨b - a, by omega⟩
  obtain ⟨k, rfl⟩ : ∃ k, c = a + m + k := ⟨c - (a + m), by omega⟩
  rw [Nat.add_sub_cancel_left, Nat.add_sub_cancel_left, show a + m + k - a = m + k by omega]
  have := List.range'_append (s := a) (m := m) (n := k) (step := 1)
  simp
theorem listL_snoc {a b : Nat} (h : a ≤ b) : listL a b ++ [loadK b] = listL a (b + 1) := by
  rw [← listL_append h (Nat.le_succ b)]
  congr 1
  unfold listL
  rw [show b + 1 - b = 1 by omega]
  rfl
theorem listL_cons {a b : Nat} (h : a < b) : listL a b = loadK a :: listL (a + 1) b := by
  rw [← listL_append (show a ≤ a + 1 by omega) (show a + 1 ≤ b by omega)]
  unfold listL
  rw [show a + 1 - a = 1 by omega]
  rfl
theorem listL_nil (a : Nat) : listL a a = [] := by unfold listL; rw [Nat.sub_self]; rfl
theorem listL_getD {a b k : Nat} (h : a + k < b) : (listL a b).getD k [] = loadK (a + k) := by
  unfold listL
  rw [List.getD_eq_getElem?_getD, List.getElem?_map, List.getElem?_range' (by omega)]
  simp
structure Md.Ok (m : Md) : Prop where
  ar : m.acked ≤ m.rep
  rs : m.rep ≤ m.sent
  sg : m.sent ≤ m.given
  win : m.sent ≤ m.acked + 127
  que : m.given ≤ m.sent + 64
  acc : m.accepted < 128
def Md.fresh : Md := ⟨0, 0, 0, 0, true, 127, true, false, false, false⟩
theorem Md.fresh_ok : Md.fresh.Ok := by constructor <;> simp [Md.fresh]
/-- The end that the model stands for. -/
def Md.en (m : Md) : En := ⟨listL m.sent m.given, listL m.acked m.sent, m.sent - m.rep, num m.sent, m.fore, m.accepted, m.back, m.w0, m.w1, m.failed⟩
theorem Md.fresh_en : Md.fresh.en = En.zero := rfl
theorem Md.en_acked {m : Md} (h : m.Ok) : m.en.acked = num m.acked := by
  show (num m.sent + 128 - (listL m.acked m.sent).length) % 128 = _
  rw [listL_length]
  have := h.ar; have := h.rs; have := h.win
  unfold num; omega
/-- One more is sent, where none is to be repeated. -/
def Md.more (m : Md) : Md := if m.rep = m.sent ∧ m.sent < m.given ∧ m.sent - m.acked < 127 then { m with sent := m.sent + 1 } else m
def Md.next (m : Md) : Un × Md :=
  if m.more.rep < m.more.sent then (⟨m.accepted, m.back, num (m.rep + 1), m.fore, 2, 0, loadK m.rep⟩, { m.more with rep := m.rep + 1 })
  else (⟨m.accepted, m.back, num m.sent, m.fore, 0, 0, []⟩, m)
theorem Md.more_yes {m : Md} (h : m.rep = m.sent ∧ m.sent < m.given ∧ m.sent - m.acked < 127) : m.more = { m with sent := m.sent + 1 } := if_pos h
theorem Md.more_no {m : Md} (h : ¬ (m.rep = m.sent ∧ m.sent < m.given ∧ m.sent - m.acked < 127)) : m.more = m := if_neg h
theorem Md.next_cases {m : Md} (h : m.Ok) : (m.rep < m.sent ∧ m.next = (⟨m.accepted, m.back, num (m.rep + 1), m.fore, 2, 0, loadK m.rep⟩, { m with rep := m.rep + 1 })) ∨
    (m.rep = m.sent ∧ m.sent < m.given ∧ m.sent - m.acked < 127 ∧ m.next = (⟨m.accepted, m.back, num (m.sent + 1), m.fore, 2, 0, loadK m.sent⟩, { m with sent := m.sent + 1, rep := m.sent + 1 })) ∨
    (m.rep = m.sent ∧ ¬ (m.sent < m.given ∧ m.sent - m.acked < 127) ∧ m.next = (⟨m.accepted, m.back, num m.sent, m.fore, 0, 0, []⟩, m)) := by
  have hrs := h.rs
  unfold Md.next
  by_cases h1 : m.rep < m.sent
  · left
    rw [Md.more_no (by omega), if_pos h1]
    exact ⟨h1, rfl⟩
  · have he : m.rep = m.sent := by omega
    right
    by_cases h2 : m.sent < m.given ∧ m.sent - m.acked < 127
    · left
      rw [Md.more_yes ⟨he, h2⟩, if_pos (show m.rep < m.sent + 1 by omega)]
      refine ⟨he, h2.1, h2.2, ?_⟩
      rw [he]
    · right
      rw [Md.more_no (fun hh => h2 hh.2), if_neg h1]
      exact ⟨he, h2, rfl⟩
theorem Md.next_ok {m : Md} (h : m.Ok) : m.next.2.Ok := by
  have h1 := h.ar; have h2 := h.rs; have h3 := h.sg; have h4 := h.win; have h5 := h.que
  rcases Md.next_cases h with ⟨c, e⟩ | ⟨c, c2, c3, e⟩ | ⟨c, c2, e⟩
  · rw [e]; exact ⟨by show m.acked ≤ m.rep + 1; omega, by show m.rep + 1 ≤ m.sent; omega, h.sg, h.win, h.que, h.acc⟩
  · rw [e]; exact ⟨by show m.acked ≤ m.sent + 1; omega, Nat.le_refl _, by show m.sent + 1 ≤ m.given; omega, by show m.sent + 1 ≤ m.acked + 127; omega, by show m.given ≤ m.sent + 1 + 64; omega, h.acc⟩
  · rw [e]; exact h
/-- What the end sends is what the model sends. -/
theorem Md.next_en {m : Md} (h : m.Ok) : m.en.next = (m.next.1, m.next.2.en) := by
  have h1 := h.ar; have h2 := h.rs; have h3 := h.sg; have h4 := h.win
  rcases Md.next_cases h with ⟨c, e⟩ | ⟨c, c2, c3, e⟩ | ⟨c, c2, e⟩
  · rw [e]
    unfold En.next
    rw [if_pos (show 0 < m.en.rep by show 0 < m.sent - m.rep; omega)]
    have e1 : (m.en.sent + 129 - m.en.rep) % 128 = num (m.rep + 1) := by
      show (num m.sent + 129 - (m.sent - m.rep)) % 128 = _
      unfold num; omega
    have e2 : m.en.una.getD (m.en.una.length - m.en.rep) [] = loadK m.rep := by
      show (listL m.acked m.sent).getD ((listL m.acked m.sent).length - (m.sent - m.rep)) [] = _
      rw [listL_length, listL_getD (by omega)]
      congr 1; omega
    rw [e1, e2]
    have e3 : m.en.rep - 1 = m.sent - (m.rep + 1) := by show m.sent - m.rep - 1 = _; omega
    rw [e3]
    rfl
  · rw [e]
    unfold En.next
    rw [if_neg (show ¬ 0 < m.en.rep by show ¬ 0 < m.sent - m.rep; omega)]
    have e1 : m.en.que = loadK m.sent :: listL (m.sent + 1) m.given := listL_cons c2
    rw [e1]
    simp only
    have e2 : m.en.una.length < 127 := by show (listL m.acked m.sent).length < 127; rw [listL_length]; omega
    rw [if_pos e2]
    have e3 : m.en.una ++ [loadK m.sent] = listL m.acked (m.sent + 1) := listL_snoc (by omega)
    have e4 : (m.en.sent + 1) % 128 = num (m.sent + 1) := (num_succ _).symm
    have e5 : m.en.rep = m.sent + 1 - (m.sent + 1) := by show m.sent - m.rep = _; omega
    rw [e3, e4, e5]
    rfl
  · rw [e]
    unfold En.next
    rw [if_neg (show ¬ 0 < m.en.rep by show ¬ 0 < m.sent - m.rep; omega)]
    by_cases c4 : m.sent < m.given
    · have e1 : m.en.que = loadK m.sent :: listL (m.sent + 1) m.given := listL_cons c4
      rw [e1]
      simp only
      have e2 : ¬ m.en.una.length < 127 := by show ¬ (listL m.acked m.sent).length < 127; rw [listL_length]; omega
      rw [if_neg e2]
      rfl
    · have e0 : m.sent = m.given := by omega
      have e1 : m.en.que = [] := by show listL m.sent m.given = []; rw [e0]; exact listL_nil _
      rw [e1]
      rfl
/-- The model hears. -/
def Md.d (m : Md) (u : Un) : Nat := (u.back + 128 - num m.acked) % 128
def Md.wrong (m : Md) (u : Un) : Bool := decide (m.sent - m.acked < m.d u)
def Md.ack (m : Md) (u : Un) : Md := { m with acked := m.acked + m.d u, rep := if u.bb = m.fore then max m.rep (m.acked + m.d u) else m.acked + m.d u, fore := u.bb, w0 := m.w1, w1 := false }
def Md.takes (m : Md) (u : Un) : Bool := u.fb == m.back && u.kind == 2 && u.fore == (m.accepted + 1) % 128
def Md.hear (m : Md) (u : Un) : Bool × Md :=
  if m.wrong u then (false, { m with w0 := m.w1, w1 := true, failed := m.w0 || m.w1 })
  else if m.takes u then (true, { m.ack u with accepted := u.fore })
  else if u.fb = m.back ∧ u.fore ≠ m.accepted then (false, { m.ack u with back := !m.back })
  else (false, m.ack u)
theorem Md.ahead_en {m : Md} (h : m.Ok) (n : Nat) : m.en.ahead n = (n + 128 - num m.acked) % 128 := by unfold En.ahead; rw [m.en_acked h]
theorem Md.wrong_en {m : Md} (h : m.Ok) (u : Un) : m.en.wrong u = m.wrong u := by
  unfold En.wrong Md.wrong Md.d
  rw [m.ahead_en h]
  show decide ((listL m.acked m.sent).length < _) = _
  rw [listL_length]
theorem Md.ack_en {m : Md} (h : m.Ok) (u : Un) (hw : m.wrong u = false) : m.en.ack u = (m.ack u).en := by
  have hd : m.d u ≤ m.sent - m.acked := by unfold Md.wrong at hw; simpa using hw
  have h1 := h.ar; have h2 := h.rs
  unfold En.ack
  rw [m.ahead_en h]
  show (⟨listL m.sent m.given, (listL m.acked m.sent).drop (m.d u), (if u.bb = m.fore then min (m.sent - m.rep) ((listL m.acked m.sent).length - m.d u) else (listL m.acked m.sent).length - m.d u), num m.sent, u.bb, m.accepted, m.back, m.w1, false, m.failed⟩ : En) = _
  rw [listL_length, listL_drop (by omega)]
  unfold Md.ack Md.en
  simp only
  congr 1
  split
  · omega
  · omega
theorem Md.hear_en {m : Md} (h : m.Ok) (u : Un) : m.en.hear u = (if (m.hear u).1 then some u.load else none, (m.hear u).2.en) := by
  unfold En.hear Md.hear
  rw [m.wrong_en h]
  cases hw : m.wrong u with
  | true => rfl
  | false =>
    simp only [Bool.false_eq_true, if_false]
    rw [m.ack_en h u hw, show m.en.takes u = m.takes u from rfl]
    cases ht : m.takes u with
    | true => rfl
    | false =>
      simp only [Bool.false_eq_true, if_false]
      show (if u.fb = m.back ∧ u.fore ≠ m.accepted then _ else _) = _
      by_cases hc : u.fb = m.back ∧ u.fore ≠ m.accepted
      · rw [if_pos hc, if_pos hc]; rfl
      · rw [if_neg hc, if_neg hc]; rfl
theorem Md.hear_ok {m : Md} (h : m.Ok) (u : Un) (hu : u.fore < 128) : (m.hear u).2.Ok := by
  have h1 := h.ar; have h2 := h.rs; have h4 := h.win
  have hack : m.wrong u = false → (m.ack u).Ok := by
    intro hw
    have hd : m.d u ≤ m.sent - m.acked := by unfold Md.wrong at hw; simpa using hw
    refine ⟨?_, ?_, h.sg, by show m.sent ≤ m.acked + m.d u + 127; omega, h.que, h.acc⟩
    · show m.acked + m.d u ≤ if u.bb = m.fore then max m.rep (m.acked + m.d u) else m.acked + m.d u
      split <;> omega
    · show (if u.bb = m.fore then max m.rep (m.acked + m.d u) else m.acked + m.d u) ≤ m.sent
      split <;> omega
  unfold Md.hear
  cases hw : m.wrong u with
  | true => rw [if_pos rfl]; exact ⟨h.ar, h.rs, h.sg, h.win, h.que, h.acc⟩
  | false =>
    have k := hack hw
    simp only [Bool.false_eq_true, if_false]
    split
    · exact ⟨k.ar, k.rs, k.sg, k.win, k.que, hu⟩
    · split
      · exact ⟨k.ar, k.rs, k.sg, k.win, k.que, k.acc⟩
      · exact k
theorem Md.rest_en {m : Md} (h : m.Ok) {k : Nat} (h1 : m.acked ≤ k) (h2 : k ≤ m.sent) : m.en.rest (num k) = listL k m.given := by
  unfold En.rest
  rw [m.ahead_en h, num_diff h1 (by have := h.win; omega)]
  show (listL m.acked m.sent).drop (k - m.acked) ++ listL m.sent m.given = _
  rw [listL_drop (by omega), show m.acked + (k - m.acked) = k by omega, listL_append h2 h.sg]

/-! ## Two ends in counts are two models -/
def even (n : Nat) : Bool := n % 2 == 0
theorem even_inj {a b : Nat} : (even a = even b) ↔ a % 2 = b % 2 := by
  unfold even
  have ha : a % 2 = 0 ∨ a % 2 = 1 := by omega
  have hb : b % 2 = 0 ∨ b % 2 = 1 := by omega
  rcases ha with ha | ha <;> rcases hb with hb | hb <;> simp [ha, hb]
theorem even_succ (a : Nat) : even (a + 1) = !even a := by
  unfold even
  have ha : a % 2 = 0 ∨ a % 2 = 1 := by omega
  rcases ha with ha | ha
  · simp [ha]; omega
  · simp [ha]; omega
def Md.of (x : Sn) (y : Rv) : Md := ⟨x.G, x.S, x.A, x.R, even x.p, num y.n, even y.q, false, false, false⟩
def Ut.un (u : Ut) : Un := ⟨num u.n, even u.b, num u.v, even u.f, (match u.idx with | some _ => 2 | none => 0), 0, (match u.idx with | some i => loadK i | none => [])⟩
theorem Md.of_ok {x : Sn} {y y' : Rv} {F B : List Ut} (h : Dir x y F B) (hq : x.G ≤ x.S + 64) : (Md.of x y').Ok := ⟨h.ar, h.rs, h.sg, h.win, hq, num_lt _⟩
theorem Md.of_next {x : Sn} {y y' : Rv} {F B : List Ut} (h : Dir x y F B) (hq : x.G ≤ x.S + 64) : (Md.of x y').next = ((x.unit y').un, Md.of x.next.2 y') := by
  have ho := Md.of_ok (y' := y') h hq
  have hrs := h.rs
  have e : x.unit y' = ⟨x.next.1, x.next.2.S, x.p, y'.n, y'.q⟩ := rfl
  rcases Md.next_cases ho with ⟨c, e1⟩ | ⟨c, c2, c3, e1⟩ | ⟨c, c2, e1⟩
  · have c' : x.R < x.S := c
    rcases x.next_cases with ⟨d, e2⟩ | ⟨d, d2, e2⟩ | ⟨d, d2, e2⟩
    · rw [e1, e, e2]; rfl
    · exact absurd c' d
    · exact absurd c' d
  · have c' : x.R = x.S := c
    rcases x.next_cases with ⟨d, e2⟩ | ⟨d, d2, e2⟩ | ⟨d, d2, e2⟩
    · omega
    · rw [e1, e, e2]; rfl
    · exact absurd ⟨c2, c3⟩ d2
  · have c' : x.R = x.S := c
    rcases x.next_cases with ⟨d, e2⟩ | ⟨d, d2, e2⟩ | ⟨d, d2, e2⟩
    · omega
    · exact absurd d2 c2
    · rw [e1, e, e2]; rfl
/-- An end that hears a unit under way: as the counts say. -/
theorem Md.of_hear {x xo : Sn} {y yo : Rv} {F B : List Ut} {u : Ut} {F' B' : List Ut} (hB : Dir x y F (u :: B)) (hF : Dir xo yo (u :: F') B') :
    (Md.of x yo).hear u.un = (yo.takes u, Md.of (x.hear u.n u.b) (yo.hear u)) := by
  obtain ⟨a1, a2⟩ := hB.ack_num
  obtain ⟨b1, b2⟩ := hF.fore_num
  have b3 := hF.phase
  have b4 := hB.phaseB
  obtain ⟨g1, g2, _⟩ := hB.bwd u (by simp)
  have hd : (Md.of x yo).d u.un = u.n - x.A := a1
  have hw : (Md.of x yo).wrong u.un = false := by
    unfold Md.wrong
    rw [hd]
    show decide (x.S - x.A < u.n - x.A) = false
    rw [decide_eq_false]; omega
  have hack : ∀ (y' : Rv), (⟨x.G, x.S, x.A + (u.n - x.A), (if even u.b = even x.p then max x.R (x.A + (u.n - x.A)) else x.A + (u.n - x.A)), even u.b, num y'.n, even y'.q, false, false, false⟩ : Md) = Md.of (x.hear u.n u.b) y' := by
    intro y'
    unfold Sn.hear
    rw [show x.A + (u.n - x.A) = u.n by omega]
    by_cases hp : u.b = x.p
    · rw [if_pos (by rw [hp]), if_pos hp, hp]; rfl
    · rw [if_neg (fun hh => hp (b4.1 (even_inj.1 hh))), if_neg hp]; rfl
  have hA : (Md.of x yo).ack u.un = Md.of (x.hear u.n u.b) yo := by
    rw [← hack yo]
    unfold Md.ack
    rw [hd]
    rfl
  unfold Md.hear
  rw [hw, hA]
  simp only [Bool.false_eq_true, if_false]
  have ht : (Md.of x yo).takes u.un = yo.takes u := by
    unfold Md.takes Rv.takes
    show (even u.f == even yo.q && (match u.idx with | some _ => 2 | none => 0) == 2 && num u.v == (num yo.n + 1) % 128) = _
    have e1 : (even u.f == even yo.q) = (u.f == yo.q) := by
      rw [Bool.eq_iff_iff]; simp only [beq_iff_eq]
      exact even_inj.trans b3
    rw [e1]
    cases hi : u.idx with
    | none => simp
    | some i =>
      have := b2 i hi
      have e2 : (num u.v == (num yo.n + 1) % 128) = (some i == some yo.n) := by
        rw [Bool.eq_iff_iff]; simp only [beq_iff_eq, Option.some.injEq]; exact this
      rw [e2]; simp
  rw [ht]
  by_cases hf : u.f = yo.q
  · by_cases hi : u.idx = some yo.n
    · have h1 : yo.takes u = true := by unfold Rv.takes; simp [hf, hi]
      rw [h1, if_pos rfl]
      have e2 : yo.hear u = { yo with n := yo.n + 1 } := by unfold Rv.hear; rw [if_pos hf, if_pos hi]
      have e3 : num u.v = num (yo.n + 1) := by unfold Ut.v; rw [hi]
      rw [e2]
      show (true, ({ Md.of (x.hear u.n u.b) yo with accepted := num u.v } : Md)) = _
      rw [e3]; rfl
    · have h1 : yo.takes u = false := by unfold Rv.takes; simp [hi]
      rw [h1]
      simp only [Bool.false_eq_true, if_false]
      by_cases hv : u.v = yo.n
      · have e2 : yo.hear u = yo := by unfold Rv.hear; rw [if_pos hf, if_neg hi, if_pos hv]
        rw [e2, if_neg]
        rintro ⟨_, hh⟩
        exact hh (by show num u.v = num yo.n; rw [hv])
      · have e2 : yo.hear u = { yo with q := yo.q + 1 } := by unfold Rv.hear; rw [if_pos hf, if_neg hi, if_neg hv]
        rw [e2, if_pos ⟨by show even u.f = even yo.q; rw [hf], fun hh => hv (b1.1 hh)⟩]
        show (false, ({ Md.of (x.hear u.n u.b) yo with back := !even yo.q } : Md)) = _
        rw [← even_succ]; rfl
  · have h1 : yo.takes u = false := by unfold Rv.takes; simp [hf]
    have e2 : yo.hear u = yo := by unfold Rv.hear; rw [if_neg hf]
    rw [h1, e2]
    simp only [Bool.false_eq_true, if_false]
    rw [if_neg]
    rintro ⟨hh, _⟩
    exact hf (b3.1 (even_inj.1 hh))
end Go.Proofs.Ytoegijmfcelgnaa
