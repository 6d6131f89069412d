/- The code's end that stands for the statements' model: what each method gives. -/
import Derived.Test.YtfoliplejhoaeaaEaFace
import Derived.Test.YtfoliplejhoaeaaBaLives
import Derived.Test.YtfoliplejhoaeaaBaPrefix
namespace Go.Proofs.Ytfoliplejhoaeaa
open Go.RowKit

/-- At b stands the end that the model m stands for; all of it is new since w. -/
structure MAt (w wr : World) (b : Nat) (m : Md) : Prop where
  fin : ∃ L, EndL wr b m.en L ∧ ∀ k, L.S b k → w.heap.size ≤ k
  ok : m.Ok
  bel : Below w.heap.size w wr
theorem MAt.later {w wr w' : World} {b : Nat} {m : Md} (h : MAt w wr b m) (hb : Below wr.heap.size wr w') : MAt w w' b m := by
  obtain ⟨L, h1, h2⟩ := h.fin
  exact ⟨⟨L, h1.later hb, h2⟩, h.ok, h.bel.trans (Below.mono hb h.bel.size)⟩
theorem MAt.turn {w wr w' : World} {b : Nat} {m' : Md} {L L' : ELay} (hL : ∀ k, L.S b k → w.heap.size ≤ k) (hb : Below w.heap.size w wr) (h' : EndL w' b m'.en L') (ht : Turn (L.S b) wr (L'.S b) w') (hok : m'.Ok) : MAt w w' b m' :=
  ⟨⟨L', h', fun k hk => by
    rcases ht.lies k hk with h5 | h5
    · exact hL k h5
    · exact Nat.le_trans hb.size h5⟩, hok, hb.trans (ht.exc.below hb.size (fun i _ hi => hL i hi))⟩
theorem m_new (w : World) : Calls Try.prog 10 #[] w fun e w' => e = .returned (.pointer (some ⟨w.heap.size, 0, none⟩)) ∧ MAt w w' w.heap.size Md.fresh := by
  refine (enew_any w).mono ?_
  rintro e w' ⟨rfl, h, hb⟩
  refine ⟨rfl, ⟨ELay.none, by rw [Md.fresh_en]; exact h, fun k hk => ?_⟩, Md.fresh_ok, hb⟩
  rcases hk with hk | hk | hk | hk
  · omega
  · simp [ELay.none] at hk
  · simp [ELay.none] at hk
  · exact hk.elim
theorem m_accept {w wr W : World} {b : Nat} {m : Md} {a : Option Addr} {c : Nat} (h : MAt w wr b m) (hb : Below wr.heap.size wr W) (hf : m.failed = false) (hq : m.given < m.sent + 64) (hr : Row .u8 W a 2 c (loadK m.given)) :
    Calls Try.prog 12 #[.pointer (some ⟨b, 0, none⟩), .slice a 2 c] W fun e w' => e = .returned (.int .i64 0) ∧ MAt w w' b { m with given := m.given + 1 } := by
  obtain ⟨L, h1, h2⟩ := (h.later hb).fin
  have hsg := h.ok.sg
  have hlen : m.en.que.length = m.given - m.sent := listL_length _ _
  refine (accept_ok b m.en L W a 2 c (loadK m.given) h1 hf (by rw [hlen]; omega) hr (Nat.le_refl _) (by decide)).mono ?_
  rintro e w' ⟨rfl, L', h', ht⟩
  have he : m.en.accept (loadK m.given) = ({ m with given := m.given + 1 } : Md).en := by
    unfold En.accept Md.en
    simp only
    rw [listL_snoc hsg]
  rw [he] at h'
  exact ⟨rfl, MAt.turn h2 (h.later hb).bel h' ht ⟨h.ok.ar, h.ok.rs, Nat.le_succ_of_le hsg, h.ok.win, by show m.given + 1 ≤ m.sent + 64; omega, h.ok.acc⟩⟩
theorem m_full {w wr W : World} {b : Nat} {m : Md} {a : Option Addr} {c : Nat} (h : MAt w wr b m) (hb : Below wr.heap.size wr W) (hf : m.failed = false) (hq : m.given = m.sent + 64) :
    Calls Try.prog 12 #[.pointer (some ⟨b, 0, none⟩), .slice a 2 c] W fun e w' => e = .returned (.int .i64 9) ∧ MAt w w' b m := by
  obtain ⟨L, h1, h2⟩ := (h.later hb).fin
  have hlen : m.en.que.length = 64 := by show (listL m.sent m.given).length = 64; rw [listL_length]; omega
  refine (accept_not b m.en L W a 2 c h1 hf (by decide) (.inr hlen)).mono ?_
  rintro e w' ⟨rfl, hb'⟩
  have hC : chk 0 0 2 0 2 = 0 := by rw [chk_ok]; omega
  rw [if_neg (by simp [hC])]
  exact ⟨rfl, (h.later hb).later hb'⟩
theorem m_acceptf {w wr : World} {b : Nat} {m : Md} {v : Value} (h : MAt w wr b m) (hf : m.failed = true) :
    Calls Try.prog 12 #[.pointer (some ⟨b, 0, none⟩), v] wr fun e w' => e = .returned (.int .i64 6) ∧ MAt w w' b m := by
  obtain ⟨L, h1, h2⟩ := h.fin
  refine (accept_failed b m.en L wr v h1 hf).mono ?_
  rintro e w' ⟨rfl, q, rfl⟩
  exact ⟨rfl, h.later (below_draw wr q)⟩
theorem m_next {w wr : World} {b : Nat} {m : Md} (h : MAt w wr b m) (hf : m.failed = false) :
    Calls Try.prog 14 #[.pointer (some ⟨b, 0, none⟩)] wr fun e w' => ∃ s, e = .returned (.tuple #[.agg (unCells m.next.1 s m.next.1.load.length m.next.1.load.length).toArray, .int .i64 0]) ∧ Row .u8 w' s m.next.1.load.length m.next.1.load.length m.next.1.load ∧ MAt w w' b m.next.2 := by
  obtain ⟨L, h1, h2⟩ := h.fin
  have hn := Md.next_en h.ok
  refine (next_ok b m.en L wr h1 hf).mono ?_
  rw [hn]
  rintro e w' ⟨L', ⟨s, rfl, hr, _⟩, h', ht⟩
  exact ⟨s, rfl, hr, MAt.turn h2 h.bel h' ht (Md.next_ok h.ok)⟩
theorem m_nextf {w wr : World} {b : Nat} {m : Md} (h : MAt w wr b m) (hf : m.failed = true) :
    Calls Try.prog 14 #[.pointer (some ⟨b, 0, none⟩)] wr fun e w' => e = .returned (.tuple #[.agg #[.int .u8 0, .bool false, .int .u8 0, .bool false, .int .u8 0, .int .u8 0, .slice none 0 0], .int .i64 6]) ∧ MAt w w' b m := by
  obtain ⟨L, h1, h2⟩ := h.fin
  refine (next_failed b m.en L wr h1 hf).mono ?_
  rintro e w' ⟨rfl, hb⟩
  exact ⟨rfl, h.later hb⟩
theorem m_hear {w wr W : World} {b : Nat} {m : Md} {u : Un} {s : Option Addr} {n c : Nat} (h : MAt w wr b m) (hb : Below wr.heap.size wr W) (hf : m.failed = false) (hk : u.kind ≠ 1) (hc : chk (u.back : Int) (u.fore : Int) (u.kind : Int) (u.state : Int) n = 0) (hr : Row .u8 W s n c u.load) (hs : ∀ z, s = some z → z.block ≠ b) :
    Calls Try.prog 19 #[.pointer (some ⟨b, 0, none⟩), .agg (unCells u s n c).toArray] W fun e w' => (∃ a d, e = .returned (.tuple #[.slice a (if (m.hear u).1 then 1 else 0) d, .int .i64 (if (m.hear u).2.failed then 6 else 0)]) ∧ ((m.hear u).1 = true → d = 1 ∧ Mat w' (fun _ => True) true a 1 1 [u.load])) ∧ MAt w w' b (m.hear u).2 := by
  obtain ⟨L, h1, h2⟩ := (h.later hb).fin
  have he := Md.hear_en h.ok u
  have hfo : u.fore < 128 := by obtain ⟨_, k2, _⟩ := chk_ok.1 hc; omega
  refine (hear_ok b m.en L W u s n c h1 hf hk hc hr hs).mono ?_
  rw [he]
  rintro e w' ⟨⟨a, d, rfl, hm, hd⟩, L', h4, h5, h6⟩
  have hok := Md.hear_ok h.ok u hfo
  have hmat : MAt w w' b (m.hear u).2 := ⟨⟨L', h4, by rw [h5]; exact h2⟩, hok, (h.later hb).bel.trans (h6.below (h.later hb).bel.size (fun i _ hi => by rw [hi]; exact h2 b (.inl rfl)))⟩
  cases ht : (m.hear u).1
  · rw [ht] at hm hd
    exact ⟨⟨a, d, rfl, fun hh => by cases hh⟩, hmat⟩
  · rw [ht] at hm hd
    have hd1 : d = 1 := hd (by simp)
    subst hd1
    exact ⟨⟨a, 1, rfl, fun _ => ⟨rfl, hm.weak (fun _ _ => trivial)⟩⟩, hmat⟩
theorem m_hearn {w wr W : World} {b : Nat} {m : Md} {u : Un} {s : Option Addr} {n c : Nat} (h : MAt w wr b m) (hb : Below wr.heap.size wr W) (hf : m.failed = false) (h0 : u.back < 256) (h2 : u.fore < 256) (h4 : u.kind < 256) (h5 : u.state < 256) (hn : n ≤ 9223372036854775807)
    (hno : chk (u.back : Int) (u.fore : Int) (u.kind : Int) (u.state : Int) n ≠ 0 ∨ u.kind = 1) :
    Calls Try.prog 19 #[.pointer (some ⟨b, 0, none⟩), .agg (unCells u s n c).toArray] W fun e w' => e = .returned (.tuple #[.slice none 0 0, .int .i64 (chk (u.back : Int) (u.fore : Int) (u.kind : Int) (u.state : Int) n)]) ∧ MAt w w' b m := by
  obtain ⟨L, h1, _⟩ := (h.later hb).fin
  refine (hear_not b m.en L W u s n c h1 hf h0 h2 h4 h5 hn hno).mono ?_
  rintro e w' ⟨rfl, hb'⟩
  exact ⟨rfl, (h.later hb).later hb'⟩
theorem m_hearf {w wr W : World} {b : Nat} {m : Md} {u : Un} {s : Option Addr} {n c : Nat} (h : MAt w wr b m) (hb : Below wr.heap.size wr W) (hf : m.failed = true) :
    Calls Try.prog 19 #[.pointer (some ⟨b, 0, none⟩), .agg (unCells u s n c).toArray] W fun e w' => e = .returned (.tuple #[.slice none 0 0, .int .i64 6]) ∧ MAt w w' b m := by
  obtain ⟨L, h1, _⟩ := (h.later hb).fin
  refine (hear_failed b m.en L W u s n c h1 hf).mono ?_
  rintro e w' ⟨rfl, hb'⟩
  exact ⟨rfl, (h.later hb).later hb'⟩
theorem m_failed {w wr : World} {b : Nat} {m : Md} (h : MAt w wr b m) :
    Calls Try.prog 24 #[.pointer (some ⟨b, 0, none⟩)] wr fun e w' => e = .returned (.bool m.failed) ∧ ∃ q, w' = wr.drewN q := by
  obtain ⟨L, h1, _⟩ := h.fin
  exact efailed_any b m.en L wr h1
theorem m_last {w wr : World} {b : Nat} {m : Md} (h : MAt w wr b m) :
    Calls Try.prog 25 #[.pointer (some ⟨b, 0, none⟩)] wr fun e w' => e = .returned (.int .u8 (m.accepted : Int)) ∧ ∃ q, w' = wr.drewN q := by
  obtain ⟨L, h1, _⟩ := h.fin
  exact elast_any b m.en L wr h1
theorem m_waiting {w wr : World} {b : Nat} {m : Md} (h : MAt w wr b m) :
    Calls Try.prog 21 #[.pointer (some ⟨b, 0, none⟩)] wr fun e w' => e = .returned (.tuple #[.int .i64 ((m.given - m.sent : Nat) : Int), .int .i64 ((m.sent - m.acked : Nat) : Int)]) ∧ ∃ q, w' = wr.drewN q := by
  obtain ⟨L, h1, _⟩ := h.fin
  have hh := ewaiting_any b m.en L wr h1
  have e1 : m.en.que.length = m.given - m.sent := listL_length _ _
  have e2 : m.en.una.length = m.sent - m.acked := listL_length _ _
  rw [e1, e2] at hh
  exact hh
theorem m_retrieve {w wr : World} {b k : Nat} {m : Md} (h : MAt w wr b m) (h1 : m.acked ≤ k) (h2 : k ≤ m.sent) :
    Calls Try.prog 22 #[.pointer (some ⟨b, 0, none⟩), .int .u8 (num k : Int)] wr fun e w' => (∃ a, e = .returned (.tuple #[.slice a (m.given - k) (m.given - k), .int .i64 0]) ∧ Mat w' (fun _ => True) true a (m.given - k) (m.given - k) (listL k m.given)) ∧ MAt w w' b m := by
  obtain ⟨L, g1, _⟩ := h.fin
  have hw := h.ok.win
  have hle : m.en.ahead (num k) ≤ m.en.una.length := by
    rw [Md.ahead_en h.ok, num_diff h1 (by omega)]
    show _ ≤ (listL m.acked m.sent).length
    rw [listL_length]; omega
  refine (retrieve_ok b m.en L wr (num k) g1 (num_lt k) hle).mono ?_
  rw [Md.rest_en h.ok h1 h2]
  rintro e w' ⟨⟨a, N, rfl, hm⟩, hb⟩
  have hN : N = m.given - k := by rw [← hm.len, listL_length]
  subst hN
  exact ⟨⟨a, rfl, hm.weak (fun _ _ => trivial)⟩, h.later hb⟩
theorem m_bad {w wr : World} {b t : Nat} {m : Md} (h : MAt w wr b m) (ht : t < 256) (hno : 127 < t ∨ m.sent - m.acked < (t + 128 - num m.acked) % 128) :
    Calls Try.prog 22 #[.pointer (some ⟨b, 0, none⟩), .int .u8 (t : Int)] wr fun e w' => e = .returned (.tuple #[.slice none 0 0, .int .i64 1]) ∧ MAt w w' b m := by
  obtain ⟨L, g1, _⟩ := h.fin
  refine (retrieve_bad b m.en L wr t g1 ht ?_).mono ?_
  · rcases hno with h5 | h5
    · exact .inl h5
    · right
      rw [Md.ahead_en h.ok]
      show (listL m.acked m.sent).length < _
      rw [listL_length]; exact h5
  · rintro e w' ⟨rfl, q, rfl⟩
    exact ⟨rfl, h.later (below_draw wr q)⟩
end Go.Proofs.Ytfoliplejhoaeaa
