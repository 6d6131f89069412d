/- The code's end beside the statements' model in its own block: what each method gives, and what it leaves alone. -/
import Derived.Test.YtdjnflfcolpccaaEaFace
import Derived.Test.YtdjnflfcolpccaaBaPrefix
import Derived.Test.YtdjnflfcolpccaaBaHear
namespace Go.Proofs.Ytdjnflfcolpccaa
open Go.RowKit

/-- At b stands the end that the model m stands for, laid as L says; none of its blocks is p. -/
structure SAt (w wr : World) (b p : Nat) (m : Md) (L : ELay) : Prop where
  e : EndL wr b m.en L
  q : ∀ k, L.S b k → w.heap.size ≤ k ∧ k ≠ p
  ok : m.Ok
  bel : Below w.heap.size w wr
  pl : p < wr.heap.size
theorem SAt.later {w wr w' : World} {b p : Nat} {m : Md} {L : ELay} (h : SAt w wr b p m L) (hb : Below wr.heap.size wr w') : SAt w w' b p m L :=
  ⟨h.e.later hb, h.q, h.ok, h.bel.trans (Below.mono hb h.bel.size), Nat.lt_of_lt_of_le h.pl hb.size⟩
/-- What is no block of the end has turned: the model's block, say. -/
theorem SAt.exc {T : Nat → Prop} {w wr w' : World} {b p : Nat} {m : Md} {L : ELay} (h : SAt w wr b p m L) (hx : Exc T wr w') (hT : ∀ k, T k → ¬ L.S b k ∧ w.heap.size ≤ k) : SAt w w' b p m L :=
  ⟨h.e.exc hx (fun k hk ht => (hT k ht).1 hk), h.q, h.ok, h.bel.trans (hx.below h.bel.size (fun i _ hi => (hT i hi).2)), Nat.lt_of_lt_of_le h.pl hx.size⟩
theorem SAt.np {w wr : World} {b p : Nat} {m : Md} {L : ELay} (h : SAt w wr b p m L) : ¬ L.S b p := fun hh => (h.q p hh).2 rfl
theorem SAt.turn {w wr w' : World} {b p : Nat} {m m' : Md} {L L' : ELay} (h : SAt w wr b p m L) (h' : EndL w' b m'.en L') (ht : Turn (L.S b) wr (L'.S b) w') (hok : m'.Ok) : SAt w w' b p m' L' :=
  ⟨h', fun k hk => by
    rcases ht.lies k hk with h5 | h5
    · exact h.q k h5
    · exact ⟨Nat.le_trans h.bel.size h5, fun hh => by have := h.pl; omega⟩, hok, h.bel.trans (ht.exc.below h.bel.size (fun i _ hi => (h.q i hi).1)), Nat.lt_of_lt_of_le h.pl ht.exc.size⟩
theorem s_accept {w wr : World} {b p : Nat} {m : Md} {L : ELay} {a : Option Addr} {c : Nat} (h : SAt w wr b p m L) (hf : m.failed = false) (hq : m.given < m.sent + 64) {n : Nat} (hn : n = mlen m.given) (hr : Row .u8 wr a n c (loadK m.given)) :
    Calls Try.prog 8 #[.pointer (some ⟨b, 0, none⟩), .slice a n c] wr fun e w' => e = .returned (.int .i64 0) ∧ ∃ L', SAt w w' b p { m with given := m.given + 1 } L' ∧ Exc (L.S b) wr w' := by
  have hsg := h.ok.sg
  have hlen : m.en.que.length = m.given - m.sent := listL_length _ _
  refine (accept_ok b m.en L wr a n c (loadK m.given) h.e hf (by rw [hlen]; omega) hr (by rw [hn]; exact mlen_ge _) (by have := mlen_le m.given; omega)).mono ?_
  rintro e w' ⟨rfl, L', h', ht⟩
  have he : m.en.accept (loadK m.given) = ({ m with given := m.given + 1 } : Md).en := by
    unfold En.accept Md.en
    simp only
    rw [listL_snoc hsg]
  rw [he] at h'
  exact ⟨rfl, L', h.turn h' ht ⟨h.ok.lm1, h.ok.lm2, h.ok.lo1, h.ok.lo2, h.ok.ap, h.ok.ps, Nat.le_succ_of_le hsg, h.ok.win, by show m.given + 1 ≤ m.sent + 64; omega, h.ok.acc⟩, ht.exc⟩
theorem s_full {w wr : World} {b p : Nat} {m : Md} {L : ELay} {a : Option Addr} {n c k : Nat} (h : SAt w wr b p m L) (hf : m.failed = false) (hq : m.given = m.sent + 64) (hn : n = mlen k) :
    Calls Try.prog 8 #[.pointer (some ⟨b, 0, none⟩), .slice a n c] wr fun e w' => e = .returned (.int .i64 9) ∧ Below wr.heap.size wr w' := by
  have hlen : m.en.que.length = 64 := by show (listL m.sent m.given).length = 64; rw [listL_length]; omega
  refine (accept_not b m.en L wr a n c h.e hf (by have := mlen_le k; omega) (.inr hlen)).mono ?_
  rintro e w' ⟨rfl, hb'⟩
  have hC : chk 0 0 2 0 n = 0 := by have := mlen_le k; have := mlen_ge k; rw [chk_ok]; omega
  rw [if_neg (by simp [hC])]
  exact ⟨rfl, hb'⟩
theorem s_next {w wr : World} {b p : Nat} {m : Md} {L : ELay} (h : SAt w wr b p m L) (hf : m.failed = false) :
    Calls Try.prog 10 #[.pointer (some ⟨b, 0, none⟩)] wr fun e w' => ∃ s, e = .returned (.tuple #[.agg (unCells m.next.1 s m.next.1.load.length m.next.1.load.length).toArray, .int .i64 0]) ∧ Row .u8 w' s m.next.1.load.length m.next.1.load.length m.next.1.load ∧ (∀ z, s = some z → wr.heap.size ≤ z.block) ∧ ∃ L', SAt w w' b p m.next.2 L' ∧ Exc (L.S b) wr w' := by
  have hn := Md.next_en h.ok
  refine (next_ok b m.en L wr h.e hf).mono ?_
  rw [hn]
  rintro e w' ⟨L', ⟨s, rfl, hr, hz⟩, h', ht⟩
  exact ⟨s, rfl, hr, fun z hz' => (hz z hz').1, L', h.turn h' ht (Md.next_ok h.ok), ht.exc⟩
theorem s_hear {w wr : World} {b p : Nat} {m : Md} {L : ELay} {u : Un} {s : Option Addr} {n c : Nat} (h : SAt w wr b p m L) (hf : m.failed = false) (hk : u.kind ≠ 1) (hc : chk (u.back : Int) (u.fore : Int) (u.kind : Int) (u.state : Int) n = 0) (hr : Row .u8 wr s n c u.load) (hs : ∀ z, s = some z → z.block ≠ b) :
    Calls Try.prog 16 #[.pointer (some ⟨b, 0, none⟩), .agg (unCells u s n c).toArray] wr fun e w' => (∃ a d, e = .returned (.tuple #[.slice a (if (m.hear u).1 then 1 else 0) d, .int .i64 (if (m.hear u).2.failed then 6 else 0)]) ∧ ((m.hear u).1 = true → d = 1 ∧ Mat w' (fun _ => True) true a 1 1 [u.load])) ∧ ∃ L', SAt w w' b p (m.hear u).2 L' ∧ Exc (fun k => k = b) wr w' := by
  have he := Md.hear_en h.ok u
  have hfo : u.fore < 128 := by obtain ⟨_, k2, _⟩ := chk_ok.1 hc; omega
  refine (hear_ok b m.en L wr u s n c h.e hf hk hc hr hs).mono ?_
  rw [he]
  rintro e w' ⟨⟨a, d, rfl, hm, hd⟩, L', h4, h5, h6⟩
  have hok := Md.hear_ok h.ok u hfo
  have hmat : SAt w w' b p (m.hear u).2 L' := ⟨h4, by rw [h5]; exact h.q, hok, h.bel.trans (h6.below h.bel.size (fun i _ hi => by rw [hi]; exact (h.q b (.inl rfl)).1)), Nat.lt_of_lt_of_le h.pl h6.size⟩
  cases ht : (m.hear u).1
  · rw [ht] at hm hd
    exact ⟨⟨a, d, rfl, fun hh => by cases hh⟩, L', hmat, h6⟩
  · rw [ht] at hm hd
    have hd1 : d = 1 := hd (by simp)
    subst hd1
    exact ⟨⟨a, 1, rfl, fun _ => ⟨rfl, hm.weak (fun _ _ => trivial)⟩⟩, L', hmat, h6⟩
theorem s_failed {w wr : World} {b p : Nat} {m : Md} {L : ELay} (h : SAt w wr b p m L) :
    Calls Try.prog 20 #[.pointer (some ⟨b, 0, none⟩)] wr fun e w' => e = .returned (.bool m.failed) ∧ ∃ q, w' = wr.drewN q := efailed_any b m.en L wr h.e
theorem s_last {w wr : World} {b p : Nat} {m : Md} {L : ELay} (h : SAt w wr b p m L) :
    Calls Try.prog 21 #[.pointer (some ⟨b, 0, none⟩)] wr fun e w' => e = .returned (.int .u8 (m.accepted : Int)) ∧ ∃ q, w' = wr.drewN q := elast_any b m.en L wr h.e
theorem s_waiting {w wr : World} {b p : Nat} {m : Md} {L : ELay} (h : SAt w wr b p m L) :
    Calls Try.prog 18 #[.pointer (some ⟨b, 0, none⟩)] wr fun e w' => e = .returned (.tuple #[.int .i64 ((m.given - m.sent : Nat) : Int), .int .i64 ((m.sent - m.acked : Nat) : Int)]) ∧ ∃ q, w' = wr.drewN q := by
  have hh := ewaiting_any b m.en L wr h.e
  have e1 : m.en.que.length = m.given - m.sent := listL_length _ _
  have e2 : m.en.una.length = m.sent - m.acked := listL_length _ _
  rw [e1, e2] at hh
  exact hh
theorem s_retrieve {w wr : World} {b p : Nat} {m : Md} {L : ELay} (h : SAt w wr b p m L) :
    Calls Try.prog 19 #[.pointer (some ⟨b, 0, none⟩), .int .u8 (num m.acked : Int)] wr fun e w' => (∃ a, e = .returned (.tuple #[.slice a (m.given - m.acked) (m.given - m.acked), .int .i64 0]) ∧ Mat w' (fun _ => True) true a (m.given - m.acked) (m.given - m.acked) (listL m.acked m.given)) ∧ Below wr.heap.size wr w' := by
  have hw := h.ok.win
  have har := h.ok.ap
  have hrs := h.ok.ps
  have hle : m.en.ahead (num m.acked) ≤ m.en.una.length := by
    rw [Md.ahead_en h.ok, num_diff (Nat.le_refl _) (by omega)]
    omega
  refine (retrieve_ok b m.en L wr (num m.acked) h.e (num_lt _) hle).mono ?_
  rw [Md.rest_en h.ok (Nat.le_refl _) (by omega)]
  rintro e w' ⟨⟨a, N, rfl, hm⟩, hb⟩
  have hN : N = m.given - m.acked := by rw [← hm.len, listL_length]
  subst hN
  exact ⟨⟨a, rfl, hm.weak (fun _ _ => trivial)⟩, hb⟩
theorem Md.hear_given (m : Md) (u : Un) : (m.hear u).2.given = m.given := by
  unfold Md.hear
  split
  · rfl
  · split <;> rfl
end Go.Proofs.Ytdjnflfcolpccaa
