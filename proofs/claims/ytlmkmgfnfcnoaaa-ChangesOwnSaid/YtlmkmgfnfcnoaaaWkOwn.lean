/- ChangesOwn: an end keeps the items as they were when they were sent. -/
import Derived.Test.YtlmkmgfnfcnoaaaChLives
import Derived.Test.YtlmkmgfnfcnoaaaLsOf2
import Derived.Test.YtlmkmgfnfcnoaaaMlOpen
import Derived.Test.YtlmkmgfnfcnoaaaRowStr
namespace Go.Proofs.Ytlmkmgfnfcnoaaa
open Go.RowKit

set_option maxHeartbeats 4000000 in
set_option maxRecDepth 100000 in
theorem own_walk (sv nw pr tp fr sl : Int) (a : Option Addr) (n c : Nat) (l : List Int) (x : Int) (w : World) (h0 : (Lit.int .u8 sv).wf = true) (h1 : (Lit.int .u8 nw).wf = true) (h2 : (Lit.int .u8 pr).wf = true) (h3 : (Lit.int .u16 tp).wf = true) (h4 : (Lit.int .u16 fr).wf = true) (h5 : (Lit.int .u8 sl).wf = true) (hr : Row .u8 w a n c l) (hx : (Lit.int .u8 x).wf = true) :
    Calls Try.prog 4 #[.agg #[.int .u8 sv, .int .u8 nw, .int .u8 pr, .int .u16 tp, .int .u16 fr, .int .u8 sl, .slice a n c], .int .u8 x] w fun e w' => e = .returned (.bool true) ∧ Below w.heap.size w w' := by
  have o0 := own_lit w 51 #[.int .u8 sv, .int .u8 nw, .int .u8 pr, .int .u16 tp, .int .u16 fr, .int .u8 sl, .slice a n c] _ rfl
  have hb0 : Below w.heap.size w (w.alloc (.cells #[.int .u8 sv, .int .u8 nw, .int .u8 pr, .int .u16 tp, .int .u16 fr, .int .u8 sl, .slice a n c] 51)) := below_alloc _ _
  have H0 := Lib.hid (And.intro o0 (And.intro (hr.later hb0) hb0))
  have HR := Lib.hid hr
  clear hr o0 hb0
  go_enter Try.func4, Try.ntmps4
  go_wp2_with fail
  generalize (w.alloc (.cells #[.int .u8 sv, .int .u8 nw, .int .u8 pr, .int .u16 tp, .int .u16 fr, .int .u8 sl, .slice a n c] 51)) = W0 at *
  obtain ⟨pm, hpm⟩ : ∃ p, p = w.heap.size := ⟨_, rfl⟩
  obtain ⟨o0, r0, b0⟩ := H0.out
  rw [← hpm] at o0
  rw [← hpm]
  have HM0 := Lib.hid (And.intro o0 (And.intro r0 (And.intro b0 hpm)))
  clear o0 r0 b0 H0 hpm
  refine (new_any W0).mono ?_
  rintro e w1 ⟨rfl, hn1, hb1⟩
  obtain ⟨b, hb⟩ : ∃ b, b = W0.heap.size := ⟨_, rfl⟩
  rw [← hb] at hn1 ⊢
  have o1 := HM0.out.1.below hb1 HM0.out.1.lt
  have HW1 := Lib.hid (And.intro hn1 (And.intro o1 (And.intro (HM0.out.2.1.later hb1) (And.intro hb1 hb))))
  obtain ⟨c0, c1, c2, c3, c4, c5, c6⟩ := unit_cells o1
  clear hn1 hb1 hb o1
  go_wp2_with fail
  refine (of_own sv nw pr tp fr sl a n c l w1 HW1.out.2.2.1 (wf_u8.1 h0).1 (wf_u8.1 h1).1 (wf_u8.1 h2).1 (wf_u16q h3).1 (wf_u16q h4).1 (wf_u8.1 h5).1).mono ?_
  rintro e w2 ⟨s, m, q, rfl, hown2, hm40, hb2⟩
  have hg := HW1.out.2.1.below hb2 HW1.out.2.1.lt
  have HW2 := Lib.hid (And.intro hown2 (And.intro hb2 (And.intro (HW1.out.1.later hb2) (And.intro hg (HW1.out.2.2.1.later hb2)))))
  have HS := Lib.hid (And.intro (wf_u8.1 h0).1 (And.intro (wf_u8.1 h1).1 (And.intro (wf_u8.1 h2).1 (And.intro (wf_u16q h3).1 (And.intro (wf_u16q h4).1 (wf_u8.1 h5).1)))))
  clear hown2 hb2 hg c0 c1 c2 c3 c4 c5 c6 h0 h1 h2 h3 h4 h5
  have HEq := Lib.hid (show sv % 16 = sv % 16 from rfl)
  obtain ⟨A0, hA0⟩ : ∃ A, A = sv % 16 := ⟨_, rfl⟩
  obtain ⟨A1, hA1⟩ : ∃ A, A = nw % 4 := ⟨_, rfl⟩
  obtain ⟨A2, hA2⟩ : ∃ A, A = pr % 4 := ⟨_, rfl⟩
  obtain ⟨A3, hA3⟩ : ∃ A, A = tp % 16384 := ⟨_, rfl⟩
  obtain ⟨A4, hA4⟩ : ∃ A, A = fr % 16384 := ⟨_, rfl⟩
  obtain ⟨A5, hA5⟩ : ∃ A, A = sl % 16 := ⟨_, rfl⟩
  rw [← hA0, ← hA1, ← hA2, ← hA3, ← hA4, ← hA5]
  have HA := Lib.hid (And.intro hA0 (And.intro hA1 (And.intro hA2 (And.intro hA3 (And.intro hA4 hA5)))))
  clear hA0 hA1 hA2 hA3 hA4 hA5 HEq
  have oA := own_lit w2 36 #[.int .u8 A0, .int .u8 A1, .int .u8 A2, .int .u16 A3, .int .u16 A4, .int .u8 A5, .slice s m q] _ rfl
  have oA' := oA.below (below_alloc _ (.cells #[.int .i64 7, .int .u8 A0, .int .u8 A1, .int .u8 A2, .int .u16 A3, .int .u16 A4, .int .u8 A5, .slice s m q] 38)) oA.lt
  have oB : Own ((w2.alloc (.cells #[.int .u8 A0, .int .u8 A1, .int .u8 A2, .int .u16 A3, .int .u16 A4, .int .u8 A5, .slice s m q] 36)).alloc (.cells #[.int .i64 7, .int .u8 A0, .int .u8 A1, .int .u8 A2, .int .u16 A3, .int .u16 A4, .int .u8 A5, .slice s m q] 38)) (w2.heap.size + 1) 38 [.int .i64 7, .int .u8 A0, .int .u8 A1, .int .u8 A2, .int .u16 A3, .int .u16 A4, .int .u8 A5, .slice s m q] := by
    have := own_lit (w2.alloc (.cells #[.int .u8 A0, .int .u8 A1, .int .u8 A2, .int .u16 A3, .int .u16 A4, .int .u8 A5, .slice s m q] 36)) 38 #[.int .i64 7, .int .u8 A0, .int .u8 A1, .int .u8 A2, .int .u16 A3, .int .u16 A4, .int .u8 A5, .slice s m q] _ rfl
    rw [World.size_alloc] at this
    exact this
  have bA : Below w2.heap.size w2 ((w2.alloc (.cells #[.int .u8 A0, .int .u8 A1, .int .u8 A2, .int .u16 A3, .int .u16 A4, .int .u8 A5, .slice s m q] 36)).alloc (.cells #[.int .i64 7, .int .u8 A0, .int .u8 A1, .int .u8 A2, .int .u16 A3, .int .u16 A4, .int .u8 A5, .slice s m q] 38)) := below_two2 w2 _ _
  have hsz : ((w2.alloc (.cells #[.int .u8 A0, .int .u8 A1, .int .u8 A2, .int .u16 A3, .int .u16 A4, .int .u8 A5, .slice s m q] 36)).alloc (.cells #[.int .i64 7, .int .u8 A0, .int .u8 A1, .int .u8 A2, .int .u16 A3, .int .u16 A4, .int .u8 A5, .slice s m q] 38)).heap.size = w2.heap.size + 2 := by simp
  have HA2 := Lib.hid (And.intro oA' (And.intro oB (And.intro bA hsz)))
  clear oA oA' oB bA hsz
  go_upto_region 4 with fail
  generalize (w2.alloc (.cells #[.int .u8 A0, .int .u8 A1, .int .u8 A2, .int .u16 A3, .int .u16 A4, .int .u8 A5, .slice s m q] 36)).alloc (.cells #[.int .i64 7, .int .u8 A0, .int .u8 A1, .int .u8 A2, .int .u16 A3, .int .u16 A4, .int .u8 A5, .slice s m q] 38) = W3 at HA2 ⊢
  obtain ⟨po, hpo⟩ : ∃ p, p = w2.heap.size := ⟨_, rfl⟩
  obtain ⟨pi, hpi⟩ : ∃ p, p = w2.heap.size + 1 := ⟨_, rfl⟩
  obtain ⟨oA, oB, bA, hsz⟩ := HA2.out
  rw [← hpo] at oA
  rw [← hpi] at oB
  rw [← hpi, ← hpo]
  obtain ⟨⟨c0, c1, c2, c3, c4, c5, c6, c7⟩, _⟩ := own_eight oB
  have hrow : Row .u8 w2 s m q (l.take 40) := by
    obtain ⟨a', c', he, hr', _⟩ := ownsRow_rowN .u8 HW2.out.1 (fun z hz => HR.out.wf z (List.mem_of_mem_take hz))
    cases he
    exact hr'
  have hlen : (l.take 40).length = m := hrow.len
  -- where all lies
  have z1 : w.heap.size ≤ W0.heap.size := HM0.out.2.2.1.size
  have z2 : W0.heap.size ≤ w1.heap.size := HW1.out.2.2.2.1.size
  have z3 : w1.heap.size ≤ w2.heap.size := HW2.out.2.1.size
  have zb : b = W0.heap.size := HW1.out.2.2.2.2
  have zb2 : b < w1.heap.size := HW1.out.1.own.lt
  have zm : pm = w.heap.size := HM0.out.2.2.2
  have zm2 : pm < W0.heap.size := HM0.out.1.lt
  have B3 : Below w.heap.size w W3 := ((HM0.out.2.2.1.trans (HW1.out.2.2.2.1.mono z1)).trans (HW2.out.2.1.mono (Nat.le_trans z1 z2))).trans (bA.mono (Nat.le_trans z1 (Nat.le_trans z2 z3)))
  have HZ := Lib.hid (And.intro z1 (And.intro z2 (And.intro z3 (And.intro zb (And.intro zb2 (And.intro zm (And.intro zm2 (And.intro hpo (And.intro hpi hsz)))))))))
  have h3 := HW2.out.2.2.1.later bA
  have HSe := Lib.hid (send_ok b Ed.fresh 7 A0 A1 A2 A3 A4 A5 s m q (l.take 40) W3 h3 rfl (by decide) (hrow.later bA) (by omega))
  have H3 := Lib.hid (And.intro oA (And.intro (HW2.out.2.2.2.1.below bA HW2.out.2.2.2.1.lt) (And.intro (ownsRow_below HW2.out.1 bA) B3)))
  have HL := Lib.hid (And.intro hlen (fun z (hz : z ∈ l.take 40) => HR.out.wf z (List.mem_of_mem_take hz)))
  clear oA oB bA hsz hrow hlen z1 z2 z3 zb zb2 zm zm2 B3 h3 hpo hpi HA2
  go_wp2_with fail
  refine HSe.out.mono ?_
  rintro e w4 ⟨rfl, s3, g3, a3, c3', ht⟩
  obtain ⟨X3, hX3⟩ : ∃ X : Ed, X = { Ed.fresh with its := Ed.fresh.its ++ [⟨7, A0, A1, A2, A3, A4, A5, l.take 40, s3⟩], g := g3, a := a3, c := c3' } := ⟨_, rfl⟩
  have ht : EdTo W3 b Ed.fresh X3 w4 := by rw [hX3]; exact ht
  obtain ⟨z1, z2, z3, zb, zb2, zm, zm2, hpo, hpi, hsz⟩ := HZ.out
  have hT : ∀ k, Ed.fresh.T b k → k = b := fun k hk => by
    rcases hk with hk | hk
    · exact hk
    · cases hk
  have oA4 := H3.out.1.exc ht.exc (fun hk => by have := hT _ hk; omega)
  have oM4 := H3.out.2.1.exc ht.exc (fun hk => by have := hT _ hk; omega)
  have hG : ∀ k, (Value.slice s m q).ownBlock = some k → w1.heap.size ≤ k ∧ k < w2.heap.size := fun k hk => World.ownsRow.lt HW2.out.1 k hk
  have ow4 := ownsRow_exc H3.out.2.2.1 ht.exc (fun k hk hh => by have := hT _ hh; have := hG k hk; omega)
  have B4 : Below w.heap.size w w4 := H3.out.2.2.2.trans (ht.exc.below H3.out.2.2.2.size fun i _ hi => by have := hT _ hi; omega)
  have hS : ∀ k, X3.S b k → k = b ∨ w2.heap.size ≤ k := fun k hk => by
    rcases ht.lies k hk with h | h
    · exact .inl (fresh_S _ _ h)
    · exact .inr (by omega)
  have HG := Lib.hid (And.intro hG hS)
  have HS4 := Lib.hid ht.exc.size
  have HX3 := Lib.hid hX3
  have H4 := Lib.hid (And.intro oA4 (And.intro oM4 (And.intro ow4 (And.intro B4 ht.now))))
  obtain ⟨d0, d1, d2, d3, d4, d5, d6⟩ := unit_cells oM4
  clear ht oA4 oM4 hG ow4 B4 hS hX3 hT z1 z2 z3 zb zb2 zm zm2 hpo hpi hsz HSe c0 c1 c2 c3 c4 c5 c6 c7
  go_wp2_with fail
  refine (of_own sv nw pr tp fr sl a n c l w4 (HR.out.later H4.out.2.2.2.1) HS.out.1 HS.out.2.1 HS.out.2.2.1 HS.out.2.2.2.1 HS.out.2.2.2.2.1 HS.out.2.2.2.2.2).mono ?_
  rintro e w5 ⟨s5, m5, q5, rfl, hown5, _, hb5⟩
  obtain ⟨e0, e1, e2, e3, e4, e5⟩ := HA.out
  rw [← e0, ← e1, ← e2, ← e3, ← e4, ← e5]
  obtain ⟨s5', q5', he, hrow5, _⟩ := ownsRow_rowN .u8 hown5 HL.out.2
  cases he
  obtain rfl : m = m5 := by have h1 := hrow5.len; have h2 := HL.out.1; omega
  have b5 : Below w5.heap.size w5 (w5.alloc (.cells #[.int .u8 A0, .int .u8 A1, .int .u8 A2, .int .u16 A3, .int .u16 A4, .int .u8 A5, .slice s5 m q5] 36)) := below_alloc _ _
  have oC := own_lit w5 36 #[.int .u8 A0, .int .u8 A1, .int .u8 A2, .int .u16 A3, .int .u16 A4, .int .u8 A5, .slice s5 m q5] _ rfl
  have z45 : w4.heap.size ≤ w5.heap.size := hb5.size
  have b45 := hb5.trans (b5.mono z45)
  have h6 := H4.out.2.2.2.2.later b45
  have oA6 := H4.out.1.below b45 H4.out.1.lt
  have ow6 := ownsRow_below H4.out.2.2.1 b45
  have hr6 := hrow5.later b5
  have B6 : Below w.heap.size w _ := H4.out.2.2.2.1.trans (b45.mono H4.out.2.2.2.1.size)
  have HC := Lib.hid (And.intro oC (And.intro h6 (And.intro oA6 (And.intro ow6 (And.intro hr6 B6)))))
  have z5 : ∀ z, s5 = some z → w4.heap.size ≤ z.block ∧ z.block < w5.heap.size := fun z hz => World.ownsRow.lt hown5 z.block (by rw [hz]; rfl)
  have HZ5 := Lib.hid (And.intro z45 z5)
  clear e0 e1 e2 e3 e4 e5 hrow5 hb5 b5 oC z45 b45 h6 oA6 ow6 hr6 B6 hown5 z5 d0 d1 d2 d3 d4 d5 d6
  go_upto_region 7 with fail
  generalize w5.alloc (.cells #[.int .u8 A0, .int .u8 A1, .int .u8 A2, .int .u16 A3, .int .u16 A4, .int .u8 A5, .slice s5 m q5] 36) = W6 at HC ⊢
  obtain ⟨pb, hpb⟩ : ∃ p, p = w5.heap.size := ⟨_, rfl⟩
  obtain ⟨oC, h6, oA6, ow6, hr6, B6⟩ := HC.out
  rw [← hpb] at oC ⊢
  have hm := HL.out.1
  -- the contents that are written: their block g
  have hGr : m = 0 ∨ ∃ g cs, s = some ⟨g, 0, none⟩ ∧ Own W6 g 5 cs ∧ m ≤ cs.length := by
    rcases Nat.eq_zero_or_pos m with h0 | h0
    · exact .inl h0
    · obtain ⟨g, c', rest, he, _, ho⟩ := ownsRow_own ow6 h0
      cases he
      exact .inr ⟨g, _, rfl, ho, by rw [List.length_append, nums_length]; omega⟩
  have H6 := Lib.hid (And.intro oC (And.intro h6 (And.intro oA6 (And.intro ow6 (And.intro hr6 (And.intro B6 hpb))))))
  have HGr := Lib.hid hGr
  have HXw := Lib.hid hx
  clear oC h6 oA6 ow6 hr6 B6 hpb hGr hm HC hx
  go_loopw [11] (fun i wr => ∃ k : Nat, k ≤ m ∧ i = .int .i64 k ∧ Exc (fun j => (Value.slice s m q).ownBlock = some j) W6 wr ∧ (m = 0 ∨ ∃ g cs, s = some ⟨g, 0, none⟩ ∧ Own wr g 5 cs ∧ m ≤ cs.length)) (fun i _ => m - (intOf i).toNat)
  case atStart => exact ⟨0, Nat.zero_le _, rfl, Exc.refl _ _, HGr.out⟩
  case round =>
    obtain ⟨k, hk, rfl, hex, hgr⟩ := hrel
    obtain ⟨z1, z2, z3, zb, zb2, zm, zm2, hpo, hpi, hsz⟩ := HZ.out
    have hnb : ¬ (Value.slice s m q).ownBlock = some po := fun hh => by have := HG.out.1 _ hh; omega
    have oA := H6.out.2.2.1.exc hex hnb
    have c6 := oA.cell 6 (by simp)
    simp only [List.getD_cons_zero, List.getD_cons_succ] at c6
    have HEx := Lib.hid hex
    clear z1 z2 z3 zb zb2 zm zm2 hpo hpi hsz hnb oA hex
    by_cases hlt : k < m
    · obtain ⟨g, cs, rfl, hog, hle⟩ := hgr.resolve_left (by omega)
      have k1 : (k : Int) < (m : Int) := by omega
      have k0 : (0 : Int) ≤ (k : Int) := by omega
      have gc := hog.cell k (by omega)
      have gf := hog.frozen k
      have HO := Lib.hid (And.intro hog hle)
      clear hog hle hgr
      go_wp2
      refine ⟨⟨k + 1, by omega, by go_num, HEx.out.setCell ⟨g, k, none⟩ (.inl rfl) _, .inr ⟨g, _, rfl, HO.out.1.set k (.int .u8 x), by rw [List.length_set]; exact HO.out.2⟩⟩, by simp [intOf]; omega⟩
    · obtain rfl : m = k := by omega
      have hlt2 : ¬ (m : Int) < (m : Int) := by omega
      obtain ⟨z1, z2, z3, zb, zb2, zm, zm2, hpo, hpi, hsz⟩ := HZ.out
      have hx3 := HX3.out
      have hSn : ∀ j, X3.S b j → ¬ (Value.slice s m q).ownBlock = some j := fun j hj hh => by
        have h1 := HG.out.1 _ hh
        rcases HG.out.2 j hj with h2 | h2 <;> omega
      have h7 := H6.out.2.1.exc HEx.out hSn
      have y4 : W3.heap.size ≤ w4.heap.size := by
        have h9 := H3.out.2.2.2.size
        have h8 := H4.out.1.lt
        exact HS4.out
      have r7 := H6.out.2.2.2.2.1.exc HEx.out (fun z hz hh => by have h1 := HG.out.1 _ hh; have h2 := (HZ5.out.2 z hz).1; omega)
      have o7 := H6.out.1.exc HEx.out (fun hh => by have h1 := HG.out.1 _ hh; have h2 := H6.out.2.2.2.2.2.2; have h3 := HZ5.out.1; omega)
      have B7 : Below w.heap.size w wr := H6.out.2.2.2.2.2.1.trans (HEx.out.below H6.out.2.2.2.2.2.1.size fun i _ hi => by have := HG.out.1 _ hi; omega)
      have hzS : ∀ j, X3.S b j → j ≠ pb ∧ ∀ z, s5 = some z → z.block ≠ j := fun j hj => by
        have h1 := H4.out.2.2.2.2.lt j hj
        have h2 := H6.out.2.2.2.2.2.2
        have h3 := HZ5.out.1
        exact ⟨by omega, fun z hz hh => by have := (HZ5.out.2 z hz).1; omega⟩
      have HFa := Lib.hid (fail_ok b X3 0 wr h7 (by rw [hx3]; rfl) (by decide))
      have H7 := Lib.hid (And.intro h7 (And.intro r7 (And.intro o7 (And.intro B7 hzS))))
      have HLo := Lib.hid (show ∀ j, X3.S b j → w.heap.size ≤ j from fun j hj => by rcases HG.out.2 j hj with h2 | h2 <;> omega)
      clear z1 z2 z3 zb zb2 zm zm2 hpo hpi hsz hx3 hSn h7 y4 r7 o7 B7 hzS hgr hlt hk
      go_wp2_with fail
      refine HFa.out.mono ?_
      rintro e w8 ⟨rfl, ht⟩
      obtain ⟨X4, hX4⟩ : ∃ X : Ed, X = { X3 with st := 1, failed := 0 } := ⟨_, rfl⟩
      rw [← hX4] at ht
      have hx3 := HX3.out
      have hst4 : X4.st = 1 := by rw [hX4]
      have hack : X4.acked = 0 := by rw [hX4, hx3]; rfl
      have hits : X4.its = [⟨7, A0, A1, A2, A3, A4, A5, l.take 40, s3⟩] := by rw [hX4, hx3]; rfl
      have hlast : X3.last = 0 := by rw [hx3]; rfl
      have hS4 : ∀ j, X4.S b j → X3.S b j := fun j hj => by rw [hX4] at hj; exact hj
      have hsn : ∀ j, X3.T b j → X3.S b j := fun j hj => .inl hj
      have r8 := H7.out.2.1.exc ht.exc (fun z hz hh => (H7.out.2.2.2.2 _ (hsn _ hh)).2 z hz rfl)
      have o8 := H7.out.2.2.1.exc ht.exc (fun hh => (H7.out.2.2.2.2 _ (hsn _ hh)).1 rfl)
      have B8 : Below w.heap.size w w8 := H7.out.2.2.2.1.trans (ht.exc.below H7.out.2.2.2.1.size fun i _ hi => HLo.out i (hsn _ hi))
      have hto := told_ok b X4 0 0 w8 ht.now hst4 (by rw [hack]) (Nat.zero_le _)
      have hto2 : Calls Try.prog 13 #[.pointer (some ⟨b, 0, none⟩), .int .i64 0] w8 fun e w' => ∃ A, e = .returned (.tuple #[.slice A 1 1, .int .i64 0]) ∧ ItsIn w' (fun k => X4.S b k ∧ k ≠ b) A [⟨7, A0, A1, A2, A3, A4, A5, l.take 40, s3⟩] ∧ EdTo w8 b X4 X4.idle w' :=
        hto.mono fun e w' ⟨A, h1, h2, h3⟩ => ⟨A, by rw [h1, hits]; rfl, by rw [hits] at h2; exact h2, h3⟩
      have HTo := Lib.hid hto2
      have H8 := Lib.hid (And.intro r8 (And.intro o8 (And.intro B8 hS4)))
      rw [hlast]
      clear hX4 ht hx3 hst4 hack hits hlast hS4 hsn r8 o8 B8 hto hto2 HFa
      go_wp2_with fail
      refine HTo.out.mono ?_
      rintro e w9 ⟨A, rfl, hin, ht⟩
      have hsn : ∀ j, X4.T b j → X3.S b j := fun j hj => H8.out.2.2.2 j (.inl hj)
      have r9 := H8.out.1.exc ht.exc (fun z hz hh => (H7.out.2.2.2.2 _ (hsn _ hh)).2 z hz rfl)
      have o9 := H8.out.2.1.exc ht.exc (fun hh => (H7.out.2.2.2.2 _ (hsn _ hh)).1 rfl)
      have B9 : Below w.heap.size w w9 := H8.out.2.2.1.trans (ht.exc.below H8.out.2.2.1.size fun i _ hi => HLo.out i (hsn _ hi))
      obtain ⟨bb, oo, rfl, d0, d1, d2, d3, d4, d5, d6, d7, hrd⟩ := hin.at It.none (i := 0) (by simp)
      simp only [List.getD_cons_zero, Nat.zero_mul, Nat.add_zero] at d0 d1 d2 d3 d4 d5 d6 d7 hrd
      rw [HL.out.1] at d7 hrd
      obtain ⟨e0, e1, e2, e3, e4, e5, e6⟩ := unit_cells o9
      have v1 := fun W => row_string s3 m m (l.take 40) (w9.drewN W) (hrd.later (below_draw w9 W))
      have v2 := fun W => row_string s5 m q5 (l.take 40) (w9.drewN W) (r9.later (below_draw w9 W))
      have H9 := Lib.hid (And.intro ht.now B9)
      have hre := retained_any b X4.idle
      clear hsn r9 o9 B9 hin hrd ht HTo hre
      have q3 : (A3 == A3) = true := by simp
      have q4 : (A4 == A4) = true := by simp
      have q5 : (A5 == A5) = true := by simp
      have q0 : (A0 != A0) = false := by simp
      generalize hst : bs (ofI (l.take 40)) = ST at v1 v2
      clear hst
      go_wp2_with fail
      go_quiet (fail)
      have h10 := H9.out.1.later (below_draw w9 nq)
      have b10 := below_drewN H9.out.2 nq
      generalize w9.drewN nq = w10 at h10 b10 ⊢
      have HRe := Lib.hid (show Calls Try.prog 17 #[.pointer (some ⟨b, 0, none⟩)] w10 (fun e w' => e = .returned (.int .i64 0) ∧ ∃ q, w' = w10.drewN q) from retained_any b X4.idle w10 h10)
      have B10 := Lib.hid b10
      clear h10 b10 d0 d1 d2 d3 d4 d5 d6 d7 e0 e1 e2 e3 e4 e5 e6 v1 v2 q0 q3 q4 q5
      go_wp2_with fail
      refine HRe.out.mono ?_
      rintro e w11 ⟨rfl, q11, rfl⟩
      have b11 := below_drewN B10.out q11
      generalize w10.drewN q11 = w11 at b11 ⊢
      have B11 := Lib.hid b11
      clear b11
      go_wp2_with fail
      refine (lives_any w11).mono ?_
      rintro e w12 ⟨rfl, hb12⟩
      have B12 := Lib.hid (B11.out.trans (hb12.mono B11.out.size))
      clear hb12
      go_wp2
      go_ret
      exact ⟨rfl, B12.out⟩
end Go.Proofs.Ytlmkmgfnfcnoaaa
