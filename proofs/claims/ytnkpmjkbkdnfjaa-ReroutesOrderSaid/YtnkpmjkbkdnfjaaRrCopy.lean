/- Layer 17: copied. -/
import Derived.Test.YtnkpmjkbkdnfjaaChCl
namespace Go.Proofs.Ytnkpmjkbkdnfjaa
open Go.RowKit

set_option maxHeartbeats 2000000 in
set_option maxRecDepth 100000 in
theorem copied_any (num sv nw pr tp fr sl : Int) (a : Option Addr) (n c : Nat) (l : List Int) (w : World) (h : Row .u8 w a n c l) (hn : n ≤ 1000000) :
    Calls Try.prog 28 #[.agg #[.int .i64 num, .int .u8 sv, .int .u8 nw, .int .u8 pr, .int .u16 tp, .int .u16 fr, .int .u8 sl, .slice a n c]] w fun e w' => CopyIt w ⟨num, sv, nw, pr, tp, fr, sl, l, none⟩ e w' := by
  have hb2 : Below w.heap.size w ((w.alloc (.cells #[.int .i64 num, .int .u8 sv, .int .u8 nw, .int .u8 pr, .int .u16 tp, .int .u16 fr, .int .u8 sl, .slice a n c] 56)).alloc (.cells #[.int .i64 0, .int .u8 0, .int .u8 0, .int .u8 0, .int .u16 0, .int .u16 0, .int .u8 0, .slice none 0 0] 56)) := (below_alloc _ _).trans ((below_alloc _ _).mono (by simp))
  have o1 : Own ((w.alloc (.cells #[.int .i64 num, .int .u8 sv, .int .u8 nw, .int .u8 pr, .int .u16 tp, .int .u16 fr, .int .u8 sl, .slice a n c] 56)).alloc (.cells #[.int .i64 0, .int .u8 0, .int .u8 0, .int .u8 0, .int .u16 0, .int .u16 0, .int .u8 0, .slice none 0 0] 56)) w.heap.size 56 [.int .i64 num, .int .u8 sv, .int .u8 nw, .int .u8 pr, .int .u16 tp, .int .u16 fr, .int .u8 sl, .slice a n c] := (own_lit w _ _ _ rfl).below (below_alloc _ _) (by simp)
  have o2 : Own ((w.alloc (.cells #[.int .i64 num, .int .u8 sv, .int .u8 nw, .int .u8 pr, .int .u16 tp, .int .u16 fr, .int .u8 sl, .slice a n c] 56)).alloc (.cells #[.int .i64 0, .int .u8 0, .int .u8 0, .int .u8 0, .int .u16 0, .int .u16 0, .int .u8 0, .slice none 0 0] 56)) (w.heap.size + 1) 56 zeroIt := by
    have := own_lit (w.alloc (.cells #[.int .i64 num, .int .u8 sv, .int .u8 nw, .int .u8 pr, .int .u16 tp, .int .u16 fr, .int .u8 sl, .slice a n c] 56)) 56 #[.int .i64 0, .int .u8 0, .int .u8 0, .int .u8 0, .int .u16 0, .int .u16 0, .int .u8 0, .slice none 0 0] zeroIt rfl
    rw [World.size_alloc] at this
    exact this
  have hr := h.later hb2
  have hle := h.le
  have hmx := h.max
  have hll := h.len
  have HB2 := Lib.hid hb2
  have HR := Lib.hid hr
  have HO1 := Lib.hid o1
  have HO2 := Lib.hid o2
  have HLL := Lib.hid hll
  clear hb2 hr o1 o2 h hll
  go_enter Try.func28, Try.ntmps28
  go_upto_region 1 with fail
  generalize (w.alloc (.cells #[.int .i64 num, .int .u8 sv, .int .u8 nw, .int .u8 pr, .int .u16 tp, .int .u16 fr, .int .u8 sl, .slice a n c] 56)).alloc _ = W at *
  obtain ⟨b2, hb2⟩ : ∃ p, p = w.heap.size + 1 := ⟨_, rfl⟩
  obtain ⟨b1, hb1⟩ : ∃ p, p = w.heap.size := ⟨_, rfl⟩
  have o1 := HO1.out
  have o2 := HO2.out
  rw [← hb2] at o2 ⊢
  rw [← hb1] at o1 ⊢
  obtain ⟨⟨c0, c1, c2, c3, c4, c5, c6, c7⟩, _⟩ := own_eight o1
  have HC1 := Lib.hid (clone8_any a n c l W HR.out hn)
  have HP1 := Lib.hid o1
  have HP2 := Lib.hid o2
  have HN := Lib.hid (And.intro hb1 hb2)
  clear o1 o2 hb1 hb2 HO1 HO2
  go_wp2_with fail
  with_reducible refine HC1.out.mono ?_
  rintro e w2 ⟨s, c', rfl, hrow, hnew, hbl⟩
  have hbW := HB2.out.trans (hbl.mono HB2.out.size)
  have hcp := clip8_any s n c' w2 hrow.le hrow.max
  have p1 := HP1.out.below hbl HP1.out.lt
  have p2 := HP2.out.below hbl HP2.out.lt
  clear c0 c1 c2 c3 c4 c5 c6 c7
  obtain ⟨⟨c0, c1, c2, c3, c4, c5, c6, c7⟩, ⟨f0, f1, f2, f3, f4, f5, f6, f7⟩⟩ := own_eight p1
  obtain ⟨⟨k0, k1, k2, k3, k4, k5, k6, k7⟩, ⟨z0, z1, z2, z3, z4, z5, z6, z7⟩⟩ := own_eight p2
  have HCp := Lib.hid hcp
  have HRow := Lib.hid hrow
  have HNew := Lib.hid hnew
  have HBl := Lib.hid hbl
  have HBW := Lib.hid hbW
  have n1 : ¬ b1 = b2 := by have := HN.out; omega
  have n2 : ¬ b2 = b1 := by have := HN.out; omega
  clear hcp hrow hnew hbl hbW p1 p2
  go_wp2_with fail
  with_reducible refine HCp.out.mono ?_
  rintro e w3 ⟨rfl, rfl⟩
  go_wp2
  have HX := Lib.hid ((((((((((Exc.refl (fun k => k = b1 ∨ k = b2) w2).setCell ⟨b1, 7, none⟩ (.inl (.inl rfl)) (.slice s n n)).setCell ⟨b2, 0, none⟩ (.inl (.inr rfl)) (.int .i64 num)).setCell ⟨b2, 1, none⟩ (.inl (.inr rfl)) (.int .u8 sv)).setCell ⟨b2, 2, none⟩ (.inl (.inr rfl)) (.int .u8 nw)).setCell ⟨b2, 3, none⟩ (.inl (.inr rfl)) (.int .u8 pr)).setCell ⟨b2, 4, none⟩ (.inl (.inr rfl)) (.int .u16 tp)).setCell ⟨b2, 5, none⟩ (.inl (.inr rfl)) (.int .u16 fr)).setCell ⟨b2, 6, none⟩ (.inl (.inr rfl)) (.int .u8 sl)).setCell ⟨b2, 7, none⟩ (.inl (.inr rfl)) (.slice s n n))
  refine bodyPost_ret (v := .agg #[.int .i64 num, .int .u8 sv, .int .u8 nw, .int .u8 pr, .int .u16 tp, .int .u16 fr, .int .u8 sl, .slice s n n]) (by simp [results, Try.results28, go_sem, k0, k1, k2, k3, k4, k5, k6, k7]) rfl ?_
  have hN := HN.out
  have hs1 := HB2.out.size
  have hs2 := HP2.out.lt
  have hll := HLL.out
  subst hll
  refine ⟨s, rfl, row_clip (HRow.out.exc HX.out fun z hz hk => ?_), fun z hz => ?_, HBW.out.trans (HX.out.below HBW.out.size fun i _ hi => ?_)⟩
  · have := (HNew.out z hz).1
    omega
  · have h1 := HNew.out z hz
    have := HX.out.size
    omega
  · omega
end Go.Proofs.Ytnkpmjkbkdnfjaa
