/- The statements' own function Of: its contents lie in new memory. -/
import Derived.Test.YtnkpmjkbkdnfjaaUnBase
import Derived.StillTailTactics
import Derived.Deep.CutBlock
import Derived.Test.YtnkpmjkbkdnfjaaLbSlice
namespace Go.Proofs.Ytnkpmjkbkdnfjaa
open Go.RowKit

theorem below_two2 (w : World) (o1 o2 : Obj) : Below w.heap.size w ((w.alloc o1).alloc o2) := (below_alloc _ _).trans ((below_alloc _ _).mono (by simp))
/-- A valid message made of plain data. -/
def OfOwn (w : World) (sv nw pr tp fr sl : Int) (l : List Int) (e : Ending) (w' : World) : Prop :=
  ∃ s m q, e = .returned (.agg #[.int .u8 (sv % 16), .int .u8 (nw % 4), .int .u8 (pr % 4), .int .u16 (tp % 16384), .int .u16 (fr % 16384), .int .u8 (sl % 16), .slice s m q]) ∧ w'.ownsRow w.heap.size 5 1 (.slice s m q) m (nums .u8 (l.take 40)) ∧ m ≤ 40 ∧ Below w.heap.size w w'
set_option maxHeartbeats 2000000 in
set_option maxRecDepth 100000 in
theorem of_own (sv nw pr tp fr sl : Int) (a : Option Addr) (n c : Nat) (l : List Int) (w : World) (h : Row .u8 w a n c l) (hsv : 0 ≤ sv) (hnw : 0 ≤ nw) (hpr : 0 ≤ pr) (hto : 0 ≤ tp) (hfr : 0 ≤ fr) (hsl : 0 ≤ sl) :
    Calls Try.prog 24 #[.agg #[.int .u8 sv, .int .u8 nw, .int .u8 pr, .int .u16 tp, .int .u16 fr, .int .u8 sl, .slice a n c]] w fun e w' => OfOwn w sv nw pr tp fr sl l e w' := by
  have hle := h.le
  have hmx := h.max
  unfold maxLen at hmx
  obtain ⟨M, hM⟩ : ∃ M, M = min n 40 := ⟨_, rfl⟩
  have hMn : M ≤ n := by omega
  have hM40 : M ≤ 40 := by omega
  have hif : (if (40 : Int) < (n : Int) then (40 : Int) else (n : Int)) = (M : Int) := by split <;> omega
  have hsl : ∀ W, (Instr.slice 52 (.slice a n c) none (some (.int .i64 (M : Int))) none).run Try.prog W = .ok (.slice a M c) W := fun W => by
    rw [run_slice_h W 52 a n c und8 .i64 (M : Int) (by omega) (by omega), elem8, size8_run]
    cases a <;> simp [sliced, Result.andThen, Addr.add]
  have hf := h.front M hMn
  have htk : l.take M = l.take 40 := by
    rw [hM]
    by_cases hn : n ≤ 40
    · rw [Nat.min_eq_left hn, List.take_of_length_le (by rw [h.len]; exact Nat.le_refl _), List.take_of_length_le (by rw [h.len]; exact hn)]
    · rw [Nat.min_eq_right (by omega)]
  rw [htk] at hf
  have hfw := hf.wf
  obtain ⟨i0, hi, hz0, hz1, hz2⟩ := info_parts info8
  have HI := Lib.hid (And.intro hi (And.intro hz0 (And.intro hz1 hz2)))
  have hb2 := below_two2 w (.cells #[.int .u8 sv, .int .u8 nw, .int .u8 pr, .int .u16 tp, .int .u16 fr, .int .u8 sl, .slice a n c] 66) (.cells #[.int .u8 0, .int .u8 0, .int .u8 0, .int .u16 0, .int .u16 0, .int .u8 0, .slice none 0 0] 54)
  have hb3 : Below w.heap.size w (((w.alloc (.cells #[.int .u8 sv, .int .u8 nw, .int .u8 pr, .int .u16 tp, .int .u16 fr, .int .u8 sl, .slice a n c] 66)).alloc (.cells #[.int .u8 0, .int .u8 0, .int .u8 0, .int .u16 0, .int .u16 0, .int .u8 0, .slice none 0 0] 54)).alloc (.cells #[.int .u8 (sv % 16), .int .u8 (nw % 4), .int .u8 (pr % 4), .int .u16 (tp % 16384), .int .u16 (fr % 16384), .int .u8 (sl % 16), .slice none 0 0] 54)) := hb2.trans ((below_alloc _ _).mono (by simp; omega))
  have ox : Own (((w.alloc (.cells #[.int .u8 sv, .int .u8 nw, .int .u8 pr, .int .u16 tp, .int .u16 fr, .int .u8 sl, .slice a n c] 66)).alloc (.cells #[.int .u8 0, .int .u8 0, .int .u8 0, .int .u16 0, .int .u16 0, .int .u8 0, .slice none 0 0] 54)).alloc (.cells #[.int .u8 (sv % 16), .int .u8 (nw % 4), .int .u8 (pr % 4), .int .u16 (tp % 16384), .int .u16 (fr % 16384), .int .u8 (sl % 16), .slice none 0 0] 54)) w.heap.size 66 [.int .u8 sv, .int .u8 nw, .int .u8 pr, .int .u16 tp, .int .u16 fr, .int .u8 sl, .slice a n c] := ((own_lit w 66 #[.int .u8 sv, .int .u8 nw, .int .u8 pr, .int .u16 tp, .int .u16 fr, .int .u8 sl, .slice a n c] _ rfl).below (below_alloc _ (.cells #[.int .u8 0, .int .u8 0, .int .u8 0, .int .u16 0, .int .u16 0, .int .u8 0, .slice none 0 0] 54)) (by simp)).below (below_alloc _ _) (by simp; omega)
  have oz : Own (((w.alloc (.cells #[.int .u8 sv, .int .u8 nw, .int .u8 pr, .int .u16 tp, .int .u16 fr, .int .u8 sl, .slice a n c] 66)).alloc (.cells #[.int .u8 0, .int .u8 0, .int .u8 0, .int .u16 0, .int .u16 0, .int .u8 0, .slice none 0 0] 54)).alloc (.cells #[.int .u8 (sv % 16), .int .u8 (nw % 4), .int .u8 (pr % 4), .int .u16 (tp % 16384), .int .u16 (fr % 16384), .int .u8 (sl % 16), .slice none 0 0] 54)) (w.heap.size + 1) 54 [.int .u8 0, .int .u8 0, .int .u8 0, .int .u16 0, .int .u16 0, .int .u8 0, .slice none 0 0] := by
    have := (own_lit (w.alloc (.cells #[.int .u8 sv, .int .u8 nw, .int .u8 pr, .int .u16 tp, .int .u16 fr, .int .u8 sl, .slice a n c] 66)) 54 #[.int .u8 0, .int .u8 0, .int .u8 0, .int .u16 0, .int .u16 0, .int .u8 0, .slice none 0 0] _ rfl).below (below_alloc _ (.cells #[.int .u8 (sv % 16), .int .u8 (nw % 4), .int .u8 (pr % 4), .int .u16 (tp % 16384), .int .u16 (fr % 16384), .int .u8 (sl % 16), .slice none 0 0] 54)) (by simp)
    rw [World.size_alloc] at this
    exact this
  have om : Own (((w.alloc (.cells #[.int .u8 sv, .int .u8 nw, .int .u8 pr, .int .u16 tp, .int .u16 fr, .int .u8 sl, .slice a n c] 66)).alloc (.cells #[.int .u8 0, .int .u8 0, .int .u8 0, .int .u16 0, .int .u16 0, .int .u8 0, .slice none 0 0] 54)).alloc (.cells #[.int .u8 (sv % 16), .int .u8 (nw % 4), .int .u8 (pr % 4), .int .u16 (tp % 16384), .int .u16 (fr % 16384), .int .u8 (sl % 16), .slice none 0 0] 54)) (w.heap.size + 1 + 1) 54 [.int .u8 (sv % 16), .int .u8 (nw % 4), .int .u8 (pr % 4), .int .u16 (tp % 16384), .int .u16 (fr % 16384), .int .u8 (sl % 16), .slice none 0 0] := by
    have := own_lit ((w.alloc (.cells #[.int .u8 sv, .int .u8 nw, .int .u8 pr, .int .u16 tp, .int .u16 fr, .int .u8 sl, .slice a n c] 66)).alloc (.cells #[.int .u8 0, .int .u8 0, .int .u8 0, .int .u16 0, .int .u16 0, .int .u8 0, .slice none 0 0] 54)) 54 #[.int .u8 (sv % 16), .int .u8 (nw % 4), .int .u8 (pr % 4), .int .u16 (tp % 16384), .int .u16 (fr % 16384), .int .u8 (sl % 16), .slice none 0 0] _ rfl
    rw [World.size_alloc, World.size_alloc] at this
    exact this
  have HF := Lib.hid (hf.later hb3)
  have HFw := Lib.hid hfw
  clear hi hz0 hz1 hz2 hb2 hf hM htk h hfw
  go_enter Try.func24, Try.ntmps24
  go_upto_region 3 with fail
  generalize ((w.alloc (.cells #[.int .u8 sv, .int .u8 nw, .int .u8 pr, .int .u16 tp, .int .u16 fr, .int .u8 sl, .slice a n c] 66)).alloc (.cells #[.int .u8 0, .int .u8 0, .int .u8 0, .int .u16 0, .int .u16 0, .int .u8 0, .slice none 0 0] 54)).alloc (.cells #[.int .u8 (sv % 16), .int .u8 (nw % 4), .int .u8 (pr % 4), .int .u16 (tp % 16384), .int .u16 (fr % 16384), .int .u8 (sl % 16), .slice none 0 0] 54) = W at *
  obtain ⟨pm, hpm⟩ : ∃ p, p = w.heap.size + 1 + 1 := ⟨_, rfl⟩
  obtain ⟨pr1, hpr1⟩ : ∃ p, p = w.heap.size + 1 := ⟨_, rfl⟩
  obtain ⟨px, hpx⟩ : ∃ p, p = w.heap.size := ⟨_, rfl⟩
  rw [← hpm] at om ⊢
  rw [← hpr1] at oz ⊢
  rw [← hpx] at ox ⊢
  have HN := Lib.hid (show w.heap.size ≤ px ∧ px < pr1 ∧ pr1 < pm by omega)
  have n1 : ¬ pm = pr1 := by omega
  have n2 : ¬ pr1 = pm := by omega
  clear hpm hpr1 hpx
  have hlm := om.lt
  obtain ⟨x0, x1, x2, x3, x4, x5, x6⟩ := unit_cells ox
  obtain ⟨m0, m1, m2, m3, m4, m5, m6⟩ := unit_cells om
  have B3 := Lib.hid hb3
  have OM := Lib.hid om
  have OZ := Lib.hid oz
  clear hb3 om oz ox
  go_still_tail 9, (by kernel_rfl)
  change wpList _ _ _ _ _ W.drew
  refine wpList_append_list rfl (.tmp 26) (.tmp 33) 52 rfl W.heap.size 5 i0 (.int .u8 0) 1 Try.underlying52 HI.out.1 HI.out.2.1 HI.out.2.2.1 HI.out.2.2.2 rfl .u8 (.slice none 0 0) 0 [] rfl (World.ownsRow_nil _ _ _ _) a M c (l.take 40) rfl (HF.out.later (Below.refl W.heap.size W).drew) ?_ ?_ (Nat.le_refl _) ?_
  · unfold maxLen; omega
  · omega
  intro v4 w4 hown4 hg4
  rw [Nat.zero_add, List.nil_append] at hown4
  have hb4 : Below W.heap.size W w4 := ((Below.refl W.heap.size W).drew).trans ((Below.refl _ _).grown hg4 (Nat.le_refl _) (by simp [Value.ownBlock]))
  obtain ⟨s3, q3, rfl, _, _⟩ := ownsRow_rowN .u8 hown4 HFw.out
  have hne2 : ∀ k, (Value.slice s3 M q3).ownBlock = some k → ¬ (k = pm ∨ k = pr1) := fun k hk hxb => by
    have := (World.ownsRow.lt hown4 k hk).1
    have := HN.out
    omega
  have hN := HN.out
  have om4 := OM.out.below hb4 hlm
  have oz4 := OZ.out.below hb4 (by omega)
  clear x0 x1 x2 x3 x4 x5 x6 m0 m1 m2 m3 m4 m5 m6 hN
  obtain ⟨m0, m1, m2, m3, m4, m5, m6⟩ := unit_cells om4
  obtain ⟨u0, u1, u2, u3, u4, u5, u6⟩ := unit_frozen om4
  obtain ⟨k0, k1, k2, k3, k4, k5, k6⟩ := unit_cells oz4
  obtain ⟨z0, z1, z2, z3, z4, z5, z6⟩ := unit_frozen oz4
  have B4 := Lib.hid (B3.out.trans (hb4.mono B3.out.size))
  have R4 := Lib.hid hown4
  have HNe := Lib.hid hne2
  clear hown4 hg4 hb4 hne2 om4 oz4
  go_wp2
  have HX := Lib.hid (((((((((Exc.refl (fun k => k = pm ∨ k = pr1) w4).setCell ⟨pm, 6, none⟩ (.inl (.inl rfl)) (.slice s3 M q3)).setCell ⟨pr1, 0, none⟩ (.inl (.inr rfl)) (.int .u8 (sv % 16))).setCell ⟨pr1, 1, none⟩ (.inl (.inr rfl)) (.int .u8 (nw % 4))).setCell ⟨pr1, 2, none⟩ (.inl (.inr rfl)) (.int .u8 (pr % 4))).setCell ⟨pr1, 3, none⟩ (.inl (.inr rfl)) (.int .u16 (tp % 16384))).setCell ⟨pr1, 4, none⟩ (.inl (.inr rfl)) (.int .u16 (fr % 16384))).setCell ⟨pr1, 5, none⟩ (.inl (.inr rfl)) (.int .u8 (sl % 16))).setCell ⟨pr1, 6, none⟩ (.inl (.inr rfl)) (.slice s3 M q3))
  refine bodyPost_ret (v := .agg #[.int .u8 (sv % 16), .int .u8 (nw % 4), .int .u8 (pr % 4), .int .u16 (tp % 16384), .int .u16 (fr % 16384), .int .u8 (sl % 16), .slice s3 M q3]) (by simp [results, Try.results24, go_sem, k0, k1, k2, k3, k4, k5, k6]) rfl ?_
  have hN := HN.out
  exact ⟨s3, M, q3, rfl, ownsRow_mono (ownsRow_exc R4.out HX.out HNe.out) B3.out.size, hM40, B4.out.trans (HX.out.below B4.out.size (fun i _ hi => by omega))⟩
end Go.Proofs.Ytnkpmjkbkdnfjaa
