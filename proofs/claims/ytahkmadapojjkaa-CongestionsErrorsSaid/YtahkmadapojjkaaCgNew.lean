/- NewMeter, Sheds, NewControl; a control's isNone, and lowered. -/
import Derived.Test.YtahkmadapojjkaaCgMeter
namespace Go.Proofs.Ytahkmadapojjkaa
open Go.RowKit Go.Maps

def good (a b c : Int) : Prop := 1 ≤ a ∧ a < b ∧ b < c
instance (a b c : Int) : Decidable (good a b c) := by unfold good; infer_instance
def NewM (a b c : Int) (w : World) (e : Ending) (w' : World) : Prop :=
  Below w.heap.size w w' ∧ ((good a b c ∧ ∃ mb, e = .returned (.tuple #[.pointer (some ⟨mb, 0, none⟩), .int .i64 0]) ∧ MtAt w' mb ⟨a, b, c, 0⟩ ∧ w.heap.size ≤ mb) ∨ (¬ good a b c ∧ e = .returned (.tuple #[.pointer none, .int .i64 1])))
set_option maxHeartbeats 1000000 in
set_option maxRecDepth 100000 in
theorem newM_any (a b c : Int) (w : World) (hc : (Lit.int .i64 c).wf = true) : Calls Try.prog 11 #[.agg #[.int .i64 a, .int .i64 b, .int .i64 c]] w (NewM a b c w) := by
  have hb := below_alloc w (.cells #[.int .i64 a, .int .i64 b, .int .i64 c] 26)
  have ho : Own (w.alloc (.cells #[.int .i64 a, .int .i64 b, .int .i64 c] 26)) w.heap.size 26 [.int .i64 a, .int .i64 b, .int .i64 c] := heap_alloc_new w _
  have hs := World.size_alloc w (.cells #[.int .i64 a, .int .i64 b, .int .i64 c] 26)
  obtain ⟨w1, hw1⟩ : ∃ x, x = w.alloc (.cells #[.int .i64 a, .int .i64 b, .int .i64 c] 26) := ⟨_, rfl⟩
  rw [← hw1] at hb ho hs
  have g0 := ho.cell 0 (by simp)
  have g1 := ho.cell 1 (by simp)
  have g2 := ho.cell 2 (by simp)
  simp only [List.getD_cons_zero, List.getD_cons_succ] at g0 g1 g2
  have HB := Lib.hid hb
  have HC := Lib.hid (wf_i64.1 hc)
  clear hb hc ho
  by_cases h1 : a < 1
  · have HG : Hid (¬ good a b c) := Lib.hid (fun h => by unfold good at h; omega)
    go_enter Try.func11, Try.ntmps11
    go_upto_region 1 with fail
    rw [← hw1]
    clear hw1
    go_wp2
    go_ret2
    exact ⟨HB.out, .inr ⟨HG.out, rfl⟩⟩
  by_cases h2 : b ≤ a
  · have HG : Hid (¬ good a b c) := Lib.hid (fun h => by unfold good at h; omega)
    go_enter Try.func11, Try.ntmps11
    go_upto_region 1 with fail
    rw [← hw1]
    clear hw1
    go_wp2
    go_ret2
    exact ⟨HB.out, .inr ⟨HG.out, rfl⟩⟩
  by_cases h3 : c ≤ b
  · have HG : Hid (¬ good a b c) := Lib.hid (fun h => by unfold good at h; omega)
    go_enter Try.func11, Try.ntmps11
    go_upto_region 1 with fail
    rw [← hw1]
    clear hw1
    go_wp2
    go_ret2
    exact ⟨HB.out, .inr ⟨HG.out, rfl⟩⟩
  · have HG : Hid (good a b c) := Lib.hid (by unfold good; omega)
    have hS : w.heap.size < w1.heap.size := by rw [hs]; omega
    have HS := Lib.hid hS
    clear hs hS
    go_enter Try.func11, Try.ntmps11
    go_upto_region 1 with fail
    rw [← hw1]
    clear hw1
    go_wp2
    go_ret2
    have hx := below_alloc w1 (.cells #[.int .i64 a, .int .i64 b, .int .i64 c, .int .i64 0] 57)
    have h9 := HG.out
    have h8 := HC.out
    have h7 := HS.out
    unfold good at h9
    exact ⟨HB.out.trans (hx.mono HB.out.size), .inl ⟨HG.out, _, rfl, ⟨heap_alloc_new w1 _, ⟨h9.1, h9.2.1, h9.2.2, h8.2⟩, ⟨by simp, by simp⟩⟩, by omega⟩⟩
set_option maxRecDepth 100000 in
theorem sheds_any (l p : Int) (w : World) (h : 0 ≤ p ∧ p ≤ 255) : Calls Try.prog 14 #[.int .i64 l, .int .u8 p] w fun e w' => e = .returned (.bool (decide (p < l))) ∧ w = w' := by
  have hw : IntKind.i64.wrap p = p := IntWalk.i64_in _ (by omega)
  clear h
  go_enter Try.func14, Try.ntmps14
  go_wp2
  go_ret
  exact ⟨rfl, rfl⟩
def NewC (D : List Int) (base : Int) (w : World) (e : Ending) (w' : World) : Prop :=
  Below w.heap.size w w' ∧ ((1 ≤ base ∧ ∃ cb bm, e = .returned (.tuple #[.pointer (some ⟨cb, 0, none⟩), .int .i64 0]) ∧ CtAt w' cb bm (Ct.fresh D base) ∧ w.heap.size ≤ cb ∧ w.heap.size ≤ bm) ∨ (¬ 1 ≤ base ∧ e = .returned (.tuple #[.pointer none, .int .i64 1])))
set_option maxHeartbeats 1000000 in
set_option maxRecDepth 100000 in
theorem newC_any (D : List Int) (base : Int) (w : World) (hc : (Lit.int .i64 base).wf = true) (hD : D.Nodup ∧ (∀ n, n ∈ D → (Lit.int .u16 n).wf = true) ∧ D.length ≤ 1000) : Calls Try.prog 15 #[.int .i64 base] w (NewC D base w) := by
  have HC := Lib.hid (wf_i64.1 hc)
  have HD := Lib.hid hD
  clear hc hD
  by_cases h1 : base < 1
  · have HG : Hid (¬ 1 ≤ base) := Lib.hid (by omega)
    go_enter Try.func15, Try.ntmps15
    go_wp2
    go_ret2
    exact ⟨Below.refl _ _, .inr ⟨by have := HG.out; omega, rfl⟩⟩
  · have HG : Hid (1 ≤ base) := Lib.hid (by omega)
    have hmm := @run_makeMap Try.prog
    go_enter Try.func15, Try.ntmps15
    go_wp2
    go_ret2
    have hx : Exc (fun _ => False) (w.alloc (.map #[] 0)) ((w.alloc (.map #[] 0)).alloc (.cells #[.int .i64 base, .map (some w.heap.size)] 60)) := (Exc.refl _ _).alloc _
    have ho := heap_alloc_new (w.alloc (.map #[] 0)) (.cells #[.int .i64 base, .map (some w.heap.size)] 60)
    have hs : (w.alloc (.map #[] 0)).heap.size = w.heap.size + 1 := by simp
    rw [hs] at ho
    refine ⟨(below_alloc w _).trans ((below_alloc _ _).mono (by rw [hs]; omega)), .inl ⟨HG.out, w.heap.size + 1, w.heap.size, by simp, ⟨ho, (RecAt.made w).exc hx (fun h => h), ⟨HG.out, HC.out.2⟩, fun n => by simp [Ct.fresh], fun n => by simp [Ct.fresh]; decide, fun n h => absurd rfl h, HD.out.1, HD.out.2.1, HD.out.2.2⟩, by omega, Nat.le_refl _⟩⟩
set_option maxRecDepth 100000 in
theorem cisNone_nul (a : Option Addr) (w : World) (h : NulC w a) : Calls Try.prog 22 #[.pointer a] w fun e w' => e = .returned (.bool true) ∧ w = w' := by
  rcases h with rfl | ⟨b, rfl, hc⟩
  · go_enter Try.func22, Try.ntmps22
    go_wp2
    go_ret
    exact ⟨rfl, rfl⟩
  · go_enter Try.func22, Try.ntmps22
    go_wp2
    go_ret
    exact ⟨rfl, rfl⟩
set_option maxRecDepth 100000 in
theorem cisNone_any {cb bm : Nat} {c : Ct} (w : World) (h : CtAt w cb bm c) : Calls Try.prog 22 #[.pointer (some ⟨cb, 0, none⟩)] w fun e w' => e = .returned (.bool false) ∧ w = w' := by
  obtain ⟨g0, g1⟩ := h.cells
  have hz : (c.base == 0) = false := by have := h.base; simp; omega
  obtain ⟨A, hA⟩ : ∃ A, A = c.base := ⟨_, rfl⟩
  rw [← hA] at g0 hz
  clear h hA
  go_enter Try.func22, Try.ntmps22
  go_wp2
  go_ret
  exact ⟨rfl, rfl⟩
set_option maxHeartbeats 1000000 in
set_option maxRecDepth 100000 in
theorem lowered_any (l t now base : Int) (w : World) (hl : 0 ≤ l ∧ l ≤ 3) (ht : (Lit.int .i64 t).wf = true) (hn : (Lit.int .i64 now).wf = true) (hb : 1 ≤ base ∧ base ≤ 9223372036854775807) :
    Calls Try.prog 24 #[.agg #[.int .i64 l, .int .i64 t], .int .i64 now, .int .i64 base] w fun e w' => e = .returned (.int .i64 (lowM (l, t) now base)) ∧ Below w.heap.size w w' := by
  have ht1 := wf_i64.1 ht
  have hn1 := wf_i64.1 hn
  have HB := Lib.hid (below_alloc w (.cells #[.int .i64 l, .int .i64 t] 66))
  by_cases h1 : now ≤ t
  · have e : lowM (l, t) now base = l := if_pos h1
    rw [e]
    clear e hl ht hn hb ht1 hn1
    go_enter Try.func24, Try.ntmps24
    go_wp2
    go_ret
    exact ⟨rfl, HB.out⟩
  · have e : lowM (l, t) now base = l - min ((now - t) / base) l := if_neg h1
    rw [e]
    obtain ⟨U, hU⟩ : ∃ U, IntKind.u64.wrap now = U := ⟨_, rfl⟩
    obtain ⟨V, hV⟩ : ∃ V, IntKind.u64.wrap t = V := ⟨_, rfl⟩
    have hD : IntKind.u64.wrap (U - V) = now - t := by rw [← hU, ← hV]; simp only [IntKind.wrap_u64]; omega
    have hB : IntKind.u64.wrap base = base := by simp only [IntKind.wrap_u64]; omega
    have hL : IntKind.u64.wrap l = l := by simp only [IntKind.wrap_u64]; omega
    obtain ⟨d, hd⟩ : ∃ d, d = now - t := ⟨_, rfl⟩
    have hd0 : 0 ≤ d ∧ d ≤ 18446744073709551615 := by omega
    rw [← hd] at hD
    have hq0 : 0 ≤ d / base := Int.ediv_nonneg hd0.1 (by omega)
    have hq1 : d / base ≤ d := Int.ediv_le_self _ hd0.1
    have hT : d.tdiv base = d / base := Int.tdiv_eq_ediv_of_nonneg hd0.1
    rw [← hd]
    obtain ⟨q, hq⟩ : ∃ q, q = d / base := ⟨_, rfl⟩
    rw [← hq] at hT hq0 hq1 ⊢
    have hQ : IntKind.u64.wrap q = q := by simp only [IntKind.wrap_u64]; omega
    have hz : (base == 0) = false := by simp; omega
    have hz2 : ¬ base = 0 := by omega
    have hw0 : IntKind.i64.wrap q = q ∨ 9223372036854775807 < q := by by_cases h : q ≤ 9223372036854775807; exact .inl (IntWalk.i64_in _ (by omega)); exact .inr (by omega)
    have HQ0 := Lib.hid hq0
    have HL0 := Lib.hid hl
    clear e hl ht hn hb ht1 hn1 hq hd hd0 hq0 hq1 hw0
    go_enter Try.func24, Try.ntmps24
    by_cases hlq : l < q
    · have HLQ := Lib.hid hlq
      go_wp2
      go_ret
      refine ⟨ret_int ?_, HB.out⟩
      have h1 := HLQ.out; have h2 := HL0.out; have h3 := HQ0.out
      unfold wrap64; omega
    · have HLQ := Lib.hid hlq
      go_wp2
      go_ret
      refine ⟨ret_int ?_, HB.out⟩
      have h1 := HLQ.out; have h2 := HL0.out; have h3 := HQ0.out
      unfold wrap64; omega
end Go.Proofs.Ytahkmadapojjkaa
