/- What a meter's methods do: isNone, count, Set, Level; NewMeter, Sheds. -/
import Derived.Test.YtahkmadapojjkaaCgAt
import Derived.Deep.RegionLaw
import Derived.BigRegion
import Derived.BigQuiet
import Derived.Deep.Cut
import Derived.StillTailTactics
namespace Go.Proofs.Ytahkmadapojjkaa
open Go.RowKit Go.Maps

set_option maxRecDepth 100000 in
theorem misNone_nul (a : Option Addr) (w : World) (h : NulM w a) : Calls Try.prog 18 #[.pointer a] w fun e w' => e = .returned (.bool true) ∧ w = w' := by
  rcases h with rfl | ⟨b, rfl, hc⟩
  · go_enter Try.func18, Try.ntmps18
    go_wp2
    go_ret
    exact ⟨rfl, rfl⟩
  · go_enter Try.func18, Try.ntmps18
    go_wp2
    go_ret
    exact ⟨rfl, rfl⟩
set_option maxRecDepth 100000 in
theorem misNone_any {mb : Nat} {m : Mt} (w : World) (h : MtAt w mb m) : Calls Try.prog 18 #[.pointer (some ⟨mb, 0, none⟩)] w fun e w' => e = .returned (.bool false) ∧ w = w' := by
  obtain ⟨g0, g1, g2, g3⟩ := h.cells
  have hz : (m.a == 0) = false := by have := h.asc; simp; omega
  obtain ⟨A, hA⟩ : ∃ A, A = m.a := ⟨_, rfl⟩
  rw [← hA] at g0 hz
  clear h hA
  go_enter Try.func18, Try.ntmps18
  go_wp2
  go_ret
  exact ⟨rfl, rfl⟩
set_option maxRecDepth 100000 in
theorem mlevel_nul (a : Option Addr) (w : World) (h : NulM w a) : Calls Try.prog 12 #[.pointer a] w fun e w' => e = .returned (.int .i64 0) ∧ w = w' := by
  have HE := Lib.hid (misNone_nul a w h)
  clear h
  go_enter Try.func12, Try.ntmps12
  go_wp2_with fail
  with_reducible refine HE.out.mono ?_
  rintro e w' ⟨rfl, rfl⟩
  go_wp2
  go_ret
  exact ⟨rfl, rfl⟩
set_option maxRecDepth 100000 in
theorem mlevel_any {mb : Nat} {m : Mt} (w : World) (h : MtAt w mb m) : Calls Try.prog 12 #[.pointer (some ⟨mb, 0, none⟩)] w fun e w' => e = .returned (.int .i64 m.lev) ∧ w = w' := by
  obtain ⟨g0, g1, g2, g3⟩ := h.cells
  have HE := Lib.hid (misNone_any w h)
  clear h
  go_enter Try.func12, Try.ntmps12
  go_wp2_with fail
  with_reducible refine HE.out.mono ?_
  rintro e w' ⟨rfl, rfl⟩
  go_wp2
  go_ret
  exact ⟨rfl, rfl⟩
set_option maxRecDepth 100000 in
theorem setA_any (x n : Int) (lb : Nat) (w : World) (h : w.cell? ⟨lb, 0, none⟩ = some (.int .i64 n)) : Calls Try.prog 20 #[.int .i64 x, .pointer (some ⟨lb, 0, none⟩)] w fun e w' => e = .returned (.bool (decide (x ≤ n))) ∧ w = w' := by
  go_enter Try.func20, Try.ntmps20
  go_wp2
  go_ret
  exact ⟨rfl, rfl⟩
set_option maxRecDepth 100000 in
theorem setB_any (x n : Int) (lb : Nat) (w : World) (h : w.cell? ⟨lb, 0, none⟩ = some (.int .i64 n)) (hx : 1 ≤ x ∧ x ≤ 9223372036854775807) : Calls Try.prog 21 #[.int .i64 x, .pointer (some ⟨lb, 0, none⟩)] w fun e w' => e = .returned (.bool (decide (x / 2 < n))) ∧ w = w' := by
  have hd : x.tdiv 2 = x / 2 := Int.tdiv_eq_ediv_of_nonneg (by omega)
  have hw : IntKind.i64.wrap (x / 2) = x / 2 := IntWalk.i64_in _ (by omega)
  obtain ⟨y, hy⟩ : ∃ y, y = x / 2 := ⟨_, rfl⟩
  rw [← hy] at hd hw ⊢
  clear hx hy
  go_enter Try.func21, Try.ntmps21
  go_wp2
  go_ret
  exact ⟨rfl, rfl⟩
set_option maxRecDepth 100000 in
theorem countA_any {mb : Nat} {m : Mt} (n : Int) (lb : Nat) (w : World) (h : MtAt w mb m) (hn : w.cell? ⟨lb, 0, none⟩ = some (.int .i64 n)) : Calls Try.prog 19 #[.pointer (some ⟨mb, 0, none⟩), .func (.func 20) #[] #[.pointer (some ⟨lb, 0, none⟩)]] w fun e w' => e = .returned (.int .i64 (rchd m n)) ∧ w = w' := by
  obtain ⟨g0, g1, g2, g3⟩ := h.cells
  have ha := h.asc
  have HA := Lib.hid (setA_any m.a n lb w hn)
  have HB := Lib.hid (setA_any m.b n lb w hn)
  have HC := Lib.hid (setA_any m.c n lb w hn)
  have hR : rchd m n = bt (decide (m.a ≤ n)) + bt (decide (m.b ≤ n)) + bt (decide (m.c ≤ n)) := rfl
  rw [hR]
  obtain ⟨x, hx⟩ : ∃ x, x = decide (m.a ≤ n) := ⟨_, rfl⟩
  obtain ⟨y, hy⟩ : ∃ x, x = decide (m.b ≤ n) := ⟨_, rfl⟩
  obtain ⟨z, hz⟩ : ∃ x, x = decide (m.c ≤ n) := ⟨_, rfl⟩
  rw [← hx, ← hy, ← hz]
  rw [← hx] at HA
  rw [← hy] at HB
  rw [← hz] at HC
  have i0 : ∀ W, (Instr.index 26 (.agg #[.int .i64 m.a, .int .i64 m.b, .int .i64 m.c]) (.int .i64 0)).run Try.prog W = .ok (.int .i64 m.a) W := fun _ => by kernel_rfl
  have i1 : ∀ W, (Instr.index 26 (.agg #[.int .i64 m.a, .int .i64 m.b, .int .i64 m.c]) (.int .i64 1)).run Try.prog W = .ok (.int .i64 m.b) W := fun _ => by kernel_rfl
  have i2 : ∀ W, (Instr.index 26 (.agg #[.int .i64 m.a, .int .i64 m.b, .int .i64 m.c]) (.int .i64 2)).run Try.prog W = .ok (.int .i64 m.c) W := fun _ => by kernel_rfl
  clear hR hx hy hz ha h hn g3
  go_enter Try.func19, Try.ntmps19
  go_wp2_with fail
  go_loop [5, 12] (fun u v => (u = .int .i64 0 ∧ v = .int .i64 0) ∨ (u = .int .i64 (bt x) ∧ v = .int .i64 1) ∨ (u = .int .i64 (bt x + bt y) ∧ v = .int .i64 2) ∨ (u = .int .i64 (bt x + bt y + bt z) ∧ v = .int .i64 3)) (fun _ v => 3 - (intOf v).toNat)
  case atStart => exact .inl ⟨rfl, rfl⟩
  case round =>
    rcases hrel with ⟨rfl, rfl⟩ | ⟨rfl, rfl⟩ | ⟨rfl, rfl⟩ | ⟨rfl, rfl⟩
    · go_wp2_with fail
      with_reducible refine HA.out.mono ?_
      rintro e w' ⟨rfl, rfl⟩
      cases x
      all_goals
        go_wp2
        exact ⟨.inr (.inl ⟨by first | rfl | exact congrArg _ (by decide +kernel), rfl⟩), by decide⟩
    · go_wp2_with fail
      with_reducible refine HB.out.mono ?_
      rintro e w' ⟨rfl, rfl⟩
      cases x <;> cases y
      all_goals
        go_wp2
        exact ⟨.inr (.inr (.inl ⟨by first | rfl | exact congrArg _ (by decide +kernel), rfl⟩)), by decide⟩
    · go_wp2_with fail
      with_reducible refine HC.out.mono ?_
      rintro e w' ⟨rfl, rfl⟩
      cases x <;> cases y <;> cases z
      all_goals
        go_wp2
        exact ⟨.inr (.inr (.inr ⟨by first | rfl | exact congrArg _ (by decide +kernel), rfl⟩)), by decide⟩
    · go_wp2
      go_ret
      exact ⟨rfl, rfl⟩
set_option maxRecDepth 100000 in
theorem countB_any {mb : Nat} {m : Mt} (n : Int) (lb : Nat) (w : World) (h : MtAt w mb m) (hn : w.cell? ⟨lb, 0, none⟩ = some (.int .i64 n)) : Calls Try.prog 19 #[.pointer (some ⟨mb, 0, none⟩), .func (.func 21) #[] #[.pointer (some ⟨lb, 0, none⟩)]] w fun e w' => e = .returned (.int .i64 (kept m n)) ∧ w = w' := by
  obtain ⟨g0, g1, g2, g3⟩ := h.cells
  have ha := h.asc
  have HA := Lib.hid (setB_any m.a n lb w hn (by omega))
  have HB := Lib.hid (setB_any m.b n lb w hn (by omega))
  have HC := Lib.hid (setB_any m.c n lb w hn (by omega))
  have hR : kept m n = bt (decide (m.a / 2 < n)) + bt (decide (m.b / 2 < n)) + bt (decide (m.c / 2 < n)) := rfl
  rw [hR]
  obtain ⟨x, hx⟩ : ∃ x, x = decide (m.a / 2 < n) := ⟨_, rfl⟩
  obtain ⟨y, hy⟩ : ∃ x, x = decide (m.b / 2 < n) := ⟨_, rfl⟩
  obtain ⟨z, hz⟩ : ∃ x, x = decide (m.c / 2 < n) := ⟨_, rfl⟩
  rw [← hx, ← hy, ← hz]
  rw [← hx] at HA
  rw [← hy] at HB
  rw [← hz] at HC
  have i0 : ∀ W, (Instr.index 26 (.agg #[.int .i64 m.a, .int .i64 m.b, .int .i64 m.c]) (.int .i64 0)).run Try.prog W = .ok (.int .i64 m.a) W := fun _ => by kernel_rfl
  have i1 : ∀ W, (Instr.index 26 (.agg #[.int .i64 m.a, .int .i64 m.b, .int .i64 m.c]) (.int .i64 1)).run Try.prog W = .ok (.int .i64 m.b) W := fun _ => by kernel_rfl
  have i2 : ∀ W, (Instr.index 26 (.agg #[.int .i64 m.a, .int .i64 m.b, .int .i64 m.c]) (.int .i64 2)).run Try.prog W = .ok (.int .i64 m.c) W := fun _ => by kernel_rfl
  clear hR hx hy hz ha h hn g3
  go_enter Try.func19, Try.ntmps19
  go_wp2_with fail
  go_loop [5, 12] (fun u v => (u = .int .i64 0 ∧ v = .int .i64 0) ∨ (u = .int .i64 (bt x) ∧ v = .int .i64 1) ∨ (u = .int .i64 (bt x + bt y) ∧ v = .int .i64 2) ∨ (u = .int .i64 (bt x + bt y + bt z) ∧ v = .int .i64 3)) (fun _ v => 3 - (intOf v).toNat)
  case atStart => exact .inl ⟨rfl, rfl⟩
  case round =>
    rcases hrel with ⟨rfl, rfl⟩ | ⟨rfl, rfl⟩ | ⟨rfl, rfl⟩ | ⟨rfl, rfl⟩
    · go_wp2_with fail
      with_reducible refine HA.out.mono ?_
      rintro e w' ⟨rfl, rfl⟩
      cases x
      all_goals
        go_wp2
        exact ⟨.inr (.inl ⟨by first | rfl | exact congrArg _ (by decide +kernel), rfl⟩), by decide⟩
    · go_wp2_with fail
      with_reducible refine HB.out.mono ?_
      rintro e w' ⟨rfl, rfl⟩
      cases x <;> cases y
      all_goals
        go_wp2
        exact ⟨.inr (.inr (.inl ⟨by first | rfl | exact congrArg _ (by decide +kernel), rfl⟩)), by decide⟩
    · go_wp2_with fail
      with_reducible refine HC.out.mono ?_
      rintro e w' ⟨rfl, rfl⟩
      cases x <;> cases y <;> cases z
      all_goals
        go_wp2
        exact ⟨.inr (.inr (.inr ⟨by first | rfl | exact congrArg _ (by decide +kernel), rfl⟩)), by decide⟩
    · go_wp2
      go_ret
      exact ⟨rfl, rfl⟩
/-- Set: the level, whether it changed. -/
def SetOut (mb : Nat) (m : Mt) (n : Int) (w : World) (e : Ending) (w' : World) : Prop :=
  e = .returned (.tuple #[.int .i64 (m.next n), .bool (m.next n != m.lev)]) ∧ MtAt w' mb (m.set n) ∧ Exc (fun k => k = mb) w w'
set_option maxHeartbeats 1000000 in
set_option maxRecDepth 100000 in
theorem mset_nul (a : Option Addr) (n : Int) (w : World) (h : NulM w a) : Calls Try.prog 13 #[.pointer a, .int .i64 n] w fun e w' => e = .returned (.tuple #[.int .i64 0, .bool false]) ∧ Below w.heap.size w w' := by
  have HB := Lib.hid (below_alloc w (.cells #[.int .i64 n] 3))
  have HE := Lib.hid (misNone_nul a _ (h.later HB.out))
  clear h
  go_enter Try.func13, Try.ntmps13
  go_wp2_with fail
  refine HE.out.mono ?_
  rintro e w' ⟨rfl, rfl⟩
  go_wp2
  go_ret2
  exact ⟨rfl, HB.out⟩
set_option maxHeartbeats 1000000 in
set_option maxRecDepth 100000 in
theorem mset_any {mb : Nat} {m : Mt} (n : Int) (w : World) (h : MtAt w mb m) : Calls Try.prog 13 #[.pointer (some ⟨mb, 0, none⟩), .int .i64 n] w (SetOut mb m n w) := by
  have hb := below_alloc w (.cells #[.int .i64 n] 3)
  have ho : Own (w.alloc (.cells #[.int .i64 n] 3)) w.heap.size 3 [.int .i64 n] := heap_alloc_new w _
  have hm := h.below hb
  have hx : Exc (fun k => k = mb) w (w.alloc (.cells #[.int .i64 n] 3)) := Exc.of_below hb
  have hc := ho.cell 0 (by simp)
  simp only [List.getD_cons_zero] at hc
  have HX := Lib.hid hx
  have HM := Lib.hid hm
  have HN := Lib.hid (misNone_any _ hm)
  have HA := Lib.hid (countA_any n w.heap.size _ hm hc)
  have HB := Lib.hid (countB_any n w.heap.size _ hm hc)
  have HL := Lib.hid (next_bounds m n h.lev)
  have HR := Lib.hid (rchd_bounds m n)
  have HK := Lib.hid (kept_bounds m n)
  clear hb ho hm hx h hc
  go_enter Try.func13, Try.ntmps13
  go_wp2_with fail
  generalize w.alloc (.cells #[.int .i64 n] 3) = w1 at *
  refine HN.out.mono ?_
  rintro e w' ⟨rfl, rfl⟩
  go_wp2_with fail
  refine HA.out.mono ?_
  rintro e w' ⟨rfl, rfl⟩
  go_wp2_with fail
  refine HB.out.mono ?_
  rintro e w' ⟨rfl, rfl⟩
  obtain ⟨g0, g1, g2, g3⟩ := HM.out.cells
  have f3 := HM.out.own.frozen 3
  have hE : (if rchd m n < if kept m n < m.lev then kept m n else m.lev then if kept m n < m.lev then kept m n else m.lev else rchd m n) = m.next n := by
    unfold Mt.next
    split <;> split <;> omega
  have HE := Lib.hid hE
  clear hE
  obtain ⟨l, hl⟩ : ∃ r, r = m.lev := ⟨_, rfl⟩
  rw [← hl] at g3 HE
  have HLv := Lib.hid hl
  clear hl
  go_upto_region 7 with fail
  rw [HE.out]
  have HM1 : Hid (MtAt (w1.setCell ⟨mb, 3, none⟩ (.int .i64 (m.next n))) mb (m.set n)) := Lib.hid ⟨HM.out.own.set 3 (.int .i64 (m.next n)), HM.out.asc, HL.out⟩
  have HX1 := Lib.hid (HX.out.setCell ⟨mb, 3, none⟩ (.inl rfl) (.int .i64 (m.next n)))
  have hM1 := HM1.out
  have hX1 := HX1.out
  generalize w1.setCell ⟨mb, 3, none⟩ (.int .i64 (m.next n)) = w2 at hM1 hX1 ⊢
  have HM2 := Lib.hid hM1
  have HX2 := Lib.hid hX1
  clear hM1 hX1 HM1 HX1 g0 g1 g2 g3 f3 HE
  obtain ⟨g0, g1, g2, g3⟩ := HM2.out.cells
  have e3 : (m.set n).lev = m.next n := rfl
  rw [e3] at g3
  obtain ⟨q, hq⟩ : ∃ q, q = m.next n := ⟨_, rfl⟩
  rw [← hq] at g3 ⊢
  have HQ := Lib.hid hq
  clear hq e3
  go_wp2_with go_quiet (fail)
  all_goals
    go_ret2
    refine ⟨?_, HM2.out.below (below_drewN (Below.refl _ w2) _), HX2.out.trans (Exc.of_below (S := fun k => k = mb) (below_drewN (Below.refl _ w2) _)) (fun _ _ h => h)⟩
    rw [← HQ.out, ← HLv.out]
    rfl
end Go.Proofs.Ytahkmadapojjkaa
