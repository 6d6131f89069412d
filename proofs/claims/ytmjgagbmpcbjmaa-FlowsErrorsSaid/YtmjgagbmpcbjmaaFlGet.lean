/- Flows: Sends, Held, Failed, New, Usual. -/
import Derived.Test.YtmjgagbmpcbjmaaFlActs
namespace Go.Proofs.Ytmjgagbmpcbjmaa
open Go.RowKit

set_option maxHeartbeats 1000000 in
set_option maxRecDepth 100000 in
theorem fl_held (b : Nat) (x : Fl) (w : World) (h : FlAt w b x) :
    Calls Try.prog 15 #[.pointer (some ⟨b, 0, none⟩)] w fun e w' => e = .returned (.tuple #[.bool x.con, .bool (x.out || x.away)]) ∧ ∃ q, w' = w.drewN q := by
  have HC := Lib.hid (fl_isNone b x w h)
  have c3 := h.c3
  have c5 := h.c5
  have c6 := h.c6
  obtain ⟨t, con, since, out, away, busy, wait, failed⟩ := x
  dsimp only at c3 c5 c6 ⊢
  clear h
  cases out
  all_goals
    go_enter Try.func15, Try.ntmps15
    go_wp2_with fail
    with_reducible refine HC.out.mono ?_
    rintro e w' ⟨rfl, rfl⟩
    clear HC
    go_wp2_with fail
    go_quiet (fail)
    go_wp2
    go_ret2
    exact ⟨rfl, _, rfl⟩
set_option maxHeartbeats 1000000 in
set_option maxRecDepth 100000 in
theorem fl_held_none (v : Value) (w : World) (h : FlNone w v) :
    Calls Try.prog 15 #[v] w fun e w' => e = .returned (.tuple #[.bool false, .bool false]) ∧ w' = w := by
  have HC := Lib.hid (fl_isNone_none v w h)
  clear h
  go_enter Try.func15, Try.ntmps15
  go_wp2_with fail
  with_reducible refine HC.out.mono ?_
  rintro e w' ⟨rfl, rfl⟩
  clear HC
  go_wp2
  go_ret2
  exact ⟨rfl, rfl⟩
set_option maxHeartbeats 1000000 in
set_option maxRecDepth 100000 in
theorem fl_failed (b : Nat) (x : Fl) (w : World) (h : FlAt w b x) :
    Calls Try.prog 18 #[.pointer (some ⟨b, 0, none⟩)] w fun e w' => e = .returned (.bool x.failed) ∧ w' = w := by
  have HC := Lib.hid (fl_isNone b x w h)
  have c9 := h.c9
  clear h
  go_enter Try.func18, Try.ntmps18
  go_wp2_with fail
  with_reducible refine HC.out.mono ?_
  rintro e w' ⟨rfl, rfl⟩
  clear HC
  go_wp2
  go_ret
  exact ⟨rfl, rfl⟩
set_option maxHeartbeats 1000000 in
set_option maxRecDepth 100000 in
theorem fl_failed_none (v : Value) (w : World) (h : FlNone w v) :
    Calls Try.prog 18 #[v] w fun e w' => e = .returned (.bool false) ∧ w' = w := by
  have HC := Lib.hid (fl_isNone_none v w h)
  clear h
  go_enter Try.func18, Try.ntmps18
  go_wp2_with fail
  with_reducible refine HC.out.mono ?_
  rintro e w' ⟨rfl, rfl⟩
  clear HC
  go_wp2
  go_ret
  exact ⟨rfl, rfl⟩
/-- Whether a status is sent, and which one (0 if none). -/
def Fl.is (x : Fl) : Bool := !x.failed && (x.out || (x.con && decide (x.since = 0)))
def Fl.st (x : Fl) : Nat := if x.is then (if x.out then 4 else 5) else 0
theorem Fl.stat_eq (x : Fl) : x.stat = if x.is then x.st else 9 := by
  obtain ⟨t, con, since, out, away, busy, wait, failed⟩ := x
  unfold Fl.stat Fl.st Fl.is
  cases failed <;> cases out <;> cases con <;> simp
  split <;> rfl
set_option maxHeartbeats 1000000 in
set_option maxRecDepth 100000 in
theorem fl_sends (b : Nat) (x : Fl) (w : World) (h : FlAt w b x) :
    Calls Try.prog 21 #[.pointer (some ⟨b, 0, none⟩)] w fun e w' => e = .returned (.tuple #[.int .u8 (x.st : Int), .bool x.is]) ∧ w' = w := by
  have HC := Lib.hid (fl_check b x w h)
  have c3 := h.c3
  have c4 := h.c4
  have c5 := h.c5
  obtain ⟨t, con, since, out, away, busy, wait, failed⟩ := x
  dsimp only at c3 c4 c5
  clear h
  cases failed
  case true =>
    unfold Fl.st Fl.is
    go_enter Try.func21, Try.ntmps21
    go_wp2_with fail
    with_reducible refine HC.out.mono ?_
    rintro e w' ⟨rfl, rfl⟩
    clear HC
    go_wp2
    go_ret2
    exact ⟨rfl, rfl⟩
  case false =>
    cases out
    case true =>
      unfold Fl.st Fl.is
      go_enter Try.func21, Try.ntmps21
      go_wp2_with fail
      with_reducible refine HC.out.mono ?_
      rintro e w' ⟨rfl, rfl⟩
      clear HC
      go_wp2
      go_ret2
      exact ⟨rfl, rfl⟩
    case false =>
      cases con
      case false =>
        unfold Fl.st Fl.is
        go_enter Try.func21, Try.ntmps21
        go_wp2_with fail
        with_reducible refine HC.out.mono ?_
        rintro e w' ⟨rfl, rfl⟩
        clear HC
        go_wp2
        go_ret2
        exact ⟨rfl, rfl⟩
      case true =>
        rcases Nat.eq_zero_or_pos since with hs | hs
        · subst hs
          unfold Fl.st Fl.is
          go_enter Try.func21, Try.ntmps21
          go_wp2_with fail
          with_reducible refine HC.out.mono ?_
          rintro e w' ⟨rfl, rfl⟩
          clear HC
          go_wp2
          go_ret2
          exact ⟨rfl, rfl⟩
        · have e1 : Fl.is ⟨t, true, since, false, away, busy, wait, false⟩ = false := by
            have : ¬ since = 0 := by omega
            simp [Fl.is, this]
          have e2 : Fl.st ⟨t, true, since, false, away, busy, wait, false⟩ = 0 := by unfold Fl.st; rw [e1]; rfl
          rw [e1, e2]
          obtain ⟨S, hS⟩ : ∃ S : Int, S = (since : Int) := ⟨_, rfl⟩
          have hq : ¬ S = 0 := by omega
          have hq2 : (S == 0) = false := by simp; omega
          rw [← hS] at c4
          clear e1 e2 hS hs
          go_enter Try.func21, Try.ntmps21
          go_wp2_with fail
          with_reducible refine HC.out.mono ?_
          rintro e w' ⟨rfl, rfl⟩
          clear HC
          go_wp2
          go_ret2
          exact ⟨rfl, rfl⟩
set_option maxHeartbeats 1000000 in
set_option maxRecDepth 100000 in
theorem fl_sends_none (v : Value) (w : World) (h : FlNone w v) :
    Calls Try.prog 21 #[v] w fun e w' => e = .returned (.tuple #[.int .u8 0, .bool false]) ∧ w' = w := by
  have HC := Lib.hid (fl_check_none v w h)
  clear h
  go_enter Try.func21, Try.ntmps21
  go_wp2_with fail
  with_reducible refine HC.out.mono ?_
  rintro e w' ⟨rfl, rfl⟩
  clear HC
  go_wp2
  go_ret2
  exact ⟨rfl, rfl⟩
def okTime (v : Int) : Bool := decide (1 ≤ v ∧ v ≤ 1048576)
theorem okTime_nat (n : Nat) : okTime (n : Int) = decide (1 ≤ n ∧ n ≤ 1048576) := by unfold okTime; congr 1; apply propext; omega
theorem three_0 (t0 t1 t2 : Int) (w : World) : (Instr.index 50 (.agg #[.int .i64 t0, .int .i64 t1, .int .i64 t2]) (.int .i64 0)).run Try.prog w = .ok (.int .i64 t0) w := by kernel_rfl
theorem three_1 (t0 t1 t2 : Int) (w : World) : (Instr.index 50 (.agg #[.int .i64 t0, .int .i64 t1, .int .i64 t2]) (.int .i64 1)).run Try.prog w = .ok (.int .i64 t1) w := by kernel_rfl
theorem three_2 (t0 t1 t2 : Int) (w : World) : (Instr.index 50 (.agg #[.int .i64 t0, .int .i64 t1, .int .i64 t2]) (.int .i64 2)).run Try.prog w = .ok (.int .i64 t2) w := by kernel_rfl
set_option maxHeartbeats 1000000 in
set_option maxRecDepth 100000 in
theorem fl_areValid (t0 t1 t2 : Int) (w : World) :
    Calls Try.prog 30 #[.agg #[.int .i64 t0, .int .i64 t1, .int .i64 t2]] w fun e w' => e = .returned (.bool ([t0, t1, t2].all okTime)) ∧ w' = w.alloc (.cells #[.int .i64 t0, .int .i64 t1, .int .i64 t2] 31) := by
  obtain ⟨W, hW⟩ : ∃ W, W = w.alloc (.cells #[.int .i64 t0, .int .i64 t1, .int .i64 t2] 31) := ⟨_, rfl⟩
  rw [← hW]
  have HW := Lib.hid hW
  clear hW
  obtain ⟨B, hB⟩ : ∃ B, B = [t0, t1, t2].all okTime := ⟨_, rfl⟩
  rw [← hB]
  have HB := Lib.hid hB
  clear hB
  go_enter Try.func30, Try.ntmps30
  go_wp2_with fail
  rw [← HW.out]
  go_loopw [12] (fun i wr => ∃ k : Nat, k ≤ 3 ∧ i = .int .i64 k ∧ ([t0, t1, t2].take k).all okTime = true ∧ wr = W) (fun i _ => 3 - (intOf i).toNat)
  case atStart => exact ⟨0, Nat.zero_le _, rfl, rfl, rfl⟩
  case round =>
    obtain ⟨k, hk, rfl, hp, rfl⟩ := hrel
    have HP := Lib.hid hp
    have hkk : k = 0 ∨ k = 1 ∨ k = 2 ∨ k = 3 := by omega
    clear hk hp
    rcases hkk with rfl | rfl | rfl | rfl
    · have hix := three_0 t0 t1 t2
      by_cases h1 : 1 ≤ t0
      · by_cases h2 : t0 ≤ 1048576
        · have HQ := Lib.hid (show okTime t0 = true from decide_eq_true ⟨h1, h2⟩)
          go_wp2
          refine ⟨⟨1, by omega, by go_num, ?_, trivial⟩, by simp [intOf]⟩
          have := HP.out
          simp_all [HQ.out]
        · have HQ := Lib.hid (show okTime t0 = false from decide_eq_false (fun h => h2 h.2))
          go_wp2
          go_ret
          refine ⟨ret_bool ?_, rfl⟩
          rw [HB.out]
          simp [HQ.out]
      · have HQ := Lib.hid (show okTime t0 = false from decide_eq_false (fun h => h1 h.1))
        go_wp2
        go_ret
        refine ⟨ret_bool ?_, rfl⟩
        rw [HB.out]
        simp [HQ.out]
    · have hix := three_1 t0 t1 t2
      by_cases h1 : 1 ≤ t1
      · by_cases h2 : t1 ≤ 1048576
        · have HQ := Lib.hid (show okTime t1 = true from decide_eq_true ⟨h1, h2⟩)
          go_wp2
          refine ⟨⟨2, by omega, by go_num, ?_, trivial⟩, by simp [intOf]⟩
          have := HP.out
          simp_all [HQ.out]
        · have HQ := Lib.hid (show okTime t1 = false from decide_eq_false (fun h => h2 h.2))
          go_wp2
          go_ret
          refine ⟨ret_bool ?_, rfl⟩
          rw [HB.out]
          simp [HQ.out]
      · have HQ := Lib.hid (show okTime t1 = false from decide_eq_false (fun h => h1 h.1))
        go_wp2
        go_ret
        refine ⟨ret_bool ?_, rfl⟩
        rw [HB.out]
        simp [HQ.out]
    · have hix := three_2 t0 t1 t2
      by_cases h1 : 1 ≤ t2
      · by_cases h2 : t2 ≤ 1048576
        · have HQ := Lib.hid (show okTime t2 = true from decide_eq_true ⟨h1, h2⟩)
          go_wp2
          refine ⟨⟨3, by omega, by go_num, ?_, trivial⟩, by simp [intOf]⟩
          have := HP.out
          simp_all [HQ.out]
        · have HQ := Lib.hid (show okTime t2 = false from decide_eq_false (fun h => h2 h.2))
          go_wp2
          go_ret
          refine ⟨ret_bool ?_, rfl⟩
          rw [HB.out]
          simp [HQ.out]
      · have HQ := Lib.hid (show okTime t2 = false from decide_eq_false (fun h => h1 h.1))
        go_wp2
        go_ret
        refine ⟨ret_bool ?_, rfl⟩
        rw [HB.out]
        simp [HQ.out]
    · go_wp2
      go_ret
      refine ⟨ret_bool ?_, rfl⟩
      rw [HB.out]
      exact HP.out.symm
set_option maxHeartbeats 1000000 in
set_option maxRecDepth 100000 in
theorem fl_new (t0 t1 t2 : Int) (w : World) :
    Calls Try.prog 11 #[.agg #[.int .i64 t0, .int .i64 t1, .int .i64 t2]] w fun e w' => Below w.heap.size w w' ∧ (if [t0, t1, t2].all okTime = true then ∃ b, e = .returned (.tuple #[.pointer (some ⟨b, 0, none⟩), .int .i64 0]) ∧ w.heap.size ≤ b ∧ Own w' b 62 [.int .i64 t0, .int .i64 t1, .int .i64 t2, .bool false, .int .i64 0, .bool false, .bool false, .int .i64 0, .int .i64 0, .bool false] else e = .returned (.tuple #[.pointer none, .int .i64 1])) := by
  obtain ⟨W, hW⟩ : ∃ W, W = w.alloc (.cells #[.int .i64 t0, .int .i64 t1, .int .i64 t2] 31) := ⟨_, rfl⟩
  obtain ⟨W2, hW2⟩ : ∃ W2, W2 = W.alloc (.cells #[.int .i64 t0, .int .i64 t1, .int .i64 t2] 31) := ⟨_, rfl⟩
  have hc := fl_areValid t0 t1 t2 W
  rw [← hW2] at hc
  have o1 : Own W w.heap.size 31 [.int .i64 t0, .int .i64 t1, .int .i64 t2] := by rw [hW]; exact Blk.fresh w _ _ _ rfl
  have hs1 : W.heap.size = w.heap.size + 1 := by rw [hW]; simp
  have o2 : Own W2 w.heap.size 31 [.int .i64 t0, .int .i64 t1, .int .i64 t2] := by rw [hW2]; exact o1.below (below_alloc W _) (by omega)
  have hb : Below w.heap.size w W2 := by rw [hW2, hW]; exact (below_alloc w _).alloc (by simp) _
  have d0 := o2.cell 0 (by simp)
  have d1 := o2.cell 1 (by simp)
  have d2 := o2.cell 2 (by simp)
  simp only [List.getD_cons_succ, List.getD_cons_zero] at d0 d1 d2
  have c0 := o1.cell 0 (by simp)
  have c1 := o1.cell 1 (by simp)
  have c2 := o1.cell 2 (by simp)
  simp only [List.getD_cons_succ, List.getD_cons_zero] at c0 c1 c2
  obtain ⟨B, hB⟩ : ∃ B, B = [t0, t1, t2].all okTime := ⟨_, rfl⟩
  rw [← hB] at hc ⊢
  have HW := Lib.hid hW
  have HC := Lib.hid hc
  have HB := Lib.hid hb
  clear hW hc hb o1 o2 hs1 hB hW2
  cases B
  · simp only [Bool.false_eq_true, if_false]
    go_enter Try.func11, Try.ntmps11
    go_upto_region 1 with fail
    rw [← HW.out]
    go_wp2_with fail
    with_reducible refine HC.out.mono ?_
    rintro e w' ⟨rfl, rfl⟩
    clear HC HW c0 c1 c2 d0 d1 d2
    go_wp2
    go_ret2
    exact ⟨HB.out, rfl⟩
  · simp only [if_true]
    go_enter Try.func11, Try.ntmps11
    go_upto_region 1 with fail
    rw [← HW.out]
    go_wp2_with fail
    with_reducible refine HC.out.mono ?_
    rintro e w' ⟨rfl, rfl⟩
    clear HC HW c0 c1 c2
    go_wp2
    go_ret2
    exact ⟨HB.out.alloc HB.out.size _, w'.heap.size, rfl, HB.out.size, Blk.fresh w' _ _ _ rfl⟩
/-- New of valid times. -/
theorem fl_new_ok (t : Tm) (h : t.Fit) (w : World) :
    Calls Try.prog 11 #[.agg #[.int .i64 (t.again : Int), .int .i64 (t.most : Int), .int .i64 (t.wait : Int)]] w fun e w' => Below w.heap.size w w' ∧ ∃ b, e = .returned (.tuple #[.pointer (some ⟨b, 0, none⟩), .int .i64 0]) ∧ w.heap.size ≤ b ∧ FlAt w' b (Fl.new t) := by
  refine (fl_new _ _ _ w).mono ?_
  rintro e w' ⟨h1, h2⟩
  rw [if_pos (by
    have := h.a0; have := h.a1; have := h.m0; have := h.m1; have := h.w0; have := h.w1
    simp [okTime_nat, *])] at h2
  obtain ⟨b, rfl, hb, ho⟩ := h2
  exact ⟨h1, b, rfl, hb, ho, Fl.Fit.new h⟩
set_option maxHeartbeats 1000000 in
set_option maxRecDepth 100000 in
theorem fl_usual (w : World) :
    Calls Try.prog 29 #[] w fun e w' => e = .returned (.agg #[.int .i64 2, .int .i64 60, .int .i64 20]) ∧ Below w.heap.size w w' := by
  go_enter Try.func29, Try.ntmps29
  go_wp2
  refine bodyPost_ret (v := .agg #[.int .i64 2, .int .i64 60, .int .i64 20]) (by simp [results, Try.results29, go_sem]) rfl ?_
  exact ⟨rfl, below_alloc _ _⟩
end Go.Proofs.Ytmjgagbmpcbjmaa
