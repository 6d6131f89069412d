/- Alignments: Phase, Left, Provings, Sends, Usual, New. -/
import Derived.Test.YtgfiikbecapodaaAlTick
namespace Go.Proofs.Ytgfiikbecapodaa
open Go.RowKit

set_option maxHeartbeats 1000000 in
set_option maxRecDepth 100000 in
theorem phase_any (b g : Nat) (x : Al) (w : World) (h : AlAt w b g x) :
    Calls Try.prog 14 #[.pointer (some ⟨b, 0, none⟩)] w fun e w' => e = .returned (.int .u8 (x.ph : Int)) ∧ w' = w := by
  have HN := Lib.hid (isNone_any b g x w h)
  have c := h.ph
  clear h
  go_enter Try.func14, Try.ntmps14
  go_wp2_with fail
  with_reducible refine HN.out.mono ?_
  rintro e w' ⟨rfl, rfl⟩
  clear HN
  go_wp2
  go_ret
  exact ⟨rfl, rfl⟩
set_option maxHeartbeats 1000000 in
set_option maxRecDepth 100000 in
theorem left_any (b g : Nat) (x : Al) (w : World) (h : AlAt w b g x) :
    Calls Try.prog 15 #[.pointer (some ⟨b, 0, none⟩)] w fun e w' => e = .returned (.int .i64 (x.left : Int)) ∧ w' = w := by
  have HN := Lib.hid (isNone_any b g x w h)
  have c := h.left
  clear h
  go_enter Try.func15, Try.ntmps15
  go_wp2_with fail
  with_reducible refine HN.out.mono ?_
  rintro e w' ⟨rfl, rfl⟩
  clear HN
  go_wp2
  go_ret
  exact ⟨rfl, rfl⟩
set_option maxHeartbeats 1000000 in
set_option maxRecDepth 100000 in
theorem provings_any (b g : Nat) (x : Al) (w : World) (h : AlAt w b g x) :
    Calls Try.prog 16 #[.pointer (some ⟨b, 0, none⟩)] w fun e w' => e = .returned (.int .i64 (x.prov : Int)) ∧ w' = w := by
  have HN := Lib.hid (isNone_any b g x w h)
  have c := h.prov
  clear h
  go_enter Try.func16, Try.ntmps16
  go_wp2_with fail
  with_reducible refine HN.out.mono ?_
  rintro e w' ⟨rfl, rfl⟩
  clear HN
  go_wp2
  go_ret
  exact ⟨rfl, rfl⟩
/-- The status that is sent, or 0; whether one is. -/
def Al.sent (x : Al) : Nat := x.sends.getD 0
def Al.sents (x : Al) : Bool := x.sends.isSome
set_option maxHeartbeats 1000000 in
set_option maxRecDepth 100000 in
theorem sends_any (b g : Nat) (x : Al) (w : World) (h : AlAt w b g x) :
    Calls Try.prog 26 #[.pointer (some ⟨b, 0, none⟩)] w fun e w' => e = .returned (.tuple #[.int .u8 (x.sent : Int), .bool x.sents]) ∧ w' = w := by
  have hc := phase_any b g x w h
  have c9 := h.ow
  have h5 := h.fit.ph
  have hs : ∀ p o, p = x.ph → o = x.own → x.sends = if p = 1 then some 0 else if p = 2 ∨ p = 3 then some (if o then 2 else 1) else if p = 5 then some 3 else none := by rintro p o rfl rfl; rfl
  obtain ⟨p, hp⟩ : ∃ p, p = x.ph := ⟨_, rfl⟩
  obtain ⟨o, ho⟩ : ∃ o, o = x.own := ⟨_, rfl⟩
  have hs1 := hs p o hp ho
  rw [← hp] at hc h5
  rw [← ho] at c9
  have h6 : p = 0 ∨ p = 1 ∨ p = 2 ∨ p = 3 ∨ p = 4 ∨ p = 5 := by omega
  clear h h5 hs hp ho
  unfold Al.sent Al.sents
  rcases h6 with rfl | rfl | rfl | rfl | rfl | rfl <;> cases o
  all_goals
    have HC := Lib.hid hc
    rw [hs1]
    clear hc hs1
    go_enter Try.func26, Try.ntmps26
    go_wp2_with fail
    with_reducible refine HC.out.mono ?_
    rintro e w' ⟨rfl, rfl⟩
    clear HC
    go_wp2
    go_ret2
    exact ⟨rfl, rfl⟩
theorem seven_0 (t0 t1 t2 t3 t4 t5 t6 : Int) (w : World) : (Instr.index 67 (.agg #[.int .i64 t0, .int .i64 t1, .int .i64 t2, .int .i64 t3, .int .i64 t4, .int .i64 t5, .int .i64 t6]) (.int .i64 0)).run Try.prog w = .ok (.int .i64 t0) w := by kernel_rfl
theorem seven_1 (t0 t1 t2 t3 t4 t5 t6 : Int) (w : World) : (Instr.index 67 (.agg #[.int .i64 t0, .int .i64 t1, .int .i64 t2, .int .i64 t3, .int .i64 t4, .int .i64 t5, .int .i64 t6]) (.int .i64 1)).run Try.prog w = .ok (.int .i64 t1) w := by kernel_rfl
theorem seven_2 (t0 t1 t2 t3 t4 t5 t6 : Int) (w : World) : (Instr.index 67 (.agg #[.int .i64 t0, .int .i64 t1, .int .i64 t2, .int .i64 t3, .int .i64 t4, .int .i64 t5, .int .i64 t6]) (.int .i64 2)).run Try.prog w = .ok (.int .i64 t2) w := by kernel_rfl
theorem seven_3 (t0 t1 t2 t3 t4 t5 t6 : Int) (w : World) : (Instr.index 67 (.agg #[.int .i64 t0, .int .i64 t1, .int .i64 t2, .int .i64 t3, .int .i64 t4, .int .i64 t5, .int .i64 t6]) (.int .i64 3)).run Try.prog w = .ok (.int .i64 t3) w := by kernel_rfl
theorem seven_4 (t0 t1 t2 t3 t4 t5 t6 : Int) (w : World) : (Instr.index 67 (.agg #[.int .i64 t0, .int .i64 t1, .int .i64 t2, .int .i64 t3, .int .i64 t4, .int .i64 t5, .int .i64 t6]) (.int .i64 4)).run Try.prog w = .ok (.int .i64 t4) w := by kernel_rfl
theorem seven_5 (t0 t1 t2 t3 t4 t5 t6 : Int) (w : World) : (Instr.index 67 (.agg #[.int .i64 t0, .int .i64 t1, .int .i64 t2, .int .i64 t3, .int .i64 t4, .int .i64 t5, .int .i64 t6]) (.int .i64 5)).run Try.prog w = .ok (.int .i64 t5) w := by kernel_rfl
theorem seven_6 (t0 t1 t2 t3 t4 t5 t6 : Int) (w : World) : (Instr.index 67 (.agg #[.int .i64 t0, .int .i64 t1, .int .i64 t2, .int .i64 t3, .int .i64 t4, .int .i64 t5, .int .i64 t6]) (.int .i64 6)).run Try.prog w = .ok (.int .i64 t6) w := by kernel_rfl
set_option maxHeartbeats 4000000 in
set_option maxRecDepth 100000 in
theorem areValid_any (t0 t1 t2 t3 t4 t5 t6 : Int) (w : World) :
    Calls Try.prog 27 #[.agg #[.int .i64 t0, .int .i64 t1, .int .i64 t2, .int .i64 t3, .int .i64 t4, .int .i64 t5, .int .i64 t6]] w fun e w' => e = .returned (.bool ([t0, t1, t2, t3, t4, t5, t6].all okArg)) ∧ w' = w.alloc (.cells #[.int .i64 t0, .int .i64 t1, .int .i64 t2, .int .i64 t3, .int .i64 t4, .int .i64 t5, .int .i64 t6] 31) := by
  obtain ⟨W, hW⟩ : ∃ W, W = w.alloc (.cells #[.int .i64 t0, .int .i64 t1, .int .i64 t2, .int .i64 t3, .int .i64 t4, .int .i64 t5, .int .i64 t6] 31) := ⟨_, rfl⟩
  rw [← hW]
  have HW := Lib.hid hW
  clear hW
  obtain ⟨B, hB⟩ : ∃ B, B = [t0, t1, t2, t3, t4, t5, t6].all okArg := ⟨_, rfl⟩
  rw [← hB]
  have HB := Lib.hid hB
  clear hB
  go_enter Try.func27, Try.ntmps27
  go_wp2_with fail
  rw [← HW.out]
  go_loopw [20] (fun i wr => ∃ k : Nat, k ≤ 7 ∧ i = .int .i64 k ∧ ([t0, t1, t2, t3, t4, t5, t6].take k).all okArg = true ∧ wr = W) (fun i _ => 7 - (intOf i).toNat)
  case atStart => exact ⟨0, Nat.zero_le _, rfl, rfl, rfl⟩
  case round =>
    obtain ⟨k, hk, rfl, hp, rfl⟩ := hrel
    have HP := Lib.hid hp
    have hkk : k = 0 ∨ k = 1 ∨ k = 2 ∨ k = 3 ∨ k = 4 ∨ k = 5 ∨ k = 6 ∨ k = 7 := by omega
    clear hk hp
    rcases hkk with rfl | rfl | rfl | rfl | rfl | rfl | rfl | rfl
    · have hix := seven_0 t0 t1 t2 t3 t4 t5 t6
      by_cases h1 : 1 ≤ t0
      · by_cases h2 : t0 ≤ 1048576
        · have HQ := Lib.hid (show okArg t0 = true from decide_eq_true ⟨h1, h2⟩)
          go_wp2
          refine ⟨⟨1, by omega, by go_num, ?_, trivial⟩, by simp [intOf]⟩
          have := HP.out
          simp_all [HQ.out]
        · have HQ := Lib.hid (show okArg t0 = false from decide_eq_false (fun h => h2 h.2))
          go_wp2
          go_ret
          refine ⟨ret_bool ?_, rfl⟩
          rw [HB.out]
          simp [HQ.out]
      · have HQ := Lib.hid (show okArg t0 = false from decide_eq_false (fun h => h1 h.1))
        go_wp2
        go_ret
        refine ⟨ret_bool ?_, rfl⟩
        rw [HB.out]
        simp [HQ.out]
    · have hix := seven_1 t0 t1 t2 t3 t4 t5 t6
      by_cases h1 : 1 ≤ t1
      · by_cases h2 : t1 ≤ 1048576
        · have HQ := Lib.hid (show okArg t1 = true from decide_eq_true ⟨h1, h2⟩)
          go_wp2
          refine ⟨⟨2, by omega, by go_num, ?_, trivial⟩, by simp [intOf]⟩
          have := HP.out
          simp_all [HQ.out]
        · have HQ := Lib.hid (show okArg t1 = false from decide_eq_false (fun h => h2 h.2))
          go_wp2
          go_ret
          refine ⟨ret_bool ?_, rfl⟩
          rw [HB.out]
          simp [HQ.out]
      · have HQ := Lib.hid (show okArg t1 = false from decide_eq_false (fun h => h1 h.1))
        go_wp2
        go_ret
        refine ⟨ret_bool ?_, rfl⟩
        rw [HB.out]
        simp [HQ.out]
    · have hix := seven_2 t0 t1 t2 t3 t4 t5 t6
      by_cases h1 : 1 ≤ t2
      · by_cases h2 : t2 ≤ 1048576
        · have HQ := Lib.hid (show okArg t2 = true from decide_eq_true ⟨h1, h2⟩)
          go_wp2
          refine ⟨⟨3, by omega, by go_num, ?_, trivial⟩, by simp [intOf]⟩
          have := HP.out
          simp_all [HQ.out]
        · have HQ := Lib.hid (show okArg t2 = false from decide_eq_false (fun h => h2 h.2))
          go_wp2
          go_ret
          refine ⟨ret_bool ?_, rfl⟩
          rw [HB.out]
          simp [HQ.out]
      · have HQ := Lib.hid (show okArg t2 = false from decide_eq_false (fun h => h1 h.1))
        go_wp2
        go_ret
        refine ⟨ret_bool ?_, rfl⟩
        rw [HB.out]
        simp [HQ.out]
    · have hix := seven_3 t0 t1 t2 t3 t4 t5 t6
      by_cases h1 : 1 ≤ t3
      · by_cases h2 : t3 ≤ 1048576
        · have HQ := Lib.hid (show okArg t3 = true from decide_eq_true ⟨h1, h2⟩)
          go_wp2
          refine ⟨⟨4, by omega, by go_num, ?_, trivial⟩, by simp [intOf]⟩
          have := HP.out
          simp_all [HQ.out]
        · have HQ := Lib.hid (show okArg t3 = false from decide_eq_false (fun h => h2 h.2))
          go_wp2
          go_ret
          refine ⟨ret_bool ?_, rfl⟩
          rw [HB.out]
          simp [HQ.out]
      · have HQ := Lib.hid (show okArg t3 = false from decide_eq_false (fun h => h1 h.1))
        go_wp2
        go_ret
        refine ⟨ret_bool ?_, rfl⟩
        rw [HB.out]
        simp [HQ.out]
    · have hix := seven_4 t0 t1 t2 t3 t4 t5 t6
      by_cases h1 : 1 ≤ t4
      · by_cases h2 : t4 ≤ 1048576
        · have HQ := Lib.hid (show okArg t4 = true from decide_eq_true ⟨h1, h2⟩)
          go_wp2
          refine ⟨⟨5, by omega, by go_num, ?_, trivial⟩, by simp [intOf]⟩
          have := HP.out
          simp_all [HQ.out]
        · have HQ := Lib.hid (show okArg t4 = false from decide_eq_false (fun h => h2 h.2))
          go_wp2
          go_ret
          refine ⟨ret_bool ?_, rfl⟩
          rw [HB.out]
          simp [HQ.out]
      · have HQ := Lib.hid (show okArg t4 = false from decide_eq_false (fun h => h1 h.1))
        go_wp2
        go_ret
        refine ⟨ret_bool ?_, rfl⟩
        rw [HB.out]
        simp [HQ.out]
    · have hix := seven_5 t0 t1 t2 t3 t4 t5 t6
      by_cases h1 : 1 ≤ t5
      · by_cases h2 : t5 ≤ 1048576
        · have HQ := Lib.hid (show okArg t5 = true from decide_eq_true ⟨h1, h2⟩)
          go_wp2
          refine ⟨⟨6, by omega, by go_num, ?_, trivial⟩, by simp [intOf]⟩
          have := HP.out
          simp_all [HQ.out]
        · have HQ := Lib.hid (show okArg t5 = false from decide_eq_false (fun h => h2 h.2))
          go_wp2
          go_ret
          refine ⟨ret_bool ?_, rfl⟩
          rw [HB.out]
          simp [HQ.out]
      · have HQ := Lib.hid (show okArg t5 = false from decide_eq_false (fun h => h1 h.1))
        go_wp2
        go_ret
        refine ⟨ret_bool ?_, rfl⟩
        rw [HB.out]
        simp [HQ.out]
    · have hix := seven_6 t0 t1 t2 t3 t4 t5 t6
      by_cases h1 : 1 ≤ t6
      · by_cases h2 : t6 ≤ 1048576
        · have HQ := Lib.hid (show okArg t6 = true from decide_eq_true ⟨h1, h2⟩)
          go_wp2
          refine ⟨⟨7, by omega, by go_num, ?_, trivial⟩, by simp [intOf]⟩
          have := HP.out
          simp_all [HQ.out]
        · have HQ := Lib.hid (show okArg t6 = false from decide_eq_false (fun h => h2 h.2))
          go_wp2
          go_ret
          refine ⟨ret_bool ?_, rfl⟩
          rw [HB.out]
          simp [HQ.out]
      · have HQ := Lib.hid (show okArg t6 = false from decide_eq_false (fun h => h1 h.1))
        go_wp2
        go_ret
        refine ⟨ret_bool ?_, rfl⟩
        rw [HB.out]
        simp [HQ.out]
    · go_wp2
      go_ret
      refine ⟨ret_bool ?_, rfl⟩
      rw [HB.out]
      exact HP.out.symm
set_option maxHeartbeats 1000000 in
set_option maxRecDepth 100000 in
theorem new_any (t0 t1 t2 t3 t4 t5 t6 : Int) (w : World) :
    Calls Try.prog 10 #[.agg #[.int .i64 t0, .int .i64 t1, .int .i64 t2, .int .i64 t3, .int .i64 t4, .int .i64 t5, .int .i64 t6]] w fun e w' => Below w.heap.size w w' ∧ (if [t0, t1, t2, t3, t4, t5, t6].all okArg = true then ∃ b, e = .returned (.tuple #[.pointer (some ⟨b, 0, none⟩), .int .i64 0]) ∧ w.heap.size ≤ b ∧ Own w' b 58 [.int .i64 t0, .int .i64 t1, .int .i64 t2, .int .i64 t3, .int .i64 t4, .int .i64 t5, .int .i64 t6, .int .u8 0, .int .i64 0, .bool false, .bool false, .int .i64 0, .nilIface] else e = .returned (.tuple #[.pointer none, .int .i64 1])) := by
  obtain ⟨W, hW⟩ : ∃ W, W = w.alloc (.cells #[.int .i64 t0, .int .i64 t1, .int .i64 t2, .int .i64 t3, .int .i64 t4, .int .i64 t5, .int .i64 t6] 31) := ⟨_, rfl⟩
  obtain ⟨W2, hW2⟩ : ∃ W2, W2 = W.alloc (.cells #[.int .i64 t0, .int .i64 t1, .int .i64 t2, .int .i64 t3, .int .i64 t4, .int .i64 t5, .int .i64 t6] 31) := ⟨_, rfl⟩
  have hc := areValid_any t0 t1 t2 t3 t4 t5 t6 W
  rw [← hW2] at hc
  have o1 : Own W w.heap.size 31 [.int .i64 t0, .int .i64 t1, .int .i64 t2, .int .i64 t3, .int .i64 t4, .int .i64 t5, .int .i64 t6] := by rw [hW]; exact own_new w _ _ _ rfl
  have hs1 : W.heap.size = w.heap.size + 1 := by rw [hW]; simp
  have o2 : Own W2 w.heap.size 31 [.int .i64 t0, .int .i64 t1, .int .i64 t2, .int .i64 t3, .int .i64 t4, .int .i64 t5, .int .i64 t6] := by rw [hW2]; exact o1.below (below_alloc W _) (by omega)
  have hb : Below w.heap.size w W2 := by rw [hW2, hW]; exact (below_alloc w _).alloc (by simp) _
  have d0 := o2.cell 0 (by simp)
  have d1 := o2.cell 1 (by simp)
  have d2 := o2.cell 2 (by simp)
  have d3 := o2.cell 3 (by simp)
  have d4 := o2.cell 4 (by simp)
  have d5 := o2.cell 5 (by simp)
  have d6 := o2.cell 6 (by simp)
  simp only [List.getD_cons_succ, List.getD_cons_zero] at d0 d1 d2 d3 d4 d5 d6
  have c0 := o1.cell 0 (by simp)
  have c1 := o1.cell 1 (by simp)
  have c2 := o1.cell 2 (by simp)
  have c3 := o1.cell 3 (by simp)
  have c4 := o1.cell 4 (by simp)
  have c5 := o1.cell 5 (by simp)
  have c6 := o1.cell 6 (by simp)
  simp only [List.getD_cons_succ, List.getD_cons_zero] at c0 c1 c2 c3 c4 c5 c6
  obtain ⟨B, hB⟩ : ∃ B, B = [t0, t1, t2, t3, t4, t5, t6].all okArg := ⟨_, rfl⟩
  rw [← hB] at hc ⊢
  have HW := Lib.hid hW
  have HC := Lib.hid hc
  have HB := Lib.hid hb
  clear hW hc hb o1 o2 hs1 hB hW2
  cases B
  · simp only [Bool.false_eq_true, if_false]
    go_enter Try.func10, Try.ntmps10
    go_upto_region 1 with fail
    rw [← HW.out]
    go_wp2_with fail
    with_reducible refine HC.out.mono ?_
    rintro e w' ⟨rfl, rfl⟩
    clear HC HW c0 c1 c2 c3 c4 c5 c6 d0 d1 d2 d3 d4 d5 d6
    go_wp2
    go_ret2
    exact ⟨HB.out, rfl⟩
  · simp only [if_true]
    go_enter Try.func10, Try.ntmps10
    go_upto_region 1 with fail
    rw [← HW.out]
    go_wp2_with fail
    with_reducible refine HC.out.mono ?_
    rintro e w' ⟨rfl, rfl⟩
    clear HC HW c0 c1 c2 c3 c4 c5 c6
    go_wp2
    go_ret2
    exact ⟨HB.out.alloc HB.out.size _, w'.heap.size, rfl, HB.out.size, own_new w' _ _ _ rfl⟩
/-- New of valid times. -/
theorem new_ok (t : Ti) (h : t.Fit) (w : World) :
    Calls Try.prog 10 #[.agg #[int t.seek, int t.hold, int t.normal, int t.emer, int t.few, int t.fewer, int t.most]] w fun e w' => Below w.heap.size w w' ∧ ∃ b, e = .returned (.tuple #[.pointer (some ⟨b, 0, none⟩), .int .i64 0]) ∧ w.heap.size ≤ b ∧ AlAt w' b b (Al.new t) := by
  refine (new_any _ _ _ _ _ _ _ w).mono ?_
  rintro e w' ⟨h1, h2⟩
  rw [if_pos (by
    have := h.s0; have := h.s1; have := h.h0; have := h.h1; have := h.n0; have := h.n1; have := h.e0; have := h.e1
    have := h.f0; have := h.f1; have := h.g0; have := h.g1; have := h.m0; have := h.m1
    simp [okArg_nat, *])] at h2
  obtain ⟨b, rfl, hb, ho⟩ := h2
  exact ⟨h1, b, rfl, hb, ⟨.nilIface, ho, fun e => absurd e (by show 0 ≠ 3; decide)⟩, fun e => absurd e (by show 0 ≠ 3; decide), Al.Fit.new h⟩
set_option maxHeartbeats 1000000 in
set_option maxRecDepth 100000 in
theorem usual_any (w : World) :
    Calls Try.prog 25 #[] w fun e w' => e = .returned (.agg #[.int .i64 120, .int .i64 30, .int .i64 80, .int .i64 6, .int .i64 4, .int .i64 1, .int .i64 5]) ∧ Below w.heap.size w w' := by
  go_enter Try.func25, Try.ntmps25
  go_wp2
  refine bodyPost_ret (v := .agg #[.int .i64 120, .int .i64 30, .int .i64 80, .int .i64 6, .int .i64 4, .int .i64 1, .int .i64 5]) (by simp [results, Try.results25, go_sem]) rfl ?_
  exact ⟨rfl, below_alloc _ _⟩
end Go.Proofs.Ytgfiikbecapodaa
