/- Statements of layer 10: FlowsLevel. -/
import Derived.Test.YtmjgagbmpcbjmaaFlValid
namespace Go.Proofs.Ytmjgagbmpcbjmaa
open Go.RowKit

theorem level_yes (b0 b1 b2 e0 e1 e2 last n : Int) (w : World) (h : okM b0 b1 b2 e0 e1 e2 = true ∧ 0 ≤ last ∧ last ≤ 3 ∧ 0 ≤ n) :
    Calls Try.prog 25 #[.agg #[.int .i64 b0, .int .i64 b1, .int .i64 b2, .int .i64 e0, .int .i64 e1, .int .i64 e2], .int .i64 last, .int .i64 n] w fun e w' => e = .returned (.tuple #[.int .i64 (nxL b0 b1 b2 e0 e1 e2 last n), .int .i64 0]) ∧ Below w.heap.size w w' := by
  refine (fl_level b0 b1 b2 e0 e1 e2 last n w).mono ?_
  rintro e w' ⟨rfl, hb⟩
  rw [if_pos h]
  exact ⟨rfl, hb⟩
theorem level_no (b0 b1 b2 e0 e1 e2 last n : Int) (w : World) (h : ¬ (okM b0 b1 b2 e0 e1 e2 = true ∧ 0 ≤ last ∧ last ≤ 3 ∧ 0 ≤ n)) :
    Calls Try.prog 25 #[.agg #[.int .i64 b0, .int .i64 b1, .int .i64 b2, .int .i64 e0, .int .i64 e1, .int .i64 e2], .int .i64 last, .int .i64 n] w fun e w' => e = .returned (.tuple #[.int .i64 0, .int .i64 1]) ∧ Below w.heap.size w w' := by
  refine (fl_level b0 b1 b2 e0 e1 e2 last n w).mono ?_
  rintro e w' ⟨rfl, hb⟩
  rw [if_neg h]
  exact ⟨rfl, hb⟩
theorem valid_is {b0 b1 b2 e0 e1 e2 : Int} {B : Bool} (h : okM b0 b1 b2 e0 e1 e2 = B) (w : World) :
    Calls Try.prog 26 #[.agg #[.int .i64 b0, .int .i64 b1, .int .i64 b2, .int .i64 e0, .int .i64 e1, .int .i64 e2]] w fun e w' => e = .returned (.bool B) ∧ Below w.heap.size w w' := by
  rw [← h]; exact valid_any b0 b1 b2 e0 e1 e2 w
set_option maxHeartbeats 4000000 in
set_option maxRecDepth 100000 in
theorem level_any (b0 b1 b2 e0 e1 e2 last n : Int) (w : World) :
    Calls Try.prog 7 #[.agg #[.int .i64 b0, .int .i64 b1, .int .i64 b2, .int .i64 e0, .int .i64 e1, .int .i64 e2], .int .i64 last, .int .i64 n] w fun e w' => e = .returned (.bool true) ∧ Below w.heap.size w w' := by
  obtain ⟨W, hW⟩ : ∃ W, W = w.alloc (.cells #[.int .i64 b0, .int .i64 b1, .int .i64 b2, .int .i64 e0, .int .i64 e1, .int .i64 e2] 52) := ⟨_, rfl⟩
  have o1 : Own W w.heap.size 52 [.int .i64 b0, .int .i64 b1, .int .i64 b2, .int .i64 e0, .int .i64 e1, .int .i64 e2] := by rw [hW]; exact Blk.fresh w _ _ _ rfl
  have hbl : Below w.heap.size w W := by rw [hW]; exact below_alloc w _
  have c0 := o1.cell 0 (by simp)
  have c1 := o1.cell 1 (by simp)
  have c2 := o1.cell 2 (by simp)
  have c3 := o1.cell 3 (by simp)
  have c4 := o1.cell 4 (by simp)
  have c5 := o1.cell 5 (by simp)
  simp only [List.getD_cons_succ, List.getD_cons_zero] at c0 c1 c2 c3 c4 c5
  have HW := Lib.hid hW
  have HO := Lib.hid o1
  have HB := Lib.hid hbl
  have HLv := Lib.hid lives_any
  clear hW o1 hbl
  by_cases hok : okM b0 b1 b2 e0 e1 e2 = true
  · by_cases h1 : last < 0
    · have HC := Lib.hid (show ¬ (okM b0 b1 b2 e0 e1 e2 = true ∧ 0 ≤ last ∧ last ≤ 3 ∧ 0 ≤ n) by omega)
      have HOK := Lib.hid hok
      clear hok
      go_enter Try.func7, Try.ntmps7
      go_upto_region 1 with fail
      rw [← HW.out]
      clear HW
      go_wp2_with fail
      with_reducible refine (level_no b0 b1 b2 e0 e1 e2 last n W HC.out).mono ?_
      rintro e w1 ⟨rfl, hb1⟩
      have o2 := HO.out.below hb1 HO.out.lt
      have hb2 := HB.out.trans (Below.mono hb1 HB.out.size)
      clear c0 c1 c2 c3 c4 c5
      have c0 := o2.cell 0 (by simp)
      have c1 := o2.cell 1 (by simp)
      have c2 := o2.cell 2 (by simp)
      have c3 := o2.cell 3 (by simp)
      have c4 := o2.cell 4 (by simp)
      have c5 := o2.cell 5 (by simp)
      simp only [List.getD_cons_succ, List.getD_cons_zero] at c0 c1 c2 c3 c4 c5
      have HO2 := Lib.hid o2
      have HB2 := Lib.hid hb2
      clear o2 hb2 hb1 HO HB
      go_wp2_with fail
      with_reducible refine (valid_is HOK.out _).mono ?_
      rintro e w2 ⟨rfl, hb3⟩
      have o3 := HO2.out.below hb3 HO2.out.lt
      have hb4 := HB2.out.trans (Below.mono hb3 HB2.out.size)
      clear c0 c1 c2 c3 c4 c5
      have c0 := o3.cell 0 (by simp)
      have c1 := o3.cell 1 (by simp)
      have c2 := o3.cell 2 (by simp)
      have c3 := o3.cell 3 (by simp)
      have c4 := o3.cell 4 (by simp)
      have c5 := o3.cell 5 (by simp)
      simp only [List.getD_cons_succ, List.getD_cons_zero] at c0 c1 c2 c3 c4 c5
      have HO3 := Lib.hid o3
      have HB3 := Lib.hid hb4
      clear o3 hb4 hb3 HO2 HB2
      go_wp2_with fail
      with_reducible refine (HLv.out _).mono ?_
      rintro e w99 ⟨rfl, hb99⟩
      have HB99 := Lib.hid ((HB3.out).trans (Below.mono hb99 (HB3.out).size))
      clear hb99 HLv
      go_wp2
      go_ret
      exact ⟨rfl, HB99.out⟩
    · by_cases h2 : 3 < last
      · have HC := Lib.hid (show ¬ (okM b0 b1 b2 e0 e1 e2 = true ∧ 0 ≤ last ∧ last ≤ 3 ∧ 0 ≤ n) by omega)
        have HOK := Lib.hid hok
        clear hok
        go_enter Try.func7, Try.ntmps7
        go_upto_region 1 with fail
        rw [← HW.out]
        clear HW
        go_wp2_with fail
        with_reducible refine (level_no b0 b1 b2 e0 e1 e2 last n W HC.out).mono ?_
        rintro e w1 ⟨rfl, hb1⟩
        have o2 := HO.out.below hb1 HO.out.lt
        have hb2 := HB.out.trans (Below.mono hb1 HB.out.size)
        clear c0 c1 c2 c3 c4 c5
        have c0 := o2.cell 0 (by simp)
        have c1 := o2.cell 1 (by simp)
        have c2 := o2.cell 2 (by simp)
        have c3 := o2.cell 3 (by simp)
        have c4 := o2.cell 4 (by simp)
        have c5 := o2.cell 5 (by simp)
        simp only [List.getD_cons_succ, List.getD_cons_zero] at c0 c1 c2 c3 c4 c5
        have HO2 := Lib.hid o2
        have HB2 := Lib.hid hb2
        clear o2 hb2 hb1 HO HB
        go_wp2_with fail
        with_reducible refine (valid_is HOK.out _).mono ?_
        rintro e w2 ⟨rfl, hb3⟩
        have o3 := HO2.out.below hb3 HO2.out.lt
        have hb4 := HB2.out.trans (Below.mono hb3 HB2.out.size)
        clear c0 c1 c2 c3 c4 c5
        have c0 := o3.cell 0 (by simp)
        have c1 := o3.cell 1 (by simp)
        have c2 := o3.cell 2 (by simp)
        have c3 := o3.cell 3 (by simp)
        have c4 := o3.cell 4 (by simp)
        have c5 := o3.cell 5 (by simp)
        simp only [List.getD_cons_succ, List.getD_cons_zero] at c0 c1 c2 c3 c4 c5
        have HO3 := Lib.hid o3
        have HB3 := Lib.hid hb4
        clear o3 hb4 hb3 HO2 HB2
        go_wp2_with fail
        with_reducible refine (HLv.out _).mono ?_
        rintro e w99 ⟨rfl, hb99⟩
        have HB99 := Lib.hid ((HB3.out).trans (Below.mono hb99 (HB3.out).size))
        clear hb99 HLv
        go_wp2
        go_ret
        exact ⟨rfl, HB99.out⟩
      · by_cases h3 : n < 0
        · have HC := Lib.hid (show ¬ (okM b0 b1 b2 e0 e1 e2 = true ∧ 0 ≤ last ∧ last ≤ 3 ∧ 0 ≤ n) by omega)
          have HOK := Lib.hid hok
          clear hok
          go_enter Try.func7, Try.ntmps7
          go_upto_region 1 with fail
          rw [← HW.out]
          clear HW
          go_wp2_with fail
          with_reducible refine (level_no b0 b1 b2 e0 e1 e2 last n W HC.out).mono ?_
          rintro e w1 ⟨rfl, hb1⟩
          have o2 := HO.out.below hb1 HO.out.lt
          have hb2 := HB.out.trans (Below.mono hb1 HB.out.size)
          clear c0 c1 c2 c3 c4 c5
          have c0 := o2.cell 0 (by simp)
          have c1 := o2.cell 1 (by simp)
          have c2 := o2.cell 2 (by simp)
          have c3 := o2.cell 3 (by simp)
          have c4 := o2.cell 4 (by simp)
          have c5 := o2.cell 5 (by simp)
          simp only [List.getD_cons_succ, List.getD_cons_zero] at c0 c1 c2 c3 c4 c5
          have HO2 := Lib.hid o2
          have HB2 := Lib.hid hb2
          clear o2 hb2 hb1 HO HB
          go_wp2_with fail
          with_reducible refine (valid_is HOK.out _).mono ?_
          rintro e w2 ⟨rfl, hb3⟩
          have o3 := HO2.out.below hb3 HO2.out.lt
          have hb4 := HB2.out.trans (Below.mono hb3 HB2.out.size)
          clear c0 c1 c2 c3 c4 c5
          have c0 := o3.cell 0 (by simp)
          have c1 := o3.cell 1 (by simp)
          have c2 := o3.cell 2 (by simp)
          have c3 := o3.cell 3 (by simp)
          have c4 := o3.cell 4 (by simp)
          have c5 := o3.cell 5 (by simp)
          simp only [List.getD_cons_succ, List.getD_cons_zero] at c0 c1 c2 c3 c4 c5
          have HO3 := Lib.hid o3
          have HB3 := Lib.hid hb4
          clear o3 hb4 hb3 HO2 HB2
          go_wp2_with fail
          with_reducible refine (HLv.out _).mono ?_
          rintro e w99 ⟨rfl, hb99⟩
          have HB99 := Lib.hid ((HB3.out).trans (Below.mono hb99 (HB3.out).size))
          clear hb99 HLv
          go_wp2
          go_ret
          exact ⟨rfl, HB99.out⟩
        · have HC := Lib.hid (show okM b0 b1 b2 e0 e1 e2 = true ∧ 0 ≤ last ∧ last ≤ 3 ∧ 0 ≤ n from ⟨hok, by omega, by omega, by omega⟩)
          have HOK := Lib.hid hok
          clear hok
          obtain ⟨X, hX⟩ : ∃ X, X = nxL b0 b1 b2 e0 e1 e2 last n := ⟨_, rfl⟩
          have HX := Lib.hid hX
          have hly := level_yes b0 b1 b2 e0 e1 e2 last n W HC.out
          rw [← hX] at hly
          have HLy := Lib.hid hly
          clear hX hly
          go_enter Try.func7, Try.ntmps7
          go_upto_region 1 with fail
          rw [← HW.out]
          clear HW
          go_wp2_with fail
          with_reducible refine (HLy.out).mono ?_
          rintro e w1 ⟨rfl, hb1⟩
          have o2 := HO.out.below hb1 HO.out.lt
          have hb2 := HB.out.trans (Below.mono hb1 HB.out.size)
          clear c0 c1 c2 c3 c4 c5
          have c0 := o2.cell 0 (by simp)
          have c1 := o2.cell 1 (by simp)
          have c2 := o2.cell 2 (by simp)
          have c3 := o2.cell 3 (by simp)
          have c4 := o2.cell 4 (by simp)
          have c5 := o2.cell 5 (by simp)
          simp only [List.getD_cons_succ, List.getD_cons_zero] at c0 c1 c2 c3 c4 c5
          have HO2 := Lib.hid o2
          have HB2 := Lib.hid hb2
          clear o2 hb2 hb1 HO HB
          go_wp2_with fail
          with_reducible refine (valid_is HOK.out _).mono ?_
          rintro e w2 ⟨rfl, hb3⟩
          have o3 := HO2.out.below hb3 HO2.out.lt
          have hb4 := HB2.out.trans (Below.mono hb3 HB2.out.size)
          clear c0 c1 c2 c3 c4 c5
          have c0 := o3.cell 0 (by simp)
          have c1 := o3.cell 1 (by simp)
          have c2 := o3.cell 2 (by simp)
          have c3 := o3.cell 3 (by simp)
          have c4 := o3.cell 4 (by simp)
          have c5 := o3.cell 5 (by simp)
          simp only [List.getD_cons_succ, List.getD_cons_zero] at c0 c1 c2 c3 c4 c5
          have HO3 := Lib.hid o3
          have HB3 := Lib.hid hb4
          clear o3 hb4 hb3 HO2 HB2
          clear HLy
          go_wp2_with fail
          go_loopw [9, 10, 11] (fun x y i wr => ∃ k A B : Nat, k ≤ 3 ∧ x = .int .i64 (A : Int) ∧ y = .int .i64 (B : Int) ∧ i = .int .i64 k ∧ A ≤ k ∧ B ≤ k ∧ (k = 0 → A = 0 ∧ B = 0) ∧ (k = 1 → (A : Int) = (if b0 ≤ n then 1 else 0) ∧ (B : Int) = (if e0 < n then 1 else 0)) ∧ (k = 2 → (A : Int) = (if b0 ≤ n then 1 else 0) + (if b1 ≤ n then 1 else 0) ∧ (B : Int) = (if e0 < n then 1 else 0) + (if e1 < n then 1 else 0)) ∧ (k = 3 → (A : Int) = loL b0 b1 b2 n ∧ (B : Int) = hiL e0 e1 e2 n) ∧ wr = w2) (fun _ _ i _ => 3 - (intOf i).toNat)
          case atStart => exact ⟨0, 0, 0, Nat.zero_le _, rfl, rfl, rfl, by omega, by omega, by omega, by omega, by omega, by omega, rfl⟩
          case round =>
            obtain ⟨k, A, B, hk, rfl, rfl, rfl, q1, q2, p0, p1, p2, p3, rfl⟩ := hrel
            have HP := Lib.hid (And.intro p0 (And.intro p1 (And.intro p2 p3)))
            have hkk : k = 0 ∨ k = 1 ∨ k = 2 ∨ k = 3 := by omega
            have wA : IntKind.i64.wrap ((A : Int) + 1) = ((A + 1 : Nat) : Int) := by rw [IntWalk.i64_in _ (by omega)]; omega
            have wB : IntKind.i64.wrap ((B : Int) + 1) = ((B + 1 : Nat) : Int) := by rw [IntWalk.i64_in _ (by omega)]; omega
            obtain ⟨A1, hA1⟩ : ∃ X, X = A + 1 := ⟨_, rfl⟩
            obtain ⟨B1, hB1⟩ : ∃ X, X = B + 1 := ⟨_, rfl⟩
            rw [← hA1] at wA
            rw [← hB1] at wB
            have HN := Lib.hid (And.intro hA1 (And.intro hB1 (And.intro q1 q2)))
            clear hk p0 p1 p2 p3 hA1 hB1 q1 q2
            rcases hkk with rfl | rfl | rfl | rfl
            · by_cases h4 : b0 ≤ n <;> by_cases h5 : e0 < n
              · have HQ := Lib.hid (And.intro h4 h5)
                go_wp2
                refine ⟨⟨1, A1, B1, by omega, by go_num, by go_num, by go_num, ?_, ?_, by omega, ?_, ?_, ?_, trivial⟩, by simp [intOf]⟩
                all_goals
                  have h4 := HQ.out.1
                  have h5 := HQ.out.2
                  have hP := HP.out
                  have hN := HN.out
                  clear HQ HP HN
                  first | omega | (intro _; unfold loL hiL; omega)
              · have HQ := Lib.hid (And.intro h4 h5)
                go_wp2
                refine ⟨⟨1, A1, B, by omega, by go_num, by go_num, by go_num, ?_, ?_, by omega, ?_, ?_, ?_, trivial⟩, by simp [intOf]⟩
                all_goals
                  have h4 := HQ.out.1
                  have h5 := HQ.out.2
                  have hP := HP.out
                  have hN := HN.out
                  clear HQ HP HN
                  first | omega | (intro _; unfold loL hiL; omega)
              · have HQ := Lib.hid (And.intro h4 h5)
                go_wp2
                refine ⟨⟨1, A, B1, by omega, by go_num, by go_num, by go_num, ?_, ?_, by omega, ?_, ?_, ?_, trivial⟩, by simp [intOf]⟩
                all_goals
                  have h4 := HQ.out.1
                  have h5 := HQ.out.2
                  have hP := HP.out
                  have hN := HN.out
                  clear HQ HP HN
                  first | omega | (intro _; unfold loL hiL; omega)
              · have HQ := Lib.hid (And.intro h4 h5)
                go_wp2
                refine ⟨⟨1, A, B, by omega, by go_num, by go_num, by go_num, ?_, ?_, by omega, ?_, ?_, ?_, trivial⟩, by simp [intOf]⟩
                all_goals
                  have h4 := HQ.out.1
                  have h5 := HQ.out.2
                  have hP := HP.out
                  have hN := HN.out
                  clear HQ HP HN
                  first | omega | (intro _; unfold loL hiL; omega)
            · by_cases h4 : b1 ≤ n <;> by_cases h5 : e1 < n
              · have HQ := Lib.hid (And.intro h4 h5)
                go_wp2
                refine ⟨⟨2, A1, B1, by omega, by go_num, by go_num, by go_num, ?_, ?_, by omega, ?_, ?_, ?_, trivial⟩, by simp [intOf]⟩
                all_goals
                  have h4 := HQ.out.1
                  have h5 := HQ.out.2
                  have hP := HP.out
                  have hN := HN.out
                  clear HQ HP HN
                  first | omega | (intro _; unfold loL hiL; omega)
              · have HQ := Lib.hid (And.intro h4 h5)
                go_wp2
                refine ⟨⟨2, A1, B, by omega, by go_num, by go_num, by go_num, ?_, ?_, by omega, ?_, ?_, ?_, trivial⟩, by simp [intOf]⟩
                all_goals
                  have h4 := HQ.out.1
                  have h5 := HQ.out.2
                  have hP := HP.out
                  have hN := HN.out
                  clear HQ HP HN
                  first | omega | (intro _; unfold loL hiL; omega)
              · have HQ := Lib.hid (And.intro h4 h5)
                go_wp2
                refine ⟨⟨2, A, B1, by omega, by go_num, by go_num, by go_num, ?_, ?_, by omega, ?_, ?_, ?_, trivial⟩, by simp [intOf]⟩
                all_goals
                  have h4 := HQ.out.1
                  have h5 := HQ.out.2
                  have hP := HP.out
                  have hN := HN.out
                  clear HQ HP HN
                  first | omega | (intro _; unfold loL hiL; omega)
              · have HQ := Lib.hid (And.intro h4 h5)
                go_wp2
                refine ⟨⟨2, A, B, by omega, by go_num, by go_num, by go_num, ?_, ?_, by omega, ?_, ?_, ?_, trivial⟩, by simp [intOf]⟩
                all_goals
                  have h4 := HQ.out.1
                  have h5 := HQ.out.2
                  have hP := HP.out
                  have hN := HN.out
                  clear HQ HP HN
                  first | omega | (intro _; unfold loL hiL; omega)
            · by_cases h4 : b2 ≤ n <;> by_cases h5 : e2 < n
              · have HQ := Lib.hid (And.intro h4 h5)
                go_wp2
                refine ⟨⟨3, A1, B1, by omega, by go_num, by go_num, by go_num, ?_, ?_, by omega, ?_, ?_, ?_, trivial⟩, by simp [intOf]⟩
                all_goals
                  have h4 := HQ.out.1
                  have h5 := HQ.out.2
                  have hP := HP.out
                  have hN := HN.out
                  clear HQ HP HN
                  first | omega | (intro _; unfold loL hiL; omega)
              · have HQ := Lib.hid (And.intro h4 h5)
                go_wp2
                refine ⟨⟨3, A1, B, by omega, by go_num, by go_num, by go_num, ?_, ?_, by omega, ?_, ?_, ?_, trivial⟩, by simp [intOf]⟩
                all_goals
                  have h4 := HQ.out.1
                  have h5 := HQ.out.2
                  have hP := HP.out
                  have hN := HN.out
                  clear HQ HP HN
                  first | omega | (intro _; unfold loL hiL; omega)
              · have HQ := Lib.hid (And.intro h4 h5)
                go_wp2
                refine ⟨⟨3, A, B1, by omega, by go_num, by go_num, by go_num, ?_, ?_, by omega, ?_, ?_, ?_, trivial⟩, by simp [intOf]⟩
                all_goals
                  have h4 := HQ.out.1
                  have h5 := HQ.out.2
                  have hP := HP.out
                  have hN := HN.out
                  clear HQ HP HN
                  first | omega | (intro _; unfold loL hiL; omega)
              · have HQ := Lib.hid (And.intro h4 h5)
                go_wp2
                refine ⟨⟨3, A, B, by omega, by go_num, by go_num, by go_num, ?_, ?_, by omega, ?_, ?_, ?_, trivial⟩, by simp [intOf]⟩
                all_goals
                  have h4 := HQ.out.1
                  have h5 := HQ.out.2
                  have hP := HP.out
                  have hN := HN.out
                  clear HQ HP HN
                  first | omega | (intro _; unfold loL hiL; omega)
            · have hlo := (HP.out.2.2.2 rfl).1
              have hhi := (HP.out.2.2.2 rfl).2
              have i1 := loL_in b0 b1 b2 n
              have i2 := hiL_in e0 e1 e2 n
              have i3 := lo_hi (n := n) HOK.out
              have hX : X = max (A : Int) (min last (B : Int)) := by rw [HX.out, nxL, hlo, hhi]
              have hxb : (A : Int) ≤ X ∧ X ≤ (B : Int) ∧ 0 ≤ X ∧ X ≤ 3 ∧ (A : Int) ≤ (B : Int) ∧ (B : Int) ≤ 3 := by rw [← hlo, ← hhi] at i3; omega
              have g1 : ¬ X < (A : Int) := by omega
              have g2 : ¬ (B : Int) < X := by omega
              have g3 : ¬ (B : Int) < (A : Int) := by omega
              have g4 : ¬ B < A := by omega
              have h1' : 0 ≤ last := by omega
              have h2' : last ≤ 3 := by omega
              obtain ⟨DX, hDX⟩ : ∃ D, D = X - last := ⟨_, rfl⟩
              have hsx : IntKind.i64.wrap (X - last) = DX := by rw [hDX]; exact IntWalk.i64_in _ (by omega)
              have bdx : -3 ≤ DX ∧ DX ≤ 3 := by omega
              obtain ⟨QX, hQX⟩ : ∃ Q, Q = DX * DX := ⟨_, rfl⟩
              have sq : ∀ d : Int, -3 ≤ d → d ≤ 3 → 0 ≤ d * d ∧ d * d ≤ 9 := by
                intro d u v
                have : d = -3 ∨ d = -2 ∨ d = -1 ∨ d = 0 ∨ d = 1 ∨ d = 2 ∨ d = 3 := by omega
                rcases this with rfl | rfl | rfl | rfl | rfl | rfl | rfl <;> decide
              have hsq : IntKind.i64.wrap (DX * DX) = QX := by have := sq DX bdx.1 bdx.2; rw [hQX]; exact IntWalk.i64_in _ (by omega)
              have HF := Lib.hid (And.intro hX (And.intro hxb (And.intro hDX (And.intro hQX (And.intro (And.intro h1' h2') sq)))))
              clear hlo hhi i1 i2 i3 hX hxb bdx sq h1' h2' hDX hQX HP HN wA wB
              go_wp2_with fail
              obtain ⟨w5, rfl⟩ : ∃ x, x = wr := ⟨_, rfl⟩
              go_loopw [12] (fun i wr => ∃ k : Nat, A ≤ k ∧ k ≤ B + 1 ∧ i = .int .i64 k ∧ wr = w5) (fun i _ => B + 1 - (intOf i).toNat)
              case atStart => exact ⟨A, Nat.le_refl _, by have := HF.out.2.1; omega, rfl, rfl⟩
              case round =>
                obtain ⟨k, hk1, hk2, rfl, rfl⟩ := hrel
                by_cases hkb : k ≤ B
                · have hki : (k : Int) ≤ (B : Int) := by omega
                  have hkn : k ≤ B := hkb
                  have hf := HF.out
                  obtain ⟨DK, hDK⟩ : ∃ D, D = (k : Int) - last := ⟨_, rfl⟩
                  have hsk : IntKind.i64.wrap ((k : Int) - last) = DK := by rw [hDK]; exact IntWalk.i64_in _ (by omega)
                  obtain ⟨QK, hQK⟩ : ∃ Q, Q = DK * DK := ⟨_, rfl⟩
                  have hsq2 : IntKind.i64.wrap (DK * DK) = QK := by have := hf.2.2.2.2.2 DK (by omega) (by omega); rw [hQK]; exact IntWalk.i64_in _ (by omega)
                  have hlt : ¬ QK < QX := by
                    have := near (A : Int) (B : Int) last (k : Int) (by omega) (by omega) (by omega) (by omega) (by omega) (by omega)
                    rw [← hf.1, ← hf.2.2.1, ← hDK, ← hQK, ← hf.2.2.2.1] at this
                    exact this
                  have hw1 : IntKind.i64.wrap ((k : Int) + 1) = ((k + 1 : Nat) : Int) := by rw [IntWalk.i64_in _ (by omega)]; omega
                  obtain ⟨K, hK⟩ : ∃ K, K = k + 1 := ⟨_, rfl⟩
                  rw [← hK] at hw1
                  have HK := Lib.hid (And.intro hK (And.intro hkb hk1))
                  clear hkb hk1 hk2 hf hDK hQK hK
                  go_wp2
                  obtain ⟨hK, hkb, hk1⟩ := HK.out
                  exact ⟨⟨K, by omega, by omega, rfl, trivial⟩, by simp only [intOf]; omega⟩
                · have hki : ¬ (k : Int) ≤ (B : Int) := by omega
                  have hkn : ¬ k ≤ B := hkb
                  have hl2 := level_yes b0 b1 b2 e0 e1 e2 X n wr ⟨HC.out.1, by have := HF.out.2.1; omega, by have := HF.out.2.1; omega, HC.out.2.2.2⟩
                  have hnx : nxL b0 b1 b2 e0 e1 e2 X n = X := by
                    have h1 := HF.out.1
                    have h2 := HF.out.2.1
                    have h3 := HX.out
                    unfold nxL at h3 ⊢
                    have i3 := lo_hi (n := n) HOK.out
                    omega
                  rw [hnx] at hl2
                  have HL2 := Lib.hid hl2
                  clear hkb hk1 hk2 hl2 hnx
                  go_wp2_with fail
                  with_reducible refine HL2.out.mono ?_
                  rintro e w3 ⟨rfl, hb5⟩
                  have HB5 := Lib.hid (HB3.out.trans (Below.mono hb5 HB3.out.size))
                  clear hb5 HL2
                  go_wp2_with fail
                  with_reducible refine (HLv.out _).mono ?_
                  rintro e w99 ⟨rfl, hb99⟩
                  have HB99 := Lib.hid ((HB5.out).trans (Below.mono hb99 (HB5.out).size))
                  clear hb99 HLv
                  go_wp2
                  go_ret
                  exact ⟨rfl, HB99.out⟩
  · have HC := Lib.hid (show ¬ (okM b0 b1 b2 e0 e1 e2 = true ∧ 0 ≤ last ∧ last ≤ 3 ∧ 0 ≤ n) from fun h => hok h.1)
    rw [Bool.not_eq_true] at hok
    have HOK := Lib.hid hok
    clear hok
    go_enter Try.func7, Try.ntmps7
    go_upto_region 1 with fail
    rw [← HW.out]
    clear HW
    go_wp2_with fail
    with_reducible refine (level_no b0 b1 b2 e0 e1 e2 last n W HC.out).mono ?_
    rintro e w1 ⟨rfl, hb1⟩
    have o2 := HO.out.below hb1 HO.out.lt
    have hb2 := HB.out.trans (Below.mono hb1 HB.out.size)
    clear c0 c1 c2 c3 c4 c5
    have c0 := o2.cell 0 (by simp)
    have c1 := o2.cell 1 (by simp)
    have c2 := o2.cell 2 (by simp)
    have c3 := o2.cell 3 (by simp)
    have c4 := o2.cell 4 (by simp)
    have c5 := o2.cell 5 (by simp)
    simp only [List.getD_cons_succ, List.getD_cons_zero] at c0 c1 c2 c3 c4 c5
    have HO2 := Lib.hid o2
    have HB2 := Lib.hid hb2
    clear o2 hb2 hb1 HO HB
    go_wp2_with fail
    with_reducible refine (valid_is HOK.out _).mono ?_
    rintro e w2 ⟨rfl, hb3⟩
    have o3 := HO2.out.below hb3 HO2.out.lt
    have hb4 := HB2.out.trans (Below.mono hb3 HB2.out.size)
    clear c0 c1 c2 c3 c4 c5
    have c0 := o3.cell 0 (by simp)
    have c1 := o3.cell 1 (by simp)
    have c2 := o3.cell 2 (by simp)
    have c3 := o3.cell 3 (by simp)
    have c4 := o3.cell 4 (by simp)
    have c5 := o3.cell 5 (by simp)
    simp only [List.getD_cons_succ, List.getD_cons_zero] at c0 c1 c2 c3 c4 c5
    have HO3 := Lib.hid o3
    have HB3 := Lib.hid hb4
    clear o3 hb4 hb3 HO2 HB2
    go_wp2_with fail
    with_reducible refine (HLv.out _).mono ?_
    rintro e w99 ⟨rfl, hb99⟩
    have HB99 := Lib.hid ((HB3.out).trans (Below.mono hb99 (HB3.out).size))
    clear hb99 HLv
    go_wp2
    go_ret
    exact ⟨rfl, HB99.out⟩
end Go.Proofs.Ytmjgagbmpcbjmaa
