/- Statements of layer 8: MonitorsErrors. -/
import Derived.Test.YtblhfdkopnaobaaMoLives
namespace Go.Proofs.Ytblhfdkopnaobaa
open Go.RowKit

theorem okArg_some {x : Int} (h : okArg x = true) : ∃ n : Nat, x = (n : Int) ∧ 1 ≤ n ∧ n ≤ 1048576 := by
  have := of_decide_eq_true h
  exact ⟨x.toNat, by omega, by omega, by omega⟩
/-- The array of the law behind k rounds. -/
def okl (x0 x1 x2 x3 : Int) (k : Nat) : List Value := [.bool (decide (0 < k) && okArg x0), .bool (decide (1 < k) && okArg x1), .bool (decide (2 < k) && okArg x2), .bool (decide (3 < k) && okArg x3)]
set_option maxHeartbeats 4000000 in
set_option maxRecDepth 100000 in
theorem errors_any (x0 x1 x2 x3 : Int) (w : World) (f0 : (Lit.int .i64 x0).wf = true) (f1 : (Lit.int .i64 x1).wf = true) (f2 : (Lit.int .i64 x2).wf = true) (f3 : (Lit.int .i64 x3).wf = true) :
    Calls Try.prog 8 #[.agg #[.int .i64 x0, .int .i64 x1, .int .i64 x2, .int .i64 x3]] w fun e w' => e = .returned (.bool true) ∧ Below w.heap.size w w' := by
  obtain ⟨W, hW⟩ : ∃ X, X = (w.alloc (.cells #[.int .i64 x0, .int .i64 x1, .int .i64 x2, .int .i64 x3] 42)).alloc (.cells #[.bool false, .bool false, .bool false, .bool false] 43) := ⟨_, rfl⟩
  obtain ⟨B, hB⟩ : ∃ B, B = w.heap.size + 1 := ⟨_, rfl⟩
  have hbW : Below w.heap.size w W := by rw [hW]; exact (below_alloc _ _).alloc (by simp) _
  have oX : Own W w.heap.size 42 [.int .i64 x0, .int .i64 x1, .int .i64 x2, .int .i64 x3] := by rw [hW]; exact (own_new w _ _ _ rfl).below (below_alloc _ _) (by simp)
  have oB : Own W B 43 (okl x0 x1 x2 x3 0) := by
    rw [hW, hB]
    have := own_new (w.alloc (.cells #[.int .i64 x0, .int .i64 x1, .int .i64 x2, .int .i64 x3] 42)) 43 #[.bool false, .bool false, .bool false, .bool false] _ rfl
    rw [World.size_alloc] at this
    exact this
  have HW := Lib.hid hW
  have HB := Lib.hid hbW
  have HX := Lib.hid oX
  have HO := Lib.hid oB
  have HBe := Lib.hid hB
  have HLv := Lib.hid mlives_any
  clear hW hbW oX oB
  go_enter Try.func8, Try.ntmps8
  go_wp2_with fail
  rw [← HW.out, ← hB]
  clear hB
  go_loopw [4] (fun i wr => ∃ k : Nat, k ≤ 4 ∧ i = .int .i64 k ∧ Own wr w.heap.size 42 [.int .i64 x0, .int .i64 x1, .int .i64 x2, .int .i64 x3] ∧ Own wr B 43 (okl x0 x1 x2 x3 k) ∧ Below w.heap.size w wr) (fun i _ => 4 - (intOf i).toNat)
  case atStart => exact ⟨0, Nat.zero_le _, rfl, HX.out, HO.out, HB.out⟩
  case round =>
    obtain ⟨k, hk, rfl, hx, ho, hb⟩ := hrel
    have HXr := Lib.hid hx
    have HOr := Lib.hid ho
    have HBr := Lib.hid hb
    have hne : w.heap.size ≠ B := by have := HBe.out; omega
    have HNe := Lib.hid hne
    clear hx ho hb hne HW HX HO HB
    have hkk : k = 0 ∨ k = 1 ∨ k = 2 ∨ k = 3 ∨ k = 4 := by omega
    clear hk
    rcases hkk with rfl | rfl | rfl | rfl | rfl
    · have cx := HXr.out.cell 0 (by simp)
      simp only [List.getD_cons_zero] at cx
      have cb := HOr.out.cell 0 (by simp [okl])
      have zb := HOr.out.frozen 0
      have hset : ∀ q, q = okArg x0 → Own (wr.setCell ⟨B, 0, none⟩ (.bool q)) B 43 (okl x0 x1 x2 x3 1) := by
        rintro q rfl
        exact HOr.out.set 0 (.bool (okArg x0))
      have HSet := Lib.hid hset
      have hfin : Own (wr.setCell ⟨B, 0, none⟩ (.bool (okArg x0))) w.heap.size 42 [.int .i64 x0, .int .i64 x1, .int .i64 x2, .int .i64 x3] := HXr.out.other _ HNe.out _
      have HFin := Lib.hid hfin
      have HB2 := Lib.hid (HBr.out.setCell (p := ⟨B, 0, none⟩) (by have := HBe.out; show w.heap.size ≤ B; omega) (.bool (okArg x0)))
      clear hset hfin
      by_cases h1 : 1 ≤ x0
      · by_cases h2 : x0 ≤ 1048576
        · have hq : okArg x0 = true := decide_eq_true ⟨h1, h2⟩
          rw [hq] at HSet HFin HB2
          have HQ := Lib.hid hq
          clear hq
          go_wp2
          exact ⟨⟨1, by omega, by go_num, HFin.out, HSet.out _ rfl, HB2.out⟩, by simp [intOf]⟩
        · have hq : okArg x0 = false := decide_eq_false (fun h => h2 h.2)
          rw [hq] at HSet HFin HB2
          have HQ := Lib.hid hq
          clear hq
          go_wp2
          exact ⟨⟨1, by omega, by go_num, HFin.out, HSet.out _ rfl, HB2.out⟩, by simp [intOf]⟩
      · have hq : okArg x0 = false := decide_eq_false (fun h => h1 h.1)
        rw [hq] at HSet HFin HB2
        have HQ := Lib.hid hq
        clear hq
        go_wp2
        exact ⟨⟨1, by omega, by go_num, HFin.out, HSet.out _ rfl, HB2.out⟩, by simp [intOf]⟩
    · have cx := HXr.out.cell 1 (by simp)
      simp only [List.getD_cons_succ, List.getD_cons_zero] at cx
      have cb := HOr.out.cell 1 (by simp [okl])
      have zb := HOr.out.frozen 1
      have hset : ∀ q, q = okArg x1 → Own (wr.setCell ⟨B, 1, none⟩ (.bool q)) B 43 (okl x0 x1 x2 x3 2) := by
        rintro q rfl
        exact HOr.out.set 1 (.bool (okArg x1))
      have HSet := Lib.hid hset
      have hfin : Own (wr.setCell ⟨B, 1, none⟩ (.bool (okArg x1))) w.heap.size 42 [.int .i64 x0, .int .i64 x1, .int .i64 x2, .int .i64 x3] := HXr.out.other _ HNe.out _
      have HFin := Lib.hid hfin
      have HB2 := Lib.hid (HBr.out.setCell (p := ⟨B, 1, none⟩) (by have := HBe.out; show w.heap.size ≤ B; omega) (.bool (okArg x1)))
      clear hset hfin
      by_cases h1 : 1 ≤ x1
      · by_cases h2 : x1 ≤ 1048576
        · have hq : okArg x1 = true := decide_eq_true ⟨h1, h2⟩
          rw [hq] at HSet HFin HB2
          have HQ := Lib.hid hq
          clear hq
          go_wp2
          exact ⟨⟨2, by omega, by go_num, HFin.out, HSet.out _ rfl, HB2.out⟩, by simp [intOf]⟩
        · have hq : okArg x1 = false := decide_eq_false (fun h => h2 h.2)
          rw [hq] at HSet HFin HB2
          have HQ := Lib.hid hq
          clear hq
          go_wp2
          exact ⟨⟨2, by omega, by go_num, HFin.out, HSet.out _ rfl, HB2.out⟩, by simp [intOf]⟩
      · have hq : okArg x1 = false := decide_eq_false (fun h => h1 h.1)
        rw [hq] at HSet HFin HB2
        have HQ := Lib.hid hq
        clear hq
        go_wp2
        exact ⟨⟨2, by omega, by go_num, HFin.out, HSet.out _ rfl, HB2.out⟩, by simp [intOf]⟩
    · have cx := HXr.out.cell 2 (by simp)
      simp only [List.getD_cons_succ, List.getD_cons_zero] at cx
      have cb := HOr.out.cell 2 (by simp [okl])
      have zb := HOr.out.frozen 2
      have hset : ∀ q, q = okArg x2 → Own (wr.setCell ⟨B, 2, none⟩ (.bool q)) B 43 (okl x0 x1 x2 x3 3) := by
        rintro q rfl
        exact HOr.out.set 2 (.bool (okArg x2))
      have HSet := Lib.hid hset
      have hfin : Own (wr.setCell ⟨B, 2, none⟩ (.bool (okArg x2))) w.heap.size 42 [.int .i64 x0, .int .i64 x1, .int .i64 x2, .int .i64 x3] := HXr.out.other _ HNe.out _
      have HFin := Lib.hid hfin
      have HB2 := Lib.hid (HBr.out.setCell (p := ⟨B, 2, none⟩) (by have := HBe.out; show w.heap.size ≤ B; omega) (.bool (okArg x2)))
      clear hset hfin
      by_cases h1 : 1 ≤ x2
      · by_cases h2 : x2 ≤ 1048576
        · have hq : okArg x2 = true := decide_eq_true ⟨h1, h2⟩
          rw [hq] at HSet HFin HB2
          have HQ := Lib.hid hq
          clear hq
          go_wp2
          exact ⟨⟨3, by omega, by go_num, HFin.out, HSet.out _ rfl, HB2.out⟩, by simp [intOf]⟩
        · have hq : okArg x2 = false := decide_eq_false (fun h => h2 h.2)
          rw [hq] at HSet HFin HB2
          have HQ := Lib.hid hq
          clear hq
          go_wp2
          exact ⟨⟨3, by omega, by go_num, HFin.out, HSet.out _ rfl, HB2.out⟩, by simp [intOf]⟩
      · have hq : okArg x2 = false := decide_eq_false (fun h => h1 h.1)
        rw [hq] at HSet HFin HB2
        have HQ := Lib.hid hq
        clear hq
        go_wp2
        exact ⟨⟨3, by omega, by go_num, HFin.out, HSet.out _ rfl, HB2.out⟩, by simp [intOf]⟩
    · have cx := HXr.out.cell 3 (by simp)
      simp only [List.getD_cons_succ, List.getD_cons_zero] at cx
      have cb := HOr.out.cell 3 (by simp [okl])
      have zb := HOr.out.frozen 3
      have hset : ∀ q, q = okArg x3 → Own (wr.setCell ⟨B, 3, none⟩ (.bool q)) B 43 (okl x0 x1 x2 x3 4) := by
        rintro q rfl
        exact HOr.out.set 3 (.bool (okArg x3))
      have HSet := Lib.hid hset
      have hfin : Own (wr.setCell ⟨B, 3, none⟩ (.bool (okArg x3))) w.heap.size 42 [.int .i64 x0, .int .i64 x1, .int .i64 x2, .int .i64 x3] := HXr.out.other _ HNe.out _
      have HFin := Lib.hid hfin
      have HB2 := Lib.hid (HBr.out.setCell (p := ⟨B, 3, none⟩) (by have := HBe.out; show w.heap.size ≤ B; omega) (.bool (okArg x3)))
      clear hset hfin
      by_cases h1 : 1 ≤ x3
      · by_cases h2 : x3 ≤ 1048576
        · have hq : okArg x3 = true := decide_eq_true ⟨h1, h2⟩
          rw [hq] at HSet HFin HB2
          have HQ := Lib.hid hq
          clear hq
          go_wp2
          exact ⟨⟨4, by omega, by go_num, HFin.out, HSet.out _ rfl, HB2.out⟩, by simp [intOf]⟩
        · have hq : okArg x3 = false := decide_eq_false (fun h => h2 h.2)
          rw [hq] at HSet HFin HB2
          have HQ := Lib.hid hq
          clear hq
          go_wp2
          exact ⟨⟨4, by omega, by go_num, HFin.out, HSet.out _ rfl, HB2.out⟩, by simp [intOf]⟩
      · have hq : okArg x3 = false := decide_eq_false (fun h => h1 h.1)
        rw [hq] at HSet HFin HB2
        have HQ := Lib.hid hq
        clear hq
        go_wp2
        exact ⟨⟨4, by omega, by go_num, HFin.out, HSet.out _ rfl, HB2.out⟩, by simp [intOf]⟩
    · obtain ⟨w5, rfl⟩ : ∃ x, x = wr := ⟨_, rfl⟩
      have ho : Own w5 B 43 [.bool (okArg x0), .bool (okArg x1), .bool (okArg x2), .bool (okArg x3)] := HOr.out
      have HO5 := Lib.hid ho
      have HX5 := HXr
      have HB5 := HBr
      have HFs := Lib.hid (And.intro f0 (And.intro f1 (And.intro f2 f3)))
      clear HXr HOr HBr ho f0 f1 f2 f3 HNe
      have e4 : ¬ (4 : Int) < 4 := by omega
      have step : ∀ {w5 w6 : World}, Own w5 w.heap.size 42 [.int .i64 x0, .int .i64 x1, .int .i64 x2, .int .i64 x3] → Below w5.heap.size w5 w6 → Own w6 w.heap.size 42 [.int .i64 x0, .int .i64 x1, .int .i64 x2, .int .i64 x3] := fun h hb => h.below hb h.lt
      clear step
      cases q0 : okArg x0
      · have hq := HO5.out
        rw [q0] at hq
        have HQ5 := Lib.hid hq
        clear hq HO5
        have HR := Lib.hid (fun W => newRate_bad x0 x1 W (by simp [q0]) HFs.out.1 HFs.out.2.1)
        have HS := Lib.hid (fun W => newSum_bad x0 W q0 HFs.out.1)
        have HP := Lib.hid (fun W => newSpan_bad x0 x1 x2 x3 W (by simp [q0]) HFs.out.1 HFs.out.2.1 HFs.out.2.2.1 HFs.out.2.2.2)
        clear q0 HFs
        have cx0 := HX5.out.cell 0 (by simp)
        have cx1 := HX5.out.cell 1 (by simp)
        have cx2 := HX5.out.cell 2 (by simp)
        have cx3 := HX5.out.cell 3 (by simp)
        simp only [List.getD_cons_succ, List.getD_cons_zero] at cx0 cx1 cx2 cx3
        go_wp2_with fail
        with_reducible refine (HR.out _).mono ?_
        rintro e w6 ⟨rfl, hb6⟩
        clear cx0 cx1 cx2 cx3
        have HX6 := Lib.hid (HX5.out.below hb6 HX5.out.lt)
        have HQ6 := Lib.hid (HQ5.out.below hb6 HQ5.out.lt)
        have HB6 := Lib.hid (HB5.out.trans (Below.mono hb6 HB5.out.size))
        clear hb6 HX5 HQ5 HB5
        have cx0 := HX6.out.cell 0 (by simp)
        have cx1 := HX6.out.cell 1 (by simp)
        have cx2 := HX6.out.cell 2 (by simp)
        have cx3 := HX6.out.cell 3 (by simp)
        simp only [List.getD_cons_succ, List.getD_cons_zero] at cx0 cx1 cx2 cx3
        go_wp2_with fail
        with_reducible refine (HS.out _).mono ?_
        rintro e w7 ⟨rfl, hb7⟩
        clear cx0 cx1 cx2 cx3
        have HX7 := Lib.hid (HX6.out.below hb7 HX6.out.lt)
        have HQ7 := Lib.hid (HQ6.out.below hb7 HQ6.out.lt)
        have HB7 := Lib.hid (HB6.out.trans (Below.mono hb7 HB6.out.size))
        clear hb7 HX6 HQ6 HB6
        have cx0 := HX7.out.cell 0 (by simp)
        have cx1 := HX7.out.cell 1 (by simp)
        have cx2 := HX7.out.cell 2 (by simp)
        have cx3 := HX7.out.cell 3 (by simp)
        simp only [List.getD_cons_succ, List.getD_cons_zero] at cx0 cx1 cx2 cx3
        go_wp2_with fail
        with_reducible refine (HP.out _).mono ?_
        rintro e w8 ⟨rfl, hb8⟩
        clear cx0 cx1 cx2 cx3
        have HX8 := Lib.hid (HX7.out.below hb8 HX7.out.lt)
        have HQ8 := Lib.hid (HQ7.out.below hb8 HQ7.out.lt)
        have HB8 := Lib.hid (HB7.out.trans (Below.mono hb8 HB7.out.size))
        clear hb8 HX7 HQ7 HB7
        have cq0 := HQ8.out.cell 0 (by simp)
        have cq1 := HQ8.out.cell 1 (by simp)
        have cq2 := HQ8.out.cell 2 (by simp)
        have cq3 := HQ8.out.cell 3 (by simp)
        simp only [List.getD_cons_succ, List.getD_cons_zero] at cq0 cq1 cq2 cq3
        clear HQ8 HX8 HR HS HP
        go_wp2_with fail
        with_reducible refine (HLv.out _).mono ?_
        rintro e w9 ⟨rfl, hb9⟩
        have HB9 := Lib.hid (HB8.out.trans (Below.mono hb9 HB8.out.size))
        clear hb9 HB8 cq0 cq1 cq2 cq3
        go_wp2
        go_ret
        exact ⟨rfl, HB9.out⟩
      · skip
        cases q1 : okArg x1
        · obtain ⟨n0, hn0, g0, k0⟩ := okArg_some q0
          have hq := HO5.out
          rw [q0, q1] at hq
          have HQ5 := Lib.hid hq
          clear hq HO5
          have HR := Lib.hid (fun W => newRate_bad x0 x1 W (by simp [q0, q1]) HFs.out.1 HFs.out.2.1)
          have HS := Lib.hid (fun W => (show Calls Try.prog 15 #[.int .i64 x0] W (MadeBy .sum n0 1 1 1 W) by rw [hn0]; exact newSum_ok n0 W g0 k0))
          have HP := Lib.hid (fun W => newSpan_bad x0 x1 x2 x3 W (by simp [q0, q1]) HFs.out.1 HFs.out.2.1 HFs.out.2.2.1 HFs.out.2.2.2)
          clear hn0 g0 k0 q0 q1 HFs
          have cx0 := HX5.out.cell 0 (by simp)
          have cx1 := HX5.out.cell 1 (by simp)
          have cx2 := HX5.out.cell 2 (by simp)
          have cx3 := HX5.out.cell 3 (by simp)
          simp only [List.getD_cons_succ, List.getD_cons_zero] at cx0 cx1 cx2 cx3
          go_wp2_with fail
          with_reducible refine (HR.out _).mono ?_
          rintro e w6 ⟨rfl, hb6⟩
          clear cx0 cx1 cx2 cx3
          have HX6 := Lib.hid (HX5.out.below hb6 HX5.out.lt)
          have HQ6 := Lib.hid (HQ5.out.below hb6 HQ5.out.lt)
          have HB6 := Lib.hid (HB5.out.trans (Below.mono hb6 HB5.out.size))
          clear hb6 HX5 HQ5 HB5
          have cx0 := HX6.out.cell 0 (by simp)
          have cx1 := HX6.out.cell 1 (by simp)
          have cx2 := HX6.out.cell 2 (by simp)
          have cx3 := HX6.out.cell 3 (by simp)
          simp only [List.getD_cons_succ, List.getD_cons_zero] at cx0 cx1 cx2 cx3
          go_wp2_with fail
          with_reducible refine (HS.out _).mono ?_
          rintro e w7 ⟨m7, rfl, _, _, hb7⟩
          unfold mval Kd.ptr
          clear cx0 cx1 cx2 cx3
          have HX7 := Lib.hid (HX6.out.below hb7 HX6.out.lt)
          have HQ7 := Lib.hid (HQ6.out.below hb7 HQ6.out.lt)
          have HB7 := Lib.hid (HB6.out.trans (Below.mono hb7 HB6.out.size))
          clear hb7 HX6 HQ6 HB6
          have cx0 := HX7.out.cell 0 (by simp)
          have cx1 := HX7.out.cell 1 (by simp)
          have cx2 := HX7.out.cell 2 (by simp)
          have cx3 := HX7.out.cell 3 (by simp)
          simp only [List.getD_cons_succ, List.getD_cons_zero] at cx0 cx1 cx2 cx3
          go_wp2_with fail
          with_reducible refine (HP.out _).mono ?_
          rintro e w8 ⟨rfl, hb8⟩
          clear cx0 cx1 cx2 cx3
          have HX8 := Lib.hid (HX7.out.below hb8 HX7.out.lt)
          have HQ8 := Lib.hid (HQ7.out.below hb8 HQ7.out.lt)
          have HB8 := Lib.hid (HB7.out.trans (Below.mono hb8 HB7.out.size))
          clear hb8 HX7 HQ7 HB7
          have cq0 := HQ8.out.cell 0 (by simp)
          have cq1 := HQ8.out.cell 1 (by simp)
          have cq2 := HQ8.out.cell 2 (by simp)
          have cq3 := HQ8.out.cell 3 (by simp)
          simp only [List.getD_cons_succ, List.getD_cons_zero] at cq0 cq1 cq2 cq3
          clear HQ8 HX8 HR HS HP
          go_wp2_with fail
          with_reducible refine (HLv.out _).mono ?_
          rintro e w9 ⟨rfl, hb9⟩
          have HB9 := Lib.hid (HB8.out.trans (Below.mono hb9 HB8.out.size))
          clear hb9 HB8 cq0 cq1 cq2 cq3
          go_wp2
          go_ret
          exact ⟨rfl, HB9.out⟩
        · skip
          cases q2 : okArg x2
          · obtain ⟨n0, hn0, g0, k0⟩ := okArg_some q0
            obtain ⟨n1, hn1, g1, k1⟩ := okArg_some q1
            have hq := HO5.out
            rw [q0, q1, q2] at hq
            have HQ5 := Lib.hid hq
            clear hq HO5
            have HR := Lib.hid (fun W => (show Calls Try.prog 16 #[.int .i64 x0, .int .i64 x1] W (MadeBy .rate n0 n1 1 1 W) by rw [hn0, hn1]; exact newRate_ok n0 n1 W g0 k0 g1 k1))
            have HS := Lib.hid (fun W => (show Calls Try.prog 15 #[.int .i64 x0] W (MadeBy .sum n0 1 1 1 W) by rw [hn0]; exact newSum_ok n0 W g0 k0))
            have HP := Lib.hid (fun W => newSpan_bad x0 x1 x2 x3 W (by simp [q0, q1, q2]) HFs.out.1 HFs.out.2.1 HFs.out.2.2.1 HFs.out.2.2.2)
            clear hn0 g0 k0 hn1 g1 k1 q0 q1 q2 HFs
            have cx0 := HX5.out.cell 0 (by simp)
            have cx1 := HX5.out.cell 1 (by simp)
            have cx2 := HX5.out.cell 2 (by simp)
            have cx3 := HX5.out.cell 3 (by simp)
            simp only [List.getD_cons_succ, List.getD_cons_zero] at cx0 cx1 cx2 cx3
            go_wp2_with fail
            with_reducible refine (HR.out _).mono ?_
            rintro e w6 ⟨m6, rfl, _, _, hb6⟩
            unfold mval Kd.ptr
            clear cx0 cx1 cx2 cx3
            have HX6 := Lib.hid (HX5.out.below hb6 HX5.out.lt)
            have HQ6 := Lib.hid (HQ5.out.below hb6 HQ5.out.lt)
            have HB6 := Lib.hid (HB5.out.trans (Below.mono hb6 HB5.out.size))
            clear hb6 HX5 HQ5 HB5
            have cx0 := HX6.out.cell 0 (by simp)
            have cx1 := HX6.out.cell 1 (by simp)
            have cx2 := HX6.out.cell 2 (by simp)
            have cx3 := HX6.out.cell 3 (by simp)
            simp only [List.getD_cons_succ, List.getD_cons_zero] at cx0 cx1 cx2 cx3
            go_wp2_with fail
            with_reducible refine (HS.out _).mono ?_
            rintro e w7 ⟨m7, rfl, _, _, hb7⟩
            unfold mval Kd.ptr
            clear cx0 cx1 cx2 cx3
            have HX7 := Lib.hid (HX6.out.below hb7 HX6.out.lt)
            have HQ7 := Lib.hid (HQ6.out.below hb7 HQ6.out.lt)
            have HB7 := Lib.hid (HB6.out.trans (Below.mono hb7 HB6.out.size))
            clear hb7 HX6 HQ6 HB6
            have cx0 := HX7.out.cell 0 (by simp)
            have cx1 := HX7.out.cell 1 (by simp)
            have cx2 := HX7.out.cell 2 (by simp)
            have cx3 := HX7.out.cell 3 (by simp)
            simp only [List.getD_cons_succ, List.getD_cons_zero] at cx0 cx1 cx2 cx3
            go_wp2_with fail
            with_reducible refine (HP.out _).mono ?_
            rintro e w8 ⟨rfl, hb8⟩
            clear cx0 cx1 cx2 cx3
            have HX8 := Lib.hid (HX7.out.below hb8 HX7.out.lt)
            have HQ8 := Lib.hid (HQ7.out.below hb8 HQ7.out.lt)
            have HB8 := Lib.hid (HB7.out.trans (Below.mono hb8 HB7.out.size))
            clear hb8 HX7 HQ7 HB7
            have cq0 := HQ8.out.cell 0 (by simp)
            have cq1 := HQ8.out.cell 1 (by simp)
            have cq2 := HQ8.out.cell 2 (by simp)
            have cq3 := HQ8.out.cell 3 (by simp)
            simp only [List.getD_cons_succ, List.getD_cons_zero] at cq0 cq1 cq2 cq3
            clear HQ8 HX8 HR HS HP
            go_wp2_with fail
            with_reducible refine (HLv.out _).mono ?_
            rintro e w9 ⟨rfl, hb9⟩
            have HB9 := Lib.hid (HB8.out.trans (Below.mono hb9 HB8.out.size))
            clear hb9 HB8 cq0 cq1 cq2 cq3
            go_wp2
            go_ret
            exact ⟨rfl, HB9.out⟩
          · skip
            cases q3 : okArg x3
            · obtain ⟨n0, hn0, g0, k0⟩ := okArg_some q0
              obtain ⟨n1, hn1, g1, k1⟩ := okArg_some q1
              obtain ⟨n2, hn2, g2, k2⟩ := okArg_some q2
              have hq := HO5.out
              rw [q0, q1, q2, q3] at hq
              have HQ5 := Lib.hid hq
              clear hq HO5
              have HR := Lib.hid (fun W => (show Calls Try.prog 16 #[.int .i64 x0, .int .i64 x1] W (MadeBy .rate n0 n1 1 1 W) by rw [hn0, hn1]; exact newRate_ok n0 n1 W g0 k0 g1 k1))
              have HS := Lib.hid (fun W => (show Calls Try.prog 15 #[.int .i64 x0] W (MadeBy .sum n0 1 1 1 W) by rw [hn0]; exact newSum_ok n0 W g0 k0))
              have HP := Lib.hid (fun W => newSpan_bad x0 x1 x2 x3 W (by simp [q0, q1, q2, q3]) HFs.out.1 HFs.out.2.1 HFs.out.2.2.1 HFs.out.2.2.2)
              clear hn0 g0 k0 hn1 g1 k1 hn2 g2 k2 q0 q1 q2 q3 HFs
              have cx0 := HX5.out.cell 0 (by simp)
              have cx1 := HX5.out.cell 1 (by simp)
              have cx2 := HX5.out.cell 2 (by simp)
              have cx3 := HX5.out.cell 3 (by simp)
              simp only [List.getD_cons_succ, List.getD_cons_zero] at cx0 cx1 cx2 cx3
              go_wp2_with fail
              with_reducible refine (HR.out _).mono ?_
              rintro e w6 ⟨m6, rfl, _, _, hb6⟩
              unfold mval Kd.ptr
              clear cx0 cx1 cx2 cx3
              have HX6 := Lib.hid (HX5.out.below hb6 HX5.out.lt)
              have HQ6 := Lib.hid (HQ5.out.below hb6 HQ5.out.lt)
              have HB6 := Lib.hid (HB5.out.trans (Below.mono hb6 HB5.out.size))
              clear hb6 HX5 HQ5 HB5
              have cx0 := HX6.out.cell 0 (by simp)
              have cx1 := HX6.out.cell 1 (by simp)
              have cx2 := HX6.out.cell 2 (by simp)
              have cx3 := HX6.out.cell 3 (by simp)
              simp only [List.getD_cons_succ, List.getD_cons_zero] at cx0 cx1 cx2 cx3
              go_wp2_with fail
              with_reducible refine (HS.out _).mono ?_
              rintro e w7 ⟨m7, rfl, _, _, hb7⟩
              unfold mval Kd.ptr
              clear cx0 cx1 cx2 cx3
              have HX7 := Lib.hid (HX6.out.below hb7 HX6.out.lt)
              have HQ7 := Lib.hid (HQ6.out.below hb7 HQ6.out.lt)
              have HB7 := Lib.hid (HB6.out.trans (Below.mono hb7 HB6.out.size))
              clear hb7 HX6 HQ6 HB6
              have cx0 := HX7.out.cell 0 (by simp)
              have cx1 := HX7.out.cell 1 (by simp)
              have cx2 := HX7.out.cell 2 (by simp)
              have cx3 := HX7.out.cell 3 (by simp)
              simp only [List.getD_cons_succ, List.getD_cons_zero] at cx0 cx1 cx2 cx3
              go_wp2_with fail
              with_reducible refine (HP.out _).mono ?_
              rintro e w8 ⟨rfl, hb8⟩
              clear cx0 cx1 cx2 cx3
              have HX8 := Lib.hid (HX7.out.below hb8 HX7.out.lt)
              have HQ8 := Lib.hid (HQ7.out.below hb8 HQ7.out.lt)
              have HB8 := Lib.hid (HB7.out.trans (Below.mono hb8 HB7.out.size))
              clear hb8 HX7 HQ7 HB7
              have cq0 := HQ8.out.cell 0 (by simp)
              have cq1 := HQ8.out.cell 1 (by simp)
              have cq2 := HQ8.out.cell 2 (by simp)
              have cq3 := HQ8.out.cell 3 (by simp)
              simp only [List.getD_cons_succ, List.getD_cons_zero] at cq0 cq1 cq2 cq3
              clear HQ8 HX8 HR HS HP
              go_wp2_with fail
              with_reducible refine (HLv.out _).mono ?_
              rintro e w9 ⟨rfl, hb9⟩
              have HB9 := Lib.hid (HB8.out.trans (Below.mono hb9 HB8.out.size))
              clear hb9 HB8 cq0 cq1 cq2 cq3
              go_wp2
              go_ret
              exact ⟨rfl, HB9.out⟩
            · skip
              obtain ⟨n0, hn0, g0, k0⟩ := okArg_some q0
              obtain ⟨n1, hn1, g1, k1⟩ := okArg_some q1
              obtain ⟨n2, hn2, g2, k2⟩ := okArg_some q2
              obtain ⟨n3, hn3, g3, k3⟩ := okArg_some q3
              have hq := HO5.out
              rw [q0, q1, q2, q3] at hq
              have HQ5 := Lib.hid hq
              clear hq HO5
              have HR := Lib.hid (fun W => (show Calls Try.prog 16 #[.int .i64 x0, .int .i64 x1] W (MadeBy .rate n0 n1 1 1 W) by rw [hn0, hn1]; exact newRate_ok n0 n1 W g0 k0 g1 k1))
              have HS := Lib.hid (fun W => (show Calls Try.prog 15 #[.int .i64 x0] W (MadeBy .sum n0 1 1 1 W) by rw [hn0]; exact newSum_ok n0 W g0 k0))
              have HP := Lib.hid (fun W => (show Calls Try.prog 17 #[.int .i64 x0, .int .i64 x1, .int .i64 x2, .int .i64 x3] W (MadeBy .span n0 n1 n2 n3 W) by rw [hn0, hn1, hn2, hn3]; exact newSpan_ok n0 n1 n2 n3 W g0 k0 g1 k1 g2 k2 g3 k3))
              clear hn0 g0 k0 hn1 g1 k1 hn2 g2 k2 hn3 g3 k3 q0 q1 q2 q3 HFs
              have cx0 := HX5.out.cell 0 (by simp)
              have cx1 := HX5.out.cell 1 (by simp)
              have cx2 := HX5.out.cell 2 (by simp)
              have cx3 := HX5.out.cell 3 (by simp)
              simp only [List.getD_cons_succ, List.getD_cons_zero] at cx0 cx1 cx2 cx3
              go_wp2_with fail
              with_reducible refine (HR.out _).mono ?_
              rintro e w6 ⟨m6, rfl, _, _, hb6⟩
              unfold mval Kd.ptr
              clear cx0 cx1 cx2 cx3
              have HX6 := Lib.hid (HX5.out.below hb6 HX5.out.lt)
              have HQ6 := Lib.hid (HQ5.out.below hb6 HQ5.out.lt)
              have HB6 := Lib.hid (HB5.out.trans (Below.mono hb6 HB5.out.size))
              clear hb6 HX5 HQ5 HB5
              have cx0 := HX6.out.cell 0 (by simp)
              have cx1 := HX6.out.cell 1 (by simp)
              have cx2 := HX6.out.cell 2 (by simp)
              have cx3 := HX6.out.cell 3 (by simp)
              simp only [List.getD_cons_succ, List.getD_cons_zero] at cx0 cx1 cx2 cx3
              go_wp2_with fail
              with_reducible refine (HS.out _).mono ?_
              rintro e w7 ⟨m7, rfl, _, _, hb7⟩
              unfold mval Kd.ptr
              clear cx0 cx1 cx2 cx3
              have HX7 := Lib.hid (HX6.out.below hb7 HX6.out.lt)
              have HQ7 := Lib.hid (HQ6.out.below hb7 HQ6.out.lt)
              have HB7 := Lib.hid (HB6.out.trans (Below.mono hb7 HB6.out.size))
              clear hb7 HX6 HQ6 HB6
              have cx0 := HX7.out.cell 0 (by simp)
              have cx1 := HX7.out.cell 1 (by simp)
              have cx2 := HX7.out.cell 2 (by simp)
              have cx3 := HX7.out.cell 3 (by simp)
              simp only [List.getD_cons_succ, List.getD_cons_zero] at cx0 cx1 cx2 cx3
              go_wp2_with fail
              with_reducible refine (HP.out _).mono ?_
              rintro e w8 ⟨m8, rfl, _, _, hb8⟩
              unfold mval Kd.ptr
              clear cx0 cx1 cx2 cx3
              have HX8 := Lib.hid (HX7.out.below hb8 HX7.out.lt)
              have HQ8 := Lib.hid (HQ7.out.below hb8 HQ7.out.lt)
              have HB8 := Lib.hid (HB7.out.trans (Below.mono hb8 HB7.out.size))
              clear hb8 HX7 HQ7 HB7
              have cq0 := HQ8.out.cell 0 (by simp)
              have cq1 := HQ8.out.cell 1 (by simp)
              have cq2 := HQ8.out.cell 2 (by simp)
              have cq3 := HQ8.out.cell 3 (by simp)
              simp only [List.getD_cons_succ, List.getD_cons_zero] at cq0 cq1 cq2 cq3
              clear HQ8 HX8 HR HS HP
              go_wp2_with fail
              with_reducible refine (HLv.out _).mono ?_
              rintro e w9 ⟨rfl, hb9⟩
              have HB9 := Lib.hid (HB8.out.trans (Below.mono hb9 HB8.out.size))
              clear hb9 HB8 cq0 cq1 cq2 cq3
              go_wp2
              go_ret
              exact ⟨rfl, HB9.out⟩
end Go.Proofs.Ytblhfdkopnaobaa
