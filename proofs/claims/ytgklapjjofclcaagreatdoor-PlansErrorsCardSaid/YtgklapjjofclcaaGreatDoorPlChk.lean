/- The statements' own function check. -/
import Derived.Test.YtgklapjjofclcaaGreatDoorPlIdx
import Derived.Test.YtgklapjjofclcaaGreatDoorPlChkM
import Derived.BigQuiet
import Derived.Deep.RegionHeld3
namespace Go.Proofs.YtgklapjjofclcaaGreatDoor
open Go.RowKit

set_option maxRecDepth 20000 in
set_option maxHeartbeats 2000000 in
theorem check_any (p : Pn) (a : Option Addr) (n c : Nat) (a' : Option Addr) (n' c' : Nat) (w : World) (hP : PRow w a n c p.P) (hL : LRow w a' n' c' p.L) :
    Calls Tryz.prog 19 #[planV a n c a' n' c' p] w fun e w' => e = .returned (.int .i64 (chkPl p)) ∧ Below w.heap.size w w' := by
  unfold planV
  obtain ⟨W, hW⟩ : ∃ W, W = w.alloc (.cells (planCells a n c a' n' c' p).toArray 31) := ⟨_, rfl⟩
  obtain ⟨g0, g1, g2, g3, g4, g5, g6, hB⟩ := boxed hW
  have hsz : W.heap.size = w.heap.size + 1 := by rw [hW]; simp
  have hP' := hP.later hB
  have hL' := hL.later hB
  have hmax := hP.max
  have hle := hP.le
  have hmax' := hL.max
  have hle' := hL.le
  have hnl := hP.len
  have hnl' := hL.len
  unfold maxLen at hmax hmax'
  have HPl := Lib.hid hnl
  have HLl := Lib.hid hnl'
  clear hnl hnl'
  by_cases h1 : 64 < n
  · have d1 : (64 : Int) < (n : Int) := by omega
    go_enter Tryz.func19, Tryz.ntmps19
    go_wp2
    go_ret
    exact ⟨ret_int (chk_big (.inl (by have := HPl.out; omega))), below_alloc _ _⟩
  have d1 : ¬ (64 : Int) < (n : Int) := by omega
  by_cases h2 : 1024 < n'
  · have d2 : (1024 : Int) < (n' : Int) := by omega
    go_enter Tryz.func19, Tryz.ntmps19
    go_wp2
    go_ret
    exact ⟨ret_int (chk_big (.inr (by have := HLl.out; omega))), below_alloc _ _⟩
  have d2 : ¬ (1024 : Int) < (n' : Int) := by omega
  have big : ¬ (64 < p.P.length ∨ 1024 < p.L.length) := by have := HPl.out; have := HLl.out; omega
  by_cases h3 : n = 0
  · subst h3
    go_enter Tryz.func19, Tryz.ntmps19
    go_wp2
    go_ret
    exact ⟨ret_int (chk_empty big HPl.out), below_alloc _ _⟩
  have HF : Hid (Fits p) := Lib.hid ⟨big, by have := HPl.out; omega⟩
  have d3 : ((n : Int) == 0) = false := by simp; omega
  clear big
  go_enter Tryz.func19, Tryz.ntmps19
  go_wp2_with fail
  show Code.wp _ _ _ _ (w.alloc (.cells (planCells a n c a' n' c' p).toArray 31))
  rw [← hW]
  have HW := Lib.hid hW
  have HB := Lib.hid hB
  have HP := Lib.hid hP'
  have HL := Lib.hid hL'
  have HZ := Lib.hid hsz
  clear hW hB hP hL hP' hL' hsz
  have G2 := Lib.hid g2
  have G3 := Lib.hid g3
  have G4 := Lib.hid g4
  have G5 := Lib.hid g5
  have G6 := Lib.hid g6
  clear g2 g3 g4 g5 g6
  have G0 := Lib.hid g0
  have G1 := Lib.hid g1
  clear g0 g1
  go_loopw [3] (fun i wr => ∃ k : Nat, k ≤ n ∧ i = .int .i64 k ∧ (∀ j, j < k → okPl p.P j = true) ∧ Below W.heap.size W wr) (fun i _ => n - (intOf i).toNat)
  case atStart => exact ⟨0, Nat.zero_le _, rfl, fun j hj => absurd hj (Nat.not_lt_zero _), Below.refl _ _⟩
  case round =>
    obtain ⟨k, hk, rfl, hok, hb⟩ := hrel
    have HK := Lib.hid hok
    have HB2 := Lib.hid hb
    have hlt : w.heap.size < W.heap.size := by rw [HZ.out]; exact Nat.lt_succ_self _
    have g0 : wr.cell? ⟨w.heap.size, 0, none⟩ = some (.slice a n c) := (hb.cell hlt).trans G0.out
    have HP2 := Lib.hid (HP.out.later hb)
    clear hok
    by_cases hkn : k < n
    · clear hb hlt
      obtain ⟨b, off, rfl, hc⟩ := HP2.out.cells.resolve_left (by omega)
      obtain ⟨c0, _⟩ := hc k hkn
      obtain ⟨x, hx⟩ : ∃ x, x = pc p.P k := ⟨_, rfl⟩
      rw [← hx] at c0
      have HX := Lib.hid hx
      clear hx
      by_cases hx1 : 16383 < x
      · clear hc
        have f1 : decide ((16383 : Int) < x) = true := decide_eq_true hx1
        go_wp2
        go_quiet (fail)
        go_wp2
        go_ret
        refine ⟨ret_int (chk_place HF.out (i := k) (by have := HPl.out; omega) ?_), HB.out.trans ((below_drewN HB2.out _).mono HB.out.size)⟩
        exact okPl_big HX.out hx1
      · have f1 : decide ((16383 : Int) < x) = false := decide_eq_false hx1
        by_cases hk0 : k = 0
        · clear hc
          have HQ : Hid (okPl p.P k = true) := Lib.hid (okPl_first HX.out hx1 hk0)
          have f2 : decide (0 < k) = false := decide_eq_false (by omega)
          have HK0 := Lib.hid hk0
          clear hk0
          go_wp2
          go_quiet (fail)
          go_wp2
          exact ⟨⟨k + 1, by omega, by go_num, upto_succ HK.out HQ.out, below_drewN HB2.out _⟩, by simp [intOf]; omega⟩
        · obtain ⟨m, hm⟩ : ∃ m, m = k - 1 := ⟨_, rfl⟩
          obtain ⟨c4, _⟩ := hc m (by omega)
          clear hc
          obtain ⟨y, hy⟩ : ∃ y, y = pc p.P m := ⟨_, rfl⟩
          rw [← hy] at c4
          have HY := Lib.hid hy
          clear hy
          have f2 : decide (0 < k) = true := decide_eq_true (by omega)
          have e2 : (k : Int) - 1 = m := by omega
          have hmn : m < n := by omega
          have HM := Lib.hid hm
          clear hm
          by_cases hyx : y < x
          · have HQ : Hid (okPl p.P k = true) := Lib.hid (okPl_next HX.out hx1 HM.out HY.out hyx)
            have f3 : decide (x ≤ y) = false := decide_eq_false (by omega)
            go_wp2
            go_quiet (fail)
            go_wp2
            exact ⟨⟨k + 1, by omega, by go_num, upto_succ HK.out HQ.out, below_drewN HB2.out _⟩, by simp [intOf]; omega⟩
          · have f3 : decide (x ≤ y) = true := decide_eq_true (by omega)
            go_wp2
            go_quiet (fail)
            go_wp2
            go_ret
            refine ⟨ret_int (chk_place HF.out (i := k) (by have := HPl.out; omega) ?_), HB.out.trans ((below_drewN HB2.out _).mono HB.out.size)⟩
            exact okPl_not HX.out HM.out HY.out hk0 (by omega)
    · have hkn' : n = k := by omega
      subst hkn'
      have HP1 : Hid (∀ i, i < p.P.length → okPl p.P i = true) := Lib.hid (by rw [HPl.out]; exact HK.out)
      have HBw := Lib.hid hb
      clear HK HP2 HB2 hb hlt
      go_wp2_with fail
      clear g0
      go_loopw [4] (fun i wr => ∃ k : Nat, k ≤ n' ∧ i = .int .i64 k ∧ (∀ j, j < k → okLn p.L j = true) ∧ Below W.heap.size W wr) (fun i _ => n' - (intOf i).toNat)
      case atStart => exact ⟨0, Nat.zero_le _, rfl, fun j hj => absurd hj (Nat.not_lt_zero _), HBw.out⟩
      case round =>
        obtain ⟨k, hk, rfl, hok, hb⟩ := hrel
        have HK := Lib.hid hok
        have HB2 := Lib.hid hb
        have hlt : w.heap.size < W.heap.size := by rw [HZ.out]; exact Nat.lt_succ_self _
        have g1 : wr.cell? ⟨w.heap.size, 1, none⟩ = some (.slice a' n' c') := (hb.cell hlt).trans G1.out
        have HL2 := Lib.hid (HL.out.later hb)
        clear hok
        by_cases hkn : k < n'
        · clear hb hlt
          obtain ⟨b, off, rfl, hc⟩ := HL2.out.cells.resolve_left (by omega)
          obtain ⟨c0, c1, c2, c3⟩ := hc k hkn
          obtain ⟨l, hl⟩ : ∃ l, l = lnAt p.L k := ⟨_, rfl⟩
          rw [← hl] at c0 c1 c2 c3
          have HX := Lib.hid hl
          clear hl
          obtain ⟨A, B, C, D⟩ := l
          simp only at c0 c1 c2 c3
          by_cases h1 : A < B
          · have e1 : ¬ B ≤ A := by omega
            by_cases h2 : C ≤ 15
            · have e2 : ¬ 15 < C := by omega
              by_cases h3 : 1 ≤ D
              · have e3 : ¬ D < 1 := by omega
                by_cases h4 : D ≤ 64
                · have e4 : ¬ 64 < D := by omega
                  have HO := Lib.hid (And.intro h1 (And.intro h2 (And.intro h3 h4)))
                  clear h1 h2 h3 h4
                  by_cases hk0 : k = 0
                  · clear hc
                    have f2 : ¬ 0 < k := by omega
                    have HK0 := Lib.hid hk0
                    clear hk0
                    have HQ : Hid (okLn p.L k = true) := Lib.hid (okLn_first HX.out HO.out.1 HO.out.2.1 HO.out.2.2.1 HO.out.2.2.2 HK0.out)
                    go_wp2
                    exact ⟨⟨k + 1, by omega, by go_num, upto_succ HK.out HQ.out, (HB2.out.alloc HB2.out.size _)⟩, by simp [intOf]; omega⟩
                  · obtain ⟨m, hm⟩ : ∃ m, m = k - 1 := ⟨_, rfl⟩
                    obtain ⟨c4, c5, c6, c7⟩ := hc m (by omega)
                    clear hc
                    obtain ⟨l2, hl2⟩ : ∃ l2, l2 = lnAt p.L m := ⟨_, rfl⟩
                    rw [← hl2] at c4 c5 c6 c7
                    have HY := Lib.hid hl2
                    clear hl2
                    obtain ⟨A2, B2, C2, D2⟩ := l2
                    simp only at c4 c5 c6 c7
                    have s1 : w.heap.size < wr.heap.size := World.block_lt_of_cell? wr _ g1
                    have s2 : b < wr.heap.size := World.block_lt_of_cell? wr _ c0
                    have f2 : 0 < k := by omega
                    have f2' : (k : Int) - 1 = m := by omega
                    have hmn : m < n' := by omega
                    have HM := Lib.hid hm
                    have HK0 := Lib.hid hk0
                    clear hm hk0 c7
                    by_cases q1 : A < A2
                    · have HN := Lib.hid (show ¬ (A2 < A ∨ A2 = A ∧ (B2 < B ∨ B2 = B ∧ C2 < C)) by omega)
                      have HQ : Hid (okLn p.L k = false) := Lib.hid (okLn_not HX.out HM.out HY.out HK0.out HN.out)
                      go_wp2
                      go_ret
                      exact ⟨ret_int (chk_line HF.out HP1.out (i := k) (by have := HLl.out; omega) HQ.out), HB.out.trans (Below.mono ((HB2.out.alloc HB2.out.size _).alloc (Nat.le_trans HB2.out.size (by simp)) _) HB.out.size)⟩
                    · by_cases q2 : A2 = A
                      · subst q2
                        by_cases q3 : B < B2
                        · have HN := Lib.hid (show ¬ (A2 < A2 ∨ A2 = A2 ∧ (B2 < B ∨ B2 = B ∧ C2 < C)) by omega)
                          have HQ : Hid (okLn p.L k = false) := Lib.hid (okLn_not HX.out HM.out HY.out HK0.out HN.out)
                          go_wp2
                          go_ret
                          exact ⟨ret_int (chk_line HF.out HP1.out (i := k) (by have := HLl.out; omega) HQ.out), HB.out.trans (Below.mono ((HB2.out.alloc HB2.out.size _).alloc (Nat.le_trans HB2.out.size (by simp)) _) HB.out.size)⟩
                        · by_cases q4 : B2 = B
                          · subst q4
                            by_cases q5 : C2 < C
                            · have HN := Lib.hid (show (A2 < A2 ∨ A2 = A2 ∧ (B2 < B2 ∨ B2 = B2 ∧ C2 < C)) by omega)
                              have f5 : ¬ C ≤ C2 := by omega
                              have HQ : Hid (okLn p.L k = true) := Lib.hid (okLn_next HX.out HO.out.1 HO.out.2.1 HO.out.2.2.1 HO.out.2.2.2 HM.out HY.out HN.out)
                              go_wp2
                              exact ⟨⟨k + 1, by omega, by go_num, upto_succ HK.out HQ.out, ((HB2.out.alloc HB2.out.size _).alloc (Nat.le_trans HB2.out.size (by simp)) _)⟩, by simp [intOf]; omega⟩
                            · have HN := Lib.hid (show ¬ (A2 < A2 ∨ A2 = A2 ∧ (B2 < B2 ∨ B2 = B2 ∧ C2 < C)) by omega)
                              have f5 : C ≤ C2 := by omega
                              have HQ : Hid (okLn p.L k = false) := Lib.hid (okLn_not HX.out HM.out HY.out HK0.out HN.out)
                              go_wp2
                              go_ret
                              exact ⟨ret_int (chk_line HF.out HP1.out (i := k) (by have := HLl.out; omega) HQ.out), HB.out.trans (Below.mono ((HB2.out.alloc HB2.out.size _).alloc (Nat.le_trans HB2.out.size (by simp)) _) HB.out.size)⟩
                          · have HN := Lib.hid (show (A2 < A2 ∨ A2 = A2 ∧ (B2 < B ∨ B2 = B ∧ C2 < C)) by omega)
                            have f4 : (B2 == B) = false := by simpa using q4
                            have HQ : Hid (okLn p.L k = true) := Lib.hid (okLn_next HX.out HO.out.1 HO.out.2.1 HO.out.2.2.1 HO.out.2.2.2 HM.out HY.out HN.out)
                            go_wp2
                            exact ⟨⟨k + 1, by omega, by go_num, upto_succ HK.out HQ.out, ((HB2.out.alloc HB2.out.size _).alloc (Nat.le_trans HB2.out.size (by simp)) _)⟩, by simp [intOf]; omega⟩
                      · have HN := Lib.hid (show (A2 < A ∨ A2 = A ∧ (B2 < B ∨ B2 = B ∧ C2 < C)) by omega)
                        have f3 : (A2 == A) = false := by simpa using q2
                        have HQ : Hid (okLn p.L k = true) := Lib.hid (okLn_next HX.out HO.out.1 HO.out.2.1 HO.out.2.2.1 HO.out.2.2.2 HM.out HY.out HN.out)
                        go_wp2
                        exact ⟨⟨k + 1, by omega, by go_num, upto_succ HK.out HQ.out, ((HB2.out.alloc HB2.out.size _).alloc (Nat.le_trans HB2.out.size (by simp)) _)⟩, by simp [intOf]; omega⟩
                · have e4 : 64 < D := by omega
                  clear hc
                  go_wp2
                  go_ret
                  exact ⟨ret_int (chk_line HF.out HP1.out (i := k) (by have := HLl.out; omega) (okLn_bad HX.out (by omega))), HB.out.trans (Below.mono (HB2.out.alloc HB2.out.size _) HB.out.size)⟩
              · have e3 : D < 1 := by omega
                clear hc
                go_wp2
                go_ret
                exact ⟨ret_int (chk_line HF.out HP1.out (i := k) (by have := HLl.out; omega) (okLn_bad HX.out (by omega))), HB.out.trans (Below.mono (HB2.out.alloc HB2.out.size _) HB.out.size)⟩
            · have e2 : 15 < C := by omega
              clear hc
              go_wp2
              go_ret
              exact ⟨ret_int (chk_line HF.out HP1.out (i := k) (by have := HLl.out; omega) (okLn_bad HX.out (by omega))), HB.out.trans (Below.mono (HB2.out.alloc HB2.out.size _) HB.out.size)⟩
          · have e1 : B ≤ A := by omega
            clear hc
            go_wp2
            go_ret
            exact ⟨ret_int (chk_line HF.out HP1.out (i := k) (by have := HLl.out; omega) (okLn_bad HX.out (by omega))), HB.out.trans (Below.mono (HB2.out.alloc HB2.out.size _) HB.out.size)⟩
        · have hkn' : n' = k := by omega
          subst hkn'
          have HL1 : Hid (∀ i, i < p.L.length → okLn p.L i = true) := Lib.hid (by rw [HLl.out]; exact HK.out)
          have HBv := Lib.hid hb
          clear HK HL2 HB2 hb hlt
          go_wp2_with fail
          clear g1
          go_loopw [7] (fun i wr => ∃ k : Nat, k ≤ n' ∧ i = .int .i64 k ∧ (∀ j, j < k → okEnd p.P p.L j = true) ∧ Below W.heap.size W wr) (fun i _ => n' - (intOf i).toNat)
          case atStart => exact ⟨0, Nat.zero_le _, rfl, fun j hj => absurd hj (Nat.not_lt_zero _), HBv.out⟩
          case round =>
            obtain ⟨k, hk, rfl, hok, hb⟩ := hrel
            have HK := Lib.hid hok
            have HB2 := Lib.hid hb
            have hlt : w.heap.size < W.heap.size := by rw [HZ.out]; exact Nat.lt_succ_self _
            have g0 : wr.cell? ⟨w.heap.size, 0, none⟩ = some (.slice a n c) := (hb.cell hlt).trans G0.out
            have g1 : wr.cell? ⟨w.heap.size, 1, none⟩ = some (.slice a' n' c') := (hb.cell hlt).trans G1.out
            have g2 : wr.cell? ⟨w.heap.size, 2, none⟩ = some (.int .i64 p.rate) := (hb.cell hlt).trans G2.out
            have g3 : wr.cell? ⟨w.heap.size, 3, none⟩ = some (.int .i64 p.room) := (hb.cell hlt).trans G3.out
            have g4 : wr.cell? ⟨w.heap.size, 4, none⟩ = some (.int .i64 p.m0) := (hb.cell hlt).trans G4.out
            have g5 : wr.cell? ⟨w.heap.size, 5, none⟩ = some (.int .i64 p.m1) := (hb.cell hlt).trans G5.out
            have g6 : wr.cell? ⟨w.heap.size, 6, none⟩ = some (.int .i64 p.m2) := (hb.cell hlt).trans G6.out
            have HL2 := Lib.hid (HL.out.later hb)
            have HP2 := Lib.hid (HP.out.later hb)
            clear hok
            by_cases hkn : k < n'
            · clear hb hlt
              obtain ⟨b, off, rfl, hc⟩ := HL2.out.cells.resolve_left (by omega)
              obtain ⟨c0, c1, _, _⟩ := hc k hkn
              clear hc
              obtain ⟨l, hl⟩ : ∃ l, l = lnAt p.L k := ⟨_, rfl⟩
              rw [← hl] at c0 c1
              have HX := Lib.hid hl
              clear hl
              obtain ⟨A, B, C, D⟩ := l
              simp only at c0 c1
              have HS : Hid (∀ W2, Below wr.heap.size wr W2 → Below wr.heap.size wr W2 ∧ W2.cell? ⟨w.heap.size, 0, none⟩ = some (.slice a n c) ∧ W2.cell? ⟨w.heap.size, 1, none⟩ = some (.slice (some ⟨b, off, none⟩) n' c') ∧ W2.cell? ⟨w.heap.size, 2, none⟩ = some (.int .i64 p.rate) ∧ W2.cell? ⟨w.heap.size, 3, none⟩ = some (.int .i64 p.room) ∧ W2.cell? ⟨w.heap.size, 4, none⟩ = some (.int .i64 p.m0) ∧ W2.cell? ⟨w.heap.size, 5, none⟩ = some (.int .i64 p.m1) ∧ W2.cell? ⟨w.heap.size, 6, none⟩ = some (.int .i64 p.m2) ∧ W2.cell? ⟨b, off + k * 4, none⟩ = some (.int .u16 A) ∧ W2.cell? ⟨b, off + k * 4 + 1, none⟩ = some (.int .u16 B)) := Lib.hid (fun W2 h2 => ⟨h2, (h2.cell (World.block_lt_of_cell? wr _ g0)).trans g0, (h2.cell (World.block_lt_of_cell? wr _ g1)).trans g1, (h2.cell (World.block_lt_of_cell? wr _ g2)).trans g2, (h2.cell (World.block_lt_of_cell? wr _ g3)).trans g3, (h2.cell (World.block_lt_of_cell? wr _ g4)).trans g4, (h2.cell (World.block_lt_of_cell? wr _ g5)).trans g5, (h2.cell (World.block_lt_of_cell? wr _ g6)).trans g6, (h2.cell (World.block_lt_of_cell? wr _ c0)).trans c0, (h2.cell (World.block_lt_of_cell? wr _ c1)).trans c1⟩)
              obtain ⟨rA, hrA⟩ : ∃ r, r = idxI p.P A := ⟨_, rfl⟩
              obtain ⟨rB, hrB⟩ : ∃ r, r = idxI p.P B := ⟨_, rfl⟩
              have HIA : Hid (∀ W2, Below wr.heap.size wr W2 → Calls Tryz.prog 20 #[.agg #[.slice a n c, .slice (some ⟨b, off, none⟩) n' c', .int .i64 p.rate, .int .i64 p.room, .int .i64 p.m0, .int .i64 p.m1, .int .i64 p.m2], .int .u16 A] W2 fun e w' => e = .returned (.int .i64 rA) ∧ Below W2.heap.size W2 w') := Lib.hid (fun W2 h2 => by rw [hrA]; exact index_any p a n c _ _ _ A W2 (HP2.out.later h2))
              have HIB : Hid (∀ W2, Below wr.heap.size wr W2 → Calls Tryz.prog 20 #[.agg #[.slice a n c, .slice (some ⟨b, off, none⟩) n' c', .int .i64 p.rate, .int .i64 p.room, .int .i64 p.m0, .int .i64 p.m1, .int .i64 p.m2], .int .u16 B] W2 fun e w' => e = .returned (.int .i64 rB) ∧ Below W2.heap.size W2 w') := Lib.hid (fun W2 h2 => by rw [hrB]; exact index_any p a n c _ _ _ B W2 (HP2.out.later h2))
              have RA := Lib.hid hrA
              have RB := Lib.hid hrB
              clear hrA hrB
              have hS0 := HS.out wr (Below.refl _ _)
              by_cases hA : rA < 0
              · have fA : decide (rA < 0) = true := decide_eq_true hA
                have HQ : Hid (okEnd p.P p.L k = false) := Lib.hid (okEnd_a HX.out (by rw [← RA.out]; exact hA))
                go_wp2
                refine wp_region_held_drew (S := (fun W2 => Below wr.heap.size wr W2 ∧ W2.cell? ⟨w.heap.size, 0, none⟩ = some (.slice a n c) ∧ W2.cell? ⟨w.heap.size, 1, none⟩ = some (.slice (some ⟨b, off, none⟩) n' c') ∧ W2.cell? ⟨w.heap.size, 2, none⟩ = some (.int .i64 p.rate) ∧ W2.cell? ⟨w.heap.size, 3, none⟩ = some (.int .i64 p.room) ∧ W2.cell? ⟨w.heap.size, 4, none⟩ = some (.int .i64 p.m0) ∧ W2.cell? ⟨w.heap.size, 5, none⟩ = some (.int .i64 p.m1) ∧ W2.cell? ⟨w.heap.size, 6, none⟩ = some (.int .i64 p.m2) ∧ W2.cell? ⟨b, off + k * 4, none⟩ = some (.int .u16 A) ∧ W2.cell? ⟨b, off + k * 4 + 1, none⟩ = some (.int .u16 B))) (by kernel_rfl) ?_ (fun hHeld => ?_)
                · try dsimp only
                  first | assumption | exact HS.out _ (below_draw _ _) | exact HS.out _ (Below.refl _ _)
                refine wpAnyH_take (i := 0) (oi := { dst := some 146, op := Op.load 31 (Operand.tmp 1), type := 31, pos := "law.go:146", after := #[], guard := none }) (v := ?_) rfl (by kernel_rfl) (by kernel_rfl) (by kernel_rfl) (fun _ _ _ h => h) (Or.inl ⟨by rfl, ?_⟩) (by assumption) ?_
                rotate_left 1
                · intro w hSw
                  (try dsimp only at hSw)
                  go_simp
                  try with_reducible rfl
                try simp only [Act.put, List.setIfInBounds_toArray, List.set_cons_zero, List.set_cons_succ]
                refine wpAnyH_take (i := 1) (oi := { dst := some 147, op := Op.fieldAddr 31 (Operand.tmp 1) 1, type := 0, pos := "law.go:146", after := #[], guard := none }) (v := ?_) rfl (by kernel_rfl) (by kernel_rfl) (by kernel_rfl) (fun _ _ _ h => h) (Or.inl ⟨by rfl, ?_⟩) (by assumption) ?_
                rotate_left 1
                · intro w hSw
                  (try dsimp only at hSw)
                  go_simp
                  try with_reducible rfl
                try simp only [Act.put, List.setIfInBounds_toArray, List.set_cons_zero, List.set_cons_succ]
                refine wpAnyH_take (i := 2) (oi := { dst := some 148, op := Op.load 28 (Operand.tmp 147), type := 28, pos := "law.go:146", after := #[{ on := 1, ground := Ground.data }], guard := none }) (v := ?_) rfl (by kernel_rfl) (by kernel_rfl) (by kernel_rfl) (fun _ _ _ h => h) (Or.inl ⟨by rfl, ?_⟩) (by assumption) ?_
                rotate_left 1
                · intro w hSw
                  (try dsimp only at hSw)
                  go_simp
                  try with_reducible rfl
                try simp only [Act.put, List.setIfInBounds_toArray, List.set_cons_zero, List.set_cons_succ]
                refine wpAnyH_take (i := 3) (oi := { dst := some 149, op := Op.move (Operand.tmp 7), type := 3, pos := "law.go:146", after := #[], guard := none }) (v := ?_) rfl (by kernel_rfl) (by kernel_rfl) (by kernel_rfl) (fun _ _ _ h => h) (Or.inl ⟨by rfl, ?_⟩) (by assumption) ?_
                rotate_left 1
                · intro w hSw
                  (try dsimp only at hSw)
                  go_simp
                  try with_reducible rfl
                try simp only [Act.put, List.setIfInBounds_toArray, List.set_cons_zero, List.set_cons_succ]
                refine wpAnyH_take (i := 4) (oi := { dst := some 150, op := Op.indexAddr 28 (Operand.tmp 148) (Operand.tmp 149), type := 0, pos := "law.go:146", after := #[{ on := 2, ground := Ground.data }, { on := 3, ground := Ground.data }], guard := none }) (v := ?_) rfl (by kernel_rfl) (by kernel_rfl) (by kernel_rfl) (fun _ _ _ h => h) (Or.inl ⟨by rfl, ?_⟩) (by assumption) ?_
                rotate_left 1
                · intro w hSw
                  (try dsimp only at hSw)
                  go_simp
                  try with_reducible rfl
                try simp only [Act.put, List.setIfInBounds_toArray, List.set_cons_zero, List.set_cons_succ]
                refine wpAnyH_take (i := 5) (oi := { dst := some 151, op := Op.fieldAddr 76 (Operand.tmp 150) 0, type := 0, pos := "law.go:146", after := #[{ on := 4, ground := Ground.data }], guard := none }) (v := ?_) rfl (by kernel_rfl) (by kernel_rfl) (by kernel_rfl) (fun _ _ _ h => h) (Or.inl ⟨by rfl, ?_⟩) (by assumption) ?_
                rotate_left 1
                · intro w hSw
                  (try dsimp only at hSw)
                  go_simp
                  try with_reducible rfl
                try simp only [Act.put, List.setIfInBounds_toArray, List.set_cons_zero, List.set_cons_succ]
                refine wpAnyH_take (i := 6) (oi := { dst := some 152, op := Op.fieldAddr 74 (Operand.tmp 151) 0, type := 0, pos := "law.go:146", after := #[{ on := 5, ground := Ground.data }], guard := none }) (v := ?_) rfl (by kernel_rfl) (by kernel_rfl) (by kernel_rfl) (fun _ _ _ h => h) (Or.inl ⟨by rfl, ?_⟩) (by assumption) ?_
                rotate_left 1
                · intro w hSw
                  (try dsimp only at hSw)
                  go_simp
                  try with_reducible rfl
                try simp only [Act.put, List.setIfInBounds_toArray, List.set_cons_zero, List.set_cons_succ]
                refine wpAnyH_take (i := 7) (oi := { dst := some 153, op := Op.load 53 (Operand.tmp 152), type := 53, pos := "law.go:146", after := #[{ on := 6, ground := Ground.data }], guard := none }) (v := ?_) rfl (by kernel_rfl) (by kernel_rfl) (by kernel_rfl) (fun _ _ _ h => h) (Or.inl ⟨by rfl, ?_⟩) (by assumption) ?_
                rotate_left 1
                · intro w hSw
                  (try dsimp only at hSw)
                  go_simp
                  try with_reducible rfl
                try simp only [Act.put, List.setIfInBounds_toArray, List.set_cons_zero, List.set_cons_succ]
                refine wpAnyH_ready (rs := [8]) (by kernel_rfl) (by simp) ?_
                refine AllReadyH.cons (o := { dst := some 154, op := Op.call { callee := Callee.value (Operand.func 20), args := #[Operand.tmp 146, Operand.tmp 153], argTypes := #[31, 53] }, type := 3, pos := "law.go:146", after := #[{ on := 0, ground := Ground.data }, { on := 7, ground := Ground.data }], guard := none }) rfl (fun K hK => ?_) AllReadyH.nil
                go_simp
                with_reducible refine (HIA.out _ (And.left hHeld)).mono ?_
                rintro e w1 ⟨rfl, hb1⟩
                have hS1 := HS.out _ (Below.trans (And.left hHeld) (Below.mono hb1 (Below.size (And.left hHeld))))
                clear hb1
                go_wp2_with fail
                refine hK.out _ _ ?_ (fun hHeld => ?_)
                · try dsimp only
                  first | assumption | exact HS.out _ (below_draw _ _) | exact HS.out _ (Below.refl _ _)
                clear hK K
                try simp only [Act.put, List.setIfInBounds_toArray, List.set_cons_zero, List.set_cons_succ]
                refine wpAnyH_take (i := 9) (oi := { dst := some 155, op := Op.binOp BinOp.lss 3 (Operand.tmp 154) (Operand.const (Value.int IntKind.i64 0)) 3, type := 4, pos := "law.go:146", after := #[{ on := 8, ground := Ground.data }], guard := none }) (v := ?_) rfl (by kernel_rfl) (by kernel_rfl) (by kernel_rfl) (fun _ _ _ h => h) (Or.inl ⟨by rfl, ?_⟩) (by assumption) ?_
                rotate_left 1
                · intro w hSw
                  (try dsimp only at hSw)
                  go_simp
                  try with_reducible rfl
                try simp only [Act.put, List.setIfInBounds_toArray, List.set_cons_zero, List.set_cons_succ]
                refine wpAnyH_take (i := 10) (oi := { dst := some 156, op := Op.move (Operand.tmp 155), type := 4, pos := "law.go:146", after := #[{ on := 9, ground := Ground.data }, { on := 8, ground := Ground.chain }], guard := none }) (v := ?_) rfl (by kernel_rfl) (by kernel_rfl) (by kernel_rfl) (fun _ _ _ h => h) (Or.inl ⟨by rfl, ?_⟩) (by assumption) ?_
                rotate_left 1
                · intro w hSw
                  (try dsimp only at hSw)
                  go_simp
                  try with_reducible rfl
                try simp only [Act.put, List.setIfInBounds_toArray, List.set_cons_zero, List.set_cons_succ]
                refine wpAnyH_take (i := 11) (oi := { dst := some 157, op := Op.load 31 (Operand.tmp 1), type := 31, pos := "law.go:146", after := #[{ on := 10, ground := Ground.guard }], guard := some (10, false) }) (v := undef) rfl (by kernel_rfl) (by kernel_rfl) (by kernel_rfl) (fun _ _ _ h => h) (Or.inr ⟨by rfl, rfl⟩) (by assumption) ?_
                try simp only [Act.put, List.setIfInBounds_toArray, List.set_cons_zero, List.set_cons_succ]
                refine wpAnyH_take (i := 12) (oi := { dst := some 158, op := Op.fieldAddr 31 (Operand.tmp 1) 1, type := 0, pos := "law.go:146", after := #[{ on := 10, ground := Ground.guard }], guard := some (10, false) }) (v := undef) rfl (by kernel_rfl) (by kernel_rfl) (by kernel_rfl) (fun _ _ _ h => h) (Or.inr ⟨by rfl, rfl⟩) (by assumption) ?_
                try simp only [Act.put, List.setIfInBounds_toArray, List.set_cons_zero, List.set_cons_succ]
                refine wpAnyH_take (i := 13) (oi := { dst := some 159, op := Op.load 28 (Operand.tmp 158), type := 28, pos := "law.go:146", after := #[{ on := 12, ground := Ground.data }, { on := 10, ground := Ground.guard }], guard := some (10, false) }) (v := undef) rfl (by kernel_rfl) (by kernel_rfl) (by kernel_rfl) (fun _ _ _ h => h) (Or.inr ⟨by rfl, rfl⟩) (by assumption) ?_
                try simp only [Act.put, List.setIfInBounds_toArray, List.set_cons_zero, List.set_cons_succ]
                refine wpAnyH_take (i := 14) (oi := { dst := some 160, op := Op.move (Operand.tmp 7), type := 3, pos := "law.go:146", after := #[{ on := 10, ground := Ground.guard }], guard := some (10, false) }) (v := undef) rfl (by kernel_rfl) (by kernel_rfl) (by kernel_rfl) (fun _ _ _ h => h) (Or.inr ⟨by rfl, rfl⟩) (by assumption) ?_
                try simp only [Act.put, List.setIfInBounds_toArray, List.set_cons_zero, List.set_cons_succ]
                refine wpAnyH_take (i := 15) (oi := { dst := some 161, op := Op.indexAddr 28 (Operand.tmp 159) (Operand.tmp 160), type := 0, pos := "law.go:146", after := #[{ on := 13, ground := Ground.data }, { on := 14, ground := Ground.data }, { on := 10, ground := Ground.guard }], guard := some (10, false) }) (v := undef) rfl (by kernel_rfl) (by kernel_rfl) (by kernel_rfl) (fun _ _ _ h => h) (Or.inr ⟨by rfl, rfl⟩) (by assumption) ?_
                try simp only [Act.put, List.setIfInBounds_toArray, List.set_cons_zero, List.set_cons_succ]
                refine wpAnyH_take (i := 16) (oi := { dst := some 162, op := Op.fieldAddr 76 (Operand.tmp 161) 0, type := 0, pos := "law.go:146", after := #[{ on := 15, ground := Ground.data }, { on := 10, ground := Ground.guard }], guard := some (10, false) }) (v := undef) rfl (by kernel_rfl) (by kernel_rfl) (by kernel_rfl) (fun _ _ _ h => h) (Or.inr ⟨by rfl, rfl⟩) (by assumption) ?_
                try simp only [Act.put, List.setIfInBounds_toArray, List.set_cons_zero, List.set_cons_succ]
                refine wpAnyH_take (i := 17) (oi := { dst := some 163, op := Op.fieldAddr 74 (Operand.tmp 162) 1, type := 0, pos := "law.go:146", after := #[{ on := 16, ground := Ground.data }, { on := 10, ground := Ground.guard }], guard := some (10, false) }) (v := undef) rfl (by kernel_rfl) (by kernel_rfl) (by kernel_rfl) (fun _ _ _ h => h) (Or.inr ⟨by rfl, rfl⟩) (by assumption) ?_
                try simp only [Act.put, List.setIfInBounds_toArray, List.set_cons_zero, List.set_cons_succ]
                refine wpAnyH_take (i := 18) (oi := { dst := some 164, op := Op.load 53 (Operand.tmp 163), type := 53, pos := "law.go:146", after := #[{ on := 17, ground := Ground.data }, { on := 10, ground := Ground.guard }], guard := some (10, false) }) (v := undef) rfl (by kernel_rfl) (by kernel_rfl) (by kernel_rfl) (fun _ _ _ h => h) (Or.inr ⟨by rfl, rfl⟩) (by assumption) ?_
                try simp only [Act.put, List.setIfInBounds_toArray, List.set_cons_zero, List.set_cons_succ]
                refine wpAnyH_take (i := 19) (oi := { dst := some 165, op := Op.call { callee := Callee.value (Operand.func 20), args := #[Operand.tmp 157, Operand.tmp 164], argTypes := #[31, 53] }, type := 3, pos := "law.go:146", after := #[{ on := 11, ground := Ground.data }, { on := 18, ground := Ground.data }, { on := 10, ground := Ground.chain }, { on := 10, ground := Ground.guard }], guard := some (10, false) }) (v := undef) rfl (by kernel_rfl) (by kernel_rfl) (by kernel_rfl) (fun _ _ _ h => h) (Or.inr ⟨by rfl, rfl⟩) (by assumption) ?_
                try simp only [Act.put, List.setIfInBounds_toArray, List.set_cons_zero, List.set_cons_succ]
                refine wpAnyH_take (i := 20) (oi := { dst := some 166, op := Op.binOp BinOp.lss 3 (Operand.tmp 165) (Operand.const (Value.int IntKind.i64 0)) 3, type := 4, pos := "law.go:146", after := #[{ on := 19, ground := Ground.data }, { on := 10, ground := Ground.guard }], guard := some (10, false) }) (v := undef) rfl (by kernel_rfl) (by kernel_rfl) (by kernel_rfl) (fun _ _ _ h => h) (Or.inr ⟨by rfl, rfl⟩) (by assumption) ?_
                try simp only [Act.put, List.setIfInBounds_toArray, List.set_cons_zero, List.set_cons_succ]
                refine wpAnyH_take (i := 21) (oi := { dst := some 167, op := Op.pick (Operand.tmp 156) (Operand.const (Value.bool true)) (Operand.tmp 166), type := 4, pos := "law.go:146", after := #[{ on := 10, ground := Ground.data }, { on := 20, ground := Ground.data }], guard := none }) (v := ?_) rfl (by kernel_rfl) (by kernel_rfl) (by kernel_rfl) (fun _ _ _ h => h) (Or.inl ⟨by rfl, ?_⟩) (by assumption) ?_
                rotate_left 1
                · intro w hSw
                  (try dsimp only at hSw)
                  go_simp
                  try with_reducible rfl
                try simp only [Act.put, List.setIfInBounds_toArray, List.set_cons_zero, List.set_cons_succ]
                refine wpAnyH_done (by kernel_rfl) ?_ _
                go_wp2
                go_ret
                exact ⟨ret_int (chk_end HF.out HP1.out HL1.out (i := k) (by have := HLl.out; omega) HQ.out), HB.out.trans ((HB2.out.trans (Below.mono hS1.1 HB2.out.size)).mono HB.out.size)⟩
              · have fA : decide (rA < 0) = false := decide_eq_false hA
                by_cases hBb : rB < 0
                · have fB : decide (rB < 0) = true := decide_eq_true hBb
                  have HQ : Hid (okEnd p.P p.L k = false) := Lib.hid (okEnd_b HX.out (by rw [← RB.out]; exact hBb))
                  go_wp2
                  go_region_held3 (fun W2 => Below wr.heap.size wr W2 ∧ W2.cell? ⟨w.heap.size, 0, none⟩ = some (.slice a n c) ∧ W2.cell? ⟨w.heap.size, 1, none⟩ = some (.slice (some ⟨b, off, none⟩) n' c') ∧ W2.cell? ⟨w.heap.size, 2, none⟩ = some (.int .i64 p.rate) ∧ W2.cell? ⟨w.heap.size, 3, none⟩ = some (.int .i64 p.room) ∧ W2.cell? ⟨w.heap.size, 4, none⟩ = some (.int .i64 p.m0) ∧ W2.cell? ⟨w.heap.size, 5, none⟩ = some (.int .i64 p.m1) ∧ W2.cell? ⟨w.heap.size, 6, none⟩ = some (.int .i64 p.m2) ∧ W2.cell? ⟨b, off + k * 4, none⟩ = some (.int .u16 A) ∧ W2.cell? ⟨b, off + k * 4 + 1, none⟩ = some (.int .u16 B)) (first | assumption | exact HS.out _ (below_draw _ _) | exact HS.out _ (Below.refl _ _) | exact HS.out _ (Below.trans (And.left (by assumption)) (Below.mono (below_draw _ _) (Below.size (And.left (by assumption))))))
                    (first
                      | (go_at_call 20; ((with_reducible refine (HIA.out _ (And.left (by assumption))).mono ?_); rintro e w1 ⟨rfl, hb1⟩); have hS1 := HS.out _ (Below.trans (And.left (by assumption)) (Below.mono hb1 (Below.size (And.left (by assumption))))); clear hb1)
                      | (go_at_call 20; ((with_reducible refine (HIB.out _ (And.left (by assumption))).mono ?_); rintro e w2 ⟨rfl, hb2⟩); have hS2 := HS.out _ (Below.trans (And.left (by assumption)) (Below.mono hb2 (Below.size (And.left (by assumption))))); clear hb2)
                      | fail)
                  go_wp2
                  go_ret
                  exact ⟨ret_int (chk_end HF.out HP1.out HL1.out (i := k) (by have := HLl.out; omega) HQ.out), HB.out.trans ((HB2.out.trans (Below.mono (by first | exact hS2.1 | exact Below.trans hS2.1 (Below.mono (below_draw _ _) hS2.1.size)) HB2.out.size)).mono HB.out.size)⟩
                · have fB : decide (rB < 0) = false := decide_eq_false hBb
                  have HQ : Hid (okEnd p.P p.L k = true) := Lib.hid (okEnd_t HX.out (by rw [← RA.out]; exact hA) (by rw [← RB.out]; exact hBb))
                  go_wp2
                  go_region_held3 (fun W2 => Below wr.heap.size wr W2 ∧ W2.cell? ⟨w.heap.size, 0, none⟩ = some (.slice a n c) ∧ W2.cell? ⟨w.heap.size, 1, none⟩ = some (.slice (some ⟨b, off, none⟩) n' c') ∧ W2.cell? ⟨w.heap.size, 2, none⟩ = some (.int .i64 p.rate) ∧ W2.cell? ⟨w.heap.size, 3, none⟩ = some (.int .i64 p.room) ∧ W2.cell? ⟨w.heap.size, 4, none⟩ = some (.int .i64 p.m0) ∧ W2.cell? ⟨w.heap.size, 5, none⟩ = some (.int .i64 p.m1) ∧ W2.cell? ⟨w.heap.size, 6, none⟩ = some (.int .i64 p.m2) ∧ W2.cell? ⟨b, off + k * 4, none⟩ = some (.int .u16 A) ∧ W2.cell? ⟨b, off + k * 4 + 1, none⟩ = some (.int .u16 B)) (first | assumption | exact HS.out _ (below_draw _ _) | exact HS.out _ (Below.refl _ _) | exact HS.out _ (Below.trans (And.left (by assumption)) (Below.mono (below_draw _ _) (Below.size (And.left (by assumption))))))
                    (first
                      | (go_at_call 20; ((with_reducible refine (HIA.out _ (And.left (by assumption))).mono ?_); rintro e w1 ⟨rfl, hb1⟩); have hS1 := HS.out _ (Below.trans (And.left (by assumption)) (Below.mono hb1 (Below.size (And.left (by assumption))))); clear hb1)
                      | (go_at_call 20; ((with_reducible refine (HIB.out _ (And.left (by assumption))).mono ?_); rintro e w2 ⟨rfl, hb2⟩); have hS2 := HS.out _ (Below.trans (And.left (by assumption)) (Below.mono hb2 (Below.size (And.left (by assumption))))); clear hb2)
                      | fail)
                  go_wp2
                  exact ⟨⟨k + 1, by omega, by go_num, upto_succ HK.out HQ.out, HB2.out.trans (Below.mono (by first | exact hS2.1 | exact Below.trans hS2.1 (Below.mono (below_draw _ _) hS2.1.size)) HB2.out.size)⟩, by simp [intOf]; omega⟩
            · have hkn' : n' = k := by omega
              subst hkn'
              have HE1 : Hid (∀ i, i < p.L.length → okEnd p.P p.L i = true) := Lib.hid (by rw [HLl.out]; exact HK.out)
              have s1 : w.heap.size < wr.heap.size := World.block_lt_of_cell? wr _ g0
              clear HK HL2 HP2 hb hlt
              by_cases n0 : 1 ≤ p.rate
              · have e0 : ¬ p.rate < 1 := by omega
                by_cases n1 : p.rate ≤ 16
                · have e1 : ¬ 16 < p.rate := by omega
                  by_cases n2 : 1 ≤ p.room
                  · have e2 : ¬ p.room < 1 := by omega
                    by_cases n3 : p.room ≤ 64
                    · have e3 : ¬ 64 < p.room := by omega
                      by_cases n4 : 1 ≤ p.m0
                      · have e4 : ¬ p.m0 < 1 := by omega
                        by_cases n5 : p.m0 < p.m1
                        · have e5 : ¬ p.m1 ≤ p.m0 := by omega
                          by_cases n6 : p.m1 < p.m2
                          · have e6 : ¬ p.m2 ≤ p.m1 := by omega
                            by_cases n7 : p.m2 ≤ p.room
                            · have e7 : ¬ p.room < p.m2 := by omega
                              have HN := Lib.hid (num_ok HF.out HP1.out HL1.out HE1.out ⟨n0, n1, n2, n3, n4, n5, n6, n7⟩)
                              go_wp2
                              go_ret
                              exact ⟨ret_int HN.out, HB.out.trans (Below.mono (HB2.out.alloc HB2.out.size _) HB.out.size)⟩
                            · have e7 : p.room < p.m2 := by omega
                              have HN := Lib.hid (num_bad HF.out HP1.out HL1.out HE1.out (by omega))
                              go_wp2
                              go_ret
                              exact ⟨ret_int HN.out, HB.out.trans (Below.mono (HB2.out.alloc HB2.out.size _) HB.out.size)⟩
                          · have e6 : p.m2 ≤ p.m1 := by omega
                            have HN := Lib.hid (num_bad HF.out HP1.out HL1.out HE1.out (by omega))
                            go_wp2
                            go_ret
                            exact ⟨ret_int HN.out, HB.out.trans (Below.mono (HB2.out.alloc HB2.out.size _) HB.out.size)⟩
                        · have e5 : p.m1 ≤ p.m0 := by omega
                          have HN := Lib.hid (num_bad HF.out HP1.out HL1.out HE1.out (by omega))
                          go_wp2
                          go_ret
                          exact ⟨ret_int HN.out, HB.out.trans (Below.mono (HB2.out.alloc HB2.out.size _) HB.out.size)⟩
                      · have e4 : p.m0 < 1 := by omega
                        have HN := Lib.hid (num_bad HF.out HP1.out HL1.out HE1.out (by omega))
                        go_wp2
                        go_ret
                        exact ⟨ret_int HN.out, HB.out.trans (Below.mono (HB2.out.alloc HB2.out.size _) HB.out.size)⟩
                    · have e3 : 64 < p.room := by omega
                      have HN := Lib.hid (num_bad HF.out HP1.out HL1.out HE1.out (by omega))
                      go_wp2
                      go_ret
                      exact ⟨ret_int HN.out, HB.out.trans (Below.mono (HB2.out.alloc HB2.out.size _) HB.out.size)⟩
                  · have e2 : p.room < 1 := by omega
                    have HN := Lib.hid (num_bad HF.out HP1.out HL1.out HE1.out (by omega))
                    go_wp2
                    go_ret
                    exact ⟨ret_int HN.out, HB.out.trans (Below.mono (HB2.out.alloc HB2.out.size _) HB.out.size)⟩
                · have e1 : 16 < p.rate := by omega
                  have HN := Lib.hid (num_bad HF.out HP1.out HL1.out HE1.out (by omega))
                  go_wp2
                  go_ret
                  exact ⟨ret_int HN.out, HB.out.trans (Below.mono (HB2.out.alloc HB2.out.size _) HB.out.size)⟩
              · have e0 : p.rate < 1 := by omega
                have HN := Lib.hid (num_bad HF.out HP1.out HL1.out HE1.out (by omega))
                go_wp2
                go_ret
                exact ⟨ret_int HN.out, HB.out.trans (Below.mono (HB2.out.alloc HB2.out.size _) HB.out.size)⟩
end Go.Proofs.YtgklapjjofclcaaGreatDoor
