/- Joined: PcLines PcChk. -/
import Derived.Test.YtdjmopipmeonlaaPlRx
import Derived.Test.YtdjmopipmeonlaaPcArr
import Derived.Test.YtdjmopipmeonlaaLbCmp
import Derived.BigQuiet
import Derived.Deep.RegionHeld3
/- The code's areLines. -/
namespace Go.Proofs.Ytdjmopipmeonlaa
set_option linter.unusedVariables false
open Go.RowKit

def areLn (L : List Ln) : Bool := (List.range L.length).all (okLn L)
theorem areLn_no {L : List Ln} {k : Nat} (hk : k < L.length) (h : okLn L k = false) : areLn L = false := by unfold areLn; rw [all_range_no hk h]
theorem areLn_ok {L : List Ln} (h : ∀ i, i < L.length → okLn L i = true) : areLn L = true := by unfold areLn; rw [all_range.2 h]
theorem ordL_neg (a1 a2 a3 b1 b2 b3 : Int) : ordL a1 a2 a3 b1 b2 b3 < 0 ↔ (a1 < b1 ∨ a1 = b1 ∧ (a2 < b2 ∨ a2 = b2 ∧ a3 < b3)) := by
  unfold ordL orL
  rcases cmpL_cases a1 b1 with ⟨e1, h1⟩ | ⟨e1, h1⟩ | ⟨e1, h1⟩ <;> rcases cmpL_cases a2 b2 with ⟨e2, h2⟩ | ⟨e2, h2⟩ | ⟨e2, h2⟩ <;> rcases cmpL_cases a3 b3 with ⟨e3, h3⟩ | ⟨e3, h3⟩ | ⟨e3, h3⟩ <;> rw [e1, e2, e3] <;> simp <;> omega
set_option maxRecDepth 20000 in
set_option maxHeartbeats 4000000 in
theorem areLines_any (L : List Ln) (a : Option Addr) (n c : Nat) (w : World) (hL : LRow w a n c L) :
    Calls Try.prog 71 #[.slice a n c] w fun e w' => e = .returned (.bool (areLn L)) ∧ Below w.heap.size w w' := by
  have hmax := hL.max
  have hle := hL.le
  unfold maxLen at hmax
  have HP := Lib.hid hL
  have HL := Lib.hid hL.len
  clear hL
  obtain ⟨B0, hB0⟩ : ∃ B0, B0 = areLn L := ⟨_, rfl⟩
  rw [← hB0]
  have HB := Lib.hid hB0
  clear hB0
  go_enter Try.func71, Try.ntmps71
  go_wp2_with fail
  go_loopw [7] (fun i wr => ∃ k : Nat, k ≤ n ∧ i = .int .i64 k ∧ (∀ j, j < k → okLn L j = true) ∧ Below w.heap.size w wr) (fun i _ => n - (intOf i).toNat)
  case atStart => exact ⟨0, Nat.zero_le _, rfl, fun j hj => absurd hj (Nat.not_lt_zero _), Below.refl _ _⟩
  case round =>
    obtain ⟨k, hk, rfl, hno, hb⟩ := hrel
    have HN := Lib.hid hno
    have HB2 := Lib.hid hb
    have HP2 := Lib.hid (HP.out.later hb)
    clear hno hb
    by_cases hkn : k < n
    · obtain ⟨b, off, rfl, hc⟩ := HP2.out.cells.resolve_left (by omega)
      obtain ⟨c0, c1, c2, c3⟩ := hc k hkn
      have HC := Lib.hid hc
      clear hc
      have hbl : b < wr.heap.size := World.block_lt_of_cell? _ _ c0
      obtain ⟨l, hl⟩ : ∃ l, l = lnAt L k := ⟨_, rfl⟩
      rw [← hl] at c0 c1 c2 c3
      have HX := Lib.hid hl
      clear hl
      obtain ⟨A, B, C, D⟩ := l
      simp only at c0 c1 c2 c3
      have hbw := below_alloc wr (.cells #[.int .u16 A, .int .u16 B, .int .u8 C, .int .i64 D] 99)
      have HBW := Lib.hid (HB2.out.trans (hbw.mono HB2.out.size))
      clear hbw
      have NO : Hid (∀ (_ : okLn L k = false), B0 = false) := Lib.hid (fun h => by rw [HB.out, areLn_no (k := k) (by have := HL.out; omega) h])
      by_cases h1 : B ≤ A
      · have HF := Lib.hid (NO.out (okLn_bad HX.out (by omega)))
        go_wp2
        go_ret
        exact ⟨ret_bool HF.out.symm, HBW.out⟩
      by_cases h2 : 15 < C
      · have HF := Lib.hid (NO.out (okLn_bad HX.out (by omega)))
        go_wp2
        go_ret
        exact ⟨ret_bool HF.out.symm, HBW.out⟩
      by_cases h3 : D < 1
      · have HF := Lib.hid (NO.out (okLn_bad HX.out (by omega)))
        go_wp2
        go_ret
        exact ⟨ret_bool HF.out.symm, HBW.out⟩
      by_cases h4 : 64 < D
      · have HF := Lib.hid (NO.out (okLn_bad HX.out (by omega)))
        go_wp2
        go_ret
        exact ⟨ret_bool HF.out.symm, HBW.out⟩
      by_cases h0 : k = 0
      · have HF := Lib.hid (okLn_first HX.out (by omega) (by omega) (by omega) (by omega) h0)
        have k0 : decide (0 < k) = false := by simp; omega
        have H0 := Lib.hid h0
        clear h0
        go_wp2_with fail
        go_quiet (fail)
        go_wp2
        exact ⟨⟨k + 1, by omega, by go_num, upto_succ HN.out HF.out, HBW.out.trans ((below_draw _ _).mono HBW.out.size)⟩, by simp [intOf]; omega⟩
      obtain ⟨m, rfl⟩ : ∃ m, k = m + 1 := ⟨k - 1, by omega⟩
      obtain ⟨e0, e1, e2, e3⟩ := HC.out m (by omega)
      obtain ⟨l2, hl2⟩ : ∃ l2, l2 = lnAt L m := ⟨_, rfl⟩
      rw [← hl2] at e0 e1 e2 e3
      have HZ := Lib.hid hl2
      clear hl2 h0
      obtain ⟨A2, B2, C2, D2⟩ := l2
      simp only at e0 e1 e2 e3
      have k0 : decide (0 < m + 1) = true := by simp
      have w2 : IntKind.i64.wrap (m : Int) = (m : Int) := IntWalk.i64_in _ (by omega)
      have mi0 : (0 : Int) ≤ (m : Int) := by omega
      have mi1 : (m : Int) < (n : Int) := by omega
      have k0i : (0 : Int) < (m : Int) + 1 := by omega
      have k0j : decide ((0 : Int) < (m : Int) + 1) = true := decide_eq_true k0i
      have w1 : IntKind.i64.wrap ((m : Int) + 1 - 1) = (m : Int) := by rw [IntWalk.i64_in _ (by omega)]; omega
      have HCM := Lib.hid (fun W => compare_any A2 B2 C2 A B C W)
      have HO := Lib.hid (ordL_neg A2 B2 C2 A B C)
      obtain ⟨V, hV⟩ : ∃ V, V = ordL A2 B2 C2 A B C := ⟨_, rfl⟩
      rw [← hV] at HCM HO
      clear hV
      by_cases hlt : V < 0
      · have HF := Lib.hid (okLn_next (m := m) HX.out (by omega) (by omega) (by omega) (by omega) (by omega) HZ.out (HO.out.1 hlt))
        have hge : ¬ 0 ≤ V := by omega
        have hged : decide (0 ≤ V) = false := decide_eq_false hge
        clear hlt
        go_wp2_with fail
        have W1b := below_alloc wr (.cells #[.int .u16 A, .int .u16 B, .int .u8 C, .int .i64 D] 99)
        have W1o := own_alloc wr [.int .u16 A, .int .u16 B, .int .u8 C, .int .i64 D] 99
        obtain ⟨W1, hW1⟩ : ∃ W1, W1 = wr.alloc (.cells #[.int .u16 A, .int .u16 B, .int .u8 C, .int .i64 D] 99) := ⟨_, rfl⟩
        rw [← hW1] at HBW ⊢
        have q0 : W1.cell? ⟨wr.heap.size, 0, none⟩ = some (.int .u16 A) := by rw [hW1]; exact W1o.cell 0 (by simp)
        have q1 : W1.cell? ⟨wr.heap.size, 1, none⟩ = some (.int .u16 B) := by rw [hW1]; exact W1o.cell 1 (by simp)
        have q2 : W1.cell? ⟨wr.heap.size, 2, none⟩ = some (.int .u8 C) := by rw [hW1]; exact W1o.cell 2 (by simp)
        have r0 : W1.cell? ⟨b, off + m * 4, none⟩ = some (.int .u16 A2) := by rw [hW1]; exact (W1b.cell hbl).trans e0
        have r1 : W1.cell? ⟨b, off + m * 4 + 1, none⟩ = some (.int .u16 B2) := by rw [hW1]; exact (W1b.cell hbl).trans e1
        have r2 : W1.cell? ⟨b, off + m * 4 + 2, none⟩ = some (.int .u8 C2) := by rw [hW1]; exact (W1b.cell hbl).trans e2
        clear W1b W1o hW1 e0 e1 e2 e3 c0 c1 c2 c3
        have HC2 := Lib.hid ((HCM.out W1.drew).mono (R' := fun e w' => e = .returned (.int .i64 V) ∧ Below W1.heap.size W1 w' ∧ w'.cell? ⟨wr.heap.size, 0, none⟩ = some (.int .u16 A) ∧ w'.cell? ⟨wr.heap.size, 1, none⟩ = some (.int .u16 B) ∧ w'.cell? ⟨wr.heap.size, 2, none⟩ = some (.int .u8 C) ∧ w'.cell? ⟨b, off + m * 4, none⟩ = some (.int .u16 A2) ∧ w'.cell? ⟨b, off + m * 4 + 1, none⟩ = some (.int .u16 B2) ∧ w'.cell? ⟨b, off + m * 4 + 2, none⟩ = some (.int .u8 C2)) fun e w' h => by
          have hbx : Below W1.heap.size W1 w' := (below_draw W1 1).trans h.2
          have z1 := World.block_lt_of_cell? W1 _ q0
          have z2 := World.block_lt_of_cell? W1 _ r0
          exact ⟨h.1, hbx, (hbx.cell (p := ⟨wr.heap.size, 0, none⟩) z1).trans q0, (hbx.cell (p := ⟨wr.heap.size, 1, none⟩) z1).trans q1, (hbx.cell (p := ⟨wr.heap.size, 2, none⟩) z1).trans q2, (hbx.cell (p := ⟨b, off + m * 4, none⟩) z2).trans r0, (hbx.cell (p := ⟨b, off + m * 4 + 1, none⟩) z2).trans r1, (hbx.cell (p := ⟨b, off + m * 4 + 2, none⟩) z2).trans r2⟩)
        clear HCM
        go_region_held3 (fun W => W.cell? ⟨wr.heap.size, 0, none⟩ = some (.int .u16 A) ∧ W.cell? ⟨wr.heap.size, 1, none⟩ = some (.int .u16 B) ∧ W.cell? ⟨wr.heap.size, 2, none⟩ = some (.int .u8 C) ∧ W.cell? ⟨b, off + m * 4, none⟩ = some (.int .u16 A2) ∧ W.cell? ⟨b, off + m * 4 + 1, none⟩ = some (.int .u16 B2) ∧ W.cell? ⟨b, off + m * 4 + 2, none⟩ = some (.int .u8 C2)) (first | go_keep | assumption) (first | (go_at_call 88; ((with_reducible refine HC2.out.mono ?_); rintro e w1 ⟨rfl, hb1, s1, s2, s3, s4, s5, s6⟩); have HB1 := Lib.hid hb1; clear hb1) | fail)
        go_wp2
        exact ⟨⟨m + 1 + 1, by omega, by go_num, upto_succ HN.out HF.out, HBW.out.trans (HB1.out.mono HBW.out.size)⟩, by simp [intOf]; omega⟩
      · have HF := Lib.hid (NO.out (okLn_not (m := m) HX.out (by omega) HZ.out (by omega) (fun h => hlt (HO.out.2 h))))
        have hge : 0 ≤ V := by omega
        have hged : decide (0 ≤ V) = true := decide_eq_true hge
        clear hlt
        go_wp2_with fail
        have W1b := below_alloc wr (.cells #[.int .u16 A, .int .u16 B, .int .u8 C, .int .i64 D] 99)
        have W1o := own_alloc wr [.int .u16 A, .int .u16 B, .int .u8 C, .int .i64 D] 99
        obtain ⟨W1, hW1⟩ : ∃ W1, W1 = wr.alloc (.cells #[.int .u16 A, .int .u16 B, .int .u8 C, .int .i64 D] 99) := ⟨_, rfl⟩
        rw [← hW1] at HBW ⊢
        have q0 : W1.cell? ⟨wr.heap.size, 0, none⟩ = some (.int .u16 A) := by rw [hW1]; exact W1o.cell 0 (by simp)
        have q1 : W1.cell? ⟨wr.heap.size, 1, none⟩ = some (.int .u16 B) := by rw [hW1]; exact W1o.cell 1 (by simp)
        have q2 : W1.cell? ⟨wr.heap.size, 2, none⟩ = some (.int .u8 C) := by rw [hW1]; exact W1o.cell 2 (by simp)
        have r0 : W1.cell? ⟨b, off + m * 4, none⟩ = some (.int .u16 A2) := by rw [hW1]; exact (W1b.cell hbl).trans e0
        have r1 : W1.cell? ⟨b, off + m * 4 + 1, none⟩ = some (.int .u16 B2) := by rw [hW1]; exact (W1b.cell hbl).trans e1
        have r2 : W1.cell? ⟨b, off + m * 4 + 2, none⟩ = some (.int .u8 C2) := by rw [hW1]; exact (W1b.cell hbl).trans e2
        clear W1b W1o hW1 e0 e1 e2 e3 c0 c1 c2 c3
        have HC2 := Lib.hid ((HCM.out W1.drew).mono (R' := fun e w' => e = .returned (.int .i64 V) ∧ Below W1.heap.size W1 w' ∧ w'.cell? ⟨wr.heap.size, 0, none⟩ = some (.int .u16 A) ∧ w'.cell? ⟨wr.heap.size, 1, none⟩ = some (.int .u16 B) ∧ w'.cell? ⟨wr.heap.size, 2, none⟩ = some (.int .u8 C) ∧ w'.cell? ⟨b, off + m * 4, none⟩ = some (.int .u16 A2) ∧ w'.cell? ⟨b, off + m * 4 + 1, none⟩ = some (.int .u16 B2) ∧ w'.cell? ⟨b, off + m * 4 + 2, none⟩ = some (.int .u8 C2)) fun e w' h => by
          have hbx : Below W1.heap.size W1 w' := (below_draw W1 1).trans h.2
          have z1 := World.block_lt_of_cell? W1 _ q0
          have z2 := World.block_lt_of_cell? W1 _ r0
          exact ⟨h.1, hbx, (hbx.cell (p := ⟨wr.heap.size, 0, none⟩) z1).trans q0, (hbx.cell (p := ⟨wr.heap.size, 1, none⟩) z1).trans q1, (hbx.cell (p := ⟨wr.heap.size, 2, none⟩) z1).trans q2, (hbx.cell (p := ⟨b, off + m * 4, none⟩) z2).trans r0, (hbx.cell (p := ⟨b, off + m * 4 + 1, none⟩) z2).trans r1, (hbx.cell (p := ⟨b, off + m * 4 + 2, none⟩) z2).trans r2⟩)
        clear HCM
        go_region_held3 (fun W => W.cell? ⟨wr.heap.size, 0, none⟩ = some (.int .u16 A) ∧ W.cell? ⟨wr.heap.size, 1, none⟩ = some (.int .u16 B) ∧ W.cell? ⟨wr.heap.size, 2, none⟩ = some (.int .u8 C) ∧ W.cell? ⟨b, off + m * 4, none⟩ = some (.int .u16 A2) ∧ W.cell? ⟨b, off + m * 4 + 1, none⟩ = some (.int .u16 B2) ∧ W.cell? ⟨b, off + m * 4 + 2, none⟩ = some (.int .u8 C2)) (first | go_keep | assumption) (first | (go_at_call 88; ((with_reducible refine HC2.out.mono ?_); rintro e w1 ⟨rfl, hb1, s1, s2, s3, s4, s5, s6⟩); have HB1 := Lib.hid hb1; clear hb1) | fail)
        go_wp2
        go_ret
        exact ⟨ret_bool HF.out.symm, HBW.out.trans (HB1.out.mono HBW.out.size)⟩
    · have hkn' : k = n := by omega
      subst hkn'
      have HF := Lib.hid (areLn_ok (L := L) (by rw [HL.out]; exact HN.out))
      go_wp2
      go_ret
      exact ⟨ret_bool (by rw [HB.out, HF.out]), HB2.out⟩
end Go.Proofs.Ytdjmopipmeonlaa
/- The code's hasPlaces, hasEnds, hasNumbers. -/
namespace Go.Proofs.Ytdjmopipmeonlaa
set_option linter.unusedVariables false
open Go.RowKit

set_option maxHeartbeats 1000000 in
theorem hasPlaces_any (p : Pn) (a : Option Addr) (n c : Nat) (a' : Option Addr) (n' c' : Nat) (g : Nat) (l : List Int) (m : Nat) (hm : l.length = m) (hm2 : m ≤ 3) (w : World) (hP : PRow w a n c p.P) (hg : Own w g 40 (nums .u16 l)) :
    Calls Try.prog 56 #[planV a n c a' n' c' p, .slice (some ⟨g, 0, none⟩) m m] w fun e w' => e = .returned (.bool (!badI p.P l)) ∧ Below w.heap.size w w' := by
  unfold planV
  obtain ⟨W, hW⟩ : ∃ W, W = w.alloc (.cells (planCells a n c a' n' c' p).toArray 33) := ⟨_, rfl⟩
  have hB : Below w.heap.size w W := by rw [hW]; exact below_alloc _ _
  have hA : PlanAt W w.heap.size a n c a' n' c' p := by rw [hW]; exact PlanAt.new _ _ _ _ _ _ _ _
  have hC := contains_any p a n c a' n' c' w.heap.size g l m hm hm2 W hA (hP.later hB) (hg.below hB hg.lt)
  have HC := Lib.hid hC
  have HB := Lib.hid hB
  clear hC hA hB hP hg hm
  go_enter Try.func56, Try.ntmps56
  go_wp2_with fail
  show Calls _ _ _ (w.alloc (.cells (planCells a n c a' n' c' p).toArray 33)) _
  rw [← hW]
  clear hW
  with_reducible refine HC.out.mono ?_
  rintro e w' ⟨rfl, hb⟩
  have HB2 := Lib.hid hb
  clear hb
  go_wp2
  go_ret
  exact ⟨rfl, HB.out.trans (HB2.out.mono HB.out.size)⟩
def hasEn (p : Pn) : Bool := (List.range p.L.length).all (okEnd p.P p.L)
theorem hasEn_no {p : Pn} {k : Nat} (hk : k < p.L.length) (h : okEnd p.P p.L k = false) : hasEn p = false := by unfold hasEn; rw [all_range_no hk h]
theorem hasEn_ok {p : Pn} (h : ∀ i, i < p.L.length → okEnd p.P p.L i = true) : hasEn p = true := by unfold hasEn; rw [all_range.2 h]
theorem badI_two {P : List (Int × Bool)} {L : List Ln} {k : Nat} {A B C D : Int} (h : ⟨A, B, C, D⟩ = lnAt L k) : okEnd P L k = !badI P [A, B] := by
  have e : badI P [A, B] = (!isB P A || !isB P B) := by simp [badI]
  rw [e]
  unfold okEnd isB
  rw [← h]
  show ((fnd P A).isSome && (fnd P B).isSome) = !(!(fnd P A).isSome || !(fnd P B).isSome)
  generalize (fnd P A).isSome = x
  generalize (fnd P B).isSome = y
  cases x <;> cases y <;> rfl
set_option maxHeartbeats 2000000 in
theorem hasEnds_any (p : Pn) (a : Option Addr) (n c : Nat) (a' : Option Addr) (n' c' : Nat) (w : World) (hP : PRow w a n c p.P) (hL : LRow w a' n' c' p.L) :
    Calls Try.prog 72 #[planV a n c a' n' c' p] w fun e w' => e = .returned (.bool (hasEn p)) ∧ Below w.heap.size w w' := by
  unfold planV
  obtain ⟨W, hW⟩ : ∃ W, W = w.alloc (.cells (planCells a n c a' n' c' p).toArray 33) := ⟨_, rfl⟩
  have hB : Below w.heap.size w W := by rw [hW]; exact below_alloc _ _
  have hA : PlanAt W w.heap.size a n c a' n' c' p := by rw [hW]; exact PlanAt.new _ _ _ _ _ _ _ _
  have hmax := hL.max
  have hle := hL.le
  unfold maxLen at hmax
  have HLl := Lib.hid hL.len
  have HP := Lib.hid (hP.later hB)
  have HL := Lib.hid (hL.later hB)
  obtain ⟨B0, hB0⟩ : ∃ B0, B0 = hasEn p := ⟨_, rfl⟩
  rw [← hB0]
  have HR := Lib.hid hB0
  clear hB0
  go_enter Try.func72, Try.ntmps72
  go_wp2_with fail
  show Code.wp _ _ _ _ (w.alloc (.cells (planCells a n c a' n' c' p).toArray 33))
  rw [← hW]
  obtain ⟨g0, g1, _⟩ := hA.cells
  have HA := Lib.hid hA
  have HB := Lib.hid hB
  have hlt0 : w.heap.size < W.heap.size := hA.lt
  clear hA hB hW hP hL g0
  go_wp2_with fail
  clear g1
  have hC := fun (g : Nat) (A B : Int) (W : World) (hp : PRow W a n c p.P) (hg : Own W g 40 (nums .u16 [A, B])) => hasPlaces_any p a n c a' n' c' g [A, B] 2 rfl (by omega) W hp hg
  simp only [planV] at hC
  have HC := Lib.hid hC
  clear hC
  go_loopw [8] (fun i wr => ∃ k : Nat, k ≤ n' ∧ i = .int .i64 k ∧ (∀ j, j < k → okEnd p.P p.L j = true) ∧ Below W.heap.size W wr) (fun i _ => n' - (intOf i).toNat)
  case atStart => exact ⟨0, Nat.zero_le _, rfl, fun j hj => absurd hj (Nat.not_lt_zero _), Below.refl _ _⟩
  case round =>
    obtain ⟨k, hk, rfl, hno, hb⟩ := hrel
    have HN := Lib.hid hno
    have HB2 := Lib.hid hb
    obtain ⟨g0, g1, g2, g3, g4, g5, g6⟩ := (HA.out.later hb).cells
    have HL2 := Lib.hid (HL.out.later hb)
    have hlt1 : w.heap.size < wr.heap.size := Nat.lt_of_lt_of_le hlt0 hb.size
    clear hno hb
    by_cases hkn : k < n'
    · obtain ⟨b, off, rfl, hc⟩ := HL2.out.cells.resolve_left (by omega)
      obtain ⟨c0, c1, c2, c3⟩ := hc k hkn
      clear hc
      have hbl : b < wr.heap.size := World.block_lt_of_cell? _ _ c0
      obtain ⟨l, hl⟩ : ∃ l, l = lnAt p.L k := ⟨_, rfl⟩
      rw [← hl] at c0 c1 c2 c3
      have HX := Lib.hid hl
      clear hl
      obtain ⟨A, B, C, D⟩ := l
      simp only at c0 c1 c2 c3
      go_wp2_with fail
      have hbx : Below W.heap.size W ((wr.alloc (.cells #[.int .u16 A, .int .u16 B, .int .u8 C, .int .i64 D] 99)).alloc (.cells #[.int .u16 A, .int .u16 B] 40)) := HB2.out.trans ((below_two wr _ _).mono HB2.out.size)
      have ho : Own ((wr.alloc (.cells #[.int .u16 A, .int .u16 B, .int .u8 C, .int .i64 D] 99)).alloc (.cells #[.int .u16 A, .int .u16 B] 40)) (wr.heap.size + 1) 40 (nums .u16 [A, B]) := by
        have := own_alloc (wr.alloc (.cells #[.int .u16 A, .int .u16 B, .int .u8 C, .int .i64 D] 99)) (nums .u16 [A, B]) 40
        rwa [World.size_alloc] at this
      have hCx := HC.out _ A B _ (HP.out.later hbx) ho
      obtain ⟨R, hR⟩ : ∃ R, R = !badI p.P [A, B] := ⟨_, rfl⟩
      rw [← hR] at hCx
      have HRR := Lib.hid hR
      have HCx := Lib.hid hCx
      have HBx := Lib.hid hbx
      clear hCx hbx ho hR c0 c1 c2 c3 g0 g1 g2 g3 g4 g5 g6
      with_reducible refine HCx.out.mono ?_
      rintro e w' ⟨rfl, hb⟩
      have HB3 := Lib.hid (HBx.out.trans (hb.mono HBx.out.size))
      clear hb HCx
      have HK := Lib.hid (badI_two (P := p.P) HX.out)
      cases R
      · have HF := Lib.hid (hasEn_no (p := p) (k := k) (by have := HLl.out; omega) (by rw [HK.out]; exact HRR.out.symm))
        go_wp2
        go_ret
        exact ⟨ret_bool (by rw [HR.out, HF.out]), HB.out.trans (HB3.out.mono HB.out.size)⟩
      · have HF := Lib.hid (show okEnd p.P p.L k = true by rw [HK.out]; exact HRR.out.symm)
        go_wp2
        exact ⟨⟨k + 1, by omega, by go_num, upto_succ HN.out HF.out, HB3.out⟩, by simp [intOf]; omega⟩
    · have hkn' : k = n' := by omega
      subst hkn'
      have HF := Lib.hid (hasEn_ok (p := p) (by rw [HLl.out]; exact HN.out))
      go_wp2
      go_ret
      exact ⟨ret_bool (by rw [HR.out, HF.out]), HB.out.trans (HB2.out.mono HB.out.size)⟩
set_option maxHeartbeats 2000000 in
theorem hasNumbers_any (p : Pn) (a : Option Addr) (n c : Nat) (a' : Option Addr) (n' c' : Nat) (w : World) :
    Calls Try.prog 73 #[planV a n c a' n' c' p] w fun e w' => e = .returned (.bool (okNum p)) ∧ Below w.heap.size w w' := by
  unfold planV
  obtain ⟨ra, hra⟩ : ∃ x, x = p.rate := ⟨_, rfl⟩
  obtain ⟨ro, hro⟩ : ∃ x, x = p.room := ⟨_, rfl⟩
  obtain ⟨x0, h0⟩ : ∃ x, x = p.m0 := ⟨_, rfl⟩
  obtain ⟨x1, h1⟩ : ∃ x, x = p.m1 := ⟨_, rfl⟩
  obtain ⟨x2, h2⟩ : ∃ x, x = p.m2 := ⟨_, rfl⟩
  obtain ⟨R, hR⟩ : ∃ R, R = okNum p := ⟨_, rfl⟩
  rw [← hR]
  unfold okNum at hR
  rw [← hra, ← hro, ← h0, ← h1, ← h2] at hR ⊢
  clear hra hro h0 h1 h2
  have HR := Lib.hid hR
  clear hR
  have hb := below_two w (.cells #[.slice a n c, .slice a' n' c', .int .i64 ra, .int .i64 ro, .int .i64 x0, .int .i64 x1, .int .i64 x2] 33) (.cells #[.int .i64 x0, .int .i64 x1, .int .i64 x2] 31)
  have HB := Lib.hid hb
  clear hb
  by_cases h1 : 1 ≤ ra
  case neg =>
    go_enter Try.func73, Try.ntmps73
    go_wp2
    go_ret
    exact ⟨ret_bool (by rw [HR.out]; symm; simp only [Bool.and_eq_false_iff, decide_eq_false_iff_not]; omega), HB.out⟩
  by_cases h2 : ra ≤ 16
  case neg =>
    go_enter Try.func73, Try.ntmps73
    go_wp2
    go_ret
    exact ⟨ret_bool (by rw [HR.out]; symm; simp only [Bool.and_eq_false_iff, decide_eq_false_iff_not]; omega), HB.out⟩
  by_cases h3 : 1 ≤ ro
  case neg =>
    go_enter Try.func73, Try.ntmps73
    go_wp2
    go_ret
    exact ⟨ret_bool (by rw [HR.out]; symm; simp only [Bool.and_eq_false_iff, decide_eq_false_iff_not]; omega), HB.out⟩
  by_cases h4 : ro ≤ 64
  case neg =>
    go_enter Try.func73, Try.ntmps73
    go_wp2
    go_ret
    exact ⟨ret_bool (by rw [HR.out]; symm; simp only [Bool.and_eq_false_iff, decide_eq_false_iff_not]; omega), HB.out⟩
  by_cases h5 : 1 ≤ x0
  case neg =>
    go_enter Try.func73, Try.ntmps73
    go_wp2
    go_ret
    exact ⟨ret_bool (by rw [HR.out]; symm; simp only [Bool.and_eq_false_iff, decide_eq_false_iff_not]; omega), HB.out⟩
  by_cases h6 : x0 < x1
  case neg =>
    go_enter Try.func73, Try.ntmps73
    go_wp2
    go_ret
    exact ⟨ret_bool (by rw [HR.out]; symm; simp only [Bool.and_eq_false_iff, decide_eq_false_iff_not]; omega), HB.out⟩
  by_cases h7 : x1 < x2
  case neg =>
    go_enter Try.func73, Try.ntmps73
    go_wp2
    go_ret
    exact ⟨ret_bool (by rw [HR.out]; symm; simp only [Bool.and_eq_false_iff, decide_eq_false_iff_not]; omega), HB.out⟩
  by_cases h8 : x2 ≤ ro
  case neg =>
    go_enter Try.func73, Try.ntmps73
    go_wp2
    go_ret
    exact ⟨ret_bool (by rw [HR.out]; symm; simp only [Bool.and_eq_false_iff, decide_eq_false_iff_not]; omega), HB.out⟩
  go_enter Try.func73, Try.ntmps73
  go_wp2
  go_ret
  exact ⟨ret_bool (by rw [HR.out]; symm; simp only [Bool.and_eq_true, decide_eq_true_eq]; omega), HB.out⟩
end Go.Proofs.Ytdjmopipmeonlaa
