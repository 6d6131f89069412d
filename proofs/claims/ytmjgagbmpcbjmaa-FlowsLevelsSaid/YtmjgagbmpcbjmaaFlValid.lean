/- Statements of layer 10: valid, and the mathematics of levels. -/
import Derived.Test.YtmjgagbmpcbjmaaFlOne
import Derived.Deep.CutBlock
namespace Go.Proofs.Ytmjgagbmpcbjmaa
open Go.RowKit

def okV (b0 b1 b2 e0 e1 e2 : Int) (k : Nat) : Bool := decide (b0 < b1 ∧ b1 < b2 ∧ e0 ≤ e1 ∧ e1 ≤ e2 ∧ (1 ≤ k → 0 ≤ e0 ∧ e0 < b0) ∧ (2 ≤ k → 0 ≤ e1 ∧ e1 < b1) ∧ (3 ≤ k → 0 ≤ e2 ∧ e2 < b2))
theorem okV_3 (b0 b1 b2 e0 e1 e2 : Int) : okV b0 b1 b2 e0 e1 e2 3 = okM b0 b1 b2 e0 e1 e2 := by unfold okV okM; congr 1; apply propext; omega
theorem ret_v {a b : Bool} (h : a = b) : Value.bool b = Value.bool a := by rw [h]
set_option maxHeartbeats 4000000 in
set_option maxRecDepth 100000 in
theorem valid_any (b0 b1 b2 e0 e1 e2 : Int) (w : World) :
    Calls Try.prog 26 #[.agg #[.int .i64 b0, .int .i64 b1, .int .i64 b2, .int .i64 e0, .int .i64 e1, .int .i64 e2]] w fun e w' => e = .returned (.bool (okM b0 b1 b2 e0 e1 e2)) ∧ Below w.heap.size w w' := by
  obtain ⟨W, hW⟩ : ∃ W, W = w.alloc (.cells #[.int .i64 b0, .int .i64 b1, .int .i64 b2, .int .i64 e0, .int .i64 e1, .int .i64 e2] 52) := ⟨_, rfl⟩
  have o1 : Own W w.heap.size 52 [.int .i64 b0, .int .i64 b1, .int .i64 b2, .int .i64 e0, .int .i64 e1, .int .i64 e2] := by rw [hW]; exact Blk.fresh w _ _ _ rfl
  have hbl : Below w.heap.size w W := by rw [hW]; exact below_alloc w _
  have c0 := o1.cell 0 (by simp)
  have c1 := o1.cell 1 (by simp)
  have c2 := o1.cell 2 (by simp)
  have c3 := o1.cell 3 (by simp)
  have c4 := o1.cell 4 (by simp)
  have c5 := o1.cell 5 (by simp)
  simp only [List.getD_cons_succ, List.getD_cons_zero] at c0 c1 c2 c3 c4 c5
  have HW := Lib.hid hW
  have HO := Lib.hid o1
  have HB := Lib.hid hbl
  obtain ⟨R, hR⟩ : ∃ R, R = okM b0 b1 b2 e0 e1 e2 := ⟨_, rfl⟩
  rw [← hR]
  have HR := Lib.hid hR
  clear hW o1 hbl hR
  go_enter Try.func26, Try.ntmps26
  go_upto_region 1 with fail
  rw [← HW.out]
  clear HW
  obtain ⟨Z, hZ⟩ : ∃ Z, Z = okV b0 b1 b2 e0 e1 e2 0 := ⟨_, rfl⟩
  have HZ := Lib.hid hZ
  clear hZ
  go_cut [3] from 5 (fun v3 wx => v3 = .bool Z ∧ wx = W)
  case first =>
    by_cases h1 : b0 < b1
    · by_cases h2 : b1 < b2
      · by_cases h3 : e0 ≤ e1
        · by_cases h4 : e1 ≤ e2
          · have HF := Lib.hid (And.intro h1 (And.intro h2 (And.intro h3 h4)))
            go_wp2
            go_meet
            have hz : Z = true := by
              rw [HZ.out]
              unfold okV
              exact decide_eq_true (by have := HF.out; omega)
            rw [hz]
            exact ⟨rfl, rfl⟩
          · have HF := Lib.hid (h4)
            go_wp2
            go_meet
            have hz : Z = false := by
              rw [HZ.out]
              unfold okV
              exact decide_eq_false (by have := HF.out; omega)
            rw [hz]
            exact ⟨rfl, rfl⟩
        · have HF := Lib.hid (h3)
          go_wp2
          go_meet
          have hz : Z = false := by
            rw [HZ.out]
            unfold okV
            exact decide_eq_false (by have := HF.out; omega)
          rw [hz]
          exact ⟨rfl, rfl⟩
      · have HF := Lib.hid (h2)
        go_wp2
        go_meet
        have hz : Z = false := by
          rw [HZ.out]
          unfold okV
          exact decide_eq_false (by have := HF.out; omega)
        rw [hz]
        exact ⟨rfl, rfl⟩
    · have HF := Lib.hid (h1)
      go_wp2
      go_meet
      have hz : Z = false := by
        rw [HZ.out]
        unfold okV
        exact decide_eq_false (by have := HF.out; omega)
      rw [hz]
      exact ⟨rfl, rfl⟩
  case rest =>
    obtain ⟨rfl, rfl⟩ := hcut
    go_wp2_with fail
    go_loopw [3, 4] (fun u v wr => ∃ k O, k ≤ 3 ∧ v = .int .i64 (k : Nat) ∧ u = .bool O ∧ O = okV b0 b1 b2 e0 e1 e2 k ∧ Own wr w.heap.size 52 [.int .i64 b0, .int .i64 b1, .int .i64 b2, .int .i64 e0, .int .i64 e1, .int .i64 e2] ∧ Below w.heap.size w wr) (fun _ v _ => 3 - (intOf v).toNat)
    case atStart => exact ⟨0, Z, Nat.zero_le _, rfl, rfl, HZ.out, HO.out, HB.out⟩
    case round =>
      obtain ⟨k, O, hk, rfl, rfl, hO, ho, hb⟩ := hrel
      clear HO HB HZ
      have H := Lib.hid (And.intro hO (And.intro ho hb))
      clear c0 c1 c2 c3 c4 c5
      have c0 := ho.cell 0 (by simp)
      have c1 := ho.cell 1 (by simp)
      have c2 := ho.cell 2 (by simp)
      have c3 := ho.cell 3 (by simp)
      have c4 := ho.cell 4 (by simp)
      have c5 := ho.cell 5 (by simp)
      simp only [List.getD_cons_succ, List.getD_cons_zero] at c0 c1 c2 c3 c4 c5
      have hkk : k = 0 ∨ k = 1 ∨ k = 2 ∨ k = 3 := by omega
      clear hk hO ho hb
      rcases hkk with rfl | rfl | rfl | rfl
      · cases O
        · have HF := Lib.hid (trivial)
          go_wp2_with fail
          go_quiet (fail)
          go_wp2
          refine ⟨⟨1, false, by omega, by go_num, rfl, ?_, H.out.2.1.below (below_draw _ _) H.out.2.1.lt, H.out.2.2.trans ((below_draw _ _).mono H.out.2.2.size)⟩, by simp [intOf]⟩
          have hp := H.out.1
          have hf := HF.out
          clear H HF HR
          symm
          unfold okV at hp ⊢
          exact decide_eq_false (by have := of_decide_eq_false hp.symm; omega)
        · by_cases h1 : 0 ≤ e0
          · have g1 : decide (0 ≤ e0) = true := decide_eq_true h1
            by_cases h2 : e0 < b0
            · have HF := Lib.hid (And.intro h1 h2)
              have g2 : decide (e0 < b0) = true := decide_eq_true h2
              go_wp2_with fail
              go_quiet (fail)
              go_wp2
              refine ⟨⟨1, true, by omega, by go_num, rfl, ?_, H.out.2.1.below (below_draw _ _) H.out.2.1.lt, H.out.2.2.trans ((below_draw _ _).mono H.out.2.2.size)⟩, by simp [intOf]⟩
              have hp := H.out.1
              have hf := HF.out
              clear H HF HR
              symm
              unfold okV at hp ⊢
              exact decide_eq_true (by have := of_decide_eq_true hp.symm; omega)
            · have HF := Lib.hid (h2)
              have g2 : decide (e0 < b0) = false := decide_eq_false h2
              go_wp2_with fail
              go_quiet (fail)
              go_wp2
              refine ⟨⟨1, false, by omega, by go_num, rfl, ?_, H.out.2.1.below (below_draw _ _) H.out.2.1.lt, H.out.2.2.trans ((below_draw _ _).mono H.out.2.2.size)⟩, by simp [intOf]⟩
              have hp := H.out.1
              have hf := HF.out
              clear H HF HR
              symm
              unfold okV at hp ⊢
              exact decide_eq_false (by omega)
          · have g1 : decide (0 ≤ e0) = false := decide_eq_false h1
            have HF0 := Lib.hid h1
            clear h1
            have HF := Lib.hid (HF0.out)
            go_wp2_with fail
            go_quiet (fail)
            go_wp2
            refine ⟨⟨1, false, by omega, by go_num, rfl, ?_, H.out.2.1.below (below_draw _ _) H.out.2.1.lt, H.out.2.2.trans ((below_draw _ _).mono H.out.2.2.size)⟩, by simp [intOf]⟩
            have hp := H.out.1
            have hf := HF.out
            clear H HF HR
            symm
            unfold okV at hp ⊢
            exact decide_eq_false (by omega)
      · cases O
        · have HF := Lib.hid (trivial)
          go_wp2_with fail
          go_quiet (fail)
          go_wp2
          refine ⟨⟨2, false, by omega, by go_num, rfl, ?_, H.out.2.1.below (below_draw _ _) H.out.2.1.lt, H.out.2.2.trans ((below_draw _ _).mono H.out.2.2.size)⟩, by simp [intOf]⟩
          have hp := H.out.1
          have hf := HF.out
          clear H HF HR
          symm
          unfold okV at hp ⊢
          exact decide_eq_false (by have := of_decide_eq_false hp.symm; omega)
        · by_cases h1 : 0 ≤ e1
          · have g1 : decide (0 ≤ e1) = true := decide_eq_true h1
            by_cases h2 : e1 < b1
            · have HF := Lib.hid (And.intro h1 h2)
              have g2 : decide (e1 < b1) = true := decide_eq_true h2
              go_wp2_with fail
              go_quiet (fail)
              go_wp2
              refine ⟨⟨2, true, by omega, by go_num, rfl, ?_, H.out.2.1.below (below_draw _ _) H.out.2.1.lt, H.out.2.2.trans ((below_draw _ _).mono H.out.2.2.size)⟩, by simp [intOf]⟩
              have hp := H.out.1
              have hf := HF.out
              clear H HF HR
              symm
              unfold okV at hp ⊢
              exact decide_eq_true (by have := of_decide_eq_true hp.symm; omega)
            · have HF := Lib.hid (h2)
              have g2 : decide (e1 < b1) = false := decide_eq_false h2
              go_wp2_with fail
              go_quiet (fail)
              go_wp2
              refine ⟨⟨2, false, by omega, by go_num, rfl, ?_, H.out.2.1.below (below_draw _ _) H.out.2.1.lt, H.out.2.2.trans ((below_draw _ _).mono H.out.2.2.size)⟩, by simp [intOf]⟩
              have hp := H.out.1
              have hf := HF.out
              clear H HF HR
              symm
              unfold okV at hp ⊢
              exact decide_eq_false (by omega)
          · have g1 : decide (0 ≤ e1) = false := decide_eq_false h1
            have HF0 := Lib.hid h1
            clear h1
            have HF := Lib.hid (HF0.out)
            go_wp2_with fail
            go_quiet (fail)
            go_wp2
            refine ⟨⟨2, false, by omega, by go_num, rfl, ?_, H.out.2.1.below (below_draw _ _) H.out.2.1.lt, H.out.2.2.trans ((below_draw _ _).mono H.out.2.2.size)⟩, by simp [intOf]⟩
            have hp := H.out.1
            have hf := HF.out
            clear H HF HR
            symm
            unfold okV at hp ⊢
            exact decide_eq_false (by omega)
      · cases O
        · have HF := Lib.hid (trivial)
          go_wp2_with fail
          go_quiet (fail)
          go_wp2
          refine ⟨⟨3, false, by omega, by go_num, rfl, ?_, H.out.2.1.below (below_draw _ _) H.out.2.1.lt, H.out.2.2.trans ((below_draw _ _).mono H.out.2.2.size)⟩, by simp [intOf]⟩
          have hp := H.out.1
          have hf := HF.out
          clear H HF HR
          symm
          unfold okV at hp ⊢
          exact decide_eq_false (by have := of_decide_eq_false hp.symm; omega)
        · by_cases h1 : 0 ≤ e2
          · have g1 : decide (0 ≤ e2) = true := decide_eq_true h1
            by_cases h2 : e2 < b2
            · have HF := Lib.hid (And.intro h1 h2)
              have g2 : decide (e2 < b2) = true := decide_eq_true h2
              go_wp2_with fail
              go_quiet (fail)
              go_wp2
              refine ⟨⟨3, true, by omega, by go_num, rfl, ?_, H.out.2.1.below (below_draw _ _) H.out.2.1.lt, H.out.2.2.trans ((below_draw _ _).mono H.out.2.2.size)⟩, by simp [intOf]⟩
              have hp := H.out.1
              have hf := HF.out
              clear H HF HR
              symm
              unfold okV at hp ⊢
              exact decide_eq_true (by have := of_decide_eq_true hp.symm; omega)
            · have HF := Lib.hid (h2)
              have g2 : decide (e2 < b2) = false := decide_eq_false h2
              go_wp2_with fail
              go_quiet (fail)
              go_wp2
              refine ⟨⟨3, false, by omega, by go_num, rfl, ?_, H.out.2.1.below (below_draw _ _) H.out.2.1.lt, H.out.2.2.trans ((below_draw _ _).mono H.out.2.2.size)⟩, by simp [intOf]⟩
              have hp := H.out.1
              have hf := HF.out
              clear H HF HR
              symm
              unfold okV at hp ⊢
              exact decide_eq_false (by omega)
          · have g1 : decide (0 ≤ e2) = false := decide_eq_false h1
            have HF0 := Lib.hid h1
            clear h1
            have HF := Lib.hid (HF0.out)
            go_wp2_with fail
            go_quiet (fail)
            go_wp2
            refine ⟨⟨3, false, by omega, by go_num, rfl, ?_, H.out.2.1.below (below_draw _ _) H.out.2.1.lt, H.out.2.2.trans ((below_draw _ _).mono H.out.2.2.size)⟩, by simp [intOf]⟩
            have hp := H.out.1
            have hf := HF.out
            clear H HF HR
            symm
            unfold okV at hp ⊢
            exact decide_eq_false (by omega)
      · go_wp2
        go_ret
        have e : O = R := by rw [HR.out, H.out.1, okV_3]
        subst e
        exact ⟨rfl, H.out.2.2⟩
theorem near_all : ∀ lo hi last k : Fin 4, lo ≤ k → k ≤ hi → lo ≤ hi → ¬ (((k.val : Int) - (last.val : Int)) * ((k.val : Int) - (last.val : Int)) < (max (lo.val : Int) (min (last.val : Int) (hi.val : Int)) - (last.val : Int)) * (max (lo.val : Int) (min (last.val : Int) (hi.val : Int)) - (last.val : Int))) := by decide +kernel
/-- No level that is possible lies closer. -/
theorem near (lo hi last k : Int) (h0 : 0 ≤ lo) (h1 : lo ≤ k) (h2 : k ≤ hi) (h3 : hi ≤ 3) (h4 : 0 ≤ last) (h5 : last ≤ 3) : ¬ ((k - last) * (k - last) < (max lo (min last hi) - last) * (max lo (min last hi) - last)) := by
  have := near_all ⟨lo.toNat, by omega⟩ ⟨hi.toNat, by omega⟩ ⟨last.toNat, by omega⟩ ⟨k.toNat, by omega⟩ (by show lo.toNat ≤ k.toNat; omega) (by show k.toNat ≤ hi.toNat; omega) (by show lo.toNat ≤ hi.toNat; omega)
  simp only [show ((lo.toNat : Nat) : Int) = lo by omega, show ((hi.toNat : Nat) : Int) = hi by omega, show ((last.toNat : Nat) : Int) = last by omega, show ((k.toNat : Nat) : Int) = k by omega] at this
  exact this
end Go.Proofs.Ytmjgagbmpcbjmaa
