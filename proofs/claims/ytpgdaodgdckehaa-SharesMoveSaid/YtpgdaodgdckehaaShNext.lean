/- The code's Next and Link. -/
import Derived.Test.YtpgdaodgdckehaaShPlace
import Derived.Deep.Cut
namespace Go.Proofs.Ytpgdaodgdckehaa
open Go.RowKit

theorem rot_bits : ∀ i : Fin 256, bits BinOp.or IntKind.u8 (bits BinOp.and IntKind.u8 ((i.val : Int) * 4 % 256) 12) (bits BinOp.and IntKind.u8 ((i.val : Int) / 4) 3) = (rotM i.val : Int) := by decide +kernel
theorem rotate_any (x : Nat) (w : World) (h1 : x ≤ 255) :
    Calls Try.prog 26 #[.int .u8 (x : Int)] w fun e w' => e = .returned (.int .u8 (rotM x : Int)) ∧ w = w' := by
  have hb := rot_bits ⟨x, by omega⟩
  simp only at hb
  have HB := Lib.hid hb
  clear hb
  go_enter Try.func26, Try.ntmps26
  go_wp2
  go_ret
  exact ⟨ret_int HB.out, rfl⟩
theorem fl_true (n : Nat) : fl (fun _ => true) n = List.range n := by unfold fl; simp
theorem fl_filter (p q : Nat → Bool) (n : Nat) : fl (fun i => p i && q i) n = (fl p n).filter q := by
  unfold fl; rw [List.filter_filter]; congr 1; funext i; exact Bool.and_comm _ _
theorem rotM_le (s : Nat) : rotM s ≤ 15 := by unfold rotM; omega
set_option maxHeartbeats 1000000 in
theorem link_any (a : Option Addr) (n c : Nat) (Z : List (Int × Int × Int)) (a' : Option Addr) (n' c' : Nat) (U : List Bool) (s : Nat) (w : World) (hn : n ≤ 1000000) (hs : s ≤ 255) (hZ : ZRow w a n c Z) (hU : BRow w a' n' c' U) :
    Calls Try.prog 12 #[.slice a n c, .slice a' n' c', .int .u8 (s : Int)] w fun e w' => e = PlOut (linkM n (upM U) s) ∧ Below w.heap.size w w' := by
  have hba := below_alloc w (.cells #[.slice a' n' c'] 30)
  have hcap : (w.alloc (.cells #[.slice a' n' c'] 30)).cell? ⟨w.heap.size, 0, none⟩ = some (.slice a' n' c') := by have := cell_one_new w (.slice a' n' c') 30 0 _ rfl; exact this
  have hrot := fun W => rotate_any s W hs
  have hrl := rotM_le s
  have hwf := fl_wf (p := fun _ => true) hn
  have hwf2 := fl_wf (p := upM U) hn
  have hm : linkM n (upM U) s = placeM (List.range n) (upM U) (rotM s) := rfl
  generalize hr : rotM s = r at *
  have HBA := Lib.hid hba
  have HCap := Lib.hid hcap
  have HZ := Lib.hid (hZ.later hba)
  have HU := Lib.hid (hU.later hba)
  have HRot := Lib.hid hrot
  have HWf := Lib.hid hwf
  have HWf2 := Lib.hid hwf2
  have HM := Lib.hid hm
  clear hba hrot hwf hwf2 hm hr hZ hU
  go_enter Try.func12, Try.ntmps12
  go_upto_region 1 with fail
  generalize w.alloc (.cells #[.slice a' n' c'] 30) = W at *
  clear hcap
  go_wp2_with fail
  with_reducible refine (colZ1_any a n c Z W hn HZ.out).mono ?_
  rintro e w1 ⟨v1, rfl, hown1, hb1⟩
  rw [fl_true, List.length_range] at hown1
  obtain ⟨u1, d1, rfl, hr1, _⟩ := ownsRow_rowN .i64 hown1 (by have := HWf.out; rw [fl_true] at this; exact this)
  have H1 := Lib.hid hr1
  have HB1 := Lib.hid hb1
  clear hown1 hr1 hb1
  go_wp2_with fail
  have hz1 := HZ.out.later HB1.out
  have hu1 := HU.out.later HB1.out
  have hc1 := cell_later HCap.out HB1.out
  with_reducible refine (colZ2_any a n c Z w.heap.size a' n' c' U w1 hn hz1 hu1 hc1).mono ?_
  rintro e w2 ⟨v2, rfl, hown2, hb2⟩
  obtain ⟨u2, d2, rfl, hr2, _⟩ := ownsRow_rowN .i64 hown2 HWf2.out
  have H1' := Lib.hid (H1.out.later hb2)
  have H2 := Lib.hid hr2
  have HB2 := Lib.hid hb2
  clear hown2 hr2 hb2 hz1 hu1 hc1
  go_wp2_with fail
  with_reducible refine (HRot.out _).mono ?_
  rintro e w' ⟨rfl, rfl⟩
  go_wp2_with fail
  with_reducible refine (place_any u1 n d1 (List.range n) u2 _ d2 (upM U) r w2 H1'.out H2.out (by omega)).mono ?_
  rintro e w' ⟨rfl, rfl⟩
  have hbb := HBA.out.trans ((HB1.out.trans (HB2.out.mono HB1.out.size)).mono HBA.out.size)
  have HBB := Lib.hid hbb
  rw [← HM.out]
  clear hbb
  unfold PlOut
  go_wp2
  go_ret2
  exact ⟨rfl, HBB.out⟩
/-- The choice of a selection code by what the code finds. -/
theorem next_eq {R S : List Int} {q : Nat} (h : (bst R S R.length).1 ≠ 2) :
    nextM R S q = placeM (fl (fun i => R.getD i 0 == (bst R S R.length).2) R.length) (stP S (bst R S R.length).1) q := by
  unfold nextM
  rw [← bst_fst, if_neg h]
  have hf : R.getD (firstK R S (bst R S R.length).1 R.length).toNat 0 = (bst R S R.length).2 := by
    rcases bst_ok R S R.length with h1 | ⟨f, h1, h2, h3, h4⟩
    · exact absurd h1 h
    · rcases firstK_ok R S (bst R S R.length).1 R.length with ⟨_, h5⟩ | ⟨f', e, h5, h6, h7⟩
      · have := h5 f h1
        unfold useM at this
        exact absurd h2 (by simpa using this)
      · have h8 : stM S f' = (bst R S R.length).1 := by unfold useM at h6; simpa using h6
        have h9 := h7 f h1 (by unfold useM; simpa using h2)
        have h10 := h4 f' h5 h8
        rw [e]
        show R.getD f' 0 = _
        omega
  rw [hf]
  rfl
theorem next_none {R S : List Int} {q : Nat} (h : (bst R S R.length).1 = 2) : nextM R S q = -1 := by
  unfold nextM
  rw [← bst_fst, if_pos h]
set_option maxHeartbeats 1000000 in
theorem next_any (a : Option Addr) (n c : Nat) (R : List (Int × Int)) (a' : Option Addr) (n' c' : Nat) (S : List Int) (s : Nat) (w : World) (hn : n ≤ 1000000) (hR : CRow w a n c R) (hS : Row .u8 w a' n' c' S) :
    Calls Try.prog 9 #[.slice a n c, .slice a' n' c', .int .u8 (s : Int)] w fun e w' => e = PlOut (nextM (rks R) S (s % 16)) ∧ Below w.heap.size w w' := by
  have hba := below_alloc w (.cells #[.slice a' n' c'] 23)
  have hcap : (w.alloc (.cells #[.slice a' n' c'] 23)).cell? ⟨w.heap.size, 0, none⟩ = some (.slice a' n' c') := by have := cell_one_new w (.slice a' n' c') 23 0 _ rfl; exact this
  have hl : (rks R).length = n := by rw [rks_length]; exact hR.len
  have HBA := Lib.hid hba
  have HCap := Lib.hid hcap
  have HR := Lib.hid (hR.later hba)
  have HS := Lib.hid (hS.later hba)
  have HL := Lib.hid hl
  have hs16 : (s : Int).tmod 16 = ((s % 16 : Nat) : Int) := by rw [Int.tmod_eq_emod_of_nonneg (Int.natCast_nonneg _)]; rfl
  have hq1 : s % 16 ≤ 15 := by omega
  obtain ⟨q, hq⟩ : ∃ q, q = s % 16 := ⟨_, rfl⟩
  rw [← hq] at hs16 hq1 ⊢
  clear hba hR hS hq hl
  go_enter Try.func9, Try.ntmps9
  go_upto_region 1 with fail
  generalize w.alloc (.cells #[.slice a' n' c'] 23) = W at *
  go_wp2_with fail
  with_reducible refine (best_any a n c R a' n' c' S W HR.out HS.out).mono ?_
  rintro e w1 ⟨rfl, hb1⟩
  have hnone : (bst (rks R) S n).1 = 2 → nextM (rks R) S q = -1 := fun h => next_none (by rw [HL.out]; exact h)
  have hsome : (bst (rks R) S n).1 ≠ 2 → nextM (rks R) S q = placeM (fl (rkP R (bst (rks R) S n).2) n) (stP S (bst (rks R) S n).1) q := fun h => by
    have := next_eq (R := rks R) (S := S) (q := q) (by rw [HL.out]; exact h)
    rw [HL.out] at this; exact this
  generalize bst (rks R) S n = P at *
  obtain ⟨st, rk⟩ := P
  simp only at hnone hsome
  have HB1 := Lib.hid hb1
  have HNo := Lib.hid hnone
  have HSo := Lib.hid hsome
  clear hb1 hnone hsome hcap
  by_cases h2 : st = 2
  · have hM := HNo.out h2
    have HM := Lib.hid hM
    clear hM HNo HSo
    subst h2
    go_wp2
    go_ret2
    refine ⟨?_, ?_⟩
    · rw [HM.out]; rfl
    · exact HBA.out.trans ((HB1.out.trans (((below_alloc _ _).trans ((below_alloc _ _).mono (below_alloc _ _).size)).mono HB1.out.size)).mono HBA.out.size)
  · have h2b : (st == 2) = false := by simpa using h2
    have hM := HSo.out h2
    have HM := Lib.hid hM
    clear hM h2 HNo HSo
    go_upto_region 2 with fail
    have hb2 : Below w1.heap.size w1 ((w1.alloc (.cells #[.int .u8 st] 49)).alloc (.cells #[.int .i64 rk] 3)) := (below_alloc _ _).trans ((below_alloc _ _).mono (below_alloc _ _).size)
    have hst : ((w1.alloc (.cells #[.int .u8 st] 49)).alloc (.cells #[.int .i64 rk] 3)).cell? ⟨w1.heap.size, 0, none⟩ = some (.int .u8 st) :=
      cell_later (by have := cell_one_new w1 (.int .u8 st) 49 0 _ rfl; exact this) (below_alloc _ _)
    have hrk : ((w1.alloc (.cells #[.int .u8 st] 49)).alloc (.cells #[.int .i64 rk] 3)).cell? ⟨w1.heap.size + 1, 0, none⟩ = some (.int .i64 rk) := by
      have := cell_one_new (w1.alloc (.cells #[.int .u8 st] 49)) (.int .i64 rk) 3 0 _ rfl
      simp at this
      exact this
    generalize (w1.alloc (.cells #[.int .u8 st] 49)).alloc (.cells #[.int .i64 rk] 3) = W2 at *
    have hb3 := HB1.out.trans (hb2.mono HB1.out.size)
    have HB3 := Lib.hid hb3
    have hS2 := HS.out.later hb3
    have hR2 := HR.out.later hb3
    have hcap2 := cell_later HCap.out hb3
    have HSt := Lib.hid hst
    have HRk := Lib.hid hrk
    have HS2 := Lib.hid hS2
    have HR2 := Lib.hid hR2
    have HCap2 := Lib.hid hcap2
    clear hb2 hb3 hrk hS2 hR2 hcap2
    go_wp2_with fail
    clear hst
    with_reducible refine (colC1_any a n c R (w1.heap.size + 1) rk W2 hn HR2.out HRk.out).mono ?_
    rintro e w2 ⟨v1, rfl, hown1, hb4⟩
    have hg1 := fl_le (rkP R rk) n
    obtain ⟨u1, d1, rfl, hr1, _⟩ := ownsRow_rowN .i64 hown1 (fl_wf hn)
    have H1 := Lib.hid hr1
    have HB4 := Lib.hid hb4
    clear hown1 hr1 hb4
    go_wp2_with fail
    have hR3 := HR2.out.later HB4.out
    have hS3 := HS2.out.later HB4.out
    have hq3 := cell_later HRk.out HB4.out
    have hs3 := cell_later HCap2.out HB4.out
    have ht3 := cell_later HSt.out HB4.out
    with_reducible refine (colC2_any a n c R (w1.heap.size + 1) w.heap.size w1.heap.size rk st a' n' c' S w2 hn hR3 hS3 hq3 hs3 ht3).mono ?_
    rintro e w3 ⟨v2, rfl, hown2, hb5⟩
    obtain ⟨u2, d2, rfl, hr2, _⟩ := ownsRow_rowN .i64 hown2 (fl_wf hn)
    have H1' := Lib.hid (H1.out.later hb5)
    generalize (fl (rsP R S rk st) n).length = m2 at *
    rw [show fl (rsP R S rk st) n = (fl (rkP R rk) n).filter (stP S st) from fl_filter _ _ n] at hr2
    have H2 := Lib.hid hr2
    have HB5 := Lib.hid hb5
    clear hown2 hr2 hb5 hR3 hS3 hq3 hs3 ht3
    go_wp2_with fail
    with_reducible refine (place_any u1 _ d1 _ u2 m2 d2 (stP S st) q w3 H1'.out H2.out (by omega)).mono ?_
    rintro e w' ⟨rfl, rfl⟩
    have hbb := HBA.out.trans ((HB3.out.trans ((HB4.out.trans (HB5.out.mono HB4.out.size)).mono HB3.out.size)).mono HBA.out.size)
    have HBB := Lib.hid hbb
    rw [← HM.out]
    clear hbb
    unfold PlOut
    go_wp2
    go_ret2
    exact ⟨rfl, HBB.out⟩
end Go.Proofs.Ytpgdaodgdckehaa
