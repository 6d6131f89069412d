/- Contracts: the examples of sums. -/
import Derived.Test.YtkalpjccfknopaaDoorSumsN
namespace Go.Proofs.YtkalpjccfknopaaDoor
open Go.RowKit

set_option maxHeartbeats 1000000 in
set_option maxRecDepth 100000 in
theorem lives_any (w : World) (hbeh : BehindOk w) : Calls Tryd.prog 9 #[] w fun e w' => e = .returned (.bool true) ∧ Below w.heap.size w w' := by
  have h1 : lastTwo [0, 120, 240] 1 = Crc.crc (toN ([0, 120, 240].take 1)) := by decide +kernel
  have h2 : lastTwo [0, 120, 241] 1 ≠ Crc.crc (toN ([0, 120, 241].take 1)) := by decide +kernel
  have h3 : ((Crc.crc (toN []) : Nat) : Int) = 0 := by decide +kernel
  have h4 : ((Crc.crc (toN [49, 50, 51, 52, 53, 54, 55, 56, 57]) : Nat) : Int) = 36974 := by decide +kernel
  have h5 : addL [0] = [0, 120, 240] := by decide +kernel
  have H1 := Lib.hid h1
  have H2 := Lib.hid h2
  have H3 := Lib.hid h3
  have H4 := Lib.hid h4
  have H5 := Lib.hid h5
  clear h1 h2 h3 h4 h5
  have BB0 := Lib.hid (Below.refl w.heap.size w)
  have HB0 := Lib.hid hbeh
  clear hbeh
  have kc := fun (w : World) (C : Array Value) (n c : Nat) => Lib.run_convert_bytes_const (P := Tryd.prog) w 23 5 C n c Tryd.underlying23 Tryd.underlying5
  go_enter Tryd.func9, Tryd.ntmps9
  go_wp2_with fail
  refine (check_ok _ 3 3 1 [0, 120, 240] [0] _ (HB0.out.later (below_alloc _ _)) (row_lit .u8 w 5 [0, 120, 240] 3 rfl (by decide) (by decide)) rfl (by decide) H1.out rfl).mono ?_
  rintro e w1 ⟨⟨g1, rfl, r1, o1, hg1⟩, hb⟩
  have BB2 := Lib.hid (BB0.out.trans (((below_call hb)).mono BB0.out.size))
  have HB3 := Lib.hid (HB0.out.later ((below_call hb)))
  have RA4 := Lib.hid (r1)
  clear hb r1 o1 hg1 BB0 HB0
  go_wp2_with fail
  refine (check_no _ 3 3 1 [0, 120, 241] _ (HB3.out.later (below_alloc _ _)) (row_lit .u8 w1 5 [0, 120, 241] 3 rfl (by decide) (by decide)) rfl (by decide) H2.out).mono ?_
  rintro e w' ⟨rfl, q5, rfl⟩
  have hb := below_call (below_draw (w1.alloc (.cells (nums .u8 [0, 120, 241]).toArray 5)) q5)
  obtain ⟨w5, hw⟩ : ∃ x, x = (w1.alloc (.cells (nums .u8 [0, 120, 241]).toArray 5)).drewN q5 := ⟨_, rfl⟩
  rw [← hw] at hb ⊢
  have BB6 := Lib.hid (BB2.out.trans ((hb).mono BB2.out.size))
  have HB7 := Lib.hid (HB3.out.later (hb))
  have RA8 := Lib.hid (RA4.out.later (hb))
  clear hb hw BB2 HB3 RA4
  go_wp2_with fail
  refine (check_few _ 1 1 _ (by decide)).mono ?_
  rintro e w9 ⟨rfl, hb⟩
  have BB10 := Lib.hid (BB6.out.trans (((below_call hb)).mono BB6.out.size))
  have HB11 := Lib.hid (HB7.out.later ((below_call hb)))
  have RA12 := Lib.hid (RA8.out.later ((below_call hb)))
  clear hb BB6 HB7 RA8
  go_wp2_with fail
  refine (start_any _).mono ?_
  rintro e w' ⟨rfl, rfl⟩
  go_wp2_with fail
  refine (sum_n none 0 0 [] 0 _ HB11.out (Row.of_nil _ _) H3.out).mono ?_
  rintro e w' ⟨rfl, rfl⟩
  go_wp2_with fail
  clear kc
  refine (sum_n _ 9 9 [49, 50, 51, 52, 53, 54, 55, 56, 57] 36974 _ (HB11.out.later (below_alloc _ _)) (row_lit_marked .u8 w9 5 [49, 50, 51, 52, 53, 54, 55, 56, 57] 9 (9, 10) rfl (by decide) (by decide)) H4.out).mono ?_
  rintro e w' ⟨rfl, rfl⟩
  have hb := below_alloc w9 (.cells (nums .u8 [49, 50, 51, 52, 53, 54, 55, 56, 57]).toArray 5 (9, 10))
  have hbw : BehindOk (w9.alloc (.cells (nums .u8 [49, 50, 51, 52, 53, 54, 55, 56, 57]).toArray 5 (9, 10))) := HB11.out.later hb
  have HM := Lib.hid hbw
  have HMB := Lib.hid hb
  clear hb hbw
  go_wp2_with fail
  refine (add_n _ 1 1 3 [0] [0, 120, 240] _ (HM.out.later (below_alloc _ _)) (row_lit2 .u8 w9 _ 5 [0] 1 rfl (by decide) (by decide)) (by decide) rfl H5.out).mono ?_
  rintro e w14 ⟨⟨g14, rfl, r14, o14, hg14⟩, hb⟩
  have BB15 := Lib.hid (BB10.out.trans (((HMB.out.trans ((below_call hb).mono (by simp)))).mono BB10.out.size))
  have HB16 := Lib.hid (HB11.out.later ((HMB.out.trans ((below_call hb).mono (by simp)))))
  have RA17 := Lib.hid (RA12.out.later ((HMB.out.trans ((below_call hb).mono (by simp)))))
  have RB18 := Lib.hid (r14)
  clear hb r14 o14 hg14 HM HMB BB10 HB11 RA12
  go_wp2_with fail
  refine (bytes_yes _ _ 3 3 3 [0, 120, 240] _ (RB18.out.later (below_alloc _ _)) (row_lit .u8 w14 5 [0, 120, 240] 3 rfl (by decide) (by decide))).mono ?_
  rintro e w' ⟨rfl, q19, rfl⟩
  have hb := below_call (below_draw (w14.alloc (.cells (nums .u8 [0, 120, 240]).toArray 5)) q19)
  obtain ⟨w19, hw⟩ : ∃ x, x = (w14.alloc (.cells (nums .u8 [0, 120, 240]).toArray 5)).drewN q19 := ⟨_, rfl⟩
  rw [← hw] at hb ⊢
  have BB20 := Lib.hid (BB15.out.trans ((hb).mono BB15.out.size))
  have HB21 := Lib.hid (HB16.out.later (hb))
  have RA22 := Lib.hid (RA17.out.later (hb))
  clear hb hw BB15 HB16 RA17 RB18
  go_wp2_with fail
  refine (bytes_yes _ _ 1 1 1 [0] _ (RA22.out.later (below_alloc _ _)) (row_lit .u8 w19 5 [0] 1 rfl (by decide) (by decide))).mono ?_
  rintro e w' ⟨rfl, q23, rfl⟩
  have hb := below_call (below_draw (w19.alloc (.cells (nums .u8 [0]).toArray 5)) q23)
  obtain ⟨w23, hw⟩ : ∃ x, x = (w19.alloc (.cells (nums .u8 [0]).toArray 5)).drewN q23 := ⟨_, rfl⟩
  rw [← hw] at hb ⊢
  have BB24 := Lib.hid (BB20.out.trans ((hb).mono BB20.out.size))
  have HB25 := Lib.hid (HB21.out.later (hb))
  clear hb hw BB20 HB21 RA22
  go_wp2
  go_ret
  exact ⟨rfl, BB24.out⟩
end Go.Proofs.YtkalpjccfknopaaDoor
