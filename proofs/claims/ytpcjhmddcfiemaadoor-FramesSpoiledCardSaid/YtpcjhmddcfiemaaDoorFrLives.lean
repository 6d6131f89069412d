/- Contracts: the examples of frames. -/
import Derived.Test.YtpcjhmddcfiemaaDoorFrN
import Derived.Test.YtpcjhmddcfiemaaDoorLawFr
namespace Go.Proofs.YtpcjhmddcfiemaaDoor
open Go.RowKit

/-- The literal of one list. -/
theorem mat_lit2 (w : World) (l : List Int) (n : Nat) (hn : l.length = n) (h : n ≤ 1000) (hw : ∀ x ∈ l, (Lit.int .u8 x).wf = true) :
    Mat ((w.alloc (.cells (nums .u8 l).toArray 5)).alloc (.cells #[.slice (some ⟨w.heap.size, 0, none⟩) n n] 22)) (fun _ => True) true (some ⟨w.heap.size + 1, 0, none⟩) 1 1 [l] := by
  subst hn
  have h1 := mat_one (P := fun _ => True) (T := true) (w := w.alloc (.cells (nums .u8 l).toArray 5)) (v := .slice (some ⟨w.heap.size, 0, none⟩) l.length l.length) (l := l)
    ⟨_, _, rfl, row_lit .u8 w 5 l _ rfl h hw, fun _ => rfl, fun _ _ => trivial⟩
  rw [World.size_alloc] at h1
  exact h1.weak fun _ _ => trivial
theorem below_alloc2 (w : World) (o o' : Obj) : Below w.heap.size w ((w.alloc o).alloc o') := (below_alloc w o).trans ((below_alloc _ o').mono (by simp))
theorem feed_D : feed Sc.zero [0, 1, 1, 1, 1, 1, 1, 0, 0, 0, 0, 0, 0, 0, 0, 0, 0, 0, 0, 0, 0, 0, 0, 0, 0, 0, 0, 0, 0, 0, 0, 0, 0, 0, 0, 0, 0, 0, 0, 0, 1, 1, 1, 1, 1, 0, 1, 1, 1, 0, 1, 1, 1, 1, 1, 1, 0] = (⟨true, 0, [], 0⟩, [[0, 0, 0, 0, 255]]) := by kernel_rfl
theorem feed_B2 : feed Sc.zero [0, 1, 1, 1, 1, 1, 1, 0, 0, 0, 0, 0, 0, 0, 0, 0, 0, 1, 1, 1, 1, 1, 1, 0] = (⟨true, 0, [], 1⟩, []) := by kernel_rfl
theorem feed_B3 : feed ⟨true, 0, [], 1⟩ [1, 1, 1, 1, 1, 1, 1] = (⟨false, 7, [1, 1, 1, 1, 1, 1, 1], 2⟩, []) := by kernel_rfl
set_option maxHeartbeats 1000000 in
set_option maxRecDepth 100000 in
theorem lives_any (w : World) (hflag : FlagOk w) : Calls Tryd.prog 10 #[] w fun e w' => e = .returned (.bool true) ∧ Below w.heap.size w w' := by
  have BB0 := Lib.hid (Below.refl w.heap.size w)
  have HF0 := Lib.hid hflag
  clear hflag
  have hmk : ∀ w, (Instr.makeSlice 22 (.int .i64 4) (.int .i64 4)).run Tryd.prog w = .ok (.slice (some ⟨w.heap.size, 0, none⟩) 4 4) (w.alloc (.cells (madeCells #[.int .u8 0] 4) 5)) := make8 4 (by omega)
  go_enter Tryd.func10, Tryd.ntmps10
  go_wp2_with fail
  refine (stream_n _ 7 [1, 1, 1, 1, 1, 1, 0] _ rfl (by decide) (by decide)).mono ?_
  rintro e w1 ⟨⟨g1, rfl, r1, hg1⟩, hb⟩
  have BB2 := Lib.hid (BB0.out.trans ((hb).mono BB0.out.size))
  have HF3 := Lib.hid (HF0.out.later (hb))
  have RS4 := Lib.hid (r1)
  clear hb r1 hg1 BB0 HF0
  go_wp2_with fail
  refine (stuff_n _ 7 7 8 _ [1, 1, 1, 1, 1, 0, 1, 0] _ RS4.out (by decide) (by decide) rfl (by decide)).mono ?_
  rintro e w5 ⟨⟨a5, rfl, r5⟩, hb⟩
  have BB6 := Lib.hid (BB2.out.trans ((hb).mono BB2.out.size))
  have HF7 := Lib.hid (HF3.out.later (hb))
  have RA8 := Lib.hid (r5)
  clear hb r5 BB2 HF3 RS4
  go_wp2_with fail
  refine (stream_n _ 7 [1, 1, 1, 1, 1, 0, 1] _ rfl (by decide) (by decide)).mono ?_
  rintro e w9 ⟨⟨g9, rfl, r9, hg9⟩, hb⟩
  have BB10 := Lib.hid (BB6.out.trans ((hb).mono BB6.out.size))
  have HF11 := Lib.hid (HF7.out.later (hb))
  have RA12 := Lib.hid (RA8.out.later (hb))
  have RS13 := Lib.hid (r9)
  clear hb r9 hg9 BB6 HF7 RA8
  go_wp2_with fail
  refine (unstuff_n _ 7 7 6 _ [1, 1, 1, 1, 1, 1] _ RS13.out (by decide) (by decide) (by decide) rfl).mono ?_
  rintro e w14 ⟨⟨a14, rfl, r14⟩, hb⟩
  have BB15 := Lib.hid (BB10.out.trans ((hb).mono BB10.out.size))
  have HF16 := Lib.hid (HF11.out.later (hb))
  have RA17 := Lib.hid (RA12.out.later (hb))
  have RB18 := Lib.hid (r14)
  clear hb r14 BB10 HF11 RA12 RS13
  go_wp2_with fail
  refine (stream_n _ 5 [1, 1, 1, 1, 1] _ rfl (by decide) (by decide)).mono ?_
  rintro e w19 ⟨⟨g19, rfl, r19, hg19⟩, hb⟩
  have BB20 := Lib.hid (BB15.out.trans ((hb).mono BB15.out.size))
  have HF21 := Lib.hid (HF16.out.later (hb))
  have RA22 := Lib.hid (RA17.out.later (hb))
  have RB23 := Lib.hid (RB18.out.later (hb))
  have RS24 := Lib.hid (r19)
  clear hb r19 hg19 BB15 HF16 RA17 RB18
  go_wp2_with fail
  refine (unstuff_form _ 5 5 _ _ RS24.out (by decide) (by decide)).mono ?_
  rintro e w25 ⟨rfl, hb⟩
  have BB26 := Lib.hid (BB20.out.trans ((hb).mono BB20.out.size))
  have HF27 := Lib.hid (HF21.out.later (hb))
  have RA28 := Lib.hid (RA22.out.later (hb))
  have RB29 := Lib.hid (RB23.out.later (hb))
  clear hb BB20 HF21 RA22 RB23 RS24
  go_wp2_with fail
  refine (join_n (fun _ => True) true none 0 0 8 [] flagL _ HF27.out (Mat.nil _ _ _) (by simp) (by decide) rfl rfl).mono ?_
  rintro e w30 ⟨⟨a30, rfl, r30, hl30⟩, hb⟩
  have BB31 := Lib.hid (BB26.out.trans ((hb).mono BB26.out.size))
  have HF32 := Lib.hid (HF27.out.later (hb))
  have RA33 := Lib.hid (RA28.out.later (hb))
  have RB34 := Lib.hid (RB29.out.later (hb))
  have RC35 := Lib.hid (r30)
  clear hb r30 hl30 BB26 HF27 RA28 RB29
  go_wp2_with fail
  refine (frame_bad _ 4 4 [0, 0, 0, 0] _ ((own_made .u8 4 5 w30).row0 4 4 rfl (by decide) (by unfold maxLen; omega) (by decide)) (by unfold lenOk; decide)).mono ?_
  rintro e w36 ⟨rfl, hb⟩
  clear hmk
  have BB37 := Lib.hid (BB31.out.trans (((below_call hb)).mono BB31.out.size))
  have HF38 := Lib.hid (HF32.out.later ((below_call hb)))
  have RA39 := Lib.hid (RA33.out.later ((below_call hb)))
  have RB40 := Lib.hid (RB34.out.later ((below_call hb)))
  have RC41 := Lib.hid (RC35.out.later ((below_call hb)))
  clear hb BB31 HF32 RA33 RB34 RC35
  go_wp2_with fail
  refine (frame_n _ 5 5 57 [0, 0, 0, 0, 255] [0, 1, 1, 1, 1, 1, 1, 0, 0, 0, 0, 0, 0, 0, 0, 0, 0, 0, 0, 0, 0, 0, 0, 0, 0, 0, 0, 0, 0, 0, 0, 0, 0, 0, 0, 0, 0, 0, 0, 0, 1, 1, 1, 1, 1, 0, 1, 1, 1, 0, 1, 1, 1, 1, 1, 1, 0] _ (HF38.out.later (below_alloc _ _)) (row_lit .u8 w36 5 [0, 0, 0, 0, 255] 5 rfl (by decide) (by decide)) (by unfold lenOk; decide) (by decide) rfl).mono ?_
  rintro e w42 ⟨⟨a42, rfl, r42⟩, hb⟩
  have BB43 := Lib.hid (BB37.out.trans (((below_call hb)).mono BB37.out.size))
  have RA44 := Lib.hid (RA39.out.later ((below_call hb)))
  have RB45 := Lib.hid (RB40.out.later ((below_call hb)))
  have RC46 := Lib.hid (RC41.out.later ((below_call hb)))
  have RD47 := Lib.hid (r42)
  clear hb r42 BB37 HF38 RA39 RB40 RC41
  go_wp2_with fail
  refine (stream_n _ 8 [1, 1, 1, 1, 1, 0, 1, 0] _ rfl (by decide) (by decide)).mono ?_
  rintro e w48 ⟨⟨g48, rfl, r48, hg48⟩, hb⟩
  have BB49 := Lib.hid (BB43.out.trans ((hb).mono BB43.out.size))
  have RA50 := Lib.hid (RA44.out.later (hb))
  have RB51 := Lib.hid (RB45.out.later (hb))
  have RC52 := Lib.hid (RC46.out.later (hb))
  have RD53 := Lib.hid (RD47.out.later (hb))
  have RS54 := Lib.hid (r48)
  clear hb r48 hg48 BB43 RA44 RB45 RC46 RD47
  go_wp2_with fail
  refine (bytes_yes _ _ 8 8 8 _ _ RA50.out RS54.out).mono ?_
  rintro e w' ⟨rfl, q55, rfl⟩
  have hb := below_draw w48 q55
  obtain ⟨w55, hw⟩ : ∃ x, x = w48.drewN q55 := ⟨_, rfl⟩
  rw [← hw] at hb ⊢
  have BB56 := Lib.hid (BB49.out.trans ((hb).mono BB49.out.size))
  have RB57 := Lib.hid (RB51.out.later (hb))
  have RC58 := Lib.hid (RC52.out.later (hb))
  have RD59 := Lib.hid (RD53.out.later (hb))
  clear hb hw BB49 RA50 RB51 RC52 RD53 RS54
  go_wp2_with fail
  refine (stream_n _ 6 [1, 1, 1, 1, 1, 1] _ rfl (by decide) (by decide)).mono ?_
  rintro e w60 ⟨⟨g60, rfl, r60, hg60⟩, hb⟩
  have BB61 := Lib.hid (BB56.out.trans ((hb).mono BB56.out.size))
  have RB62 := Lib.hid (RB57.out.later (hb))
  have RC63 := Lib.hid (RC58.out.later (hb))
  have RD64 := Lib.hid (RD59.out.later (hb))
  have RS65 := Lib.hid (r60)
  clear hb r60 hg60 BB56 RB57 RC58 RD59
  go_wp2_with fail
  refine (bytes_yes _ _ 6 6 6 _ _ RB62.out RS65.out).mono ?_
  rintro e w' ⟨rfl, q66, rfl⟩
  have hb := below_draw w60 q66
  obtain ⟨w66, hw⟩ : ∃ x, x = w60.drewN q66 := ⟨_, rfl⟩
  rw [← hw] at hb ⊢
  have BB67 := Lib.hid (BB61.out.trans ((hb).mono BB61.out.size))
  have RC68 := Lib.hid (RC63.out.later (hb))
  have RD69 := Lib.hid (RD64.out.later (hb))
  clear hb hw BB61 RB62 RC63 RD64 RS65
  go_wp2_with fail
  refine (stream_n _ 8 [0, 1, 1, 1, 1, 1, 1, 0] _ rfl (by decide) (by decide)).mono ?_
  rintro e w70 ⟨⟨g70, rfl, r70, hg70⟩, hb⟩
  have BB71 := Lib.hid (BB67.out.trans ((hb).mono BB67.out.size))
  have RC72 := Lib.hid (RC68.out.later (hb))
  have RD73 := Lib.hid (RD69.out.later (hb))
  have RS74 := Lib.hid (r70)
  clear hb r70 hg70 BB67 RC68 RD69
  go_wp2_with fail
  refine (bytes_yes _ _ 8 8 8 _ _ RC72.out RS74.out).mono ?_
  rintro e w' ⟨rfl, q75, rfl⟩
  have hb := below_draw w70 q75
  obtain ⟨w75, hw⟩ : ∃ x, x = w70.drewN q75 := ⟨_, rfl⟩
  rw [← hw] at hb ⊢
  have BB76 := Lib.hid (BB71.out.trans ((hb).mono BB71.out.size))
  have RD77 := Lib.hid (RD73.out.later (hb))
  clear hb hw BB71 RC72 RD73 RS74
  go_wp2_with fail
  refine (stream_n _ 57 [0, 1, 1, 1, 1, 1, 1, 0, 0, 0, 0, 0, 0, 0, 0, 0, 0, 0, 0, 0, 0, 0, 0, 0, 0, 0, 0, 0, 0, 0, 0, 0, 0, 0, 0, 0, 0, 0, 0, 0, 1, 1, 1, 1, 1, 0, 1, 1, 1, 0, 1, 1, 1, 1, 1, 1, 0] _ rfl (by decide) (by decide)).mono ?_
  rintro e w78 ⟨⟨g78, rfl, r78, hg78⟩, hb⟩
  have BB79 := Lib.hid (BB76.out.trans ((hb).mono BB76.out.size))
  have RD80 := Lib.hid (RD77.out.later (hb))
  have RS81 := Lib.hid (r78)
  clear hb r78 hg78 BB76 RD77
  go_wp2_with fail
  refine (bytes_yes _ _ 57 57 57 _ _ RD80.out RS81.out).mono ?_
  rintro e w' ⟨rfl, q82, rfl⟩
  have hb := below_draw w78 q82
  obtain ⟨w82, hw⟩ : ∃ x, x = w78.drewN q82 := ⟨_, rfl⟩
  rw [← hw] at hb ⊢
  have BB83 := Lib.hid (BB79.out.trans ((hb).mono BB79.out.size))
  have RD84 := Lib.hid (RD80.out.later (hb))
  clear hb hw BB79 RD80 RS81
  have hsep := RD84.out.lt (by decide)
  have hzX := BB83.out.size
  go_wp2_with fail
  refine (new_any w82).mono ?_
  rintro e w85 ⟨rfl, hb, hs⟩
  have BB86 := Lib.hid (BB83.out.trans ((hb).mono BB83.out.size))
  have RD87 := Lib.hid (RD84.out.later (hb))
  have SX88 := Lib.hid (hs)
  clear hs BB83 RD84
  clear hb
  go_wp2_with fail
  refine (feed_n w82.heap.size none Sc.zero ⟨true, 0, [], 0⟩ [[0, 0, 0, 0, 255]] 0 1 _ 57 57 _ _ SX88.out RD87.out (by decide) (fun z hz => ⟨by have := hsep z hz; omega, by simp⟩) (by decide) feed_D rfl).mono ?_
  rintro e w89 ⟨a89, gX89, rfl, hmat, hsc, hsn, _⟩
  have hb := hsn.below (Nat.le_of_lt SX88.out.lt.1) (fun k hk => by first | (simp at hk) | exact (SX88.out.lt.2 k hk).1) (Nat.le_refl _)
  have BB90 := Lib.hid (BB86.out.trans (hb.mono hzX))
  have SX91 := Lib.hid (hsc)
  have MX92 := Lib.hid (hmat)
  clear hb hmat hsc hsn BB86 RD87 SX88
  clear hsep
  go_wp2_with fail
  refine (lists_yes _ _ true _ _ 1 1 _ _ (MX92.out.later (below_alloc2 _ _ _)) (mat_lit2 w89 [0, 0, 0, 0, 255] 5 rfl (by decide) (by decide))).mono ?_
  rintro e w' ⟨rfl, q93, rfl⟩
  have hb := (below_alloc2 w89 (.cells (nums .u8 [0, 0, 0, 0, 255]).toArray 5) (.cells #[.slice (some ⟨w89.heap.size, 0, none⟩) 5 5] 22)).trans ((below_draw _ q93).mono (by simp; omega))
  obtain ⟨w93, hw⟩ : ∃ x, x = ((w89.alloc (.cells (nums .u8 [0, 0, 0, 0, 255]).toArray 5)).alloc (.cells #[.slice (some ⟨w89.heap.size, 0, none⟩) 5 5] 22)).drewN q93 := ⟨_, rfl⟩
  rw [← hw] at hb ⊢
  have BB94 := Lib.hid (BB90.out.trans ((hb).mono BB90.out.size))
  have SX95 := Lib.hid (SX91.out.later (hb))
  clear hb hw BB90 SX91 MX92
  go_wp2_with fail
  refine (errors_any w82.heap.size _ _ _ _ SX95.out).mono ?_
  rintro e w' ⟨rfl, rfl⟩
  go_wp2_with fail
  refine (hunting_any w82.heap.size _ _ _ _ SX95.out).mono ?_
  rintro e w' ⟨rfl, rfl⟩
  clear hzX
  clear SX95
  have hzY := BB94.out.size
  go_wp2_with fail
  refine (new_any w93).mono ?_
  rintro e w96 ⟨rfl, hb, hs⟩
  have BB97 := Lib.hid (BB94.out.trans ((hb).mono BB94.out.size))
  have SY98 := Lib.hid (hs)
  clear hs BB94
  clear hb
  go_wp2_with fail
  refine (hunting_any w93.heap.size _ _ _ _ SY98.out).mono ?_
  rintro e w' ⟨rfl, rfl⟩
  go_wp2_with fail
  refine (stream_n _ 24 [0, 1, 1, 1, 1, 1, 1, 0, 0, 0, 0, 0, 0, 0, 0, 0, 0, 1, 1, 1, 1, 1, 1, 0] _ rfl (by decide) (by decide)).mono ?_
  rintro e w99 ⟨⟨g99, rfl, r99, hg99⟩, hb⟩
  have hsY2 := SY98.out.lt.1
  have BB100 := Lib.hid (BB97.out.trans ((hb).mono BB97.out.size))
  have SY101 := Lib.hid (SY98.out.later (hb))
  have RS102 := Lib.hid (r99)
  clear hb r99 BB97 SY98
  go_wp2_with fail
  refine (feed_n w93.heap.size none Sc.zero ⟨true, 0, [], 1⟩ [] 0 0 _ 24 24 _ _ SY101.out RS102.out (by decide) (fun z hz => ⟨by simp at hz; subst hz; simp only; omega, by simp⟩) (by decide) feed_B2 rfl).mono ?_
  rintro e w103 ⟨a103, gY103, rfl, hmat, hsc, hsn, _⟩
  have hb := hsn.below (Nat.le_of_lt SY101.out.lt.1) (fun k hk => by first | (simp at hk) | exact (SY101.out.lt.2 k hk).1) (Nat.le_refl _)
  have BB104 := Lib.hid (BB100.out.trans (hb.mono hzY))
  have SY105 := Lib.hid (hsc)
  have MY106 := Lib.hid (hmat)
  clear hb hmat hsc hsn BB100 SY101 RS102
  clear hg99 hsY2
  go_wp2_with fail
  refine (errors_any w93.heap.size _ _ _ _ SY105.out).mono ?_
  rintro e w' ⟨rfl, rfl⟩
  go_wp2_with fail
  refine (stream_n _ 7 [1, 1, 1, 1, 1, 1, 1] _ rfl (by decide) (by decide)).mono ?_
  rintro e w107 ⟨⟨g107, rfl, r107, hg107⟩, hb⟩
  have hsY2 := SY105.out.lt
  have BB108 := Lib.hid (BB104.out.trans ((hb).mono BB104.out.size))
  have SY109 := Lib.hid (SY105.out.later (hb))
  have RS110 := Lib.hid (r107)
  clear hb r107 BB104 SY105 MY106
  go_wp2_with fail
  refine (feed_n w93.heap.size gY103 ⟨true, 0, [], 1⟩ ⟨false, 7, [1, 1, 1, 1, 1, 1, 1], 2⟩ [] 48 0 _ 7 7 _ _ SY109.out RS110.out (by decide) (fun z hz => ⟨by simp at hz; subst hz; simp only; have := hsY2.1; omega, fun hh => by simp at hz; subst hz; have := (hsY2.2 _ hh).2; simp only at this; omega⟩) (by decide) feed_B3 rfl).mono ?_
  rintro e w111 ⟨a111, gY111, rfl, hmat, hsc, hsn, _⟩
  have hb := hsn.below (Nat.le_of_lt SY109.out.lt.1) (fun k hk => by first | (simp at hk) | exact (SY109.out.lt.2 k hk).1) (Nat.le_refl _)
  have BB112 := Lib.hid (BB108.out.trans (hb.mono hzY))
  have SY113 := Lib.hid (hsc)
  have MY114 := Lib.hid (hmat)
  clear hb hmat hsc hsn BB108 SY109 RS110
  clear hg107 hsY2
  go_wp2_with fail
  refine (errors_any w93.heap.size _ _ _ _ SY113.out).mono ?_
  rintro e w' ⟨rfl, rfl⟩
  go_wp2_with fail
  refine (hunting_any w93.heap.size _ _ _ _ SY113.out).mono ?_
  rintro e w' ⟨rfl, rfl⟩
  go_wp2
  go_ret
  exact ⟨rfl, BB112.out⟩
end Go.Proofs.YtpcjhmddcfiemaaDoor
