import Derived.Test.YtdjmopipmeonlaaTfTellA
/- A table's Hear. -/
namespace Go.Proofs.Ytdjmopipmeonlaa
set_option linter.unusedVariables false
open Go.RowKit Go.Maps

def noteV (n d s : Int) : Value := .agg #[.int .u16 n, .int .u16 d, .int .u8 s]
theorem isDest_q {y : Tl} {T : Tb} (n : Int) (w : World) (h : TbAt w y T) (hn : (Lit.int .u16 n).wf = true) : Calls Try.prog 36 #[.pointer (some ⟨y.tb, 0, none⟩), .int .u16 n] w fun e w' => e = .returned (.bool (decide (n ∈ T.D))) ∧ w' = w :=
  (isDestination_same n w h hn).mono fun _ _ h => ⟨h.1, h.2.symm⟩
theorem isEmpty_q {y : Tl} {T : Tb} (w : World) (h : TbAt w y T) : Calls Try.prog 35 #[.pointer (some ⟨y.tb, 0, none⟩)] w fun e w' => e = .returned (.bool false) ∧ w' = w :=
  (isEmpty_any w h).mono fun _ _ h => ⟨h.1, h.2.symm⟩
set_option maxRecDepth 100000 in
theorem hear_nul (a : Option Addr) (n d s : Int) (w : World) (h : Nul w a) : Calls Try.prog 26 #[.pointer a, noteV n d s] w fun e w' => e = .returned (.int .i64 2) ∧ Below w.heap.size w w' := by
  have hb := below_alloc w (.cells #[.int .u16 n, .int .u16 d, .int .u8 s] 54)
  have HE := Lib.hid (check_nul a n _ (h.later hb))
  have HB := Lib.hid hb
  unfold noteV
  clear h hb
  go_enter Try.func26, Try.ntmps26
  go_wp2_with fail
  with_reducible refine HE.out.mono ?_
  rintro e w' ⟨rfl, rfl⟩
  go_wp2
  go_ret
  exact ⟨rfl, HB.out⟩
set_option maxRecDepth 100000 in
theorem hear_no {y : Tl} {T : Tb} (n d s : Int) (w : World) (h : TbAt w y T) (hn : (Lit.int .u16 n).wf = true) (hN : n ∉ T.N) : Calls Try.prog 26 #[.pointer (some ⟨y.tb, 0, none⟩), noteV n d s] w fun e w' => e = .returned (.int .i64 7) ∧ Below w.heap.size w w' := by
  obtain ⟨W, hW⟩ : ∃ W, W = w.alloc (.cells #[.int .u16 n, .int .u16 d, .int .u8 s] 54) := ⟨_, rfl⟩
  have hb : Below w.heap.size w W := by rw [hW]; exact below_alloc w _
  have ho : Own W w.heap.size 54 [.int .u16 n, .int .u16 d, .int .u8 s] := by rw [hW]; exact heap_alloc_new w _
  have hA := h.below hb
  have hE := check_any n W hA hn
  rw [if_neg hN] at hE
  have HE := Lib.hid hE
  have HB := Lib.hid hb
  have n0 := ho.cell 0 (by simp)
  have n1 := ho.cell 1 (by simp)
  have n2 := ho.cell 2 (by simp)
  simp only [List.getD_cons_zero, List.getD_cons_succ] at n0 n1 n2
  unfold noteV
  clear h hb hA hE ho hn hN
  go_enter Try.func26, Try.ntmps26
  go_upto_region 1 with (fail)
  show Code.wp _ _ _ _ (w.alloc (.cells #[.int .u16 n, .int .u16 d, .int .u8 s] 54))
  rw [← hW]
  clear hW
  go_wp2_with fail
  with_reducible refine HE.out.mono ?_
  rintro e w1 ⟨rfl, hb⟩
  have HB1 := Lib.hid (HB.out.trans (hb.mono HB.out.size))
  clear hb
  go_wp2
  go_ret
  exact ⟨rfl, HB1.out⟩
set_option maxRecDepth 100000 in
set_option maxHeartbeats 1000000 in
theorem hear_none {y : Tl} {T : Tb} (n d s : Int) (w : World) (h : TbAt w y T) (hN : n ∈ T.N) (hd : (Lit.int .u16 d).wf = true) (hm : d ≠ T.me) (hD : d ∉ T.D) : Calls Try.prog 26 #[.pointer (some ⟨y.tb, 0, none⟩), noteV n d s] w (fun e w' => e = .returned (.int .i64 7) ∧ Below w.heap.size w w') := by
  have hn := h.fix.nrow.wf n hN
  obtain ⟨W, hW⟩ : ∃ W, W = w.alloc (.cells #[.int .u16 n, .int .u16 d, .int .u8 s] 54) := ⟨_, rfl⟩
  have hb : Below w.heap.size w W := by rw [hW]; exact below_alloc w _
  have ho : Own W w.heap.size 54 [.int .u16 n, .int .u16 d, .int .u8 s] := by rw [hW]; exact heap_alloc_new w _
  have hA := h.below hb
  have hE := check_any n W hA hn
  rw [if_pos hN] at hE
  have HE := Lib.hid hE
  have HB := Lib.hid hb
  have HA := Lib.hid hA
  have HO := Lib.hid ho
  have HN := Lib.hid hn
  have HD := Lib.hid hd
  have e1 : (d != T.me) = true := by simpa using hm
  have HNo := Lib.hid hD
  clear hm hD
  have n0 := ho.cell 0 (by simp)
  have n1 := ho.cell 1 (by simp)
  have n2 := ho.cell 2 (by simp)
  simp only [List.getD_cons_zero, List.getD_cons_succ] at n0 n1 n2
  unfold noteV
  clear h hb hA hE ho hn hN hd
  go_enter Try.func26, Try.ntmps26
  go_upto_region 1 with (fail)
  show Code.wp _ _ _ _ (w.alloc (.cells #[.int .u16 n, .int .u16 d, .int .u8 s] 54))
  rw [← hW]
  clear hW
  go_wp2_with fail
  with_reducible refine HE.out.mono ?_
  rintro e w1 ⟨rfl, hb⟩
  have HB1 := Lib.hid (HB.out.trans (hb.mono HB.out.size))
  have hA1 := HA.out.below hb
  have ho1 := HO.out.below hb HO.out.lt
  have HO1 := Lib.hid ho1
  have HA1 := Lib.hid hA1
  clear hb n0 n1 n2
  obtain ⟨g0, g1, g2, g3, g4, g5, g6, g7⟩ := hA1.cells
  have n0 := ho1.cell 0 (by simp)
  have n1 := ho1.cell 1 (by simp)
  have n2 := ho1.cell 2 (by simp)
  simp only [List.getD_cons_zero, List.getD_cons_succ] at n0 n1 n2
  have HDe := Lib.hid (fun q => (isDest_q d (w1.drewN q) (hA1.below (below_draw w1 q)) HD.out).mono (R' := fun e w' => e = .returned (.bool false) ∧ w' = w1.drewN q) fun _ _ h => ⟨by rw [h.1, decide_eq_false HNo.out], h.2⟩)
  clear hA1 ho1
  go_wp2_with fail
  go_quiet ((go_at_call 36; exact Calls.quiet_of_same (HDe.out _)))
  go_wp2
  go_ret
  exact ⟨rfl, HB1.out.trans ((below_draw _ _).mono HB1.out.size)⟩
set_option maxRecDepth 100000 in
set_option maxHeartbeats 1000000 in
theorem hear_me_hi {y : Tl} {T : Tb} (n d s : Int) (w : World) (h : TbAt w y T) (hN : n ∈ T.N) (hd : (Lit.int .u16 d).wf = true) (hm : d = T.me) (hs : 2 < s) : Calls Try.prog 26 #[.pointer (some ⟨y.tb, 0, none⟩), noteV n d s] w (fun e w' => e = .returned (.int .i64 1) ∧ Below w.heap.size w w') := by
  have hn := h.fix.nrow.wf n hN
  obtain ⟨W, hW⟩ : ∃ W, W = w.alloc (.cells #[.int .u16 n, .int .u16 d, .int .u8 s] 54) := ⟨_, rfl⟩
  have hb : Below w.heap.size w W := by rw [hW]; exact below_alloc w _
  have ho : Own W w.heap.size 54 [.int .u16 n, .int .u16 d, .int .u8 s] := by rw [hW]; exact heap_alloc_new w _
  have hA := h.below hb
  have hE := check_any n W hA hn
  rw [if_pos hN] at hE
  have HE := Lib.hid hE
  have HB := Lib.hid hb
  have HA := Lib.hid hA
  have HO := Lib.hid ho
  have HN := Lib.hid hn
  have HD := Lib.hid hd
  have e1 : (d != T.me) = false := by simpa using hm
  have e2 : decide (2 < s) = true := decide_eq_true hs
  clear hm hs
  have n0 := ho.cell 0 (by simp)
  have n1 := ho.cell 1 (by simp)
  have n2 := ho.cell 2 (by simp)
  simp only [List.getD_cons_zero, List.getD_cons_succ] at n0 n1 n2
  unfold noteV
  clear h hb hA hE ho hn hN hd
  go_enter Try.func26, Try.ntmps26
  go_upto_region 1 with (fail)
  show Code.wp _ _ _ _ (w.alloc (.cells #[.int .u16 n, .int .u16 d, .int .u8 s] 54))
  rw [← hW]
  clear hW
  go_wp2_with fail
  with_reducible refine HE.out.mono ?_
  rintro e w1 ⟨rfl, hb⟩
  have HB1 := Lib.hid (HB.out.trans (hb.mono HB.out.size))
  have hA1 := HA.out.below hb
  have ho1 := HO.out.below hb HO.out.lt
  have HO1 := Lib.hid ho1
  have HA1 := Lib.hid hA1
  clear hb n0 n1 n2
  obtain ⟨g0, g1, g2, g3, g4, g5, g6, g7⟩ := hA1.cells
  have n0 := ho1.cell 0 (by simp)
  have n1 := ho1.cell 1 (by simp)
  have n2 := ho1.cell 2 (by simp)
  simp only [List.getD_cons_zero, List.getD_cons_succ] at n0 n1 n2
  clear hA1 ho1
  go_wp2_with fail
  go_quiet (fail)
  obtain ⟨W2, hW2⟩ : ∃ W2, W2 = w1.drewN nq := ⟨_, rfl⟩
  rw [← hW2]
  have hbd : Below w1.heap.size w1 W2 := by rw [hW2]; exact below_draw _ _
  have HB2 := Lib.hid (HB1.out.trans (hbd.mono HB1.out.size))
  have hA2 := HA1.out.below hbd
  have ho2 := HO1.out.below hbd HO1.out.lt
  have HA2 := Lib.hid hA2
  have HO2 := Lib.hid ho2
  clear g0 g1 g2 g3 g4 g5 g6 g7 n0 n1 n2 hW2 hbd
  obtain ⟨g0, g1, g2, g3, g4, g5, g6, g7⟩ := hA2.cells
  have n0 := ho2.cell 0 (by simp)
  have n1 := ho2.cell 1 (by simp)
  have n2 := ho2.cell 2 (by simp)
  simp only [List.getD_cons_zero, List.getD_cons_succ] at n0 n1 n2
  clear hA2 ho2
  go_wp2_with fail
  go_quiet (fail)
  go_wp2
  go_ret
  exact ⟨rfl, HB2.out.trans ((below_draw _ _).mono HB2.out.size)⟩
set_option maxRecDepth 100000 in
set_option maxHeartbeats 1000000 in
theorem hear_me_lo {y : Tl} {T : Tb} (n d s : Int) (w : World) (h : TbAt w y T) (hN : n ∈ T.N) (hd : (Lit.int .u16 d).wf = true) (hm : d = T.me) (hs : s ≤ 2) : Calls Try.prog 26 #[.pointer (some ⟨y.tb, 0, none⟩), noteV n d s] w (fun e w' => e = .returned (.int .i64 1) ∧ Below w.heap.size w w') := by
  have hn := h.fix.nrow.wf n hN
  obtain ⟨W, hW⟩ : ∃ W, W = w.alloc (.cells #[.int .u16 n, .int .u16 d, .int .u8 s] 54) := ⟨_, rfl⟩
  have hb : Below w.heap.size w W := by rw [hW]; exact below_alloc w _
  have ho : Own W w.heap.size 54 [.int .u16 n, .int .u16 d, .int .u8 s] := by rw [hW]; exact heap_alloc_new w _
  have hA := h.below hb
  have hE := check_any n W hA hn
  rw [if_pos hN] at hE
  have HE := Lib.hid hE
  have HB := Lib.hid hb
  have HA := Lib.hid hA
  have HO := Lib.hid ho
  have HN := Lib.hid hn
  have HD := Lib.hid hd
  have e1 : (d != T.me) = false := by simpa using hm
  have e3 : (d == T.me) = true := by simpa using hm
  have e2 : decide (2 < s) = false := decide_eq_false (by omega)
  clear hm hs
  have n0 := ho.cell 0 (by simp)
  have n1 := ho.cell 1 (by simp)
  have n2 := ho.cell 2 (by simp)
  simp only [List.getD_cons_zero, List.getD_cons_succ] at n0 n1 n2
  unfold noteV
  clear h hb hA hE ho hn hN hd
  go_enter Try.func26, Try.ntmps26
  go_upto_region 1 with (fail)
  show Code.wp _ _ _ _ (w.alloc (.cells #[.int .u16 n, .int .u16 d, .int .u8 s] 54))
  rw [← hW]
  clear hW
  go_wp2_with fail
  with_reducible refine HE.out.mono ?_
  rintro e w1 ⟨rfl, hb⟩
  have HB1 := Lib.hid (HB.out.trans (hb.mono HB.out.size))
  have hA1 := HA.out.below hb
  have ho1 := HO.out.below hb HO.out.lt
  have HO1 := Lib.hid ho1
  have HA1 := Lib.hid hA1
  clear hb n0 n1 n2
  obtain ⟨g0, g1, g2, g3, g4, g5, g6, g7⟩ := hA1.cells
  have n0 := ho1.cell 0 (by simp)
  have n1 := ho1.cell 1 (by simp)
  have n2 := ho1.cell 2 (by simp)
  simp only [List.getD_cons_zero, List.getD_cons_succ] at n0 n1 n2
  clear hA1 ho1
  go_wp2_with fail
  go_quiet (fail)
  obtain ⟨W2, hW2⟩ : ∃ W2, W2 = w1.drewN nq := ⟨_, rfl⟩
  rw [← hW2]
  have hbd : Below w1.heap.size w1 W2 := by rw [hW2]; exact below_draw _ _
  have HB2 := Lib.hid (HB1.out.trans (hbd.mono HB1.out.size))
  have hA2 := HA1.out.below hbd
  have ho2 := HO1.out.below hbd HO1.out.lt
  have HA2 := Lib.hid hA2
  have HO2 := Lib.hid ho2
  clear g0 g1 g2 g3 g4 g5 g6 g7 n0 n1 n2 hW2 hbd
  obtain ⟨g0, g1, g2, g3, g4, g5, g6, g7⟩ := hA2.cells
  have n0 := ho2.cell 0 (by simp)
  have n1 := ho2.cell 1 (by simp)
  have n2 := ho2.cell 2 (by simp)
  simp only [List.getD_cons_zero, List.getD_cons_succ] at n0 n1 n2
  clear hA2 ho2
  go_wp2_with fail
  go_quiet (fail)
  go_wp2
  go_ret
  exact ⟨rfl, HB2.out.trans ((below_draw _ _).mono HB2.out.size)⟩
set_option maxRecDepth 100000 in
set_option maxHeartbeats 1000000 in
theorem hear_hi {y : Tl} {T : Tb} (n d s : Int) (w : World) (h : TbAt w y T) (hN : n ∈ T.N) (hd : (Lit.int .u16 d).wf = true) (hm : d ≠ T.me) (hD : d ∈ T.D) (hs : 2 < s) : Calls Try.prog 26 #[.pointer (some ⟨y.tb, 0, none⟩), noteV n d s] w (fun e w' => e = .returned (.int .i64 1) ∧ Below w.heap.size w w') := by
  have hn := h.fix.nrow.wf n hN
  obtain ⟨W, hW⟩ : ∃ W, W = w.alloc (.cells #[.int .u16 n, .int .u16 d, .int .u8 s] 54) := ⟨_, rfl⟩
  have hb : Below w.heap.size w W := by rw [hW]; exact below_alloc w _
  have ho : Own W w.heap.size 54 [.int .u16 n, .int .u16 d, .int .u8 s] := by rw [hW]; exact heap_alloc_new w _
  have hA := h.below hb
  have hE := check_any n W hA hn
  rw [if_pos hN] at hE
  have HE := Lib.hid hE
  have HB := Lib.hid hb
  have HA := Lib.hid hA
  have HO := Lib.hid ho
  have HN := Lib.hid hn
  have HD := Lib.hid hd
  have e1 : (d != T.me) = true := by simpa using hm
  have e2 : decide (2 < s) = true := decide_eq_true hs
  have HYes := Lib.hid hD
  clear hm hs hD
  have n0 := ho.cell 0 (by simp)
  have n1 := ho.cell 1 (by simp)
  have n2 := ho.cell 2 (by simp)
  simp only [List.getD_cons_zero, List.getD_cons_succ] at n0 n1 n2
  unfold noteV
  clear h hb hA hE ho hn hN hd
  go_enter Try.func26, Try.ntmps26
  go_upto_region 1 with (fail)
  show Code.wp _ _ _ _ (w.alloc (.cells #[.int .u16 n, .int .u16 d, .int .u8 s] 54))
  rw [← hW]
  clear hW
  go_wp2_with fail
  with_reducible refine HE.out.mono ?_
  rintro e w1 ⟨rfl, hb⟩
  have HB1 := Lib.hid (HB.out.trans (hb.mono HB.out.size))
  have hA1 := HA.out.below hb
  have ho1 := HO.out.below hb HO.out.lt
  have HO1 := Lib.hid ho1
  have HA1 := Lib.hid hA1
  clear hb n0 n1 n2
  obtain ⟨g0, g1, g2, g3, g4, g5, g6, g7⟩ := hA1.cells
  have n0 := ho1.cell 0 (by simp)
  have n1 := ho1.cell 1 (by simp)
  have n2 := ho1.cell 2 (by simp)
  simp only [List.getD_cons_zero, List.getD_cons_succ] at n0 n1 n2
  have HDe := Lib.hid (fun q => (isDest_q d (w1.drewN q) (hA1.below (below_draw w1 q)) HD.out).mono (R' := fun e w' => e = .returned (.bool true) ∧ w' = w1.drewN q) fun _ _ h => ⟨by rw [h.1, decide_eq_true HYes.out], h.2⟩)
  clear hA1 ho1
  go_wp2_with fail
  go_quiet ((go_at_call 36; exact Calls.quiet_of_same (HDe.out _)))
  obtain ⟨W2, hW2⟩ : ∃ W2, W2 = w1.drewN nq := ⟨_, rfl⟩
  rw [← hW2]
  have hbd : Below w1.heap.size w1 W2 := by rw [hW2]; exact below_draw _ _
  have HB2 := Lib.hid (HB1.out.trans (hbd.mono HB1.out.size))
  have hA2 := HA1.out.below hbd
  have ho2 := HO1.out.below hbd HO1.out.lt
  have HA2 := Lib.hid hA2
  have HO2 := Lib.hid ho2
  clear g0 g1 g2 g3 g4 g5 g6 g7 n0 n1 n2 hW2 hbd
  obtain ⟨g0, g1, g2, g3, g4, g5, g6, g7⟩ := hA2.cells
  have n0 := ho2.cell 0 (by simp)
  have n1 := ho2.cell 1 (by simp)
  have n2 := ho2.cell 2 (by simp)
  simp only [List.getD_cons_zero, List.getD_cons_succ] at n0 n1 n2
  clear hA2 ho2
  go_wp2_with fail
  go_quiet (fail)
  go_wp2
  go_ret
  exact ⟨rfl, HB2.out.trans ((below_draw _ _).mono HB2.out.size)⟩
set_option maxRecDepth 100000 in
set_option maxHeartbeats 1000000 in
theorem hear_self {y : Tl} {T : Tb} (n d s : Int) (w : World) (h : TbAt w y T) (hN : n ∈ T.N) (hd : (Lit.int .u16 d).wf = true) (hm : d ≠ T.me) (hD : d ∈ T.D) (hs : s ≤ 2) (he : d = n) : Calls Try.prog 26 #[.pointer (some ⟨y.tb, 0, none⟩), noteV n d s] w (fun e w' => e = .returned (.int .i64 1) ∧ Below w.heap.size w w') := by
  have hn := h.fix.nrow.wf n hN
  obtain ⟨W, hW⟩ : ∃ W, W = w.alloc (.cells #[.int .u16 n, .int .u16 d, .int .u8 s] 54) := ⟨_, rfl⟩
  have hb : Below w.heap.size w W := by rw [hW]; exact below_alloc w _
  have ho : Own W w.heap.size 54 [.int .u16 n, .int .u16 d, .int .u8 s] := by rw [hW]; exact heap_alloc_new w _
  have hA := h.below hb
  have hE := check_any n W hA hn
  rw [if_pos hN] at hE
  have HE := Lib.hid hE
  have HB := Lib.hid hb
  have HA := Lib.hid hA
  have HO := Lib.hid ho
  have HN := Lib.hid hn
  have HD := Lib.hid hd
  have e1 : (d != T.me) = true := by simpa using hm
  have e3 : (d == T.me) = false := by simpa using hm
  have e2 : decide (2 < s) = false := decide_eq_false (by omega)
  have e4 : (d == n) = true := by simpa using he
  have HYes := Lib.hid hD
  clear hm hs hD he
  have n0 := ho.cell 0 (by simp)
  have n1 := ho.cell 1 (by simp)
  have n2 := ho.cell 2 (by simp)
  simp only [List.getD_cons_zero, List.getD_cons_succ] at n0 n1 n2
  unfold noteV
  clear h hb hA hE ho hn hN hd
  go_enter Try.func26, Try.ntmps26
  go_upto_region 1 with (fail)
  show Code.wp _ _ _ _ (w.alloc (.cells #[.int .u16 n, .int .u16 d, .int .u8 s] 54))
  rw [← hW]
  clear hW
  go_wp2_with fail
  with_reducible refine HE.out.mono ?_
  rintro e w1 ⟨rfl, hb⟩
  have HB1 := Lib.hid (HB.out.trans (hb.mono HB.out.size))
  have hA1 := HA.out.below hb
  have ho1 := HO.out.below hb HO.out.lt
  have HO1 := Lib.hid ho1
  have HA1 := Lib.hid hA1
  clear hb n0 n1 n2
  obtain ⟨g0, g1, g2, g3, g4, g5, g6, g7⟩ := hA1.cells
  have n0 := ho1.cell 0 (by simp)
  have n1 := ho1.cell 1 (by simp)
  have n2 := ho1.cell 2 (by simp)
  simp only [List.getD_cons_zero, List.getD_cons_succ] at n0 n1 n2
  have HDe := Lib.hid (fun q => (isDest_q d (w1.drewN q) (hA1.below (below_draw w1 q)) HD.out).mono (R' := fun e w' => e = .returned (.bool true) ∧ w' = w1.drewN q) fun _ _ h => ⟨by rw [h.1, decide_eq_true HYes.out], h.2⟩)
  clear hA1 ho1
  go_wp2_with fail
  go_quiet ((go_at_call 36; exact Calls.quiet_of_same (HDe.out _)))
  obtain ⟨W2, hW2⟩ : ∃ W2, W2 = w1.drewN nq := ⟨_, rfl⟩
  rw [← hW2]
  have hbd : Below w1.heap.size w1 W2 := by rw [hW2]; exact below_draw _ _
  have HB2 := Lib.hid (HB1.out.trans (hbd.mono HB1.out.size))
  have hA2 := HA1.out.below hbd
  have ho2 := HO1.out.below hbd HO1.out.lt
  have HA2 := Lib.hid hA2
  have HO2 := Lib.hid ho2
  clear g0 g1 g2 g3 g4 g5 g6 g7 n0 n1 n2 hW2 hbd
  obtain ⟨g0, g1, g2, g3, g4, g5, g6, g7⟩ := hA2.cells
  have n0 := ho2.cell 0 (by simp)
  have n1 := ho2.cell 1 (by simp)
  have n2 := ho2.cell 2 (by simp)
  simp only [List.getD_cons_zero, List.getD_cons_succ] at n0 n1 n2
  clear hA2 ho2
  go_wp2_with fail
  go_quiet (fail)
  go_wp2
  go_ret
  exact ⟨rfl, HB2.out.trans ((below_draw _ _).mono HB2.out.size)⟩
set_option maxRecDepth 100000 in
set_option maxHeartbeats 1000000 in
theorem hear_ok {y : Tl} {T : Tb} (n d s : Int) (w : World) (h : TbAt w y T) (hN : n ∈ T.N) (hd : (Lit.int .u16 d).wf = true) (hm : d ≠ T.me) (hD : d ∈ T.D) (h0 : 0 ≤ s) (hs : s ≤ 2) (he : d ≠ n) : Calls Try.prog 26 #[.pointer (some ⟨y.tb, 0, none⟩), noteV n d s] w (MOut y (T.hear n d s) 0 w) := by
  have hn := h.fix.nrow.wf n hN
  obtain ⟨W, hW⟩ : ∃ W, W = w.alloc (.cells #[.int .u16 n, .int .u16 d, .int .u8 s] 54) := ⟨_, rfl⟩
  have hb : Below w.heap.size w W := by rw [hW]; exact below_alloc w _
  have ho : Own W w.heap.size 54 [.int .u16 n, .int .u16 d, .int .u8 s] := by rw [hW]; exact heap_alloc_new w _
  have hA := h.below hb
  have hE := check_any n W hA hn
  rw [if_pos hN] at hE
  have HE := Lib.hid hE
  have HB := Lib.hid hb
  have HA := Lib.hid hA
  have HO := Lib.hid ho
  have HN := Lib.hid hn
  have HD := Lib.hid hd
  have e1 : (d != T.me) = true := by simpa using hm
  have e3 : (d == T.me) = false := by simpa using hm
  have e2 : decide (2 < s) = false := decide_eq_false (by omega)
  have e4 : (d == n) = false := by simpa using he
  have HYes := Lib.hid hD
  have HS := Lib.hid (And.intro h0 hs)
  clear hm hs hD he h0
  have n0 := ho.cell 0 (by simp)
  have n1 := ho.cell 1 (by simp)
  have n2 := ho.cell 2 (by simp)
  simp only [List.getD_cons_zero, List.getD_cons_succ] at n0 n1 n2
  unfold noteV
  clear h hb hA hE ho hn hN hd
  go_enter Try.func26, Try.ntmps26
  go_upto_region 1 with (fail)
  show Code.wp _ _ _ _ (w.alloc (.cells #[.int .u16 n, .int .u16 d, .int .u8 s] 54))
  rw [← hW]
  clear hW
  go_wp2_with fail
  with_reducible refine HE.out.mono ?_
  rintro e w1 ⟨rfl, hb⟩
  have HB1 := Lib.hid (HB.out.trans (hb.mono HB.out.size))
  have hA1 := HA.out.below hb
  have ho1 := HO.out.below hb HO.out.lt
  have HO1 := Lib.hid ho1
  have HA1 := Lib.hid hA1
  clear hb n0 n1 n2
  obtain ⟨g0, g1, g2, g3, g4, g5, g6, g7⟩ := hA1.cells
  have n0 := ho1.cell 0 (by simp)
  have n1 := ho1.cell 1 (by simp)
  have n2 := ho1.cell 2 (by simp)
  simp only [List.getD_cons_zero, List.getD_cons_succ] at n0 n1 n2
  have HDe := Lib.hid (fun q => (isDest_q d (w1.drewN q) (hA1.below (below_draw w1 q)) HD.out).mono (R' := fun e w' => e = .returned (.bool true) ∧ w' = w1.drewN q) fun _ _ h => ⟨by rw [h.1, decide_eq_true HYes.out], h.2⟩)
  clear hA1 ho1
  go_wp2_with fail
  go_quiet ((go_at_call 36; exact Calls.quiet_of_same (HDe.out _)))
  obtain ⟨W2, hW2⟩ : ∃ W2, W2 = w1.drewN nq := ⟨_, rfl⟩
  rw [← hW2]
  have hbd : Below w1.heap.size w1 W2 := by rw [hW2]; exact below_draw _ _
  have HB2 := Lib.hid (HB1.out.trans (hbd.mono HB1.out.size))
  have hA2 := HA1.out.below hbd
  have ho2 := HO1.out.below hbd HO1.out.lt
  have HA2 := Lib.hid hA2
  have HO2 := Lib.hid ho2
  clear g0 g1 g2 g3 g4 g5 g6 g7 n0 n1 n2 hW2 hbd
  obtain ⟨g0, g1, g2, g3, g4, g5, g6, g7⟩ := hA2.cells
  have n0 := ho2.cell 0 (by simp)
  have n1 := ho2.cell 1 (by simp)
  have n2 := ho2.cell 2 (by simp)
  simp only [List.getD_cons_zero, List.getD_cons_succ] at n0 n1 n2
  clear hA2 ho2
  go_wp2_with fail
  go_quiet (fail)
  obtain ⟨W3, hW3⟩ : ∃ W3, W3 = W2.drewN nq := ⟨_, rfl⟩
  rw [← hW3]
  have hbd : Below W2.heap.size W2 W3 := by rw [hW3]; exact below_draw _ _
  have HB3 := Lib.hid (HB2.out.trans (hbd.mono HB2.out.size))
  have hA3 := HA2.out.below hbd
  have ho3 := HO2.out.below hbd HO2.out.lt
  have HA3 := Lib.hid hA3
  clear g0 g1 g2 g3 g4 g5 g6 g7 n0 n1 n2 hW3 hbd
  obtain ⟨g0, g1, g2, g3, g4, g5, g6, g7⟩ := hA3.cells
  have n0 := ho3.cell 0 (by simp)
  have n1 := ho3.cell 1 (by simp)
  have n2 := ho3.cell 2 (by simp)
  simp only [List.getD_cons_zero, List.getD_cons_succ] at n0 n1 n2
  have HSet := Lib.hid (set_any y.bt _ n d s W3.drew hA3.drew.tol HN.out HD.out)
  clear hA3 ho3
  go_wp2_with fail
  go_still_tail 5, (by kernel_rfl)
  repeat still_step
  change wpList _ _ _ _ _ W3.drew
  go_wp2_with fail
  with_reducible refine HSet.out.mono ?_
  rintro e w5 ⟨rfl, hR, hx5⟩
  have HA5 := Lib.hid ((HA3.out.drew).newTol hx5 (fun a b => by
    unfold upd2; split
    · exact HS.out
    · exact HA3.out.wf.told a b) hR)
  have HX5 := Lib.hid (((Exc.of_below (S := Mut y) HB3.out).drawN 1).trans (excMut hx5 (.inr (.inl rfl))) (fun _ _ h => h))
  clear g0 g1 g2 g3 g4 g5 g6 g7 n0 n1 n2 hR hx5
  go_wp2
  go_ret
  exact ⟨rfl, HA5.out, HX5.out⟩
end Go.Proofs.Ytdjmopipmeonlaa
