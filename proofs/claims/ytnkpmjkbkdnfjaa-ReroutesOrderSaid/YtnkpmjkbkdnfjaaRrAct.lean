/- Gates of layer 17: Cut, Flush, Pass. -/
import Derived.Test.YtnkpmjkbkdnfjaaRrGet
import Derived.Test.YtnkpmjkbkdnfjaaChCl
namespace Go.Proofs.Ytnkpmjkbkdnfjaa
open Go.RowKit

def Gt.cut (x : Gt) : Gt := { x with ph := 3 }
def Gt.flushed (x : Gt) : Gt := { x with its := [], g := none, a := none, c := 0 }
def Gt.went (x : Gt) (now : Int) (y : Wy) : Gt := { x with ph := 2, wy := y, last := now }
theorem GtOut.before {w w1 w2 : World} {b : Nat} {x x1 x2 : Gt} (h : GtTo w b x x1 w1) (k : GtOut w1 b x1 x2 w2) (h1 : x1.its = x.its) (h2 : x1.g = x.g) (h3 : x1.a = x.a) : GtOut w b x x2 w2 := by
  have eT : x1.T b = x.T b := by unfold Gt.T; rw [h2]
  have eS : x1.S b = x.S b := by unfold Gt.S; rw [eT, h1]
  refine ⟨⟨k.act.now, h.exc.trans k.act.exc (fun i _ hi => by rw [eT] at hi; exact hi), fun i hi => ?_⟩, ?_, k.off⟩
  · rcases k.act.lies i hi with h5 | h5
    · rw [eS] at h5; exact .inl h5
    · exact .inr (Nat.le_trans h.exc.size h5)
  · have := k.its
    rw [h1, h3, eS] at this
    exact this
theorem GtOut.drawN {w w' : World} {b : Nat} {x x' : Gt} (h : GtOut w b x x' w') (q : Nat) : GtOut w b x x' (w'.drewN q) := ⟨h.act.drawN q, h.its.later (below_draw w' q), h.off⟩
theorem GtOut.after {w w1 w2 : World} {b : Nat} {x x' : Gt} (h : GtOut w1 b x x' w2) (hb : Below w.heap.size w w1) : GtOut w b x x' w2 := ⟨h.act.after hb, h.its, h.off⟩
set_option maxHeartbeats 2000000 in
set_option maxRecDepth 100000 in
theorem cut_bad (b : Nat) (x : Gt) (w : World) (h : GtAt w b x) (hp : x.ph = 1 ∨ x.ph = 3) : Calls Try.prog 21 #[.pointer (some ⟨b, 0, none⟩)] w fun e w' => e = .returned (.int .i64 6) ∧ ∃ q, w' = w.drewN q := by
  obtain ⟨_, _, c2, _⟩ := h.cells
  have HN := Lib.hid (isNone_any b x.ph w c2 h.ph1)
  have HW := Lib.hid (fun n => waits_any b x (w.drewN n) (h.later (below_draw w n)))
  have HP := Lib.hid (fun n => hasPassed_any b x (w.drewN n) (h.later (below_draw w n)))
  clear h c2
  go_enter Try.func21, Try.ntmps21
  go_wp2_with fail
  refine HN.out.mono ?_
  rintro e w' ⟨rfl, q, rfl⟩
  go_wp2_with fail
  refine (HW.out _).mono ?_
  rintro e w' ⟨rfl, q2, rfl⟩
  rcases hp with hp | hp
  · have e1 : decide (x.ph = 3) = false := by simp [hp]
    have e2 : decide (x.ph ≠ 1) = false := by simp [hp]
    rw [e1]
    rw [e2] at HP
    clear hp e1 e2
    go_wp2_with fail
    refine (HP.out _).mono ?_
    rintro e w' ⟨rfl, q3, rfl⟩
    go_wp2
    go_ret
    exact ⟨rfl, _, rfl⟩
  · have e1 : decide (x.ph = 3) = true := by simp [hp]
    rw [e1]
    clear hp e1
    go_wp2
    go_ret
    exact ⟨rfl, _, rfl⟩
set_option maxHeartbeats 2000000 in
set_option maxRecDepth 100000 in
theorem cut_ok (b : Nat) (x : Gt) (w : World) (h : GtAt w b x) (h1 : x.ph ≠ 1) (h3 : x.ph ≠ 3) : Calls Try.prog 21 #[.pointer (some ⟨b, 0, none⟩)] w fun e w' => e = .returned (.int .i64 0) ∧ GtTo w b x x.cut w' := by
  obtain ⟨_, _, c2, _⟩ := h.cells
  have HN := Lib.hid (isNone_any b x.ph w c2 h.ph1)
  have HW := Lib.hid (fun n => waits_any b x (w.drewN n) (h.later (below_draw w n)))
  have HP := Lib.hid (fun n => hasPassed_any b x (w.drewN n) (h.later (below_draw w n)))
  have H := Lib.hid h
  clear h c2
  go_enter Try.func21, Try.ntmps21
  go_wp2_with fail
  refine HN.out.mono ?_
  rintro e w' ⟨rfl, q, rfl⟩
  go_wp2_with fail
  refine (HW.out _).mono ?_
  rintro e w' ⟨rfl, q2, rfl⟩
  have e1 : decide (x.ph = 3) = false := by simp [h3]
  have e2 : decide (x.ph ≠ 1) = true := by simp [h1]
  rw [e1]
  rw [e2] at HP
  clear h1 h3 e1 e2
  go_wp2_with fail
  refine (HP.out _).mono ?_
  rintro e w' ⟨rfl, q3, rfl⟩
  generalize hW : (w.drewN _).drewN q3 = W
  have h0 : Below w.heap.size w W := by rw [← hW]; exact below_drewN (below_draw w _) q3
  have h := H.out.later h0
  obtain ⟨_, _, c2, _⟩ := h.cells
  have f2 := h.own.frozen 2
  have HH := Lib.hid h
  have HB := Lib.hid h0
  clear hW h0 h
  go_wp2
  go_ret
  refine ⟨rfl, GtTo.after (GtAt.redo HH.out (Blk.exc b 2 _ W) ?_ rfl rfl rfl rfl rfl (by simp [Gt.cut]) (by simp [Gt.cut]) HH.out.wf) HB.out⟩
  exact HH.out.own.set 2 (.int .u8 3)
set_option maxHeartbeats 2000000 in
set_option maxRecDepth 100000 in
theorem flush_any (b : Nat) (x : Gt) (w : World) (h : GtAt w b x) : Calls Try.prog 23 #[.pointer (some ⟨b, 0, none⟩)] w fun e w' => e = .returned (.slice x.a x.its.length x.its.length) ∧ GtOut w b x x.flushed w' := by
  obtain ⟨_, _, c2, _⟩ := h.cells
  have HN := Lib.hid (isNone_any b x.ph w c2 h.ph1)
  have HC := Lib.hid (fun W => clipIt_any x.a x.its.length x.c W h.buf.le h.buf.max)
  have H := Lib.hid h
  clear h c2
  go_enter Try.func23, Try.ntmps23
  go_wp2_with fail
  refine HN.out.mono ?_
  rintro e w' ⟨rfl, q, rfl⟩
  generalize hW : w.drewN _ = W
  have h0 : Below w.heap.size w W := by rw [← hW]; exact below_draw w _
  have h := H.out.later h0
  obtain ⟨_, c1, _⟩ := h.cells
  have f1 := h.own.frozen 1
  have HH := Lib.hid h
  have HB := Lib.hid h0
  clear hW h0 h
  go_wp2_with fail
  refine (HC.out _).mono ?_
  rintro e w' ⟨rfl, rfl⟩
  go_wp2
  go_ret
  refine ⟨rfl, GtOut.after (GtAt.out HH.out (Blk.exc b 1 _ W) ?_ rfl rfl rfl rfl rfl HH.out.ph1 HH.out.ph4 HH.out.wf) HB.out⟩
  exact HH.out.own.set 1 (.slice none 0 0)
set_option maxHeartbeats 2000000 in
set_option maxRecDepth 100000 in
theorem pass_none (b : Nat) (x : Gt) (now nx la lb lc : Int) (w : World) (h : GtAt w b x) (hn : x.its = []) :
    Calls Try.prog 20 #[.pointer (some ⟨b, 0, none⟩), .int .i64 now, .agg #[.int .u16 nx, .int .u16 la, .int .u16 lb, .int .u8 lc]] w fun e w' => e = .returned (.slice none 0 0) ∧ Below w.heap.size w w' := by
  have hb := below_alloc w (.cells #[.int .u16 nx, .int .u16 la, .int .u16 lb, .int .u8 lc] 34)
  have hl := len_any b x _ (h.later hb)
  rw [hn] at hl
  have HL := Lib.hid hl
  have HB := Lib.hid hb
  clear h hl hb hn
  go_enter Try.func20, Try.ntmps20
  go_wp2_with fail
  refine HL.out.mono ?_
  rintro e w' ⟨rfl, q, rfl⟩
  go_wp2
  go_ret
  exact ⟨rfl, below_drewN HB.out _⟩
set_option maxHeartbeats 2000000 in
set_option maxRecDepth 100000 in
theorem pass_no (b : Nat) (x : Gt) (now nx la lb lc : Int) (w : World) (h : GtAt w b x) (hn : x.its ≠ []) (hf : ¬ x.free now ⟨nx, la, lb, lc⟩) :
    Calls Try.prog 20 #[.pointer (some ⟨b, 0, none⟩), .int .i64 now, .agg #[.int .u16 nx, .int .u16 la, .int .u16 lb, .int .u8 lc]] w fun e w' => e = .returned (.slice none 0 0) ∧ Below w.heap.size w w' := by
  have hb := below_alloc w (.cells #[.int .u16 nx, .int .u16 la, .int .u16 lb, .int .u8 lc] 34)
  have ho := own_lit w 34 #[.int .u16 nx, .int .u16 la, .int .u16 lb, .int .u8 lc] _ rfl
  have hlt := h.own.lt
  have hl := len_any b x _ (h.later hb)
  obtain ⟨M, hM⟩ : ∃ M, M = x.its.length := ⟨_, rfl⟩
  rw [← hM] at hl
  have hm : 0 < M := by rw [hM]; exact List.length_pos_iff.2 hn
  have hm2 : ((M : Int) == 0) = false := by simp; omega
  have hm3 : ¬ M = 0 := by omega
  have HL := Lib.hid hl
  have HB := Lib.hid hb
  have HO := Lib.hid ho
  have H := Lib.hid h
  have HF := Lib.hid (fun W h => isFree_any b x now nx la lb lc W h)
  have HN := Lib.hid (And.intro hM hn)
  clear h hl hb ho hn hM hm
  go_enter Try.func20, Try.ntmps20
  go_wp2_with fail
  refine HL.out.mono ?_
  rintro e w' ⟨rfl, q, rfl⟩
  have hb2 := below_drewN HB.out q
  have ho2 := Blk.drawn HO.out q
  obtain ⟨p, hp⟩ : ∃ p, p = w.heap.size := ⟨_, rfl⟩
  generalize (w.alloc (Obj.cells #[.int .u16 nx, .int .u16 la, .int .u16 lb, .int .u8 lc] 34)).drewN q = W at hb2 ho2 ⊢
  rw [← hp] at ho2 ⊢
  have k0 := ho2.cell 0 (by simp)
  have k1 := ho2.cell 1 (by simp)
  have k2 := ho2.cell 2 (by simp)
  have k3 := ho2.cell 3 (by simp)
  simp only [List.getD_cons_zero, List.getD_cons_succ] at k0 k1 k2 k3
  have HB2 := Lib.hid hb2
  have HO2 := Lib.hid ho2
  have H2 := Lib.hid (H.out.later hb2)
  have HP := Lib.hid hp
  clear hb2 ho2 hp HB HO HL
  go_wp2_with fail
  refine (HF.out _ H2.out).mono ?_
  rintro e w2 ⟨rfl, hb3⟩
  have e1 : decide (x.free now ⟨nx, la, lb, lc⟩) = false := by simp [hf]
  rw [e1]
  have HX := Lib.hid (HB2.out.trans (hb3.mono HB2.out.size))
  clear e1 hf hb3 k0 k1 k2 k3
  go_wp2
  go_ret
  exact ⟨rfl, HX.out⟩
set_option maxHeartbeats 2000000 in
set_option maxRecDepth 100000 in
theorem pass_ok (b : Nat) (x : Gt) (now nx la lb lc : Int) (w : World) (h : GtAt w b x) (hn : x.its ≠ []) (hf : x.free now ⟨nx, la, lb, lc⟩) (hw : -9223372036854775808 ≤ now ∧ now ≤ 9223372036854775807) :
    Calls Try.prog 20 #[.pointer (some ⟨b, 0, none⟩), .int .i64 now, .agg #[.int .u16 nx, .int .u16 la, .int .u16 lb, .int .u8 lc]] w fun e w' => e = .returned (.slice x.a x.its.length x.its.length) ∧ GtOut w b x (x.went now ⟨nx, la, lb, lc⟩).flushed w' := by
  have hb := below_alloc w (.cells #[.int .u16 nx, .int .u16 la, .int .u16 lb, .int .u8 lc] 34)
  have ho := own_lit w 34 #[.int .u16 nx, .int .u16 la, .int .u16 lb, .int .u8 lc] _ rfl
  have hlt := h.own.lt
  have hl := len_any b x _ (h.later hb)
  obtain ⟨M, hM⟩ : ∃ M, M = x.its.length := ⟨_, rfl⟩
  rw [← hM] at hl
  have hm : 0 < M := by rw [hM]; exact List.length_pos_iff.2 hn
  have hm2 : ((M : Int) == 0) = false := by simp; omega
  have hm3 : ¬ M = 0 := by omega
  have HL := Lib.hid hl
  have HB := Lib.hid hb
  have HO := Lib.hid ho
  have H := Lib.hid h
  have HF := Lib.hid (fun W h => isFree_any b x now nx la lb lc W h)
  have HN := Lib.hid (And.intro hM hn)
  clear h hl hb ho hn hM hm
  go_enter Try.func20, Try.ntmps20
  go_wp2_with fail
  refine HL.out.mono ?_
  rintro e w' ⟨rfl, q, rfl⟩
  have hb2 := below_drewN HB.out q
  have ho2 := Blk.drawn HO.out q
  obtain ⟨p, hp⟩ : ∃ p, p = w.heap.size := ⟨_, rfl⟩
  generalize (w.alloc (Obj.cells #[.int .u16 nx, .int .u16 la, .int .u16 lb, .int .u8 lc] 34)).drewN q = W at hb2 ho2 ⊢
  rw [← hp] at ho2 ⊢
  have k0 := ho2.cell 0 (by simp)
  have k1 := ho2.cell 1 (by simp)
  have k2 := ho2.cell 2 (by simp)
  have k3 := ho2.cell 3 (by simp)
  simp only [List.getD_cons_zero, List.getD_cons_succ] at k0 k1 k2 k3
  have HB2 := Lib.hid hb2
  have HO2 := Lib.hid ho2
  have H2 := Lib.hid (H.out.later hb2)
  have HP := Lib.hid hp
  clear hb2 ho2 hp HB HO HL
  go_wp2_with fail
  refine (HF.out _ H2.out).mono ?_
  rintro e w2 ⟨rfl, hb3⟩
  have e1 : decide (x.free now ⟨nx, la, lb, lc⟩) = true := by simp [hf]
  rw [e1]
  have h3 := H2.out.later hb3
  have f2 := h3.own.frozen 2
  have f3 := h3.own.frozen 3
  have f4 := h3.own.frozen 4
  have f5 := h3.own.frozen 5
  have f6 := h3.own.frozen 6
  have f7 := h3.own.frozen 7
  obtain ⟨c0, c1, c2, c3, c4, c5, c6, c7⟩ := h3.cells
  have ho3 := HO2.out.below hb3 HO2.out.lt
  clear k0 k1 k2 k3
  have k0 := ho3.cell 0 (by simp)
  have k1 := ho3.cell 1 (by simp)
  have k2 := ho3.cell 2 (by simp)
  have k3 := ho3.cell 3 (by simp)
  simp only [List.getD_cons_zero, List.getD_cons_succ] at k0 k1 k2 k3
  have n1 : ¬ p = b := by have := HP.out; omega
  have n2 : ¬ b = p := fun hh => n1 hh.symm
  have HX := Lib.hid (HB2.out.trans (hb3.mono HB2.out.size))
  have H3 := Lib.hid h3
  have HWf := Lib.hid hw
  clear e1 hf hb3 h3 ho3 hw
  go_wp2_with go_region
  have hx : Exc (fun k => k = b) w2 ((((((w2.setCell ⟨b, 2, none⟩ (.int .u8 2)).setCell ⟨b, 3, none⟩ (.int .u16 nx)).setCell ⟨b, 4, none⟩ (.int .u16 la)).setCell ⟨b, 5, none⟩ (.int .u16 lb)).setCell ⟨b, 6, none⟩ (.int .u8 lc)).setCell ⟨b, 7, none⟩ (.int .i64 now)) := Blk.more (Blk.more (Blk.more (Blk.more (Blk.more (Blk.exc b 2 _ w2) 3 _) 4 _) 5 _) 6 _) 7 _
  have ho : Own ((((((w2.setCell ⟨b, 2, none⟩ (.int .u8 2)).setCell ⟨b, 3, none⟩ (.int .u16 nx)).setCell ⟨b, 4, none⟩ (.int .u16 la)).setCell ⟨b, 5, none⟩ (.int .u16 lb)).setCell ⟨b, 6, none⟩ (.int .u8 lc)).setCell ⟨b, 7, none⟩ (.int .i64 now)) b 71 (gtCells (x.went now ⟨nx, la, lb, lc⟩)) :=
    (((((H3.out.own.set 2 (.int .u8 2)).set 3 (.int .u16 nx)).set 4 (.int .u16 la)).set 5 (.int .u16 lb)).set 6 (.int .u8 lc)).set 7 (.int .i64 now)
  generalize (((((w2.setCell ⟨b, 2, none⟩ (.int .u8 2)).setCell ⟨b, 3, none⟩ (.int .u16 nx)).setCell ⟨b, 4, none⟩ (.int .u16 la)).setCell ⟨b, 5, none⟩ (.int .u16 lb)).setCell ⟨b, 6, none⟩ (.int .u8 lc)).setCell ⟨b, 7, none⟩ (.int .i64 now) = W3 at hx ho ⊢
  have ht := GtTo.after (GtAt.redo (x' := x.went now ⟨nx, la, lb, lc⟩) H3.out hx ho rfl rfl rfl rfl rfl (by simp [Gt.went]) (by simp [Gt.went]) HWf.out) HX.out
  have ht2 := ht.drawN 1
  have HFl := Lib.hid (flush_any b _ W3.drew (show GtAt W3.drew b _ from ht2.now))
  have HT := Lib.hid (show GtTo w b x (x.went now ⟨nx, la, lb, lc⟩) W3.drew from ht2)
  clear hx ho ht ht2
  refine HFl.out.mono ?_
  rintro e w4 ⟨rfl, ho⟩
  have HG := Lib.hid (GtOut.before HT.out ho rfl rfl rfl)
  clear ho
  go_wp2
  go_ret
  exact ⟨rfl, HG.out⟩
end Go.Proofs.Ytnkpmjkbkdnfjaa
