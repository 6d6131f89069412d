/- The code's end of a link: an open load is sent again. -/
import Derived.Test.YtpggiajpjnegkaaCyNew
import Derived.Deep.CutBlock
namespace Go.Proofs.Ytpggiajpjnegkaa
open Go.RowKit

set_option maxHeartbeats 4000000 in
set_option maxRecDepth 100000 in
/-- Behind the place's return to the first one. -/
theorem repeat_from (b : Nat) (x : En) (L : ELay) (w : World) (I : Nat) (h0 : EndL w b x L) (hn : 0 < x.una.length) (hI : I = x.idx) :
    Calls Try.prog 52 #[.pointer (some ⟨b, 0, none⟩)] w fun e w' => Cho w w' b L { x with plc := I + 1 } (x.unit I) e := by
  obtain ⟨W1, hW1⟩ : ∃ W, W = w.alloc (.cells zeroUnit.toArray 45) := ⟨_, rfl⟩
  have hb1 : Below w.heap.size w W1 := by rw [hW1]; exact below_alloc _ _
  have ou : Own W1 w.heap.size 45 zeroUnit := by rw [hW1]; exact own_lit w _ _ _ rfl
  have h := h0.later hb1
  have hslt := h0.s_lt
  have hns : ∀ k, L.S b k → ¬ k = w.heap.size := fun k hk hh => by have := hslt k hk; omega
  have hfit := h0.fit
  have hul := hfit.una
  have hpl := hfit.plc
  have hIl : I < x.una.length := by rw [hI]; unfold En.idx; split <;> omega
  have c3 := h.cells.2.2.2.1
  have c4 := h.cells.2.2.2.2.1
  have HNs := Lib.hid hns
  have HW := Lib.hid hW1
  have HB := Lib.hid hb1
  have HU := Lib.hid ou
  have H := Lib.hid h
  have HF := Lib.hid hfit
  clear h0 hslt hW1 hb1 ou h hns hfit
  go_enter Try.func52, Try.ntmps52
  have hpi : ((x.plc : Int) == (x.una.length : Int)) = decide (x.plc = x.una.length) := by
    by_cases hp : x.plc = x.una.length
    · simp [hp]
    · have h1 : ((x.plc : Int) == (x.una.length : Int)) = false := by simp; omega
      rw [h1, decide_eq_false hp]
  obtain ⟨D, hD⟩ : ∃ D, D = decide (x.plc = x.una.length) := ⟨_, rfl⟩
  rw [← hD] at hpi
  have HD := Lib.hid hD
  have HI := Lib.hid hI
  clear hD hI
  go_wp2_with fail
  rw [← HW.out]
  go_quiet (fail)
  generalize hW2 : W1.drewN nq = W2
  have hb2 : Below W1.heap.size W1 W2 := by rw [← hW2]; exact below_draw _ _
  have h2 := H.out.later hb2
  have f4 := h2.own.frozen 4
  have d4 := h2.cells.2.2.2.2.1
  have H2 := Lib.hid h2
  have HB2 := Lib.hid hb2
  clear hW2 hb2 h2 c3 c4 hpi
  go_upto_if 12 with fail
  go_cut [] from 3 to 29 (fun wx => EndL wx b { x with plc := I } L ∧ Exc (fun k => k = b) W1 wx)
  case first =>
    cases D
    · have hp : ¬ x.plc = x.una.length := of_decide_eq_false HD.out.symm
      go_wp2_with fail
      go_meet
      have e : ({ x with plc := I } : En) = x := by rw [HI.out]; unfold En.idx; rw [if_neg hp]
      rw [e]
      exact ⟨H2.out, Exc.of_below HB2.out⟩
    · have hp : x.plc = x.una.length := of_decide_eq_true HD.out.symm
      go_wp2_with fail
      go_meet
      have e : I = 0 := by rw [HI.out]; unfold En.idx; rw [if_pos hp]
      have hx2 : Exc (fun k => k = b) W2 (W2.setCell ⟨b, 4, none⟩ (.int .i64 0)) := (Exc.refl (fun k => k = b) W2).setCell ⟨b, 4, none⟩ (.inl rfl) _
      have ho := H2.out.own.set 4 (.int .i64 0)
      refine ⟨H2.out.redo (x' := { x with plc := I }) hx2 ?_ rfl rfl ⟨HF.out.que, HF.out.una, by show I ≤ _; omega, HF.out.lm1, HF.out.lm2, HF.out.lo1, HF.out.lo2, HF.out.sent, HF.out.acc⟩, (Exc.of_below HB2.out).trans hx2 (fun _ _ hk => hk)⟩
      have e2 : endCells { x with plc := I } L = (endCells x L).set 4 (.int .i64 0) := by rw [e]; simp [endCells]
      rw [e2]; exact ho
  case rest =>
    obtain ⟨h3, hx3⟩ := hcut
    obtain ⟨W3, hW3⟩ : ∃ X, X = wc := ⟨_, rfl⟩
    clear H2 HB2 d4 f4 HD
    have k4 := h3.cells.2.2.2.2.1
    have j4 := h3.own.frozen 4
    have H3 := Lib.hid h3
    have HX3 := Lib.hid hx3
    have hw1 : IntKind.i64.wrap ((I : Int) + 1) = ((I + 1 : Nat) : Int) := by rw [IntWalk.i64_in _ (by omega)]; omega
    obtain ⟨M, hM⟩ : ∃ M, M = I + 1 := ⟨_, rfl⟩
    rw [← hM] at hw1
    have hw2 : IntKind.i64.wrap ((M : Int) - 1) = (I : Int) := by rw [IntWalk.i64_in _ (by omega)]; omega
    have HM := Lib.hid hM
    clear h3 hx3 hM
    go_wp2_with fail
    generalize hW9 : wc.setCell ⟨b, 4, none⟩ (.int .i64 (M : Int)) = W9
    have hx9 : Exc (fun k => k = b) wc W9 := by rw [← hW9]; exact (Exc.refl (fun k => k = b) wc).setCell ⟨b, 4, none⟩ (.inl rfl) _
    have ho9 := H3.out.own.set 4 (.int .i64 (M : Int))
    rw [hW9] at ho9
    have h9 := H3.out.redo (x' := { x with plc := M }) hx9 (by
      have e : endCells { x with plc := M } L = (endCells { x with plc := I } L).set 4 (.int .i64 (M : Int)) := by simp [endCells]
      rw [e]; exact ho9) rfl rfl ⟨HF.out.que, HF.out.una, by show M ≤ x.una.length; rw [HM.out]; exact hIl, HF.out.lm1, HF.out.lm2, HF.out.lo1, HF.out.lo2, HF.out.sent, HF.out.acc⟩
    have hx19 : Exc (fun k => k = b) W1 W9 := HX3.out.trans hx9 (fun _ _ hk => hk)
    have hcon : Calls Try.prog 56 #[.pointer (some ⟨b, 0, none⟩), .int .i64 (I : Int)] W9 fun e w' => ∃ g : Nat,
      e = .returned (.agg (unCells ⟨0, false, (x.sent + 129 + I - x.una.length) % 128, false, 2, 0, x.una.getD I []⟩ (some ⟨g, 0, none⟩) (x.una.getD I []).length (x.una.getD I []).length).toArray) ∧ W9.heap.size ≤ g ∧ Own w' g 5 (nums .u8 (x.una.getD I [])) ∧ Below W9.heap.size W9 w' := unit_any b { x with plc := M } L W9 I h9 hIl
    have hld : (x.una.getD I []).length ≤ 273 ∧ ∀ y ∈ x.una.getD I [], (Lit.int .u8 y).wf = true := by
      obtain ⟨_, _, _, _, _, _, hr, _⟩ := H3.out.o.at hIl
      refine ⟨(H3.out.wide _ (.inr ?_)).2, hr.wf⟩
      show x.una.getD I [] ∈ x.una
      rw [List.getD_eq_getElem?_getD, List.getElem?_eq_getElem hIl]
      exact List.getElem_mem hIl
    obtain ⟨l, hl⟩ : ∃ l, l = x.una.getD I [] := ⟨_, rfl⟩
    obtain ⟨F, hF⟩ : ∃ F, F = (x.sent + 129 + I - x.una.length) % 128 := ⟨_, rfl⟩
    rw [← hl, ← hF] at hcon
    rw [← hl] at hld
    have hou := HU.out.exc hx19 (fun hh => HNs.out b (.inl rfl) hh.symm)
    have H9 := Lib.hid h9
    have HX9 := Lib.hid hx19
    have HOu := Lib.hid hou
    have HC := Lib.hid hcon
    have HLd := Lib.hid hld
    have HLF := Lib.hid (And.intro hl hF)
    clear h9 hx9 hx19 ho9 hW9 k4 j4 hou hcon hld hl hF hw1 hw2
    with_reducible refine HC.out.mono ?_
    rintro e w10 ⟨g, rfl, hg, hgo, hb10⟩
    have ou10 := HOu.out.below hb10 HOu.out.lt
    have h10 := H9.out.later hb10
    obtain ⟨u0, u1, u2, u3, u4, u5, u6⟩ := unit_cells ou10
    obtain ⟨t0, t1, t2, t3, t4, t5, t6⟩ := unit_frozen ou10
    have hw910 : w.heap.size < W9.heap.size := HOu.out.lt
    have hlw := hgo.lt
    have HO10 := Lib.hid ou10
    have H10 := Lib.hid h10
    have HG10 := Lib.hid hgo
    have HB10 := Lib.hid hb10
    simp only [unCells]
    clear ou10 h10 hgo hb10 HC
    go_wp2
    generalize hW11 : ((((((w10.setCell ⟨w.heap.size, 0, none⟩ (.int .u8 0)).setCell ⟨w.heap.size, 1, none⟩ (.bool false)).setCell ⟨w.heap.size, 2, none⟩ (.int .u8 (F : Int))).setCell ⟨w.heap.size, 3, none⟩ (.bool false)).setCell ⟨w.heap.size, 4, none⟩ (.int .u8 2)).setCell ⟨w.heap.size, 5, none⟩ (.int .u8 0)).setCell ⟨w.heap.size, 6, none⟩ (.slice (some ⟨g, 0, none⟩) l.length l.length) = W11
    obtain ⟨ou11, hx11⟩ := seven HO10.out hW11
    clear hW11 u0 u1 u2 u3 u4 u5 u6 t0 t1 t2 t3 t4 t5 t6
    obtain ⟨u0, u1, u2, u3, u4, u5, u6⟩ := unit_cells ou11
    refine bodyPost_ret (v := .agg #[.int .u8 0, .bool false, .int .u8 (F : Int), .bool false, .int .u8 2, .int .u8 0, .slice (some ⟨g, 0, none⟩) l.length l.length]) (by simp [results, Try.results52, go_sem, u0, u1, u2, u3, u4, u5, u6]) rfl ?_
    obtain ⟨hl, hF⟩ := HLF.out
    have hsz := HB.out.size
    have hlw9 := H9.out.s_lt
    have hM := HM.out
    refine ⟨some ⟨g, 0, none⟩, l.length, ?_, ?_, ?_, fun z hz => ?_, L, ?_, ⟨?_, fun k hk => .inl hk⟩, fun z hz hh => ?_⟩
    · rw [hF]; rfl
    · rw [hl]; rfl
    · have hr := (HG10.out.exc hx11 (by omega)).row0 l.length l.length rfl (Nat.le_refl _) (by have := HLd.out.1; unfold maxLen; omega) HLd.out.2
      rw [hl] at hr ⊢
      exact hr
    · cases hz
      exact ⟨by show w.heap.size ≤ g; omega, Nat.lt_of_lt_of_le hlw hx11.size⟩
    · have h11 := H10.out.exc hx11 (fun k hk hh => HNs.out k hk hh)
      rw [hM] at h11
      exact h11
    · exact ((((Exc.of_below HB.out).trans (HX9.out.weak (fun k _ hk => .inl hk)) (fun k _ hk => hk)).trans (S' := fun _ => False) (Exc.of_below HB10.out) (fun _ _ hk => hk.elim))).trans hx11 (fun k hk hh => by omega)
    · cases hz
      exact absurd (hlw9 _ hh) (Nat.not_lt.2 hg)
end Go.Proofs.Ytpggiajpjnegkaa
