/- The code's end of a link: a load gets its number. -/
import Derived.Test.YtoegijmfcelgnaaEaPut
namespace Go.Proofs.Ytoegijmfcelgnaa
open Go.RowKit

def En.numbered (x : En) : En := { x with que := x.que.drop 1, una := x.una ++ [x.que.getD 0 []], sent := (x.sent + 1) % 128, rep := 1 }
theorem drop1_length {l : List (List Int)} : (l.drop 1).length = l.length - 1 := by simp
set_option maxHeartbeats 4000000 in
set_option maxRecDepth 100000 in
theorem number_ok (b : Nat) (x : En) (L : ELay) (w : World) (h : EndL w b x L) (hq : 0 < x.que.length) (h127 : x.una.length < 127) :
    Calls Try.prog 44 #[.pointer (some ⟨b, 0, none⟩)] w fun e w' => e = .returned (.tuple #[]) ∧ ∃ L', EndL w' b x.numbered L' ∧ Turn (L.S b) w (L'.S b) w' := by
  have c0 := h.cells.1
  have c1 := h.cells.2.1
  have f1 := h.own.frozen 1
  obtain ⟨k, o, s, ha, hg, hcl, hr, hz⟩ := h.q.at hq
  obtain ⟨l, hl⟩ : ∃ l, l = x.que.getD 0 [] := ⟨_, rfl⟩
  rw [← hl] at hcl hr
  simp only [Nat.add_zero] at hcl
  rw [ha] at c0
  have hi0 : (0 : Int) < (x.que.length : Int) := by omega
  obtain ⟨vs, hbuf, hvs⟩ := h.o
  have hvl := hbuf.len
  obtain ⟨i0, hi, hz0, hz1', hz2⟩ := info_parts infoRow
  have hbs : b < w.heap.size := h.own.lt
  have hgb : L.go ≠ some b := fun hh => (h.bo b hh).1 rfl
  have hnn : x.una.length + 1 ≤ maxLen := by unfold maxLen; omega
  have hbb : (x.una.length + 1) * 24 ≤ 140737488355328 := by omega
  have hks : k < w.heap.size := h.q.lt hg
  have hfit := h.fit
  obtain ⟨N, hN⟩ : ∃ N, N = (x.sent + 1) % 128 := ⟨_, rfl⟩
  have hsi : ((x.sent : Int) + 1) % 128 = (N : Int) := by omega
  have haf : ∀ W, Calls Try.prog 43 #[.int .u8 (x.sent : Int), .int .i64 1] W fun e w' => e = .returned (.int .u8 (N : Int)) ∧ W = w' := fun W => by
    have hh := after_any (x.sent : Int) 1 W (by have := hfit.sent; omega) (by have := hfit.sent; omega)
    rw [hsi] at hh
    exact hh
  have HAf := Lib.hid haf
  have HFit := Lib.hid hfit
  have HN := Lib.hid hN
  clear haf hsi hN hfit
  have H := Lib.hid h
  have HBf := Lib.hid hbuf
  have HVs := Lib.hid hvs
  have HVl := Lib.hid hvl
  have HI := Lib.hid (And.intro hi (And.intro hz0 (And.intro hz1' hz2)))
  have HG := Lib.hid hgb
  have HNn := Lib.hid (And.intro hnn hbb)
  have HL := Lib.hid hl
  have HR := Lib.hid hr
  have HZ := Lib.hid hz
  have HQ0 := Lib.hid hq
  have H127 := Lib.hid h127
  have HA := Lib.hid ha
  clear h hbuf hvs hvl hi hz0 hz1' hz2 hgb hnn hbb hl hr hz h127 ha hg
  go_enter Try.func44, Try.ntmps44
  go_wp2_with fail
  go_region_law
    (first
      | (refine step_append_buf (by rfl) _ _ _ _ (by rfl) 32 i0 _ 1 24 Try.underlying48 HI.out.1 HI.out.2.1 HI.out.2.2.1 HI.out.2.2.2 (by rfl) (by decide) L.go L.ao x.una.length L.co vs (by rfl) (by first | exact HBf.out.later ((below_draw w 1).trans (below_alloc w.drew _)) | exact HBf.out.later (below_alloc w _)) _ 1 [.slice s l.length l.length] (by rfl) (by first | exact src_row1 (own_lit w.drew _ _ _ rfl) rfl | exact src_row1 (own_lit w _ _ _ rfl) rfl) HNn.out.1 HNn.out.2 ?_; intro g' a' c' w6 q1 q2 q3; have kct := q2.cell (p := ⟨b, 1, none⟩) (by first | exact ((below_alloc w.drew _).cell (p := ⟨b, 1, none⟩) hbs).trans c1 | exact ((below_alloc w _).cell (p := ⟨b, 1, none⟩) hbs).trans c1) (fun hh => HG.out hh); have hbw : Below w.heap.size w (w.drew.alloc (.cells #[.slice s l.length l.length] 32)) := (below_draw w 1).trans (below_alloc w.drew _); have kf : w6.frozen? ⟨b, 1, none⟩ = false := (by first | exact ((H.out.own.below hbw hbs).exc q2 (fun hh => HG.out hh)).frozen 1 | exact ((H.out.own.below (below_alloc w _) hbs).exc q2 (fun hh => HG.out hh)).frozen 1); have HQ := Lib.hid (And.intro q1 (And.intro q2 q3)); clear q1 q2 q3 hbw)
      | fail)
  all_goals
    obtain ⟨q1, q2, q3⟩ := HQ.out
    have hx06 : Exc (fun k => L.go = some k) w w6 := by first | exact (Exc.of_below ((below_draw w 1).trans (below_alloc w.drew _))).trans q2 (fun _ _ hh => hh) | exact (Exc.of_below (below_alloc w _)).trans q2 (fun _ _ hh => hh)
    generalize hW7 : w6.setCell ⟨b, 1, none⟩ (.slice a' (x.una.length + 1) c') = W7
    have hx67 : Exc (fun k => k = b) w6 W7 := by rw [← hW7]; exact (Exc.refl (fun k => k = b) w6).setCell ⟨b, 1, none⟩ (.inl rfl) _
    have hx07 : Exc (fun k => L.go = some k ∨ k = b) w W7 := (hx06.weak (fun _ _ hh => .inl hh)).trans hx67 (fun _ _ hh => .inr hh)
    have hl6 : ∀ k, g' = some k → L.go = some k ∨ w.heap.size ≤ k := fun k hk => by
      rcases q3 k hk with h5 | h5
      · exact .inl h5
      · right
        first | exact Nat.le_trans ((below_draw w 1).trans (below_alloc w.drew _)).size h5 | exact Nat.le_trans (below_alloc w _).size h5
    have hgp' : ∀ k, g' = some k → ¬ k = b := fun k hk hp' => by
      rcases hl6 k hk with h5 | h5
      · exact HG.out (hp' ▸ h5)
      · omega
    have ho7 := (H.out.own.exc hx06 (fun hh => HG.out hh)).set 1 (.slice a' (x.una.length + 1) c')
    rw [hW7] at ho7
    have hP : ∀ k, L.P k → ¬ (L.go = some k ∨ k = b) := fun k hk hh => by
      rcases hh with hh | hh
      · exact (H.out.bo k hh).2 hk
      · exact H.out.bP (hh ▸ hk)
    have hr7 : RowV W7 L.P true (.slice s l.length l.length) l := ⟨s, l.length, rfl, HR.out.exc hx07 (fun z hz => hP _ (HZ.out z hz)), fun _ => rfl, HZ.out⟩
    have hb7 := q1.exc hx67 hgp'
    have hwl : 2 ≤ l.length ∧ l.length ≤ 273 := by
      rw [HL.out]
      refine H.out.wide _ (.inl ?_)
      have hq := HQ0.out
      rw [List.getD_eq_getElem?_getD, List.getElem?_eq_getElem hq]
      exact List.getElem_mem hq
    have hfin := H.out.addo (x' := { x with una := x.una ++ [l] }) hx07 (by have := HVl.out; omega) HVs.out hb7 hr7 hl6 rfl (by
      have e : endCells { x with una := x.una ++ [l] } { L with go := g', ao := a', co := c' } = (endCells x L).set 1 (.slice a' (x.una.length + 1) c') := by simp [endCells]
      rw [e]; exact ho7) H127.out hwl
    obtain ⟨x1, hx1⟩ : ∃ x1, x1 = ({ x with una := x.una ++ [l] } : En) := ⟨_, rfl⟩
    obtain ⟨L1, hL1⟩ : ∃ L1, L1 = ({ L with go := g', ao := a', co := c' } : ELay) := ⟨_, rfl⟩
    rw [← hx1, ← hL1] at hfin
    have e1 : L1.aq = L.aq := by rw [hL1]
    have e2 : L1.cq = L.cq := by rw [hL1]
    have e3 : x1.que = x.que := by rw [hx1]
    have e4 : x1.sent = x.sent := by rw [hx1]
    obtain ⟨A, hs1, hs2, hro⟩ := rows_cut hfin.1.q 1 (by rw [e3]; exact HQ0.out) (by rw [e3]; have := HFit.out.que; omega)
    rw [e1, e2, e3] at hs1 hs2
    rw [e2, e3] at hro
    simp only [show ((1 : Nat) : Int) = 1 from rfl] at hs1 hs2
    have c0 := hfin.1.cells.1
    have c3 := hfin.1.cells.2.2.2.1
    have f0 := hfin.1.own.frozen 0
    rw [e1, e2, e3] at c0
    rw [e4] at c3
    have h7b : b < W7.heap.size := hfin.1.own.lt
    have HFin := Lib.hid hfin
    have HX1 := Lib.hid hx1
    have HL1 := Lib.hid hL1
    have HRo := Lib.hid hro
    have HE := Lib.hid (And.intro e1 (And.intro e2 (And.intro e3 e4)))
    have HSl := Lib.hid (And.intro hs1 hs2)
    clear hfin hx1 hL1 hro e1 e2 e3 e4 hb7 hr7 hP ho7 hgp' hl6 hx07 hx67 hW7 hx06 q1 q2 q3 kct kf c1 f1 HQ hs1 hs2 hwl
    obtain ⟨hs1, hs2⟩ := HSl.out
    go_wp2_with fail
    generalize hW8 : W7.setCell ⟨b, 0, none⟩ (.slice A (x.que.length - 1) (L.cq - 1)) = W8
    have hx78 : Exc (fun k => k = b) W7 W8 := by rw [← hW8]; exact (Exc.refl (fun k => k = b) W7).setCell ⟨b, 0, none⟩ (.inl rfl) _
    have ho8 := HFin.out.1.own.set 0 (.slice A (x.que.length - 1) (L.cq - 1))
    rw [hW8] at ho8
    obtain ⟨x2, hx2⟩ : ∃ x2, x2 = ({ x1 with que := x1.que.drop 1 } : En) := ⟨_, rfl⟩
    obtain ⟨L2, hL2⟩ : ∃ L2, L2 = ({ L1 with aq := A, cq := L.cq - 1 } : ELay) := ⟨_, rfl⟩
    have h8 := HFin.out.1.cutq (x' := x2) (p := 1) hx78 (by rw [HE.out.2.2.1]; exact HRo.out) hx2 (by
      have e : endCells x2 { L1 with aq := A, cq := L.cq - 1 } = (endCells x1 L1).set 0 (.slice A (x.que.length - 1) (L.cq - 1)) := by rw [hx2]; simp [endCells, HE.out.2.2.1]
      rw [e]; exact ho8)
    rw [← hL2] at h8
    have e4 : x2.sent = x.sent := by rw [hx2]; exact HE.out.2.2.2
    have c3 := h8.cells.2.2.2.1
    have f3 := h8.own.frozen 3
    have c2 := h8.cells.2.2.1
    have f2 := h8.own.frozen 2
    rw [e4] at c3
    have H8 := Lib.hid h8
    have HX2 := Lib.hid hx2
    have HL2 := Lib.hid hL2
    have HX78 := Lib.hid hx78
    clear h8 hx2 hL2 hx78 ho8 hW8 e4 c0 f0 hs1 hs2
    go_wp2_with fail
    refine (HAf.out _).mono ?_
    rintro e w' ⟨rfl, rfl⟩
    go_wp2_with fail
    generalize hW9 : (W8.setCell ⟨b, 3, none⟩ (.int .u8 (N : Int))).setCell ⟨b, 2, none⟩ (.int .i64 1) = W9
    have hx89 : Exc (fun k => k = b) W8 W9 := by rw [← hW9]; exact ((Exc.refl (fun k => k = b) W8).setCell ⟨b, 3, none⟩ (.inl rfl) _).setCell ⟨b, 2, none⟩ (.inl rfl) _
    have ho9 := (H8.out.own.set 3 (.int .u8 (N : Int))).set 2 (.int .i64 1)
    rw [hW9] at ho9
    have e2u : x2.una = x.una ++ [l] := by rw [HX2.out]; show x1.una = _; rw [HX1.out]
    have h9 := H8.out.redo (x' := { x2 with sent := N, rep := 1 }) hx89 (by
      have e : endCells { x2 with sent := N, rep := 1 } L2 = ((endCells x2 L2).set 3 (.int .u8 (N : Int))).set 2 (.int .i64 1) := by simp [endCells]
      rw [e]; exact ho9) rfl rfl (by
      have hf := H8.out.fit
      exact ⟨hf.que, hf.una, by show 1 ≤ x2.una.length; rw [e2u, List.length_append, List.length_singleton]; omega, by show N < 128; rw [HN.out]; omega, hf.acc⟩)
    have hxx : ({ x2 with sent := N, rep := 1 } : En) = x.numbered := by
      rw [HX2.out, HX1.out, HN.out, HL.out]; rfl
    rw [hxx] at h9
    have hS : ∀ kk, L2.S b kk ↔ L1.S b kk := fun kk => by rw [HL2.out]; exact Iff.rfl
    have hT : Turn (L.S b) w (L2.S b) W9 := by
      have hx := HFin.out.2
      refine ⟨(hx.exc.trans HX78.out (fun kk _ hk => .inl hk)).trans hx89 (fun kk _ hk => .inl hk), fun kk hk => hx.lies kk ((hS kk).1 hk)⟩
    have H9 := Lib.hid (And.intro h9 hT)
    clear h9 hT hS hxx ho9 hx89 hW9 e2u c3 f3 c2 f2
    go_wp2
    go_end0
    exact ⟨rfl, L2, H9.out.1, H9.out.2⟩
end Go.Proofs.Ytoegijmfcelgnaa
