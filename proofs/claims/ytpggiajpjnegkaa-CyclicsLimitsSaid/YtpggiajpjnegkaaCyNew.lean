/- The code's end of a link: a new load is sent. -/
import Derived.Test.YtpggiajpjnegkaaCyUnit
namespace Go.Proofs.Ytpggiajpjnegkaa
open Go.RowKit

/-- What choose and its parts hand back, and what is then at the end's place. -/
def Cho (w w' : World) (b : Nat) (L : ELay) (x' : En) (u : Un) (e : Ending) : Prop :=
  ∃ s k, e = .returned (.agg #[.int .u8 0, .bool false, .int .u8 (u.fore : Int), .bool false, .int .u8 (u.kind : Int), .int .u8 0, .slice s k k]) ∧ k = u.load.length ∧ Row .u8 w' s k k u.load ∧ (∀ z, s = some z → w.heap.size ≤ z.block ∧ z.block < w'.heap.size) ∧
    ∃ L', EndL w' b x' L' ∧ Turn (L.S b) w (L'.S b) w' ∧ ∀ z, s = some z → ¬ L'.S b z.block
theorem seven {W W' : World} {k t : Nat} {a0 a1 a2 a3 a4 a5 a6 v0 v1 v2 v3 v4 v5 v6 : Value} (h : Own W k t [a0, a1, a2, a3, a4, a5, a6])
    (hW : ((((((W.setCell ⟨k, 0, none⟩ v0).setCell ⟨k, 1, none⟩ v1).setCell ⟨k, 2, none⟩ v2).setCell ⟨k, 3, none⟩ v3).setCell ⟨k, 4, none⟩ v4).setCell ⟨k, 5, none⟩ v5).setCell ⟨k, 6, none⟩ v6 = W') :
    Own W' k t [v0, v1, v2, v3, v4, v5, v6] ∧ Exc (fun j => j = k) W W' := by
  subst hW
  exact ⟨((((((h.set 0 v0).set 1 v1).set 2 v2).set 3 v3).set 4 v4).set 5 v5).set 6 v6, (((((((Exc.refl (fun j => j = k) W).setCell ⟨k, 0, none⟩ (.inl rfl) _).setCell ⟨k, 1, none⟩ (.inl rfl) _).setCell ⟨k, 2, none⟩ (.inl rfl) _).setCell ⟨k, 3, none⟩ (.inl rfl) _).setCell ⟨k, 4, none⟩ (.inl rfl) _).setCell ⟨k, 5, none⟩ (.inl rfl) _).setCell ⟨k, 6, none⟩ (.inl rfl) _⟩
def En.sentNew (x : En) : En := { x with que := x.que.drop 1, una := x.una ++ [x.que.getD 0 []], sent := (x.sent + 1) % 128 }
set_option maxHeartbeats 4000000 in
set_option maxRecDepth 100000 in
theorem sendNew_ok (b : Nat) (x : En) (L : ELay) (w : World) (h0 : EndL w b x L) (hq : 0 < x.que.length) (h127 : x.una.length < 127) :
    Calls Try.prog 51 #[.pointer (some ⟨b, 0, none⟩)] w fun e w' => Cho w w' b L x.sentNew ⟨0, false, (x.sent + 1) % 128, false, 2, 0, x.que.getD 0 []⟩ e := by
  obtain ⟨W1, hW1⟩ : ∃ W, W = w.alloc (.cells zeroUnit.toArray 45) := ⟨_, rfl⟩
  have hb1 : Below w.heap.size w W1 := by rw [hW1]; exact below_alloc _ _
  have ou : Own W1 w.heap.size 45 zeroUnit := by rw [hW1]; exact own_lit w _ _ _ rfl
  have h := h0.later hb1
  have hslt := h0.s_lt
  have HS0 := Lib.hid hslt
  have HW := Lib.hid hW1
  have HB := Lib.hid hb1
  have HU := Lib.hid ou
  clear h0 hslt hW1 hb1 ou
  have c0 := h.cells.2.2.1
  have c1 := h.cells.2.2.2.1
  have f1 := h.own.frozen 3
  obtain ⟨k, o, s, ha, hg, hcl, hr, hz⟩ := h.q.at hq
  obtain ⟨l, hl⟩ : ∃ l, l = x.que.getD 0 [] := ⟨_, rfl⟩
  rw [← hl] at hcl hr
  simp only [Nat.add_zero] at hcl
  rw [ha] at c0
  have hi0 : (0 : Int) < (x.que.length : Int) := by omega
  obtain ⟨vs, hbuf, hvs⟩ := h.o
  have hvl := hbuf.len
  obtain ⟨i0, hi, hz0, hz1', hz2⟩ := info_parts infoRow
  have hbs : b < W1.heap.size := h.own.lt
  have hgb : L.go ≠ some b := fun hh => (h.bo b hh).1 rfl
  have hnn : x.una.length + 1 ≤ maxLen := by unfold maxLen; omega
  have hbb : (x.una.length + 1) * 24 ≤ 140737488355328 := by omega
  have hks : k < W1.heap.size := h.q.lt hg
  have hfit := h.fit
  obtain ⟨N, hN⟩ : ∃ N, N = (x.sent + 1) % 128 := ⟨_, rfl⟩
  have hsi : ((x.sent : Int) + 1) % 128 = (N : Int) := by omega
  have haf : ∀ W, Calls Try.prog 53 #[.int .u8 (x.sent : Int), .int .i64 1] W fun e w' => e = .returned (.int .u8 (N : Int)) ∧ W = w' := fun W => by
    have hh := after_any (x.sent : Int) 1 W (by have := hfit.sent; omega) (by have := hfit.sent; omega)
    rw [hsi] at hh
    exact hh
  have HAf := Lib.hid haf
  have HFit := Lib.hid hfit
  have HN := Lib.hid hN
  clear haf hsi hN hfit
  have H := Lib.hid h
  have HBf := Lib.hid hbuf
  have HVs := Lib.hid hvs
  have HVl := Lib.hid hvl
  have HI := Lib.hid (And.intro hi (And.intro hz0 (And.intro hz1' hz2)))
  have HG := Lib.hid hgb
  have HNn := Lib.hid (And.intro hnn hbb)
  have HL := Lib.hid hl
  have HR := Lib.hid hr
  have HZ := Lib.hid hz
  have HQ0 := Lib.hid hq
  have H127 := Lib.hid h127
  have HA := Lib.hid ha
  clear h hbuf hvs hvl hi hz0 hz1' hz2 hgb hnn hbb hl hr hz h127 ha hg
  go_enter Try.func51, Try.ntmps51
  go_wp2_with fail
  rw [← HW.out]
  go_region_law
    (first
      | (refine step_append_buf (by rfl) _ _ _ _ (by rfl) 36 i0 _ 1 24 Try.underlying52 HI.out.1 HI.out.2.1 HI.out.2.2.1 HI.out.2.2.2 (by rfl) (by decide) L.go L.ao x.una.length L.co vs (by rfl) (by first | exact HBf.out.later ((below_draw W1 1).trans (below_alloc W1.drew _)) | exact HBf.out.later (below_alloc W1 _)) _ 1 [.slice s l.length l.length] (by rfl) (by first | exact src_row1 (own_lit W1.drew _ _ _ rfl) rfl | exact src_row1 (own_lit W1 _ _ _ rfl) rfl) HNn.out.1 HNn.out.2 ?_; intro g' a' c' w6 q1 q2 q3; have kct := q2.cell (p := ⟨b, 3, none⟩) (by first | exact ((below_alloc W1.drew _).cell (p := ⟨b, 3, none⟩) hbs).trans c1 | exact ((below_alloc W1 _).cell (p := ⟨b, 3, none⟩) hbs).trans c1) (fun hh => HG.out hh); have hbw : Below W1.heap.size W1 (W1.drew.alloc (.cells #[.slice s l.length l.length] 36)) := (below_draw W1 1).trans (below_alloc W1.drew _); have kf : w6.frozen? ⟨b, 3, none⟩ = false := (by first | exact ((H.out.own.below hbw hbs).exc q2 (fun hh => HG.out hh)).frozen 3 | exact ((H.out.own.below (below_alloc W1 _) hbs).exc q2 (fun hh => HG.out hh)).frozen 3); have HQ := Lib.hid (And.intro q1 (And.intro q2 q3)); clear q1 q2 q3 hbw)
      | fail)
  all_goals
    obtain ⟨q1, q2, q3⟩ := HQ.out
    have hx06 : Exc (fun k => L.go = some k) W1 w6 := by first | exact (Exc.of_below ((below_draw W1 1).trans (below_alloc W1.drew _))).trans q2 (fun _ _ hh => hh) | exact (Exc.of_below (below_alloc W1 _)).trans q2 (fun _ _ hh => hh)
    generalize hW7 : w6.setCell ⟨b, 3, none⟩ (.slice a' (x.una.length + 1) c') = W7
    have hx67 : Exc (fun k => k = b) w6 W7 := by rw [← hW7]; exact (Exc.refl (fun k => k = b) w6).setCell ⟨b, 3, none⟩ (.inl rfl) _
    have hx07 : Exc (fun k => L.go = some k ∨ k = b) W1 W7 := (hx06.weak (fun _ _ hh => .inl hh)).trans hx67 (fun _ _ hh => .inr hh)
    have hl6 : ∀ k, g' = some k → L.go = some k ∨ W1.heap.size ≤ k := fun k hk => by
      rcases q3 k hk with h5 | h5
      · exact .inl h5
      · right
        first | exact Nat.le_trans ((below_draw W1 1).trans (below_alloc W1.drew _)).size h5 | exact Nat.le_trans (below_alloc W1 _).size h5
    have hgp' : ∀ k, g' = some k → ¬ k = b := fun k hk hp' => by
      rcases hl6 k hk with h5 | h5
      · exact HG.out (hp' ▸ h5)
      · omega
    have ho7 := (H.out.own.exc hx06 (fun hh => HG.out hh)).set 3 (.slice a' (x.una.length + 1) c')
    rw [hW7] at ho7
    have hP : ∀ k, L.P k → ¬ (L.go = some k ∨ k = b) := fun k hk hh => by
      rcases hh with hh | hh
      · exact (H.out.bo k hh).2 hk
      · exact H.out.bP (hh ▸ hk)
    have hr7 : RowV W7 L.P true (.slice s l.length l.length) l := ⟨s, l.length, rfl, HR.out.exc hx07 (fun z hz => hP _ (HZ.out z hz)), fun _ => rfl, HZ.out⟩
    have hb7 := q1.exc hx67 hgp'
    have hwl : 2 ≤ l.length ∧ l.length ≤ 273 := by
      rw [HL.out]
      refine H.out.wide _ (.inl ?_)
      have hq := HQ0.out
      rw [List.getD_eq_getElem?_getD, List.getElem?_eq_getElem hq]
      exact List.getElem_mem hq
    have hfin := H.out.addo (x' := { x with una := x.una ++ [l] }) hx07 (by have := HVl.out; omega) HVs.out hb7 hr7 hl6 rfl (by
      have e : endCells { x with una := x.una ++ [l] } { L with go := g', ao := a', co := c' } = (endCells x L).set 3 (.slice a' (x.una.length + 1) c') := by simp [endCells]
      rw [e]; exact ho7) H127.out hwl
    obtain ⟨x1, hx1⟩ : ∃ x1, x1 = ({ x with una := x.una ++ [l] } : En) := ⟨_, rfl⟩
    obtain ⟨L1, hL1⟩ : ∃ L1, L1 = ({ L with go := g', ao := a', co := c' } : ELay) := ⟨_, rfl⟩
    rw [← hx1, ← hL1] at hfin
    have e1 : L1.aq = L.aq := by rw [hL1]
    have e2 : L1.cq = L.cq := by rw [hL1]
    have e3 : x1.que = x.que := by rw [hx1]
    have e4 : x1.sent = x.sent := by rw [hx1]
    obtain ⟨A, hs1, hs2, hro⟩ := rows_cut hfin.1.q 1 (by rw [e3]; exact HQ0.out) (by rw [e3]; have := HFit.out.que; omega)
    rw [e1, e2, e3] at hs1 hs2
    rw [e2, e3] at hro
    simp only [show ((1 : Nat) : Int) = 1 from rfl] at hs1 hs2
    have c0 := hfin.1.cells.2.2.1
    have c3 := hfin.1.cells.2.2.2.2.2.2.1
    have f0 := hfin.1.own.frozen 2
    rw [e1, e2, e3] at c0
    rw [e4] at c3
    have h7b : b < W7.heap.size := hfin.1.own.lt
    have HFin := Lib.hid hfin
    have HX1 := Lib.hid hx1
    have HL1 := Lib.hid hL1
    have HRo := Lib.hid hro
    have HE := Lib.hid (And.intro e1 (And.intro e2 (And.intro e3 e4)))
    have HSl := Lib.hid (And.intro hs1 hs2)
    clear hfin hx1 hL1 hro e1 e2 e3 e4 hb7 hr7 hP ho7 hgp' hl6 hx07 hx67 hW7 hx06 q1 q2 q3 kct kf c1 f1 HQ hs1 hs2 hwl
    obtain ⟨hs1, hs2⟩ := HSl.out
    go_wp2_with fail
    generalize hW8 : W7.setCell ⟨b, 2, none⟩ (.slice A (x.que.length - 1) (L.cq - 1)) = W8
    have hx78 : Exc (fun k => k = b) W7 W8 := by rw [← hW8]; exact (Exc.refl (fun k => k = b) W7).setCell ⟨b, 2, none⟩ (.inl rfl) _
    have ho8 := HFin.out.1.own.set 2 (.slice A (x.que.length - 1) (L.cq - 1))
    rw [hW8] at ho8
    obtain ⟨x2, hx2⟩ : ∃ x2, x2 = ({ x1 with que := x1.que.drop 1 } : En) := ⟨_, rfl⟩
    obtain ⟨L2, hL2⟩ : ∃ L2, L2 = ({ L1 with aq := A, cq := L.cq - 1 } : ELay) := ⟨_, rfl⟩
    have h8 := HFin.out.1.cutq (x' := x2) (p := 1) hx78 (by rw [HE.out.2.2.1]; exact HRo.out) hx2 (by
      have e : endCells x2 { L1 with aq := A, cq := L.cq - 1 } = (endCells x1 L1).set 2 (.slice A (x.que.length - 1) (L.cq - 1)) := by rw [hx2]; simp [endCells, HE.out.2.2.1]
      rw [e]; exact ho8)
    rw [← hL2] at h8
    have e4 : x2.sent = x.sent := by rw [hx2]; exact HE.out.2.2.2
    have c3 := h8.cells.2.2.2.2.2.2.1
    have f3 := h8.own.frozen 6
    rw [e4] at c3
    have e5 : x2.una = x.una ++ [l] := by rw [hx2]; show x1.una = _; rw [HX1.out]
    have d3 := h8.cells.2.2.2.1
    have e6 : x2.una.length = x.una.length + 1 := by rw [e5, List.length_append, List.length_singleton]
    rw [e6] at d3
    have hw9 : IntKind.i64.wrap (((x.una.length + 1 : Nat) : Int) - 1) = (x.una.length : Int) := by have := H127.out; rw [IntWalk.i64_in _ (by omega)]; omega
    have HE5 := Lib.hid e5
    have H8 := Lib.hid h8
    have HX2 := Lib.hid hx2
    have HL2 := Lib.hid hL2
    have HX78 := Lib.hid hx78
    clear h8 hx2 hL2 hx78 ho8 hW8 e4 e5 e6 c0 f0 hs1 hs2
    obtain ⟨M, hM⟩ : ∃ M, M = x.una.length + 1 := ⟨_, rfl⟩
    rw [← hM] at d3 hw9
    clear hM
    go_wp2_with fail
    refine (HAf.out _).mono ?_
    rintro e w' ⟨rfl, rfl⟩
    go_wp2_with fail
    generalize hW9 : W8.setCell ⟨b, 6, none⟩ (.int .u8 (N : Int)) = W9
    have hx89 : Exc (fun k => k = b) W8 W9 := by rw [← hW9]; exact (Exc.refl (fun k => k = b) W8).setCell ⟨b, 6, none⟩ (.inl rfl) _
    have ho9 := H8.out.own.set 6 (.int .u8 (N : Int))
    rw [hW9] at ho9
    have h9 := H8.out.redo (x' := { x2 with sent := N }) hx89 (by
      have e : endCells { x2 with sent := N } L2 = (endCells x2 L2).set 6 (.int .u8 (N : Int)) := by simp [endCells]
      rw [e]; exact ho9) rfl rfl (by
      have hf := H8.out.fit
      exact ⟨hf.que, hf.una, hf.plc, hf.lm1, hf.lm2, hf.lo1, hf.lo2, by show N < 128; rw [HN.out]; omega, hf.acc⟩)
    have hxx : ({ x2 with sent := N } : En) = x.sentNew := by
      rw [HX2.out, HX1.out, HN.out, HL.out]; rfl
    rw [hxx] at h9
    have hS : ∀ kk, L2.S b kk ↔ L1.S b kk := fun kk => by rw [HL2.out]; exact Iff.rfl
    have hT : Turn (L.S b) W1 (L2.S b) W9 := by
      have hx := HFin.out.2
      refine ⟨(hx.exc.trans HX78.out (fun kk _ hk => .inl hk)).trans hx89 (fun kk _ hk => .inl hk), fun kk hk => hx.lies kk ((hS kk).1 hk)⟩
    have hul : x.sentNew.una.length = x.una.length + 1 := by show (x.una ++ [x.que.getD 0 []]).length = _; rw [List.length_append, List.length_singleton]
    have hcon := unit_any b x.sentNew L2 W9 x.una.length h9 (by omega)
    have eF : (x.sentNew.sent + 129 + x.una.length - x.sentNew.una.length) % 128 = (x.sent + 1) % 128 := by rw [hul]; show ((x.sent + 1) % 128 + 129 + x.una.length - (x.una.length + 1)) % 128 = _; omega
    have eL : x.sentNew.una.getD x.una.length [] = l := by
      show (x.una ++ [x.que.getD 0 []]).getD x.una.length [] = l
      rw [HL.out, List.getD_eq_getElem?_getD, List.getElem?_append_right (Nat.le_refl _)]
      simp
    rw [eF, eL] at hcon
    have hou := HU.out.exc hT.exc (fun hh => absurd (HS0.out _ hh) (Nat.lt_irrefl _))
    have H9 := Lib.hid h9
    have HT := Lib.hid hT
    have HOu := Lib.hid hou
    have HC := Lib.hid hcon
    clear h9 hT hS hxx ho9 hx89 hW9 c3 f3 d3 hw9 hul eF eL hou hcon
    with_reducible refine HC.out.mono ?_
    rintro e w10 ⟨g, rfl, hg, hgo, hb10⟩
    have ou10 := HOu.out.below hb10 HOu.out.lt
    have h10 := H9.out.later hb10
    obtain ⟨u0, u1, u2, u3, u4, u5, u6⟩ := unit_cells ou10
    obtain ⟨t0, t1, t2, t3, t4, t5, t6⟩ := unit_frozen ou10
    have hw910 : w.heap.size < W9.heap.size := HOu.out.lt
    have hlw := hgo.lt
    have HO10 := Lib.hid ou10
    have H10 := Lib.hid h10
    have HG10 := Lib.hid hgo
    have HB10 := Lib.hid hb10
    obtain ⟨F, hF⟩ : ∃ F, F = (x.sent + 1) % 128 := ⟨_, rfl⟩
    rw [← hF]
    have HFF := Lib.hid hF
    simp only [unCells]
    clear ou10 h10 hgo hb10 HC hF
    go_wp2
    generalize hW11 : ((((((w10.setCell ⟨w.heap.size, 0, none⟩ (.int .u8 0)).setCell ⟨w.heap.size, 1, none⟩ (.bool false)).setCell ⟨w.heap.size, 2, none⟩ (.int .u8 (F : Int))).setCell ⟨w.heap.size, 3, none⟩ (.bool false)).setCell ⟨w.heap.size, 4, none⟩ (.int .u8 2)).setCell ⟨w.heap.size, 5, none⟩ (.int .u8 0)).setCell ⟨w.heap.size, 6, none⟩ (.slice (some ⟨g, 0, none⟩) l.length l.length) = W11
    obtain ⟨ou11, hx11⟩ := seven HO10.out hW11
    clear hW11 u0 u1 u2 u3 u4 u5 u6 t0 t1 t2 t3 t4 t5 t6
    obtain ⟨u0, u1, u2, u3, u4, u5, u6⟩ := unit_cells ou11
    refine bodyPost_ret (v := .agg #[.int .u8 0, .bool false, .int .u8 (F : Int), .bool false, .int .u8 2, .int .u8 0, .slice (some ⟨g, 0, none⟩) l.length l.length]) (by simp [results, Try.results51, go_sem, u0, u1, u2, u3, u4, u5, u6]) rfl ?_
    have hn : ¬ L2.S b w.heap.size := fun hh => by
      rcases HT.out.lies _ hh with h5 | h5
      · exact absurd (HS0.out _ h5) (Nat.lt_irrefl _)
      · have := HU.out.lt; omega
    have hlw9 := H9.out.s_lt
    have hsz := HB.out.size
    refine ⟨some ⟨g, 0, none⟩, l.length, ?_, ?_, ?_, fun z hz => ?_, L2, H10.out.exc hx11 (fun k hk hh => hn (hh ▸ hk)), ⟨?_, fun k hk => ?_⟩, fun z hz hh => ?_⟩
    · rw [HFF.out]; rfl
    · rw [HL.out]
    · rw [← HL.out]
      exact (HG10.out.exc hx11 (by omega)).row0 _ _ rfl (Nat.le_refl _) (by have := HR.out.max; unfold maxLen at this ⊢; omega) HR.out.wf
    · cases hz
      exact ⟨by show w.heap.size ≤ g; omega, Nat.lt_of_lt_of_le hlw hx11.size⟩
    · exact ((((Exc.of_below HB.out).trans HT.out.exc (fun k _ hk => hk)).trans (S' := fun _ => False) (Exc.of_below HB10.out) (fun _ _ hk => hk.elim))).trans hx11 (fun k hk hh => by omega)
    · rcases HT.out.lies k hk with h5 | h5
      · exact .inl h5
      · exact .inr (Nat.le_trans hsz h5)
    · cases hz
      exact absurd (hlw9 _ hh) (Nat.not_lt.2 hg)
end Go.Proofs.Ytpggiajpjnegkaa
