/- Joined: CyUnit CyNew CyRepeat CyChoose CyNext -/
import Derived.Test.YtdjnflfcolpccaaCyForce
import Derived.Deep.RegionLaw
import Derived.Deep.CutBlock
/- The code's end of a link: the unit with an open load. -/
namespace Go.Proofs.Ytdjnflfcolpccaa
open Go.RowKit

set_option maxHeartbeats 4000000 in
set_option maxRecDepth 100000 in
theorem unit_any (b : Nat) (x : En) (L : ELay) (w : World) (I : Nat) (h : EndL w b x L) (hI : I < x.una.length) :
    Calls Try.prog 52 #[.pointer (some ⟨b, 0, none⟩), .int .i64 (I : Int)] w fun e w' => ∃ g : Nat,
      e = .returned (.agg (unCells ⟨0, false, (x.sent + 129 + I - x.una.length) % 128, false, 2, 0, x.una.getD I []⟩ (some ⟨g, 0, none⟩) (x.una.getD I []).length (x.una.getD I []).length).toArray) ∧ w.heap.size ≤ g ∧ Own w' g 5 (nums .u8 (x.una.getD I [])) ∧ Below w.heap.size w w' := by
  have hfit := h.fit
  have hul := hfit.una
  have hse := hfit.sent
  obtain ⟨F, hF⟩ : ∃ F, F = (x.sent + 129 + I - x.una.length) % 128 := ⟨_, rfl⟩
  obtain ⟨k, o, s, ha, hg, hcl, hrr, hz⟩ := h.o.at hI
  obtain ⟨l, hl⟩ : ∃ l, l = x.una.getD I [] := ⟨_, rfl⟩
  have hwl : l.length ≤ 273 := by
    rw [hl]
    refine (h.wide _ (.inr ?_)).2
    rw [List.getD_eq_getElem?_getD, List.getElem?_eq_getElem hI]
    exact List.getElem_mem hI
  rw [← hl] at hcl hrr ⊢
  have hn1 : ((x.sent : Int) + ((I : Int) + 1 - (x.una.length : Int))) % 128 = (F : Int) := by omega
  rw [← hF]
  obtain ⟨n, hn⟩ : ∃ n, n = x.una.length := ⟨_, rfl⟩
  rw [← hn] at hn1 hul hI
  obtain ⟨N, hN⟩ : ∃ N, N = l.length := ⟨_, rfl⟩
  rw [← hN] at hcl hrr hwl ⊢
  have haf : ∀ W, Calls Try.prog 48 #[.int .u8 (x.sent : Int), .int .i64 ((I : Int) + 1 - (n : Int))] W fun e w' => e = .returned (.int .u8 (F : Int)) ∧ W = w' := fun W => by
    have hh := after_any (x.sent : Int) ((I : Int) + 1 - (n : Int)) W (by omega) (by omega)
    rw [hn1] at hh
    exact hh
  obtain ⟨W1, hW1⟩ : ∃ W, W = w.alloc (.cells zeroUnit.toArray 45) := ⟨_, rfl⟩
  have hb1 : Below w.heap.size w W1 := by rw [hW1]; exact below_alloc _ _
  have ou : Own W1 w.heap.size 45 zeroUnit := by rw [hW1]; exact own_lit w _ _ _ rfl
  have h1 := h.later hb1
  have c3 := h1.cells.2.2.2.1
  have c6 := h1.cells.2.2.2.2.2.2.1
  rw [ha, ← hn] at c3
  have hks : k < w.heap.size := h.o.lt hg
  replace hcl := (hb1.cell (p := ⟨k, o + I, none⟩) hks).trans hcl
  have hcn : Calls Try.prog 30 #[.slice s N N] W1.drew fun e w' => e = .returned (.slice (some ⟨W1.heap.size, 0, none⟩) N N) ∧ Below W1.heap.size W1.drew w' ∧ Own w' W1.heap.size 5 (nums .u8 l) := bclone_any s N N l W1.drew ((hrr.later hb1).later (below_draw W1 1)) (by omega)
  obtain ⟨u0, u1, u2, u3, u4, u5, u6⟩ := unit_cells ou
  obtain ⟨t0, t1, t2, t3, t4, t5, t6⟩ := unit_frozen ou
  have hbs : b < W1.heap.size := h1.own.lt
  have hus : w.heap.size < W1.heap.size := ou.lt
  have hks1 : k < W1.heap.size := by omega
  have hw1 : IntKind.i64.wrap ((I : Int) + 1) = (I : Int) + 1 := IntWalk.i64_in _ (by omega)
  have hw2 : IntKind.i64.wrap ((I : Int) + 1 - (n : Int)) = (I : Int) + 1 - (n : Int) := IntWalk.i64_in _ (by omega)
  have hi0 : (0 : Int) ≤ (I : Int) := by omega
  have hi1 : (I : Int) < (n : Int) := by omega
  have HAf := Lib.hid haf
  have HCn := Lib.hid hcn
  have HW := Lib.hid hW1
  have HB := Lib.hid hb1
  have HU := Lib.hid ou
  clear haf hcn hW1 hb1 ou h1 h hfit hF hl hrr hz hg ha hn1 hn hN hul hse hks hI
  go_enter Try.func52, Try.ntmps52
  go_wp2_with fail
  rw [← HW.out]
  go_region_law
    (first
      | (go_simp; go_at_call 48; ((with_reducible refine (HAf.out _).mono ?_); rintro e w2 ⟨rfl, rfl⟩; dsimp only))
      | (go_simp; go_at_call 30; ((with_reducible refine (HCn.out).mono ?_); rintro e w3 ⟨rfl, hb3, ho3⟩; have hs3 := ho3.lt; have kc3 := (hb3.cell (p := ⟨b, 3, none⟩) hbs).trans c3; have kc6 := (hb3.cell (p := ⟨b, 6, none⟩) hbs).trans c6; have ou3 := HU.out.below ((below_draw W1 1).trans hb3) hus; obtain ⟨v0, v1, v2, v3, v4, v5, v6⟩ := unit_cells ou3; obtain ⟨g0, g1, g2, g3, g4, g5, g6⟩ := unit_frozen ou3; have HU3 := Lib.hid ou3; have HQ := Lib.hid (And.intro hb3 ho3); clear hb3 ho3 ou3; dsimp only))
      | fail)
  all_goals
    clear c3 c6 hcl u0 u1 u2 u3 u4 u5 u6 t0 t1 t2 t3 t4 t5 t6 kc3 kc6 v0 v1 v2 v3 v4 v5 v6 g0 g1 g2 g3 g4 g5 g6 hw1 hw2
    generalize hW4 : (((((((w3.setCell ⟨w.heap.size, 0, none⟩ (.int .u8 0)).setCell ⟨w.heap.size, 1, none⟩ (.bool false)).setCell ⟨w.heap.size, 2, none⟩ (.int .u8 (F : Int))).setCell ⟨w.heap.size, 3, none⟩ (.bool false)).setCell ⟨w.heap.size, 4, none⟩ (.int .u8 2)).setCell ⟨w.heap.size, 5, none⟩ (.int .u8 0)).setCell ⟨w.heap.size, 6, none⟩ (.slice (some ⟨W1.heap.size, 0, none⟩) N N)) = W4
    have hx4 : Exc (fun j => j = w.heap.size) w3 W4 := by rw [← hW4]; exact (((((((Exc.refl (fun j => j = w.heap.size) w3).setCell ⟨w.heap.size, 0, none⟩ (.inl rfl) _).setCell ⟨w.heap.size, 1, none⟩ (.inl rfl) _).setCell ⟨w.heap.size, 2, none⟩ (.inl rfl) _).setCell ⟨w.heap.size, 3, none⟩ (.inl rfl) _).setCell ⟨w.heap.size, 4, none⟩ (.inl rfl) _).setCell ⟨w.heap.size, 5, none⟩ (.inl rfl) _).setCell ⟨w.heap.size, 6, none⟩ (.inl rfl) _
    have ou4 : Own W4 w.heap.size 45 [.int .u8 0, .bool false, .int .u8 (F : Int), .bool false, .int .u8 2, .int .u8 0, .slice (some ⟨W1.heap.size, 0, none⟩) N N] := by rw [← hW4]; exact ((((((HU3.out.set 0 (.int .u8 0)).set 1 (.bool false)).set 2 (.int .u8 (F : Int))).set 3 (.bool false)).set 4 (.int .u8 2)).set 5 (.int .u8 0)).set 6 (.slice (some ⟨W1.heap.size, 0, none⟩) N N)
    have hb13 : Below W1.heap.size W1 w3 := (below_draw W1 1).trans HQ.out.1
    have HE := Lib.hid (And.intro (HQ.out.2.exc hx4 (by omega)) ((HB.out.trans (Below.mono hb13 HB.out.size)).trans (hx4.below (Nat.le_trans HB.out.size hb13.size) (fun i _ hi => Nat.le_of_eq hi.symm))))
    obtain ⟨y0, y1, y2, y3, y4, y5, y6⟩ := unit_cells ou4
    clear hW4 hx4 ou4 hb13
    go_wp2
    refine bodyPost_ret (v := .agg (unCells ⟨0, false, F, false, 2, 0, l⟩ (some ⟨W1.heap.size, 0, none⟩) N N).toArray) (by simp [results, Try.results52, go_sem, y0, y1, y2, y3, y4, y5, y6, unCells]) rfl ?_
    exact ⟨W1.heap.size, rfl, HB.out.size, HE.out.1, HE.out.2⟩
end Go.Proofs.Ytdjnflfcolpccaa
/- The code's end of a link: a new load is sent. -/
namespace Go.Proofs.Ytdjnflfcolpccaa
open Go.RowKit

/-- What choose and its parts hand back, and what is then at the end's place. -/
def Cho (w w' : World) (b : Nat) (L : ELay) (x' : En) (u : Un) (e : Ending) : Prop :=
  ∃ s k, e = .returned (.agg #[.int .u8 0, .bool false, .int .u8 (u.fore : Int), .bool false, .int .u8 (u.kind : Int), .int .u8 0, .slice s k k]) ∧ k = u.load.length ∧ Row .u8 w' s k k u.load ∧ (∀ z, s = some z → w.heap.size ≤ z.block ∧ z.block < w'.heap.size) ∧
    ∃ L', EndL w' b x' L' ∧ Turn (L.S b) w (L'.S b) w' ∧ ∀ z, s = some z → ¬ L'.S b z.block
theorem seven {W W' : World} {k t : Nat} {a0 a1 a2 a3 a4 a5 a6 v0 v1 v2 v3 v4 v5 v6 : Value} (h : Own W k t [a0, a1, a2, a3, a4, a5, a6])
    (hW : ((((((W.setCell ⟨k, 0, none⟩ v0).setCell ⟨k, 1, none⟩ v1).setCell ⟨k, 2, none⟩ v2).setCell ⟨k, 3, none⟩ v3).setCell ⟨k, 4, none⟩ v4).setCell ⟨k, 5, none⟩ v5).setCell ⟨k, 6, none⟩ v6 = W') :
    Own W' k t [v0, v1, v2, v3, v4, v5, v6] ∧ Exc (fun j => j = k) W W' := by
  subst hW
  exact ⟨((((((h.set 0 v0).set 1 v1).set 2 v2).set 3 v3).set 4 v4).set 5 v5).set 6 v6, (((((((Exc.refl (fun j => j = k) W).setCell ⟨k, 0, none⟩ (.inl rfl) _).setCell ⟨k, 1, none⟩ (.inl rfl) _).setCell ⟨k, 2, none⟩ (.inl rfl) _).setCell ⟨k, 3, none⟩ (.inl rfl) _).setCell ⟨k, 4, none⟩ (.inl rfl) _).setCell ⟨k, 5, none⟩ (.inl rfl) _).setCell ⟨k, 6, none⟩ (.inl rfl) _⟩
def En.sentNew (x : En) : En := { x with que := x.que.drop 1, una := x.una ++ [x.que.getD 0 []], sent := (x.sent + 1) % 128 }
set_option maxHeartbeats 4000000 in
set_option maxRecDepth 100000 in
theorem sendNew_ok (b : Nat) (x : En) (L : ELay) (w : World) (h0 : EndL w b x L) (hq : 0 < x.que.length) (h127 : x.una.length < 127) :
    Calls Try.prog 46 #[.pointer (some ⟨b, 0, none⟩)] w fun e w' => Cho w w' b L x.sentNew ⟨0, false, (x.sent + 1) % 128, false, 2, 0, x.que.getD 0 []⟩ e := by
  obtain ⟨W1, hW1⟩ : ∃ W, W = w.alloc (.cells zeroUnit.toArray 45) := ⟨_, rfl⟩
  have hb1 : Below w.heap.size w W1 := by rw [hW1]; exact below_alloc _ _
  have ou : Own W1 w.heap.size 45 zeroUnit := by rw [hW1]; exact own_lit w _ _ _ rfl
  have h := h0.later hb1
  have hslt := h0.s_lt
  have HS0 := Lib.hid hslt
  have HW := Lib.hid hW1
  have HB := Lib.hid hb1
  have HU := Lib.hid ou
  clear h0 hslt hW1 hb1 ou
  have c0 := h.cells.2.2.1
  have c1 := h.cells.2.2.2.1
  have f1 := h.own.frozen 3
  obtain ⟨k, o, s, ha, hg, hcl, hr, hz⟩ := h.q.at hq
  obtain ⟨l, hl⟩ : ∃ l, l = x.que.getD 0 [] := ⟨_, rfl⟩
  rw [← hl] at hcl hr
  simp only [Nat.add_zero] at hcl
  rw [ha] at c0
  have hi0 : (0 : Int) < (x.que.length : Int) := by omega
  obtain ⟨vs, hbuf, hvs⟩ := h.o
  have hvl := hbuf.len
  obtain ⟨i0, hi, hz0, hz1', hz2⟩ := info_parts infoRow
  have hbs : b < W1.heap.size := h.own.lt
  have hgb : L.go ≠ some b := fun hh => (h.bo b hh).1 rfl
  have hnn : x.una.length + 1 ≤ maxLen := by unfold maxLen; omega
  have hbb : (x.una.length + 1) * 24 ≤ 140737488355328 := by omega
  have hks : k < W1.heap.size := h.q.lt hg
  have hfit := h.fit
  obtain ⟨N, hN⟩ : ∃ N, N = (x.sent + 1) % 128 := ⟨_, rfl⟩
  have hsi : ((x.sent : Int) + 1) % 128 = (N : Int) := by omega
  have haf : ∀ W, Calls Try.prog 48 #[.int .u8 (x.sent : Int), .int .i64 1] W fun e w' => e = .returned (.int .u8 (N : Int)) ∧ W = w' := fun W => by
    have hh := after_any (x.sent : Int) 1 W (by have := hfit.sent; omega) (by have := hfit.sent; omega)
    rw [hsi] at hh
    exact hh
  have HAf := Lib.hid haf
  have HFit := Lib.hid hfit
  have HN := Lib.hid hN
  clear haf hsi hN hfit
  have H := Lib.hid h
  have HBf := Lib.hid hbuf
  have HVs := Lib.hid hvs
  have HVl := Lib.hid hvl
  have HI := Lib.hid (And.intro hi (And.intro hz0 (And.intro hz1' hz2)))
  have HG := Lib.hid hgb
  have HNn := Lib.hid (And.intro hnn hbb)
  have HL := Lib.hid hl
  have HR := Lib.hid hr
  have HZ := Lib.hid hz
  have HQ0 := Lib.hid hq
  have H127 := Lib.hid h127
  have HA := Lib.hid ha
  clear h hbuf hvs hvl hi hz0 hz1' hz2 hgb hnn hbb hl hr hz h127 ha hg
  go_enter Try.func46, Try.ntmps46
  go_wp2_with fail
  rw [← HW.out]
  go_region_law
    (first
      | (refine step_append_buf (by rfl) _ _ _ _ (by rfl) 36 i0 _ 1 24 Try.underlying52 HI.out.1 HI.out.2.1 HI.out.2.2.1 HI.out.2.2.2 (by rfl) (by decide) L.go L.ao x.una.length L.co vs (by rfl) (by first | exact HBf.out.later ((below_draw W1 1).trans (below_alloc W1.drew _)) | exact HBf.out.later (below_alloc W1 _)) _ 1 [.slice s l.length l.length] (by rfl) (by first | exact src_row1 (own_lit W1.drew _ _ _ rfl) rfl | exact src_row1 (own_lit W1 _ _ _ rfl) rfl) HNn.out.1 HNn.out.2 ?_; intro g' a' c' w6 q1 q2 q3; have kct := q2.cell (p := ⟨b, 3, none⟩) (by first | exact ((below_alloc W1.drew _).cell (p := ⟨b, 3, none⟩) hbs).trans c1 | exact ((below_alloc W1 _).cell (p := ⟨b, 3, none⟩) hbs).trans c1) (fun hh => HG.out hh); have hbw : Below W1.heap.size W1 (W1.drew.alloc (.cells #[.slice s l.length l.length] 36)) := (below_draw W1 1).trans (below_alloc W1.drew _); have kf : w6.frozen? ⟨b, 3, none⟩ = false := (by first | exact ((H.out.own.below hbw hbs).exc q2 (fun hh => HG.out hh)).frozen 3 | exact ((H.out.own.below (below_alloc W1 _) hbs).exc q2 (fun hh => HG.out hh)).frozen 3); have HQ := Lib.hid (And.intro q1 (And.intro q2 q3)); clear q1 q2 q3 hbw)
      | fail)
  all_goals
    obtain ⟨q1, q2, q3⟩ := HQ.out
    have hx06 : Exc (fun k => L.go = some k) W1 w6 := by first | exact (Exc.of_below ((below_draw W1 1).trans (below_alloc W1.drew _))).trans q2 (fun _ _ hh => hh) | exact (Exc.of_below (below_alloc W1 _)).trans q2 (fun _ _ hh => hh)
    generalize hW7 : w6.setCell ⟨b, 3, none⟩ (.slice a' (x.una.length + 1) c') = W7
    have hx67 : Exc (fun k => k = b) w6 W7 := by rw [← hW7]; exact (Exc.refl (fun k => k = b) w6).setCell ⟨b, 3, none⟩ (.inl rfl) _
    have hx07 : Exc (fun k => L.go = some k ∨ k = b) W1 W7 := (hx06.weak (fun _ _ hh => .inl hh)).trans hx67 (fun _ _ hh => .inr hh)
    have hl6 : ∀ k, g' = some k → L.go = some k ∨ W1.heap.size ≤ k := fun k hk => by
      rcases q3 k hk with h5 | h5
      · exact .inl h5
      · right
        first | exact Nat.le_trans ((below_draw W1 1).trans (below_alloc W1.drew _)).size h5 | exact Nat.le_trans (below_alloc W1 _).size h5
    have hgp' : ∀ k, g' = some k → ¬ k = b := fun k hk hp' => by
      rcases hl6 k hk with h5 | h5
      · exact HG.out (hp' ▸ h5)
      · omega
    have ho7 := (H.out.own.exc hx06 (fun hh => HG.out hh)).set 3 (.slice a' (x.una.length + 1) c')
    rw [hW7] at ho7
    have hP : ∀ k, L.P k → ¬ (L.go = some k ∨ k = b) := fun k hk hh => by
      rcases hh with hh | hh
      · exact (H.out.bo k hh).2 hk
      · exact H.out.bP (hh ▸ hk)
    have hr7 : RowV W7 L.P true (.slice s l.length l.length) l := ⟨s, l.length, rfl, HR.out.exc hx07 (fun z hz => hP _ (HZ.out z hz)), fun _ => rfl, HZ.out⟩
    have hb7 := q1.exc hx67 hgp'
    have hwl : 2 ≤ l.length ∧ l.length ≤ 273 := by
      rw [HL.out]
      refine H.out.wide _ (.inl ?_)
      have hq := HQ0.out
      rw [List.getD_eq_getElem?_getD, List.getElem?_eq_getElem hq]
      exact List.getElem_mem hq
    have hfin := H.out.addo (x' := { x with una := x.una ++ [l] }) hx07 (by have := HVl.out; omega) HVs.out hb7 hr7 hl6 rfl (by
      have e : endCells { x with una := x.una ++ [l] } { L with go := g', ao := a', co := c' } = (endCells x L).set 3 (.slice a' (x.una.length + 1) c') := by simp [endCells]
      rw [e]; exact ho7) H127.out hwl
    obtain ⟨x1, hx1⟩ : ∃ x1, x1 = ({ x with una := x.una ++ [l] } : En) := ⟨_, rfl⟩
    obtain ⟨L1, hL1⟩ : ∃ L1, L1 = ({ L with go := g', ao := a', co := c' } : ELay) := ⟨_, rfl⟩
    rw [← hx1, ← hL1] at hfin
    have e1 : L1.aq = L.aq := by rw [hL1]
    have e2 : L1.cq = L.cq := by rw [hL1]
    have e3 : x1.que = x.que := by rw [hx1]
    have e4 : x1.sent = x.sent := by rw [hx1]
    obtain ⟨A, hs1, hs2, hro⟩ := rows_cut hfin.1.q 1 (by rw [e3]; exact HQ0.out) (by rw [e3]; have := HFit.out.que; omega)
    rw [e1, e2, e3] at hs1 hs2
    rw [e2, e3] at hro
    simp only [show ((1 : Nat) : Int) = 1 from rfl] at hs1 hs2
    have c0 := hfin.1.cells.2.2.1
    have c3 := hfin.1.cells.2.2.2.2.2.2.1
    have f0 := hfin.1.own.frozen 2
    rw [e1, e2, e3] at c0
    rw [e4] at c3
    have h7b : b < W7.heap.size := hfin.1.own.lt
    have HFin := Lib.hid hfin
    have HX1 := Lib.hid hx1
    have HL1 := Lib.hid hL1
    have HRo := Lib.hid hro
    have HE := Lib.hid (And.intro e1 (And.intro e2 (And.intro e3 e4)))
    have HSl := Lib.hid (And.intro hs1 hs2)
    clear hfin hx1 hL1 hro e1 e2 e3 e4 hb7 hr7 hP ho7 hgp' hl6 hx07 hx67 hW7 hx06 q1 q2 q3 kct kf c1 f1 HQ hs1 hs2 hwl
    obtain ⟨hs1, hs2⟩ := HSl.out
    go_wp2_with fail
    generalize hW8 : W7.setCell ⟨b, 2, none⟩ (.slice A (x.que.length - 1) (L.cq - 1)) = W8
    have hx78 : Exc (fun k => k = b) W7 W8 := by rw [← hW8]; exact (Exc.refl (fun k => k = b) W7).setCell ⟨b, 2, none⟩ (.inl rfl) _
    have ho8 := HFin.out.1.own.set 2 (.slice A (x.que.length - 1) (L.cq - 1))
    rw [hW8] at ho8
    obtain ⟨x2, hx2⟩ : ∃ x2, x2 = ({ x1 with que := x1.que.drop 1 } : En) := ⟨_, rfl⟩
    obtain ⟨L2, hL2⟩ : ∃ L2, L2 = ({ L1 with aq := A, cq := L.cq - 1 } : ELay) := ⟨_, rfl⟩
    have h8 := HFin.out.1.cutq (x' := x2) (p := 1) hx78 (by rw [HE.out.2.2.1]; exact HRo.out) hx2 (by
      have e : endCells x2 { L1 with aq := A, cq := L.cq - 1 } = (endCells x1 L1).set 2 (.slice A (x.que.length - 1) (L.cq - 1)) := by rw [hx2]; simp [endCells, HE.out.2.2.1]
      rw [e]; exact ho8)
    rw [← hL2] at h8
    have e4 : x2.sent = x.sent := by rw [hx2]; exact HE.out.2.2.2
    have c3 := h8.cells.2.2.2.2.2.2.1
    have f3 := h8.own.frozen 6
    rw [e4] at c3
    have e5 : x2.una = x.una ++ [l] := by rw [hx2]; show x1.una = _; rw [HX1.out]
    have d3 := h8.cells.2.2.2.1
    have e6 : x2.una.length = x.una.length + 1 := by rw [e5, List.length_append, List.length_singleton]
    rw [e6] at d3
    have hw9 : IntKind.i64.wrap (((x.una.length + 1 : Nat) : Int) - 1) = (x.una.length : Int) := by have := H127.out; rw [IntWalk.i64_in _ (by omega)]; omega
    have HE5 := Lib.hid e5
    have H8 := Lib.hid h8
    have HX2 := Lib.hid hx2
    have HL2 := Lib.hid hL2
    have HX78 := Lib.hid hx78
    clear h8 hx2 hL2 hx78 ho8 hW8 e4 e5 e6 c0 f0 hs1 hs2
    obtain ⟨M, hM⟩ : ∃ M, M = x.una.length + 1 := ⟨_, rfl⟩
    rw [← hM] at d3 hw9
    clear hM
    go_wp2_with fail
    refine (HAf.out _).mono ?_
    rintro e w' ⟨rfl, rfl⟩
    go_wp2_with fail
    generalize hW9 : W8.setCell ⟨b, 6, none⟩ (.int .u8 (N : Int)) = W9
    have hx89 : Exc (fun k => k = b) W8 W9 := by rw [← hW9]; exact (Exc.refl (fun k => k = b) W8).setCell ⟨b, 6, none⟩ (.inl rfl) _
    have ho9 := H8.out.own.set 6 (.int .u8 (N : Int))
    rw [hW9] at ho9
    have h9 := H8.out.redo (x' := { x2 with sent := N }) hx89 (by
      have e : endCells { x2 with sent := N } L2 = (endCells x2 L2).set 6 (.int .u8 (N : Int)) := by simp [endCells]
      rw [e]; exact ho9) rfl rfl (by
      have hf := H8.out.fit
      exact ⟨hf.que, hf.una, hf.plc, hf.lm1, hf.lm2, hf.lo1, hf.lo2, by show N < 128; rw [HN.out]; omega, hf.acc⟩)
    have hxx : ({ x2 with sent := N } : En) = x.sentNew := by
      rw [HX2.out, HX1.out, HN.out, HL.out]; rfl
    rw [hxx] at h9
    have hS : ∀ kk, L2.S b kk ↔ L1.S b kk := fun kk => by rw [HL2.out]; exact Iff.rfl
    have hT : Turn (L.S b) W1 (L2.S b) W9 := by
      have hx := HFin.out.2
      refine ⟨(hx.exc.trans HX78.out (fun kk _ hk => .inl hk)).trans hx89 (fun kk _ hk => .inl hk), fun kk hk => hx.lies kk ((hS kk).1 hk)⟩
    have hul : x.sentNew.una.length = x.una.length + 1 := by show (x.una ++ [x.que.getD 0 []]).length = _; rw [List.length_append, List.length_singleton]
    have hcon := unit_any b x.sentNew L2 W9 x.una.length h9 (by omega)
    have eF : (x.sentNew.sent + 129 + x.una.length - x.sentNew.una.length) % 128 = (x.sent + 1) % 128 := by rw [hul]; show ((x.sent + 1) % 128 + 129 + x.una.length - (x.una.length + 1)) % 128 = _; omega
    have eL : x.sentNew.una.getD x.una.length [] = l := by
      show (x.una ++ [x.que.getD 0 []]).getD x.una.length [] = l
      rw [HL.out, List.getD_eq_getElem?_getD, List.getElem?_append_right (Nat.le_refl _)]
      simp
    rw [eF, eL] at hcon
    have hou := HU.out.exc hT.exc (fun hh => absurd (HS0.out _ hh) (Nat.lt_irrefl _))
    have H9 := Lib.hid h9
    have HT := Lib.hid hT
    have HOu := Lib.hid hou
    have HC := Lib.hid hcon
    clear h9 hT hS hxx ho9 hx89 hW9 c3 f3 d3 hw9 hul eF eL hou hcon
    with_reducible refine HC.out.mono ?_
    rintro e w10 ⟨g, rfl, hg, hgo, hb10⟩
    have ou10 := HOu.out.below hb10 HOu.out.lt
    have h10 := H9.out.later hb10
    obtain ⟨u0, u1, u2, u3, u4, u5, u6⟩ := unit_cells ou10
    obtain ⟨t0, t1, t2, t3, t4, t5, t6⟩ := unit_frozen ou10
    have hw910 : w.heap.size < W9.heap.size := HOu.out.lt
    have hlw := hgo.lt
    have HO10 := Lib.hid ou10
    have H10 := Lib.hid h10
    have HG10 := Lib.hid hgo
    have HB10 := Lib.hid hb10
    obtain ⟨F, hF⟩ : ∃ F, F = (x.sent + 1) % 128 := ⟨_, rfl⟩
    rw [← hF]
    have HFF := Lib.hid hF
    simp only [unCells]
    clear ou10 h10 hgo hb10 HC hF
    go_wp2
    generalize hW11 : ((((((w10.setCell ⟨w.heap.size, 0, none⟩ (.int .u8 0)).setCell ⟨w.heap.size, 1, none⟩ (.bool false)).setCell ⟨w.heap.size, 2, none⟩ (.int .u8 (F : Int))).setCell ⟨w.heap.size, 3, none⟩ (.bool false)).setCell ⟨w.heap.size, 4, none⟩ (.int .u8 2)).setCell ⟨w.heap.size, 5, none⟩ (.int .u8 0)).setCell ⟨w.heap.size, 6, none⟩ (.slice (some ⟨g, 0, none⟩) l.length l.length) = W11
    obtain ⟨ou11, hx11⟩ := seven HO10.out hW11
    clear hW11 u0 u1 u2 u3 u4 u5 u6 t0 t1 t2 t3 t4 t5 t6
    obtain ⟨u0, u1, u2, u3, u4, u5, u6⟩ := unit_cells ou11
    refine bodyPost_ret (v := .agg #[.int .u8 0, .bool false, .int .u8 (F : Int), .bool false, .int .u8 2, .int .u8 0, .slice (some ⟨g, 0, none⟩) l.length l.length]) (by simp [results, Try.results46, go_sem, u0, u1, u2, u3, u4, u5, u6]) rfl ?_
    have hn : ¬ L2.S b w.heap.size := fun hh => by
      rcases HT.out.lies _ hh with h5 | h5
      · exact absurd (HS0.out _ h5) (Nat.lt_irrefl _)
      · have := HU.out.lt; omega
    have hlw9 := H9.out.s_lt
    have hsz := HB.out.size
    refine ⟨some ⟨g, 0, none⟩, l.length, ?_, ?_, ?_, fun z hz => ?_, L2, H10.out.exc hx11 (fun k hk hh => hn (hh ▸ hk)), ⟨?_, fun k hk => ?_⟩, fun z hz hh => ?_⟩
    · rw [HFF.out]; rfl
    · rw [HL.out]
    · rw [← HL.out]
      exact (HG10.out.exc hx11 (by omega)).row0 _ _ rfl (Nat.le_refl _) (by have := HR.out.max; unfold maxLen at this ⊢; omega) HR.out.wf
    · cases hz
      exact ⟨by show w.heap.size ≤ g; omega, Nat.lt_of_lt_of_le hlw hx11.size⟩
    · exact ((((Exc.of_below HB.out).trans HT.out.exc (fun k _ hk => hk)).trans (S' := fun _ => False) (Exc.of_below HB10.out) (fun _ _ hk => hk.elim))).trans hx11 (fun k hk hh => by omega)
    · rcases HT.out.lies k hk with h5 | h5
      · exact .inl h5
      · exact .inr (Nat.le_trans hsz h5)
    · cases hz
      exact absurd (hlw9 _ hh) (Nat.not_lt.2 hg)
end Go.Proofs.Ytdjnflfcolpccaa
/- The code's end of a link: an open load is sent again. -/
namespace Go.Proofs.Ytdjnflfcolpccaa
open Go.RowKit

set_option maxHeartbeats 4000000 in
set_option maxRecDepth 100000 in
/-- Behind the place's return to the first one. -/
theorem repeat_from (b : Nat) (x : En) (L : ELay) (w : World) (I : Nat) (h0 : EndL w b x L) (hn : 0 < x.una.length) (hI : I = x.idx) :
    Calls Try.prog 47 #[.pointer (some ⟨b, 0, none⟩)] w fun e w' => Cho w w' b L { x with plc := I + 1 } (x.unit I) e := by
  obtain ⟨W1, hW1⟩ : ∃ W, W = w.alloc (.cells zeroUnit.toArray 45) := ⟨_, rfl⟩
  have hb1 : Below w.heap.size w W1 := by rw [hW1]; exact below_alloc _ _
  have ou : Own W1 w.heap.size 45 zeroUnit := by rw [hW1]; exact own_lit w _ _ _ rfl
  have h := h0.later hb1
  have hslt := h0.s_lt
  have hns : ∀ k, L.S b k → ¬ k = w.heap.size := fun k hk hh => by have := hslt k hk; omega
  have hfit := h0.fit
  have hul := hfit.una
  have hpl := hfit.plc
  have hIl : I < x.una.length := by rw [hI]; unfold En.idx; split <;> omega
  have c3 := h.cells.2.2.2.1
  have c4 := h.cells.2.2.2.2.1
  have HNs := Lib.hid hns
  have HW := Lib.hid hW1
  have HB := Lib.hid hb1
  have HU := Lib.hid ou
  have H := Lib.hid h
  have HF := Lib.hid hfit
  clear h0 hslt hW1 hb1 ou h hns hfit
  go_enter Try.func47, Try.ntmps47
  have hpi : ((x.plc : Int) == (x.una.length : Int)) = decide (x.plc = x.una.length) := by
    by_cases hp : x.plc = x.una.length
    · simp [hp]
    · have h1 : ((x.plc : Int) == (x.una.length : Int)) = false := by simp; omega
      rw [h1, decide_eq_false hp]
  obtain ⟨D, hD⟩ : ∃ D, D = decide (x.plc = x.una.length) := ⟨_, rfl⟩
  rw [← hD] at hpi
  have HD := Lib.hid hD
  have HI := Lib.hid hI
  clear hD hI
  go_wp2_with fail
  rw [← HW.out]
  go_quiet (fail)
  generalize hW2 : W1.drewN nq = W2
  have hb2 : Below W1.heap.size W1 W2 := by rw [← hW2]; exact below_draw _ _
  have h2 := H.out.later hb2
  have f4 := h2.own.frozen 4
  have d4 := h2.cells.2.2.2.2.1
  have H2 := Lib.hid h2
  have HB2 := Lib.hid hb2
  clear hW2 hb2 h2 c3 c4 hpi
  go_upto_if 12 with fail
  go_cut [] from 3 to 29 (fun wx => EndL wx b { x with plc := I } L ∧ Exc (fun k => k = b) W1 wx)
  case first =>
    cases D
    · have hp : ¬ x.plc = x.una.length := of_decide_eq_false HD.out.symm
      go_wp2_with fail
      go_meet
      have e : ({ x with plc := I } : En) = x := by rw [HI.out]; unfold En.idx; rw [if_neg hp]
      rw [e]
      exact ⟨H2.out, Exc.of_below HB2.out⟩
    · have hp : x.plc = x.una.length := of_decide_eq_true HD.out.symm
      go_wp2_with fail
      go_meet
      have e : I = 0 := by rw [HI.out]; unfold En.idx; rw [if_pos hp]
      have hx2 : Exc (fun k => k = b) W2 (W2.setCell ⟨b, 4, none⟩ (.int .i64 0)) := (Exc.refl (fun k => k = b) W2).setCell ⟨b, 4, none⟩ (.inl rfl) _
      have ho := H2.out.own.set 4 (.int .i64 0)
      refine ⟨H2.out.redo (x' := { x with plc := I }) hx2 ?_ rfl rfl ⟨HF.out.que, HF.out.una, by show I ≤ _; omega, HF.out.lm1, HF.out.lm2, HF.out.lo1, HF.out.lo2, HF.out.sent, HF.out.acc⟩, (Exc.of_below HB2.out).trans hx2 (fun _ _ hk => hk)⟩
      have e2 : endCells { x with plc := I } L = (endCells x L).set 4 (.int .i64 0) := by rw [e]; simp [endCells]
      rw [e2]; exact ho
  case rest =>
    obtain ⟨h3, hx3⟩ := hcut
    obtain ⟨W3, hW3⟩ : ∃ X, X = wc := ⟨_, rfl⟩
    clear H2 HB2 d4 f4 HD
    have k4 := h3.cells.2.2.2.2.1
    have j4 := h3.own.frozen 4
    have H3 := Lib.hid h3
    have HX3 := Lib.hid hx3
    have hw1 : IntKind.i64.wrap ((I : Int) + 1) = ((I + 1 : Nat) : Int) := by rw [IntWalk.i64_in _ (by omega)]; omega
    obtain ⟨M, hM⟩ : ∃ M, M = I + 1 := ⟨_, rfl⟩
    rw [← hM] at hw1
    have hw2 : IntKind.i64.wrap ((M : Int) - 1) = (I : Int) := by rw [IntWalk.i64_in _ (by omega)]; omega
    have HM := Lib.hid hM
    clear h3 hx3 hM
    go_wp2_with fail
    generalize hW9 : wc.setCell ⟨b, 4, none⟩ (.int .i64 (M : Int)) = W9
    have hx9 : Exc (fun k => k = b) wc W9 := by rw [← hW9]; exact (Exc.refl (fun k => k = b) wc).setCell ⟨b, 4, none⟩ (.inl rfl) _
    have ho9 := H3.out.own.set 4 (.int .i64 (M : Int))
    rw [hW9] at ho9
    have h9 := H3.out.redo (x' := { x with plc := M }) hx9 (by
      have e : endCells { x with plc := M } L = (endCells { x with plc := I } L).set 4 (.int .i64 (M : Int)) := by simp [endCells]
      rw [e]; exact ho9) rfl rfl ⟨HF.out.que, HF.out.una, by show M ≤ x.una.length; rw [HM.out]; exact hIl, HF.out.lm1, HF.out.lm2, HF.out.lo1, HF.out.lo2, HF.out.sent, HF.out.acc⟩
    have hx19 : Exc (fun k => k = b) W1 W9 := HX3.out.trans hx9 (fun _ _ hk => hk)
    have hcon : Calls Try.prog 52 #[.pointer (some ⟨b, 0, none⟩), .int .i64 (I : Int)] W9 fun e w' => ∃ g : Nat,
      e = .returned (.agg (unCells ⟨0, false, (x.sent + 129 + I - x.una.length) % 128, false, 2, 0, x.una.getD I []⟩ (some ⟨g, 0, none⟩) (x.una.getD I []).length (x.una.getD I []).length).toArray) ∧ W9.heap.size ≤ g ∧ Own w' g 5 (nums .u8 (x.una.getD I [])) ∧ Below W9.heap.size W9 w' := unit_any b { x with plc := M } L W9 I h9 hIl
    have hld : (x.una.getD I []).length ≤ 273 ∧ ∀ y ∈ x.una.getD I [], (Lit.int .u8 y).wf = true := by
      obtain ⟨_, _, _, _, _, _, hr, _⟩ := H3.out.o.at hIl
      refine ⟨(H3.out.wide _ (.inr ?_)).2, hr.wf⟩
      show x.una.getD I [] ∈ x.una
      rw [List.getD_eq_getElem?_getD, List.getElem?_eq_getElem hIl]
      exact List.getElem_mem hIl
    obtain ⟨l, hl⟩ : ∃ l, l = x.una.getD I [] := ⟨_, rfl⟩
    obtain ⟨F, hF⟩ : ∃ F, F = (x.sent + 129 + I - x.una.length) % 128 := ⟨_, rfl⟩
    rw [← hl, ← hF] at hcon
    rw [← hl] at hld
    have hou := HU.out.exc hx19 (fun hh => HNs.out b (.inl rfl) hh.symm)
    have H9 := Lib.hid h9
    have HX9 := Lib.hid hx19
    have HOu := Lib.hid hou
    have HC := Lib.hid hcon
    have HLd := Lib.hid hld
    have HLF := Lib.hid (And.intro hl hF)
    clear h9 hx9 hx19 ho9 hW9 k4 j4 hou hcon hld hl hF hw1 hw2
    with_reducible refine HC.out.mono ?_
    rintro e w10 ⟨g, rfl, hg, hgo, hb10⟩
    have ou10 := HOu.out.below hb10 HOu.out.lt
    have h10 := H9.out.later hb10
    obtain ⟨u0, u1, u2, u3, u4, u5, u6⟩ := unit_cells ou10
    obtain ⟨t0, t1, t2, t3, t4, t5, t6⟩ := unit_frozen ou10
    have hw910 : w.heap.size < W9.heap.size := HOu.out.lt
    have hlw := hgo.lt
    have HO10 := Lib.hid ou10
    have H10 := Lib.hid h10
    have HG10 := Lib.hid hgo
    have HB10 := Lib.hid hb10
    simp only [unCells]
    clear ou10 h10 hgo hb10 HC
    go_wp2
    generalize hW11 : ((((((w10.setCell ⟨w.heap.size, 0, none⟩ (.int .u8 0)).setCell ⟨w.heap.size, 1, none⟩ (.bool false)).setCell ⟨w.heap.size, 2, none⟩ (.int .u8 (F : Int))).setCell ⟨w.heap.size, 3, none⟩ (.bool false)).setCell ⟨w.heap.size, 4, none⟩ (.int .u8 2)).setCell ⟨w.heap.size, 5, none⟩ (.int .u8 0)).setCell ⟨w.heap.size, 6, none⟩ (.slice (some ⟨g, 0, none⟩) l.length l.length) = W11
    obtain ⟨ou11, hx11⟩ := seven HO10.out hW11
    clear hW11 u0 u1 u2 u3 u4 u5 u6 t0 t1 t2 t3 t4 t5 t6
    obtain ⟨u0, u1, u2, u3, u4, u5, u6⟩ := unit_cells ou11
    refine bodyPost_ret (v := .agg #[.int .u8 0, .bool false, .int .u8 (F : Int), .bool false, .int .u8 2, .int .u8 0, .slice (some ⟨g, 0, none⟩) l.length l.length]) (by simp [results, Try.results47, go_sem, u0, u1, u2, u3, u4, u5, u6]) rfl ?_
    obtain ⟨hl, hF⟩ := HLF.out
    have hsz := HB.out.size
    have hlw9 := H9.out.s_lt
    have hM := HM.out
    refine ⟨some ⟨g, 0, none⟩, l.length, ?_, ?_, ?_, fun z hz => ?_, L, ?_, ⟨?_, fun k hk => .inl hk⟩, fun z hz hh => ?_⟩
    · rw [hF]; rfl
    · rw [hl]; rfl
    · have hr := (HG10.out.exc hx11 (by omega)).row0 l.length l.length rfl (Nat.le_refl _) (by have := HLd.out.1; unfold maxLen; omega) HLd.out.2
      rw [hl] at hr ⊢
      exact hr
    · cases hz
      exact ⟨by show w.heap.size ≤ g; omega, Nat.lt_of_lt_of_le hlw hx11.size⟩
    · have h11 := H10.out.exc hx11 (fun k hk hh => HNs.out k hk hh)
      rw [hM] at h11
      exact h11
    · exact ((((Exc.of_below HB.out).trans (HX9.out.weak (fun k _ hk => .inl hk)) (fun k _ hk => hk)).trans (S' := fun _ => False) (Exc.of_below HB10.out) (fun _ _ hk => hk.elim))).trans hx11 (fun k hk hh => by omega)
    · cases hz
      exact absurd (hlw9 _ hh) (Nat.not_lt.2 hg)
end Go.Proofs.Ytdjnflfcolpccaa
/- The code's end of a link: which unit is sent. -/
namespace Go.Proofs.Ytdjnflfcolpccaa
open Go.RowKit

theorem cho_fin {w W3 w2 w4 : World} {b : Nat} {L L2 : ELay} {x' : En} {s : Option Addr} {k : Nat} {l : List Int} (hs : ∀ j, L.S b j → j < w.heap.size) (hT : Exc (L.S b) w W3) (hz : w.heap.size < W3.heap.size) (hr : Row .u8 w2 s k k l) (hsz : ∀ z, s = some z → W3.heap.size ≤ z.block ∧ z.block < w2.heap.size)
    (h2 : EndL w2 b x' L2) (hT2 : Turn (L.S b) W3 (L2.S b) w2) (hns : ∀ z, s = some z → ¬ L2.S b z.block) (hx : Exc (fun j => j = w.heap.size) w2 w4) :
    Row .u8 w4 s k k l ∧ (∀ z, s = some z → w.heap.size ≤ z.block ∧ z.block < w4.heap.size) ∧ ∃ L', EndL w4 b x' L' ∧ Turn (L.S b) w (L'.S b) w4 ∧ ∀ z, s = some z → ¬ L'.S b z.block := by
  have hn : ¬ L2.S b w.heap.size := fun hh => by
    rcases hT2.lies _ hh with h5 | h5
    · exact absurd (hs _ h5) (Nat.lt_irrefl _)
    · omega
  refine ⟨hr.exc hx (fun z hz' hh => by have := (hsz z hz').1; omega), fun z hz' => ⟨Nat.le_of_lt (Nat.lt_of_lt_of_le hz (hsz z hz').1), Nat.lt_of_lt_of_le (hsz z hz').2 hx.size⟩, L2, h2.exc hx (fun j hj hh => hn (hh ▸ hj)), ⟨?_, fun j hj => ?_⟩, hns⟩
  · exact (hT.trans hT2.exc (fun _ _ h => h)).trans hx (fun j hj hh => by omega)
  · rcases hT2.lies j hj with h5 | h5
    · exact .inl h5
    · exact .inr (by omega)
theorem En.next_cases (x : En) (hf : x.Fit) : (x.pre.forced = false ∧ 0 < x.pre.que.length ∧ x.pre.una.length < 127 ∧ x.next = (⟨x.pre.acc, true, (x.pre.sent + 1) % 128, true, 2, 0, x.pre.que.getD 0 []⟩, x.pre.sentNew)) ∨
    ((x.pre.forced = true ∨ x.pre.que.length = 0) ∧ 0 < x.pre.una.length ∧ x.next = (x.pre.unit x.pre.idx, { x.pre with plc := x.pre.idx + 1 })) ∨
    ((x.pre.forced = true ∨ x.pre.que.length = 0) ∧ x.pre.una.length = 0 ∧ x.next = (x.pre.fill, x.pre)) := by
  have hfree : x.pre.forced = false → x.pre.una.length < 127 := by
    intro h0
    have hl2 := hf.lm2
    have key : x.lim = false → x.una.length < 127 := fun hl => by
      unfold En.lim at hl
      simp only [Bool.or_eq_false_iff, decide_eq_false_iff_not] at hl
      omega
    rcases x.pre_cases with ⟨c, _, e⟩ | ⟨_, c, e⟩ | ⟨c, _, e⟩ | ⟨c, _, e⟩
    · rw [e] at h0; cases h0
    · rw [e, c] at h0; cases h0
    · rw [e]; exact key c
    · rw [e]; exact key c
  unfold En.next
  generalize x.pre = y at hfree ⊢
  have again : (y.forced = true ∨ y.que.length = 0) → y.go = y.again := fun h => by
    unfold En.go
    cases hq : y.que with
    | nil => rfl
    | cons l q =>
      rcases h with h | h
      · simp [h]
      · rw [hq] at h; simp at h
  by_cases hN : y.forced = false ∧ 0 < y.que.length
  · left
    refine ⟨hN.1, hN.2, hfree hN.1, ?_⟩
    unfold En.go
    cases hq : y.que with
    | nil => rw [hq] at hN; simp at hN
    | cons l q =>
      simp only
      rw [if_pos hN.1]
      unfold En.new En.sentNew
      rw [hq]
      rfl
  · right
    have hor : y.forced = true ∨ y.que.length = 0 := by
      cases hf : y.forced
      · right
        have : ¬ 0 < y.que.length := fun h => hN ⟨hf, h⟩
        omega
      · exact .inl rfl
    rw [again hor]
    unfold En.again
    by_cases hu : 0 < y.una.length
    · left; exact ⟨hor, hu, if_pos hu⟩
    · right; exact ⟨hor, by omega, if_neg hu⟩
set_option maxHeartbeats 4000000 in
set_option maxRecDepth 100000 in
theorem choose_any (b : Nat) (x : En) (L : ELay) (w : World) (h : EndL w b x L) :
    Calls Try.prog 31 #[.pointer (some ⟨b, 0, none⟩)] w fun e w' => Cho w w' b L x.next.2 x.next.1 e := by
  obtain ⟨W1, hW1⟩ : ∃ W, W = w.alloc (.cells zeroUnit.toArray 45) := ⟨_, rfl⟩
  have hb1 : Below w.heap.size w W1 := by rw [hW1]; exact below_alloc _ _
  have ou : Own W1 w.heap.size 45 zeroUnit := by rw [hW1]; exact own_lit w _ _ _ rfl
  have hslt := h.s_lt
  have hns : ∀ k, L.S b k → ¬ k = w.heap.size := fun k hk hh => by have := hslt k hk; omega
  have hfc := force_any b x L W1 (h.later hb1)
  have hnc := En.next_cases x h.fit
  have HNs := Lib.hid hns
  have HSl := Lib.hid hslt
  have HW := Lib.hid hW1
  have HB := Lib.hid hb1
  have HU := Lib.hid ou
  have HFc := Lib.hid hfc
  clear h hslt hW1 hb1 ou hns hfc
  obtain ⟨U, hU⟩ : ∃ U, U = x.next.1 := ⟨_, rfl⟩
  rw [← hU]
  rcases hnc with ⟨p1, p2, p3, e⟩ | ⟨p1, p2, e⟩ | ⟨p1, p2, e⟩
  all_goals
    rw [e] at hU ⊢
    have HUn := Lib.hid hU
    clear hU e
    dsimp only at HUn ⊢
    generalize x.pre = y at *
  · go_enter Try.func31, Try.ntmps31
    go_wp2_with fail
    rw [← HW.out]
    with_reducible refine HFc.out.mono ?_
    rintro e w3 ⟨rfl, h3, hx3⟩
    have c5 := h3.cells.2.2.2.2.2.1
    have c2 := h3.cells.2.2.1
    have c3 := h3.cells.2.2.2.1
    have c6 := h3.cells.2.2.2.2.2.2.1
    have ou3 := HU.out.exc hx3 (fun hh => HNs.out b (.inl rfl) hh.symm)
    have hT3 : Exc (L.S b) w w3 := (Exc.of_below HB.out).trans hx3 (fun j _ hj => .inl hj)
    have H3 := Lib.hid h3
    have HX3 := Lib.hid hx3
    have HO3 := Lib.hid ou3
    have HT3 := Lib.hid hT3
    clear h3 hx3 ou3 hT3 HFc
    rw [p1] at c5
    have hqi : (0 : Int) < (y.que.length : Int) := by omega
    have hqd : decide ((0 : Int) < (y.que.length : Int)) = true := decide_eq_true hqi
    go_wp2_with fail
    with_reducible refine (sendNew_ok b y L w3 H3.out p2 p3).mono ?_
    rintro e w2 ⟨s, k, rfl, hk, hr, hsz, L2, h2, hT2, hns⟩
    have ou2 := HO3.out.exc hT2.exc (fun hh => absurd (HSl.out _ hh) (Nat.lt_irrefl _))
    obtain ⟨u0, u1, u2, u3, u4, u5, u6⟩ := unit_cells ou2
    obtain ⟨t0, t1, t2, t3, t4, t5, t6⟩ := unit_frozen ou2
    have HO2 := Lib.hid ou2
    have HQ := Lib.hid (And.intro hk (And.intro hr (And.intro hsz (And.intro h2 (And.intro hT2 hns)))))
    obtain ⟨F, hF⟩ : ∃ F : Nat, F = (y.sent + 1) % 128 := ⟨_, rfl⟩
    simp only [show ((2 : Nat) : Int) = 2 from rfl]
    rw [← hF]
    have HF := Lib.hid hF
    clear hk hr hsz h2 hT2 hns ou2 c5 c2 c3 c6 hF
    have HFc2 : True := trivial
    clear HFc2
    go_wp2
    generalize hW11 : ((((((w2.setCell ⟨w.heap.size, 0, none⟩ (.int .u8 0)).setCell ⟨w.heap.size, 1, none⟩ (.bool false)).setCell ⟨w.heap.size, 2, none⟩ (.int .u8 (F : Int))).setCell ⟨w.heap.size, 3, none⟩ (.bool false)).setCell ⟨w.heap.size, 4, none⟩ (.int .u8 2)).setCell ⟨w.heap.size, 5, none⟩ (.int .u8 0)).setCell ⟨w.heap.size, 6, none⟩ (.slice s k k) = W11
    obtain ⟨ou11, hx11⟩ := seven HO2.out hW11
    clear hW11 u0 u1 u2 u3 u4 u5 u6 t0 t1 t2 t3 t4 t5 t6
    obtain ⟨u0, u1, u2, u3, u4, u5, u6⟩ := unit_cells ou11
    refine bodyPost_ret (v := .agg #[.int .u8 0, .bool false, .int .u8 (F : Int), .bool false, .int .u8 2, .int .u8 0, .slice s k k]) (by simp [results, Try.results31, go_sem, u0, u1, u2, u3, u4, u5, u6]) rfl ?_
    obtain ⟨f1, f2, f3⟩ := cho_fin HSl.out HT3.out (Nat.lt_of_lt_of_le HU.out.lt HX3.out.size) HQ.out.2.1 HQ.out.2.2.1 HQ.out.2.2.2.1 HQ.out.2.2.2.2.1 HQ.out.2.2.2.2.2 hx11
    refine ⟨s, k, ?_, ?_, ?_, f2, f3⟩
    · rw [HUn.out, HF.out]; rfl
    · rw [HUn.out]; exact HQ.out.1
    · rw [HUn.out]; exact f1
  · have hp : y.forced = true ∨ (y.forced = false ∧ y.que.length = 0) := by
      cases hf : y.forced
      · rcases p1 with h | h
        · rw [hf] at h; cases h
        · exact .inr ⟨rfl, h⟩
      · exact .inl rfl
    clear p1
    have hui : (0 : Int) < (y.una.length : Int) := by omega
    have hud : decide ((0 : Int) < (y.una.length : Int)) = true := decide_eq_true hui
    rcases hp with p1 | ⟨p1, p3⟩
    · go_enter Try.func31, Try.ntmps31
      go_wp2_with fail
      rw [← HW.out]
      with_reducible refine HFc.out.mono ?_
      rintro e w3 ⟨rfl, h3, hx3⟩
      have c5 := h3.cells.2.2.2.2.2.1
      have c2 := h3.cells.2.2.1
      have c3 := h3.cells.2.2.2.1
      have c6 := h3.cells.2.2.2.2.2.2.1
      have ou3 := HU.out.exc hx3 (fun hh => HNs.out b (.inl rfl) hh.symm)
      have hT3 : Exc (L.S b) w w3 := (Exc.of_below HB.out).trans hx3 (fun j _ hj => .inl hj)
      have H3 := Lib.hid h3
      have HX3 := Lib.hid hx3
      have HO3 := Lib.hid ou3
      have HT3 := Lib.hid hT3
      clear h3 hx3 ou3 hT3 HFc
      rw [p1] at c5
      go_wp2_with fail
      with_reducible refine (repeat_from b y L w3 y.idx H3.out p2 rfl).mono ?_
      rintro e w2 ⟨s, k, rfl, hk, hr, hsz, L2, h2, hT2, hns⟩
      have ou2 := HO3.out.exc hT2.exc (fun hh => absurd (HSl.out _ hh) (Nat.lt_irrefl _))
      obtain ⟨u0, u1, u2, u3, u4, u5, u6⟩ := unit_cells ou2
      obtain ⟨t0, t1, t2, t3, t4, t5, t6⟩ := unit_frozen ou2
      have HO2 := Lib.hid ou2
      have HQ := Lib.hid (And.intro hk (And.intro hr (And.intro hsz (And.intro h2 (And.intro hT2 hns)))))
      obtain ⟨F, hF⟩ : ∃ F : Nat, F = (y.sent + 129 + y.idx - y.una.length) % 128 := ⟨_, rfl⟩
      simp only [En.unit, show ((2 : Nat) : Int) = 2 from rfl]
      rw [← hF]
      have HF := Lib.hid hF
      clear hk hr hsz h2 hT2 hns ou2 c5 c2 c3 c6 hF
      have HFc2 : True := trivial
      clear HFc2
      go_wp2
      generalize hW11 : ((((((w2.setCell ⟨w.heap.size, 0, none⟩ (.int .u8 0)).setCell ⟨w.heap.size, 1, none⟩ (.bool false)).setCell ⟨w.heap.size, 2, none⟩ (.int .u8 (F : Int))).setCell ⟨w.heap.size, 3, none⟩ (.bool false)).setCell ⟨w.heap.size, 4, none⟩ (.int .u8 2)).setCell ⟨w.heap.size, 5, none⟩ (.int .u8 0)).setCell ⟨w.heap.size, 6, none⟩ (.slice s k k) = W11
      obtain ⟨ou11, hx11⟩ := seven HO2.out hW11
      clear hW11 u0 u1 u2 u3 u4 u5 u6 t0 t1 t2 t3 t4 t5 t6
      obtain ⟨u0, u1, u2, u3, u4, u5, u6⟩ := unit_cells ou11
      refine bodyPost_ret (v := .agg #[.int .u8 0, .bool false, .int .u8 (F : Int), .bool false, .int .u8 2, .int .u8 0, .slice s k k]) (by simp [results, Try.results31, go_sem, u0, u1, u2, u3, u4, u5, u6]) rfl ?_
      obtain ⟨f1, f2, f3⟩ := cho_fin HSl.out HT3.out (Nat.lt_of_lt_of_le HU.out.lt HX3.out.size) HQ.out.2.1 HQ.out.2.2.1 HQ.out.2.2.2.1 HQ.out.2.2.2.2.1 HQ.out.2.2.2.2.2 hx11
      refine ⟨s, k, ?_, ?_, ?_, f2, f3⟩
      · rw [HUn.out, HF.out]; rfl
      · rw [HUn.out]; exact HQ.out.1
      · rw [HUn.out]; exact f1
    · go_enter Try.func31, Try.ntmps31
      go_wp2_with fail
      rw [← HW.out]
      with_reducible refine HFc.out.mono ?_
      rintro e w3 ⟨rfl, h3, hx3⟩
      have c5 := h3.cells.2.2.2.2.2.1
      have c2 := h3.cells.2.2.1
      have c3 := h3.cells.2.2.2.1
      have c6 := h3.cells.2.2.2.2.2.2.1
      have ou3 := HU.out.exc hx3 (fun hh => HNs.out b (.inl rfl) hh.symm)
      have hT3 : Exc (L.S b) w w3 := (Exc.of_below HB.out).trans hx3 (fun j _ hj => .inl hj)
      have H3 := Lib.hid h3
      have HX3 := Lib.hid hx3
      have HO3 := Lib.hid ou3
      have HT3 := Lib.hid hT3
      clear h3 hx3 ou3 hT3 HFc
      rw [p1] at c5
      rw [p3] at c2
      go_wp2_with fail
      with_reducible refine (repeat_from b y L w3 y.idx H3.out p2 rfl).mono ?_
      rintro e w2 ⟨s, k, rfl, hk, hr, hsz, L2, h2, hT2, hns⟩
      have ou2 := HO3.out.exc hT2.exc (fun hh => absurd (HSl.out _ hh) (Nat.lt_irrefl _))
      obtain ⟨u0, u1, u2, u3, u4, u5, u6⟩ := unit_cells ou2
      obtain ⟨t0, t1, t2, t3, t4, t5, t6⟩ := unit_frozen ou2
      have HO2 := Lib.hid ou2
      have HQ := Lib.hid (And.intro hk (And.intro hr (And.intro hsz (And.intro h2 (And.intro hT2 hns)))))
      obtain ⟨F, hF⟩ : ∃ F : Nat, F = (y.sent + 129 + y.idx - y.una.length) % 128 := ⟨_, rfl⟩
      simp only [En.unit, show ((2 : Nat) : Int) = 2 from rfl]
      rw [← hF]
      have HF := Lib.hid hF
      clear hk hr hsz h2 hT2 hns ou2 c5 c2 c3 c6 hF
      have HFc2 : True := trivial
      clear HFc2
      go_wp2
      generalize hW11 : ((((((w2.setCell ⟨w.heap.size, 0, none⟩ (.int .u8 0)).setCell ⟨w.heap.size, 1, none⟩ (.bool false)).setCell ⟨w.heap.size, 2, none⟩ (.int .u8 (F : Int))).setCell ⟨w.heap.size, 3, none⟩ (.bool false)).setCell ⟨w.heap.size, 4, none⟩ (.int .u8 2)).setCell ⟨w.heap.size, 5, none⟩ (.int .u8 0)).setCell ⟨w.heap.size, 6, none⟩ (.slice s k k) = W11
      obtain ⟨ou11, hx11⟩ := seven HO2.out hW11
      clear hW11 u0 u1 u2 u3 u4 u5 u6 t0 t1 t2 t3 t4 t5 t6
      obtain ⟨u0, u1, u2, u3, u4, u5, u6⟩ := unit_cells ou11
      refine bodyPost_ret (v := .agg #[.int .u8 0, .bool false, .int .u8 (F : Int), .bool false, .int .u8 2, .int .u8 0, .slice s k k]) (by simp [results, Try.results31, go_sem, u0, u1, u2, u3, u4, u5, u6]) rfl ?_
      obtain ⟨f1, f2, f3⟩ := cho_fin HSl.out HT3.out (Nat.lt_of_lt_of_le HU.out.lt HX3.out.size) HQ.out.2.1 HQ.out.2.2.1 HQ.out.2.2.2.1 HQ.out.2.2.2.2.1 HQ.out.2.2.2.2.2 hx11
      refine ⟨s, k, ?_, ?_, ?_, f2, f3⟩
      · rw [HUn.out, HF.out]; rfl
      · rw [HUn.out]; exact HQ.out.1
      · rw [HUn.out]; exact f1
  · have hp : y.forced = true ∨ (y.forced = false ∧ y.que.length = 0) := by
      cases hf : y.forced
      · rcases p1 with h | h
        · rw [hf] at h; cases h
        · exact .inr ⟨rfl, h⟩
      · exact .inl rfl
    clear p1
    rcases hp with p1 | ⟨p1, p3⟩
    · go_enter Try.func31, Try.ntmps31
      go_wp2_with fail
      rw [← HW.out]
      with_reducible refine HFc.out.mono ?_
      rintro e w3 ⟨rfl, h3, hx3⟩
      have c5 := h3.cells.2.2.2.2.2.1
      have c2 := h3.cells.2.2.1
      have c3 := h3.cells.2.2.2.1
      have c6 := h3.cells.2.2.2.2.2.2.1
      have ou3 := HU.out.exc hx3 (fun hh => HNs.out b (.inl rfl) hh.symm)
      have hT3 : Exc (L.S b) w w3 := (Exc.of_below HB.out).trans hx3 (fun j _ hj => .inl hj)
      have H3 := Lib.hid h3
      have HX3 := Lib.hid hx3
      have HO3 := Lib.hid ou3
      have HT3 := Lib.hid hT3
      clear h3 hx3 ou3 hT3 HFc
      rw [p1] at c5
      rw [p2] at c3
      obtain ⟨u0, u1, u2, u3, u4, u5, u6⟩ := unit_cells HO3.out
      obtain ⟨t0, t1, t2, t3, t4, t5, t6⟩ := unit_frozen HO3.out
      go_wp2
      generalize hW11 : ((((((w3.setCell ⟨w.heap.size, 0, none⟩ (.int .u8 0)).setCell ⟨w.heap.size, 1, none⟩ (.bool false)).setCell ⟨w.heap.size, 2, none⟩ (.int .u8 (y.sent : Int))).setCell ⟨w.heap.size, 3, none⟩ (.bool false)).setCell ⟨w.heap.size, 4, none⟩ (.int .u8 0)).setCell ⟨w.heap.size, 5, none⟩ (.int .u8 0)).setCell ⟨w.heap.size, 6, none⟩ (.slice none 0 0) = W11
      obtain ⟨ou11, hx11⟩ := seven HO3.out hW11
      clear hW11 u0 u1 u2 u3 u4 u5 u6 t0 t1 t2 t3 t4 t5 t6
      obtain ⟨u0, u1, u2, u3, u4, u5, u6⟩ := unit_cells ou11
      refine bodyPost_ret (v := .agg #[.int .u8 0, .bool false, .int .u8 (y.sent : Int), .bool false, .int .u8 0, .int .u8 0, .slice none 0 0]) (by simp [results, Try.results31, go_sem, u0, u1, u2, u3, u4, u5, u6]) rfl ?_
      obtain ⟨f1, f2, f3⟩ := cho_fin (s := none) (k := 0) (l := []) HSl.out HT3.out (Nat.lt_of_lt_of_le HU.out.lt HX3.out.size) (Row.of_nil _ _) (fun z hz => by cases hz) H3.out ⟨Exc.refl _ _, fun _ hj => .inl hj⟩ (fun z hz => by cases hz) hx11
      exact ⟨none, 0, by rw [HUn.out]; rfl, by rw [HUn.out]; rfl, by rw [HUn.out]; exact f1, f2, f3⟩
    · go_enter Try.func31, Try.ntmps31
      go_wp2_with fail
      rw [← HW.out]
      with_reducible refine HFc.out.mono ?_
      rintro e w3 ⟨rfl, h3, hx3⟩
      have c5 := h3.cells.2.2.2.2.2.1
      have c2 := h3.cells.2.2.1
      have c3 := h3.cells.2.2.2.1
      have c6 := h3.cells.2.2.2.2.2.2.1
      have ou3 := HU.out.exc hx3 (fun hh => HNs.out b (.inl rfl) hh.symm)
      have hT3 : Exc (L.S b) w w3 := (Exc.of_below HB.out).trans hx3 (fun j _ hj => .inl hj)
      have H3 := Lib.hid h3
      have HX3 := Lib.hid hx3
      have HO3 := Lib.hid ou3
      have HT3 := Lib.hid hT3
      clear h3 hx3 ou3 hT3 HFc
      rw [p1] at c5
      rw [p3] at c2
      rw [p2] at c3
      obtain ⟨u0, u1, u2, u3, u4, u5, u6⟩ := unit_cells HO3.out
      obtain ⟨t0, t1, t2, t3, t4, t5, t6⟩ := unit_frozen HO3.out
      go_wp2
      generalize hW11 : ((((((w3.setCell ⟨w.heap.size, 0, none⟩ (.int .u8 0)).setCell ⟨w.heap.size, 1, none⟩ (.bool false)).setCell ⟨w.heap.size, 2, none⟩ (.int .u8 (y.sent : Int))).setCell ⟨w.heap.size, 3, none⟩ (.bool false)).setCell ⟨w.heap.size, 4, none⟩ (.int .u8 0)).setCell ⟨w.heap.size, 5, none⟩ (.int .u8 0)).setCell ⟨w.heap.size, 6, none⟩ (.slice none 0 0) = W11
      obtain ⟨ou11, hx11⟩ := seven HO3.out hW11
      clear hW11 u0 u1 u2 u3 u4 u5 u6 t0 t1 t2 t3 t4 t5 t6
      obtain ⟨u0, u1, u2, u3, u4, u5, u6⟩ := unit_cells ou11
      refine bodyPost_ret (v := .agg #[.int .u8 0, .bool false, .int .u8 (y.sent : Int), .bool false, .int .u8 0, .int .u8 0, .slice none 0 0]) (by simp [results, Try.results31, go_sem, u0, u1, u2, u3, u4, u5, u6]) rfl ?_
      obtain ⟨f1, f2, f3⟩ := cho_fin (s := none) (k := 0) (l := []) HSl.out HT3.out (Nat.lt_of_lt_of_le HU.out.lt HX3.out.size) (Row.of_nil _ _) (fun z hz => by cases hz) H3.out ⟨Exc.refl _ _, fun _ hj => .inl hj⟩ (fun z hz => by cases hz) hx11
      exact ⟨none, 0, by rw [HUn.out]; rfl, by rw [HUn.out]; rfl, by rw [HUn.out]; exact f1, f2, f3⟩
end Go.Proofs.Ytdjnflfcolpccaa
/- The code's end of a link: Next. -/
namespace Go.Proofs.Ytdjnflfcolpccaa
open Go.RowKit

theorem En.next_facts (x : En) : x.next.1.back = x.acc ∧ x.next.1.bb = true ∧ x.next.1.fb = true ∧ x.next.1.state = 0 ∧ x.next.2.acc = x.acc := by
  have hp : x.pre.acc = x.acc := by
    rcases x.pre_cases with ⟨_, _, e⟩ | ⟨_, _, e⟩ | ⟨_, _, e⟩ | ⟨_, _, e⟩ <;> rw [e]
  have ha : ∀ y : En, y.again.1.back = y.acc ∧ y.again.1.bb = true ∧ y.again.1.fb = true ∧ y.again.1.state = 0 ∧ y.again.2.acc = y.acc := fun y => by
    unfold En.again
    split <;> exact ⟨rfl, rfl, rfl, rfl, rfl⟩
  unfold En.next En.go
  rw [← hp]
  cases x.pre.que with
  | nil => exact ha _
  | cons l q =>
    simp only
    split
    · exact ⟨rfl, rfl, rfl, rfl, rfl⟩
    · exact ha _
set_option maxHeartbeats 1000000 in
set_option maxRecDepth 100000 in
theorem next_failed (b : Nat) (x : En) (L : ELay) (w : World) (h : EndL w b x L) (hf : x.failed = true) :
    Calls Try.prog 10 #[.pointer (some ⟨b, 0, none⟩)] w fun e w' => e = .returned (.tuple #[.agg zeroUnit.toArray, .int .i64 6]) ∧ Below w.heap.size w w' := by
  obtain ⟨W0, hW0⟩ : ∃ W, W = w.alloc (.cells #[.int .u8 0, .bool false, .int .u8 0, .bool false, .int .u8 0, .int .u8 0, .slice none 0 0] 45) := ⟨_, rfl⟩
  have hb0 : Below w.heap.size w W0 := by rw [hW0]; exact below_alloc _ _
  have oz : Own W0 w.heap.size 45 zeroUnit := by rw [hW0]; exact own_lit w _ _ zeroUnit rfl
  have hcon := echeck_any b x L W0 (h.later hb0)
  rw [hf] at hcon
  simp only [if_true] at hcon
  obtain ⟨y0, y1, y2, y3, y4, y5, y6⟩ := unit_cells oz
  obtain ⟨t0, t1, t2, t3, t4, t5, t6⟩ := unit_frozen oz
  have HC := Lib.hid hcon
  have HW0 := Lib.hid hW0
  have HB0 := Lib.hid hb0
  have HZ := Lib.hid oz
  have hz0 := oz.lt
  clear h hcon hW0 hb0 oz
  go_enter Try.func10, Try.ntmps10
  go_wp2_with fail
  rw [← HW0.out]
  refine HC.out.mono ?_
  rintro e w' ⟨rfl, q, rfl⟩
  go_wp2
  generalize hW6 : (((((((W0.drewN q).setCell ⟨w.heap.size, 0, none⟩ (.int .u8 0)).setCell ⟨w.heap.size, 1, none⟩ (.bool false)).setCell ⟨w.heap.size, 2, none⟩ (.int .u8 0)).setCell ⟨w.heap.size, 3, none⟩ (.bool false)).setCell ⟨w.heap.size, 4, none⟩ (.int .u8 0)).setCell ⟨w.heap.size, 5, none⟩ (.int .u8 0)).setCell ⟨w.heap.size, 6, none⟩ (.slice none 0 0) = W6
  obtain ⟨oz6, hx6⟩ := seven (HZ.out.below (below_draw W0 q) hz0) hW6
  clear hW6 y0 y1 y2 y3 y4 y5 y6
  obtain ⟨y0, y1, y2, y3, y4, y5, y6⟩ := unit_cells oz6
  refine bodyPost_ret (v := .tuple #[.agg zeroUnit.toArray, .int .i64 6]) (by simp [results, Try.results10, go_sem, y0, y1, y2, y3, y4, y5, y6]) rfl ?_
  refine ⟨rfl, (HB0.out.trans (Below.mono (below_draw W0 q) HB0.out.size)).trans (hx6.below ?_ (fun i _ hi => by omega))⟩
  exact HB0.out.size
set_option maxHeartbeats 4000000 in
set_option maxRecDepth 100000 in
theorem next_ok (b : Nat) (x : En) (L : ELay) (w : World) (h : EndL w b x L) (hf : x.failed = false) :
    Calls Try.prog 10 #[.pointer (some ⟨b, 0, none⟩)] w fun e w' => ∃ L', Sends w w' (L'.S b) x.next.1 e ∧ EndL w' b x.next.2 L' ∧ Turn (L.S b) w (L'.S b) w' := by
  obtain ⟨W0, hW0⟩ : ∃ W, W = w.alloc (.cells #[.int .u8 0, .bool false, .int .u8 0, .bool false, .int .u8 0, .int .u8 0, .slice none 0 0] 45) := ⟨_, rfl⟩
  have hb0 : Below w.heap.size w W0 := by rw [hW0]; exact below_alloc _ _
  have oz : Own W0 w.heap.size 45 zeroUnit := by rw [hW0]; exact own_lit w _ _ zeroUnit rfl
  have hcon := echeck_any b x L W0 (h.later hb0)
  rw [hf] at hcon
  simp only [Bool.false_eq_true, if_false] at hcon
  have hch := fun q => choose_any b x L (W0.drewN q) ((h.later hb0).later (below_draw W0 q))
  unfold Cho at hch
  obtain ⟨n1, n2, n3, n4, n5⟩ := En.next_facts x
  obtain ⟨u, hu⟩ : ∃ u, u = x.next.1 := ⟨_, rfl⟩
  obtain ⟨y, hy⟩ : ∃ y, y = x.next.2 := ⟨_, rfl⟩
  rw [← hu] at hch n1 n2 n3 n4 ⊢
  rw [← hy] at hch n5 ⊢
  have hslt := h.s_lt
  have HSl := Lib.hid hslt
  have HC := Lib.hid hcon
  have HCh := Lib.hid hch
  have HW0 := Lib.hid hW0
  have HB0 := Lib.hid hb0
  have HZ := Lib.hid oz
  have hz0 := oz.lt
  have HN := Lib.hid (And.intro n1 (And.intro n2 (And.intro n3 (And.intro n4 n5))))
  clear h hcon hch hW0 hb0 oz n1 n2 n3 n4 n5 hslt hu hy
  go_enter Try.func10, Try.ntmps10
  go_wp2_with fail
  rw [← HW0.out]
  refine HC.out.mono ?_
  rintro e w' ⟨rfl, q, rfl⟩
  go_wp2_with fail
  refine (HCh.out q).mono ?_
  rintro e w2 ⟨s, k, rfl, rfl, hrow, hsz, L2, h2, hT, hns⟩
  have hT0 : Turn (L.S b) W0 (L2.S b) w2 := ⟨(Exc.of_below (below_draw W0 q)).trans hT.exc (fun k _ hk => hk), hT.lies⟩
  have oz2 := HZ.out.exc hT0.exc (fun hs => by have := HSl.out _ hs; omega)
  have c5 := h2.cells.2.2.2.2.2.2.2.1
  obtain ⟨y0, y1, y2, y3, y4, y5, y6⟩ := unit_cells oz2
  obtain ⟨t0, t1, t2, t3, t4, t5, t6⟩ := unit_frozen oz2
  have hb2s : b < w2.heap.size := h2.own.lt
  have hz2s : w.heap.size < w2.heap.size := oz2.lt
  have hbz : b ≠ w.heap.size := fun hh => by
    rcases hT0.lies b (.inl rfl) with h5 | h5
    · have := HSl.out b h5; omega
    · have := hb2s
      have h6 := HSl.out b (.inl rfl); omega
  have HT0 := Lib.hid hT0
  have HSz := Lib.hid hsz
  have HNs := Lib.hid hns
  have H2 := Lib.hid h2
  have HZ2 := Lib.hid oz2
  have HR2 := Lib.hid hrow
  clear hT hT0 hsz hns h2 oz2 hrow
  go_wp2
  generalize hW6 : ((((((w2.setCell ⟨w.heap.size, 0, none⟩ (.int .u8 (y.acc : Int))).setCell ⟨w.heap.size, 1, none⟩ (.bool true)).setCell ⟨w.heap.size, 2, none⟩ (.int .u8 (u.fore : Int))).setCell ⟨w.heap.size, 3, none⟩ (.bool true)).setCell ⟨w.heap.size, 4, none⟩ (.int .u8 (u.kind : Int))).setCell ⟨w.heap.size, 5, none⟩ (.int .u8 0)).setCell ⟨w.heap.size, 6, none⟩ (.slice s u.load.length u.load.length) = W6
  obtain ⟨oz6, hx26⟩ := seven HZ2.out hW6
  generalize hW7 : W6.alloc (.cells #[.int .u8 (y.acc : Int), .bool true, .int .u8 (u.fore : Int), .bool true, .int .u8 (u.kind : Int), .int .u8 0, .slice s u.load.length u.load.length] 45) = W7
  have hb67 : Below W6.heap.size W6 W7 := by rw [← hW7]; exact below_alloc _ _
  have oz7 := oz6.below hb67 oz6.lt
  clear hW6 hW7 c5 y0 y1 y2 y3 y4 y5 y6 t0 t1 t2 t3 t4 t5 t6
  obtain ⟨y0, y1, y2, y3, y4, y5, y6⟩ := unit_cells oz7
  refine bodyPost_ret (v := .tuple #[.agg #[.int .u8 (y.acc : Int), .bool true, .int .u8 (u.fore : Int), .bool true, .int .u8 (u.kind : Int), .int .u8 0, .slice s u.load.length u.load.length], .int .i64 0]) (by simp [results, Try.results10, go_sem, y0, y1, y2, y3, y4, y5, y6]) rfl ?_
  obtain ⟨n1, n2, n3, n4, n5⟩ := HN.out
  have hw0 := HB0.out.size
  have hx27 : Exc (fun k => k = w.heap.size) w2 W7 := hx26.trans (S' := fun _ => False) (Exc.of_below hb67) (fun _ _ hk => hk.elim)
  have hL2 : ∀ k, L2.S b k → ¬ k = w.heap.size := fun k hk hh => by
    rcases HT0.out.lies k hk with h5 | h5
    · have := HSl.out _ h5; omega
    · omega
  refine ⟨L2, ⟨s, ?_, HR2.out.exc hx27 (fun z hz hh => by have h5 : W0.heap.size ≤ z.block := (HSz.out z hz).1; omega), fun z hz => ⟨?_, Nat.lt_of_lt_of_le (HSz.out z hz).2 hx27.size, HNs.out z hz⟩⟩, H2.out.exc hx27 hL2, ⟨?_, fun k hk => ?_⟩⟩
  · rw [n5]
    unfold unCells
    rw [n1, n2, n3, n4]
    rfl
  · have h5 : W0.heap.size ≤ z.block := (HSz.out z hz).1; omega
  · exact ((Exc.of_below HB0.out).trans HT0.out.exc (fun k _ hk => hk)).trans hx27 (fun k hk hh => by omega)
  · rcases HT0.out.lies k hk with h5 | h5
    · exact .inl h5
    · exact .inr (Nat.le_trans hw0 h5)
end Go.Proofs.Ytdjnflfcolpccaa
