/- The code's end of a link: the unit that is sent. -/
import Derived.Test.YtoegijmfcelgnaaEaNumber
import Derived.Test.YtoegijmfcelgnaaBaModel
import Derived.Test.YtoegijmfcelgnaaEaAck
namespace Go.Proofs.Ytoegijmfcelgnaa
open Go.RowKit

set_option maxHeartbeats 4000000 in
set_option maxRecDepth 100000 in
theorem choose_rep (b : Nat) (x : En) (L : ELay) (w : World) (h : EndL w b x L) (hp : 0 < x.rep) :
    Calls Try.prog 30 #[.pointer (some ⟨b, 0, none⟩)] w fun e w' => ∃ s k, e = .returned (.agg #[.int .u8 0, .bool false, .int .u8 (x.next.1.fore : Int), .bool x.next.1.fb, .int .u8 (x.next.1.kind : Int), .int .u8 0, .slice s k k]) ∧ k = x.next.1.load.length ∧ Row .u8 w' s k k x.next.1.load ∧ (∀ z, s = some z → w.heap.size ≤ z.block ∧ z.block < w'.heap.size) ∧ ∃ L', EndL w' b x.next.2 L' ∧ Turn (L.S b) w (L'.S b) w' ∧ ∀ z, s = some z → ¬ L'.S b z.block := by
  obtain ⟨W1, hW1⟩ : ∃ W, W = ((w.alloc (.cells #[.int .u8 0, .bool false, .int .u8 0, .bool false, .int .u8 0, .int .u8 0, .slice none 0 0] 41)).alloc (.cells #[.int .u8 0, .bool false, .int .u8 (x.sent : Int), .bool x.fore, .int .u8 0, .int .u8 0, .slice none 0 0] 41)).drew := ⟨_, rfl⟩
  have hb1 : Below w.heap.size w W1 := by rw [hW1]; exact below_drewN (n := 1) (((Below.refl _ _).alloc (Nat.le_refl _) _).alloc (by simp) _)
  have hz1 : W1.heap.size = w.heap.size + 2 := by rw [hW1]; show ((w.alloc _).alloc _).heap.size = _; simp
  have oz : Own W1 w.heap.size 41 zeroUnit := by
    rw [hW1]
    exact (own_lit w _ _ zeroUnit rfl).below (below_drewN (n := 1) (below_alloc _ _)) (by simp)
  have ou : Own W1 (w.heap.size + 1) 41 [.int .u8 0, .bool false, .int .u8 (x.sent : Int), .bool x.fore, .int .u8 0, .int .u8 0, .slice none 0 0] := by
    have hh := own_lit (w.alloc (.cells #[.int .u8 0, .bool false, .int .u8 0, .bool false, .int .u8 0, .int .u8 0, .slice none 0 0] 41)) 41 #[.int .u8 0, .bool false, .int .u8 (x.sent : Int), .bool x.fore, .int .u8 0, .int .u8 0, .slice none 0 0] _ rfl
    rw [World.size_alloc] at hh
    rw [hW1]; exact hh
  have h1 := h.later hb1
  have c3 := h.cells.2.2.2.1
  have c4 := h.cells.2.2.2.2.1
  have hbs : b < w.heap.size := h.own.lt
  have HW := Lib.hid hW1
  have HB := Lib.hid hb1
  have HZ := Lib.hid oz
  have HU := Lib.hid ou
  have H1 := Lib.hid h1
  have H := Lib.hid h
  clear hW1 hb1 oz ou h1 h
  go_enter Try.func30, Try.ntmps30
  go_wp2_with fail
  go_step3
  go_wp2_with fail
  go_region
  rw [← HW.out]
  clear c3 c4
  go_wp2_with fail
  go_step3
  go_wp2_with fail
  have hfit := H1.out.fit
  have hrl := hfit.rep
  have hul := hfit.una
  obtain ⟨I, hI⟩ : ∃ I, I = x.una.length - x.rep := ⟨_, rfl⟩
  have hIl : I < x.una.length := by omega
  obtain ⟨F, hF⟩ : ∃ F, F = (x.sent + 129 - x.rep) % 128 := ⟨_, rfl⟩
  obtain ⟨k, o, s, ha, hg, hcl, hrr, hz⟩ := H1.out.o.at hIl
  obtain ⟨l, hl⟩ : ∃ l, l = x.una.getD I [] := ⟨_, rfl⟩
  rw [← hl] at hcl hrr
  have hwl : 2 ≤ l.length ∧ l.length ≤ 273 := by
    rw [hl]
    refine H1.out.wide _ (.inr ?_)
    rw [List.getD_eq_getElem?_getD, List.getElem?_eq_getElem hIl]
    exact List.getElem_mem hIl
  have hn1 : ((x.sent : Int) + (1 - (x.rep : Int))) % 128 = (F : Int) := by have := hfit.sent; omega
  have haf : ∀ W, Calls Try.prog 43 #[.int .u8 (x.sent : Int), .int .i64 (1 - (x.rep : Int))] W fun e w' => e = .returned (.int .u8 (F : Int)) ∧ w' = W := fun W => by
    have hh := after_any (x.sent : Int) (1 - (x.rep : Int)) W (by have := hfit.sent; omega) (by have := hfit.sent; omega)
    rw [hn1] at hh
    exact hh.mono fun _ _ ⟨h1, h2⟩ => ⟨h1, h2.symm⟩
  have hri : (0 : Int) < (x.rep : Int) := by omega
  have hw1 : IntKind.i64.wrap (1 - (x.rep : Int)) = 1 - (x.rep : Int) := IntWalk.i64_in _ (by omega)
  have hw2 : IntKind.i64.wrap ((x.una.length : Int) - (x.rep : Int)) = (I : Int) := by rw [IntWalk.i64_in _ (by omega)]; omega
  obtain ⟨R, hR⟩ : ∃ R, R = x.rep - 1 := ⟨_, rfl⟩
  have hw3 : IntKind.i64.wrap ((x.rep : Int) - 1) = (R : Int) := by rw [IntWalk.i64_in _ (by omega)]; omega
  have hii : (I : Int) < (x.una.length : Int) := by omega
  have hi0 : (0 : Int) ≤ (I : Int) := by omega
  have c1 := H1.out.cells.2.1
  have c2 := H1.out.cells.2.2.1
  have c3 := H1.out.cells.2.2.2.1
  have f2 := H1.out.own.frozen 2
  rw [ha] at c1
  obtain ⟨u0, u1, u2, u3, u4, u5, u6⟩ := unit_cells HU.out
  obtain ⟨t0, t1, t2, t3, t4, t5, t6⟩ := unit_frozen HU.out
  have hubs : w.heap.size + 1 < W1.heap.size := HU.out.lt
  have hbu : b ≠ w.heap.size + 1 := by omega
  have hbu0 : b ≠ w.heap.size := by omega
  have HAf := Lib.hid haf
  have HFit := Lib.hid hfit
  have HI := Lib.hid hI
  have HF := Lib.hid hF
  have HL := Lib.hid hl
  have HRr := Lib.hid hrr
  have HZz := Lib.hid hz
  have HWl := Lib.hid hwl
  have HR := Lib.hid hR
  have HG := Lib.hid (And.intro ha hg)
  have HCl := Lib.hid hcl
  clear haf hfit hI hF hl hrr hz hwl hR hrl hul ha hn1
  have hnu : ∀ k, L.S b k → ¬ k = w.heap.size + 1 := fun k hk hh => by have := H.out.s_lt k hk; omega
  have hnz : ∀ k, L.S b k → ¬ k = w.heap.size := fun k hk hh => by have := H.out.s_lt k hk; omega
  have hT : Turn (L.S b) w (L.S b) W1 := ⟨Exc.of_below HB.out, fun k hk => .inl hk⟩
  have HNu := Lib.hid hnu
  have HNz := Lib.hid hnz
  have HT := Lib.hid hT
  have HP := Lib.hid hp
  clear hnu hnz hT
  refine wp_loop_rounds 1 ?_
  rw [rounds_succ]
  go_wp2_with fail
  generalize hV1 : W1.setCell ⟨w.heap.size + 1, 4, none⟩ (.int .u8 2) = V1
  have hxv1 : Exc (fun k => k = w.heap.size + 1) W1 V1 := by rw [← hV1]; exact (Exc.refl (fun k => k = w.heap.size + 1) W1).setCell ⟨w.heap.size + 1, 4, none⟩ (.inl rfl) _
  have ov1 : Own V1 (w.heap.size + 1) 41 [.int .u8 0, .bool false, .int .u8 (x.sent : Int), .bool x.fore, .int .u8 2, .int .u8 0, .slice none 0 0] := by rw [← hV1]; exact HU.out.set 4 (.int .u8 2)
  have hyb : ∀ k, L.S b k → ¬ k = w.heap.size + 1 := HNu.out
  have hv1 := H1.out.exc hxv1 hyb
  have oz1 := HZ.out.exc hxv1 (by omega)
  clear hyb u0 u1 u2 u3 u4 u5 u6 t0 t1 t2 t3 t4 t5 t6 c1 c2 c3 f2 hcl hV1
  obtain ⟨u0, u1, u2, u3, u4, u5, u6⟩ := unit_cells ov1
  obtain ⟨t0, t1, t2, t3, t4, t5, t6⟩ := unit_frozen ov1
  have c2 := hv1.cells.2.2.1
  have c3 := hv1.cells.2.2.2.1
  have HX1 := Lib.hid hxv1
  have HV1 := Lib.hid hv1
  have HO1 := Lib.hid ov1
  have HZ1 := Lib.hid oz1
  clear hxv1 hv1 ov1 oz1
  go_still_tail 11, (by kernel_rfl)
  still_call (HAf.out _)
  repeat still_step
  refine wpStill_nil ?_
  change wpList _ _ _ _ _ V1.drew
  go_wp2_with fail
  generalize hV2 : (V1.setCell ⟨w.heap.size + 1, 2, none⟩ (.int .u8 (F : Int))).drew = V2
  have hxv2 : Exc (fun k => k = w.heap.size + 1) V1 V2 := by rw [← hV2]; exact ((Exc.refl (fun k => k = w.heap.size + 1) V1).setCell ⟨w.heap.size + 1, 2, none⟩ (.inl rfl) _).drawN 1
  have ov2 : Own V2 (w.heap.size + 1) 41 [.int .u8 0, .bool false, .int .u8 (F : Int), .bool x.fore, .int .u8 2, .int .u8 0, .slice none 0 0] := by rw [← hV2]; exact Own.drewK (HO1.out.set 2 (.int .u8 (F : Int)))
  have hv2 := HV1.out.exc hxv2 HNu.out
  have oz2 := HZ1.out.exc hxv2 (by omega)
  have hx02 := HX1.out.trans hxv2 (fun k _ hk => hk)
  have hks : L.S b k := .inr (.inr (.inl HG.out.2))
  have hku : ¬ k = w.heap.size + 1 := HNu.out k hks
  clear hw1 u0 u1 u2 u3 u4 u5 u6 t0 t1 t2 t3 t4 t5 t6 c2 c3 hV2
  have hcl := hx02.cell (p := ⟨k, o + I, none⟩) HCl.out hku
  have c1 := hv2.cells.2.1
  have c2 := hv2.cells.2.2.1
  have f2 := hv2.own.frozen 2
  rw [HG.out.1] at c1
  have u6 := ov2.cell 6 (by simp)
  have t6 := ov2.frozen 6
  have hrr2 := HRr.out.exc hx02 (fun z hz => HNu.out _ (.inr (.inr (.inr (HZz.out z hz)))))
  have hcn : Calls Try.prog 29 #[.slice s l.length l.length] V2.drew fun e w' => e = .returned (.slice (some ⟨V2.heap.size, 0, none⟩) l.length l.length) ∧ Below V2.heap.size V2.drew w' ∧ Own w' V2.heap.size 5 (nums .u8 l) := bclone_any s l.length l.length l V2.drew (hrr2.later (below_draw V2 1)) (by have := HWl.out.2; omega)
  have hbs2 : b < V2.heap.size := hv2.own.lt
  have hus2 : w.heap.size + 1 < V2.heap.size := ov2.lt
  have HX2 := Lib.hid hx02
  have HV2 := Lib.hid hv2
  have HO2 := Lib.hid ov2
  have HZ2 := Lib.hid oz2
  have HCn := Lib.hid hcn
  have hIln : I < x.una.length := hIl
  clear hx02 hv2 ov2 oz2 hcn hxv2 hrr2 hks
  go_region_law
    (first
      | (go_simp; go_at_call 29; ((with_reducible refine (HCn.out).mono ?_); rintro e w3 ⟨rfl, hb3, ho3⟩; have hs3 := ho3.lt; have kc1 := (hb3.cell (p := ⟨b, 1, none⟩) hbs2).trans c1; have kc2 := (hb3.cell (p := ⟨b, 2, none⟩) hbs2).trans c2; have ku6 := (hb3.cell (p := ⟨w.heap.size + 1, 6, none⟩) hus2).trans u6; have kt6 := (HO2.out.below ((below_draw V2 1).trans hb3) hus2).frozen 6; have HQ := Lib.hid (And.intro hb3 ho3); clear hb3 ho3; dsimp only))
      | fail)
  all_goals
    obtain ⟨hb3, ho3⟩ := HQ.out
    have hb23 : Below V2.heap.size V2 w3 := (below_draw V2 1).trans hb3
    generalize hW4 : w3.setCell ⟨w.heap.size + 1, 6, none⟩ (.slice (some ⟨V2.heap.size, 0, none⟩) l.length l.length) = W4
    have hx34 : Exc (fun k => k = w.heap.size + 1) w3 W4 := by rw [← hW4]; exact (Exc.refl (fun k => k = w.heap.size + 1) w3).setCell ⟨w.heap.size + 1, 6, none⟩ (.inl rfl) _
    have hx24 : Exc (fun k => k = w.heap.size + 1) V2 W4 := (Exc.of_below hb23).trans hx34 (fun k _ hk => hk)
    have ou4 : Own W4 (w.heap.size + 1) 41 [.int .u8 0, .bool false, .int .u8 (F : Int), .bool x.fore, .int .u8 2, .int .u8 0, .slice (some ⟨V2.heap.size, 0, none⟩) l.length l.length] := by rw [← hW4]; exact (HO2.out.below hb23 hus2).set 6 _
    have ol4 := ho3.exc hx34 (by omega)
    have h4 := HV2.out.exc hx24 HNu.out
    have oz4 := HZ2.out.exc hx24 (by omega)
    have hx4 := HX2.out.trans hx24 (fun k _ hk => hk)
    clear hW4 hx34 hx24 hb23 hb3 ho3 HQ kc1 kc2 ku6 kt6 c1 c2 f2 u6 t6 hcl
    have hs4 : V2.heap.size < W4.heap.size := ol4.lt
    have c2 := h4.cells.2.2.1
    have f2 := h4.own.frozen 2
    have H4 := Lib.hid h4
    have HU4 := Lib.hid ou4
    have HL4 := Lib.hid ol4
    have HZ4 := Lib.hid oz4
    have HX4 := Lib.hid hx4
    clear h4 ou4 ol4 oz4 hx4
    have hbs4 : b < W4.heap.size := by omega
    have hx45 : Exc (fun k => k = b) W4 (W4.setCell ⟨b, 2, none⟩ (.int .i64 (R : Int))) := (Exc.refl (fun k => k = b) W4).setCell ⟨b, 2, none⟩ (.inl rfl) _
    have ho5 := H4.out.own.set 2 (.int .i64 (R : Int))
    have h5 := H4.out.redo (x' := { x with rep := R }) hx45 (by
      have e : endCells { x with rep := R } L = (endCells x L).set 2 (.int .i64 (R : Int)) := by simp [endCells]
      rw [e]; exact ho5) rfl rfl ⟨HFit.out.que, HFit.out.una, by show R ≤ x.una.length; have := HFit.out.rep; have := HR.out; omega, HFit.out.sent, HFit.out.acc⟩
    obtain ⟨W5, hW5⟩ : ∃ X, X = W4.setCell ⟨b, 2, none⟩ (.int .i64 (R : Int)) := ⟨_, rfl⟩
    rw [← hW5] at hx45 h5
    have ou5 := HU4.out.exc hx45 (fun hh => hbu hh.symm)
    have oz5 := HZ4.out.exc hx45 (fun hh => hbu0 hh.symm)
    have ol5 := HL4.out.exc hx45 (by omega)
    have hx5 : Exc (fun k => k = w.heap.size + 1 ∨ k = b) W1 W5 := (HX4.out.weak (fun k _ hk => .inl hk)).trans hx45 (fun k _ hk => .inr hk)
    have hs5 := hx45.size
    have H5 := Lib.hid h5
    have HW5 := Lib.hid hW5
    have HU5 := Lib.hid ou5
    have HZ5 := Lib.hid oz5
    have HL5 := Lib.hid ol5
    have HX5 := Lib.hid hx5
    clear hx45 ho5 h5 hW5 ou5 oz5 ol5 hx5
    obtain ⟨u0, u1, u2, u3, u4, u5, u6⟩ := unit_cells HU4.out
    obtain ⟨y0, y1, y2, y3, y4, y5, y6⟩ := unit_cells HZ4.out
    obtain ⟨t0, t1, t2, t3, t4, t5, t6⟩ := unit_frozen HZ4.out
    go_wp2
    rw [← HW5.out]
    generalize hW6 : (((((((W5.setCell ⟨w.heap.size, 0, none⟩ (.int .u8 0)).setCell ⟨w.heap.size, 1, none⟩ (.bool false)).setCell ⟨w.heap.size, 2, none⟩ (.int .u8 (F : Int))).setCell ⟨w.heap.size, 3, none⟩ (.bool x.fore)).setCell ⟨w.heap.size, 4, none⟩ (.int .u8 2)).setCell ⟨w.heap.size, 5, none⟩ (.int .u8 0)).setCell ⟨w.heap.size, 6, none⟩ (.slice (some ⟨V2.heap.size, 0, none⟩) l.length l.length)) = W6
    have hx56 : Exc (fun k => k = w.heap.size) W5 W6 := by rw [← hW6]; exact (((((((Exc.refl (fun k => k = w.heap.size) W5).setCell ⟨w.heap.size, 0, none⟩ (.inl rfl) _).setCell ⟨w.heap.size, 1, none⟩ (.inl rfl) _).setCell ⟨w.heap.size, 2, none⟩ (.inl rfl) _).setCell ⟨w.heap.size, 3, none⟩ (.inl rfl) _).setCell ⟨w.heap.size, 4, none⟩ (.inl rfl) _).setCell ⟨w.heap.size, 5, none⟩ (.inl rfl) _).setCell ⟨w.heap.size, 6, none⟩ (.inl rfl) _
    have oz6 : Own W6 w.heap.size 41 [.int .u8 0, .bool false, .int .u8 (F : Int), .bool x.fore, .int .u8 2, .int .u8 0, .slice (some ⟨V2.heap.size, 0, none⟩) l.length l.length] := by rw [← hW6]; exact (((((((HZ5.out.set 0 (.int .u8 0)).set 1 (.bool false)).set 2 (.int .u8 (F : Int))).set 3 (.bool x.fore)).set 4 (.int .u8 2)).set 5 (.int .u8 0)).set 6 (.slice (some ⟨V2.heap.size, 0, none⟩) l.length l.length))
    clear hW6 u0 u1 u2 u3 u4 u5 u6 y0 y1 y2 y3 y4 y5 y6 t0 t1 t2 t3 t4 t5 t6 c2 f2
    obtain ⟨y0, y1, y2, y3, y4, y5, y6⟩ := unit_cells oz6
    rw [Exit.noGoto_ret]
    refine bodyPost_ret (v := .agg #[.int .u8 0, .bool false, .int .u8 (F : Int), .bool x.fore, .int .u8 2, .int .u8 0, .slice (some ⟨V2.heap.size, 0, none⟩) l.length l.length]) (by simp [results, Try.results30, go_sem, y0, y1, y2, y3, y4, y5, y6]) rfl ?_
    have hn : x.next = (⟨x.acc, x.back, F, x.fore, 2, 0, l⟩, { x with rep := R }) := by
      unfold En.next; rw [if_pos HP.out, HF.out, HL.out, HI.out, HR.out]
    rw [hn]
    have hnz : ∀ k, L.S b k → ¬ k = w.heap.size := HNz.out
    have hVw : w.heap.size + 1 < V2.heap.size := hus2
    refine ⟨some ⟨V2.heap.size, 0, none⟩, l.length, rfl, rfl, (HL5.out.exc hx56 (by omega)).row0 l.length l.length rfl (Nat.le_refl _) (by have := HWl.out.2; unfold maxLen; omega) HRr.out.wf, fun z hz => ?_, L, H5.out.exc hx56 hnz, ⟨?_, HT.out.lies⟩, fun z hz hs => ?_⟩
    · cases hz
      exact ⟨by show w.heap.size ≤ V2.heap.size; omega, by show V2.heap.size < _; have := hx56.size; omega⟩
    · refine HT.out.exc.trans ((HX5.out.weak (S' := fun k => k = w.heap.size + 1 ∨ k = b ∨ k = w.heap.size) (fun k _ hk => by rcases hk with hk | hk; exact .inl hk; exact .inr (.inl hk))).trans hx56 (fun k _ hk => .inr (.inr hk))) (fun k hk hh => ?_)
      rcases hh with hh | hh | hh
      · omega
      · exact .inl hh
      · omega
    · cases hz
      have := HV2.out.s_lt _ hs
      exact Nat.lt_irrefl _ this
end Go.Proofs.Ytoegijmfcelgnaa
