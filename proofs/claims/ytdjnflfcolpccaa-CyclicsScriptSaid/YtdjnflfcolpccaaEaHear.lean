/- The code's end of a link: Hear. -/
import Derived.Test.YtdjnflfcolpccaaEaReceive
namespace Go.Proofs.Ytdjnflfcolpccaa
open Go.RowKit

/-- What Hear hands back. -/
def Brings2 (w w' : World) (S : Nat → Prop) (o : Option (List Int)) (code : Int) (e : Ending) : Prop :=
  ∃ a c, e = .returned (.tuple #[.slice a o.toList.length c, .int .i64 code]) ∧ Mat w' (fun k => w.heap.size ≤ k ∧ k < w'.heap.size ∧ ¬ S k) true a o.toList.length c o.toList ∧ (o ≠ none → c = 1)
theorem Brings2.none (w w' : World) (S : Nat → Prop) (code : Int) : Brings2 w w' S none code (.returned (.tuple #[.slice none 0 0, .int .i64 code])) := ⟨_, _, rfl, Mat.nil _ _ _, fun h => absurd rfl h⟩
def En.marked (x : En) (wr : Bool) : En := { x with w1 := x.w2, w2 := wr, failed := wr && (x.w1 || x.w2) }
theorem En.hear_eq (x : En) (u : Un) (hf : x.failed = false) : x.hear u = if x.wrong u then (none, x.marked true) else ((x.marked false).ackd u.back).recv u := by
  unfold En.hear En.marked En.ackd En.recv En.takes En.ack
  split
  · simp
  · simp [hf, En.ahead, En.acked]
theorem En.marked_ahead (x : En) (wr : Bool) (t : Nat) : (x.marked wr).ahead t = x.ahead t := rfl
set_option maxHeartbeats 1000000 in
set_option maxRecDepth 100000 in
/-- A failed end hears nothing. -/
theorem hear_failed (b : Nat) (x : En) (L : ELay) (w : World) (u : Un) (s : Option Addr) (n c : Nat) (h : EndL w b x L) (hf : x.failed = true) :
    Calls Try.prog 16 #[.pointer (some ⟨b, 0, none⟩), .agg (unCells u s n c).toArray] w fun e w' => e = .returned (.tuple #[.slice none 0 0, .int .i64 6]) ∧ Below w.heap.size w w' := by
  obtain ⟨W0, hW0⟩ : ∃ X, X = w.alloc (.cells (unCells u s n c).toArray 45) := ⟨_, rfl⟩
  have hb0 : Below w.heap.size w W0 := by rw [hW0]; exact below_alloc _ _
  have hcon := echeck_any b x L W0 (h.later hb0)
  rw [hf] at hcon
  simp only [if_true] at hcon
  have HC := Lib.hid hcon
  have HW0 := Lib.hid hW0
  have HB0 := Lib.hid hb0
  clear h hcon hW0 hb0
  simp only [unCells] at HW0 ⊢
  go_enter Try.func16, Try.ntmps16
  go_wp2_with fail
  rw [← HW0.out]
  refine HC.out.mono ?_
  rintro e w' ⟨rfl, q, rfl⟩
  go_wp2
  go_ret2
  exact ⟨rfl, HB0.out.trans (Below.mono (below_draw W0 q) HB0.out.size)⟩
set_option maxHeartbeats 1000000 in
set_option maxRecDepth 100000 in
/-- A unit that is none, or a State. -/
theorem hear_not (b : Nat) (x : En) (L : ELay) (w : World) (u : Un) (s : Option Addr) (n c : Nat) (h : EndL w b x L) (hf : x.failed = false) (h0 : u.back < 256) (h2 : u.fore < 256) (h4 : u.kind < 256) (h5 : u.state < 256) (hn : n ≤ 9223372036854775807)
    (hno : chk (u.back : Int) (u.fore : Int) (u.kind : Int) (u.state : Int) n ≠ 0 ∨ u.kind = 1) :
    Calls Try.prog 16 #[.pointer (some ⟨b, 0, none⟩), .agg (unCells u s n c).toArray] w fun e w' => e = .returned (.tuple #[.slice none 0 0, .int .i64 (chk (u.back : Int) (u.fore : Int) (u.kind : Int) (u.state : Int) n)]) ∧ Below w.heap.size w w' := by
  obtain ⟨W0, hW0⟩ : ∃ X, X = w.alloc (.cells (unCells u s n c).toArray 45) := ⟨_, rfl⟩
  have hb0 : Below w.heap.size w W0 := by rw [hW0]; exact below_alloc _ _
  have ou : Own W0 w.heap.size 45 (unCells u s n c) := by rw [hW0]; exact own_lit w _ _ _ rfl
  have hcon := echeck_any b x L W0 (h.later hb0)
  rw [hf] at hcon
  simp only [Bool.false_eq_true, if_false] at hcon
  have hck := fun q => ucheck_any (u.back : Int) u.bb (u.fore : Int) u.fb (u.kind : Int) (u.state : Int) s n c (W0.drewN q) (by omega) (by omega) (by omega) (by omega) (by omega) (by omega) (by omega) (by omega) hn
  obtain ⟨C, hC⟩ : ∃ C, C = chk (u.back : Int) (u.fore : Int) (u.kind : Int) (u.state : Int) n := ⟨_, rfl⟩
  rw [← hC] at hck hno ⊢
  obtain ⟨v0, v1, v2, v3, v4, v5, v6⟩ := unit_cells ou
  have hU0 := ou.lt
  obtain ⟨ub, bb, uf, fb, uk, us, ul⟩ := u
  simp only at v0 v1 v2 v3 v4 v5 v6 hno
  have HC := Lib.hid hcon
  have HK := Lib.hid hck
  have HW0 := Lib.hid hW0
  have HB0 := Lib.hid hb0
  have HU0 := Lib.hid ou
  clear h hcon hck hW0 hb0 hC ou h0 h2 h4 h5
  simp only [unCells] at HW0 HK ⊢
  go_enter Try.func16, Try.ntmps16
  go_wp2_with fail
  rw [← HW0.out]
  refine HC.out.mono ?_
  rintro e w' ⟨rfl, q, rfl⟩
  go_wp2_with fail
  refine (HK.out q).mono ?_
  rintro e w2 ⟨rfl, hb⟩
  have hb02 : Below W0.heap.size W0 w2 := (below_draw W0 q).trans hb
  have hb2 : Below w.heap.size w w2 := HB0.out.trans (Below.mono hb02 HB0.out.size)
  have ou2 := HU0.out.below hb02 hU0
  have HB := Lib.hid hb2
  clear hb hb2 hb02 v0 v1 v2 v3 v4 v5 v6
  obtain ⟨_, _, _, _, v4, _, _⟩ := unit_cells ou2
  simp only at v4
  clear ou2
  by_cases hC0 : C = 0
  · subst hC0
    have hk1 : uk = 1 := by simpa using hno
    subst hk1
    go_wp2
    go_ret2
    exact ⟨rfl, HB.out⟩
  · have hb1 : (C == 0) = false := by simp [hC0]
    have hb2 : (C != 0) = true := by simp [hC0]
    go_wp2
    go_ret2
    exact ⟨rfl, HB.out⟩
set_option maxHeartbeats 4000000 in
set_option maxRecDepth 100000 in
theorem hear_ok (b : Nat) (x : En) (L : ELay) (w : World) (u : Un) (s : Option Addr) (n c : Nat) (h : EndL w b x L) (hf : x.failed = false) (hk1 : u.kind ≠ 1) (hck : chk (u.back : Int) (u.fore : Int) (u.kind : Int) (u.state : Int) n = 0) (hr : Row .u8 w s n c u.load) (hsb : ∀ z, s = some z → z.block ≠ b) :
    Calls Try.prog 16 #[.pointer (some ⟨b, 0, none⟩), .agg (unCells u s n c).toArray] w fun e w' => Brings2 w w' (L.S b) (x.hear u).1 (if (x.hear u).2.failed then 6 else 0) e ∧ ∃ L', EndL w' b (x.hear u).2 L' ∧ L'.S b = L.S b ∧ Exc (fun k => k = b) w w' := by
  obtain ⟨W0, hW0⟩ : ∃ X, X = w.alloc (.cells (unCells u s n c).toArray 45) := ⟨_, rfl⟩
  have hb0 : Below w.heap.size w W0 := by rw [hW0]; exact below_alloc _ _
  have ou : Own W0 w.heap.size 45 (unCells u s n c) := by rw [hW0]; exact own_lit w _ _ _ rfl
  have hcon := echeck_any b x L W0 (h.later hb0)
  rw [hf] at hcon
  simp only [Bool.false_eq_true, if_false] at hcon
  obtain ⟨k0, k2, k4, k5, _, k7, k8⟩ := chk_ok.1 hck
  have hn273 : n ≤ 273 := by
    by_cases hk : (u.kind : Int) = 2
    · exact (k7 hk).2
    · rw [k8 hk]; omega
  have hcz := fun q => ucheck_any (u.back : Int) u.bb (u.fore : Int) u.fb (u.kind : Int) (u.state : Int) s n c (W0.drewN q) (by omega) (by omega) (by omega) (by omega) (by omega) (by omega) (by omega) (by omega) (by omega)
  rw [hck] at hcz
  obtain ⟨v0, v1, v2, v3, v4, v5, v6⟩ := unit_cells ou
  have hU0 := ou.lt
  have he := x.hear_eq u hf
  obtain ⟨code, hcode⟩ : ∃ code : Int, code = if (x.hear u).2.failed then 6 else 0 := ⟨_, rfl⟩
  rw [← hcode]
  have hbs : b < w.heap.size := h.own.lt
  have h0 := h.later hb0
  have hr0 := hr.later hb0
  have hfit := h.fit
  have hslt := h.s_lt
  obtain ⟨ub, bb, uf, fb, uk, us, ul⟩ := u
  simp only at v0 v1 v2 v3 v4 v5 v6 hk1 hr hr0 k0 k2 k4
  have hk1e : ((uk : Int) == 1) = false := by simp; omega
  have HC := Lib.hid hcon
  have HK := Lib.hid hcz
  have HW0 := Lib.hid hW0
  have HB0 := Lib.hid hb0
  have HU0 := Lib.hid ou
  have H0 := Lib.hid h0
  have HR0 := Lib.hid hr0
  have HE := Lib.hid he
  have HCo := Lib.hid hcode
  clear hcode
  have HSb := Lib.hid hsb
  have HSl := Lib.hid hslt
  have HFit := Lib.hid hfit
  have HB27 := Lib.hid (And.intro k0 (And.intro k2 (And.intro k4 hn273)))
  have HF := Lib.hid hf
  clear h hcon hcz hW0 hb0 ou hck k5 k7 k8 he h0 hr hr0 hsb hslt hfit k0 k2 k4 hn273 hk1 hf
  simp only [unCells] at HW0 HK ⊢
  go_enter Try.func16, Try.ntmps16
  go_wp2_with fail
  rw [← HW0.out]
  refine HC.out.mono ?_
  rintro e w' ⟨rfl, q, rfl⟩
  go_wp2_with fail
  refine (HK.out q).mono ?_
  rintro e w2 ⟨rfl, hb⟩
  have hb02 : Below W0.heap.size W0 w2 := (below_draw W0 q).trans hb
  have hb2 : Below w.heap.size w w2 := HB0.out.trans (Below.mono hb02 HB0.out.size)
  have ou2 := HU0.out.below hb02 hU0
  have h2 := H0.out.later hb02
  have hr2 := HR0.out.later hb02
  clear hb hb02 v0 v1 v2 v3 v4 v5 v6
  obtain ⟨v0, _, _, _, v4, _, _⟩ := unit_cells ou2
  simp only at v0 v4
  obtain ⟨D, hD⟩ : ∃ D, D = x.ahead ub := ⟨_, rfl⟩
  have hcov : ∀ q, Calls Try.prog 35 #[.pointer (some ⟨b, 0, none⟩), .int .u8 (ub : Int)] (w2.drewN q) fun e w' => e = .returned (.int .i64 (D : Int)) ∧ ∃ m, w' = (w2.drewN q).drewN m := fun q => by
    rw [hD]
    exact covers_any b x L (w2.drewN q) ub (h2.later (below_draw w2 q)) (by have := HB27.out.1; omega)
  have c1 := h2.cells.2.2.2.1
  have hz2 : w.heap.size < w2.heap.size := ou2.lt
  have H2 := Lib.hid h2
  have HU2 := Lib.hid ou2
  have HR2 := Lib.hid hr2
  have HB2 := Lib.hid hb2
  have HCv := Lib.hid hcov
  have HD := Lib.hid hD
  clear h2 ou2 hr2 hb2 hcov hD
  by_cases hwd : x.una.length < D
  · have hwi : (x.una.length : Int) < (D : Int) := by omega
    have HWd := Lib.hid hwd
    clear hwd
    go_wp2_with fail
    go_quiet ((go_at_call 35; exact Calls.quiet_of (HCv.out _)))
    clear hwi
    generalize hW3 : w2.drewN nq = W3
    have hb3 : Below w2.heap.size w2 W3 := by rw [← hW3]; exact below_draw _ _
    have ou3 := HU2.out.below hb3 hz2
    have h3 := H2.out.later hb3
    have hr3 := HR2.out.later hb3
    have hbx3 : Below w.heap.size w W3 := HB2.out.trans (hb3.mono HB2.out.size)
    clear v0 v4 c1 hW3
    obtain ⟨v0, v1, v2, v3, v4, v5, v6⟩ := unit_cells ou3
    simp only at v0 v1 v2 v3 v4 v5 v6
    have c8 := h3.cells.2.2.2.2.2.2.2.2.1
    have c9 := h3.cells.2.2.2.2.2.2.2.2.2.1
    have c10 := h3.cells.2.2.2.2.2.2.2.2.2.2
    have f8 := h3.own.frozen 8
    have f9 := h3.own.frozen 9
    have f10 := h3.own.frozen 10
    have hz3 : w.heap.size < W3.heap.size := ou3.lt
    have hbu : b ≠ w.heap.size := by omega
    have H3 := Lib.hid h3
    have HU3 := Lib.hid ou3
    have HR3 := Lib.hid hr3
    have HB3 := Lib.hid hbx3
    clear h3 ou3 hr3 hbx3 hb3
    cases hx1 : x.w1 <;> cases hx2 : x.w2
    all_goals
      rw [hx1] at c8
      rw [hx2] at c9
      have HX12 := Lib.hid (And.intro hx1 hx2)
      clear hx1 hx2
      go_wp2
      generalize hW4 : (((W3.setCell ⟨b, 10, none⟩ (.bool _)).setCell ⟨b, 8, none⟩ (.bool _)).setCell ⟨b, 9, none⟩ (.bool true)) = W4
      have hx34 : Exc (fun k => k = b) W3 W4 := by rw [← hW4]; exact (((Exc.refl (fun k => k = b) W3).setCell ⟨b, 10, none⟩ (.inl rfl) _).setCell ⟨b, 8, none⟩ (.inl rfl) _).setCell ⟨b, 9, none⟩ (.inl rfl) _
      have ho4 := (((H3.out.own.set 10 (.bool (x.w1 || x.w2))).set 8 (.bool x.w2)).set 9 (.bool true))
      simp only [HX12.out.1, HX12.out.2, Bool.or_true, Bool.or_false, Bool.or_self] at ho4
      rw [hW4] at ho4
      have hwrong : x.wrong ⟨ub, bb, uf, fb, uk, us, ul⟩ = true := by
        unfold En.wrong
        simp only [decide_eq_true_eq]
        rw [← HD.out]; exact HWd.out
      have he := HE.out
      rw [hwrong] at he
      simp only [if_true] at he
      have hco := HCo.out
      rw [he] at hco
      go_ret2
      rw [he]
      have e2 : endCells (x.marked true) L = (((endCells x L).set 10 (.bool (x.w1 || x.w2))).set 8 (.bool x.w2)).set 9 (.bool true) := by simp [endCells, En.marked]
      refine ⟨?_, L, H3.out.redo (x' := x.marked true) hx34 (by rw [e2, HX12.out.1, HX12.out.2]; exact ho4) rfl rfl ⟨HFit.out.que, HFit.out.una, HFit.out.plc, HFit.out.lm1, HFit.out.lm2, HFit.out.lo1, HFit.out.lo2, HFit.out.sent, HFit.out.acc⟩, rfl, (Exc.of_below HB3.out).trans hx34 (fun k _ hk => hk)⟩
      rw [hco]
      unfold En.marked
      simp only [HX12.out.1, HX12.out.2]
      exact Brings2.none _ _ _ _
  · have hwi : ¬ (x.una.length : Int) < (D : Int) := by omega
    have HWd := Lib.hid hwd
    clear hwd
    go_wp2_with fail
    go_quiet ((go_at_call 35; exact Calls.quiet_of (HCv.out _)))
    clear hwi
    generalize hW3 : w2.drewN nq = W3
    have hb3 : Below w2.heap.size w2 W3 := by rw [← hW3]; exact below_draw _ _
    have ou3 := HU2.out.below hb3 hz2
    have h3 := H2.out.later hb3
    have hr3 := HR2.out.later hb3
    have hbx3 : Below w.heap.size w W3 := HB2.out.trans (hb3.mono HB2.out.size)
    clear v0 v4 c1 hW3
    obtain ⟨v0, v1, v2, v3, v4, v5, v6⟩ := unit_cells ou3
    simp only at v0 v1 v2 v3 v4 v5 v6
    have c8 := h3.cells.2.2.2.2.2.2.2.2.1
    have c9 := h3.cells.2.2.2.2.2.2.2.2.2.1
    have c10 := h3.cells.2.2.2.2.2.2.2.2.2.2
    have f8 := h3.own.frozen 8
    have f9 := h3.own.frozen 9
    have f10 := h3.own.frozen 10
    have hz3 : w.heap.size < W3.heap.size := ou3.lt
    have hbu : b ≠ w.heap.size := by omega
    have H3 := Lib.hid h3
    have HU3 := Lib.hid ou3
    have HR3 := Lib.hid hr3
    have HB3 := Lib.hid hbx3
    clear h3 ou3 hr3 hbx3 hb3
    go_wp2_with fail
    generalize hW4 : (((W3.setCell ⟨b, 10, none⟩ (.bool false)).setCell ⟨b, 8, none⟩ (.bool x.w2)).setCell ⟨b, 9, none⟩ (.bool false)) = W4
    have hx34 : Exc (fun k => k = b) W3 W4 := by rw [← hW4]; exact (((Exc.refl (fun k => k = b) W3).setCell ⟨b, 10, none⟩ (.inl rfl) _).setCell ⟨b, 8, none⟩ (.inl rfl) _).setCell ⟨b, 9, none⟩ (.inl rfl) _
    have ho4 := (((H3.out.own.set 10 (.bool false)).set 8 (.bool x.w2)).set 9 (.bool false))
    rw [hW4] at ho4
    have e2 : endCells (x.marked false) L = (((endCells x L).set 10 (.bool false)).set 8 (.bool x.w2)).set 9 (.bool false) := by simp [endCells, En.marked]
    have h4 := H3.out.redo (x' := x.marked false) hx34 (by rw [e2]; exact ho4) rfl rfl ⟨HFit.out.que, HFit.out.una, HFit.out.plc, HFit.out.lm1, HFit.out.lm2, HFit.out.lo1, HFit.out.lo2, HFit.out.sent, HFit.out.acc⟩
    have ou4 := HU3.out.exc hx34 (fun hh => hbu hh.symm)
    have hr4 := HR3.out.exc hx34 (fun z hz => HSb.out z hz)
    have hx4 : Exc (fun k => k = b) w W4 := (Exc.of_below HB3.out).trans hx34 (fun k _ hk => hk)
    have hz4 : w.heap.size < W4.heap.size := ou4.lt
    have hack := ack_ok b (x.marked false) L W4.drew ub (h4.later (below_draw W4 1)) (by have := HB27.out.1; omega) (by rw [En.marked_ahead, ← HD.out]; have := HWd.out; show D ≤ x.una.length; omega)
    have hwrong : x.wrong ⟨ub, bb, uf, fb, uk, us, ul⟩ = false := by
      unfold En.wrong
      simp only [decide_eq_false_iff_not]
      rw [← HD.out]; exact HWd.out
    have he := HE.out
    rw [hwrong] at he
    simp only [Bool.false_eq_true, if_false] at he
    obtain ⟨y, hy⟩ : ∃ y, y = (x.marked false).ackd ub := ⟨_, rfl⟩
    rw [← hy] at hack he
    have hyf : y.failed = false := by rw [hy]; rfl
    have H4 := Lib.hid h4
    have HU4 := Lib.hid ou4
    have HR4 := Lib.hid hr4
    have HX4 := Lib.hid hx4
    have HAck := Lib.hid hack
    have HE2 := Lib.hid he
    have HYf := Lib.hid hyf
    clear hW4 hx34 ho4 e2 h4 ou4 hr4 hx4 hack hwrong he hy hyf v0 v1 v2 v3 v4 v5 v6 c8 c9 c10 f8 f9 f10
    obtain ⟨v0, v1, v2, v3, v4, v5, v6⟩ := unit_cells HU4.out
    simp only at v0 v1 v2 v3 v4 v5 v6
    go_region_law
      (first
        | (go_simp; go_at_call 36; ((with_reducible refine (HAck.out).mono ?_); rintro e w5 ⟨rfl, L5, h5, h5s, h5x⟩; have HQ := Lib.hid (And.intro h5 (And.intro h5s h5x)); clear h5 h5s h5x; dsimp only))
        | fail)
    all_goals
      obtain ⟨h5, h5s, h5x⟩ := HQ.out
      have hx45 : Exc (fun k => k = b) W4 w5 := (Exc.of_below (below_draw W4 1)).trans h5x (fun k _ hk => hk)
      have ou5 := HU4.out.exc hx45 (fun hh => hbu hh.symm)
      have hr5 := HR4.out.exc hx45 (fun z hz => HSb.out z hz)
      have hx5 : Exc (fun k => k = b) w w5 := HX4.out.trans hx45 (fun k _ hk => hk)
      have hrec := receive_ok b y L5 w5 ⟨ub, bb, uf, fb, uk, us, ul⟩ s n c h5 (by show uf < 128; have := HB27.out.2.1; omega) (by show uk ≤ 2; have := HB27.out.2.2.1; omega) hr5 HB27.out.2.2.2 HSb.out
      simp only [unCells] at hrec
      have HRec := Lib.hid hrec
      have HX5 := Lib.hid hx5
      have HS5 := Lib.hid h5s
      have hz5 : w.heap.size < w5.heap.size := ou5.lt
      clear v0 v1 v2 v3 v4 v5 v6
      obtain ⟨v0, v1, v2, v3, v4, v5, v6⟩ := unit_cells ou5
      simp only at v0 v1 v2 v3 v4 v5 v6
      clear h5 h5s h5x hx45 ou5 hr5 hx5 hrec HQ
      go_wp2_with fail
      with_reducible refine HRec.out.mono ?_
      rintro e w6 ⟨⟨ra, rc, rfl, hm, hc1⟩, h6, h6x⟩
      · have HQ2 := Lib.hid (And.intro hm (And.intro hc1 (And.intro h6 h6x)))
        clear hm hc1 h6 h6x v0 v1 v2 v3 v4 v5 v6
        go_wp2
        go_ret2
        obtain ⟨hm, hc1, h6, h6x⟩ := HQ2.out
        have hco := HCo.out
        rw [HE2.out] at hco ⊢
        have hyf : (y.recv ⟨ub, bb, uf, fb, uk, us, ul⟩).2.failed = false := by
          have := HYf.out
          unfold En.recv
          split <;> exact this
        rw [hyf] at hco
        simp only [Bool.false_eq_true, if_false] at hco
        subst hco
        refine ⟨⟨ra, rc, rfl, hm.weak fun k hk => ?_, hc1⟩, L5, h6, HS5.out, HX5.out.trans h6x (fun k _ hk => hk)⟩
        refine ⟨Nat.le_trans HX5.out.size hk.1, hk.2.1, ?_⟩
        rw [← HS5.out]
        exact hk.2.2
end Go.Proofs.Ytdjnflfcolpccaa
