/- Joined: TfLives TeErr. -/
import Derived.Test.YtdjmopipmeonlaaTfRing
/- The statements' own function lives: the chapter's example. -/
namespace Go.Proofs.Ytdjmopipmeonlaa
set_option linter.unusedVariables false
open Go.RowKit Go.Maps

theorem mut_map {w : World} {y : Tl} {T : Tb} (h : TbAt w y T) : ∀ k, Mut y k → ∃ es clock, w.heap[k]? = some (.map es clock) := fun k hk => by
  rcases hk with rfl | rfl | rfl
  · exact h.ups.map
  · exact h.tol.map
  · exact h.sai.map
/-- A slice of numbers stays while a table is written. -/
theorem row_mut {k : IntKind} {w w' : World} {y : Tl} {T : Tb} {a : Option Addr} {n c : Nat} {l : List Int} (hr : Row k w a n c l) (h : TbAt w y T) (hx : Exc (Mut y) w w') : Row k w' a n c l :=
  row_cells (hi := w.heap.size) hr hx (fun j hj _ => .inr (mut_map h j hj)) (fun h0 z hz => by
    obtain ⟨b, off, e, hc⟩ := hr.cells.resolve_left (by omega)
    rw [hz] at e; cases e
    exact World.block_lt_of_cell? _ _ (hc 0 h0))
set_option maxRecDepth 100000 in
set_option maxHeartbeats 8000000 in
theorem lives_any (w : World) : Calls Try.prog 6 #[] w fun e w' => e = .returned (.bool true) ∧ Below w.heap.size w w' := by
  have HR := Lib.hid (fun (W : World) => ring_any W)
  have HM := Lib.hid ring_m
  have H1 := Lib.hid ring_1
  have H2 := Lib.hid ring_2
  have H3 := Lib.hid ring_3
  go_enter Try.func6, Try.ntmps6
  go_wp2_with fail
  with_reducible refine (HR.out _).mono ?_
  rintro e w1 ⟨a1, c1, a1', c1', rfl, hP, hL, hb⟩
  have HN := Lib.hid (ring_new 1 0 (by decide) (by decide) a1 c1 a1' c1' w1 hP hL)
  have HB1 := Lib.hid hb
  have HB1z : Hid (w.heap.size ≤ w1.heap.size) := Lib.hid hb.size
  unfold planV at *
  clear hP hL hb
  go_wp2_with fail
  with_reducible refine HN.out.mono ?_
  rintro e w2 ⟨y1, rfl, hA1, hN1, hb⟩
  have HA1 := Lib.hid hA1
  have HT1 := Lib.hid hN1
  have HB2 := Lib.hid (HB1.out.trans (hb.mono HB1.out.size))
  clear hA1 hN1 hb HN HB1
  go_wp2_with fail
  with_reducible refine (HR.out _).mono ?_
  rintro e w3 ⟨a2, c2, a2', c2', rfl, hP, hL, hb⟩
  have HN := Lib.hid (ring_new 2 1 (by decide) (by decide) a2 c2 a2' c2' w3 hP hL)
  have HA1b := Lib.hid (HA1.out.below hb)
  have HZ3 : Hid (y1.hi ≤ w3.heap.size) := Lib.hid (by rw [HT1.out.hi]; exact hb.size)
  have HB3 := Lib.hid (HB2.out.trans (hb.mono HB2.out.size))
  have HB3z : Hid (w.heap.size ≤ w3.heap.size) := Lib.hid HB3.out.size
  unfold planV at *
  clear hP hL hb HA1 HB2
  go_wp2_with fail
  with_reducible refine HN.out.mono ?_
  rintro e w4 ⟨y2, rfl, hA2, hN2, hb⟩
  have HA1 := Lib.hid (HA1b.out.below hb)
  have HA2 := Lib.hid hA2
  have HT2 := Lib.hid hN2
  have HB4 := Lib.hid (HB3.out.trans (hb.mono HB3.out.size))
  clear hA2 hN2 hb HN HB3 HA1b
  go_wp2_with fail
  with_reducible refine (HR.out _).mono ?_
  rintro e w5 ⟨a3, c3, a3', c3', rfl, hP, hL, hb⟩
  have HN := Lib.hid (ring_new 3 2 (by decide) (by decide) a3 c3 a3' c3' w5 hP hL)
  have HA1b := Lib.hid (HA1.out.below hb)
  have HA2b := Lib.hid (HA2.out.below hb)
  have HZ5 : Hid (y2.hi ≤ w5.heap.size) := Lib.hid (by rw [HT2.out.hi]; exact hb.size)
  have HZ5b : Hid (y1.hi ≤ w5.heap.size) := Lib.hid (Nat.le_trans HA1b.out.fix.hi (Nat.le_refl _))
  have HB5 := Lib.hid (HB4.out.trans (hb.mono HB4.out.size))
  unfold planV at *
  clear hP hL hb HA1 HA2 HB4
  go_wp2_with fail
  with_reducible refine HN.out.mono ?_
  rintro e w6 ⟨y3, rfl, hA3, hN3, hb⟩
  have HA1 := Lib.hid (HA1b.out.below hb)
  have HA2 := Lib.hid (HA2b.out.below hb)
  have HA3 := Lib.hid hA3
  have HT3 := Lib.hid hN3
  have HB6 := Lib.hid (HB5.out.trans (hb.mono HB5.out.size))
  have HLo : Hid (∀ k, Mut y1 k ∨ Mut y2 k ∨ Mut y3 k → w.heap.size ≤ k) := Lib.hid (fun k hk => by
    have h2 := HB5.out.size
    have h1 := Nat.le_trans (show w.heap.size ≤ w1.heap.size from HB1z.out) (Nat.le_refl _)
    rcases hk with (e | e | e) | (e | e | e) | (e | e | e) <;> subst e
    · exact Nat.le_trans h1 HT1.out.bu
    · exact Nat.le_trans h1 HT1.out.bt
    · exact Nat.le_trans h1 HT1.out.bs
    · exact Nat.le_trans HB3z.out HT2.out.bu
    · exact Nat.le_trans HB3z.out HT2.out.bt
    · exact Nat.le_trans HB3z.out HT2.out.bs
    · exact Nat.le_trans h2 HT3.out.bu
    · exact Nat.le_trans h2 HT3.out.bt
    · exact Nat.le_trans h2 HT3.out.bs)
  have HO12 := Lib.hid (fun (W : World) (T : Tb) (h : TbAt W y1 T) => off_dn h HT2.out HZ3.out)
  have HO13 := Lib.hid (fun (W : World) (T : Tb) (h : TbAt W y1 T) => off_dn h HT3.out HZ5b.out)
  have HO23 := Lib.hid (fun (W : World) (T : Tb) (h : TbAt W y2 T) => off_dn h HT3.out HZ5.out)
  have HO32 := Lib.hid (fun (W : World) => off_up (w := W) HT3.out HZ5.out)
  clear hA3 hN3 hb HN HB5 HA1b HA2b HT1 HT2 HT3 HZ3 HZ5 HZ5b HR
  have HC := Lib.hid (hear_ok 2 4 2 w6 HA1.out HM.out.1 (by decide) (by decide) HM.out.2.2.1 (by decide) (by decide) (by decide))
  unfold noteV at HC
  go_wp2_with fail
  with_reducible refine HC.out.mono ?_
  rintro e w7 ⟨rfl, hA, hx⟩
  have HA2c := Lib.hid (HA2.out.exc hx (HO12.out _ _ HA1.out))
  have HA3c := Lib.hid (HA3.out.exc hx (HO13.out _ _ HA1.out))
  have HB7 := Lib.hid (HB6.out.trans (hx.below HB6.out.size (fun k _ hk => HLo.out k (.inl hk))))
  have HAc := Lib.hid hA
  clear hA hx HC HA1 HA2 HA3 HB6
  have HC := Lib.hid (statuses_ok 4 w7 HAc.out (by decide) HM.out.2.2.1)
  unfold StsOut at HC
  rw [H1.out.1] at HC
  go_wp2_with fail
  with_reducible refine HC.out.mono ?_
  rintro e w8 ⟨al, rfl, hr, hb⟩
  have HA1 := Lib.hid (HAc.out.below hb)
  have HA2 := Lib.hid (HA2c.out.below hb)
  have HA3 := Lib.hid (HA3c.out.below hb)
  have HRl := Lib.hid hr
  have HB8 := Lib.hid (HB7.out.trans (hb.mono HB7.out.size))
  clear hr hb HC HAc HA2c HA3c HB7
  have HC := Lib.hid (status_ok 4 w8 HA1.out (by decide) HM.out.2.2.1)
  rw [H1.out.2.1] at HC
  go_wp2_with fail
  with_reducible refine HC.out.mono ?_
  rintro e w9 ⟨rfl, hb⟩
  have HA1c := Lib.hid (HA1.out.below hb)
  have HA2c := Lib.hid (HA2.out.below hb)
  have HA3c := Lib.hid (HA3.out.below hb)
  have HRl9 := Lib.hid (HRl.out.later hb)
  have HB9 := Lib.hid (HB8.out.trans (hb.mono HB8.out.size))
  clear hb HC HA1 HA2 HA3 HB8 HRl
  have HC := Lib.hid (down_ok 3 w9 HA1c.out HM.out.2.1)
  go_wp2_with fail
  with_reducible refine HC.out.mono ?_
  rintro e w10 ⟨rfl, hA, hx⟩
  have HA1 := Lib.hid hA
  have HA2 := Lib.hid (HA2c.out.exc hx (HO12.out _ _ HA1c.out))
  have HA3 := Lib.hid (HA3c.out.exc hx (HO13.out _ _ HA1c.out))
  have HRl := Lib.hid (row_mut HRl9.out HA1c.out hx)
  have HB10 := Lib.hid (HB9.out.trans (hx.below HB9.out.size (fun k _ hk => HLo.out k (.inl hk))))
  clear hA hx HC HA1c HA2c HA3c HRl9 HB9
  have HC := Lib.hid (status_ok 4 w10 HA1.out (by decide) HM.out.2.2.1)
  rw [H1.out.2.2.1] at HC
  go_wp2_with fail
  with_reducible refine HC.out.mono ?_
  rintro e w11 ⟨rfl, hb⟩
  have HA2c := Lib.hid (HA2.out.below hb)
  have HA3c := Lib.hid (HA3.out.below hb)
  have HRl11 := Lib.hid (HRl.out.later hb)
  have HB11 := Lib.hid (HB10.out.trans (hb.mono HB10.out.size))
  clear hb HC HA1 HA2 HA3 HB10 HRl
  have HC := Lib.hid (down_ok 4 w11 HA2c.out HM.out.2.2.2.1)
  go_wp2_with fail
  with_reducible refine HC.out.mono ?_
  rintro e w12 ⟨rfl, hA, hx⟩
  have HA2 := Lib.hid hA
  have HA3 := Lib.hid (HA3c.out.exc hx (HO23.out _ _ HA2c.out))
  have HRl := Lib.hid (row_mut HRl11.out HA2c.out hx)
  have HB12 := Lib.hid (HB11.out.trans (hx.below HB11.out.size (fun k _ hk => HLo.out k (.inr (.inl hk)))))
  clear hA hx HC HA2c HA3c HRl11 HB11
  have HC := Lib.hid (down_ok 4 w12 HA3.out HM.out.2.2.2.2.1)
  go_wp2_with fail
  with_reducible refine HC.out.mono ?_
  rintro e w13 ⟨rfl, hA, hx⟩
  have HA3c := Lib.hid hA
  have HA2c := Lib.hid (HA2.out.exc hx (HO32.out _))
  have HRl13 := Lib.hid (row_mut HRl.out HA3.out hx)
  have HB13 := Lib.hid (HB12.out.trans (hx.below HB12.out.size (fun k _ hk => HLo.out k (.inr (.inr hk)))))
  clear hA hx HC HA2 HA3 HRl HB12
  have hC := tell_any w13 HA2c.out
  unfold NotesOut at hC
  rw [H2.out.1] at hC
  have HC := Lib.hid hC
  clear hC
  go_wp2_with fail
  with_reducible refine HC.out.mono ?_
  rintro e w14 ⟨am, rfl, hn, hA, hx, _⟩
  have HA2 := Lib.hid hA
  have HA3 := Lib.hid (HA3c.out.exc hx (HO23.out _ _ HA2c.out))
  have HRl := Lib.hid (row_mut HRl13.out HA2c.out hx)
  have HNr := Lib.hid hn
  have HB14 := Lib.hid (HB13.out.trans (hx.below HB13.out.size (fun k _ hk => HLo.out k (.inr (.inl hk)))))
  clear hA hx hn HC HA2c HA3c HRl13 HB13
  have HC := Lib.hid (status_ok 4 w14 HA3.out (by decide) HM.out.2.2.2.2.2)
  rw [H3.out] at HC
  go_wp2_with fail
  with_reducible refine HC.out.mono ?_
  rintro e w15 ⟨rfl, hb⟩
  have HA2c := Lib.hid (HA2.out.below hb)
  have hrl := HRl.out.later hb
  have hnr := HNr.out.later hb
  have HB15 := Lib.hid (HB14.out.trans (hb.mono HB14.out.size))
  obtain ⟨bl, ol, rfl, hcl⟩ := hrl.cells.resolve_left (by decide)
  have l0 := hcl 0 (by decide)
  have l1 := hcl 1 (by decide)
  obtain ⟨gm, rfl, _, hcm⟩ := hnr.at (by decide)
  obtain ⟨m0, m1, m2⟩ := hcm 0 (by decide)
  obtain ⟨m3, m4, m5⟩ := hcm 1 (by decide)
  simp only [Nat.zero_mul, Nat.add_zero, Nat.one_mul, Nat.zero_add, List.getD_cons_zero, List.getD_cons_succ] at l0 l1 m0 m1 m2 m3 m4 m5
  have hC := tell_any w15 HA2c.out
  unfold NotesOut at hC
  rw [H2.out.2] at hC
  have HC5 := Lib.hid hC
  clear hb hC HC HA2 HA3 HB14 HRl HNr hrl hnr hcl hcm
  go_wp2_with fail
  with_reducible refine HC5.out.mono ?_
  rintro e w16 ⟨an, rfl, hn, hA, hx, _⟩
  have HB16 := Lib.hid (HB15.out.trans (hx.below HB15.out.size (fun k _ hk => HLo.out k (.inr (.inl hk)))))
  clear hA hx hn l0 l1 m0 m1 m2 m3 m4 m5
  go_wp2
  go_ret
  exact ⟨rfl, HB16.out⟩
end Go.Proofs.Ytdjmopipmeonlaa
/- TransfersErrors: a plan or a point with an error. -/
namespace Go.Proofs.Ytdjmopipmeonlaa
set_option linter.unusedVariables false
open Go.RowKit Go.Maps

set_option maxRecDepth 100000 in
set_option maxHeartbeats 8000000 in
theorem errors_err (p : Pn) (a : Option Addr) (n c : Nat) (a' : Option Addr) (n' c' : Nat) (t x d s : Int) (w : World) (hP : PRow w a n c p.P) (hL : LRow w a' n' c' p.L) (hn1 : n ≤ 80) (hn2 : n' ≤ 40) (hwt : (Lit.int .u16 t).wf = true) (hwx : (Lit.int .u16 x).wf = true) (hwd : (Lit.int .u16 d).wf = true) (_hws : 0 ≤ s) (E : Int) (hE : chkPts p [t] = E) (hE0 : E ≠ 0) :
    Calls Try.prog 5 #[planV a n c a' n' c' p, .int .u16 t, noteV x d s] w fun e w' => e = .returned (.bool true) ∧ Below w.heap.size w w' := by
  obtain ⟨W, hW⟩ : ∃ W, W = (w.alloc (.cells (planCells a n c a' n' c' p).toArray 33)).alloc (.cells #[.int .u16 x, .int .u16 d, .int .u8 s] 54) := ⟨_, rfl⟩
  obtain ⟨pb, hpb⟩ : ∃ pb, pb = w.heap.size := ⟨_, rfl⟩
  have hb0 : Below w.heap.size w W := by rw [hW]; exact (below_alloc w _).alloc (by simp) _
  have hA0 : PlanAt W pb a n c a' n' c' p := by rw [hW, hpb]; exact (PlanAt.new w _ _ _ _ _ _ p).later (below_alloc _ _)
  have hO0 : Own W (pb + 1) 54 [.int .u16 x, .int .u16 d, .int .u8 s] := by rw [hW, hpb]; have h := heap_alloc_new (w.alloc (.cells (planCells a n c a' n' c' p).toArray 33)) (.cells #[.int .u16 x, .int .u16 d, .int .u8 s] 54); rw [size_alloc1] at h; exact h
  have HB := Lib.hid hb0
  have HP := Lib.hid (fun (V : World) (hb : Below W.heap.size W V) => hP.later (hb0.trans (hb.mono hb0.size)))
  have HL := Lib.hid (fun (V : World) (hb : Below W.heap.size W V) => hL.later (hb0.trans (hb.mono hb0.size)))
  have HPc := Lib.hid (fun (V : World) (hb : Below W.heap.size W V) => (hA0.later hb).cells)
  have HNc := Lib.hid (fun (V : World) (hb : Below W.heap.size W V) => (show V.cell? ⟨pb + 1, 0, none⟩ = some (.int .u16 x) ∧ V.cell? ⟨pb + 1, 1, none⟩ = some (.int .u16 d) ∧ V.cell? ⟨pb + 1, 2, none⟩ = some (.int .u8 s) from ⟨(hO0.below hb hO0.lt).cell 0 (by simp), (hO0.below hb hO0.lt).cell 1 (by simp), (hO0.below hb hO0.lt).cell 2 (by simp)⟩))
  have HPr := Lib.hid hP
  have HWt := Lib.hid hwt
  have HWx := Lib.hid hwx
  have HWd := Lib.hid hwd
  obtain ⟨g0, g1, g2, g3, g4, g5, g6⟩ := hA0.cells
  have b80 : decide ((80 : Int) < (n : Int)) = false := decide_eq_false (by omega)
  have b40 : decide ((40 : Int) < (n' : Int)) = false := decide_eq_false (by omega)
  have HNe := Lib.hid (fun (V : World) (hb : Below W.heap.size W V) => neighbors_err p a n c a' n' c' t V (HP.out V hb) (HL.out V hb) E hE hE0)
  have HNw := Lib.hid (fun (V : World) (hb : Below W.heap.size W V) => new_err p a n c a' n' c' t V (HP.out V hb) (HL.out V hb) E hE hE0)
  have e1 : (E != 0) = true := by simpa using hE0
  have e2 : (E != E) = false := by simp
  unfold planV at HNe HNw
  have HLv := Lib.hid (fun (V : World) => lives_any V)
  unfold planV noteV
  clear hb0 hA0 hO0 hP hL hwt hwx hwd hE hE0
  go_enter Try.func5, Try.ntmps5
  go_upto_region 1 with (fail)
  show Code.wp _ _ _ _ ((w.alloc (.cells (planCells a n c a' n' c' p).toArray 33)).alloc (.cells #[.int .u16 x, .int .u16 d, .int .u8 s] 54))
  rw [← hW, ← hpb]
  clear hW hpb
  go_wp2_with fail
  with_reducible refine (HNe.out _ (Below.refl _ _)).mono ?_
  rintro e w1 ⟨rfl, hb⟩
  have HB1 := Lib.hid hb
  clear hb g0 g1 g2 g3 g4 g5 g6
  obtain ⟨g0, g1, g2, g3, g4, g5, g6⟩ := HPc.out w1 HB1.out
  go_wp2_with fail
  with_reducible refine (HNw.out _ HB1.out).mono ?_
  rintro e wq ⟨rfl, hb⟩
  have HBq := Lib.hid (HB1.out.trans (hb.mono HB1.out.size))
  clear hb g0 g1 g2 g3 g4 g5 g6
  obtain ⟨zb, hzb⟩ : ∃ zb, zb = wq.heap.size := ⟨_, rfl⟩
  obtain ⟨V0, hV0⟩ : ∃ V0, V0 = wq.alloc (.cells #[.int .u16 0, .bool false, .slice none 0 0, .slice none 0 0, .map none, .map none, .map none, .map none] 86) := ⟨_, rfl⟩
  have hbV : Below wq.heap.size wq V0 := by rw [hV0]; exact below_alloc _ _
  have hoV : Own V0 zb 86 [.int .u16 0, .bool false, .slice none 0 0, .slice none 0 0, .map none, .map none, .map none, .map none] := by rw [hV0, hzb]; exact heap_alloc_new wq _
  have hsV : V0.heap.size = zb + 1 := by rw [hV0, hzb, size_alloc1]
  obtain ⟨V1, hV1⟩ : ∃ V1, V1 = V0.alloc (.cells #[.pointer none, .pointer (some ⟨zb, 0, none⟩)] 35) := ⟨_, rfl⟩
  have hbV1 : Below V0.heap.size V0 V1 := by rw [hV1]; exact below_alloc _ _
  have hoL : Own V1 (zb + 1) 35 [.pointer none, .pointer (some ⟨zb, 0, none⟩)] := by rw [hV1, ← hsV]; exact heap_alloc_new V0 _
  have HBV := Lib.hid (HBq.out.trans ((hbV.trans (hbV1.mono hbV.size)).mono HBq.out.size))
  have HBV2 := Lib.hid (hbV.trans (hbV1.mono hbV.size))
  have HoL := Lib.hid hoL
  have HNul : Hid (Nul V1 (some ⟨zb, 0, none⟩)) := Lib.hid (.inr ⟨zb, rfl, ((hoV.below hbV1 hoV.lt).cell 4 (by simp))⟩)
  go_upto_region 10 with (fail)
  rw [← hzb, ← hV0, ← hV1]
  clear hV0 hV1 hzb hbV hbV1 hoL hoV hsV
  go_loopw [72] (fun kv wr => ∃ k : Nat, k ≤ 2 ∧ kv = .int .i64 k ∧ Below V1.heap.size V1 wr) (fun kv _ => 2 - (intOf kv).toNat)
  case atStart => exact ⟨0, by decide, rfl, Below.refl _ _⟩
  case round =>
    obtain ⟨k, hk, rfl, hb⟩ := hrel
    obtain ⟨w5, hw5⟩ : ∃ v, v = wr := ⟨_, rfl⟩
    subst hw5
    have HBk := Lib.hid hb
    clear hb
    by_cases hkm : k < 2
    · obtain ⟨ad, had, hnul⟩ : ∃ ad, w5.cell? ⟨zb + 1, k, none⟩ = some (.pointer ad) ∧ Nul V1 ad := by
        have ho := HoL.out.below HBk.out HoL.out.lt
        rcases (by omega : k = 0 ∨ k = 1) with e | e
        · subst e; exact ⟨none, ho.cell 0 (by simp), .inl rfl⟩
        · subst e; exact ⟨_, ho.cell 1 (by simp), HNul.out⟩
      have HN9 := Lib.hid (fun (V : World) (hb : Below V1.heap.size V1 V) => hnul.later hb)
      have HNx := Lib.hid (fun (V : World) (hb : Below V1.heap.size V1 V) => HNc.out V (HBV.out.trans (hb.mono HBV.out.size)))
      have k1 : (k : Int) < 2 := by omega
      have k2 : (0 : Int) ≤ (k : Int) := by omega
      obtain ⟨q0, q1, q2⟩ := HNx.out _ HBk.out
      have h1 := Lib.hid (statuses_nul ad d _ (HN9.out _ HBk.out))
      have h2 := Lib.hid (status_nul ad d _ (HN9.out _ HBk.out))
      have h3 := Lib.hid (greet_nul ad x _ (HN9.out _ HBk.out))
      have h4 := Lib.hid (answer_nul ad x d s _ (HN9.out _ HBk.out))
      unfold noteV noNote at h4
      clear hnul
      go_wp2_with fail
      with_reducible refine h1.out.mono ?_
      rintro e w' ⟨rfl, rfl⟩
      go_wp2_with fail
      with_reducible refine h2.out.mono ?_
      rintro e w' ⟨rfl, rfl⟩
      go_wp2_with fail
      with_reducible refine h3.out.mono ?_
      rintro e w' ⟨rfl, rfl⟩
      go_wp2_with fail
      with_reducible refine h4.out.mono ?_
      rintro e w6 ⟨rfl, hb⟩
      have HB6 := Lib.hid (HBk.out.trans (hb.mono HBk.out.size))
      obtain ⟨V6, hV6⟩ : ∃ V6, V6 = w6.alloc (.cells #[.int .u16 0, .int .u16 0, .int .u8 0] 54) := ⟨_, rfl⟩
      have HB7 : Hid (Below V1.heap.size V1 V6) := Lib.hid (by rw [hV6]; exact HB6.out.alloc HB6.out.size _)
      clear hb had q0 q1 q2 h1 h2 h3 h4
      obtain ⟨q0, q1, q2⟩ := HNx.out _ HB7.out
      have h5 := Lib.hid (up_nul ad x _ (HN9.out _ HB7.out))
      have h6 := Lib.hid (down_nul ad x _ (HN9.out _ HB7.out))
      have h7 := Lib.hid (hear_nul ad x d s _ (HN9.out _ HB7.out))
      unfold noteV at h7
      go_upto_region 16 with (fail)
      show Code.wp _ _ _ _ (w6.alloc (.cells #[.int .u16 0, .int .u16 0, .int .u8 0] 54))
      rw [← hV6]
      clear hV6
      go_wp2_with fail
      with_reducible refine h5.out.mono ?_
      rintro e w' ⟨rfl, rfl⟩
      go_wp2_with fail
      with_reducible refine h6.out.mono ?_
      rintro e w' ⟨rfl, rfl⟩
      go_wp2_with fail
      with_reducible refine h7.out.mono ?_
      rintro e w8 ⟨rfl, hb⟩
      have HB8 := Lib.hid (HB7.out.trans (hb.mono HB7.out.size))
      clear hb q0 q1 q2 h5 h6 h7
      have h8 := Lib.hid (tell_nul ad _ (HN9.out _ HB8.out))
      have h9 := Lib.hid (ask_nul ad _ (HN9.out _ HB8.out))
      go_wp2_with fail
      with_reducible refine h8.out.mono ?_
      rintro e w' ⟨rfl, rfl⟩
      go_wp2_with fail
      with_reducible refine h9.out.mono ?_
      rintro e w' ⟨rfl, rfl⟩
      go_wp2
      exact ⟨⟨k + 1, by omega, by go_num, HB8.out⟩, by simp [intOf]; omega⟩
    · obtain rfl : k = 2 := by omega
      have HBz := Lib.hid (HBV.out.trans (HBk.out.mono HBV.out.size))
      have HBw := Lib.hid (HBV2.out.trans (HBk.out.mono HBV2.out.size))
      clear HBk
      go_wp2_with fail
      with_reducible refine (HLv.out _).mono ?_
      rintro e w9 ⟨rfl, hb⟩
      have HEnd := Lib.hid (HB.out.trans ((HBz.out.trans (hb.mono HBz.out.size)).mono HB.out.size))
      clear hb
      go_wp2
      go_ret
      exact ⟨rfl, HEnd.out⟩
end Go.Proofs.Ytdjmopipmeonlaa
