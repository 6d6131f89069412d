import Derived.Test.YtdjmopipmeonlaaTpRel
import Derived.Deep.Cut
import Derived.Deep.MidRow
import Derived.Deep.CutBlock
import Derived.BigQuiet
import Derived.Deep.RegionHeld3
import Derived.Deep.RegionLaw
import Derived.BigRegion
import Derived.IntWalk
/- TransfersPlay: whatever is done with a table, its results and statuses are those of the definition. -/
namespace Go.Proofs.Ytdjmopipmeonlaa
set_option linter.unusedVariables false
open Go.RowKit Go.Maps

set_option maxRecDepth 100000 in
set_option maxHeartbeats 8000000 in
theorem play_walk (x : Nn) (s : Option Addr) (c : Nat) (z : Int) (a9 : Option Addr) (n9 c9 : Nat) (l9 : List (Nat × Nat × Nat × Nat)) (w : World) (hx : NnAt w x s c) (hz : (Lit.int .u8 z).wf = true) (hw9 : QRow w a9 n9 c9 l9) : Calls Try.prog 3 #[nnV x s c, .int .u8 z, .slice a9 n9 c9] w fun e w' => e = .returned (.bool true) ∧ Below w.heap.size w w' := by
  obtain ⟨zn, rfl, hz9⟩ := oc_nat (show Oc z from hz)
  have hm9 := hw9.max
  have hle9 := hw9.le
  unfold maxLen at hm9
  have HW9 := Lib.hid hw9
  clear hw9
  have hOf := fun (W : World) (h : NnAt W x s c) => of_any x s c W h
  obtain ⟨p0, hp0⟩ : ∃ p, p = x.codes.getD 0 0 := ⟨_, rfl⟩
  obtain ⟨p1, hp1⟩ : ∃ p, p = x.codes.getD 1 0 := ⟨_, rfl⟩
  obtain ⟨p2, hp2⟩ : ∃ p, p = x.codes.getD 2 0 := ⟨_, rfl⟩
  obtain ⟨p3, hp3⟩ : ∃ p, p = x.codes.getD 3 0 := ⟨_, rfl⟩
  obtain ⟨p4, hp4⟩ : ∃ p, p = x.codes.getD 4 0 := ⟨_, rfl⟩
  obtain ⟨p5, hp5⟩ : ∃ p, p = x.codes.getD 5 0 := ⟨_, rfl⟩
  obtain ⟨t0, ht0⟩ : ∃ p, p = x.tree.getD 0 0 := ⟨_, rfl⟩
  obtain ⟨t1, ht1⟩ : ∃ p, p = x.tree.getD 1 0 := ⟨_, rfl⟩
  obtain ⟨t2, ht2⟩ : ∃ p, p = x.tree.getD 2 0 := ⟨_, rfl⟩
  obtain ⟨t3, ht3⟩ : ∃ p, p = x.tree.getD 3 0 := ⟨_, rfl⟩
  obtain ⟨t4, ht4⟩ : ∃ p, p = x.tree.getD 4 0 := ⟨_, rfl⟩
  obtain ⟨t5, ht5⟩ : ∃ p, p = x.tree.getD 5 0 := ⟨_, rfl⟩
  obtain ⟨m, hm⟩ : ∃ m, m = x.extra.length := ⟨_, rfl⟩
  have HCs : Hid (nnCells x s m c = [.int .u8 (x.many : Nat), .int .u8 (p0 : Nat), .int .u8 (p1 : Nat), .int .u8 (p2 : Nat), .int .u8 (p3 : Nat), .int .u8 (p4 : Nat), .int .u8 (p5 : Nat), .int .u8 (x.ends : Nat), .int .u8 (t0 : Nat), .int .u8 (t1 : Nat), .int .u8 (t2 : Nat), .int .u8 (t3 : Nat), .int .u8 (t4 : Nat), .int .u8 (t5 : Nat), .slice s m c, .int .u8 (x.rate : Nat), .int .u8 (x.room : Nat), .int .u8 (x.k0 : Nat), .int .u8 (x.k1 : Nat)]) := Lib.hid (by unfold nnCells; rw [hp0, hp1, hp2, hp3, hp4, hp5, ht0, ht1, ht2, ht3, ht4, ht5])
  unfold nnV at hOf ⊢
  rw [← hm, HCs.out] at hOf
  rw [← hm, HCs.out]
  have HOf := Lib.hid hOf
  have HXn := Lib.hid hx
  have HL := Lib.hid lives_any
  clear hOf hx hm hp0 hp1 hp2 hp3 hp4 hp5 ht0 ht1 ht2 ht3 ht4 ht5
  by_cases h60 : 60 < n9
  · have k60 : decide ((60 : Int) < (n9 : Int)) = true := by simp; omega
    have k61 : decide (60 < n9) = true := by simp; omega
    go_enter Try.func3, Try.ntmps3
    go_upto_region 1 with (fail)
    obtain ⟨W0, hW0⟩ : ∃ W0, W0 = w.alloc (.cells #[.int .u8 (x.many : Nat), .int .u8 (p0 : Nat), .int .u8 (p1 : Nat), .int .u8 (p2 : Nat), .int .u8 (p3 : Nat), .int .u8 (p4 : Nat), .int .u8 (p5 : Nat), .int .u8 (x.ends : Nat), .int .u8 (t0 : Nat), .int .u8 (t1 : Nat), .int .u8 (t2 : Nat), .int .u8 (t3 : Nat), .int .u8 (t4 : Nat), .int .u8 (t5 : Nat), .slice s m c, .int .u8 (x.rate : Nat), .int .u8 (x.room : Nat), .int .u8 (x.k0 : Nat), .int .u8 (x.k1 : Nat)] 26) := ⟨_, rfl⟩
    have hB0 : Below w.heap.size w W0 := by rw [hW0]; exact below_alloc w _
    have ho0 : Own W0 w.heap.size 26 [.int .u8 (x.many : Nat), .int .u8 (p0 : Nat), .int .u8 (p1 : Nat), .int .u8 (p2 : Nat), .int .u8 (p3 : Nat), .int .u8 (p4 : Nat), .int .u8 (p5 : Nat), .int .u8 (x.ends : Nat), .int .u8 (t0 : Nat), .int .u8 (t1 : Nat), .int .u8 (t2 : Nat), .int .u8 (t3 : Nat), .int .u8 (t4 : Nat), .int .u8 (t5 : Nat), .slice s m c, .int .u8 (x.rate : Nat), .int .u8 (x.room : Nat), .int .u8 (x.k0 : Nat), .int .u8 (x.k1 : Nat)] := by rw [hW0]; exact heap_alloc_new w _
    rw [← hW0]
    have HB0 := Lib.hid hB0
    clear hW0 ho0 hB0
    go_wp2_with fail
    with_reducible refine (HL.out W0).mono ?_
    rintro e w1 ⟨rfl, hb⟩
    have HB1 := Lib.hid (HB0.out.trans (hb.mono HB0.out.size))
    clear hb
    go_wp2
    go_ret
    exact ⟨rfl, HB1.out⟩
  have k60 : decide ((60 : Int) < (n9 : Int)) = false := by simp; omega
  have k61 : decide (60 < n9) = false := by simp; omega
  go_enter Try.func3, Try.ntmps3
  go_upto_region 1 with (fail)
  obtain ⟨W0, hW0⟩ : ∃ W0, W0 = w.alloc (.cells #[.int .u8 (x.many : Nat), .int .u8 (p0 : Nat), .int .u8 (p1 : Nat), .int .u8 (p2 : Nat), .int .u8 (p3 : Nat), .int .u8 (p4 : Nat), .int .u8 (p5 : Nat), .int .u8 (x.ends : Nat), .int .u8 (t0 : Nat), .int .u8 (t1 : Nat), .int .u8 (t2 : Nat), .int .u8 (t3 : Nat), .int .u8 (t4 : Nat), .int .u8 (t5 : Nat), .slice s m c, .int .u8 (x.rate : Nat), .int .u8 (x.room : Nat), .int .u8 (x.k0 : Nat), .int .u8 (x.k1 : Nat)] 26) := ⟨_, rfl⟩
  have hB0 : Below w.heap.size w W0 := by rw [hW0]; exact below_alloc w _
  have ho0 : Own W0 w.heap.size 26 [.int .u8 (x.many : Nat), .int .u8 (p0 : Nat), .int .u8 (p1 : Nat), .int .u8 (p2 : Nat), .int .u8 (p3 : Nat), .int .u8 (p4 : Nat), .int .u8 (p5 : Nat), .int .u8 (x.ends : Nat), .int .u8 (t0 : Nat), .int .u8 (t1 : Nat), .int .u8 (t2 : Nat), .int .u8 (t3 : Nat), .int .u8 (t4 : Nat), .int .u8 (t5 : Nat), .slice s m c, .int .u8 (x.rate : Nat), .int .u8 (x.room : Nat), .int .u8 (x.k0 : Nat), .int .u8 (x.k1 : Nat)] := by rw [hW0]; exact heap_alloc_new w _
  rw [← hW0]
  have HRa := Lib.hid (range_own ho0)
  have HB0 := Lib.hid hB0
  clear hW0 ho0 hB0
  go_upto_region 3 with (fail)
  iterate 2 go_step
  refine wp_load_mid 26 (.tmp 3) (by rfl) w.heap.size 0 (by rfl) [.int .u8 (x.many : Nat), .int .u8 (p0 : Nat), .int .u8 (p1 : Nat), .int .u8 (p2 : Nat), .int .u8 (p3 : Nat), .int .u8 (p4 : Nat), .int .u8 (p5 : Nat), .int .u8 (x.ends : Nat), .int .u8 (t0 : Nat), .int .u8 (t1 : Nat), .int .u8 (t2 : Nat), .int .u8 (t3 : Nat), .int .u8 (t4 : Nat), .int .u8 (t5 : Nat), .slice s m c, .int .u8 (x.rate : Nat), .int .u8 (x.room : Nat), .int .u8 (x.k0 : Nat), .int .u8 (x.k1 : Nat)] _ HRa.out Try.underlying26 (by rfl) (by kernel_rfl) ?_
  go_wp2_with fail
  with_reducible refine (HOf.out _ (HXn.out.later HB0.out)).mono ?_
  rintro e w1 ⟨p, aP, n, cP, aL, m2, cL, hPF, rfl, hP, hL, hb⟩
  have hb0 : Below w.heap.size w w1 := HB0.out.trans (hb.mono HB0.out.size)
  obtain ⟨b, hbz⟩ : ∃ b, b = w1.heap.size := ⟨_, rfl⟩
  have hn2 := hPF.n2
  have hn6 := hPF.n6
  have hcap := hP.le
  have hcap2 := hP.max
  have hcap3 := hL.le
  have hcap4 := hL.max
  unfold maxLen at hcap2 hcap4
  have HPF := Lib.hid hPF
  clear HOf
  go_upto_region 4 with (fail)
  obtain ⟨W, hW⟩ : ∃ W, W = w1.alloc (.cells #[.slice aP n cP, .slice aL m2 cL, .int .i64 p.rate, .int .i64 p.room, .int .i64 p.m0, .int .i64 p.m1, .int .i64 p.m2] 33) := ⟨_, rfl⟩
  have hst : St w p b aP n cP aL m2 cL W := by rw [hW, hbz]; exact St.new hP hL hb0
  rw [← hW, ← hbz]
  obtain ⟨g0, g1, g2, g3, g4, g5, g6⟩ := hst.box.cells
  have HS := Lib.hid hst
  clear hP hL hb hb0 hW hbz hPF
  obtain ⟨q, hq⟩ : ∃ q, q = zn % n := ⟨_, rfl⟩
  have hqn : q < n := by rw [hq]; exact Nat.mod_lt _ (by omega)
  have rq : (zn : Int).tmod (n : Int) = (q : Int) := by rw [hq, Int.tmod_eq_emod_of_nonneg (by omega)]; simp
  have sq : (zn : Int) % (n : Int) = (q : Int) := by rw [hq]; simp
  obtain ⟨b2, off, rfl, hcs⟩ := hst.code (by omega)
  have v0 := (hcs q hqn).1
  have k1 : ¬ (n : Int) = 0 := by omega
  have k2 : ((n : Int) == 0) = false := by simpa using k1
  have k3 : ¬ n = 0 := by omega
  have k4 : (n == 0) = false := by simpa using k3
  have i0 : (0 : Int) ≤ (q : Int) := by omega
  have i1 : (q : Int) < (n : Int) := by omega
  have t2 : IntKind.i64.wrap (zn : Int) = (zn : Int) := IntWalk.i64_in _ (by omega)
  have t3 : IntKind.i64.wrap (q : Int) = (q : Int) := IntWalk.i64_in _ (by omega)
  clear hst hcs hq
  go_upto_region 5 with (fail)
  obtain ⟨t, ht⟩ : ∃ t, t = pc p.P q := ⟨_, rfl⟩
  rw [← ht] at v0
  have hN := new_p HPF.out hqn (some ⟨b2, off, none⟩) cP aL cL W.drew (HS.out.row.later (below_draw W 1)) (HS.out.lrow.later (below_draw W 1))
  rw [← ht] at hN
  unfold planV at hN
  have HN := Lib.hid hN
  have HT := Lib.hid ht
  clear hN ht rq sq t2 t3 k1 k2 k3 k4
  go_region_held3 (fun w' => w'.cell? ⟨b, 0, none⟩ = some (.slice (some ⟨b2, off, none⟩) n cP) ∧ w'.cell? ⟨b, 1, none⟩ = some (.slice aL m2 cL) ∧ w'.cell? ⟨b, 2, none⟩ = some (.int .i64 p.rate) ∧ w'.cell? ⟨b, 3, none⟩ = some (.int .i64 p.room) ∧ w'.cell? ⟨b, 4, none⟩ = some (.int .i64 p.m0) ∧ w'.cell? ⟨b, 5, none⟩ = some (.int .i64 p.m1) ∧ w'.cell? ⟨b, 6, none⟩ = some (.int .i64 p.m2) ∧ w'.cell? ⟨b2, off + q * 2, none⟩ = some (.int .u16 t)) (first | exact HKp.out | (go_keep; done))
    (first
      | ((with_reducible refine HN.out.mono ?_); rintro e w4 ⟨y, T, rfl, htb, hI, hu, hto, hsa, hnt, hb⟩; have hst4 := (HS.out.later (below_draw W 1)).later hb; obtain ⟨g0, g1, g2, g3, g4, g5, g6⟩ := hst4.box.cells; obtain ⟨b4, off4, hab, hcs⟩ := hst4.code (by omega); cases hab; have v1 := (hcs q hqn).1; rw [← HT.out] at v1; have HKp := Lib.hid (And.intro g0 (And.intro g1 (And.intro g2 (And.intro g3 (And.intro g4 (And.intro g5 (And.intro g6 v1))))))); have HS4 := Lib.hid hst4; have HTb := Lib.hid (And.intro htb (And.intro hI (And.intro hu (And.intro hto (And.intro hsa (And.intro hnt hb)))))); clear hst4 htb hI hu hto hsa hnt hb hcs v1)
      | fail)
  clear HN
  obtain ⟨g0, g1, g2, g3, g4, g5, g6, _⟩ := HKp.out
  have hBg := begin_any HPF.out hqn (some ⟨b2, off, none⟩) cP aL cL w4 HS4.out.row HS4.out.lrow
  unfold planV at hBg
  have HBg := Lib.hid hBg
  clear hBg HKp
  go_wp2_with fail
  with_reducible refine HBg.out.mono ?_
  rintro e w5 ⟨mb, rfl, hmb, hmd, hb5⟩
  have hst5 := HS4.out.later hb5
  have hmw : MW w5 mb (some ⟨b2, off, none⟩) n cP aL m2 cL p q T := MW.begin HPF.out HTb.out.2.1 HTb.out.2.2.1 HTb.out.2.2.2.1 HTb.out.2.2.2.2.1 hmd hst5.row hst5.lrow
  have hnt := HTb.out.2.2.2.2.2.1
  have hbW : Below W.heap.size W w4 := (below_draw W 1).trans HTb.out.2.2.2.2.2.2
  have hWd : W.drew.heap.size = W.heap.size := rfl
  have hlb : ∀ z, aL = some z → z.block < W.heap.size := fun z hz => by
    obtain ⟨b9, o9, e9, h9⟩ := HS.out.lrow.cells.resolve_left (by have := HPF.out.mpos; omega)
    rw [hz] at e9; cases e9
    exact World.block_lt_of_cell? _ _ (h9 0 HPF.out.mpos).1
  have hpb : b2 < W.heap.size := by
    obtain ⟨b9, o9, e9, h9⟩ := HS.out.row.cells.resolve_left (by omega)
    cases e9
    exact World.block_lt_of_cell? _ _ (h9 0 (by omega)).1
  have hfx : PlFix W y mb (some ⟨b2, off, none⟩) aL := ⟨hnt.bu, hnt.bt, hnt.bs, by rw [hnt.hi]; exact hmb, Nat.le_trans hbW.size hmb, fun z hz => by cases hz; exact hpb, hlb⟩
  have hpl : PlAt W w5 y mb (some ⟨b2, off, none⟩) n cP aL m2 cL p q T := ⟨HTb.out.2.1, HTb.out.1.below hb5, hmw, hbW.trans (hb5.mono hbW.size)⟩
  have HFx := Lib.hid hfx
  have HPl := Lib.hid hpl
  have HQr := Lib.hid (HW9.out.later HS.out.bel)
  have hlen9 := HW9.out.len
  have HLen := Lib.hid hlen9
  clear hst5 hmw hnt hbW hWd hlb hpb hfx hpl hmd hmb hb5 HTb HBg HS4 g0 g1 g2 g3 g4 g5 g6 hlen9
  go_wp2_with fail
  go_loopw [12] (fun v wr => ∃ (i : Nat) (T : Tb), i ≤ n9 ∧ v = .int .i64 i ∧ PlAt W wr y mb (some ⟨b2, off, none⟩) n cP aL m2 cL p q T) (fun v _ => n9 - (intOf v).toNat)
  case atStart => exact ⟨0, T, Nat.zero_le _, rfl, HPl.out⟩
  case round =>
    obtain ⟨i, T, hi, rfl, hpl⟩ := hrel
    clear HPl
    have HPl := Lib.hid hpl
    by_cases hin : i < n9
    · have hst6 := HS.out.later hpl.bel
      obtain ⟨b9, off9, rfl, hq9⟩ := (HQr.out.later hpl.bel).cells.resolve_left (by omega)
      obtain ⟨c0, c1, c2, c3⟩ := hq9 i hin
      obtain ⟨x0, hx0⟩ : ∃ v, v = (l9.getD i (0, 0, 0, 0)).1 := ⟨_, rfl⟩
      obtain ⟨x1, hx1⟩ : ∃ v, v = (l9.getD i (0, 0, 0, 0)).2.1 := ⟨_, rfl⟩
      obtain ⟨x2, hx2⟩ : ∃ v, v = (l9.getD i (0, 0, 0, 0)).2.2.1 := ⟨_, rfl⟩
      obtain ⟨x3, hx3⟩ : ∃ v, v = (l9.getD i (0, 0, 0, 0)).2.2.2 := ⟨_, rfl⟩
      rw [← hx0] at c0
      rw [← hx1] at c1
      rw [← hx2] at c2
      rw [← hx3] at c3
      have hoc : x0 ≤ 255 ∧ x1 ≤ 255 ∧ x2 ≤ 255 ∧ x3 ≤ 255 := by
        rw [hx0, hx1, hx2, hx3]
        exact HQr.out.wf _ (by rw [List.getD_eq_getElem?_getD, List.getElem?_eq_getElem (by rw [HLen.out]; exact hin)]; exact List.getElem_mem _)
      obtain ⟨o0, o1, o2, o3⟩ := hoc
      have hdo := do_any HPF.out hpl.inv hqn mb _ cP aL cL HFx.out.apart x0 x1 x2 x3 o0 o1 o2 o3 wr hpl.mw
      have hI' := hpl.inv.act HPF.out hqn x0 x1 x2 x3
      obtain ⟨R, hR⟩ : ∃ R, R = actM T p.P q n x0 x1 x2 x3 := ⟨_, rfl⟩
      rw [← hR] at hdo hI'
      unfold actV at hdo
      have HDo := Lib.hid hdo
      have HR := Lib.hid hR
      have HI' := Lib.hid hI'
      have HXs := Lib.hid (And.intro hx0.symm (And.intro hx1.symm (And.intro hx2.symm hx3.symm)))
      have i0 : (0 : Int) ≤ (i : Int) := by omega
      have i1 : (i : Int) < (n9 : Int) := by omega
      clear hdo hI' hR hq9 hst6 hx0 hx1 hx2 hx3 hpl
      go_wp2_with fail
      with_reducible refine HDo.out.mono ?_
      rintro e w6 ⟨aw, cw, rfl, hnr, hmw6, hx6, hfr6⟩
      have hdid := HPl.out.did HFx.out hx6
      have hst6 := HS.out.later hdid.2
      have hcel := (HQr.out.later hdid.2).cells.resolve_left (by omega)
      obtain ⟨b8, off8, e8, hq8⟩ := hcel
      cases e8
      obtain ⟨g0, g1, g2, g3, g4, g5, g6⟩ := hst6.box.cells
      have hd0 : w6.cell? ⟨b9, off9 + i * 4, none⟩ = some (.int .u8 (x0 : Int)) := by rw [(hq8 i hin).1, HXs.out.1]
      have hd1 : w6.cell? ⟨b9, off9 + i * 4 + 1, none⟩ = some (.int .u8 (x1 : Int)) := by rw [(hq8 i hin).2.1, HXs.out.2.1]
      have hd2 : w6.cell? ⟨b9, off9 + i * 4 + 2, none⟩ = some (.int .u8 (x2 : Int)) := by rw [(hq8 i hin).2.2.1, HXs.out.2.2.1]
      have hd3 : w6.cell? ⟨b9, off9 + i * 4 + 3, none⟩ = some (.int .u8 (x3 : Int)) := by rw [(hq8 i hin).2.2.2, HXs.out.2.2.2]
      have hplay := play_any HPF.out HPl.out.inv hqn (some ⟨b2, off, none⟩) cP aL cL x0 x1 x2 x3 o0 o1 o2 o3 w6.drew (hst6.row.later (below_draw w6 1)) (hdid.1.below (below_draw w6 1))
      rw [← HR.out] at hplay
      unfold planV actV at hplay
      obtain ⟨X, E, T'⟩ := R
      dsimp only at hplay hnr hmw6
      obtain ⟨N, hN⟩ : ∃ N, N = X.length := ⟨_, rfl⟩
      rw [← hN] at hnr
      have HPy := Lib.hid hplay
      have HN := Lib.hid hN
      have HD6 := Lib.hid (And.intro hdid (And.intro hnr (And.intro hmw6 hfr6)))
      dsimp only at HI'
      have HX6 := Lib.hid hx6
      dsimp only
      rw [← hN]
      clear hdid hst6 hq8 hplay hN hnr hmw6 hfr6 hx6 c0 c1 c2 c3 HDo
      go_wp2_with fail
      go_region_held3 (fun w' => w'.cell? ⟨b, 0, none⟩ = some (.slice (some ⟨b2, off, none⟩) n cP) ∧ w'.cell? ⟨b, 1, none⟩ = some (.slice aL m2 cL) ∧ w'.cell? ⟨b, 2, none⟩ = some (.int .i64 p.rate) ∧ w'.cell? ⟨b, 3, none⟩ = some (.int .i64 p.room) ∧ w'.cell? ⟨b, 4, none⟩ = some (.int .i64 p.m0) ∧ w'.cell? ⟨b, 5, none⟩ = some (.int .i64 p.m1) ∧ w'.cell? ⟨b, 6, none⟩ = some (.int .i64 p.m2) ∧ w'.cell? ⟨b9, off9 + i * 4, none⟩ = some (.int .u8 (x0 : Int)) ∧ w'.cell? ⟨b9, off9 + i * 4 + 1, none⟩ = some (.int .u8 (x1 : Int)) ∧ w'.cell? ⟨b9, off9 + i * 4 + 2, none⟩ = some (.int .u8 (x2 : Int)) ∧ w'.cell? ⟨b9, off9 + i * 4 + 3, none⟩ = some (.int .u8 (x3 : Int))) (first | exact HKp.out | (go_keep; done))
        (first
          | ((with_reducible refine HPy.out.mono ?_); rintro e w7 ⟨ag, rfl, hng, htb7, hx7⟩; have hpl7 := PlAt.played HI'.out (HD6.out.2.2.1.below (below_draw w6 1)) (HD6.out.1.2.trans ((below_draw w6 1).mono HD6.out.1.2.size)) HFx.out htb7 hx7; have hst7 := HS.out.later hpl7.bel; obtain ⟨b8, off8, e8, hq8⟩ := (HQr.out.later hpl7.bel).cells.resolve_left (by omega); cases e8; obtain ⟨g0, g1, g2, g3, g4, g5, g6⟩ := hst7.box.cells; have he0 : w7.cell? ⟨b9, off9 + i * 4, none⟩ = some (.int .u8 (x0 : Int)) := by rw [(hq8 i hin).1, HXs.out.1]
             have he1 : w7.cell? ⟨b9, off9 + i * 4 + 1, none⟩ = some (.int .u8 (x1 : Int)) := by rw [(hq8 i hin).2.1, HXs.out.2.1]
             have he2 : w7.cell? ⟨b9, off9 + i * 4 + 2, none⟩ = some (.int .u8 (x2 : Int)) := by rw [(hq8 i hin).2.2.1, HXs.out.2.2.1]
             have he3 : w7.cell? ⟨b9, off9 + i * 4 + 3, none⟩ = some (.int .u8 (x3 : Int)) := by rw [(hq8 i hin).2.2.2, HXs.out.2.2.2]
             have HKp := Lib.hid (And.intro g0 (And.intro g1 (And.intro g2 (And.intro g3 (And.intro g4 (And.intro g5 (And.intro g6 (And.intro he0 (And.intro he1 (And.intro he2 he3))))))))))
             have HP7 := Lib.hid (And.intro hpl7 (And.intro hng hx7)); rw [← HN.out]; clear hng htb7 hx7 hpl7 hst7 hq8)
          | fail)
      obtain ⟨hpl7, hng, hx7⟩ := HP7.out
      have hnw7 : NRow w7 aw N cw X := (HD6.out.2.1.later (below_draw w6 1)).big hx7 HD6.out.2.2.2 (by
        have h1 := HPl.out.tb.fix.hb
        have h2 := HPl.out.tb.fix.hi
        omega)
      rw [← HN.out] at hng
      have hN63 : N ≤ maxLen := Nat.le_trans hng.le hng.max
      unfold maxLen at hN63
      have HR7 := Lib.hid (And.intro hng hnw7)
      have HP8 := Lib.hid hpl7
      have f0 := HKp.out.2.2.2.2.2.2.2.1
      clear g0 g1 g2 g3 g4 g5 g6 hd0 hd1 hd2 hd3 he0 he1 he2 he3 hpl7 hng hx7 hnw7 HP7
      have qE : (E != E) = false := by simp
      have qN : ((N : Int) != (N : Int)) = false := by simp
      go_upto_region 14 with (fail)
      go_cut [121] from 53 to 206 (fun v wx => v = .bool false ∧ Below w7.heap.size w7 wx)
      case first =>
        rcases Nat.eq_zero_or_pos N with h0 | h0
        · subst h0
          go_quiet (fail)
          go_wp2_with fail
          go_meet
          exact ⟨rfl, below_draw w7 _⟩
        · obtain ⟨gg, rfl, _, hgc⟩ := HR7.out.1.at h0
          obtain ⟨gw, rfl, _, hwc⟩ := HR7.out.2.at h0
          obtain ⟨a0, a1, a2⟩ := hgc 0 h0
          obtain ⟨d0, d1, d2⟩ := hwc 0 h0
          generalize (X.getD 0 (0, 0, 0)).1 = u0 at a0 d0
          generalize (X.getD 0 (0, 0, 0)).2.1 = u1 at a1 d1
          generalize (X.getD 0 (0, 0, 0)).2.2 = u2 at a2 d2
          have r0 : (u0 == u0) = true := by simp
          have r1 : (u1 == u1) = true := by simp
          have r2 : (u2 == u2) = true := by simp
          have n0 : (0 : Int) < (N : Int) := by omega
          have n1 : decide (0 < N) = true := by simp; omega
          clear hgc hwc
          by_cases h6 : x0 % 7 = 6
          · have e6 : (x0 : Int) % 7 = 6 := by omega
            have e7 : ((x0 : Int) % 7 != 6) = false := by rw [e6]; rfl
            have e8 : (x0 : Int).tmod 7 = 6 := by rw [Int.tmod_eq_emod_of_nonneg (by omega)]; exact e6
            clear h6
            go_quiet (fail)
            go_wp2_with fail
            go_meet
            exact ⟨rfl, below_draw w7 _⟩
          · obtain ⟨r7, hr7⟩ : ∃ r, r = x0 % 7 := ⟨_, rfl⟩
            have e6 : (x0 : Int) % 7 = (r7 : Int) := by omega
            have e8 : (x0 : Int).tmod 7 = (r7 : Int) := by rw [Int.tmod_eq_emod_of_nonneg (by omega)]; exact e6
            have e10 : IntKind.u8.wrap (r7 : Int) = (r7 : Int) := IntWalk.u8_in _ (by omega)
            have e7 : ((r7 : Int) != 6) = true := by rw [bne_iff_ne]; omega
            clear hr7
            have HSm := Lib.hid (same_yes (show NRow w7.drew _ N N X from HR7.out.1.later (below_draw w7 1)) (show NRow w7.drew _ N cw X from HR7.out.2.later (below_draw w7 1)))
            simp only [Nat.zero_mul, Nat.zero_add] at a0 a1 a2 d0 d1 d2
            have hl0 := World.block_lt_of_cell? w7 _ f0
            have hl1 := World.block_lt_of_cell? w7 _ a0
            have hl2 := World.block_lt_of_cell? w7 _ d0
            have HKq := Lib.hid (fun (V : World) (hV : Below w7.heap.size w7 V) => And.intro ((hV.cell hl0).trans f0) (And.intro ((hV.cell hl1).trans a0) (And.intro ((hV.cell (p := ⟨gg, 1, none⟩) hl1).trans a1) (And.intro ((hV.cell (p := ⟨gg, 2, none⟩) hl1).trans a2) (And.intro ((hV.cell hl2).trans d0) (And.intro ((hV.cell (p := ⟨gw, 1, none⟩) hl2).trans d1) ((hV.cell (p := ⟨gw, 2, none⟩) hl2).trans d2)))))))
            have hb7 : Below w7.heap.size w7 w7.drew := below_draw w7 1
            clear h6 hl0 hl1 hl2
            go_region_held3 (fun V => V.cell? ⟨b9, off9 + i * 4, none⟩ = some (.int .u8 (x0 : Int)) ∧ V.cell? ⟨gg, 0, none⟩ = some (.int .u16 u0) ∧ V.cell? ⟨gg, 1, none⟩ = some (.int .u16 u1) ∧ V.cell? ⟨gg, 2, none⟩ = some (.int .u8 u2) ∧ V.cell? ⟨gw, 0, none⟩ = some (.int .u16 u0) ∧ V.cell? ⟨gw, 1, none⟩ = some (.int .u16 u1) ∧ V.cell? ⟨gw, 2, none⟩ = some (.int .u8 u2)) (first | exact HKq.out _ hb7 | exact HKq.out _ HB8.out | (go_keep; done))
              (first
                | ((with_reducible refine HSm.out.mono ?_); rintro e w8 ⟨rfl, hb⟩; have HB8 : Hid (Below w7.heap.size w7 w8) := Lib.hid (hb7.trans (hb.mono hb7.size)); clear hb)
                | fail)
            all_goals
              go_wp2_with fail
              go_meet
              exact ⟨rfl, HB8.out⟩
      case rest =>
        obtain ⟨rfl, hb⟩ := hcut
        have hplc := HP8.out.later hb
        have HPc := Lib.hid hplc
        have hst8 := HS.out.later hplc.bel
        obtain ⟨g0, g1, g2, g3, g4, g5, g6⟩ := hst8.box.cells
        clear hb HR7 HKp f0 qE qN HP8 HD6 HPy HPl hst8 hplc HX6
        go_wp2_with fail
        clear g0 g1 g2 g3 g4 g5 g6
        go_loopw [17] (fun v wr => ∃ k : Nat, k ≤ n ∧ v = .int .i64 k ∧ PlAt W wr y mb (some ⟨b2, off, none⟩) n cP aL m2 cL p q T') (fun v _ => n - (intOf v).toNat)
        case atStart => exact ⟨0, Nat.zero_le _, rfl, HPc.out⟩
        case round =>
          obtain ⟨k, hk, rfl, hpl⟩ := hrel
          clear HPc
          have HPk := Lib.hid hpl
          have hst9 := HS.out.later hpl.bel
          obtain ⟨g0, g1, g2, g3, g4, g5, g6⟩ := hst9.box.cells
          obtain ⟨b8, off8, e8, hcs⟩ := hst9.code (by omega)
          cases e8
          by_cases hkn : k < n
          · have v0 := (hcs k hkn).1
            obtain ⟨u, hu⟩ : ∃ u, u = pc p.P k := ⟨_, rfl⟩
            have HC := Lib.hid (status_p HPF.out hpl.inv hqn k hkn wr hpl.tb)
            obtain ⟨ST, hST⟩ : ∃ ST, ST = stP T' p q k := ⟨_, rfl⟩
            rw [← hu, ← hST] at HC
            rw [← hu] at v0
            have j0 : (0 : Int) ≤ (k : Int) := by omega
            have j1 : (k : Int) < (n : Int) := by omega
            have HST := Lib.hid (And.intro hST hu)
            clear hcs hst9 hu hST hpl
            go_wp2_with fail
            with_reducible refine HC.out.mono ?_
            rintro e w11 ⟨rfl, hb⟩
            have hpl := HPk.out.later hb
            have HM := Lib.hid (mstatus_p HPF.out hpl.inv hqn mb _ cP aL cL k hkn w11 hpl.mw)
            rw [← HST.out.1] at HM
            have HP11 := Lib.hid hpl
            have qS : (ST != ST) = false := by simp
            clear hpl hb HC g0 g1 g2 g3 g4 g5 g6 v0
            go_wp2_with fail
            with_reducible refine HM.out.mono ?_
            rintro e w12 ⟨rfl, hb⟩
            have hpl := HP11.out.later hb
            have hst9 := HS.out.later hpl.bel
            obtain ⟨g0, g1, g2, g3, g4, g5, g6⟩ := hst9.box.cells
            obtain ⟨b8, off8, e8, hcs⟩ := hst9.code (by omega)
            cases e8
            have v0 := (hcs k hkn).1
            rw [← HST.out.2] at v0
            have HP12 := Lib.hid hpl
            clear hb hcs hst9 HM HP11
            go_upto_region 22 with (fail)
            by_cases hkq : k = q
            · have HSs := Lib.hid (statuses_me w12 HP12.out.tb)
              rw [HP12.out.inv.me, ← hkq, ← HST.out.2] at HSs
              have qk : ((k : Int) == (q : Int)) = true := by rw [hkq]; simp
              have HKq2 := Lib.hid hkq
              clear hkq
              go_wp2_with fail
              with_reducible refine HSs.out.mono ?_
              rintro e w13 ⟨rfl, hb⟩
              have HP13 := Lib.hid (HP12.out.later hb)
              clear hb g0 g1 g2 g3 g4 g5 g6 v0
              go_wp2
              exact ⟨⟨k + 1, by omega, by go_num, HP13.out⟩, by simp [intOf]; omega⟩
            · obtain ⟨hD1, hD2⟩ := HP12.out.inv.memD HPF.out hqn hkn hkq
              have HSs := Lib.hid (statuses_ok _ w12 HP12.out.tb hD1 hD2)
              have HMs := Lib.hid (fun (V : World) (hV : PlAt W V y mb (some ⟨b2, off, none⟩) n cP aL m2 cL p q T') => mstatuses_any HPF.out hV.inv hqn mb _ cP aL cL k hkn hkq V hV.mw)
              rw [← HST.out.2] at HSs HMs
              have qk : ((k : Int) == (q : Int)) = false := by rw [beq_eq_false_iff_ne]; omega
              clear hkq hD1 hD2
              go_wp2_with fail
              with_reducible refine HSs.out.mono ?_
              rintro e w13 ⟨a13, rfl, hr13, hb⟩
              have hpl := HP12.out.later hb
              have HM13 := Lib.hid (HMs.out w13 hpl)
              obtain ⟨L, hL⟩ : ∃ L, L = T'.sts u := ⟨_, rfl⟩
              obtain ⟨Ln, hLn⟩ : ∃ n, n = L.length := ⟨_, rfl⟩
              rw [← hL, ← hLn] at hr13
              rw [← hL, ← hLn]
              have HP13 := Lib.hid hpl
              have HR13 := Lib.hid hr13
              have HLn := Lib.hid (And.intro hL hLn)
              clear hb hpl hr13 hL hLn HSs HMs g0 g1 g2 g3 g4 g5 g6 v0
              go_wp2_with fail
              with_reducible refine HM13.out.mono ?_
              rintro e w14 ⟨a14, c14, a15, rfl, hr14, _, hb⟩
              have hpl := HP13.out.later hb
              have hr13 := HR13.out.later hb
              rw [← HLn.out.1, ← HLn.out.2] at hr14
              rw [← HLn.out.1, ← HLn.out.2]
              have hLx := hr13.le
              have hLy := hr13.max
              unfold maxLen at hLy
              have hLz := hr14.le
              have HP14 := Lib.hid hpl
              have HRr := Lib.hid (And.intro hr13 hr14)
              have qL : ((Ln : Int) != (Ln : Int)) = false := by simp
              clear hb hpl hr13 hr14 HM13 HR13 HP13
              go_wp2_with fail
              go_loopw [24] (fun v wr => ∃ j : Nat, j ≤ Ln ∧ v = .int .i64 j ∧ Below w14.heap.size w14 wr) (fun v _ => Ln - (intOf v).toNat)
              case atStart => exact ⟨0, Nat.zero_le _, rfl, Below.refl _ _⟩
              case round =>
                obtain ⟨j, hj, rfl, hb⟩ := hrel
                have HBj := Lib.hid hb
                by_cases hjn : j < Ln
                · obtain ⟨b13, o13, rfl, hc13⟩ := (HRr.out.1.later hb).cells.resolve_left (by omega)
                  obtain ⟨b14, o14, rfl, hc14⟩ := (HRr.out.2.later hb).cells.resolve_left (by omega)
                  have v1 := hc13 j hjn
                  have v2 := hc14 j hjn
                  obtain ⟨sv, hsv⟩ : ∃ sv, sv = L.getD j 0 := ⟨_, rfl⟩
                  rw [← hsv] at v1 v2
                  have j2 : (0 : Int) ≤ (j : Int) := by omega
                  have j3 : (j : Int) < (Ln : Int) := by omega
                  have qs : (sv != sv) = false := by simp
                  clear hc13 hc14 hsv hb
                  go_wp2_with fail
                  go_quiet (fail)
                  go_wp2
                  exact ⟨⟨j + 1, by omega, by go_num, HBj.out.trans ((below_draw _ _).mono HBj.out.size)⟩, by simp [intOf]; omega⟩
                · obtain rfl : j = Ln := by omega
                  have HP15 := Lib.hid (HP14.out.later hb)
                  clear hb
                  go_wp2
                  exact ⟨⟨k + 1, by omega, by go_num, HP15.out⟩, by simp [intOf]; omega⟩
          · obtain rfl : k = n := by omega
            clear hcs hst9 hpl
            go_wp2
            exact ⟨⟨i + 1, T', by omega, by go_num, HPk.out⟩, by simp [intOf]; omega⟩
    · obtain rfl : i = n9 := by omega
      have HBe := Lib.hid (HS.out.bel.trans (hpl.bel.mono HS.out.bel.size))
      clear hpl
      go_wp2_with fail
      with_reducible refine (HL.out _).mono ?_
      rintro e w9 ⟨rfl, hb⟩
      have HB9 := Lib.hid (HBe.out.trans (hb.mono HBe.out.size))
      clear hb
      go_wp2
      go_ret
      exact ⟨rfl, HB9.out⟩
end Go.Proofs.Ytdjmopipmeonlaa
