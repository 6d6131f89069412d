/- The walk of PlansFall. -/
import Derived.Test.YtekaedmhdoijeaaPlFall
import Derived.Test.YtekaedmhdoijeaaPlLives
import Derived.Test.YtekaedmhdoijeaaPlDis
import Derived.Deep.Cut
import Derived.Deep.MidRow
import Derived.Deep.CutBlock
import Derived.BigQuiet
import Derived.Deep.RegionHeld3
import Derived.Deep.RegionLaw
import Derived.BigRegion
import Derived.IntWalk
namespace Go.Proofs.Ytekaedmhdoijeaa
open Go.RowKit

set_option maxRecDepth 100000 in
set_option maxHeartbeats 8000000 in
theorem fall_walk (x : Nn) (s : Option Addr) (c : Nat) (z : Int) (a9 : Option Addr) (n9 c9 : Nat) (l9 : List Int) (w : World) (hx : NnAt w x s c) (hz : (Lit.int .u8 z).wf = true) (hw9 : Row .u8 w a9 n9 c9 l9) : Calls Try.prog 8 #[nnV x s c, .int .u8 z, .slice a9 n9 c9] w fun e w' => e = .returned (.bool true) ∧ Below w.heap.size w w' := by
  obtain ⟨zn, rfl, hz9⟩ := oc_nat (show Oc z from hz)
  have hm9 := hw9.max
  have hle9 := hw9.le
  unfold maxLen at hm9
  have HW9 := Lib.hid hw9
  clear hw9
  have hOf := fun (W : World) (h : NnAt W x s c) => of_any x s c W h
  obtain ⟨p0, hp0⟩ : ∃ p, p = x.codes.getD 0 0 := ⟨_, rfl⟩
  obtain ⟨p1, hp1⟩ : ∃ p, p = x.codes.getD 1 0 := ⟨_, rfl⟩
  obtain ⟨p2, hp2⟩ : ∃ p, p = x.codes.getD 2 0 := ⟨_, rfl⟩
  obtain ⟨p3, hp3⟩ : ∃ p, p = x.codes.getD 3 0 := ⟨_, rfl⟩
  obtain ⟨p4, hp4⟩ : ∃ p, p = x.codes.getD 4 0 := ⟨_, rfl⟩
  obtain ⟨p5, hp5⟩ : ∃ p, p = x.codes.getD 5 0 := ⟨_, rfl⟩
  obtain ⟨t0, ht0⟩ : ∃ p, p = x.tree.getD 0 0 := ⟨_, rfl⟩
  obtain ⟨t1, ht1⟩ : ∃ p, p = x.tree.getD 1 0 := ⟨_, rfl⟩
  obtain ⟨t2, ht2⟩ : ∃ p, p = x.tree.getD 2 0 := ⟨_, rfl⟩
  obtain ⟨t3, ht3⟩ : ∃ p, p = x.tree.getD 3 0 := ⟨_, rfl⟩
  obtain ⟨t4, ht4⟩ : ∃ p, p = x.tree.getD 4 0 := ⟨_, rfl⟩
  obtain ⟨t5, ht5⟩ : ∃ p, p = x.tree.getD 5 0 := ⟨_, rfl⟩
  obtain ⟨m, hm⟩ : ∃ m, m = x.extra.length := ⟨_, rfl⟩
  have HCs : Hid (nnCells x s m c = [.int .u8 (x.many : Nat), .int .u8 (p0 : Nat), .int .u8 (p1 : Nat), .int .u8 (p2 : Nat), .int .u8 (p3 : Nat), .int .u8 (p4 : Nat), .int .u8 (p5 : Nat), .int .u8 (x.ends : Nat), .int .u8 (t0 : Nat), .int .u8 (t1 : Nat), .int .u8 (t2 : Nat), .int .u8 (t3 : Nat), .int .u8 (t4 : Nat), .int .u8 (t5 : Nat), .slice s m c, .int .u8 (x.rate : Nat), .int .u8 (x.room : Nat), .int .u8 (x.k0 : Nat), .int .u8 (x.k1 : Nat)]) := Lib.hid (by unfold nnCells; rw [hp0, hp1, hp2, hp3, hp4, hp5, ht0, ht1, ht2, ht3, ht4, ht5])
  unfold nnV at hOf ⊢
  rw [← hm, HCs.out] at hOf
  rw [← hm, HCs.out]
  have HOf := Lib.hid hOf
  have HXn := Lib.hid hx
  have HL := Lib.hid lives_any
  clear hOf hx hm hp0 hp1 hp2 hp3 hp4 hp5 ht0 ht1 ht2 ht3 ht4 ht5
  go_enter Try.func8, Try.ntmps8
  go_upto_region 1 with (fail)
  obtain ⟨W0, hW0⟩ : ∃ W0, W0 = w.alloc (.cells #[.int .u8 (x.many : Nat), .int .u8 (p0 : Nat), .int .u8 (p1 : Nat), .int .u8 (p2 : Nat), .int .u8 (p3 : Nat), .int .u8 (p4 : Nat), .int .u8 (p5 : Nat), .int .u8 (x.ends : Nat), .int .u8 (t0 : Nat), .int .u8 (t1 : Nat), .int .u8 (t2 : Nat), .int .u8 (t3 : Nat), .int .u8 (t4 : Nat), .int .u8 (t5 : Nat), .slice s m c, .int .u8 (x.rate : Nat), .int .u8 (x.room : Nat), .int .u8 (x.k0 : Nat), .int .u8 (x.k1 : Nat)] 40) := ⟨_, rfl⟩
  have hB0 : Below w.heap.size w W0 := by rw [hW0]; exact below_alloc w _
  have ho0 : Own W0 w.heap.size 40 [.int .u8 (x.many : Nat), .int .u8 (p0 : Nat), .int .u8 (p1 : Nat), .int .u8 (p2 : Nat), .int .u8 (p3 : Nat), .int .u8 (p4 : Nat), .int .u8 (p5 : Nat), .int .u8 (x.ends : Nat), .int .u8 (t0 : Nat), .int .u8 (t1 : Nat), .int .u8 (t2 : Nat), .int .u8 (t3 : Nat), .int .u8 (t4 : Nat), .int .u8 (t5 : Nat), .slice s m c, .int .u8 (x.rate : Nat), .int .u8 (x.room : Nat), .int .u8 (x.k0 : Nat), .int .u8 (x.k1 : Nat)] := by rw [hW0]; exact heap_alloc_new w _
  rw [← hW0]
  have HRa := Lib.hid (range_own ho0)
  have HB0 := Lib.hid hB0
  clear hW0 ho0 hB0
  iterate 2 go_step
  refine wp_load_mid 40 (.tmp 3) (by rfl) w.heap.size 0 (by rfl) [.int .u8 (x.many : Nat), .int .u8 (p0 : Nat), .int .u8 (p1 : Nat), .int .u8 (p2 : Nat), .int .u8 (p3 : Nat), .int .u8 (p4 : Nat), .int .u8 (p5 : Nat), .int .u8 (x.ends : Nat), .int .u8 (t0 : Nat), .int .u8 (t1 : Nat), .int .u8 (t2 : Nat), .int .u8 (t3 : Nat), .int .u8 (t4 : Nat), .int .u8 (t5 : Nat), .slice s m c, .int .u8 (x.rate : Nat), .int .u8 (x.room : Nat), .int .u8 (x.k0 : Nat), .int .u8 (x.k1 : Nat)] _ HRa.out Try.underlying40 (by rfl) (by kernel_rfl) ?_
  go_wp2_with fail
  with_reducible refine (HOf.out _ (HXn.out.later HB0.out)).mono ?_
  rintro e w1 ⟨p, aP, n, cP, aL, m2, cL, hPF, rfl, hP, hL, hb⟩
  have hb0 : Below w.heap.size w w1 := HB0.out.trans (hb.mono HB0.out.size)
  obtain ⟨b, hbz⟩ : ∃ b, b = w1.heap.size := ⟨_, rfl⟩
  have hn2 := hPF.n2
  have hn6 := hPF.n6
  have hcap := hP.le
  have hcap2 := hP.max
  have hcap3 := hL.le
  have hcap4 := hL.max
  unfold maxLen at hcap2 hcap4
  have HPF := Lib.hid hPF
  clear HOf
  go_upto_region 2 with (fail)
  obtain ⟨W, hW⟩ : ∃ W, W = w1.alloc (.cells #[.slice aP n cP, .slice aL m2 cL, .int .i64 p.rate, .int .i64 p.room, .int .i64 p.m0, .int .i64 p.m1, .int .i64 p.m2] 26) := ⟨_, rfl⟩
  have hst : St w p b aP n cP aL m2 cL W := by rw [hW, hbz]; exact St.new hP hL hb0
  rw [← hW, ← hbz]
  obtain ⟨g0, g1, g2, g3, g4, g5, g6⟩ := hst.box.cells
  have HS := Lib.hid hst
  clear hP hL hb hb0 hW hbz hPF
  obtain ⟨q, hq⟩ : ∃ q, q = zn % n := ⟨_, rfl⟩
  have hqn : q < n := by rw [hq]; exact Nat.mod_lt _ (by omega)
  have rq : (zn : Int).tmod (n : Int) = (q : Int) := by rw [hq, Int.tmod_eq_emod_of_nonneg (by omega)]; simp
  have sq : (zn : Int) % (n : Int) = (q : Int) := by rw [hq]; simp
  obtain ⟨t, ht⟩ : ∃ t, t = pc p.P q := ⟨_, rfl⟩

  obtain ⟨b2, off, rfl, hcs⟩ := hst.code (by omega)
  have v0 := (hcs q hqn).1
  rw [← ht] at v0
  have HT := Lib.hid ht
  have k1 : ¬ (n : Int) = 0 := by omega
  have k2 : ((n : Int) == 0) = false := by simpa using k1
  have k3 : ¬ n = 0 := by omega
  have k4 : (n == 0) = false := by simpa using k3
  have i0 : (0 : Int) ≤ (q : Int) := by omega
  have i1 : (q : Int) < (n : Int) := by omega
  have t2 : IntKind.i64.wrap (zn : Int) = (zn : Int) := IntWalk.i64_in _ (by omega)
  have t3 : IntKind.i64.wrap (q : Int) = (q : Int) := IntWalk.i64_in _ (by omega)
  clear hst hcs hq ht
  go_quiet (fail)
  obtain ⟨W1, hW1⟩ : ∃ W1, W1 = W.drewN nq := ⟨_, rfl⟩
  rw [← hW1]
  have hst1 : St w p b (some ⟨b2, off, none⟩) n cP aL m2 cL W1 := by rw [hW1]; exact HS.out.later (below_draw W nq)
  have hD := fun (W : World) (hp : PRow W (some ⟨b2, off, none⟩) n cP p.P) (hl : LRow W aL m2 cL p.L) => heights_few p _ n cP aL m2 cL t W hp hl (by rw [HT.out]; exact HPF.out.one hqn) q (by rw [HT.out]; exact HPF.out.fnd hqn) HPF.out.valid (by have := HPF.out.len; omega)
  have hE := fun (W : World) (hp : PRow W (some ⟨b2, off, none⟩) n cP p.P) (hl : LRow W aL m2 cL p.L) => distances_ok p _ n cP aL m2 cL t W hp hl (by rw [HT.out]; exact HPF.out.one hqn) q (by rw [HT.out]; exact HPF.out.fnd hqn) HPF.out.valid
  unfold planV at hD hE
  have HD := Lib.hid hD
  have HE := Lib.hid hE
  have HS1 := Lib.hid hst1
  have HLen := Lib.hid HPF.out.len
  clear hW1 hD hE HS g0 g1 g2 g3 g4 g5 g6 v0 rq sq t2 t3 k1 k2 k3 k4
  obtain ⟨g0, g1, g2, g3, g4, g5, g6⟩ := hst1.box.cells
  clear hst1
  go_wp2_with fail
  with_reducible refine (HD.out _ HS1.out.row HS1.out.lrow).mono ?_
  rintro e w2 ⟨gd, l, hh, n8, hn8, hok, hhs, rfl, hrow, hb⟩
  obtain rfl : n = n8 := by rw [← hn8]; exact HLen.out.symm
  have hst2 := HS1.out.later hb
  have HS2 := Lib.hid hst2
  have HOk := Lib.hid hok
  have HHs := Lib.hid hhs
  have HRow := Lib.hid hrow
  clear hok hb hn8 HD HS1 g0 g1 g2 g3 g4 g5 g6 hhs hrow
  obtain ⟨g0, g1, g2, g3, g4, g5, g6⟩ := hst2.box.cells
  clear hst2
  go_wp2_with fail
  with_reducible refine (HE.out _ HS2.out.row HS2.out.lrow).mono ?_
  rintro e w3 ⟨gw, lw, n8, hn8, hok, rfl, how, hge, hb⟩
  obtain rfl : n = n8 := by rw [← hn8]; exact HLen.out.symm
  have hll := disOk_uniq HOk.out hok
  subst hll
  have hlen := hok.len
  rw [HLen.out] at hlen
  have hst3 := HS2.out.later hb
  have HS3 := Lib.hid hst3
  have HRow3 := Lib.hid (HRow.out.later hb)
  have HRng := Lib.hid (show ∀ i, i < n → -1 ≤ l.getD i 0 ∧ l.getD i 0 < 64 from fun i hi => HOk.out.small i (by rw [HLen.out]; exact hi))
  have HRd3 := Lib.hid (how.row0 n n hlen.symm (Nat.le_refl _) (by unfold maxLen; omega) (fun y hy => by
    obtain ⟨i, hi, rfl⟩ := List.getElem_of_mem hy
    have h5 := HRng.out i (by omega)
    have h3 : l[i] = l.getD i 0 := by simp [List.getD_eq_getElem?_getD, hi]
    rw [h3]
    generalize l.getD i 0 = y at h5
    simp [Lit.wf, IntKind.min, IntKind.max, IntKind.bits, IntKind.signed]
    omega))
  clear how hok hb hge hlen hn8 HE HS2 HRow g0 g1 g2 g3 g4 g5 g6
  obtain ⟨g0, g1, g2, g3, g4, g5, g6⟩ := hst3.box.cells
  clear hst3
  go_wp2_with fail
  clear g0 g1 g2 g3 g4 g5 g6
  go_loopw [13] (fun iv wr => ∃ i : Nat, i ≤ n ∧ iv = .int .i64 i ∧ Below w3.heap.size w3 wr) (fun iv _ => n - (intOf iv).toNat)
  case atStart => exact ⟨0, Nat.zero_le _, rfl, Below.refl _ _⟩
  case round =>
    obtain ⟨i, hi, rfl, hb⟩ := hrel
    have HB1 := Lib.hid hb
    have hst4 := HS3.out.later hb
    obtain ⟨g0, g1, g2, g3, g4, g5, g6⟩ := hst4.box.cells
    have HS4 := Lib.hid hst4
    clear hb hst4
    by_cases hin : i < n
    · obtain ⟨w5, hw5⟩ : ∃ x, x = wr := ⟨_, rfl⟩
      subst hw5
      have i0 : (0 : Int) ≤ (i : Int) := by omega
      have i1 : (i : Int) < (n : Int) := by omega
      go_wp2_with fail
      clear g0 g1 g2 g3 g4 g5 g6
      go_loopw [14, 15] (fun av sv wr => ∃ a st : Nat, a < n ∧ av = .int .i64 a ∧ sv = .int .i64 st ∧ st + htN n (fun y => d99 (l.getD y 0)) a ≤ n ∧ Below w3.heap.size w3 wr) (fun av _ _ => htN n (fun y => d99 (l.getD y 0)) (intOf av).toNat)
      case atStart => exact ⟨i, 0, hin, rfl, rfl, by have := htN_lt_n (D := fun y => d99 (l.getD y 0)) hin; omega, HB1.out⟩
      case round =>
        obtain ⟨a, st, han, rfl, rfl, hst, hb⟩ := hrel
        have HB2 := Lib.hid hb
        have hst5 := HS3.out.later hb
        obtain ⟨g0, g1, g2, g3, g4, g5, g6⟩ := hst5.box.cells
        obtain ⟨b4, off4, hab, hcs⟩ := hst5.code (by omega)
        cases hab
        have v0 := (hcs a han).1
        obtain ⟨u, hu⟩ : ∃ u, u = pc p.P a := ⟨_, rfl⟩
        rw [← hu] at v0
        have HU := Lib.hid hu
        have HS5 := Lib.hid hst5
        have HSt := Lib.hid hst
        have hst6 : st ≤ 6 := by omega
        have j0 : (0 : Int) ≤ (a : Int) := by omega
        have j1 : (a : Int) < (n : Int) := by omega
        clear hb hst5 hcs hu hst
        by_cases hut : u = t
        · have e1 : (u == t) = true := by simpa using hut
          have e2 : (u != t) = false := by simpa using hut
          go_wp2_with fail
          exact ⟨⟨i + 1, by omega, by go_num, HB2.out⟩, by simp [intOf]; omega⟩
        · have e1 : (u == t) = false := by simpa using hut
          have e2 : (u != t) = true := by simpa using hut
          have hC := fun (W : World) (hp : PRow W (some ⟨b2, off, none⟩) n cP p.P) (hl : LRow W aL m2 cL p.L) => choices_few p _ n cP aL m2 cL u t W hp hl (by rw [HT.out, HU.out]; exact HPF.out.two han hqn) hut a q (by rw [HU.out]; exact HPF.out.fnd han) (by rw [HT.out]; exact HPF.out.fnd hqn) HPF.out.valid (by have := HLen.out; omega)
          unfold planV at hC
          have HC := Lib.hid hC
          have HSd := Lib.hid (HS5.out.later (show Below wr.heap.size wr wr.drew from below_draw wr 1))
          clear hC
          go_upto_region 14 with (fail)
          go_region_held3 (fun w' => w'.cell? ⟨b, 0, none⟩ = some (.slice (some ⟨b2, off, none⟩) n cP) ∧ w'.cell? ⟨b, 1, none⟩ = some (.slice aL m2 cL) ∧ w'.cell? ⟨b, 2, none⟩ = some (.int .i64 p.rate) ∧ w'.cell? ⟨b, 3, none⟩ = some (.int .i64 p.room) ∧ w'.cell? ⟨b, 4, none⟩ = some (.int .i64 p.m0) ∧ w'.cell? ⟨b, 5, none⟩ = some (.int .i64 p.m1) ∧ w'.cell? ⟨b, 6, none⟩ = some (.int .i64 p.m2) ∧ w'.cell? ⟨b2, off + a * 2, none⟩ = some (.int .u16 u)) (first | exact HKp.out | (go_keep; done))
            (first
              | ((with_reducible refine (HC.out _ HSd.out.row HSd.out.lrow).mono ?_); rintro e w6 ⟨l3, ac, hok3, rfl, hcr, hb⟩; have hst6 := HSd.out.later hb; obtain ⟨g0, g1, g2, g3, g4, g5, g6⟩ := hst6.box.cells; obtain ⟨b4, off4, hab, hcs⟩ := hst6.code (by omega); cases hab; have v1 := (hcs a han).1; rw [← HU.out] at v1; have HKp := Lib.hid (And.intro g0 (And.intro g1 (And.intro g2 (And.intro g3 (And.intro g4 (And.intro g5 (And.intro g6 v1))))))); have HS6 := Lib.hid hst6; have HCr := Lib.hid hcr; have HOk3 := Lib.hid hok3; have HB3 := Lib.hid ((HB2.out.trans ((below_draw wr 1).mono HB2.out.size)).trans (hb.mono (Nat.le_trans HB2.out.size (below_draw wr 1).size))); clear hst6 hcs hb hcr hok3)
              | fail)
          have hl3 := disOk_uniq HOk.out HOk3.out
          subst hl3
          obtain ⟨N, hN⟩ : ∃ N, N = (chC p t l a).length := ⟨_, rfl⟩
          have hcr := HCr.out
          rw [← hN] at hcr
          rw [← hN]
          have hcm := hcr.max
          have hcl := hcr.le
          unfold maxLen at hcm
          have HN := Lib.hid hN
          have w0 := (HRow3.out.later HB3.out).cell0 a han
          rw [HHs.out a han] at w0
          have s1 : ¬ (n : Int) < (st : Int) := by have := HSt.out; omega
          have s2 : (0 : Int) ≤ (st : Int) := by omega
          by_cases hla : l.getD a 0 = -1
          · have hN0 : N = 0 := by rw [hN]; exact fall_none HOk.out (by rw [HLen.out]; exact hn6) (by rw [HLen.out]; exact han) hla
            rw [htI_none hla] at w0
            subst hN0
            clear hN hla hcr HCr HN
            go_wp2_with fail
            exact ⟨⟨i + 1, by omega, by go_num, HB3.out⟩, by simp [intOf]; omega⟩
          · have hs := fall_some HOk.out (by rw [HLen.out]; exact hn6) (by rw [HLen.out]; exact han) hla (by rw [← HU.out]; exact hut)
            rw [← hN] at hs
            have hNp := hs.1
            have hp1 : 0 < htN n (fun y => d99 (l.getD y 0)) a := by
              obtain ⟨b9, r9, h1, _, h3, _⟩ := fall_lower HOk.out (by rw [HLen.out]; exact hn6) (by rw [HLen.out]; exact han) (k := 0) (by rw [← hN]; exact hNp)
              exact Nat.lt_of_le_of_lt (Nat.zero_le _) (htN_lt (n := n) (by rw [← HLen.out]; exact h1) h3)
            rw [htI_some hla] at w0
            obtain ⟨HA0, hHA0⟩ : ∃ HA0, HA0 = htN n (fun y => d99 (l.getD y 0)) a := ⟨_, rfl⟩
            rw [← hHA0] at w0 hp1
            have p1 : (0 : Int) < (HA0 : Int) := by omega
            have p2 : (0 : Int) < (N : Int) := by omega
            have p3 : ¬ (N : Int) = 0 := by omega
            have p4 : ((N : Int) == 0) = false := by simpa using p3
            have p5 : ¬ N = 0 := by omega
            have p6 : (N == 0) = false := by simpa using p5
            obtain ⟨bc, oc, hac, hcc⟩ := hcr.cells.resolve_left (by omega)
            subst hac
            clear hN hcr hHA0 hp1
            by_cases hst9 : st < n9
            · obtain ⟨b9, off9, ha9, hc9⟩ := (HW9.out.later (HS3.out.bel.trans (HB3.out.mono HS3.out.bel.size))).cells.resolve_left (by omega)
              subst ha9
              have q1 := hc9 st hst9
              obtain ⟨yv, hyv⟩ : ∃ yv, yv = l9.getD st 0 := ⟨_, rfl⟩
              have hyr := wf_u8p (HW9.out.wf (l9.getD st 0) (by
                have hlt : st < l9.length := by rw [HW9.out.len]; exact hst9
                have : l9.getD st 0 = l9[st] := by simp [List.getD_eq_getElem?_getD, hlt]
                rw [this]; exact List.getElem_mem _))
              rw [← hyv] at q1 hyr
              obtain ⟨yn, rfl⟩ : ∃ yn : Nat, yv = (yn : Int) := ⟨yv.toNat, by omega⟩
              obtain ⟨kp, hkp'⟩ : ∃ kp, kp = yn % N := ⟨_, rfl⟩
              have hkp : kp < N := by rw [hkp']; exact Nat.mod_lt _ (by omega)
              have r1 : (yn : Int).tmod (N : Int) = (kp : Int) := by rw [hkp', Int.tmod_eq_emod_of_nonneg (by omega)]; simp
              have r2 : (yn : Int) % (N : Int) = (kp : Int) := by rw [hkp']; simp
              have r3 : (st : Int) < (n9 : Int) := by omega
              have r4 : (0 : Int) ≤ (kp : Int) := by omega
              have r5 : (kp : Int) < (N : Int) := by omega
              clear hc9 hyv hkp'
              have hkl := fall_lower HOk.out (by rw [HLen.out]; exact hn6) (by rw [HLen.out]; exact han) (k := kp) (by rw [← HN.out]; exact hkp)
              obtain ⟨bb, rr, hbb, hget, hlow, hlb⟩ := hkl
              rw [HLen.out] at hbb
              obtain ⟨x0, _⟩ := hcc kp hkp
              rw [hget] at x0
              simp only at x0
              obtain ⟨_, y1⟩ := hcc 0 (by omega)
              rw [hs.2] at y1
              obtain ⟨ck, hck⟩ : ∃ ck, ck = pc p.P bb := ⟨_, rfl⟩
              rw [← hck] at x0
              have z0 := (HRow3.out.later HB3.out).cell0 bb hbb
              have z1 := (HRow3.out.later HB3.out).cell0 a han
              have z2 := (HRd3.out.later HB3.out).cell0 a han
              have hlt := htN_lt (n := n) hbb hlow
              have hhb : hh.getD bb 0 = (htN n (fun y => d99 (l.getD y 0)) bb : Int) := by rw [HHs.out bb hbb]; exact htI_some hlb
              have hha : hh.getD a 0 = (htN n (fun y => d99 (l.getD y 0)) a : Int) := by rw [HHs.out a han]; exact htI_some hla
              obtain ⟨HB, hHB⟩ : ∃ HB, HB = hh.getD bb 0 := ⟨_, rfl⟩
              obtain ⟨HA, hHA⟩ : ∃ HA, HA = hh.getD a 0 := ⟨_, rfl⟩
              obtain ⟨DA, hDA⟩ : ∃ DA, DA = l.getD a 0 := ⟨_, rfl⟩
              obtain ⟨RK, hRK⟩ : ∃ RK, RK = l.getD a 0 - 1 := ⟨_, rfl⟩
              rw [← hHB] at z0 hhb
              rw [← hHA] at z1 hha
              rw [← hDA] at z2
              rw [← hRK] at y1
              have hra := HRng.out a han
              have u1 : ¬ HA ≤ HB := by omega
              have u2 : ¬ HB < 0 := by omega
              have u3 : ¬ (bb : Int) < 0 := by omega
              have u4 : DA - 1 = RK := by rw [hDA, hRK]
              have u5 : IntKind.i64.wrap (DA - 1) = RK := by rw [u4]; exact IntWalk.i64_in _ (by omega)
              have u5' : IntKind.i64.wrap RK = RK := by rw [hRK]; exact IntWalk.i64_in _ (by omega)
              have u1' : decide (HA ≤ HB) = false := by simpa using u1
              have u2' : decide (HB < 0) = false := by simpa using u2
              have u3' : decide ((bb : Int) < 0) = false := by simp
              have u6 : (RK != RK) = false := by simp
              have u7 : (0 : Int) ≤ (bb : Int) := by omega
              have u8 : (bb : Int) < (n : Int) := by omega
              have u9 : (0 : Int) < (N : Int) := by omega
              have HNew := Lib.hid (show st + 1 + htN n (fun y => d99 (l.getD y 0)) bb ≤ n ∧ htN n (fun y => d99 (l.getD y 0)) bb < htN n (fun y => d99 (l.getD y 0)) a from ⟨by have := HSt.out; omega, hlt⟩)
              have HBb := Lib.hid hbb
              have hIx := fun (W : World) (hp : PRow W (some ⟨b2, off, none⟩) n cP p.P) => index_any p (some ⟨b2, off, none⟩) n cP aL m2 cL ck W hp
              rw [show idxI p.P ck = (bb : Int) from by unfold idxI; rw [hck, HPF.out.fnd hbb]] at hIx
              unfold planV at hIx
              have HIx := Lib.hid hIx
              have HSe := Lib.hid (HS6.out.later (show Below w6.heap.size w6 w6.drew from below_draw w6 1))
              have HX0 := Lib.hid x0
              have HX2 := Lib.hid (And.intro y1 (And.intro z0 (And.intro z1 z2)))
              clear hIx hck hHB hHA hDA hRK hhb hha hlt hlow hlb hget hcc hra hbb y1 z0 z1 z2
              go_upto_region 21 with (fail)
              go_region_held3 (fun w' => w'.cell? ⟨b, 0, none⟩ = some (.slice (some ⟨b2, off, none⟩) n cP) ∧ w'.cell? ⟨b, 1, none⟩ = some (.slice aL m2 cL) ∧ w'.cell? ⟨b, 2, none⟩ = some (.int .i64 p.rate) ∧ w'.cell? ⟨b, 3, none⟩ = some (.int .i64 p.room) ∧ w'.cell? ⟨b, 4, none⟩ = some (.int .i64 p.m0) ∧ w'.cell? ⟨b, 5, none⟩ = some (.int .i64 p.m1) ∧ w'.cell? ⟨b, 6, none⟩ = some (.int .i64 p.m2) ∧ w'.cell? ⟨bc, oc + kp * 2, none⟩ = some (.int .u16 ck)) (first | exact HKq.out | (go_keep; done))
                (first
                  | ((with_reducible refine (HIx.out _ HSe.out.row).mono ?_); rintro e w7 ⟨rfl, hb⟩; have hst7 := HSe.out.later hb; obtain ⟨g0, g1, g2, g3, g4, g5, g6⟩ := hst7.box.cells; have v3 := (hb.cell (World.block_lt_of_cell? _ _ HX0.out)).trans HX0.out; have HKq := Lib.hid (And.intro g0 (And.intro g1 (And.intro g2 (And.intro g3 (And.intro g4 (And.intro g5 (And.intro g6 v3))))))); have hb67 : Below w6.heap.size w6 w7 := (below_draw w6 1).trans (hb.mono (below_draw w6 1).size); have HB67 := Lib.hid hb67; have HB4 := Lib.hid (HB3.out.trans (hb67.mono HB3.out.size)); clear hst7 hb v3 hb67)
                  | fail)
              obtain ⟨y1, z0, z1, z2⟩ := HX2.out
              have y1 := (HB67.out.cell (World.block_lt_of_cell? _ _ y1)).trans y1
              have z0 := (HB67.out.cell (World.block_lt_of_cell? _ _ z0)).trans z0
              have z1 := (HB67.out.cell (World.block_lt_of_cell? _ _ z1)).trans z1
              have z2 := (HB67.out.cell (World.block_lt_of_cell? _ _ z2)).trans z2
              simp only [Nat.zero_mul, Nat.add_zero] at y1
              clear g0 g1 g2 g3 g4 g5 g6 x0
              go_upto_region 22 with (fail)
              go_quiet (fail)
              go_wp2_with fail
              obtain ⟨hn1, hn2'⟩ := HNew.out
              exact ⟨⟨bb, st + 1, HBb.out, rfl, by go_num, hn1, HB4.out.trans ((below_draw w7 nq).mono HB4.out.size)⟩, by simpa [intOf] using hn2'⟩
            · have r3 : ¬ (st : Int) < (n9 : Int) := by omega
              have hkp : 0 < N := hNp
              have hkl := fall_lower HOk.out (by rw [HLen.out]; exact hn6) (by rw [HLen.out]; exact han) (k := 0) (by rw [← HN.out]; exact hkp)
              obtain ⟨bb, rr, hbb, hget, hlow, hlb⟩ := hkl
              rw [HLen.out] at hbb
              obtain ⟨x0, _⟩ := hcc 0 hkp
              rw [hget] at x0
              simp only [Nat.zero_mul, Nat.add_zero] at x0
              obtain ⟨_, y1⟩ := hcc 0 (by omega)
              rw [hs.2] at y1
              obtain ⟨ck, hck⟩ : ∃ ck, ck = pc p.P bb := ⟨_, rfl⟩
              rw [← hck] at x0
              have z0 := (HRow3.out.later HB3.out).cell0 bb hbb
              have z1 := (HRow3.out.later HB3.out).cell0 a han
              have z2 := (HRd3.out.later HB3.out).cell0 a han
              have hlt := htN_lt (n := n) hbb hlow
              have hhb : hh.getD bb 0 = (htN n (fun y => d99 (l.getD y 0)) bb : Int) := by rw [HHs.out bb hbb]; exact htI_some hlb
              have hha : hh.getD a 0 = (htN n (fun y => d99 (l.getD y 0)) a : Int) := by rw [HHs.out a han]; exact htI_some hla
              obtain ⟨HB, hHB⟩ : ∃ HB, HB = hh.getD bb 0 := ⟨_, rfl⟩
              obtain ⟨HA, hHA⟩ : ∃ HA, HA = hh.getD a 0 := ⟨_, rfl⟩
              obtain ⟨DA, hDA⟩ : ∃ DA, DA = l.getD a 0 := ⟨_, rfl⟩
              obtain ⟨RK, hRK⟩ : ∃ RK, RK = l.getD a 0 - 1 := ⟨_, rfl⟩
              rw [← hHB] at z0 hhb
              rw [← hHA] at z1 hha
              rw [← hDA] at z2
              rw [← hRK] at y1
              have hra := HRng.out a han
              have u1 : ¬ HA ≤ HB := by omega
              have u2 : ¬ HB < 0 := by omega
              have u3 : ¬ (bb : Int) < 0 := by omega
              have u4 : DA - 1 = RK := by rw [hDA, hRK]
              have u5 : IntKind.i64.wrap (DA - 1) = RK := by rw [u4]; exact IntWalk.i64_in _ (by omega)
              have u5' : IntKind.i64.wrap RK = RK := by rw [hRK]; exact IntWalk.i64_in _ (by omega)
              have u1' : decide (HA ≤ HB) = false := by simpa using u1
              have u2' : decide (HB < 0) = false := by simpa using u2
              have u3' : decide ((bb : Int) < 0) = false := by simp
              have u6 : (RK != RK) = false := by simp
              have u7 : (0 : Int) ≤ (bb : Int) := by omega
              have u8 : (bb : Int) < (n : Int) := by omega
              have u9 : (0 : Int) < (N : Int) := by omega
              have HNew := Lib.hid (show st + 1 + htN n (fun y => d99 (l.getD y 0)) bb ≤ n ∧ htN n (fun y => d99 (l.getD y 0)) bb < htN n (fun y => d99 (l.getD y 0)) a from ⟨by have := HSt.out; omega, hlt⟩)
              have HBb := Lib.hid hbb
              have hIx := fun (W : World) (hp : PRow W (some ⟨b2, off, none⟩) n cP p.P) => index_any p (some ⟨b2, off, none⟩) n cP aL m2 cL ck W hp
              rw [show idxI p.P ck = (bb : Int) from by unfold idxI; rw [hck, HPF.out.fnd hbb]] at hIx
              unfold planV at hIx
              have HIx := Lib.hid hIx
              have HSe := Lib.hid (HS6.out.later (show Below w6.heap.size w6 w6.drew from below_draw w6 1))
              have HX0 := Lib.hid x0
              have HX2 := Lib.hid (And.intro y1 (And.intro z0 (And.intro z1 z2)))
              clear hIx hck hHB hHA hDA hRK hhb hha hlt hlow hlb hget hcc hra hbb y1 z0 z1 z2
              go_upto_region 21 with (fail)
              go_region_held3 (fun w' => w'.cell? ⟨b, 0, none⟩ = some (.slice (some ⟨b2, off, none⟩) n cP) ∧ w'.cell? ⟨b, 1, none⟩ = some (.slice aL m2 cL) ∧ w'.cell? ⟨b, 2, none⟩ = some (.int .i64 p.rate) ∧ w'.cell? ⟨b, 3, none⟩ = some (.int .i64 p.room) ∧ w'.cell? ⟨b, 4, none⟩ = some (.int .i64 p.m0) ∧ w'.cell? ⟨b, 5, none⟩ = some (.int .i64 p.m1) ∧ w'.cell? ⟨b, 6, none⟩ = some (.int .i64 p.m2) ∧ w'.cell? ⟨bc, oc, none⟩ = some (.int .u16 ck)) (first | exact HKq.out | (go_keep; done))
                (first
                  | ((with_reducible refine (HIx.out _ HSe.out.row).mono ?_); rintro e w7 ⟨rfl, hb⟩; have hst7 := HSe.out.later hb; obtain ⟨g0, g1, g2, g3, g4, g5, g6⟩ := hst7.box.cells; have v3 := (hb.cell (World.block_lt_of_cell? _ _ HX0.out)).trans HX0.out; have HKq := Lib.hid (And.intro g0 (And.intro g1 (And.intro g2 (And.intro g3 (And.intro g4 (And.intro g5 (And.intro g6 v3))))))); have hb67 : Below w6.heap.size w6 w7 := (below_draw w6 1).trans (hb.mono (below_draw w6 1).size); have HB67 := Lib.hid hb67; have HB4 := Lib.hid (HB3.out.trans (hb67.mono HB3.out.size)); clear hst7 hb v3 hb67)
                  | fail)
              obtain ⟨y1, z0, z1, z2⟩ := HX2.out
              have y1 := (HB67.out.cell (World.block_lt_of_cell? _ _ y1)).trans y1
              have z0 := (HB67.out.cell (World.block_lt_of_cell? _ _ z0)).trans z0
              have z1 := (HB67.out.cell (World.block_lt_of_cell? _ _ z1)).trans z1
              have z2 := (HB67.out.cell (World.block_lt_of_cell? _ _ z2)).trans z2
              simp only [Nat.zero_mul, Nat.add_zero] at y1
              clear g0 g1 g2 g3 g4 g5 g6 x0
              go_upto_region 22 with (fail)
              go_quiet (fail)
              go_wp2_with fail
              obtain ⟨hn1, hn2'⟩ := HNew.out
              exact ⟨⟨bb, st + 1, HBb.out, rfl, by go_num, hn1, HB4.out.trans ((below_draw w7 nq).mono HB4.out.size)⟩, by simpa [intOf] using hn2'⟩
    · have i1 : ¬ (i : Int) < (n : Int) := by omega
      have HBe := Lib.hid (HS3.out.bel.trans (HB1.out.mono HS3.out.bel.size))
      go_wp2_with fail
      with_reducible refine (HL.out _).mono ?_
      rintro e w9 ⟨rfl, hb⟩
      have HB9 := Lib.hid (HBe.out.trans (hb.mono HBe.out.size))
      clear hb
      go_wp2
      go_ret
      exact ⟨rfl, HB9.out⟩
end Go.Proofs.Ytekaedmhdoijeaa
