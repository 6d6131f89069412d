/- The walk of PlansHeights. -/
import Derived.Test.YtekaedmhdoijeaaPlSt
import Derived.Test.YtekaedmhdoijeaaPlLives
import Derived.Test.YtekaedmhdoijeaaPlDis
import Derived.Deep.Cut
import Derived.Deep.MidRow
import Derived.Deep.CutBlock
import Derived.BigQuiet
import Derived.Deep.RegionHeld3
import Derived.IntWalk
namespace Go.Proofs.Ytekaedmhdoijeaa
open Go.RowKit

set_option maxRecDepth 100000 in
set_option maxHeartbeats 4000000 in
theorem heights_walk (x : Nn) (s : Option Addr) (c : Nat) (z : Int) (w : World) (hx : NnAt w x s c) (hz : (Lit.int .u8 z).wf = true) : Calls Try.prog 6 #[nnV x s c, .int .u8 z] w fun e w' => e = .returned (.bool true) ∧ Below w.heap.size w w' := by
  obtain ⟨zn, rfl, hz9⟩ := oc_nat (show Oc z from hz)
  have hOf := fun (W : World) (h : NnAt W x s c) => of_any x s c W h
  obtain ⟨p0, hp0⟩ : ∃ p, p = x.codes.getD 0 0 := ⟨_, rfl⟩
  obtain ⟨p1, hp1⟩ : ∃ p, p = x.codes.getD 1 0 := ⟨_, rfl⟩
  obtain ⟨p2, hp2⟩ : ∃ p, p = x.codes.getD 2 0 := ⟨_, rfl⟩
  obtain ⟨p3, hp3⟩ : ∃ p, p = x.codes.getD 3 0 := ⟨_, rfl⟩
  obtain ⟨p4, hp4⟩ : ∃ p, p = x.codes.getD 4 0 := ⟨_, rfl⟩
  obtain ⟨p5, hp5⟩ : ∃ p, p = x.codes.getD 5 0 := ⟨_, rfl⟩
  obtain ⟨t0, ht0⟩ : ∃ p, p = x.tree.getD 0 0 := ⟨_, rfl⟩
  obtain ⟨t1, ht1⟩ : ∃ p, p = x.tree.getD 1 0 := ⟨_, rfl⟩
  obtain ⟨t2, ht2⟩ : ∃ p, p = x.tree.getD 2 0 := ⟨_, rfl⟩
  obtain ⟨t3, ht3⟩ : ∃ p, p = x.tree.getD 3 0 := ⟨_, rfl⟩
  obtain ⟨t4, ht4⟩ : ∃ p, p = x.tree.getD 4 0 := ⟨_, rfl⟩
  obtain ⟨t5, ht5⟩ : ∃ p, p = x.tree.getD 5 0 := ⟨_, rfl⟩
  obtain ⟨m, hm⟩ : ∃ m, m = x.extra.length := ⟨_, rfl⟩
  have HCs : Hid (nnCells x s m c = [.int .u8 (x.many : Nat), .int .u8 (p0 : Nat), .int .u8 (p1 : Nat), .int .u8 (p2 : Nat), .int .u8 (p3 : Nat), .int .u8 (p4 : Nat), .int .u8 (p5 : Nat), .int .u8 (x.ends : Nat), .int .u8 (t0 : Nat), .int .u8 (t1 : Nat), .int .u8 (t2 : Nat), .int .u8 (t3 : Nat), .int .u8 (t4 : Nat), .int .u8 (t5 : Nat), .slice s m c, .int .u8 (x.rate : Nat), .int .u8 (x.room : Nat), .int .u8 (x.k0 : Nat), .int .u8 (x.k1 : Nat)]) := Lib.hid (by unfold nnCells; rw [hp0, hp1, hp2, hp3, hp4, hp5, ht0, ht1, ht2, ht3, ht4, ht5])
  unfold nnV at hOf ⊢
  rw [← hm, HCs.out] at hOf
  rw [← hm, HCs.out]
  have HOf := Lib.hid hOf
  have HXn := Lib.hid hx
  have HL := Lib.hid lives_any
  clear hOf hx hm hp0 hp1 hp2 hp3 hp4 hp5 ht0 ht1 ht2 ht3 ht4 ht5
  go_enter Try.func6, Try.ntmps6
  go_upto_region 1 with (fail)
  obtain ⟨W0, hW0⟩ : ∃ W0, W0 = w.alloc (.cells #[.int .u8 (x.many : Nat), .int .u8 (p0 : Nat), .int .u8 (p1 : Nat), .int .u8 (p2 : Nat), .int .u8 (p3 : Nat), .int .u8 (p4 : Nat), .int .u8 (p5 : Nat), .int .u8 (x.ends : Nat), .int .u8 (t0 : Nat), .int .u8 (t1 : Nat), .int .u8 (t2 : Nat), .int .u8 (t3 : Nat), .int .u8 (t4 : Nat), .int .u8 (t5 : Nat), .slice s m c, .int .u8 (x.rate : Nat), .int .u8 (x.room : Nat), .int .u8 (x.k0 : Nat), .int .u8 (x.k1 : Nat)] 40) := ⟨_, rfl⟩
  have hB0 : Below w.heap.size w W0 := by rw [hW0]; exact below_alloc w _
  have ho0 : Own W0 w.heap.size 40 [.int .u8 (x.many : Nat), .int .u8 (p0 : Nat), .int .u8 (p1 : Nat), .int .u8 (p2 : Nat), .int .u8 (p3 : Nat), .int .u8 (p4 : Nat), .int .u8 (p5 : Nat), .int .u8 (x.ends : Nat), .int .u8 (t0 : Nat), .int .u8 (t1 : Nat), .int .u8 (t2 : Nat), .int .u8 (t3 : Nat), .int .u8 (t4 : Nat), .int .u8 (t5 : Nat), .slice s m c, .int .u8 (x.rate : Nat), .int .u8 (x.room : Nat), .int .u8 (x.k0 : Nat), .int .u8 (x.k1 : Nat)] := by rw [hW0]; exact heap_alloc_new w _
  rw [← hW0]
  have HRa := Lib.hid (range_own ho0)
  have HB0 := Lib.hid hB0
  clear hW0 ho0 hB0
  iterate 2 go_step
  refine wp_load_mid 40 (.tmp 2) (by rfl) w.heap.size 0 (by rfl) [.int .u8 (x.many : Nat), .int .u8 (p0 : Nat), .int .u8 (p1 : Nat), .int .u8 (p2 : Nat), .int .u8 (p3 : Nat), .int .u8 (p4 : Nat), .int .u8 (p5 : Nat), .int .u8 (x.ends : Nat), .int .u8 (t0 : Nat), .int .u8 (t1 : Nat), .int .u8 (t2 : Nat), .int .u8 (t3 : Nat), .int .u8 (t4 : Nat), .int .u8 (t5 : Nat), .slice s m c, .int .u8 (x.rate : Nat), .int .u8 (x.room : Nat), .int .u8 (x.k0 : Nat), .int .u8 (x.k1 : Nat)] _ HRa.out Try.underlying40 (by rfl) (by kernel_rfl) ?_
  go_wp2_with fail
  with_reducible refine (HOf.out _ (HXn.out.later HB0.out)).mono ?_
  rintro e w1 ⟨p, aP, n, cP, aL, m2, cL, hPF, rfl, hP, hL, hb⟩
  have hb0 : Below w.heap.size w w1 := HB0.out.trans (hb.mono HB0.out.size)
  obtain ⟨b, hbz⟩ : ∃ b, b = w1.heap.size := ⟨_, rfl⟩
  have hn2 := hPF.n2
  have hn6 := hPF.n6
  have hcap := hP.le
  have hcap2 := hP.max
  have hcap3 := hL.le
  have hcap4 := hL.max
  unfold maxLen at hcap2 hcap4
  have HPF := Lib.hid hPF
  clear HOf
  go_wp2_with fail
  obtain ⟨W, hW⟩ : ∃ W, W = w1.alloc (.cells #[.slice aP n cP, .slice aL m2 cL, .int .i64 p.rate, .int .i64 p.room, .int .i64 p.m0, .int .i64 p.m1, .int .i64 p.m2] 26) := ⟨_, rfl⟩
  have hst : St w p b aP n cP aL m2 cL W := by rw [hW, hbz]; exact St.new hP hL hb0
  rw [← hW, ← hbz]
  obtain ⟨g0, g1, g2, g3, g4, g5, g6⟩ := hst.box.cells
  have HS := Lib.hid hst
  clear hP hL hb hb0 hW hbz hPF
  obtain ⟨q, hq⟩ : ∃ q, q = zn % n := ⟨_, rfl⟩
  have hqn : q < n := by rw [hq]; exact Nat.mod_lt _ (by omega)
  have rq : (zn : Int).tmod (n : Int) = (q : Int) := by rw [hq, Int.tmod_eq_emod_of_nonneg (by omega)]; simp
  have sq : (zn : Int) % (n : Int) = (q : Int) := by rw [hq]; simp
  obtain ⟨t, ht⟩ : ∃ t, t = pc p.P q := ⟨_, rfl⟩

  obtain ⟨b2, off, rfl, hcs⟩ := hst.code (by omega)
  have v0 := (hcs q hqn).1
  rw [← ht] at v0
  have HT := Lib.hid ht
  have k1 : ¬ (n : Int) = 0 := by omega
  have k2 : ((n : Int) == 0) = false := by simpa using k1
  have k3 : ¬ n = 0 := by omega
  have k4 : (n == 0) = false := by simpa using k3
  have i0 : (0 : Int) ≤ (q : Int) := by omega
  have i1 : (q : Int) < (n : Int) := by omega
  have t2 : IntKind.i64.wrap (zn : Int) = (zn : Int) := IntWalk.i64_in _ (by omega)
  have t3 : IntKind.i64.wrap (q : Int) = (q : Int) := IntWalk.i64_in _ (by omega)
  clear hst hcs hq ht
  go_quiet (fail)
  obtain ⟨W1, hW1⟩ : ∃ W1, W1 = W.drewN nq := ⟨_, rfl⟩
  rw [← hW1]
  have hst1 : St w p b (some ⟨b2, off, none⟩) n cP aL m2 cL W1 := by rw [hW1]; exact HS.out.later (below_draw W nq)
  have hD := fun (W : World) (hp : PRow W (some ⟨b2, off, none⟩) n cP p.P) (hl : LRow W aL m2 cL p.L) => heights_few p _ n cP aL m2 cL t W hp hl (by rw [HT.out]; exact HPF.out.one hqn) q (by rw [HT.out]; exact HPF.out.fnd hqn) HPF.out.valid (by have := HPF.out.len; omega)
  have hE := fun (W : World) (hp : PRow W (some ⟨b2, off, none⟩) n cP p.P) (hl : LRow W aL m2 cL p.L) => distances_any p _ n cP aL m2 cL t W hp hl (by omega) (by omega)
  unfold planV at hD hE
  have HD := Lib.hid hD
  have HE := Lib.hid hE
  have HS1 := Lib.hid hst1
  clear hW1 hD hE HS g0 g1 g2 g3 g4 g5 g6 v0 rq sq t2 t3 k1 k2 k3 k4
  obtain ⟨g0, g1, g2, g3, g4, g5, g6⟩ := hst1.box.cells
  clear hst1
  go_wp2_with fail
  with_reducible refine (HD.out _ HS1.out.row HS1.out.lrow).mono ?_
  rintro e w2 ⟨gd, l, hh, n9, hn9, hok, hhs, rfl, hrow, hb⟩
  obtain rfl : n = n9 := by rw [← hn9]; exact HPF.out.len.symm
  have hst2 := HS1.out.later hb
  have HS2 := Lib.hid hst2
  have HOk := Lib.hid hok
  have HHs := Lib.hid hhs
  have HRow := Lib.hid hrow
  clear hok hb hn9 HD HS1 g0 g1 g2 g3 g4 g5 g6 hhs hrow
  obtain ⟨g0, g1, g2, g3, g4, g5, g6⟩ := hst2.box.cells
  clear hst2
  go_wp2_with fail
  with_reducible refine (HE.out _ HS2.out.row HS2.out.lrow).mono ?_
  rintro e w3 ⟨gw, lw, rfl, hge, how, hll, hdist, hb⟩
  have hlen := HPF.out.len
  rw [hlen] at hll
  rw [hlen]
  have HS3 := Lib.hid (HS2.out.later hb)
  have HRow3 := Lib.hid (HRow.out.later hb)
  have HRw3 := Lib.hid (how.row0 n n hll.symm (Nat.le_refl _) (by unfold maxLen; omega) (fun y hy => by
    obtain ⟨i, hi, rfl⟩ := List.getElem_of_mem hy
    have h1 := HOk.out.dist.uniq hdist (i := i) (by rw [hlen]; omega)
    have h2 := HOk.out.small i (by rw [hlen]; omega)
    have h3 : lw[i] = lw.getD i 0 := by simp [List.getD_eq_getElem?_getD, hi]
    have h5 : 0 ≤ d99 (l.getD i 0) ∧ d99 (l.getD i 0) ≤ 99 := by unfold d99; split <;> omega
    rw [h3, ← h1]
    generalize d99 (l.getD i 0) = y at h5
    simp [Lit.wf, IntKind.min, IntKind.max, IntKind.bits, IntKind.signed]
    omega))
  have HDi := Lib.hid (show ∀ i, i < n → d99 (l.getD i 0) = lw.getD i 0 from fun i hi => HOk.out.dist.uniq hdist (by rw [hlen]; exact hi))
  have HRng := Lib.hid (show ∀ i, i < n → -1 ≤ l.getD i 0 ∧ l.getD i 0 < 64 from fun i hi => HOk.out.small i (by rw [hlen]; exact hi))
  have HLl := Lib.hid hll
  clear how hll hdist hb hge hlen HE HS2 HOk HRow g0 g1 g2 g3 g4 g5 g6 HT
  go_wp2_with fail
  go_loopw [10] (fun iv wr => ∃ (k : Nat), k ≤ n ∧ iv = .int .i64 k ∧ Below w3.heap.size w3 wr) (fun iv _ => n - (intOf iv).toNat)
  case atStart => exact ⟨0, Nat.zero_le _, rfl, Below.refl _ _⟩
  case round =>
    obtain ⟨k, hk, rfl, hbe⟩ := hrel
    have HB1 := Lib.hid hbe
    clear hbe
    by_cases hkn : k < n
    · obtain ⟨w5, hw5⟩ : ∃ x, x = wr := ⟨_, rfl⟩
      subst hw5
      have i0 : (0 : Int) ≤ (k : Int) := by omega
      have i1 : (k : Int) < (n : Int) := by omega
      go_wp2_with fail
      go_loopw [11, 12] (fun cv iv wr => ∃ (j : Nat), j ≤ n ∧ iv = .int .i64 j ∧ cv = .int .i64 (htN j (fun y => lw.getD y 0) k) ∧ Below w3.heap.size w3 wr) (fun _ iv _ => n - (intOf iv).toNat)
      case atStart => exact ⟨0, Nat.zero_le _, rfl, rfl, HB1.out⟩
      case round =>
        obtain ⟨j, hj, rfl, rfl, hbe⟩ := hrel
        have hle := htN_le (n := j) (D := fun y => lw.getD y 0) (i := k)
        have hsucc := htN_succ j (fun y => lw.getD y 0) k
        obtain ⟨H, hH⟩ : ∃ H, H = htN j (fun y => lw.getD y 0) k := ⟨_, rfl⟩
        rw [← hH] at hle hsucc ⊢
        have HB2 := Lib.hid hbe
        have HH := Lib.hid hH
        obtain ⟨B, hB⟩ : ∃ B, B = lw.getD k 0 := ⟨_, rfl⟩
        have c1 := (HRw3.out.later hbe).cell0 k hkn
        rw [← hB] at c1
        by_cases hjn : j < n
        · have c0 := (HRw3.out.later hbe).cell0 j hjn
          obtain ⟨A, hA⟩ : ∃ A, A = lw.getD j 0 := ⟨_, rfl⟩
          rw [← hA] at c0
          have j0 : (0 : Int) ≤ (j : Int) := by omega
          have j1 : (j : Int) < (n : Int) := by omega
          have hlow : lowerB (fun y => lw.getD y 0) j k = (decide (A < B) || decide (A = B) && decide (j < k)) := by rw [hA, hB]; rfl
          rw [hlow] at hsucc
          have HSu := Lib.hid hsucc
          clear hlow hsucc hH hA hB hbe
          rcases Int.lt_trichotomy A B with hab | hab | hab
          · have f1 : decide (A < B) = true := by simpa using hab
            have HN := Lib.hid (show htN (j + 1) (fun y => lw.getD y 0) k = H + 1 from by rw [HSu.out]; simp [hab])
            go_upto_region 14 with (fail)
            go_quiet (fail)
            go_wp2_with fail
            refine ⟨⟨j + 1, by omega, by go_num, ?_, HB2.out.trans ((below_draw wr nq).mono HB2.out.size)⟩, by simp [intOf]; omega⟩
            rw [HN.out]; go_num
          · subst hab
            have f1 : decide (A < A) = false := by simp
            have f1' : ¬ A < A := by omega
            have f2 : (A == A) = true := by simp
            by_cases hjk : j < k
            · have f3 : (j : Int) < (k : Int) := by omega
              have f4 : decide ((j : Int) < (k : Int)) = true := by simpa using f3
              have HN := Lib.hid (show htN (j + 1) (fun y => lw.getD y 0) k = H + 1 from by rw [HSu.out]; simp [hjk])
              go_upto_region 14 with (fail)
              go_quiet (fail)
              go_wp2_with fail
              refine ⟨⟨j + 1, by omega, by go_num, ?_, HB2.out.trans ((below_draw wr nq).mono HB2.out.size)⟩, by simp [intOf]; omega⟩
              rw [HN.out]; go_num
            · have f3 : ¬ (j : Int) < (k : Int) := by omega
              have f4 : decide ((j : Int) < (k : Int)) = false := by simpa using f3
              have HN := Lib.hid (show htN (j + 1) (fun y => lw.getD y 0) k = H from by rw [HSu.out]; simp [hjk])
              go_upto_region 14 with (fail)
              go_quiet (fail)
              go_wp2_with fail
              refine ⟨⟨j + 1, by omega, by go_num, ?_, HB2.out.trans ((below_draw wr nq).mono HB2.out.size)⟩, by simp [intOf]; omega⟩
              rw [HN.out]
          · have f1' : ¬ A < B := by omega
            have f1 : decide (A < B) = false := by simpa using f1'
            have f2' : ¬ A = B := by omega
            have f2 : (A == B) = false := by simpa using f2'
            have HN := Lib.hid (show htN (j + 1) (fun y => lw.getD y 0) k = H from by rw [HSu.out]; simp [f1', f2'])
            go_upto_region 14 with (fail)
            go_quiet (fail)
            go_wp2_with fail
            refine ⟨⟨j + 1, by omega, by go_num, ?_, HB2.out.trans ((below_draw wr nq).mono HB2.out.size)⟩, by simp [intOf]; omega⟩
            rw [HN.out]
        · obtain rfl : n = j := by omega
          have j1 : ¬ (n : Int) < (n : Int) := by omega
          have d0 := (HRow3.out.later hbe).cell0 k hkn
          have hd := HDi.out k hkn
          have hr := HRng.out k hkn
          have hht := HHs.out k hkn
          have hcong : htN n (fun y => d99 (l.getD y 0)) k = H := by rw [hH]; exact htN_congr (fun y hy => HDi.out y hy) hkn
          unfold htI at hht
          rw [hcong] at hht
          obtain ⟨Y, hY⟩ : ∃ Y, Y = hh.getD k 0 := ⟨_, rfl⟩
          rw [← hY] at d0 hht
          rw [← hB] at hd
          by_cases h99 : B = 99
          · have h1 : l.getD k 0 = -1 := by
              unfold d99 at hd
              split at hd <;> omega
            rw [if_pos h1] at hht
            subst hht
            subst h99
            have f2 : ((99 : Int) == 99) = true := by decide
            clear hd hr hcong hH hB hsucc hbe hY
            go_wp2_with fail
            exact ⟨⟨k + 1, by omega, by go_num, HB2.out⟩, by simp [intOf]; omega⟩
          · have h1 : ¬ l.getD k 0 = -1 := by
              unfold d99 at hd
              split at hd <;> omega
            rw [if_neg h1] at hht
            subst hht
            have f2 : (B == 99) = false := by simpa using h99
            clear hd hr hcong hH hB hsucc hbe hY
            go_wp2_with fail
            exact ⟨⟨k + 1, by omega, by go_num, HB2.out⟩, by simp [intOf]; omega⟩
    · have i1 : ¬ (k : Int) < (n : Int) := by omega
      have HBe := Lib.hid (HS3.out.bel.trans (HB1.out.mono HS3.out.bel.size))
      go_wp2_with fail
      with_reducible refine (HL.out _).mono ?_
      rintro e w9 ⟨rfl, hb⟩
      have HB9 := Lib.hid (HBe.out.trans (hb.mono HBe.out.size))
      clear hb
      go_wp2
      go_ret
      exact ⟨rfl, HB9.out⟩
end Go.Proofs.Ytekaedmhdoijeaa
