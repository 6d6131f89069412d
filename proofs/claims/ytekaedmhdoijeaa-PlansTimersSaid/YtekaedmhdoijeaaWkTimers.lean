/- The walk of PlansTimers. -/
import Derived.Test.YtekaedmhdoijeaaPlSt
import Derived.Test.YtekaedmhdoijeaaPlLives
import Derived.Test.YtekaedmhdoijeaaPlDis
import Derived.Deep.Cut
import Derived.Deep.MidRow
import Derived.Deep.CutBlock
import Derived.BigQuiet
import Derived.Deep.RegionHeld3
import Derived.IntWalk
namespace Go.Proofs.Ytekaedmhdoijeaa
open Go.RowKit

set_option maxRecDepth 100000 in
set_option maxHeartbeats 4000000 in
theorem timers_walk (x : Nn) (s : Option Addr) (c : Nat) (za zb : Nat) (w : World) (hx : NnAt w x s c) (hza : za ≤ 255) (hzb : zb ≤ 255) : Calls Try.prog 9 #[nnV x s c, .agg #[.int .u8 (za : Int), .int .u8 (zb : Int)]] w fun e w' => e = .returned (.bool true) ∧ Below w.heap.size w w' := by
  have hOf := fun (W : World) (h : NnAt W x s c) => of_any x s c W h
  obtain ⟨p0, hp0⟩ : ∃ p, p = x.codes.getD 0 0 := ⟨_, rfl⟩
  obtain ⟨p1, hp1⟩ : ∃ p, p = x.codes.getD 1 0 := ⟨_, rfl⟩
  obtain ⟨p2, hp2⟩ : ∃ p, p = x.codes.getD 2 0 := ⟨_, rfl⟩
  obtain ⟨p3, hp3⟩ : ∃ p, p = x.codes.getD 3 0 := ⟨_, rfl⟩
  obtain ⟨p4, hp4⟩ : ∃ p, p = x.codes.getD 4 0 := ⟨_, rfl⟩
  obtain ⟨p5, hp5⟩ : ∃ p, p = x.codes.getD 5 0 := ⟨_, rfl⟩
  obtain ⟨t0, ht0⟩ : ∃ p, p = x.tree.getD 0 0 := ⟨_, rfl⟩
  obtain ⟨t1, ht1⟩ : ∃ p, p = x.tree.getD 1 0 := ⟨_, rfl⟩
  obtain ⟨t2, ht2⟩ : ∃ p, p = x.tree.getD 2 0 := ⟨_, rfl⟩
  obtain ⟨t3, ht3⟩ : ∃ p, p = x.tree.getD 3 0 := ⟨_, rfl⟩
  obtain ⟨t4, ht4⟩ : ∃ p, p = x.tree.getD 4 0 := ⟨_, rfl⟩
  obtain ⟨t5, ht5⟩ : ∃ p, p = x.tree.getD 5 0 := ⟨_, rfl⟩
  obtain ⟨m, hm⟩ : ∃ m, m = x.extra.length := ⟨_, rfl⟩
  have HCs : Hid (nnCells x s m c = [.int .u8 (x.many : Nat), .int .u8 (p0 : Nat), .int .u8 (p1 : Nat), .int .u8 (p2 : Nat), .int .u8 (p3 : Nat), .int .u8 (p4 : Nat), .int .u8 (p5 : Nat), .int .u8 (x.ends : Nat), .int .u8 (t0 : Nat), .int .u8 (t1 : Nat), .int .u8 (t2 : Nat), .int .u8 (t3 : Nat), .int .u8 (t4 : Nat), .int .u8 (t5 : Nat), .slice s m c, .int .u8 (x.rate : Nat), .int .u8 (x.room : Nat), .int .u8 (x.k0 : Nat), .int .u8 (x.k1 : Nat)]) := Lib.hid (by unfold nnCells; rw [hp0, hp1, hp2, hp3, hp4, hp5, ht0, ht1, ht2, ht3, ht4, ht5])
  unfold nnV at hOf ⊢
  rw [← hm, HCs.out] at hOf
  rw [← hm, HCs.out]
  have HOf := Lib.hid hOf
  have HXn := Lib.hid hx
  have HL := Lib.hid lives_any
  clear hOf hx hm hp0 hp1 hp2 hp3 hp4 hp5 ht0 ht1 ht2 ht3 ht4 ht5
  go_enter Try.func9, Try.ntmps9
  go_upto_region 1 with (fail)
  obtain ⟨W0, hW0⟩ : ∃ W0, W0 = (w.alloc (.cells #[.int .u8 (x.many : Nat), .int .u8 (p0 : Nat), .int .u8 (p1 : Nat), .int .u8 (p2 : Nat), .int .u8 (p3 : Nat), .int .u8 (p4 : Nat), .int .u8 (p5 : Nat), .int .u8 (x.ends : Nat), .int .u8 (t0 : Nat), .int .u8 (t1 : Nat), .int .u8 (t2 : Nat), .int .u8 (t3 : Nat), .int .u8 (t4 : Nat), .int .u8 (t5 : Nat), .slice s m c, .int .u8 (x.rate : Nat), .int .u8 (x.room : Nat), .int .u8 (x.k0 : Nat), .int .u8 (x.k1 : Nat)] 40)).alloc (.cells #[.int .u8 (za : Int), .int .u8 (zb : Int)] 38) := ⟨_, rfl⟩
  have hB0 : Below w.heap.size w W0 := by rw [hW0]; exact (below_alloc w _).alloc (below_alloc w _).size _
  have ho0 : Own W0 w.heap.size 40 [.int .u8 (x.many : Nat), .int .u8 (p0 : Nat), .int .u8 (p1 : Nat), .int .u8 (p2 : Nat), .int .u8 (p3 : Nat), .int .u8 (p4 : Nat), .int .u8 (p5 : Nat), .int .u8 (x.ends : Nat), .int .u8 (t0 : Nat), .int .u8 (t1 : Nat), .int .u8 (t2 : Nat), .int .u8 (t3 : Nat), .int .u8 (t4 : Nat), .int .u8 (t5 : Nat), .slice s m c, .int .u8 (x.rate : Nat), .int .u8 (x.room : Nat), .int .u8 (x.k0 : Nat), .int .u8 (x.k1 : Nat)] := by rw [hW0]; exact Own.below (show Own (w.alloc (.cells #[.int .u8 (x.many : Nat), .int .u8 (p0 : Nat), .int .u8 (p1 : Nat), .int .u8 (p2 : Nat), .int .u8 (p3 : Nat), .int .u8 (p4 : Nat), .int .u8 (p5 : Nat), .int .u8 (x.ends : Nat), .int .u8 (t0 : Nat), .int .u8 (t1 : Nat), .int .u8 (t2 : Nat), .int .u8 (t3 : Nat), .int .u8 (t4 : Nat), .int .u8 (t5 : Nat), .slice s m c, .int .u8 (x.rate : Nat), .int .u8 (x.room : Nat), .int .u8 (x.k0 : Nat), .int .u8 (x.k1 : Nat)] 40)) w.heap.size 40 [.int .u8 (x.many : Nat), .int .u8 (p0 : Nat), .int .u8 (p1 : Nat), .int .u8 (p2 : Nat), .int .u8 (p3 : Nat), .int .u8 (p4 : Nat), .int .u8 (p5 : Nat), .int .u8 (x.ends : Nat), .int .u8 (t0 : Nat), .int .u8 (t1 : Nat), .int .u8 (t2 : Nat), .int .u8 (t3 : Nat), .int .u8 (t4 : Nat), .int .u8 (t5 : Nat), .slice s m c, .int .u8 (x.rate : Nat), .int .u8 (x.room : Nat), .int .u8 (x.k0 : Nat), .int .u8 (x.k1 : Nat)] from heap_alloc_new w _) (below_alloc _ _) (by simp)
  have ho9 : Own W0 (w.heap.size + 1) 38 [.int .u8 (za : Int), .int .u8 (zb : Int)] := by
    rw [hW0]
    have h := own_alloc (w.alloc (.cells #[.int .u8 (x.many : Nat), .int .u8 (p0 : Nat), .int .u8 (p1 : Nat), .int .u8 (p2 : Nat), .int .u8 (p3 : Nat), .int .u8 (p4 : Nat), .int .u8 (p5 : Nat), .int .u8 (x.ends : Nat), .int .u8 (t0 : Nat), .int .u8 (t1 : Nat), .int .u8 (t2 : Nat), .int .u8 (t3 : Nat), .int .u8 (t4 : Nat), .int .u8 (t5 : Nat), .slice s m c, .int .u8 (x.rate : Nat), .int .u8 (x.room : Nat), .int .u8 (x.k0 : Nat), .int .u8 (x.k1 : Nat)] 40)) [.int .u8 (za : Int), .int .u8 (zb : Int)] 38
    rw [World.size_alloc] at h
    exact h
  rw [← hW0]
  have HRa := Lib.hid (range_own ho0)
  have HB0 := Lib.hid hB0
  have HA0 := Lib.hid ho9
  clear hW0 ho0 hB0 ho9
  iterate 2 go_step
  refine wp_load_mid 40 (.tmp 2) (by rfl) w.heap.size 0 (by rfl) [.int .u8 (x.many : Nat), .int .u8 (p0 : Nat), .int .u8 (p1 : Nat), .int .u8 (p2 : Nat), .int .u8 (p3 : Nat), .int .u8 (p4 : Nat), .int .u8 (p5 : Nat), .int .u8 (x.ends : Nat), .int .u8 (t0 : Nat), .int .u8 (t1 : Nat), .int .u8 (t2 : Nat), .int .u8 (t3 : Nat), .int .u8 (t4 : Nat), .int .u8 (t5 : Nat), .slice s m c, .int .u8 (x.rate : Nat), .int .u8 (x.room : Nat), .int .u8 (x.k0 : Nat), .int .u8 (x.k1 : Nat)] _ HRa.out Try.underlying40 (by rfl) (by kernel_rfl) ?_
  go_wp2_with fail
  with_reducible refine (HOf.out _ (HXn.out.later HB0.out)).mono ?_
  rintro e w1 ⟨p, aP, n, cP, aL, m2, cL, hPF, rfl, hP, hL, hb⟩
  have hb0 : Below w.heap.size w w1 := HB0.out.trans (hb.mono HB0.out.size)
  obtain ⟨b, hbz⟩ : ∃ b, b = w1.heap.size := ⟨_, rfl⟩
  have hn2 := hPF.n2
  have hn6 := hPF.n6
  have hcap := hP.le
  have hcap2 := hP.max
  have hcap3 := hL.le
  have hcap4 := hL.max
  unfold maxLen at hcap2 hcap4
  have HPF := Lib.hid hPF
  clear HOf
  go_upto_region 2 with (fail)
  obtain ⟨W, hW⟩ : ∃ W, W = w1.alloc (.cells #[.slice aP n cP, .slice aL m2 cL, .int .i64 p.rate, .int .i64 p.room, .int .i64 p.m0, .int .i64 p.m1, .int .i64 p.m2] 26) := ⟨_, rfl⟩
  have hst : St w p b aP n cP aL m2 cL W := by rw [hW, hbz]; exact St.new hP hL hb0
  rw [← hW, ← hbz]
  have HArr := Lib.hid (show Own W (w.heap.size + 1) 38 [.int .u8 (za : Int), .int .u8 (zb : Int)] from by rw [hW]; exact (HA0.out.below hb HA0.out.lt).below (below_alloc _ _) (Nat.lt_of_lt_of_le HA0.out.lt hb.size))
  obtain ⟨g0, g1, g2, g3, g4, g5, g6⟩ := hst.box.cells
  have HS := Lib.hid hst
  clear hP hL hb hb0 hW hbz hPF
  have z0 := HArr.out.cell 0 (by simp)
  have z1 := HArr.out.cell 1 (by simp)
  simp only [List.getD_cons_zero, List.getD_cons_succ] at z0 z1
  obtain ⟨i, hi⟩ : ∃ i, i = za % n := ⟨_, rfl⟩
  have hin : i < n := by rw [hi]; exact Nat.mod_lt _ (by omega)
  have ri : (za : Int).tmod (n : Int) = (i : Int) := by rw [hi, Int.tmod_eq_emod_of_nonneg (by omega)]; simp
  have si : (za : Int) % (n : Int) = (i : Int) := by rw [hi]; simp
  obtain ⟨q, hq⟩ : ∃ q, q = zb % n := ⟨_, rfl⟩
  have hqn : q < n := by rw [hq]; exact Nat.mod_lt _ (by omega)
  have rq : (zb : Int).tmod (n : Int) = (q : Int) := by rw [hq, Int.tmod_eq_emod_of_nonneg (by omega)]; simp
  have sq : (zb : Int) % (n : Int) = (q : Int) := by rw [hq]; simp
  obtain ⟨t, ht⟩ : ∃ t, t = pc p.P q := ⟨_, rfl⟩
  obtain ⟨u, hu⟩ : ∃ u, u = pc p.P i := ⟨_, rfl⟩
  obtain ⟨b2, off, rfl, hcs⟩ := hst.code (by omega)
  have v0 := (hcs q hqn).1
  rw [← ht] at v0
  have HT := Lib.hid ht
  have HU := Lib.hid hu
  have k1 : ¬ (n : Int) = 0 := by omega
  have k2 : ((n : Int) == 0) = false := by simpa using k1
  have k3 : ¬ n = 0 := by omega
  have k4 : (n == 0) = false := by simpa using k3
  have i0 : (0 : Int) ≤ (q : Int) := by omega
  have i1 : (q : Int) < (n : Int) := by omega
  have t2' : IntKind.i64.wrap (zb : Int) = (zb : Int) := IntWalk.i64_in _ (by omega)
  have t3' : IntKind.i64.wrap (q : Int) = (q : Int) := IntWalk.i64_in _ (by omega)
  clear hst hcs hq ht hi hu
  go_upto_region 3 with (fail)
  go_quiet (fail)
  obtain ⟨W1, hW1⟩ : ∃ W1, W1 = W.drewN nq := ⟨_, rfl⟩
  rw [← hW1]
  have hst1 : St w p b (some ⟨b2, off, none⟩) n cP aL m2 cL W1 := by rw [hW1]; exact HS.out.later (below_draw W nq)
  have hD : ∀ k, k < p.L.length → (lnAt p.L k).D ≤ 64 := fun k hk => (line_of_valid HPF.out.valid (by
    have : lnAt p.L k = p.L[k] := by simp [lnAt, List.getD_eq_getElem?_getD, hk]
    rw [this]; exact List.getElem_mem _)).2.2.2.2.1
  have HD := Lib.hid (mxD_range hD)
  have hroom := room_range HPF.out.valid
  obtain ⟨ro, hro⟩ : ∃ ro, ro = p.room := ⟨_, rfl⟩
  rw [← hro] at hroom
  have HRo := Lib.hid hro
  obtain ⟨R, hR⟩ : ∃ R, R = baseI p := ⟨_, rfl⟩
  have HR := Lib.hid hR
  have hRr := baseI_range HPF.out.valid
  rw [← hR] at hRr
  obtain ⟨G, hG⟩ : ∃ G, G = ((n : Int) + 2) * R := ⟨_, rfl⟩
  have hGr : 0 ≤ G ∧ G ≤ 8 * 33024 := by rw [hG]; exact ⟨Int.mul_nonneg (by omega) (by omega), Int.mul_le_mul (by omega) hRr.2 hRr.1 (by omega)⟩
  have HG := Lib.hid hG
  have hlen := HPF.out.len
  have hB1 := fun (W : World) (hp : PRow W (some ⟨b2, off, none⟩) n cP p.P) (hl : LRow W aL m2 cL p.L) => base_ok p _ n cP aL m2 cL W hp hl HPF.out.chk HPF.out.valid
  have hB2 := fun (W : World) (hp : PRow W (some ⟨b2, off, none⟩) n cP p.P) (hl : LRow W aL m2 cL p.L) => gap_ok p _ n cP aL m2 cL W hp hl HPF.out.chk HPF.out.valid
  have hB3 := fun (W : World) (hp : PRow W (some ⟨b2, off, none⟩) n cP p.P) (hl : LRow W aL m2 cL p.L) => (hold_few p _ n cP aL m2 cL u t W hp hl (by rw [HT.out, HU.out]; exact HPF.out.two hin hqn) i q (by rw [HU.out]; exact HPF.out.fnd hin) (by rw [HT.out]; exact HPF.out.fnd hqn) HPF.out.valid (by omega)).mono (fun _ _ hh => hold_let hh)
  have hB4 := fun (W : World) (hp : PRow W (some ⟨b2, off, none⟩) n cP p.P) (hl : LRow W aL m2 cL p.L) => heights_few p _ n cP aL m2 cL t W hp hl (by rw [HT.out]; exact HPF.out.one hqn) q (by rw [HT.out]; exact HPF.out.fnd hqn) HPF.out.valid (by omega)
  rw [← hR] at hB1
  rw [← hR, hlen, ← hG] at hB2
  unfold planV at hB1 hB2 hB3 hB4
  have HB1 := Lib.hid hB1
  have HB2 := Lib.hid hB2
  have HB3 := Lib.hid hB3
  have HB4 := Lib.hid hB4
  have HS1 := Lib.hid hst1
  have HLen := Lib.hid hlen
  clear hW1 hB1 hB2 hB3 hB4 HS g0 g1 g2 g3 g4 g5 g6 v0 rq sq t2' t3' k1 k2 k3 k4 z0 z1 ri si hst1 hR hG hro hD i0 i1 hlen
  go_wp2_with fail
  go_loopw [8, 9] (fun dv iv wr => ∃ k : Nat, k ≤ m2 ∧ iv = .int .i64 k ∧ dv = .int .i64 (mxD (p.L.take k)) ∧ Below W1.heap.size W1 wr) (fun _ iv _ => m2 - (intOf iv).toNat)
  case atStart => exact ⟨0, Nat.zero_le _, rfl, by simp [mxD], Below.refl _ _⟩
  case round =>
    obtain ⟨k, hk, rfl, rfl, hb⟩ := hrel
    have hst2 := HS1.out.later hb
    obtain ⟨g0, g1, g2, g3, g4, g5, g6⟩ := hst2.box.cells
    rw [← HRo.out] at g3
    have hdr := HD.out k (by have := HPF.out.llen; omega)
    obtain ⟨M, hM⟩ : ∃ M, M = mxD (p.L.take k) := ⟨_, rfl⟩
    rw [← hM] at hdr ⊢
    have HM := Lib.hid hM
    have HS2 := Lib.hid hst2
    have HBr := Lib.hid hb
    clear hb hM hst2
    by_cases hkn : k < m2
    · obtain ⟨b3, off3, rfl, hc⟩ := HS2.out.lrow.cells.resolve_left (by omega)
      obtain ⟨c0, c1, c2, c3⟩ := hc k hkn
      clear hc
      have hmx := mxD_take p.L k (by have := HPF.out.llen; omega)
      obtain ⟨l, hl⟩ : ∃ l, l = lnAt p.L k := ⟨_, rfl⟩
      rw [← hl] at c0 c1 c2 c3 hmx
      clear hl
      obtain ⟨A, B, C, D⟩ := l
      simp only at c0 c1 c2 c3 hmx
      rw [← HM.out] at hmx
      have HMx := Lib.hid hmx
      clear hmx
      have j0 : (0 : Int) ≤ (k : Int) := by omega
      have j1 : (k : Int) < (m2 : Int) := by omega
      by_cases hMD : M ≤ D
      · have e1 : max M D = D := by omega
        go_wp2
        exact ⟨⟨k + 1, by omega, by go_num, by rw [HMx.out, show max M D = D by omega], HBr.out⟩, by simp [intOf]; omega⟩
      · have e1 : max M D = M := by omega
        go_wp2
        exact ⟨⟨k + 1, by omega, by go_num, by rw [HMx.out, show max M D = M by omega], HBr.out⟩, by simp [intOf]; omega⟩
    · have hkn' : k = m2 := by omega
      subst hkn'
      have HE := Lib.hid (show R = 4 * (n : Int) * (M + ro + 1) by
        rw [HR.out]
        unfold baseI
        rw [HLen.out, HM.out, HRo.out, List.take_of_length_le (by rw [HPF.out.llen]; exact Nat.le_refl _)])
      have hb1 : (M + ro + 1) ≤ 129 := by omega
      have hb2 : 0 ≤ (M + ro + 1) := by omega
      have hm1 : 4 * (n : Int) * (M + ro + 1) ≤ 4 * 64 * 129 := Int.mul_le_mul (by omega) hb1 hb2 (by omega)
      have hm0 : 0 ≤ 4 * (n : Int) * (M + ro + 1) := Int.mul_nonneg (by omega) hb2
      have w1 : IntKind.i64.wrap (4 * (n : Int) * (M + ro + 1)) = 4 * (n : Int) * (M + ro + 1) := IntWalk.i64_in _ (by omega)
      have w2 : IntKind.i64.wrap (4 * (n : Int)) = 4 * (n : Int) := IntWalk.i64_in _ (by omega)
      have w3 : IntKind.i64.wrap (M + ro + 1) = M + ro + 1 := IntWalk.i64_in _ (by omega)
      have w4 : IntKind.i64.wrap (M + ro) = M + ro := IntWalk.i64_in _ (by omega)
      have j1 : ¬ (k : Int) < (k : Int) := by omega
      go_upto_region 10 with (fail)
      rw [← HE.out]
      rw [HRo.out] at g3
      have HBe := Lib.hid HS2.out.bel
      clear w1 w2 w3 w4 hm0 hm1 hb1 hb2 hdr j1
      have i0 : (0 : Int) ≤ (i : Int) := by omega
      have i1 : (i : Int) < (n : Int) := by omega
      go_wp2_with fail
      with_reducible refine (HB1.out _ HS2.out.row HS2.out.lrow).mono ?_
      rintro e w4 ⟨rfl, hb⟩
      have hst3 := HS2.out.later hb
      have HS3 := Lib.hid hst3
      clear hb g0 g1 g2 g3 g4 g5 g6
      obtain ⟨g0, g1, g2, g3, g4, g5, g6⟩ := hst3.box.cells
      obtain ⟨b4, off4, hab, hcs⟩ := hst3.code (by omega)
      cases hab
      have v1 := (hcs i hin).1
      rw [← HU.out] at v1
      have HSd := Lib.hid (hst3.later (show Below w4.heap.size w4 w4.drew from below_draw w4 1))
      clear hst3 hcs
      go_upto_region 11 with (fail)
      go_region_held3 (fun w' => w'.cell? ⟨b, 0, none⟩ = some (.slice (some ⟨b2, off, none⟩) n cP) ∧ w'.cell? ⟨b, 1, none⟩ = some (.slice aL k cL) ∧ w'.cell? ⟨b, 2, none⟩ = some (.int .i64 p.rate) ∧ w'.cell? ⟨b, 3, none⟩ = some (.int .i64 p.room) ∧ w'.cell? ⟨b, 4, none⟩ = some (.int .i64 p.m0) ∧ w'.cell? ⟨b, 5, none⟩ = some (.int .i64 p.m1) ∧ w'.cell? ⟨b, 6, none⟩ = some (.int .i64 p.m2) ∧ w'.cell? ⟨b2, off + i * 2, none⟩ = some (.int .u16 u)) (first | exact HKp.out | (go_keep; done))
        (first
          | ((with_reducible refine (HB3.out _ HSd.out.row HSd.out.lrow).mono ?_); rintro e w5 ⟨l2, X, E, hok2, rfl, hx1, hx2, hb⟩; have hst5 := HSd.out.later hb; obtain ⟨g0, g1, g2, g3, g4, g5, g6⟩ := hst5.box.cells; obtain ⟨b4, off4, hab, hcs⟩ := hst5.code (by omega); cases hab; have v1 := (hcs i hin).1; rw [← HU.out] at v1; have HKp := Lib.hid (And.intro g0 (And.intro g1 (And.intro g2 (And.intro g3 (And.intro g4 (And.intro g5 (And.intro g6 v1))))))); have HS5 := Lib.hid hst5; have HX1 := Lib.hid hx1; have HX2 := Lib.hid hx2; have HOk2 := Lib.hid hok2; clear hst5 hcs hx1 hx2 hb hok2)
          | fail)
      clear g0 g1 g2 g3 g4 g5 g6 v1
      obtain ⟨g0, g1, g2, g3, g4, g5, g6⟩ := HS5.out.box.cells
      go_wp2_with fail
      with_reducible refine (HB2.out _ HS5.out.row HS5.out.lrow).mono ?_
      rintro e w6 ⟨rfl, hb⟩
      have hst6 := HS5.out.later hb
      have HS6 := Lib.hid hst6
      clear hb g0 g1 g2 g3 g4 g5 g6
      obtain ⟨g0, g1, g2, g3, g4, g5, g6⟩ := hst6.box.cells
      clear hst6
      go_wp2_with fail
      with_reducible refine (HB4.out _ HS6.out.row HS6.out.lrow).mono ?_
      rintro e w7 ⟨gd, l, hh, n9, hn9, hok, hhs, rfl, hrow, hb⟩
      obtain rfl : n = n9 := by rw [← hn9]; exact HLen.out.symm
      have hll := disOk_uniq HOk2.out hok
      subst hll
      have hst7 := HS6.out.later hb
      have HS7 := Lib.hid hst7
      have c0 := hrow.cell0 i hin
      have hH := hhs i hin
      have x1 := HX1.out
      have x2 := HX2.out
      rw [HLen.out] at x1 x2
      rw [← hH, ← HR.out] at x2
      rw [← hH] at x1
      have hHr : -1 ≤ hh.getD i 0 ∧ hh.getD i 0 ≤ 6 := by
        rw [hH]
        unfold htI
        have h1 := htN_lt_n (D := fun k => d99 (l2.getD k 0)) hin
        split <;> omega
      obtain ⟨H, hHH⟩ : ∃ H, H = hh.getD i 0 := ⟨_, rfl⟩
      rw [← hHH] at c0 x1 x2 hHr
      clear hb g0 g1 g2 g3 g4 g5 g6 hst7 hok hhs hrow hH hHH hn9
      obtain ⟨g0, g1, g2, g3, g4, g5, g6⟩ := HS7.out.box.cells
      have hGe : ((n : Int) + 2) * R = G := HG.out.symm
      have n0 : (R != R) = false := by simp
      have n1 : (G != G) = false := by simp
      by_cases hH1 : H = -1
      · obtain ⟨rfl, rfl⟩ := x1 hH1
        clear x1 x2
        subst hH1
        go_wp2_with fail
        with_reducible refine (HL.out _).mono ?_
        rintro e w9 ⟨rfl, hb⟩
        have HB9 := Lib.hid (HS7.out.bel.trans (hb.mono HS7.out.bel.size))
        clear hb
        go_wp2
        go_ret
        exact ⟨rfl, HB9.out⟩
      · obtain ⟨hXe, rfl⟩ := x2 hH1
        have hm1 : (H + 1) * R ≤ 7 * 33024 := Int.mul_le_mul (by omega) hRr.2 hRr.1 (by omega)
        have hm0 : 0 ≤ (H + 1) * R := Int.mul_nonneg (by omega) hRr.1
        rw [← hXe] at hm0 hm1
        have hXe' : (H + 1) * R = X := hXe.symm
        have h0 : ¬ H < 0 := by omega
        clear x1 x2 hXe
        go_wp2_with fail
        with_reducible refine (HL.out _).mono ?_
        rintro e w9 ⟨rfl, hb⟩
        have HB9 := Lib.hid (HS7.out.bel.trans (hb.mono HS7.out.bel.size))
        clear hb
        go_wp2
        go_ret
        exact ⟨rfl, HB9.out⟩
end Go.Proofs.Ytekaedmhdoijeaa
