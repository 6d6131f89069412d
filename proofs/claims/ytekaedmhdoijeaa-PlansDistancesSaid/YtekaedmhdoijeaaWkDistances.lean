/- The walk of PlansDistances. -/
import Derived.Test.YtekaedmhdoijeaaPlSt
import Derived.Test.YtekaedmhdoijeaaPlLives
import Derived.Test.YtekaedmhdoijeaaPlDis
import Derived.Deep.Cut
import Derived.Deep.MidRow
import Derived.Deep.CutBlock
import Derived.BigQuiet
import Derived.Deep.RegionHeld3
import Derived.IntWalk
namespace Go.Proofs.Ytekaedmhdoijeaa
open Go.RowKit

set_option maxRecDepth 100000 in
set_option maxHeartbeats 4000000 in
theorem distances_walk (x : Nn) (s : Option Addr) (c : Nat) (z : Int) (w : World) (hx : NnAt w x s c) (hz : (Lit.int .u8 z).wf = true) : Calls Try.prog 5 #[nnV x s c, .int .u8 z] w fun e w' => e = .returned (.bool true) ∧ Below w.heap.size w w' := by
  obtain ⟨zn, rfl, hz9⟩ := oc_nat (show Oc z from hz)
  have hOf := fun (W : World) (h : NnAt W x s c) => of_any x s c W h
  obtain ⟨p0, hp0⟩ : ∃ p, p = x.codes.getD 0 0 := ⟨_, rfl⟩
  obtain ⟨p1, hp1⟩ : ∃ p, p = x.codes.getD 1 0 := ⟨_, rfl⟩
  obtain ⟨p2, hp2⟩ : ∃ p, p = x.codes.getD 2 0 := ⟨_, rfl⟩
  obtain ⟨p3, hp3⟩ : ∃ p, p = x.codes.getD 3 0 := ⟨_, rfl⟩
  obtain ⟨p4, hp4⟩ : ∃ p, p = x.codes.getD 4 0 := ⟨_, rfl⟩
  obtain ⟨p5, hp5⟩ : ∃ p, p = x.codes.getD 5 0 := ⟨_, rfl⟩
  obtain ⟨t0, ht0⟩ : ∃ p, p = x.tree.getD 0 0 := ⟨_, rfl⟩
  obtain ⟨t1, ht1⟩ : ∃ p, p = x.tree.getD 1 0 := ⟨_, rfl⟩
  obtain ⟨t2, ht2⟩ : ∃ p, p = x.tree.getD 2 0 := ⟨_, rfl⟩
  obtain ⟨t3, ht3⟩ : ∃ p, p = x.tree.getD 3 0 := ⟨_, rfl⟩
  obtain ⟨t4, ht4⟩ : ∃ p, p = x.tree.getD 4 0 := ⟨_, rfl⟩
  obtain ⟨t5, ht5⟩ : ∃ p, p = x.tree.getD 5 0 := ⟨_, rfl⟩
  obtain ⟨m, hm⟩ : ∃ m, m = x.extra.length := ⟨_, rfl⟩
  have HCs : Hid (nnCells x s m c = [.int .u8 (x.many : Nat), .int .u8 (p0 : Nat), .int .u8 (p1 : Nat), .int .u8 (p2 : Nat), .int .u8 (p3 : Nat), .int .u8 (p4 : Nat), .int .u8 (p5 : Nat), .int .u8 (x.ends : Nat), .int .u8 (t0 : Nat), .int .u8 (t1 : Nat), .int .u8 (t2 : Nat), .int .u8 (t3 : Nat), .int .u8 (t4 : Nat), .int .u8 (t5 : Nat), .slice s m c, .int .u8 (x.rate : Nat), .int .u8 (x.room : Nat), .int .u8 (x.k0 : Nat), .int .u8 (x.k1 : Nat)]) := Lib.hid (by unfold nnCells; rw [hp0, hp1, hp2, hp3, hp4, hp5, ht0, ht1, ht2, ht3, ht4, ht5])
  unfold nnV at hOf ⊢
  rw [← hm, HCs.out] at hOf
  rw [← hm, HCs.out]
  have HOf := Lib.hid hOf
  have HXn := Lib.hid hx
  have HL := Lib.hid lives_any
  clear hOf hx hm hp0 hp1 hp2 hp3 hp4 hp5 ht0 ht1 ht2 ht3 ht4 ht5
  go_enter Try.func5, Try.ntmps5
  go_upto_region 1 with (fail)
  obtain ⟨W0, hW0⟩ : ∃ W0, W0 = w.alloc (.cells #[.int .u8 (x.many : Nat), .int .u8 (p0 : Nat), .int .u8 (p1 : Nat), .int .u8 (p2 : Nat), .int .u8 (p3 : Nat), .int .u8 (p4 : Nat), .int .u8 (p5 : Nat), .int .u8 (x.ends : Nat), .int .u8 (t0 : Nat), .int .u8 (t1 : Nat), .int .u8 (t2 : Nat), .int .u8 (t3 : Nat), .int .u8 (t4 : Nat), .int .u8 (t5 : Nat), .slice s m c, .int .u8 (x.rate : Nat), .int .u8 (x.room : Nat), .int .u8 (x.k0 : Nat), .int .u8 (x.k1 : Nat)] 40) := ⟨_, rfl⟩
  have hB0 : Below w.heap.size w W0 := by rw [hW0]; exact below_alloc w _
  have ho0 : Own W0 w.heap.size 40 [.int .u8 (x.many : Nat), .int .u8 (p0 : Nat), .int .u8 (p1 : Nat), .int .u8 (p2 : Nat), .int .u8 (p3 : Nat), .int .u8 (p4 : Nat), .int .u8 (p5 : Nat), .int .u8 (x.ends : Nat), .int .u8 (t0 : Nat), .int .u8 (t1 : Nat), .int .u8 (t2 : Nat), .int .u8 (t3 : Nat), .int .u8 (t4 : Nat), .int .u8 (t5 : Nat), .slice s m c, .int .u8 (x.rate : Nat), .int .u8 (x.room : Nat), .int .u8 (x.k0 : Nat), .int .u8 (x.k1 : Nat)] := by rw [hW0]; exact heap_alloc_new w _
  rw [← hW0]
  have HRa := Lib.hid (range_own ho0)
  have HB0 := Lib.hid hB0
  clear hW0 ho0 hB0
  iterate 2 go_step
  refine wp_load_mid 40 (.tmp 2) (by rfl) w.heap.size 0 (by rfl) [.int .u8 (x.many : Nat), .int .u8 (p0 : Nat), .int .u8 (p1 : Nat), .int .u8 (p2 : Nat), .int .u8 (p3 : Nat), .int .u8 (p4 : Nat), .int .u8 (p5 : Nat), .int .u8 (x.ends : Nat), .int .u8 (t0 : Nat), .int .u8 (t1 : Nat), .int .u8 (t2 : Nat), .int .u8 (t3 : Nat), .int .u8 (t4 : Nat), .int .u8 (t5 : Nat), .slice s m c, .int .u8 (x.rate : Nat), .int .u8 (x.room : Nat), .int .u8 (x.k0 : Nat), .int .u8 (x.k1 : Nat)] _ HRa.out Try.underlying40 (by rfl) (by kernel_rfl) ?_
  go_wp2_with fail
  with_reducible refine (HOf.out _ (HXn.out.later HB0.out)).mono ?_
  rintro e w1 ⟨p, aP, n, cP, aL, m2, cL, hPF, rfl, hP, hL, hb⟩
  have hb0 : Below w.heap.size w w1 := HB0.out.trans (hb.mono HB0.out.size)
  obtain ⟨b, hbz⟩ : ∃ b, b = w1.heap.size := ⟨_, rfl⟩
  have hn2 := hPF.n2
  have hn6 := hPF.n6
  have hcap := hP.le
  have hcap2 := hP.max
  have hcap3 := hL.le
  have hcap4 := hL.max
  unfold maxLen at hcap2 hcap4
  have HPF := Lib.hid hPF
  clear HOf
  go_wp2_with fail
  obtain ⟨W, hW⟩ : ∃ W, W = w1.alloc (.cells #[.slice aP n cP, .slice aL m2 cL, .int .i64 p.rate, .int .i64 p.room, .int .i64 p.m0, .int .i64 p.m1, .int .i64 p.m2] 26) := ⟨_, rfl⟩
  have hst : St w p b aP n cP aL m2 cL W := by rw [hW, hbz]; exact St.new hP hL hb0
  rw [← hW, ← hbz]
  obtain ⟨g0, g1, g2, g3, g4, g5, g6⟩ := hst.box.cells
  have HS := Lib.hid hst
  clear hP hL hb hb0 hW hbz hPF
  obtain ⟨q, hq⟩ : ∃ q, q = zn % n := ⟨_, rfl⟩
  have hqn : q < n := by rw [hq]; exact Nat.mod_lt _ (by omega)
  have rq : (zn : Int).tmod (n : Int) = (q : Int) := by rw [hq, Int.tmod_eq_emod_of_nonneg (by omega)]; simp
  have sq : (zn : Int) % (n : Int) = (q : Int) := by rw [hq]; simp
  obtain ⟨t, ht⟩ : ∃ t, t = pc p.P q := ⟨_, rfl⟩

  obtain ⟨b2, off, rfl, hcs⟩ := hst.code (by omega)
  have v0 := (hcs q hqn).1
  rw [← ht] at v0
  have HT := Lib.hid ht
  have k1 : ¬ (n : Int) = 0 := by omega
  have k2 : ((n : Int) == 0) = false := by simpa using k1
  have k3 : ¬ n = 0 := by omega
  have k4 : (n == 0) = false := by simpa using k3
  have i0 : (0 : Int) ≤ (q : Int) := by omega
  have i1 : (q : Int) < (n : Int) := by omega
  have t2 : IntKind.i64.wrap (zn : Int) = (zn : Int) := IntWalk.i64_in _ (by omega)
  have t3 : IntKind.i64.wrap (q : Int) = (q : Int) := IntWalk.i64_in _ (by omega)
  clear hst hcs hq ht
  go_quiet (fail)
  obtain ⟨W1, hW1⟩ : ∃ W1, W1 = W.drewN nq := ⟨_, rfl⟩
  rw [← hW1]
  have hst1 : St w p b (some ⟨b2, off, none⟩) n cP aL m2 cL W1 := by rw [hW1]; exact HS.out.later (below_draw W nq)
  have hD := fun (W : World) (hp : PRow W (some ⟨b2, off, none⟩) n cP p.P) (hl : LRow W aL m2 cL p.L) => distances_ok p _ n cP aL m2 cL t W hp hl (by rw [HT.out]; exact HPF.out.one hqn) q (by rw [HT.out]; exact HPF.out.fnd hqn) HPF.out.valid
  have hE := fun (W : World) (hp : PRow W (some ⟨b2, off, none⟩) n cP p.P) (hl : LRow W aL m2 cL p.L) => distances_any p _ n cP aL m2 cL t W hp hl (by omega) (by omega)
  unfold planV at hD hE
  have HD := Lib.hid hD
  have HE := Lib.hid hE
  have HS1 := Lib.hid hst1
  clear hW1 hD hE HS g0 g1 g2 g3 g4 g5 g6 v0 rq sq t2 t3 k1 k2 k3 k4
  obtain ⟨g0, g1, g2, g3, g4, g5, g6⟩ := hst1.box.cells
  clear hst1
  go_wp2_with fail
  with_reducible refine (HD.out _ HS1.out.row HS1.out.lrow).mono ?_
  rintro e w2 ⟨gd, l, n9, hn9, hok, rfl, ho, hge, hb⟩
  obtain rfl : n = n9 := by rw [← hn9]; exact HPF.out.len.symm
  have hst2 := HS1.out.later hb
  have HS2 := Lib.hid hst2
  have HOk := Lib.hid hok
  have HOd := Lib.hid ho
  clear hok ho hge hb hn9 HD HS1 g0 g1 g2 g3 g4 g5 g6
  obtain ⟨g0, g1, g2, g3, g4, g5, g6⟩ := hst2.box.cells
  clear hst2
  go_wp2_with fail
  with_reducible refine (HE.out _ HS2.out.row HS2.out.lrow).mono ?_
  rintro e w3 ⟨gw, lw, rfl, hge, how, hll, hdist, hb⟩
  have hlen := HPF.out.len
  rw [hlen] at hll
  rw [hlen]
  have HS3 := Lib.hid (HS2.out.later hb)
  have hdw : gd < gw := Nat.lt_of_lt_of_le HOd.out.lt hge
  have HGw := Lib.hid (show w.heap.size ≤ gw from Nat.le_trans HS2.out.bel.size hge)
  have HOd3 := Lib.hid (HOd.out.below hb HOd.out.lt)
  have HDi := Lib.hid (show ∀ i, i < n → d99 (l.getD i 0) = lw.getD i 0 from fun i hi => HOk.out.dist.uniq hdist (by rw [hlen]; exact hi))
  have HRng := Lib.hid (show ∀ i, i < n → -1 ≤ l.getD i 0 ∧ l.getD i 0 < 64 from fun i hi => HOk.out.small i (by rw [hlen]; exact hi))
  have HOw := Lib.hid how
  have HLl := Lib.hid hll
  have HLd := Lib.hid (show l.length = n from by rw [HOk.out.len, hlen])
  clear how hll hdist hb hge hlen HE HS2 HOd HOk g0 g1 g2 g3 g4 g5 g6 HT
  go_wp2_with fail
  go_loopw [10] (fun iv wr => ∃ (k : Nat) (l2 : List Int), k ≤ n ∧ iv = .int .i64 k ∧ l2.length = n ∧ (∀ i, k ≤ i → i < n → l2.getD i 0 = lw.getD i 0) ∧ Own wr gw 3 (nums .i64 l2) ∧ Exc (fun q => q = gw) w3 wr) (fun iv _ => n - (intOf iv).toNat)
  case atStart => exact ⟨0, lw, Nat.zero_le _, rfl, HLl.out, fun _ _ _ => rfl, HOw.out, Exc.refl _ _⟩
  case round =>
    obtain ⟨k, l2, hk, rfl, hl2, hun, how2, hxc⟩ := hrel
    have HL2 := Lib.hid hl2
    have HUn := Lib.hid hun
    have HOw2 := Lib.hid how2
    have HX2 := Lib.hid hxc
    by_cases hkn : k < n
    · have c0 := how2.cell k (by rw [nums_length, hl2]; exact hkn)
      rw [nums_getD _ _ _ (by rw [hl2]; exact hkn), hun k (Nat.le_refl _) hkn] at c0
      have c1 := hxc.cell (HOd3.out.cell k (by rw [nums_length, HLd.out]; exact hkn)) (by show ¬ gd = gw; omega)
      rw [nums_getD _ _ _ (by rw [HLd.out]; exact hkn)] at c1
      have hd := HDi.out k hkn
      have hr := HRng.out k hkn
      have ff := how2.frozen k
      obtain ⟨X, hX⟩ : ∃ X, X = lw.getD k 0 := ⟨_, rfl⟩
      obtain ⟨Y, hY⟩ : ∃ Y, Y = l.getD k 0 := ⟨_, rfl⟩
      rw [← hX] at c0 hd
      rw [← hY] at c1 hd hr
      have i0 : (0 : Int) ≤ (k : Int) := by omega
      have i1 : (k : Int) < (n : Int) := by omega
      by_cases h99 : X = 99
      · have hY1 : Y = -1 := by
          unfold d99 at hd
          split at hd <;> omega
        subst hY1
        subst h99
        have i2 : ((99 : Int) == 99) = true := by decide
        have hn := how2.set k (.int .i64 (-1))
        have hs := (Exc.refl (fun q => q = gw) wr).setCell ⟨gw, k, none⟩ (.inl rfl) (.int .i64 (-1))
        have d0 := hn.cell k (by rw [List.length_set, nums_length, hl2]; exact hkn)
        have d1 := hs.cell c1 (by show ¬ gd = gw; omega)
        rw [show ((nums .i64 l2).set k (.int .i64 (-1))).getD k undef = .int .i64 (-1) from by rw [List.getD_eq_getElem?_getD, List.getElem?_set_self (by rw [nums_length, hl2]; exact hkn)]; rfl] at d0
        have HN2 := Lib.hid hn
        have HX3 := Lib.hid (hxc.trans hs (fun _ _ hh => hh))
        clear hn hs hd hr hX hY hl2 hun how2 hxc
        go_wp2_with fail
        obtain ⟨W5, hW5⟩ : ∃ W5, W5 = wr.setCell ⟨gw, k, none⟩ (.int .i64 (-1)) := ⟨_, rfl⟩
        rw [← hW5] at d0 d1 ⊢
        rw [← hW5] at HN2 HX3
        clear hW5 c0 c1 ff i2
        go_quiet (fail)
        go_wp2_with fail
        refine ⟨⟨k + 1, l2.set k (-1), by omega, by go_num, by rw [List.length_set]; exact HL2.out, fun i hi hin => ?_, ?_, ?_⟩, by simp [intOf]; omega⟩
        · rw [List.getD_eq_getElem?_getD, List.getElem?_set_ne (by omega), ← List.getD_eq_getElem?_getD]; exact HUn.out i (by omega) hin
        · rw [← nums_set]; exact HN2.out.below (below_draw W5 nq) HN2.out.lt
        · exact HX3.out.trans (Exc.of_below (S := fun _ => False) (below_draw W5 nq)) (fun _ _ hh => hh.elim)
      · have hYX : Y = X := by
          unfold d99 at hd
          split at hd <;> omega
        subst hYX
        have i2 : (Y == 99) = false := by simpa using h99
        clear hd hr hX hY hl2 hun how2 hxc
        go_upto_region 12 with (fail)
        go_quiet (fail)
        go_wp2_with fail
        refine ⟨⟨k + 1, l2, by omega, by go_num, HL2.out, fun i hi hin => HUn.out i (by omega) hin, ?_, ?_⟩, by simp [intOf]; omega⟩
        · exact HOw2.out.below (below_draw wr nq) HOw2.out.lt
        · exact HX2.out.trans (Exc.of_below (S := fun _ => False) (below_draw wr nq)) (fun _ _ hh => hh.elim)
    · have i1 : ¬ (k : Int) < (n : Int) := by omega
      have HBe := Lib.hid (HS3.out.bel.trans (hxc.below HS3.out.bel.size (fun i _ hi => by have h1 := HOw.out.lt; have h2 := hdw; have h3 : i = gw := hi; have := HGw.out; omega)))
      clear hl2 hun how2 hxc
      go_wp2_with fail
      with_reducible refine (HL.out _).mono ?_
      rintro e w9 ⟨rfl, hb⟩
      have HB9 := Lib.hid (HBe.out.trans (hb.mono HBe.out.size))
      clear hb
      go_wp2
      go_ret
      exact ⟨rfl, HB9.out⟩
end Go.Proofs.Ytekaedmhdoijeaa
