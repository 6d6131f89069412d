import Derived.Test.YtdjmopipmeonlaaTgMk
import Derived.Test.YtdjmopipmeonlaaTgFlood
import Derived.Test.YtdjmopipmeonlaaTgChange
import Derived.Test.YtdjmopipmeonlaaTgRW
import Derived.Test.YtdjmopipmeonlaaTgSt
import Derived.Deep.Cut
import Derived.Deep.MidRow
import Derived.Deep.CutBlock
import Derived.BigQuiet
import Derived.Deep.RegionHeld3
import Derived.Deep.RegionLaw
import Derived.BigRegion
import Derived.IntWalk
/- TransfersFlood: when everything has been told, a destination is not prohibited exactly if a sequence of choices leads to it. -/
namespace Go.Proofs.Ytdjmopipmeonlaa
set_option linter.unusedVariables false
set_option linter.unusedVariables false
open Go.RowKit Go.Maps

set_option maxRecDepth 100000 in
set_option maxHeartbeats 8000000 in
theorem flood_walk (x : Nn) (s : Option Addr) (c : Nat) (a9 : Option Addr) (n9 c9 : Nat) (l9 : List (Nat × Nat × Bool)) (w : World) (hx : NnAt w x s c) (hw9 : KtRow w a9 n9 c9 l9) : Calls Try.prog 4 #[nnV x s c, .slice a9 n9 c9] w fun e w' => e = .returned (.bool true) ∧ Below w.heap.size w w' := by
  have hm9 := hw9.max
  have hle9 := hw9.le
  unfold maxLen at hm9
  have HW9 := Lib.hid hw9
  clear hw9
  have hOf := fun (W : World) (h : NnAt W x s c) => of_any x s c W h
  obtain ⟨p0, hp0⟩ : ∃ p, p = x.codes.getD 0 0 := ⟨_, rfl⟩
  obtain ⟨p1, hp1⟩ : ∃ p, p = x.codes.getD 1 0 := ⟨_, rfl⟩
  obtain ⟨p2, hp2⟩ : ∃ p, p = x.codes.getD 2 0 := ⟨_, rfl⟩
  obtain ⟨p3, hp3⟩ : ∃ p, p = x.codes.getD 3 0 := ⟨_, rfl⟩
  obtain ⟨p4, hp4⟩ : ∃ p, p = x.codes.getD 4 0 := ⟨_, rfl⟩
  obtain ⟨p5, hp5⟩ : ∃ p, p = x.codes.getD 5 0 := ⟨_, rfl⟩
  obtain ⟨t0, ht0⟩ : ∃ p, p = x.tree.getD 0 0 := ⟨_, rfl⟩
  obtain ⟨t1, ht1⟩ : ∃ p, p = x.tree.getD 1 0 := ⟨_, rfl⟩
  obtain ⟨t2, ht2⟩ : ∃ p, p = x.tree.getD 2 0 := ⟨_, rfl⟩
  obtain ⟨t3, ht3⟩ : ∃ p, p = x.tree.getD 3 0 := ⟨_, rfl⟩
  obtain ⟨t4, ht4⟩ : ∃ p, p = x.tree.getD 4 0 := ⟨_, rfl⟩
  obtain ⟨t5, ht5⟩ : ∃ p, p = x.tree.getD 5 0 := ⟨_, rfl⟩
  obtain ⟨m, hm⟩ : ∃ m, m = x.extra.length := ⟨_, rfl⟩
  have HCs : Hid (nnCells x s m c = [.int .u8 (x.many : Nat), .int .u8 (p0 : Nat), .int .u8 (p1 : Nat), .int .u8 (p2 : Nat), .int .u8 (p3 : Nat), .int .u8 (p4 : Nat), .int .u8 (p5 : Nat), .int .u8 (x.ends : Nat), .int .u8 (t0 : Nat), .int .u8 (t1 : Nat), .int .u8 (t2 : Nat), .int .u8 (t3 : Nat), .int .u8 (t4 : Nat), .int .u8 (t5 : Nat), .slice s m c, .int .u8 (x.rate : Nat), .int .u8 (x.room : Nat), .int .u8 (x.k0 : Nat), .int .u8 (x.k1 : Nat)]) := Lib.hid (by unfold nnCells; rw [hp0, hp1, hp2, hp3, hp4, hp5, ht0, ht1, ht2, ht3, ht4, ht5])
  unfold nnV at hOf ⊢
  rw [← hm, HCs.out] at hOf
  rw [← hm, HCs.out]
  have HOf := Lib.hid hOf
  have HXn := Lib.hid hx
  have HL := Lib.hid lives_any
  clear hOf hx hm hp0 hp1 hp2 hp3 hp4 hp5 ht0 ht1 ht2 ht3 ht4 ht5
  by_cases h60 : 12 < n9
  · have k60 : decide ((12 : Int) < (n9 : Int)) = true := by simp; omega
    have k61 : decide (12 < n9) = true := by simp; omega
    go_enter Try.func4, Try.ntmps4
    go_upto_region 1 with (fail)
    obtain ⟨W0, hW0⟩ : ∃ W0, W0 = w.alloc (.cells #[.int .u8 (x.many : Nat), .int .u8 (p0 : Nat), .int .u8 (p1 : Nat), .int .u8 (p2 : Nat), .int .u8 (p3 : Nat), .int .u8 (p4 : Nat), .int .u8 (p5 : Nat), .int .u8 (x.ends : Nat), .int .u8 (t0 : Nat), .int .u8 (t1 : Nat), .int .u8 (t2 : Nat), .int .u8 (t3 : Nat), .int .u8 (t4 : Nat), .int .u8 (t5 : Nat), .slice s m c, .int .u8 (x.rate : Nat), .int .u8 (x.room : Nat), .int .u8 (x.k0 : Nat), .int .u8 (x.k1 : Nat)] 26) := ⟨_, rfl⟩
    have hB0 : Below w.heap.size w W0 := by rw [hW0]; exact below_alloc w _
    have ho0 : Own W0 w.heap.size 26 [.int .u8 (x.many : Nat), .int .u8 (p0 : Nat), .int .u8 (p1 : Nat), .int .u8 (p2 : Nat), .int .u8 (p3 : Nat), .int .u8 (p4 : Nat), .int .u8 (p5 : Nat), .int .u8 (x.ends : Nat), .int .u8 (t0 : Nat), .int .u8 (t1 : Nat), .int .u8 (t2 : Nat), .int .u8 (t3 : Nat), .int .u8 (t4 : Nat), .int .u8 (t5 : Nat), .slice s m c, .int .u8 (x.rate : Nat), .int .u8 (x.room : Nat), .int .u8 (x.k0 : Nat), .int .u8 (x.k1 : Nat)] := by rw [hW0]; exact heap_alloc_new w _
    rw [← hW0]
    have HB0 := Lib.hid hB0
    clear hW0 ho0 hB0
    go_wp2_with fail
    with_reducible refine (HL.out W0).mono ?_
    rintro e w1 ⟨rfl, hb⟩
    have HB1 := Lib.hid (HB0.out.trans (hb.mono HB0.out.size))
    clear hb
    go_wp2
    go_ret
    exact ⟨rfl, HB1.out⟩
  have k60 : decide ((12 : Int) < (n9 : Int)) = false := by simp; omega
  have k61 : decide (12 < n9) = false := by simp; omega
  go_enter Try.func4, Try.ntmps4
  go_upto_region 1 with (fail)
  obtain ⟨W0, hW0⟩ : ∃ W0, W0 = w.alloc (.cells #[.int .u8 (x.many : Nat), .int .u8 (p0 : Nat), .int .u8 (p1 : Nat), .int .u8 (p2 : Nat), .int .u8 (p3 : Nat), .int .u8 (p4 : Nat), .int .u8 (p5 : Nat), .int .u8 (x.ends : Nat), .int .u8 (t0 : Nat), .int .u8 (t1 : Nat), .int .u8 (t2 : Nat), .int .u8 (t3 : Nat), .int .u8 (t4 : Nat), .int .u8 (t5 : Nat), .slice s m c, .int .u8 (x.rate : Nat), .int .u8 (x.room : Nat), .int .u8 (x.k0 : Nat), .int .u8 (x.k1 : Nat)] 26) := ⟨_, rfl⟩
  have hB0 : Below w.heap.size w W0 := by rw [hW0]; exact below_alloc w _
  have ho0 : Own W0 w.heap.size 26 [.int .u8 (x.many : Nat), .int .u8 (p0 : Nat), .int .u8 (p1 : Nat), .int .u8 (p2 : Nat), .int .u8 (p3 : Nat), .int .u8 (p4 : Nat), .int .u8 (p5 : Nat), .int .u8 (x.ends : Nat), .int .u8 (t0 : Nat), .int .u8 (t1 : Nat), .int .u8 (t2 : Nat), .int .u8 (t3 : Nat), .int .u8 (t4 : Nat), .int .u8 (t5 : Nat), .slice s m c, .int .u8 (x.rate : Nat), .int .u8 (x.room : Nat), .int .u8 (x.k0 : Nat), .int .u8 (x.k1 : Nat)] := by rw [hW0]; exact heap_alloc_new w _
  rw [← hW0]
  have HRa := Lib.hid (range_own ho0)
  have HB0 := Lib.hid hB0
  clear hW0 ho0 hB0
  go_upto_region 3 with (fail)
  iterate 2 go_step
  refine wp_load_mid 26 (.tmp 2) (by rfl) w.heap.size 0 (by rfl) [.int .u8 (x.many : Nat), .int .u8 (p0 : Nat), .int .u8 (p1 : Nat), .int .u8 (p2 : Nat), .int .u8 (p3 : Nat), .int .u8 (p4 : Nat), .int .u8 (p5 : Nat), .int .u8 (x.ends : Nat), .int .u8 (t0 : Nat), .int .u8 (t1 : Nat), .int .u8 (t2 : Nat), .int .u8 (t3 : Nat), .int .u8 (t4 : Nat), .int .u8 (t5 : Nat), .slice s m c, .int .u8 (x.rate : Nat), .int .u8 (x.room : Nat), .int .u8 (x.k0 : Nat), .int .u8 (x.k1 : Nat)] _ HRa.out Try.underlying26 (by rfl) (by kernel_rfl) ?_
  go_wp2_with fail
  with_reducible refine (HOf.out _ (HXn.out.later HB0.out)).mono ?_
  rintro e w1 ⟨p, aP, n, cP, aL, m2, cL, hPF, rfl, hP, hL, hb⟩
  have hb0 : Below w.heap.size w w1 := HB0.out.trans (hb.mono HB0.out.size)
  obtain ⟨b, hbz⟩ : ∃ b, b = w1.heap.size := ⟨_, rfl⟩
  have hn2 := hPF.n2
  have hn6 := hPF.n6
  have hcap := hP.le
  have hcap2 := hP.max
  have hcap3 := hL.le
  have hcap4 := hL.max
  unfold maxLen at hcap2 hcap4
  have HPF := Lib.hid hPF
  clear HOf
  go_upto_region 4 with (fail)
  obtain ⟨W, hW⟩ : ∃ W, W = w1.alloc (.cells #[.slice aP n cP, .slice aL m2 cL, .int .i64 p.rate, .int .i64 p.room, .int .i64 p.m0, .int .i64 p.m1, .int .i64 p.m2] 33) := ⟨_, rfl⟩
  have hst : St w p b aP n cP aL m2 cL W := by rw [hW, hbz]; exact St.new hP hL hb0
  rw [← hW, ← hbz]
  obtain ⟨g0, g1, g2, g3, g4, g5, g6⟩ := hst.box.cells
  have HS := Lib.hid hst
  clear hP hL hb hb0 hW hbz hPF
  obtain ⟨b2, off, rfl, _⟩ := HS.out.code (by omega)
  have HQr := Lib.hid (HW9.out.later HS.out.bel)
  have hmk := make_sb n (by omega) W
  obtain ⟨W1, hW1⟩ : ∃ W1, W1 = W.alloc (.cells (madeCells #[.slice none 0 0] n) 68) := ⟨_, rfl⟩
  obtain ⟨ub, hub⟩ : ∃ u, u = W.heap.size := ⟨_, rfl⟩
  have H1 := Lib.hid (Mk.start W n (fun _ => ⟨0, none, 0, none, 0, 0, 0, 0, 0, fun _ => undef, 0⟩) (fun _ => ⟨0, false, [], [], fun _ => [], fun _ => false, fun _ _ => 0, fun _ _ => 0⟩) (fun _ => 0) (fun _ => 0) (fun _ _ => false))
  rw [← hW1, ← hub] at hmk H1
  clear hW1 hub HW9
  go_wp2_with fail
  clear hmk g0 g1 g2 g3 g4 g5 g6
  go_loopw [7, 9] (fun v iv wr => ∃ (i : Nat) (ys : Nat → Tl) (Ts : Nat → Tb) (los rows : Nat → Nat) (U : Nat → Nat → Bool), i ≤ n ∧ iv = .int .i64 i ∧ Mk W n i i i ys Ts los v ub rows U wr ∧ One p n i Ts U) (fun _ iv _ => n - (intOf iv).toNat)
  case atStart => exact ⟨0, _, _, _, _, _, Nat.zero_le _, rfl, H1.out, One.start _ _ _ _⟩
  case round =>
    obtain ⟨i, ys, Ts, los, rows, U, hi, rfl, hM, hO⟩ := hrel
    clear H1
    have HM := Lib.hid hM
    have HO := Lib.hid hO
    by_cases hin : i < n
    · have hst := HS.out.later hM.bel
      obtain ⟨g0, g1, g2, g3, g4, g5, g6⟩ := hst.box.cells
      obtain ⟨b3, off3, e3, hcs⟩ := hst.code (by omega)
      cases e3
      have v0 := (hcs i hin).1
      have i0 : (0 : Int) ≤ (i : Int) := by omega
      have i1 : (i : Int) < (n : Int) := by omega
      obtain ⟨t, ht⟩ : ∃ t, t = pc p.P i := ⟨_, rfl⟩
      rw [← ht] at v0
      have hN := new_pl HPF.out hin (some ⟨b2, off, none⟩) cP aL cL wr.drew (hst.row.later (below_draw wr 1)) (hst.lrow.later (below_draw wr 1))
      rw [← ht] at hN
      unfold planV at hN
      have HN := Lib.hid hN
      have HT := Lib.hid ht
      have HK := Lib.hid (And.intro g0 (And.intro g1 (And.intro g2 (And.intro g3 (And.intro g4 (And.intro g5 (And.intro g6 v0)))))))
      clear hN ht hM hO hst hcs
      go_upto_region 10 with (fail)
      go_region_held3 (fun w' => w'.cell? ⟨b, 0, none⟩ = some (.slice (some ⟨b2, off, none⟩) n cP) ∧ w'.cell? ⟨b, 1, none⟩ = some (.slice aL m2 cL) ∧ w'.cell? ⟨b, 2, none⟩ = some (.int .i64 p.rate) ∧ w'.cell? ⟨b, 3, none⟩ = some (.int .i64 p.room) ∧ w'.cell? ⟨b, 4, none⟩ = some (.int .i64 p.m0) ∧ w'.cell? ⟨b, 5, none⟩ = some (.int .i64 p.m1) ∧ w'.cell? ⟨b, 6, none⟩ = some (.int .i64 p.m2) ∧ w'.cell? ⟨b2, off + i * 2, none⟩ = some (.int .u16 t)) (first | exact HK.out | (go_keep; done))
        (first
          | ((with_reducible refine HN.out.mono ?_); rintro e w4 ⟨y, T, rfl, htb, hI, hu, hto, hsa, hnt, hb, hlo⟩; have hb4 := (below_draw wr 1).trans (hb.mono (below_draw wr 1).size); have hM4 := HM.out.table hb4 htb hnt hlo; have hst4 := HS.out.later hM4.bel; obtain ⟨g0, g1, g2, g3, g4, g5, g6⟩ := hst4.box.cells; obtain ⟨b4, off4, hab, hcs⟩ := hst4.code (by omega); cases hab; have v0 := (hcs i hin).1; rw [← HT.out] at v0; have HK := Lib.hid (And.intro g0 (And.intro g1 (And.intro g2 (And.intro g3 (And.intro g4 (And.intro g5 (And.intro g6 v0))))))); have HM4 := Lib.hid hM4; have HNw := Lib.hid (And.intro hI (And.intro hu (And.intro hto hsa))); clear hst4 htb hI hu hto hsa hnt hb hb4 hlo hcs hM4)
          | fail)
      clear HN
      obtain ⟨ys1, hys1⟩ : ∃ z, z = updN ys i y := ⟨_, rfl⟩
      obtain ⟨Ts1, hTs1⟩ : ∃ z, z = updN Ts i T := ⟨_, rfl⟩
      obtain ⟨los1, hlo1⟩ : ∃ z, z = updN los i wr.heap.size := ⟨_, rfl⟩
      rw [← hys1, ← hTs1, ← hlo1] at HM4
      have hy1 : (ys1 i).tb = y.tb := by rw [hys1, updN_same]
      have HO1 : Hid (∀ U1 : Nat → Nat → Bool, (∀ j, j < i → U1 j = U j) → (∀ k, k < n → U1 i k = decide (pc p.P k ∈ nbrs p (pc p.P i))) → One p n (i + 1) Ts1 U1) := Lib.hid (fun U1 h1 h2 => by
        refine ⟨fun j hj => ?_, fun j hj => ?_, fun j hj k hk => ?_⟩
        · by_cases e : j = i
          · subst e; rw [hTs1, updN_same]; exact HNw.out.1
          · rw [hTs1, updN_lt e]; exact HO.out.inv j (by omega)
        · by_cases e : j = i
          · subst e; rw [hTs1, updN_same]; exact HNw.out.2
          · rw [hTs1, updN_lt e]; exact HO.out.new j (by omega)
        · by_cases e : j = i
          · subst e; exact h2 k hk
          · rw [h1 j (by omega)]; exact HO.out.u j (by omega) k hk)
      have HY := Lib.hid hy1
      clear hys1 hTs1 hlo1 hy1 HNw HO HM
      go_upto_region 14 with (at_builtin; refine wpList_append_tb Try.underlying66 rfl _ _ rfl W.heap.size _ _ _ _ rfl (by exact HM4.out.lrow) rfl (by have h77 := HPF.out.n6; omega) HM4.out.bel.size ?_; intro v5 w5 ho hg hgc)
      rw [← HY.out, ← ptrs_succ] at ho
      have HM5 := Lib.hid (HM4.out.push (Nat.lt_succ_self i) ho hg)
      clear ho hg g0 g1 g2 g3 g4 g5 g6 v0 HK
      have hmk := make_bl n (by have h77 := HPF.out.n6; omega) w5
      obtain ⟨w6, hw6⟩ : ∃ z, z = w5.alloc (.cells (madeCells #[.bool false] n) 4) := ⟨_, rfl⟩
      have hM6 := HM5.out.below (w' := w6) (by rw [hw6]; exact below_alloc w5 _)
      have hc6 := hM6.top.cell i (by rw [tops_length]; exact hin)
      rw [tops_getD rows hin, if_neg (Nat.lt_irrefl i)] at hc6
      have hf6 := hM6.top.frozen i
      have hA := HM5.out.addRow hin
      rw [← hw6] at hmk hA
      obtain ⟨rb, hrb⟩ : ∃ r, r = w5.heap.size := ⟨_, rfl⟩
      rw [← hrb] at hmk hA
      obtain ⟨rows1, hr1⟩ : ∃ z, z = updN rows i rb := ⟨_, rfl⟩
      have hri : rows1 i = rb := by rw [hr1, updN_same]
      have hA2 : ∃ U1, (∀ j, j < i → U1 j = U j) ∧ Mk W n (i + 1) (i + 1) (i + 1) ys1 Ts1 los1 v5 ub rows1 U1 (w6.setCell ⟨ub, i, none⟩ (.slice (some ⟨rb, 0, none⟩) n n)) := ⟨updN U i fun _ => false, fun j hj => updN_lt (Nat.ne_of_lt hj), by rw [hr1]; exact hA⟩
      have HA2 := Lib.hid hA2
      have HRi := Lib.hid hri
      clear hM6 hA hw6 hrb hr1 hri hA2 HM4 HM5 HY hgc
      go_wp2_with fail
      clear hmk hc6 hf6
      go_loopw [12] (fun v wr => ∃ (k : Nat) (U1 : Nat → Nat → Bool), k ≤ n ∧ v = .int .i64 k ∧ Mk W n (i + 1) (i + 1) (i + 1) ys1 Ts1 los1 v5 ub rows1 U1 wr ∧ (∀ j, j < i → U1 j = U j) ∧ ∀ q, q < k → U1 i q = decide (pc p.P q ∈ nbrs p (pc p.P i))) (fun v _ => n - (intOf v).toNat)
      case atStart =>
        obtain ⟨U1, h1, h2⟩ := HA2.out
        exact ⟨0, U1, Nat.zero_le _, rfl, h2, h1, fun q hq => absurd hq (Nat.not_lt_zero _)⟩
      case round =>
        obtain ⟨k, U1, hk, rfl, hM, hU1, hU2⟩ := hrel
        clear HA2
        have HM := Lib.hid hM
        have HU1 := Lib.hid (And.intro hU1 hU2)
        by_cases hkn : k < n
        · have hst := HS.out.later hM.bel
          obtain ⟨g0, g1, g2, g3, g4, g5, g6⟩ := hst.box.cells
          obtain ⟨b3, off3, e3, hcs⟩ := hst.code (by omega)
          cases e3
          have v0 := (hcs i hin).1
          have v1 := (hcs k hkn).1
          have k0 : (0 : Int) ≤ (k : Int) := by omega
          have k1 : (k : Int) < (n : Int) := by omega
          obtain ⟨u, hu⟩ : ∃ u, u = pc p.P k := ⟨_, rfl⟩
          have hL := links_q HPF.out hin hkn (some ⟨b2, off, none⟩) cP aL cL wr.drew (hst.row.later (below_draw wr 1)) (hst.lrow.later (below_draw wr 1))
          rw [← HT.out] at v0 hL
          rw [← hu] at v1 hL
          unfold planV at hL
          have HLk := Lib.hid hL
          have HU := Lib.hid hu
          have HK := Lib.hid (And.intro g0 (And.intro g1 (And.intro g2 (And.intro g3 (And.intro g4 (And.intro g5 (And.intro g6 (And.intro v0 v1))))))))
          clear hL hu hM hU1 hU2 hst hcs
          go_upto_region 18 with (fail)
          go_region_held3 (fun w' => w'.cell? ⟨b, 0, none⟩ = some (.slice (some ⟨b2, off, none⟩) n cP) ∧ w'.cell? ⟨b, 1, none⟩ = some (.slice aL m2 cL) ∧ w'.cell? ⟨b, 2, none⟩ = some (.int .i64 p.rate) ∧ w'.cell? ⟨b, 3, none⟩ = some (.int .i64 p.room) ∧ w'.cell? ⟨b, 4, none⟩ = some (.int .i64 p.m0) ∧ w'.cell? ⟨b, 5, none⟩ = some (.int .i64 p.m1) ∧ w'.cell? ⟨b, 6, none⟩ = some (.int .i64 p.m2) ∧ w'.cell? ⟨b2, off + i * 2, none⟩ = some (.int .u16 t) ∧ w'.cell? ⟨b2, off + k * 2, none⟩ = some (.int .u16 u)) (first | exact HK.out | (go_keep; done))
            (first
              | ((with_reducible refine HLk.out.mono ?_); rintro e w8 ⟨ak, L, E, rfl, hLi, hLm, hb⟩; have hM8 := HM.out.below ((below_draw wr 1).trans (hb.mono (below_draw wr 1).size)); have hst8 := HS.out.later hM8.bel; obtain ⟨g0, g1, g2, g3, g4, g5, g6⟩ := hst8.box.cells; obtain ⟨b4, off4, hab, hcs⟩ := hst8.code (by omega); cases hab; have v0 := (hcs i hin).1; have v1 := (hcs k hkn).1; rw [← HT.out] at v0; rw [← HU.out] at v1; have HK := Lib.hid (And.intro g0 (And.intro g1 (And.intro g2 (And.intro g3 (And.intro g4 (And.intro g5 (And.intro g6 (And.intro v0 v1)))))))); have HM8 := Lib.hid hM8; have HLi := Lib.hid (And.intro hLi hLm); clear hst8 hM8 hLi hLm hb hcs)
              | fail)
          clear HLk HK g0 g1 g2 g3 g4 g5 g6 v0 v1
          have d0 := HM8.out.top.cell i (by rw [tops_length]; exact hin)
          rw [tops_getD rows1 hin, if_pos (Nat.lt_succ_self i)] at d0
          have d1 := (HM8.out.row i (Nat.lt_succ_self i)).cell hkn
          have d2 := (HM8.out.row i (Nat.lt_succ_self i)).frozen k
          have HSt := Lib.hid (fun (bv : Bool) => HM8.out.setRow (Nat.lt_succ_self i) k bv)
          by_cases hL0 : 0 < L
          · have q0 : decide ((0 : Int) < (L : Int)) = true := by simp; omega
            have q1 : decide (0 < L) = true := by simp; omega
            have HNx : Hid (∀ q, q < k + 1 → updN U1 i (updB (U1 i) k true) i q = decide (pc p.P q ∈ nbrs p (pc p.P i))) := Lib.hid (fun q hq => by
              rw [updN_same]
              unfold updB
              by_cases e : q = k
              · subst e; rw [if_pos rfl, decide_eq_true (HLi.out.1.1 hL0)]
              · rw [if_neg e]; exact HU1.out.2 q (by omega))
            clear hL0
            go_wp2_with fail
            exact ⟨⟨k + 1, _, by omega, by go_num, HSt.out true, fun j hj => by rw [updN_lt (Nat.ne_of_lt hj)]; exact HU1.out.1 j hj, HNx.out⟩, by simp [intOf]; omega⟩
          · obtain rfl : L = 0 := by omega
            have HNx : Hid (∀ q, q < k + 1 → updN U1 i (updB (U1 i) k false) i q = decide (pc p.P q ∈ nbrs p (pc p.P i))) := Lib.hid (fun q hq => by
              rw [updN_same]
              unfold updB
              by_cases e : q = k
              · subst e; rw [if_pos rfl, decide_eq_false fun h9 => hL0 (HLi.out.1.2 h9)]
              · rw [if_neg e]; exact HU1.out.2 q (by omega))
            clear hL0
            go_wp2_with fail
            exact ⟨⟨k + 1, _, by omega, by go_num, HSt.out false, fun j hj => by rw [updN_lt (Nat.ne_of_lt hj)]; exact HU1.out.1 j hj, HNx.out⟩, by simp [intOf]; omega⟩
        · obtain rfl : k = n := by omega
          have hone := HO1.out U1 hU1 hU2
          have HNx := Lib.hid (And.intro hM hone)
          clear hM hU1 hU2 hone HM HU1
          go_wp2_with fail
          exact ⟨⟨i + 1, ys1, Ts1, los1, rows1, U1, by omega, by go_num, HNx.out.1, HNx.out.2⟩, by simp [intOf]; omega⟩
    · have e : n = i := by omega
      subst e
      obtain ⟨lb, lc, rfl⟩ := hM.list (by omega)
      obtain ⟨h, hh⟩ := hgt_ex HPF.out hO.inv
      have hNet := hO.net HPF.out
      have hM0 := hM.congrU (U' := setAll n U) (fun j hj k hk => if_pos ⟨hj, hk⟩)
      have hst := HS.out.later hM.bel
      have hfl := flood_any HPF.out hh (some ⟨b2, off, none⟩) cP aL cL lb lc ys Ts wr hNet hM0.tabs hst.row hM0.trow
      unfold planV at hfl
      have HFl := Lib.hid hfl
      have HMf := Lib.hid (And.intro hM0 hNet)
      have HH := Lib.hid hh
      obtain ⟨g0, g1, g2, g3, g4, g5, g6⟩ := hst.box.cells
      clear hM hO HM HO hNet hM0 hst hfl hh
      go_wp2_with fail
      with_reducible refine HFl.out.mono ?_
      rintro e w6 ⟨rfl, Tf, hTf, hNf, hToldf, hxf⟩
      have hMf := HMf.out.1.acted hTf (fun j hj => by rw [(hNf.inv j hj).D, (HMf.out.2.inv j hj).D]) hxf
      obtain ⟨U0, hU0⟩ : ∃ u, u = setAll n U := ⟨_, rfl⟩
      rw [← hU0] at hMf hNf
      have H6 := Lib.hid (And.intro hMf hNf)
      clear hMf hNf hTf hToldf hxf hU0 HFl HMf g0 g1 g2 g3 g4 g5 g6
      go_wp2_with fail
      go_loopw [15] (fun v wr => ∃ (ci : Nat) (Ts : Nat → Tb) (U : Nat → Nat → Bool), ci ≤ n9 ∧ v = .int .i64 ci ∧ Mk W n n n n ys Ts los (.slice (some ⟨lb, 0, none⟩) n lc) ub rows U wr ∧ Net p n U Ts) (fun v _ => n9 - (intOf v).toNat)
      case atStart => exact ⟨0, Tf, U0, Nat.zero_le _, rfl, H6.out.1, H6.out.2⟩
      case round =>
        obtain ⟨ci, Tc, Uc, hci, rfl, hM, hN⟩ := hrel
        clear H6
        have HM := Lib.hid (And.intro hM hN)
        by_cases hin : ci < n9
        · have hst := HS.out.later hM.bel
          obtain ⟨g0, g1, g2, g3, g4, g5, g6⟩ := hst.box.cells
          obtain ⟨b3, off3, e3, hcs⟩ := hst.code (by omega)
          cases e3
          obtain ⟨b9, off9, rfl, hq9⟩ := (HQr.out.later hM.bel).cells.resolve_left (by omega)
          obtain ⟨c0, c1, c2⟩ := hq9 ci hin
          have hwf := HQr.out.wf (l9.getD ci (0, 0, false)) (by rw [List.getD_eq_getElem?_getD, List.getElem?_eq_getElem (by have := HQr.out.len; omega)]; exact List.getElem_mem _)
          obtain ⟨zA, hzA⟩ : ∃ z, z = (l9.getD ci (0, 0, false)).1 := ⟨_, rfl⟩
          obtain ⟨zB, hzB⟩ : ∃ z, z = (l9.getD ci (0, 0, false)).2.1 := ⟨_, rfl⟩
          obtain ⟨zU, hzU⟩ : ∃ z, z = (l9.getD ci (0, 0, false)).2.2 := ⟨_, rfl⟩
          rw [← hzA] at c0 hwf
          rw [← hzB] at c1 hwf
          rw [← hzU] at c2
          have HZ := Lib.hid (And.intro hzA (And.intro hzB hzU))
          clear hzA hzB hzU hq9
          obtain ⟨qa, hqa⟩ : ∃ q, q = zA % n := ⟨_, rfl⟩
          have qan : qa < n := by rw [hqa]; exact Nat.mod_lt _ (by omega)
          have qar : (zA : Int).tmod (n : Int) = (qa : Int) := by rw [hqa, Int.tmod_eq_emod_of_nonneg (by omega)]; simp
          have qas : (zA : Int) % (n : Int) = (qa : Int) := by rw [hqa]; simp
          have qat : IntKind.i64.wrap (zA : Int) = (zA : Int) := IntWalk.i64_in _ (by omega)
          have qau : IntKind.i64.wrap (qa : Int) = (qa : Int) := IntWalk.i64_in _ (by omega)
          have qa0 : (0 : Int) ≤ (qa : Int) := by omega
          have qa1 : (qa : Int) < (n : Int) := by omega
          clear hqa
          obtain ⟨qb, hqb⟩ : ∃ q, q = zB % n := ⟨_, rfl⟩
          have qbn : qb < n := by rw [hqb]; exact Nat.mod_lt _ (by omega)
          have qbr : (zB : Int).tmod (n : Int) = (qb : Int) := by rw [hqb, Int.tmod_eq_emod_of_nonneg (by omega)]; simp
          have qbs : (zB : Int) % (n : Int) = (qb : Int) := by rw [hqb]; simp
          have qbt : IntKind.i64.wrap (zB : Int) = (zB : Int) := IntWalk.i64_in _ (by omega)
          have qbu : IntKind.i64.wrap (qb : Int) = (qb : Int) := IntWalk.i64_in _ (by omega)
          have qb0 : (0 : Int) ≤ (qb : Int) := by omega
          have qb1 : (qb : Int) < (n : Int) := by omega
          clear hqb
          have n1 : ¬ (n : Int) = 0 := by omega
          have n2 : ((n : Int) == 0) = false := by simpa using n1
          have n3 : ¬ n = 0 := by omega
          have n4 : (n == 0) = false := by simpa using n3
          have ci0 : (0 : Int) ≤ (ci : Int) := by omega
          have ci1 : (ci : Int) < (n9 : Int) := by omega
          have v0 := (hcs qa qan).1
          have v1 := (hcs qb qbn).1
          obtain ⟨ua, hua⟩ : ∃ u, u = pc p.P qa := ⟨_, rfl⟩
          obtain ⟨uc, huc⟩ : ∃ u, u = pc p.P qb := ⟨_, rfl⟩
          have hL := links_q HPF.out qan qbn (some ⟨b2, off, none⟩) cP aL cL wr.drew (hst.row.later (below_draw wr 1)) (hst.lrow.later (below_draw wr 1))
          rw [← hua] at v0 hL
          rw [← huc] at v1 hL
          unfold planV at hL
          have HLk := Lib.hid hL
          have HUU := Lib.hid (And.intro hua huc)
          have HK := Lib.hid (And.intro g0 (And.intro g1 (And.intro g2 (And.intro g3 (And.intro g4 (And.intro g5 (And.intro g6 (And.intro v0 v1))))))))
          clear hL hua huc hM hN hst hcs
          go_upto_region 27 with (fail)
          clear qar qas qat qbr qbs qbt n1 n2 n3 n4 c0 c1
          go_region_held3 (fun w' => w'.cell? ⟨b, 0, none⟩ = some (.slice (some ⟨b2, off, none⟩) n cP) ∧ w'.cell? ⟨b, 1, none⟩ = some (.slice aL m2 cL) ∧ w'.cell? ⟨b, 2, none⟩ = some (.int .i64 p.rate) ∧ w'.cell? ⟨b, 3, none⟩ = some (.int .i64 p.room) ∧ w'.cell? ⟨b, 4, none⟩ = some (.int .i64 p.m0) ∧ w'.cell? ⟨b, 5, none⟩ = some (.int .i64 p.m1) ∧ w'.cell? ⟨b, 6, none⟩ = some (.int .i64 p.m2) ∧ w'.cell? ⟨b2, off + qa * 2, none⟩ = some (.int .u16 ua) ∧ w'.cell? ⟨b2, off + qb * 2, none⟩ = some (.int .u16 uc)) (first | exact HK.out | (go_keep; done))
            (first
              | ((with_reducible refine HLk.out.mono ?_); rintro e w8 ⟨ak, L, E, rfl, hLi, hLm, hb⟩; have hM8 := HM.out.1.below ((below_draw wr 1).trans (hb.mono (below_draw wr 1).size)); have hst8 := HS.out.later hM8.bel; obtain ⟨g0, g1, g2, g3, g4, g5, g6⟩ := hst8.box.cells; obtain ⟨b4, off4, hab, hcs⟩ := hst8.code (by omega); cases hab; have v0 := (hcs qa qan).1; have v1 := (hcs qb qbn).1; rw [← HUU.out.1] at v0; rw [← HUU.out.2] at v1; have HK := Lib.hid (And.intro g0 (And.intro g1 (And.intro g2 (And.intro g3 (And.intro g4 (And.intro g5 (And.intro g6 (And.intro v0 v1)))))))); have HM8 := Lib.hid (And.intro hM8 HM.out.2); have HLi := Lib.hid (And.intro hLi hLm); clear hst8 hM8 hLi hLm hb hcs)
              | fail)
          clear HLk HK HM g0 g1 g2 g3 g4 g5 g6 v0 v1 c2
          have hcut := (HQr.out.later HM8.out.1.bel).cells.resolve_left (by omega)
          obtain ⟨b9', off9', e9, hq9⟩ := hcut
          cases e9
          have c2 := (hq9 ci hin).2.2
          rw [← HZ.out.2.2] at c2
          have d0 := HM8.out.1.upt.top qa qan
          have d1 := (HM8.out.1.row qa qan).cell qbn
          obtain ⟨Bu, hBu⟩ : ∃ z, z = Uc qa qb := ⟨_, rfl⟩
          rw [← hBu] at d1
          have HBu := Lib.hid hBu
          clear hq9 hBu
          have HSkip : Hid (∀ V, Below w8.heap.size w8 V → ∃ (c1 : Nat) (Ts : Nat → Tb) (U : Nat → Nat → Bool), c1 ≤ n9 ∧ Value.int .i64 ((ci : Int) + 1) = .int .i64 c1 ∧ Mk W n n n n ys Ts los (.slice (some ⟨lb, 0, none⟩) n lc) ub rows U V ∧ Net p n U Ts) := Lib.hid (fun V hV => ⟨ci + 1, Tc, Uc, by omega, by go_num, HM8.out.1.below hV, HM8.out.2⟩)
          go_upto_region 28 with (fail)
          by_cases hL0 : L = 0
          · subst hL0
            go_quiet (fail)
            go_wp2_with fail
            exact ⟨HSkip.out _ (below_draw w8 _), by simp [intOf]; omega⟩
          · have l1 : ¬ (L : Int) = 0 := by omega
            have l2 : ((L : Int) == 0) = false := by simpa using l1
            by_cases hBZ : Bu = zU
            · subst hBZ
              have l3 : (Bu == Bu) = true := by simp
              go_quiet (fail)
              go_wp2_with fail
              exact ⟨HSkip.out _ (below_draw w8 _), by simp [intOf]; omega⟩
            · have l3 : (Bu == zU) = false := by simpa using hBZ
              go_quiet (fail)
              generalize hV : World.drewN _ _ = V
              have hb8 : Below w8.heap.size w8 V := by rw [← hV]; exact below_draw w8 _
              have HBV := Lib.hid hb8
              clear hV hb8 HSkip c2 d0 d1 l1 l2 l3
              have hMV := HM8.out.1.below HBV.out
              have hMd := hMV.below (below_draw V 1)
              have hstV := HS.out.later hMV.bel
              have hstd := HS.out.later hMd.bel
              obtain ⟨g0, g1, g2, g3, g4, g5, g6⟩ := hstV.box.cells
              have hcut := (HQr.out.later hMV.bel).cells.resolve_left (by omega)
              obtain ⟨b9', off9', e9, hq9⟩ := hcut
              cases e9
              have c2 := (hq9 ci hin).2.2
              rw [← HZ.out.2.2] at c2
              have hnb : pc p.P qb ∈ nbrs p (pc p.P qa) := HLi.out.1.1 (by omega)
              have hab : qb ≠ qa := fun e9 => by
                subst e9
                rw [mem_nbrs HPF.out.valid] at hnb
                have h9 := near_self HPF.out.valid (pc p.P qb)
                unfold nearB at h9
                exact absurd hnb (of_decide_eq_false h9)
              have hNin : pc p.P qb ∈ (Tc qa).N := by rw [(HM8.out.2.inv qa qan).N]; exact hnb
              have hch := change_any HPF.out (some ⟨b2, off, none⟩) cP aL cL lb lc ys Tc V.drew HM8.out.2 hMd.tabs hstd.row hMd.trow qan qbn hab hNin zU
              unfold planV at hch
              have HCh := Lib.hid hch
              have HAb := Lib.hid hab
              have HMd := Lib.hid hMd
              have HK := Lib.hid (And.intro g0 (And.intro g1 (And.intro g2 (And.intro g3 (And.intro g4 (And.intro g5 (And.intro g6 c2)))))))
              clear hMV hMd hstV hstd hq9 hnb hab hNin hch HLi
              go_upto_region 29 with (fail)
              go_region_held3 (fun w' => w'.cell? ⟨b, 0, none⟩ = some (.slice (some ⟨b2, off, none⟩) n cP) ∧ w'.cell? ⟨b, 1, none⟩ = some (.slice aL m2 cL) ∧ w'.cell? ⟨b, 2, none⟩ = some (.int .i64 p.rate) ∧ w'.cell? ⟨b, 3, none⟩ = some (.int .i64 p.room) ∧ w'.cell? ⟨b, 4, none⟩ = some (.int .i64 p.m0) ∧ w'.cell? ⟨b, 5, none⟩ = some (.int .i64 p.m1) ∧ w'.cell? ⟨b, 6, none⟩ = some (.int .i64 p.m2) ∧ w'.cell? ⟨b9, off9 + ci * 3 + 2, none⟩ = some (.bool zU)) (first | exact HK.out | (go_keep; done))
                (first
                  | ((with_reducible refine HCh.out.mono ?_); rintro e w10 ⟨rfl, T10, hT10, hN10, hx10⟩; have hM10 := HMd.out.acted hT10 (fun j hj => by rw [(hN10.inv j hj).D, (HM8.out.2.inv j hj).D]) hx10; have hst10 := HS.out.later hM10.bel; obtain ⟨g0, g1, g2, g3, g4, g5, g6⟩ := hst10.box.cells; obtain ⟨bz, oz, ez, hqz⟩ := (HQr.out.later hM10.bel).cells.resolve_left (by omega); cases ez; have c2 := (hqz ci hin).2.2; rw [← HZ.out.2.2] at c2; have HK := Lib.hid (And.intro g0 (And.intro g1 (And.intro g2 (And.intro g3 (And.intro g4 (And.intro g5 (And.intro g6 c2))))))); have HM10 := Lib.hid (And.intro hM10 hN10); clear hst10 hM10 hqz hT10 hN10 hx10)
                  | fail)
              clear HCh HMd HM8 g0 g1 g2 g3 g4 g5 g6
              clear c2
              have m0 := HM10.out.1.upt.top qa qan
              have m1 := (HM10.out.1.row qa qan).cell qbn
              have m2 := (HM10.out.1.row qa qan).frozen qb
              have m3 := HK.out.2.2.2.2.2.2.2
              go_upto_region 31 with (fail)
              go_region
              clear m0 m1 m2 m3
              go_upto_region 32 with (fail)
              generalize hW11 : World.setCell _ _ _ = w11
              have hM11 := HM10.out.1.setRow qan qb zU
              rw [hW11] at hM11
              have HM11 := Lib.hid (And.intro hM11 HM10.out.2)
              obtain ⟨bz, oz, ez, hqz⟩ := (HQr.out.later hM11.bel).cells.resolve_left (by omega)
              cases ez
              have hcz := (hqz ci hin).2.2
              rw [← HZ.out.2.2] at hcz
              have m0 := hM11.upt.top qb qbn
              have m1 := (hM11.row qb qbn).cell qan
              have m2 := (hM11.row qb qbn).frozen qa
              have m3 := hcz
              clear hW11 hM11 hqz hcz HK HM10
              go_region
              clear m0 m1 m2 m3
              go_upto_region 33 with (fail)
              generalize hW12 : World.setCell _ _ _ = w12
              have hM12 := HM11.out.1.setRow qbn qa zU
              rw [hW12] at hM12
              have hM12 := hM12.congrU (U' := setU Uc qa qb zU) (fun j hj k hk => by
                unfold setU
                by_cases e1 : j = qa
                · subst e1
                  rw [updN_lt (Ne.symm HAb.out), updN_same]
                  unfold updB
                  by_cases e2 : k = qb
                  · rw [if_pos e2, if_pos (.inl ⟨rfl, e2⟩)]
                  · rw [if_neg e2, if_neg (by have := HAb.out; omega)]
                · by_cases e3 : j = qb
                  · subst e3
                    rw [updN_same]
                    unfold updB
                    by_cases e2 : k = qa
                    · rw [if_pos e2, if_pos (.inr ⟨rfl, e2⟩)]
                    · rw [if_neg e2, if_neg (by omega), updN_lt e1]
                  · rw [updN_lt e3, updN_lt e1, if_neg (by omega)])
              obtain ⟨U12, hU12⟩ : ∃ u, u = setU Uc qa qb zU := ⟨_, rfl⟩
              have hN12 := HM11.out.2
              rw [← hU12] at hM12 hN12
              have hst := HS.out.later hM12.bel
              have hMd := (hM12.below (below_draw w12 1)).below (below_draw (w12.drewN 1) 1)
              have hstd := HS.out.later hMd.bel
              have hfl := flood_any HPF.out HH.out (some ⟨b2, off, none⟩) cP aL cL lb lc ys _ w12.drew.drew hN12 hMd.tabs hstd.row hMd.trow
              unfold planV at hfl
              have HFl := Lib.hid hfl
              have HMf := Lib.hid (And.intro hMd hN12)
              obtain ⟨g0, g1, g2, g3, g4, g5, g6⟩ := hst.box.cells
              clear hMd hstd
              clear hM12 hN12 hst hfl hU12 hW12 HM11
              go_wp2_with fail
              with_reducible refine HFl.out.mono ?_
              rintro e w13 ⟨rfl, T13, hT13, hN13, hTo13, hx13⟩
              have hM13 := HMf.out.1.acted hT13 (fun j hj => by rw [(hN13.inv j hj).D, (HMf.out.2.inv j hj).D]) hx13
              have HM13 := Lib.hid (And.intro hM13 (And.intro hN13 hTo13))
              clear hT13 hN13 hTo13 hx13 hM13 HFl HMf g0 g1 g2 g3 g4 g5 g6
              go_wp2_with fail
              go_loopw [20] (fun v wr => ∃ t : Nat, t ≤ n ∧ v = .int .i64 t ∧ Below w13.heap.size w13 wr) (fun v _ => n - (intOf v).toNat)
              case atStart => exact ⟨0, Nat.zero_le _, rfl, Below.refl _ _⟩
              case round =>
                obtain ⟨t, ht, rfl, hb⟩ := hrel
                have hM := HM13.out.1.below hb
                have hst := HS.out.later hM.bel
                by_cases htn : t < n
                · obtain ⟨g0, g1, g2, g3, g4, g5, g6⟩ := hst.box.cells
                  have hR := rch_of HPF.out HM13.out.2.1 HH.out HM13.out.2.2 htn
                  have hrc := reach_any HPF.out (some ⟨b2, off, none⟩) cP aL cL ub rows t htn _ _ hR wr hst.row hst.lrow hM.upt
                  unfold planV at hrc
                  have HRc := Lib.hid hrc
                  have HBt := Lib.hid hb
                  have ht0 : (0 : Int) ≤ (t : Int) := by omega
                  have ht1 : (t : Int) < (n : Int) := by omega
                  clear hR hrc hb hM hst
                  go_wp2_with fail
                  with_reducible refine HRc.out.mono ?_
                  rintro e w14 ⟨ob, rfl, hrb, hb⟩
                  have HB14 := Lib.hid (HBt.out.trans (hb.mono HBt.out.size))
                  have HRb := Lib.hid hrb
                  clear hrb hb HRc g0 g1 g2 g3 g4 g5 g6
                  go_wp2_with fail
                  go_loopw [22] (fun v wr => ∃ j : Nat, j ≤ n ∧ v = .int .i64 j ∧ Below w14.heap.size w14 wr) (fun v _ => n - (intOf v).toNat)
                  case atStart => exact ⟨0, Nat.zero_le _, rfl, Below.refl _ _⟩
                  case round =>
                    obtain ⟨j, hj, rfl, hb⟩ := hrel
                    have hbb := HB14.out.trans (hb.mono HB14.out.size)
                    have hM := HM13.out.1.below hbb
                    have hst := HS.out.later hM.bel
                    have HBj := Lib.hid hb
                    by_cases hjn : j < n
                    · have g0 := hst.box.cells.1
                      obtain ⟨b3, off3, e3, hcs⟩ := hst.code (by omega)
                      cases e3
                      have v0 := (hcs t htn).1
                      have v1 := hM.trow.cells j hjn
                      have hS := status_p HPF.out (HM13.out.2.1.inv j hjn) hjn t htn wr.drew (hM.tabs.tb j hjn).drew
                      obtain ⟨ut, hut⟩ : ∃ u, u = pc p.P t := ⟨_, rfl⟩
                      obtain ⟨sv, hsv⟩ : ∃ z, z = stP (T13 j) p j t := ⟨_, rfl⟩
                      obtain ⟨Rb, hRb⟩ : ∃ z, z = (decide (j = t) || decide ((T13 j).st (pc p.P t) ≠ 2)) := ⟨_, rfl⟩
                      have hRs : Rb = (sv != 2) := by
                        rw [hRb, hsv]
                        unfold stP
                        by_cases e9 : t = j
                        · rw [if_pos e9, decide_eq_true e9.symm]; rfl
                        · rw [if_neg e9, decide_eq_false (Ne.symm e9), Bool.false_or]
                          by_cases e8 : (T13 j).st (pc p.P t) = 2 <;> simp [e8]
                      have d0 := (HRb.out.below hb).cell hjn
                      simp only [← hRb] at d0
                      rw [← hut] at v0 hS
                      rw [← hsv] at hS
                      have HSt := Lib.hid hS
                      have HK := Lib.hid (And.intro v1 (And.intro g0 v0))
                      have HUt := Lib.hid hut
                      have HRs := Lib.hid hRs
                      have HRq := Lib.hid hRb
                      have j0 : (0 : Int) ≤ (j : Int) := by omega
                      have j1 : (j : Int) < (n : Int) := by omega
                      clear hS hut hsv hRb hRs hM hst hcs hb hbb d0
                      go_upto_region 42 with (fail)
                      go_region_held3 (fun w' => w'.cell? ⟨lb, j, none⟩ = some (.pointer (some ⟨(ys j).tb, 0, none⟩)) ∧ w'.cell? ⟨b, 0, none⟩ = some (.slice (some ⟨b2, off, none⟩) n cP) ∧ w'.cell? ⟨b2, off + t * 2, none⟩ = some (.int .u16 ut)) (first | exact HK.out | (go_keep; done))
                        (first
                          | ((with_reducible refine HSt.out.mono ?_); rintro e w15 ⟨rfl, hb⟩; have hb15 := HBj.out.trans (((below_draw wr 1).trans (hb.mono (below_draw wr 1).size)).mono HBj.out.size); have hM := HM13.out.1.below (HB14.out.trans (hb15.mono HB14.out.size)); have hst := HS.out.later hM.bel; have g0 := hst.box.cells.1; obtain ⟨b3, off3, e3, hcs⟩ := hst.code (by omega); cases e3; have v0 := (hcs t htn).1; have v1 := hM.trow.cells j hjn; rw [← HUt.out] at v0; have HK := Lib.hid (And.intro v1 (And.intro g0 v0)); have HB15 := Lib.hid hb15; clear hM hst hcs hb hb15)
                          | fail)
                      clear HSt HK v0 v1 g0
                      have d0 := (HRb.out.below HB15.out).cell hjn
                      simp only [← HRq.out] at d0
                      clear HRq
                      by_cases hs2 : sv = 2
                      · have hb2 : Rb = false := by rw [HRs.out, hs2]; rfl
                        subst hs2 hb2
                        clear HRs
                        go_wp2_with fail
                        exact ⟨⟨j + 1, by omega, by go_num, HB15.out⟩, by simp [intOf]; omega⟩
                      · have l9 : (sv != 2) = true := by rw [bne_iff_ne]; exact hs2
                        have hb2 : Rb = true := by rw [HRs.out]; exact l9
                        subst hb2
                        clear HRs
                        go_wp2_with fail
                        exact ⟨⟨j + 1, by omega, by go_num, HB15.out⟩, by simp [intOf]; omega⟩
                    · clear hM hst HBj
                      have HBB := Lib.hid hbb
                      clear hbb hb
                      go_wp2_with fail
                      exact ⟨⟨t + 1, by omega, by go_num, HBB.out⟩, by simp [intOf]; omega⟩
                · have HMe := Lib.hid hM
                  clear hM hst hb
                  go_wp2_with fail
                  exact ⟨⟨ci + 1, T13, U12, by omega, by go_num, HMe.out, HM13.out.2.1⟩, by simp [intOf]; omega⟩
        · have HBe := Lib.hid (HS.out.bel.trans (hM.bel.mono HS.out.bel.size))
          clear hM hN HM
          go_wp2_with fail
          with_reducible refine (HL.out _).mono ?_
          rintro e w9 ⟨rfl, hb⟩
          have HBf := Lib.hid (HBe.out.trans (hb.mono HBe.out.size))
          clear hb
          go_wp2
          go_ret
          exact ⟨rfl, HBf.out⟩
end Go.Proofs.Ytdjmopipmeonlaa
