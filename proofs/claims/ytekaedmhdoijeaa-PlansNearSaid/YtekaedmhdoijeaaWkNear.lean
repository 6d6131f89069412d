/- The walk of PlansNear. -/
import Derived.Test.YtekaedmhdoijeaaPlSt
import Derived.Test.YtekaedmhdoijeaaPlLives
import Derived.Test.YtekaedmhdoijeaaPlDis
import Derived.Deep.Cut
import Derived.Deep.MidRow
import Derived.Deep.CutBlock
import Derived.BigQuiet
import Derived.Deep.RegionHeld3
import Derived.IntWalk
namespace Go.Proofs.Ytekaedmhdoijeaa
open Go.RowKit

set_option maxRecDepth 100000 in
set_option maxHeartbeats 4000000 in
theorem near_walk (x : Nn) (s : Option Addr) (c : Nat) (w : World) (hx : NnAt w x s c) : Calls Try.prog 4 #[nnV x s c] w fun e w' => e = .returned (.bool true) ∧ Below w.heap.size w w' := by
  have hOf := fun (W : World) (h : NnAt W x s c) => of_any x s c W h
  obtain ⟨p0, hp0⟩ : ∃ p, p = x.codes.getD 0 0 := ⟨_, rfl⟩
  obtain ⟨p1, hp1⟩ : ∃ p, p = x.codes.getD 1 0 := ⟨_, rfl⟩
  obtain ⟨p2, hp2⟩ : ∃ p, p = x.codes.getD 2 0 := ⟨_, rfl⟩
  obtain ⟨p3, hp3⟩ : ∃ p, p = x.codes.getD 3 0 := ⟨_, rfl⟩
  obtain ⟨p4, hp4⟩ : ∃ p, p = x.codes.getD 4 0 := ⟨_, rfl⟩
  obtain ⟨p5, hp5⟩ : ∃ p, p = x.codes.getD 5 0 := ⟨_, rfl⟩
  obtain ⟨t0, ht0⟩ : ∃ p, p = x.tree.getD 0 0 := ⟨_, rfl⟩
  obtain ⟨t1, ht1⟩ : ∃ p, p = x.tree.getD 1 0 := ⟨_, rfl⟩
  obtain ⟨t2, ht2⟩ : ∃ p, p = x.tree.getD 2 0 := ⟨_, rfl⟩
  obtain ⟨t3, ht3⟩ : ∃ p, p = x.tree.getD 3 0 := ⟨_, rfl⟩
  obtain ⟨t4, ht4⟩ : ∃ p, p = x.tree.getD 4 0 := ⟨_, rfl⟩
  obtain ⟨t5, ht5⟩ : ∃ p, p = x.tree.getD 5 0 := ⟨_, rfl⟩
  obtain ⟨m, hm⟩ : ∃ m, m = x.extra.length := ⟨_, rfl⟩
  have HCs : Hid (nnCells x s m c = [.int .u8 (x.many : Nat), .int .u8 (p0 : Nat), .int .u8 (p1 : Nat), .int .u8 (p2 : Nat), .int .u8 (p3 : Nat), .int .u8 (p4 : Nat), .int .u8 (p5 : Nat), .int .u8 (x.ends : Nat), .int .u8 (t0 : Nat), .int .u8 (t1 : Nat), .int .u8 (t2 : Nat), .int .u8 (t3 : Nat), .int .u8 (t4 : Nat), .int .u8 (t5 : Nat), .slice s m c, .int .u8 (x.rate : Nat), .int .u8 (x.room : Nat), .int .u8 (x.k0 : Nat), .int .u8 (x.k1 : Nat)]) := Lib.hid (by unfold nnCells; rw [hp0, hp1, hp2, hp3, hp4, hp5, ht0, ht1, ht2, ht3, ht4, ht5])
  unfold nnV at hOf ⊢
  rw [← hm, HCs.out] at hOf
  rw [← hm, HCs.out]
  have HOf := Lib.hid hOf
  have HXn := Lib.hid hx
  have HL := Lib.hid lives_any
  clear hOf hx hm hp0 hp1 hp2 hp3 hp4 hp5 ht0 ht1 ht2 ht3 ht4 ht5
  go_enter Try.func4, Try.ntmps4
  go_upto_region 1 with (fail)
  obtain ⟨W0, hW0⟩ : ∃ W0, W0 = w.alloc (.cells #[.int .u8 (x.many : Nat), .int .u8 (p0 : Nat), .int .u8 (p1 : Nat), .int .u8 (p2 : Nat), .int .u8 (p3 : Nat), .int .u8 (p4 : Nat), .int .u8 (p5 : Nat), .int .u8 (x.ends : Nat), .int .u8 (t0 : Nat), .int .u8 (t1 : Nat), .int .u8 (t2 : Nat), .int .u8 (t3 : Nat), .int .u8 (t4 : Nat), .int .u8 (t5 : Nat), .slice s m c, .int .u8 (x.rate : Nat), .int .u8 (x.room : Nat), .int .u8 (x.k0 : Nat), .int .u8 (x.k1 : Nat)] 40) := ⟨_, rfl⟩
  have hB0 : Below w.heap.size w W0 := by rw [hW0]; exact below_alloc w _
  have ho0 : Own W0 w.heap.size 40 [.int .u8 (x.many : Nat), .int .u8 (p0 : Nat), .int .u8 (p1 : Nat), .int .u8 (p2 : Nat), .int .u8 (p3 : Nat), .int .u8 (p4 : Nat), .int .u8 (p5 : Nat), .int .u8 (x.ends : Nat), .int .u8 (t0 : Nat), .int .u8 (t1 : Nat), .int .u8 (t2 : Nat), .int .u8 (t3 : Nat), .int .u8 (t4 : Nat), .int .u8 (t5 : Nat), .slice s m c, .int .u8 (x.rate : Nat), .int .u8 (x.room : Nat), .int .u8 (x.k0 : Nat), .int .u8 (x.k1 : Nat)] := by rw [hW0]; exact heap_alloc_new w _
  rw [← hW0]
  have HRa := Lib.hid (range_own ho0)
  have HB0 := Lib.hid hB0
  clear hW0 ho0 hB0
  iterate 2 go_step
  refine wp_load_mid 40 (.tmp 1) (by rfl) w.heap.size 0 (by rfl) [.int .u8 (x.many : Nat), .int .u8 (p0 : Nat), .int .u8 (p1 : Nat), .int .u8 (p2 : Nat), .int .u8 (p3 : Nat), .int .u8 (p4 : Nat), .int .u8 (p5 : Nat), .int .u8 (x.ends : Nat), .int .u8 (t0 : Nat), .int .u8 (t1 : Nat), .int .u8 (t2 : Nat), .int .u8 (t3 : Nat), .int .u8 (t4 : Nat), .int .u8 (t5 : Nat), .slice s m c, .int .u8 (x.rate : Nat), .int .u8 (x.room : Nat), .int .u8 (x.k0 : Nat), .int .u8 (x.k1 : Nat)] _ HRa.out Try.underlying40 (by rfl) (by kernel_rfl) ?_
  go_wp2_with fail
  with_reducible refine (HOf.out _ (HXn.out.later HB0.out)).mono ?_
  rintro e w1 ⟨p, aP, n, cP, aL, m2, cL, hPF, rfl, hP, hL, hb⟩
  have hb0 : Below w.heap.size w w1 := HB0.out.trans (hb.mono HB0.out.size)
  obtain ⟨b, hbz⟩ : ∃ b, b = w1.heap.size := ⟨_, rfl⟩
  have hn2 := hPF.n2
  have hn6 := hPF.n6
  have hcap := hP.le
  have hcap2 := hP.max
  have hcap3 := hL.le
  have hcap4 := hL.max
  unfold maxLen at hcap2 hcap4
  have HPF := Lib.hid hPF
  clear HOf
  go_upto_region 2 with (fail)
  obtain ⟨W, hW⟩ : ∃ W, W = w1.alloc (.cells #[.slice aP n cP, .slice aL m2 cL, .int .i64 p.rate, .int .i64 p.room, .int .i64 p.m0, .int .i64 p.m1, .int .i64 p.m2] 26) := ⟨_, rfl⟩
  have hst : St w p b aP n cP aL m2 cL W := by rw [hW, hbz]; exact St.new hP hL hb0
  rw [← hW, ← hbz]
  obtain ⟨g0, g1, g2, g3, g4, g5, g6⟩ := hst.box.cells
  have HS := Lib.hid hst
  clear hP hL hb hb0 hW hbz hPF
  have hlen := HPF.out.len
  have HLen := Lib.hid hlen
  obtain ⟨b2, off, rfl, hcs⟩ := hst.code (by omega)
  clear hst hcs hlen
  go_wp2_with fail
  clear g0 g1 g2 g3 g4 g5 g6
  go_loopw [4] (fun iv wr => ∃ i : Nat, i ≤ n ∧ iv = .int .i64 i ∧ Below W.heap.size W wr) (fun iv _ => n - (intOf iv).toNat)
  case atStart => exact ⟨0, Nat.zero_le _, rfl, Below.refl _ _⟩
  case round =>
    obtain ⟨i, hi, rfl, hb⟩ := hrel
    have hst1 := HS.out.later hb
    obtain ⟨g0, g1, g2, g3, g4, g5, g6⟩ := hst1.box.cells
    have HB1 := Lib.hid hb
    have HS1 := Lib.hid hst1
    clear hb hst1
    by_cases hin : i < n
    · obtain ⟨ca, hca⟩ : ∃ ca, ca = pc p.P i := ⟨_, rfl⟩
      obtain ⟨b4, off4, hab, hcs⟩ := HS1.out.code (by omega)
      cases hab
      have v0 := (hcs i hin).1
      rw [← hca] at v0
      have HCa := Lib.hid hca
      have i0 : (0 : Int) ≤ (i : Int) := by omega
      have i1 : (i : Int) < (n : Int) := by omega
      have hN := fun (W : World) (hp : PRow W (some ⟨b2, off, none⟩) n cP p.P) (hl : LRow W aL m2 cL p.L) => neighbors_ok p _ n cP aL m2 cL ca W hp hl (by rw [HCa.out]; exact HPF.out.one hin) HPF.out.valid
      unfold planV at hN
      have HNb := Lib.hid hN
      clear hcs hca hN
      go_wp2_with fail
      with_reducible refine (HNb.out _ HS1.out.row HS1.out.lrow).mono ?_
      rintro e w3 ⟨an, rfl, hrow, hb⟩
      obtain ⟨NB, hNB⟩ : ∃ NB, NB = nbrs p ca := ⟨_, rfl⟩
      obtain ⟨Nn, hNn⟩ : ∃ Nn, Nn = (nbrs p ca).length := ⟨_, rfl⟩
      rw [← hNn]
      rw [← hNn, ← hNB] at hrow
      have hNf : NB = (codesL p).filter (nearB p ca) := by rw [hNB]; exact nbrs_filter HPF.out.valid HPF.out.asc ca
      have hN6 : Nn ≤ 6 := by
        have h1 := List.length_filter_le (nearB p ca) (codesL p)
        have h2 := codesL_length p
        have h3 := HLen.out
        rw [hNn, ← hNB, hNf]; omega
      have HNf := Lib.hid hNf
      have HNl := Lib.hid (show Nn = NB.length from by rw [hNn, hNB])
      have HRow := Lib.hid hrow
      have hst3 := HS1.out.later hb
      have HS3 := Lib.hid hst3
      have HB3 := Lib.hid (HB1.out.trans (hb.mono HB1.out.size))
      clear hb hrow hNB hNn hNf g0 g1 g2 g3 g4 g5 g6 v0 HNb
      obtain ⟨g0, g1, g2, g3, g4, g5, g6⟩ := hst3.box.cells
      clear hst3
      go_wp2_with fail
      clear g0 g1 g2 g3 g4 g5 g6
      go_loopw [8, 9] (fun kv jv wr => ∃ j : Nat, j ≤ n ∧ jv = .int .i64 j ∧ kv = .int .i64 (((codesL p).take j).countP (nearB p ca)) ∧ Below w3.heap.size w3 wr) (fun _ jv _ => n - (intOf jv).toNat)
      case atStart => exact ⟨0, Nat.zero_le _, rfl, rfl, Below.refl _ _⟩
      case round =>
        obtain ⟨j, hj, rfl, rfl, hb⟩ := hrel
        have hst4 := HS3.out.later hb
        obtain ⟨g0, g1, g2, g3, g4, g5, g6⟩ := hst4.box.cells
        obtain ⟨K, hK⟩ : ∃ K, K = ((codesL p).take j).countP (nearB p ca) := ⟨_, rfl⟩
        rw [← hK]
        have hKj : K ≤ j := by
          have h1 := List.countP_le_length (p := nearB p ca) (l := (codesL p).take j)
          rw [List.length_take] at h1
          omega
        have HK := Lib.hid hK
        have HB4 := Lib.hid hb
        have HS4 := Lib.hid hst4
        have HRow4 := Lib.hid (HRow.out.later hb)
        clear hb hst4 hK
        by_cases hjn : j < n
        · obtain ⟨cb, hcb⟩ : ∃ cb, cb = pc p.P j := ⟨_, rfl⟩
          obtain ⟨b4, off4, hab, hcs⟩ := HS4.out.code (by omega)
          cases hab
          have v0 := (hcs j hjn).1
          rw [← hcb] at v0
          have hsuc := countP_take (P := nearB p ca) (L := codesL p) (j := j) (by rw [codesL_length, HLen.out]; exact hjn)
          rw [codesL_getD, ← hcb, ← HK.out] at hsuc
          have HSu := Lib.hid hsuc
          have HCb := Lib.hid hcb
          have j0 : (0 : Int) ≤ (j : Int) := by omega
          have j1 : (j : Int) < (n : Int) := by omega
          clear hcs hcb hsuc
          by_cases hij : i = j
          · subst hij
            have hcc : ca = cb := by rw [HCa.out, HCb.out]
            subst hcc
            have hL1 := fun (W : World) (hp : PRow W (some ⟨b2, off, none⟩) n cP p.P) (hl : LRow W aL m2 cL p.L) => links_same p _ n cP aL m2 cL ca W hp hl (by rw [HCa.out]; exact HPF.out.two hin hin)
            unfold planV at hL1
            have HL1 := Lib.hid hL1
            have HKn := Lib.hid (show ((codesL p).take (i + 1)).countP (nearB p ca) = K from by rw [HSu.out, near_self HPF.out.valid ca]; simp)
            clear hL1
            go_wp2_with fail
            with_reducible refine (HL1.out _ HS4.out.row HS4.out.lrow).mono ?_
            rintro e w5 ⟨rfl, hb⟩
            have HB5 := Lib.hid (HB4.out.trans (hb.mono HB4.out.size))
            have e1 : (ca == ca) = true := by simp
            clear hb g0 g1 g2 g3 g4 g5 g6 v0
            go_wp2_with fail
            refine ⟨⟨i + 1, by omega, by go_num, ?_, HB5.out⟩, by simp [intOf]; omega⟩
            rw [HKn.out]
          · have hne : ca ≠ cb := by
              intro h
              rw [HCa.out, HCb.out] at h
              exact hij (HPF.out.asc.inj (by rw [HLen.out]; exact hin) (by rw [HLen.out]; exact hjn) h)
            obtain ⟨x9, hx9⟩ : ∃ x9, x9 = min ca cb := ⟨_, rfl⟩
            obtain ⟨y9, hy9⟩ : ∃ y9, y9 = max ca cb := ⟨_, rfl⟩
            have hL1 : ∀ (W : World), PRow W (some ⟨b2, off, none⟩) n cP p.P → LRow W aL m2 cL p.L → Calls Try.prog 17 #[planV (some ⟨b2, off, none⟩) n cP aL m2 cL p, .int .u16 ca, .int .u16 cb] W (LkV p x9 y9 W) := by
              intro W hp hl
              have hE : chkPts p [ca, cb] = 0 := by rw [HCa.out, HCb.out]; exact HPF.out.two hin hjn
              have h11 := HPF.out.m11
              rcases Int.lt_or_gt_of_ne hne with h | h
              · rw [hx9, hy9, show min ca cb = ca by omega, show max ca cb = cb by omega]
                exact links_lt p _ n cP aL m2 cL ca cb W hp hl hE (by omega) h
              · rw [hx9, hy9, show min ca cb = cb by omega, show max ca cb = ca by omega]
                exact links_gt p _ n cP aL m2 cL ca cb W hp hl hE (by omega) h
            have hL2 := fun (W : World) (hl : LRow W aL m2 cL p.L) => lines_any p (some ⟨b2, off, none⟩) n cP aL m2 cL ca cb W hl
            have hnl := near_links HPF.out.valid hne
            rw [← hx9, ← hy9] at hnl
            rw [hnl] at hL2
            unfold planV at hL1 hL2
            have HL1 := Lib.hid hL1
            have HL2 := Lib.hid hL2
            have HNl2 := Lib.hid hnl
            have f1 : (ca == cb) = false := by simpa using hne
            have f2 : ¬ ca = cb := hne
            have wf1 : 0 ≤ ca ∧ ca ≤ 59 := by rw [HCa.out]; exact HPF.out.code hin
            have wf2 : 0 ≤ cb ∧ cb ≤ 59 := by rw [HCb.out]; exact HPF.out.code hjn
            have m1 : min ca cb = x9 := hx9.symm
            have m3 : max ca cb = y9 := hy9.symm
            have HM := Lib.hid (And.intro m1 m3)
            clear hL1 hL2 hnl hx9 hy9 m1 m3
            go_wp2_with fail
            with_reducible refine (HL1.out _ HS4.out.row HS4.out.lrow).mono ?_
            rintro e w5 ⟨ak, rfl, hkr, hb⟩
            obtain ⟨X, hX⟩ : ∃ X, X = linksL p x9 y9 := ⟨_, rfl⟩
            obtain ⟨Nk, hNk⟩ : ∃ Nk, Nk = (linksL p x9 y9).length := ⟨_, rfl⟩
            have hL3 := HL2.out
            rw [← hNk] at hL3
            rw [← hNk, ← hX] at hkr
            rw [← hNk]
            have hXk : ∀ m, m < Nk → X.getD m (0, 0, 0) = (x9, y9, (m : Int)) := fun m hm => by rw [hX]; exact links_at HPF.out.fine.fine x9 y9 (by rw [← hNk]; exact hm)
            have hNk11 : Nk ≤ 11 := by
              have h1 := nearN_le p.L ca cb
              rw [HNl2.out, ← hNk] at h1
              have h2 := HPF.out.llen
              have h3 := HPF.out.m11
              omega
            have HXk := Lib.hid hXk
            have HNk := Lib.hid (show nearN p.L ca cb = Nk from by rw [HNl2.out, hNk])
            have HL3 := Lib.hid hL3
            have HKr := Lib.hid hkr
            have hst5 := HS4.out.later hb
            have HS5 := Lib.hid hst5
            have HB5 := Lib.hid (HB4.out.trans (hb.mono HB4.out.size))
            have HRow5 := Lib.hid (HRow4.out.later hb)
            clear hb hkr hX hNk hL3 hXk g0 g1 g2 g3 g4 g5 g6 v0
            obtain ⟨g0, g1, g2, g3, g4, g5, g6⟩ := hst5.box.cells
            clear hst5
            go_wp2_with fail
            with_reducible refine (HL3.out _ HS5.out.lrow).mono ?_
            rintro e w6 ⟨rfl, hb⟩
            have HS6 := Lib.hid (HS5.out.later hb)
            have HKr6 := Lib.hid (HKr.out.later hb)
            have HRow6 := Lib.hid (HRow5.out.later hb)
            have HB6 := Lib.hid (HB5.out.trans (hb.mono HB5.out.size))
            have n0 : (Nk != Nk) = false := by simp
            clear hb g0 g1 g2 g3 g4 g5 g6
            go_wp2_with fail
            go_loop [13] (fun mv => ∃ m9 : Nat, m9 ≤ Nk ∧ mv = .int .i64 m9) (fun mv => Nk - (intOf mv).toNat)
            case atStart => exact ⟨0, Nat.zero_le _, rfl⟩
            case round =>
              obtain ⟨m9, hm, rfl⟩ := hrel
              by_cases hmk : m9 < Nk
              · obtain ⟨b5, off5, hak, hck⟩ := HKr6.out.cells.resolve_left (by omega)
                subst hak
                obtain ⟨c0, c1, c2⟩ := hck m9 hmk
                rw [HXk.out m9 hmk] at c0 c1 c2
                simp only at c0 c1 c2
                obtain ⟨m1, m3⟩ := HM.out
                have k0 : (0 : Int) ≤ (m9 : Int) := by omega
                have k1 : (m9 : Int) < (Nk : Int) := by omega
                have k2 : IntKind.u8.wrap (m9 : Int) = (m9 : Int) := by unfold IntKind.wrap; simp [IntKind.bits, IntKind.signed]; omega
                clear hck
                go_wp2_with fail
                exact ⟨⟨m9 + 1, by omega, by go_num⟩, by simp [intOf]; omega⟩
              · have k1 : ¬ (m9 : Int) < (Nk : Int) := by omega
                by_cases hN0 : 0 < Nk
                · have hnb : nearB p ca cb = true := by unfold nearB; rw [HNk.out]; simpa using hN0
                  have hat := filter_at (L := codesL p) (P := nearB p ca) (j := j) (by rw [codesL_length, HLen.out]; exact hjn) (by rw [codesL_getD, ← HCb.out]; exact hnb)
                  rw [← HK.out, ← HNf.out, codesL_getD, ← HCb.out, ← HNl.out] at hat
                  have HKn := Lib.hid (show ((codesL p).take (j + 1)).countP (nearB p ca) = K + 1 from by rw [HSu.out, hnb]; simp)
                  obtain ⟨b5, off5, hak, hck⟩ := HRow6.out.cells.resolve_left (by omega)
                  subst hak
                  have c0 := hck K hat.1
                  rw [hat.2] at c0
                  have k3 : (0 : Int) < (Nk : Int) := by omega
                  have k4 : (0 : Int) ≤ (K : Int) := by omega
                  have k5 : (K : Int) < (Nn : Int) := by omega
                  have k6 : ¬ (Nn : Int) ≤ (K : Int) := by omega
                  have k7 : ¬ Nn ≤ K := by omega
                  have n1 : (cb != cb) = false := by simp
                  clear hat hck hnb
                  go_wp2_with fail
                  refine ⟨⟨j + 1, by omega, by go_num, ?_, HB6.out⟩, by simp [intOf]; omega⟩
                  rw [HKn.out]; go_num
                · have hNz : Nk = 0 := by omega
                  have hnb : nearB p ca cb = false := by unfold nearB; rw [HNk.out]; simpa using hNz
                  have HKn := Lib.hid (show ((codesL p).take (j + 1)).countP (nearB p ca) = K from by rw [HSu.out, hnb]; simp)
                  have k3 : ¬ (0 : Int) < (Nk : Int) := by omega
                  clear hNz hnb
                  go_wp2_with fail
                  refine ⟨⟨j + 1, by omega, by go_num, ?_, HB6.out⟩, by simp [intOf]; omega⟩
                  rw [HKn.out]
        · obtain rfl : n = j := by omega
          have hKN : K = Nn := by
            have h1 := codesL_length p
            rw [HLen.out] at h1
            rw [HK.out, HNl.out, HNf.out, ← h1, List.take_length, List.countP_eq_length_filter]
          have j1 : ¬ (n : Int) < (n : Int) := by omega
          have HB9 := Lib.hid (HB3.out.trans (HB4.out.mono HB3.out.size))
          have n0 : (Nn != Nn) = false := by simp
          subst hKN
          go_wp2_with fail
          exact ⟨⟨i + 1, by omega, by go_num, HB9.out⟩, by simp [intOf]; omega⟩
    · have i1 : ¬ (i : Int) < (n : Int) := by omega
      have HBe := Lib.hid (HS.out.bel.trans (HB1.out.mono HS.out.bel.size))
      go_wp2_with fail
      with_reducible refine (HL.out _).mono ?_
      rintro e w9 ⟨rfl, hb⟩
      have HB9 := Lib.hid (HBe.out.trans (hb.mono HBe.out.size))
      clear hb
      go_wp2
      go_ret
      exact ⟨rfl, HB9.out⟩
end Go.Proofs.Ytekaedmhdoijeaa
