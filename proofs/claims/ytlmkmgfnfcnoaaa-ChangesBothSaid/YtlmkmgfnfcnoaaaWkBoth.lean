/- ChangesBoth: what has arrived and what Told returns are together what was sent. -/
import Derived.Test.YtlmkmgfnfcnoaaaChBo
import Derived.Deep.RegionHeld3
namespace Go.Proofs.Ytlmkmgfnfcnoaaa
open Go.RowKit

set_option maxHeartbeats 4000000 in
set_option maxRecDepth 100000 in
theorem both_walk (S0 S1 R0 R1 K0 K1 : Nat) (w : World) (hS0 : S0 ≤ 65535) (hS1 : S1 ≤ 65535) (hR0 : R0 ≤ 65535) (hR1 : R1 ≤ 65535) (hK0 : K0 ≤ 65535) (hK1 : K1 ≤ 65535) :
    Calls Try.prog 3 #[.agg #[.int .u16 (S0 : Int), .int .u16 (S1 : Int)], .agg #[.int .u16 (R0 : Int), .int .u16 (R1 : Int)], .agg #[.int .u16 (K0 : Int), .int .u16 (K1 : Int)]] w fun e w' => e = .returned (.bool true) ∧ Below w.heap.size w w' := by
  have o1 : Own (((w.alloc (.cells #[.int .u16 (S0 : Int), .int .u16 (S1 : Int)] 23)).alloc (.cells #[.int .u16 (R0 : Int), .int .u16 (R1 : Int)] 23)).alloc (.cells #[.int .u16 (K0 : Int), .int .u16 (K1 : Int)] 23)) w.heap.size 23 [.int .u16 (S0 : Int), .int .u16 (S1 : Int)] := ((own_lit w _ _ _ rfl).below (below_alloc _ _) (by simp)).below (below_alloc _ _) (by simp; omega)
  have o2 : Own (((w.alloc (.cells #[.int .u16 (S0 : Int), .int .u16 (S1 : Int)] 23)).alloc (.cells #[.int .u16 (R0 : Int), .int .u16 (R1 : Int)] 23)).alloc (.cells #[.int .u16 (K0 : Int), .int .u16 (K1 : Int)] 23)) (w.heap.size + 1) 23 [.int .u16 (R0 : Int), .int .u16 (R1 : Int)] := by
    have := (own_lit (w.alloc (.cells #[.int .u16 (S0 : Int), .int .u16 (S1 : Int)] 23)) 23 #[.int .u16 (R0 : Int), .int .u16 (R1 : Int)] _ rfl).below (below_alloc _ (.cells #[.int .u16 (K0 : Int), .int .u16 (K1 : Int)] 23)) (by simp)
    rw [World.size_alloc] at this
    exact this
  have o3 : Own (((w.alloc (.cells #[.int .u16 (S0 : Int), .int .u16 (S1 : Int)] 23)).alloc (.cells #[.int .u16 (R0 : Int), .int .u16 (R1 : Int)] 23)).alloc (.cells #[.int .u16 (K0 : Int), .int .u16 (K1 : Int)] 23)) (w.heap.size + 1 + 1) 23 [.int .u16 (K0 : Int), .int .u16 (K1 : Int)] := by
    have := own_lit ((w.alloc (.cells #[.int .u16 (S0 : Int), .int .u16 (S1 : Int)] 23)).alloc (.cells #[.int .u16 (R0 : Int), .int .u16 (R1 : Int)] 23)) 23 #[.int .u16 (K0 : Int), .int .u16 (K1 : Int)] _ rfl
    rw [World.size_alloc, World.size_alloc] at this
    exact this
  have hb : Below w.heap.size w (((w.alloc (.cells #[.int .u16 (S0 : Int), .int .u16 (S1 : Int)] 23)).alloc (.cells #[.int .u16 (R0 : Int), .int .u16 (R1 : Int)] 23)).alloc (.cells #[.int .u16 (K0 : Int), .int .u16 (K1 : Int)] 23)) := ((below_alloc _ _).trans ((below_alloc _ _).mono (by simp))).trans ((below_alloc _ _).mono (by simp; omega))
  have H := Lib.hid (And.intro o1 (And.intro o2 (And.intro o3 hb)))
  clear o1 o2 o3 hb
  obtain ⟨n0, hn0⟩ : ∃ n, n = S0 % 301 := ⟨_, rfl⟩
  obtain ⟨n1, hn1⟩ : ∃ n, n = S1 % 301 := ⟨_, rfl⟩
  obtain ⟨t0, ht0⟩ : ∃ t, t = R0 % (n0 + 1) := ⟨_, rfl⟩
  obtain ⟨t1, ht1⟩ : ∃ t, t = R1 % (n1 + 1) := ⟨_, rfl⟩
  obtain ⟨k0, hk0⟩ : ∃ k, k = K0 % (t0 + 1) := ⟨_, rfl⟩
  obtain ⟨k1, hk1⟩ : ∃ k, k = K1 % (t1 + 1) := ⟨_, rfl⟩
  have HE := Lib.hid (And.intro hn0 (And.intro hn1 (And.intro ht0 (And.intro ht1 (And.intro hk0 hk1)))))
  have HSt := Lib.hid (And.intro hS0 (And.intro hS1 (And.intro hR0 (And.intro hR1 (And.intro hK0 hK1)))))
  clear hn0 hn1 ht0 ht1 hk0 hk1 hS0 hS1 hR0 hR1 hK0 hK1
  go_enter Try.func3, Try.ntmps3
  go_wp2_with fail
  generalize (((w.alloc (.cells #[.int .u16 (S0 : Int), .int .u16 (S1 : Int)] 23)).alloc (.cells #[.int .u16 (R0 : Int), .int .u16 (R1 : Int)] 23)).alloc (.cells #[.int .u16 (K0 : Int), .int .u16 (K1 : Int)] 23)) = W0 at *
  obtain ⟨bs, hbs⟩ : ∃ b, b = w.heap.size := ⟨_, rfl⟩
  obtain ⟨br, hbr⟩ : ∃ b, b = w.heap.size + 1 := ⟨_, rfl⟩
  obtain ⟨bk, hbk⟩ : ∃ b, b = w.heap.size + 1 + 1 := ⟨_, rfl⟩
  obtain ⟨o1, o2, o3, hb0⟩ := H.out
  rw [← hbs] at o1
  rw [← hbr] at o2
  rw [← hbk] at o3
  rw [← hbk, ← hbr, ← hbs]
  have H0 := Lib.hid (And.intro o1 (And.intro o2 (And.intro o3 hb0)))
  clear o1 o2 o3 hb0 hbs hbr hbk H
  refine (new_any W0).mono ?_
  rintro e w1 ⟨rfl, h1, b1⟩
  have H1 := Lib.hid (And.intro h1 b1)
  clear h1 b1
  go_wp2_with fail
  refine (new_any w1).mono ?_
  rintro e w2 ⟨rfl, h2, b2⟩
  have hst := BoW.start H1.out.1 H1.out.2 h2 b2 H0.out.1 H0.out.2.1 H0.out.2.2.1
  have HS := Lib.hid hst
  clear hst h2 b2 H1
  go_upto_region 6 with fail
  generalize (w2.alloc (.cells #[.pointer (some ⟨W0.heap.size, 0, none⟩), .pointer (some ⟨w1.heap.size, 0, none⟩)] 24)).alloc (.cells #[.int .i64 0, .int .i64 0] 27) = W3 at *
  obtain ⟨th, hth⟩ : ∃ b, b = w2.heap.size + 1 := ⟨_, rfl⟩
  obtain ⟨ls, hls⟩ : ∃ b, b = w2.heap.size := ⟨_, rfl⟩
  obtain ⟨p, hp⟩ : ∃ b, b = W0.heap.size := ⟨_, rfl⟩
  obtain ⟨q, hq⟩ : ∃ b, b = w1.heap.size := ⟨_, rfl⟩
  have hst := HS.out
  rw [← hth, ← hls, ← hp, ← hq] at hst
  rw [← hth, ← hls, ← hp, ← hq]
  have HB := Lib.hid hst
  clear hst hth hls hp hq HS
  go_loopw [11] (fun v wr => ∃ i : Nat, i ≤ 2 ∧ v = .int .i64 i ∧ ∃ x y T0 T1, BoW W0 bs br bk ls th p q S0 S1 R0 R1 K0 K1 T0 T1 x y wr ∧ Ph n0 n1 t0 t1 k0 k1 i x y T0 T1) (fun v _ => 2 - (intOf v).toNat)
  case atStart => exact ⟨0, Nat.zero_le _, rfl, _, _, 0, 0, HB.out, .inl ⟨rfl, Nu.fresh, Nu.fresh, rfl, rfl⟩⟩
  case round =>
    obtain ⟨i, hi2, rfl, x, y, T0, T1, hbo, hph⟩ := hrel
    clear HB
    by_cases hlt : i < 2
    · obtain ⟨xs, xr, L, N, A, rfl, rfl, us, ur, hnext⟩ := hph.open hlt
      obtain ⟨e1, e2, e3, e4, e5, e6⟩ := HE.out
      obtain ⟨g1, g2, g3, g4, g5, g6⟩ := HSt.out
      obtain ⟨S, hS⟩ : ∃ S, S = pick i S0 S1 := ⟨_, rfl⟩
      obtain ⟨R, hR⟩ : ∃ S, S = pick i R0 R1 := ⟨_, rfl⟩
      obtain ⟨K, hK⟩ : ∃ S, S = pick i K0 K1 := ⟨_, rfl⟩
      obtain ⟨n, hn⟩ : ∃ S, S = pick i n0 n1 := ⟨_, rfl⟩
      obtain ⟨t, ht⟩ : ∃ S, S = pick i t0 t1 := ⟨_, rfl⟩
      obtain ⟨k, hk⟩ : ∃ S, S = pick i k0 k1 := ⟨_, rfl⟩
      obtain ⟨ps, hps⟩ : ∃ S, S = pick i p q := ⟨_, rfl⟩
      obtain ⟨pr, hpr⟩ : ∃ S, S = pick i q p := ⟨_, rfl⟩
      obtain ⟨To, hTo⟩ : ∃ S, S = pick i T0 T1 := ⟨_, rfl⟩
      have f1 : n = S % 301 ∧ t = R % (n + 1) ∧ k = K % (t + 1) ∧ S ≤ 65535 ∧ R ≤ 65535 ∧ K ≤ 65535 := by
        rw [hn, ht, hk, hS, hR, hK]
        rcases (by omega : i = 0 ∨ i = 1) with rfl | rfl
        · exact ⟨e1, e3, e5, g1, g3, g5⟩
        · exact ⟨e2, e4, e6, g2, g4, g6⟩
      obtain ⟨c1, c2, c3, c4, c5, c6, c7⟩ := hbo.read hlt
      rw [← hS] at c1
      rw [← hR] at c2
      rw [← hK] at c3
      rw [← hps] at c4
      rw [← hpr] at c5
      rw [← hTo] at c6
      rw [← hn, ← ht, ← hk] at hnext
      obtain ⟨fn, ft, fk, fS, fR, fK⟩ := f1
      have n300 : n ≤ 300 := by omega
      have tn : t ≤ n := by have := Nat.mod_lt R (Nat.succ_pos n); simp only [Nat.succ_eq_add_one] at this; omega
      have kt : k ≤ t := by have := Nat.mod_lt K (Nat.succ_pos t); simp only [Nat.succ_eq_add_one] at this; omega
      have i0 : (0 : Int) ≤ (i : Int) := by omega
      have i1 : (i : Int) < 2 := by omega
      have a1 : (S : Int) % 301 = (n : Int) := by omega
      have a2 : (R : Int).tmod ((n : Int) + 1) = (t : Int) := by rw [Int.tmod_eq_emod_of_nonneg (by omega), ft]; push_cast; rfl
      have a2b : (R : Int) % ((n : Int) + 1) = (t : Int) := by rw [ft]; push_cast; rfl
      have a3 : (K : Int).tmod ((t : Int) + 1) = (k : Int) := by rw [Int.tmod_eq_emod_of_nonneg (by omega), fk]; push_cast; rfl
      have a3b : (K : Int) % ((t : Int) + 1) = (k : Int) := by rw [fk]; push_cast; rfl
      have z1 : ¬ ((n : Int) + 1) = 0 := by omega
      have z2 : ¬ ((t : Int) + 1) = 0 := by omega
      have s1 : (0 : Int) ≤ (S : Int) := by omega
      have s2 : (S : Int) ≤ 65535 := by omega
      have s3 : (R : Int) ≤ 65535 := by omega
      have s4 : (K : Int) ≤ 65535 := by omega
      have HBo := Lib.hid hbo
      have HNx := Lib.hid hnext
      have HU := Lib.hid (And.intro us ur)
      have HPk := Lib.hid (And.intro hps (And.intro hpr (And.intro hTo hK)))
      clear e1 e2 e3 e4 e5 e6 g1 g2 g3 g4 g5 g6 hS hR hK hn ht hk hps hpr hTo hbo hnext us ur fn ft fk hph
      go_upto_region 10 with fail
      have hb4 := HBo.out.put i t (pick i t T0) (pick i T1 t) (by
        rcases (by omega : i = 0 ∨ i = 1) with rfl | rfl
        · exact .inl ⟨rfl, rfl, rfl⟩
        · exact .inr ⟨rfl, rfl, rfl⟩)
      generalize wr.setCell ⟨th, i, none⟩ (.int .i64 (t : Int)) = W4 at hb4 ⊢
      clear c1 c2 c3 c4 c5 c6 c7
      obtain ⟨c1, c2, c3, c4, c5, c6, c7⟩ := hb4.read hlt
      have hKp : ((pick i K0 K1 : Nat) : Int) = (K : Int) := by rw [HPk.out.2.2.2]
      have hTp : pick i (pick i t T0) (pick i T1 t) = t := by
        rcases (by omega : i = 0 ∨ i = 1) with rfl | rfl <;> rfl
      rw [hKp] at c3
      rw [← HPk.out.1] at c4
      rw [← HPk.out.2.1] at c5
      rw [hTp] at c6
      have HB4 := Lib.hid hb4
      clear hb4 hKp hTp c1 c2 HBo
      go_wp2_with fail
      go_quiet (fail)
      have hb5 := HB4.out.drawN nq
      clear c3 c4 c5 c6 c7
      generalize W4.drewN nq = W5 at hb5 ⊢
      have HB5 := Lib.hid hb5
      clear hb5 a1 a2 a2b a3 a3b z1 z2 s1 s2 s3 s4
      go_wp2_with fail
      go_loopw [14] (fun v wr => ∃ M : Nat, 1 ≤ M ∧ M ≤ n + 1 ∧ v = .int .i64 M ∧ ∃ xs xr, BoW W0 bs br bk ls th p q S0 S1 R0 R1 K0 K1 (pick i t T0) (pick i T1 t) (pick i xs xr) (pick i xr xs) wr ∧ Nu xs 0 (M - 1) 0 L ∧ Nu xr 0 N A (min (M - 1) t)) (fun v _ => n + 1 - (intOf v).toNat)
      case atStart => exact ⟨1, Nat.le_refl _, by omega, rfl, xs, xr, HB5.out, HU.out.1, by rw [Nat.zero_min]; exact HU.out.2⟩
      case round =>
        obtain ⟨M, m1, mn, rfl, xs, xr, hbo, us, ur⟩ := hrel
        clear HB4 HB5 HU
        by_cases hM : M ≤ n
        · obtain ⟨m, hm⟩ : ∃ m, m = M - 1 := ⟨_, rfl⟩
          rw [← hm] at us ur
          have HM := Lib.hid (show M = m + 1 by omega)
          obtain ⟨c1, c2, c3, c4, c5, c6, c7⟩ := hbo.read hlt
          rw [← HPk.out.1] at c4
          have k1 : (M : Int) ≤ (n : Int) := by omega
          have HBo := Lib.hid hbo
          have HU := Lib.hid (And.intro us ur)
          clear hm hbo us ur c1 c2 c3 c5 c6 c7
          go_wp2_with fail
          go_region_held3 (fun V => V.cell? ⟨ls, i, none⟩ = some (.pointer (some ⟨ps, 0, none⟩))) (assumption)
            (first
              | ((with_reducible refine (item_any M wr.drew (by omega)).mono ?_); rintro e w3 ⟨g, rfl, hr, hb3⟩; have hb3' := HBo.out.more ((below_draw wr 1).trans hb3); have hcl := (hb3'.read hlt).2.2.2.1; rw [← HPk.out.1] at hcl; have hge := hb3'.getS hlt; rw [← HPk.out.1] at hge; have HB3 := Lib.hid hb3'; have HSe := Lib.hid (sendN ps xs m M 0 L g w3 hge HU.out.1 HM.out (by have := HM.out; omega) hr); clear hr hb3 hb3' hge)
              | ((with_reducible refine HSe.out.mono ?_); rintro e w4 ⟨rfl, xs4, ht4, us4⟩; rw [HPk.out.1] at ht4; have hb4 := HB3.out.actS hlt ht4; have hcl4 := (hb4.read hlt).2.2.2.1; rw [← HPk.out.1] at hcl4; have HB4 := Lib.hid (And.intro hb4 us4); clear ht4 us4 hb4)
              | fail)
          clear hcl hcl4 c4
          try clear hHeld
          obtain ⟨_, _, _, _, c5, c6, _⟩ := HB4.out.1.read hlt
          rw [← HPk.out.2.1] at c5
          have hTp : pick i (pick i t T0) (pick i T1 t) = t := by
            rcases (by omega : i = 0 ∨ i = 1) with rfl | rfl <;> rfl
          rw [hTp] at c6
          obtain ⟨j, hj⟩ : ∃ j, j = 1 - i := ⟨_, rfl⟩
          rw [← hj] at c5
          have hw : IntKind.i64.wrap (1 - (i : Int)) = (j : Int) := by rw [IntWalk.i64_in _ (by omega)]; omega
          have j0 : (0 : Int) ≤ (j : Int) := by omega
          have j1 : (j : Int) < 2 := by omega
          have q1 : ((M : Int) != (M : Int)) = false := by simp
          clear hTp hj HB3 HSe
          by_cases hMt : M ≤ t
          · have k2 : decide (M ≤ t) = true := by simp; omega
            have hur := HU.out.2
            rw [show min m t = m by have := HM.out; omega] at hur
            have hge := HB4.out.1.getR hlt
            rw [← HPk.out.2.1] at hge
            have HAr := Lib.hid (arriveN pr xr N A m M w4 hge hur HM.out (by have := HM.out; omega))
            clear hur hge
            go_wp2_with fail
            refine HAr.out.mono ?_
            rintro e w5 ⟨rfl, xr5, ht5, ur5⟩
            rw [HPk.out.2.1] at ht5
            have HB5 := Lib.hid (And.intro (HB4.out.1.actR hlt ht5) ur5)
            clear ht5 ur5 HAr c5 c6 hw
            go_wp2
            refine ⟨⟨M + 1, by omega, by omega, by go_num, xs4, xr5, HB5.out.1, HB4.out.2, ?_⟩, by simp [intOf]; omega⟩
            rw [show min (M + 1 - 1) t = M by omega]
            exact HB5.out.2
          · have k2 : decide (M ≤ t) = false := by simp; omega
            go_wp2
            refine ⟨⟨M + 1, by omega, by omega, by go_num, xs4, xr, HB4.out.1, HB4.out.2, ?_⟩, by simp [intOf]; omega⟩
            have hur := HU.out.2
            rw [show min m t = t by have := HM.out; omega] at hur
            rw [show min (M + 1 - 1) t = t by omega]
            exact hur
        · obtain rfl : M = n + 1 := by omega
          rw [show n + 1 - 1 = n by omega] at us ur
          rw [show min n t = t by omega] at ur
          have hge := hbo.getS hlt
          have c4 := (hbo.read hlt).2.2.2.1
          rw [← HPk.out.1] at hge c4
          have HAc := Lib.hid (ackedN ps xs n 0 L k wr hge us (Nat.zero_le _) (by omega))
          have HBo := Lib.hid (And.intro hbo (And.intro us ur))
          clear hge hbo us ur m1 mn hM
          go_wp2_with fail
          refine HAc.out.mono ?_
          rintro e w5 ⟨rfl, xs5, ht5, us5⟩
          rw [HPk.out.1] at ht5
          have HB5 := Lib.hid (And.intro (HBo.out.1.actS hlt ht5) us5)
          clear ht5 us5 HAc c4
          go_wp2
          exact ⟨⟨i + 1, by omega, by go_num, _, _, _, _, HB5.out.1, HNx.out xs5 xr HB5.out.2 HBo.out.2.2⟩, by simp [intOf]; omega⟩
    · obtain rfl : i = 2 := by omega
      obtain ⟨ux, uy, rfl, rfl⟩ : Nu x 0 n0 k0 t1 ∧ Nu y 0 n1 k1 t0 ∧ T0 = t0 ∧ T1 = t1 := by
        rcases hph with ⟨h, _⟩ | ⟨h, _⟩ | ⟨_, h⟩
        · omega
        · omega
        · exact h
      obtain ⟨e1, e2, e3, e4, e5, e6⟩ := HE.out
      have n300 : n0 ≤ 300 := by omega
      have n301 : n1 ≤ 300 := by omega
      have tn0 : T0 ≤ n0 := by have := Nat.mod_lt R0 (Nat.succ_pos n0); simp only [Nat.succ_eq_add_one] at this; omega
      have tn1 : T1 ≤ n1 := by have := Nat.mod_lt R1 (Nat.succ_pos n1); simp only [Nat.succ_eq_add_one] at this; omega
      have kt0 : k0 ≤ T0 := by have := Nat.mod_lt K0 (Nat.succ_pos T0); simp only [Nat.succ_eq_add_one] at this; omega
      have kt1 : k1 ≤ T1 := by have := Nat.mod_lt K1 (Nat.succ_pos T1); simp only [Nat.succ_eq_add_one] at this; omega
      have a1 : (S0 : Int) % 301 = (n0 : Int) := by omega
      have a2 : (S1 : Int) % 301 = (n1 : Int) := by omega
      have b1 : (S0 : Int) ≤ 65535 := by have := HSt.out.1; omega
      have b2 : (S1 : Int) ≤ 65535 := by have := HSt.out.2.1; omega
      obtain ⟨M0, hM0⟩ : ∃ M, M + T0 = n0 := ⟨n0 - T0, by omega⟩
      obtain ⟨M1, hM1⟩ : ∃ M, M + T1 = n1 := ⟨n1 - T1, by omega⟩
      have HF := Lib.hid (failN p x n0 k0 T1 3 wr hbo.pr.one ux (by decide))
      have HB := Lib.hid (And.intro hbo (And.intro ux uy))
      have HMs := Lib.hid (And.intro hM0 hM1)
      clear e1 e2 e3 e4 e5 e6 hbo ux uy hph hM0 hM1 hlt hi2
      go_wp2_with fail
      refine HF.out.mono ?_
      rintro e w4 ⟨rfl, x4, ht, ux, _⟩
      have HB4 := Lib.hid (And.intro (HB.out.1.act1 ht) (And.intro ux HB.out.2.2))
      have HF4 := Lib.hid (failN q y n1 k1 T0 3 w4 HB4.out.1.pr.two HB.out.2.2 (by decide))
      clear ht ux HF HB
      go_wp2_with fail
      refine HF4.out.mono ?_
      rintro e w5 ⟨rfl, y5, ht, uy, _⟩
      have HB5 := Lib.hid (And.intro (HB4.out.1.act2 ht) (And.intro HB4.out.2.1 uy))
      have HT5 := Lib.hid (toldN p x4 n0 k0 T1 T0 M0 w5 HB5.out.1.pr.one HB5.out.2.1 kt0 HMs.out.1)
      clear ht uy HF4 HB4
      go_wp2_with fail
      refine HT5.out.mono ?_
      rintro e w6 ⟨A6, l6, x6, rfl, hl6, hin6, hit6, ht, ux⟩
      have hoff : ∀ k, (x4.S p k ∧ k ≠ p) → ¬ y5.S q k := fun k hk => HB5.out.1.pr.off k hk.1
      have HB6 := Lib.hid (And.intro (HB5.out.1.act1 ht) (And.intro ux HB5.out.2.2))
      have HI6 := Lib.hid (And.intro hl6 (And.intro hin6 (And.intro hit6 hoff)))
      have HT6 := Lib.hid (toldN q y5 n1 k1 T0 T1 M1 w6 HB6.out.1.pr.two HB6.out.2.2 kt1 HMs.out.2)
      clear hl6 hin6 hit6 hoff ht ux HT5 HB5
      go_wp2_with fail
      refine HT6.out.mono ?_
      rintro e w7 ⟨A7, l7, y7, rfl, hl7, hin7, hit7, ht, uy⟩
      have hi6 := HI6.out.2.1.exc ht.exc (fun k hk hT => HI6.out.2.2.2 k hk (.inl hT))
      have hbo7 := HB6.out.1.act2 ht
      have HB7 := Lib.hid (And.intro hbo7 (And.intro HB6.out.2.1 uy))
      have HI7 := Lib.hid (And.intro hl7 (And.intro hin7 hit7))
      have HR7 := Lib.hid (run_yes w7 _ A6 l6 M0 (T0 + 1) n0 hi6 HI6.out.1 (by have := HMs.out.1; omega) (by omega) (fun i hi => HI6.out.2.2.1 i hi))
      have c0 := hbo7.ot.cell 0 (by simp)
      have c1 := hbo7.ot.cell 1 (by simp)
      have d0 := hbo7.os.cell 0 (by simp)
      have d1 := hbo7.os.cell 1 (by simp)
      simp only [List.getD_cons_zero, List.getD_cons_succ] at c0 c1 d0 d1
      have q0 : ((T0 : Int) != (T0 : Int)) = false := by simp
      have q1 : ((T1 : Int) != (T1 : Int)) = false := by simp
      clear hi6 hbo7 hl7 hin7 hit7 ht uy HI6 HT6 HB6
      go_wp2_with fail
      refine (show Calls Try.prog 14 #[.slice A6 M0 M0, .int .i64 ((T0 : Int) + 1), .int .i64 (n0 : Int)] w7 (fun e w' => e = .returned (.bool true) ∧ Below w7.heap.size w7 w') from HR7.out).mono ?_
      rintro e w8 ⟨rfl, hb8⟩
      have hbo8 := HB7.out.1.more hb8
      have HB8 := Lib.hid hbo8
      have HR8 := Lib.hid (run_yes w8 _ A7 l7 M1 (T1 + 1) n1 (HI7.out.2.1.later hb8) HI7.out.1 (by have := HMs.out.2; omega) (by omega) (fun i hi => HI7.out.2.2 i hi))
      clear c0 c1 d0 d1 hb8 HR7
      have c1 := hbo8.ot.cell 1 (by simp)
      have d1 := hbo8.os.cell 1 (by simp)
      simp only [List.getD_cons_zero, List.getD_cons_succ] at c1 d1
      clear hbo8
      go_wp2_with fail
      refine (show Calls Try.prog 14 #[.slice A7 M1 M1, .int .i64 ((T1 : Int) + 1), .int .i64 (n1 : Int)] w8 (fun e w' => e = .returned (.bool true) ∧ Below w8.heap.size w8 w') from HR8.out).mono ?_
      rintro e w9 ⟨rfl, hb9⟩
      have hbo9 := HB8.out.more hb9
      have HRs := Lib.hid (restore_ok p x6 w9 hbo9.pr.one HB7.out.2.1.st)
      have HB9 := Lib.hid hbo9
      clear hbo9 hb9 c1 d1 HR8 HB8
      go_wp2_with fail
      refine HRs.out.mono ?_
      rintro e w10 ⟨rfl, ht⟩
      have HB10 := Lib.hid (HB9.out.act1 ht)
      have HLa := Lib.hid (show Calls Try.prog 16 #[.pointer (some ⟨p, 0, none⟩)] w10 (fun e w' => e = .returned (.int .i64 0) ∧ ∃ q, w' = w10.drewN q) from last_any p Ed.fresh w10 ht.now)
      clear ht HRs HB9
      go_wp2_with fail
      refine HLa.out.mono ?_
      rintro e w11' ⟨rfl, q11, rfl⟩
      have h11 := HB10.out.drawN q11
      generalize w10.drewN q11 = w11 at h11 ⊢
      have HB11 := Lib.hid h11
      have HRe := Lib.hid (show Calls Try.prog 17 #[.pointer (some ⟨p, 0, none⟩)] w11 (fun e w' => e = .returned (.int .i64 0) ∧ ∃ q, w' = w11.drewN q) from retained_any p Ed.fresh w11 h11.pr.one)
      clear h11 HLa HB10
      go_wp2_with fail
      refine HRe.out.mono ?_
      rintro e w12' ⟨rfl, q12, rfl⟩
      have h12 := HB11.out.drawN q12
      generalize w11.drewN q12 = w12 at h12 ⊢
      have HB12 := Lib.hid (H0.out.2.2.2.trans (h12.pr.bel.mono H0.out.2.2.2.size))
      clear h12 HRe HB11
      go_wp2_with fail
      refine (lives_any w12).mono ?_
      rintro e w13 ⟨rfl, hb13⟩
      have HB13 := Lib.hid (HB12.out.trans (hb13.mono HB12.out.size))
      clear hb13
      go_wp2
      go_ret
      exact ⟨rfl, HB13.out⟩
end Go.Proofs.Ytlmkmgfnfcnoaaa
