/- Statements of layer 8: MonitorsLevel. -/
import Derived.Test.YtblhfdkopnaobaaMoLives
import Derived.Test.YtblhfdkopnaobaaMoFirstM
import Derived.Deep.RegionHeld3
namespace Go.Proofs.Ytblhfdkopnaobaa
open Go.RowKit

theorem moOf_reset (k a b c d : Nat) (l : List Bool) : ((moOf k a b c d).run l).reset = moOf k a b c d := by
  unfold moOf
  (repeat' split) <;> exact Mo.reset_run ..
set_option maxHeartbeats 4000000 in
set_option maxRecDepth 100000 in
theorem mlevellaw_any (k a b c d : Nat) (s : ByteArray) (x : Nat) (w : World) (hk : k ≤ 255) (ha : a ≤ 255) (hb : b ≤ 255) (hc : c ≤ 255) (hd : d ≤ 255) (hx : x ≤ 255) :
    Calls Try.prog 3 #[.agg #[.int .u8 (k : Int), .int .u8 (a : Int), .int .u8 (b : Int), .int .u8 (c : Int), .int .u8 (d : Int)], .string s, .int .u8 (x : Int)] w fun e w' => e = .returned (.bool true) ∧ Below w.heap.size w w' := by
  obtain ⟨W, hW⟩ : ∃ X, X = w.alloc (.cells #[.int .u8 (k : Int), .int .u8 (a : Int), .int .u8 (b : Int), .int .u8 (c : Int), .int .u8 (d : Int)] 23) := ⟨_, rfl⟩
  have hbW : Below w.heap.size w W := by rw [hW]; exact below_alloc _ _
  have oW : Own W w.heap.size 23 [.int .u8 (k : Int), .int .u8 (a : Int), .int .u8 (b : Int), .int .u8 (c : Int), .int .u8 (d : Int)] := by rw [hW]; exact own_new w _ _ _ rfl
  have HW := Lib.hid hW
  have HBW := Lib.hid hbW
  have HOW := Lib.hid oW
  have hlw := oW.lt
  have HLv := Lib.hid mlives_any
  clear hW hbW oW
  obtain ⟨n, hn⟩ : ∃ n, n = s.size := ⟨_, rfl⟩
  by_cases h300 : 300 < n
  · have h3 : (300 : Int) < (s.size : Int) := by omega
    clear hlw h300 hn
    go_enter Try.func3, Try.ntmps3
    go_wp2_with fail
    rw [← HW.out]
    with_reducible refine (HLv.out W).mono ?_
    rintro e w1 ⟨rfl, hb1⟩
    have HB1 := Lib.hid (HBW.out.trans (Below.mono hb1 HBW.out.size))
    clear hb1 HLv
    go_wp2
    go_ret
    exact ⟨rfl, HB1.out⟩
  have h3 : ¬ (300 : Int) < (s.size : Int) := by omega
  have hn3 : n ≤ 300 := by omega
  have hnl := unitsOf_length s
  obtain ⟨l, hl⟩ : ∃ l, l = unitsOf s := ⟨_, rfl⟩
  have HU := Lib.hid (fun W' => units_any s W' (by omega))
  rw [← hl] at hnl HU
  rw [← hn] at hnl HU
  rw [← hn] at h3
  have hsz : (s.size : Int) = (n : Int) := by omega
  have HN := Lib.hid hnl
  have hAr := fun W' => args_any k a b c d W' ha hb hc hd
  have hOf := fun W' => mof_any k a b c d W' hk ha hb hc hd
  have hlev := fun W' sa n' sc l' (h : BRow W' sa n' sc l') (hn : n' ≤ 100000) => mlevel_any k a b c d W' hk ha hb hc hd sa n' sc l' h hn
  have hmk := moOf_kd k a b c d
  have hml := moOf_lim k a b c d
  have hm0 := moOf_lvl k a b c d
  have hrs := fun l => moOf_reset k a b c d l
  have hrl := fun i hi => run_lv k a b c d l i hi
  have hlt2 := fun i hi => lv_take k a b c d l i hi
  have hle := lv_le k a b c d l
  have hA0 : 1 + a % 40 ≤ 40 := by omega
  have hA01 : 1 ≤ 1 + a % 40 := by omega
  unfold OfBy at hOf
  obtain ⟨A, hA1⟩ : ∃ A, A = 1 + a % 40 := ⟨_, rfl⟩
  rw [← hA1] at hAr hml hle hA0 hA01
  obtain ⟨kd, hkd⟩ : ∃ x, x = kdOf k := ⟨_, rfl⟩
  rw [← hkd] at hOf hmk
  obtain ⟨m, hm⟩ : ∃ x, x = moOf k a b c d := ⟨_, rfl⟩
  rw [← hm] at hOf hmk hml hm0 hrl
  simp only [← hm] at hrs
  unfold mval at hOf
  have mo := fun g W' => meth_over kd g W'
  have mc := fun g W' => meth_count kd g W'
  have ml := fun g W' => meth_level kd g W'
  have mr := fun g W' => meth_reset kd g W'
  have na := fun g W' => ahead_count kd g W'
  have ec := enter_count kd
  have er := enter_reset kd
  have hM := fun g => meth_any kd g
  obtain ⟨T, hT⟩ : ∃ T, T = kd.ptr := ⟨_, rfl⟩
  obtain ⟨K, hK⟩ : ∃ T, T = kd.fCount := ⟨_, rfl⟩
  obtain ⟨R, hR⟩ : ∃ T, T = kd.fReset := ⟨_, rfl⟩
  rw [← hT] at hOf
  rw [← hK] at ec
  rw [← hR] at er
  simp only [← hT, ← hK, ← hR] at mo mc ml mr na hM
  have hmf : ∀ (fn : Fn) (first cap : Array Value) (w : World), (Instr.makeFunc fn first cap).run Try.prog w = .ok (.func fn first cap) w := fun _ _ _ _ => rfl
  generalize lv k a b c d = f at hlev hrl hlt2 hle
  have HMo := Lib.hid mo
  have HMc := Lib.hid mc
  have HMl := Lib.hid ml
  have HMr := Lib.hid mr
  have HNa := Lib.hid na
  have HAr := Lib.hid hAr
  have HOf := Lib.hid hOf
  have HLev := Lib.hid hlev
  have HMk := Lib.hid hmk
  have HLi := Lib.hid hml
  have HM0 := Lib.hid hm0
  have HRs := Lib.hid hrs
  have HRl := Lib.hid hrl
  have HT2 := Lib.hid hlt2
  have HLe := Lib.hid hle
  have HM := Lib.hid hM
  have HA := Lib.hid (And.intro hA0 (And.intro hA01 hn3))
  have x0 : (0 : Int) ≤ (x : Int) := by omega
  have x1 : (x : Int) ≤ 255 := by omega
  have hwx : IntKind.i64.wrap (x : Int) = (x : Int) := IntWalk.i64_in _ (by omega)
  have c0 := HOW.out.cell 0 (by simp)
  have c1 := HOW.out.cell 1 (by simp)
  have c2 := HOW.out.cell 2 (by simp)
  have c3 := HOW.out.cell 3 (by simp)
  have c4 := HOW.out.cell 4 (by simp)
  simp only [List.getD_cons_succ, List.getD_cons_zero] at c0 c1 c2 c3 c4
  clear mo mc ml mr na hAr hOf hlev hmk hml hm0 hrs hrl hlt2 hle hM hA0 hA01 hn3 hT hK hR hm hkd hA1 hl hnl hn h300 hk ha hb hc hd hx
  go_enter Try.func3, Try.ntmps3
  go_wp2_with fail
  rw [← HW.out]
  with_reducible refine (HOf.out W).mono ?_
  rintro e w1 ⟨g, rfl, hg, hm, hb1⟩
  have HB1 := Lib.hid (HBW.out.trans (Below.mono hb1 HBW.out.size))
  have HM1 := Lib.hid hm
  have HG := Lib.hid (show w.heap.size ≤ g by have := HBW.out.size; omega)
  have HNe := Lib.hid (show w.heap.size ≠ g by have := HOW.out.lt; omega)
  have HO1 := Lib.hid (HOW.out.below hb1 HOW.out.lt)
  have mo := HMo.out g
  have mc := HMc.out g
  have ml := HMl.out g
  have mr := HMr.out g
  have na := HNa.out g
  have HMe := Lib.hid (HM.out g)
  clear hm hg hb1 c0 c1 c2 c3 c4 HOf HMo HMc HMl HMr HNa HM
  have hl1 := level_any g m w1 HM1.out
  rw [HM0.out] at hl1
  have hz0 : ((0 : Nat) : Int) = 0 := rfl
  rw [hz0] at hl1
  have ho1 := over_any g m w1 HM1.out
  have hov : m.over = false := by unfold Mo.over; rw [HM0.out, HLi.out]; exact decide_eq_false (by have := HA.out; omega)
  rw [hov] at ho1
  have HL1 := Lib.hid hl1
  have HV1 := Lib.hid ho1
  clear hl1 ho1 hov hz0
  go_wp2_with fail
  with_reducible refine HL1.out.mono ?_
  rintro e w1' ⟨rfl, rfl⟩
  go_wp2_with fail
  with_reducible refine HV1.out.mono ?_
  rintro e w2 ⟨rfl, q, rfl⟩
  have hb2 := below_draw w1' q
  generalize w1'.drewN q = w2 at hb2 ⊢
  have HB2 := Lib.hid (HB1.out.trans (Below.mono hb2 HB1.out.size))
  have HM2 := Lib.hid (HM1.out.below hb2)
  have HO2 := Lib.hid (HO1.out.below hb2 HO1.out.lt)
  clear hb2 HB1 HM1 HO1 HL1 HV1
  go_wp2_with fail
  with_reducible refine (HU.out w2).mono ?_
  rintro e w3 ⟨sa, sc, rfl, hrow, hfar, _, hb3⟩
  have HB3 := Lib.hid (HB2.out.trans (Below.mono hb3 HB2.out.size))
  have HM3 := Lib.hid (HM2.out.below hb3)
  have HO3 := Lib.hid (HO2.out.below hb3 HO2.out.lt)
  have HR := Lib.hid hrow
  have HF := Lib.hid (fun x (h : sa = some x) => (by have := hfar x h; have := HM2.out.lt; omega : x.block ≠ g))
  clear hb3 hrow hfar HB2 HM2 HU HO2
  go_wp2_with fail
  go_loopw [10] (fun i wr => ∃ j : Nat, j ≤ n ∧ i = .int .i64 j ∧ MoAt wr g (m.run (l.take j)) ∧ Exc (fun k => k = g) w3 wr) (fun i _ => n - (intOf i).toNat)
  case atStart => exact ⟨0, Nat.zero_le _, rfl, HM3.out, Exc.refl _ _⟩
  case round =>
    obtain ⟨j, hj, rfl, hmj, hxj⟩ := hrel
    by_cases hlt : j < n
    · have hji : (j : Int) < (n : Int) := by omega
      by_cases hlx : j < x
      · have hjx : (j : Int) < (x : Int) := by omega
        have j0 : (0 : Int) ≤ (j : Int) := by omega
        obtain ⟨sb, so, rfl, hcells⟩ := (HR.out.exc hxj HF.out).at (by omega)
        have hcj := hcells j hlt
        obtain ⟨ok, hok⟩ : ∃ ok, ok = l.getD j true := ⟨_, rfl⟩
        rw [← hok] at hcj
        have HCn := Lib.hid (HMe.out.count _ wr.drew (by rw [Mo.run_kd, HMk.out]) (hmj.below (below_draw wr 1)) ok)
        have HNs := Lib.hid (show ¬ sb = g from HF.out _ rfl)
        have HCd := Lib.hid (show wr.drew.cell? ⟨sb, so + j, none⟩ = some (.bool ok) from hcj)
        have HX := Lib.hid hxj
        obtain ⟨J, hJ⟩ : ∃ J, J = j + 1 := ⟨_, rfl⟩
        have hw1 : IntKind.i64.wrap ((j : Int) + 1) = (J : Int) := by have := HA.out; rw [IntWalk.i64_in _ (by omega)]; omega
        have HJ := Lib.hid (And.intro hJ (And.intro hlt hok))
        clear hmj hxj hcells hJ hlt hlx hj hok
        go_wp2_with fail
        go_region_held3 (fun W => W.cell? ⟨sb, so + j, none⟩ = some (.bool ok)) (first | assumption | go_keep)
          (first
            | ((with_reducible refine HCn.out.mono ?_); rintro e w4 ⟨rfl, hm4, hx4⟩; have k2 := hx4.cell HCd.out HNs.out; have HM4 := Lib.hid hm4; have HX4 := Lib.hid hx4; clear hm4 hx4)
            | fail)
        go_wp2_with fail
        refine ⟨⟨J, by have := HJ.out; omega, by rfl, ?_, (HX.out.drawN 1).trans HX4.out (fun _ _ h => h)⟩, by simp only [intOf]; have := HJ.out; omega⟩
        rw [HJ.out.1, Mo.run_take_succ _ _ _ (by rw [HN.out]; exact HJ.out.2.1), ← HJ.out.2.2]
        exact HM4.out
      · have hjx : ¬ (j : Int) < (x : Int) := by omega
        have HJE := Lib.hid hj
        have HMj := Lib.hid hmj
        have HX := Lib.hid hxj
        clear hlt hlx hj hmj hxj
        obtain ⟨w4, rfl⟩ : ∃ x, x = wr := ⟨_, rfl⟩
        have hres := HMe.out.reset _ w4 (by rw [Mo.run_kd, HMk.out]) HMj.out
        rw [HRs.out] at hres
        have HRe := Lib.hid hres
        have HO4 := Lib.hid (show Own w4 w.heap.size 23 [.int .u8 (k : Int), .int .u8 (a : Int), .int .u8 (b : Int), .int .u8 (c : Int), .int .u8 (d : Int)] by unfold Own; rw [HX.out.block _ HO3.out.lt (fun h => HNe.out h)]; exact HO3.out)
        have HB4 := Lib.hid (HB3.out.trans (HX.out.below HB3.out.size (fun i _ h => by have := HG.out; omega)))
        have HR4 := Lib.hid (HR.out.exc HX.out HF.out)
        clear hres HMj HX
        go_wp2_with fail
        with_reducible refine HRe.out.mono ?_
        rintro e w5 ⟨rfl, hm5, hx5⟩
        have HM5 := Lib.hid hm5
        have HO5 := Lib.hid (show Own w5 w.heap.size 23 [.int .u8 (k : Int), .int .u8 (a : Int), .int .u8 (b : Int), .int .u8 (c : Int), .int .u8 (d : Int)] by unfold Own; rw [hx5.block _ HO4.out.lt (fun h => HNe.out h)]; exact HO4.out)
        have HB5 := Lib.hid (HB4.out.trans (hx5.below HB4.out.size (fun i _ h => by have := HG.out; omega)))
        have HR5 := Lib.hid (HR4.out.exc hx5 HF.out)
        clear hm5 hx5 HRe HO4 HB4 HR4
        have c0 := HO5.out.cell 0 (by simp)
        have c1 := HO5.out.cell 1 (by simp)
        have c2 := HO5.out.cell 2 (by simp)
        have c3 := HO5.out.cell 3 (by simp)
        have c4 := HO5.out.cell 4 (by simp)
        simp only [List.getD_cons_succ, List.getD_cons_zero] at c0 c1 c2 c3 c4
        go_wp2_with fail
        with_reducible refine (HAr.out w5).mono ?_
        rintro e w6 ⟨rfl, hb6⟩
        have HB6 := Lib.hid (HB5.out.trans (Below.mono hb6 HB5.out.size))
        have HM6 := Lib.hid (HM5.out.below hb6)
        have HO6 := Lib.hid (HO5.out.below hb6 HO5.out.lt)
        have HR6 := Lib.hid (HR5.out.later hb6)
        clear hb6 HB5 HM5 HO5 HR5 c0 c1 c2 c3 c4
        go_wp2_with fail
        go_loopw [15] (fun i wr => ∃ j : Nat, j ≤ n ∧ i = .int .i64 j ∧ MoAt wr g (m.run (l.take j)) ∧ Exc (fun k => k = g) w6 wr) (fun i _ => n - (intOf i).toNat)
        case atStart => exact ⟨0, Nat.zero_le _, rfl, HM6.out, Exc.refl _ _⟩
        case round =>
          obtain ⟨j', hj, rfl, hmj, hxj⟩ := hrel
          by_cases hlt : j' < n
          · have hji' : (j' : Int) < (n : Int) := by omega
            have j0 : (0 : Int) ≤ (j' : Int) := by omega
            have hr7 := HR6.out.exc hxj HF.out
            obtain ⟨sb, so, rfl, hcells⟩ := hr7.at (by omega)
            have hcj := hcells j' hlt
            obtain ⟨ok, hok⟩ : ∃ ok, ok = l.getD j' true := ⟨_, rfl⟩
            rw [← hok] at hcj
            have HCn := Lib.hid (HMe.out.count _ wr.drew (by rw [Mo.run_kd, HMk.out]) (hmj.below (below_draw wr 1)) ok)
            have HNs := Lib.hid (show ¬ sb = g from HF.out _ rfl)
            have HCd := Lib.hid (show wr.drew.cell? ⟨sb, so + j', none⟩ = some (.bool ok) from hcj)
            have HX := Lib.hid hxj
            obtain ⟨J, hJ⟩ : ∃ J, J = j' + 1 := ⟨_, rfl⟩
            have hw1 : IntKind.i64.wrap ((j' : Int) + 1) = (J : Int) := by have := HA.out; rw [IntWalk.i64_in _ (by omega)]; omega
            have J0 : (0 : Int) ≤ (J : Int) := by omega
            have hcap := hr7.le
            have hncap : (n : Int) ≤ (sc : Int) := by omega
            have hJcap : (J : Int) ≤ (sc : Int) := by omega
            have hJn : (J : Int) ≤ (n : Int) := by omega
            have HJ := Lib.hid (And.intro hJ (And.intro hlt hok))
            clear hmj hxj hcells hJ hlt hj hok hr7 hcap
            go_wp2_with fail
            go_region_held3 (fun W => W.cell? ⟨sb, so + j', none⟩ = some (.bool ok)) (first | assumption | go_keep)
              (first
                | ((with_reducible refine HCn.out.mono ?_); rintro e w7 ⟨rfl, hm7, hx7⟩; have k2 := hx7.cell HCd.out HNs.out; have HM7 := Lib.hid hm7; have HX7 := Lib.hid hx7; clear hm7 hx7)
                | fail)
            have hx7 := (HX.out.drawN 1).trans HX7.out (fun _ _ h => h)
            have hm7 := HM7.out
            rw [HJ.out.2.2, ← Mo.run_take_succ _ _ _ (by rw [HN.out]; exact HJ.out.2.1), ← HJ.out.1] at hm7
            have hr7 := HR6.out.exc hx7 HF.out
            have ho7 : Own w7 w.heap.size 23 [.int .u8 (k : Int), .int .u8 (a : Int), .int .u8 (b : Int), .int .u8 (c : Int), .int .u8 (d : Int)] := by unfold Own; rw [hx7.block _ HO6.out.lt (fun h => HNe.out h)]; exact HO6.out
            have hJl : J ≤ n := by have := HJ.out; omega
            have hlv := fun W' (hb : Below w7.heap.size w7 W') => HLev.out W' (some ⟨sb, so, none⟩) J sc (l.take J) ((hr7.later hb).front J hJl) (by have := HA.out; omega)
            rw [HT2.out J (by rw [HN.out]; exact hJl)] at hlv
            have hS : ∀ W', Below w7.heap.size w7 W' → Below w7.heap.size w7 W' ∧ W'.cell? ⟨w.heap.size, 0, none⟩ = some (.int .u8 (k : Int)) ∧ W'.cell? ⟨w.heap.size, 1, none⟩ = some (.int .u8 (a : Int)) ∧ W'.cell? ⟨w.heap.size, 2, none⟩ = some (.int .u8 (b : Int)) ∧ W'.cell? ⟨w.heap.size, 3, none⟩ = some (.int .u8 (c : Int)) ∧ W'.cell? ⟨w.heap.size, 4, none⟩ = some (.int .u8 (d : Int)) := by
              intro W' hb
              have ho := ho7.below hb ho7.lt
              exact ⟨hb, ho.cell 0 (by simp), ho.cell 1 (by simp), ho.cell 2 (by simp), ho.cell 3 (by simp), ho.cell 4 (by simp)⟩
            have hVl := HRl.out J (by rw [HN.out]; exact hJl)
            have hVA := HLe.out J
            obtain ⟨V, hV⟩ : ∃ V, V = f l J := ⟨_, rfl⟩
            rw [← hV] at hlv hVl hVA
            have HS := Lib.hid hS
            have HLv2 := Lib.hid hlv
            have HM8 := Lib.hid hm7
            have HX8 := Lib.hid hx7
            have HVl := Lib.hid (And.intro hVl hVA)
            have HJl := Lib.hid hJl
            clear hS hlv hm7 hx7 hr7 ho7 hVl hVA hV hJl HM7 HX7 k2 hcj HCn HX HCd
            go_wp2_with fail
            have hS0 := HS.out w7 (Below.refl _ _)
            go_region_held3 (fun W' => Below w7.heap.size w7 W' ∧ W'.cell? ⟨w.heap.size, 0, none⟩ = some (.int .u8 (k : Int)) ∧ W'.cell? ⟨w.heap.size, 1, none⟩ = some (.int .u8 (a : Int)) ∧ W'.cell? ⟨w.heap.size, 2, none⟩ = some (.int .u8 (b : Int)) ∧ W'.cell? ⟨w.heap.size, 3, none⟩ = some (.int .u8 (c : Int)) ∧ W'.cell? ⟨w.heap.size, 4, none⟩ = some (.int .u8 (d : Int))) (first | assumption | exact HS.out _ (below_draw _ _))
              (first
                | (go_at_call 13; ((with_reducible refine (HLv2.out _ (And.left (by assumption))).mono ?_); rintro e w8 ⟨rfl, hb8⟩); have hS8 := HS.out _ (Below.trans (And.left (by assumption)) (Below.mono hb8 (Below.size (And.left (by assumption))))); clear hb8)
                | fail)
            have hb8 := And.left hS8
            have HM9 := Lib.hid (HM8.out.below hb8)
            have HX9 := Lib.hid (HX8.out.trans (Exc.of_below (S := fun k => k = g) hb8) (fun _ _ h => h))
            clear hS0 hS8 hb8 HS HLv2 HM8 HX8
            have hll := level_any g _ w8 HM9.out
            rw [HVl.out.1] at hll
            have hoo := over_any g _ w8 HM9.out
            have hove : (m.run (l.take J)).over = decide (V = A) := by unfold Mo.over; rw [HVl.out.1, Mo.run_lim, HLi.out]
            rw [hove] at hoo
            have heq := eq_dec V A
            obtain ⟨Bq, hBq⟩ : ∃ Bq, Bq = decide (V = A) := ⟨_, rfl⟩
            rw [← hBq] at hoo heq
            have hvv : ((V : Int) != (V : Int)) = false := by simp
            have hbb : (Bq != Bq) = false := by simp
            have v0 : ¬ (V : Int) < 0 := by omega
            have vA : ¬ (A : Int) < (V : Int) := by have := HVl.out.2; omega
            have HLl := Lib.hid hll
            have HOo := Lib.hid hoo
            clear hll hoo hove hBq
            go_wp2_with fail
            with_reducible refine HLl.out.mono ?_
            rintro e w9 ⟨rfl, rfl⟩
            go_wp2_with fail
            with_reducible refine HOo.out.mono ?_
            rintro e w10 ⟨rfl, q10, rfl⟩
            have hb10 := below_draw w9 q10
            generalize w9.drewN q10 = w10 at hb10 ⊢
            have HM10 := Lib.hid (HM9.out.below hb10)
            have HX10 := Lib.hid (HX9.out.trans (Exc.of_below (S := fun k => k = g) hb10) (fun _ _ h => h))
            clear hb10 HM9 HX9 HLl HOo
            cases Bq
            all_goals
              go_wp2_with fail
              refine ⟨⟨J, HJl.out, by rfl, HM10.out, HX10.out⟩, by simp only [intOf]; have := HJ.out; omega⟩
          · obtain rfl : j' = n := by omega
            have hji' : ¬ (j' : Int) < (j' : Int) := by omega
            have HB7 := Lib.hid (HB6.out.trans (hxj.below HB6.out.size (fun i _ h => by have := HG.out; omega)))
            clear hlt hj hmj hxj
            go_wp2_with fail
            with_reducible refine (HLv.out _).mono ?_
            rintro e w8 ⟨rfl, hb8⟩
            have HB8 := Lib.hid (HB7.out.trans (Below.mono hb8 HB7.out.size))
            clear hb8 HB7
            go_wp2
            go_ret
            exact ⟨rfl, HB8.out⟩
    · have hji : ¬ (j : Int) < (n : Int) := by omega
      have HJE := Lib.hid hj
      have HMj := Lib.hid hmj
      have HX := Lib.hid hxj
      clear hlt hj hmj hxj
      obtain ⟨w4, rfl⟩ : ∃ x, x = wr := ⟨_, rfl⟩
      have hres := HMe.out.reset _ w4 (by rw [Mo.run_kd, HMk.out]) HMj.out
      rw [HRs.out] at hres
      have HRe := Lib.hid hres
      have HO4 := Lib.hid (show Own w4 w.heap.size 23 [.int .u8 (k : Int), .int .u8 (a : Int), .int .u8 (b : Int), .int .u8 (c : Int), .int .u8 (d : Int)] by unfold Own; rw [HX.out.block _ HO3.out.lt (fun h => HNe.out h)]; exact HO3.out)
      have HB4 := Lib.hid (HB3.out.trans (HX.out.below HB3.out.size (fun i _ h => by have := HG.out; omega)))
      have HR4 := Lib.hid (HR.out.exc HX.out HF.out)
      clear hres HMj HX
      go_wp2_with fail
      with_reducible refine HRe.out.mono ?_
      rintro e w5 ⟨rfl, hm5, hx5⟩
      have HM5 := Lib.hid hm5
      have HO5 := Lib.hid (show Own w5 w.heap.size 23 [.int .u8 (k : Int), .int .u8 (a : Int), .int .u8 (b : Int), .int .u8 (c : Int), .int .u8 (d : Int)] by unfold Own; rw [hx5.block _ HO4.out.lt (fun h => HNe.out h)]; exact HO4.out)
      have HB5 := Lib.hid (HB4.out.trans (hx5.below HB4.out.size (fun i _ h => by have := HG.out; omega)))
      have HR5 := Lib.hid (HR4.out.exc hx5 HF.out)
      clear hm5 hx5 HRe HO4 HB4 HR4
      have c0 := HO5.out.cell 0 (by simp)
      have c1 := HO5.out.cell 1 (by simp)
      have c2 := HO5.out.cell 2 (by simp)
      have c3 := HO5.out.cell 3 (by simp)
      have c4 := HO5.out.cell 4 (by simp)
      simp only [List.getD_cons_succ, List.getD_cons_zero] at c0 c1 c2 c3 c4
      go_wp2_with fail
      with_reducible refine (HAr.out w5).mono ?_
      rintro e w6 ⟨rfl, hb6⟩
      have HB6 := Lib.hid (HB5.out.trans (Below.mono hb6 HB5.out.size))
      have HM6 := Lib.hid (HM5.out.below hb6)
      have HO6 := Lib.hid (HO5.out.below hb6 HO5.out.lt)
      have HR6 := Lib.hid (HR5.out.later hb6)
      clear hb6 HB5 HM5 HO5 HR5 c0 c1 c2 c3 c4
      go_wp2_with fail
      go_loopw [15] (fun i wr => ∃ j : Nat, j ≤ n ∧ i = .int .i64 j ∧ MoAt wr g (m.run (l.take j)) ∧ Exc (fun k => k = g) w6 wr) (fun i _ => n - (intOf i).toNat)
      case atStart => exact ⟨0, Nat.zero_le _, rfl, HM6.out, Exc.refl _ _⟩
      case round =>
        obtain ⟨j', hj, rfl, hmj, hxj⟩ := hrel
        by_cases hlt : j' < n
        · have hji' : (j' : Int) < (n : Int) := by omega
          have j0 : (0 : Int) ≤ (j' : Int) := by omega
          have hr7 := HR6.out.exc hxj HF.out
          obtain ⟨sb, so, rfl, hcells⟩ := hr7.at (by omega)
          have hcj := hcells j' hlt
          obtain ⟨ok, hok⟩ : ∃ ok, ok = l.getD j' true := ⟨_, rfl⟩
          rw [← hok] at hcj
          have HCn := Lib.hid (HMe.out.count _ wr.drew (by rw [Mo.run_kd, HMk.out]) (hmj.below (below_draw wr 1)) ok)
          have HNs := Lib.hid (show ¬ sb = g from HF.out _ rfl)
          have HCd := Lib.hid (show wr.drew.cell? ⟨sb, so + j', none⟩ = some (.bool ok) from hcj)
          have HX := Lib.hid hxj
          obtain ⟨J, hJ⟩ : ∃ J, J = j' + 1 := ⟨_, rfl⟩
          have hw1 : IntKind.i64.wrap ((j' : Int) + 1) = (J : Int) := by have := HA.out; rw [IntWalk.i64_in _ (by omega)]; omega
          have J0 : (0 : Int) ≤ (J : Int) := by omega
          have hcap := hr7.le
          have hncap : (n : Int) ≤ (sc : Int) := by omega
          have hJcap : (J : Int) ≤ (sc : Int) := by omega
          have hJn : (J : Int) ≤ (n : Int) := by omega
          have HJ := Lib.hid (And.intro hJ (And.intro hlt hok))
          clear hmj hxj hcells hJ hlt hj hok hr7 hcap
          go_wp2_with fail
          go_region_held3 (fun W => W.cell? ⟨sb, so + j', none⟩ = some (.bool ok)) (first | assumption | go_keep)
            (first
              | ((with_reducible refine HCn.out.mono ?_); rintro e w7 ⟨rfl, hm7, hx7⟩; have k2 := hx7.cell HCd.out HNs.out; have HM7 := Lib.hid hm7; have HX7 := Lib.hid hx7; clear hm7 hx7)
              | fail)
          have hx7 := (HX.out.drawN 1).trans HX7.out (fun _ _ h => h)
          have hm7 := HM7.out
          rw [HJ.out.2.2, ← Mo.run_take_succ _ _ _ (by rw [HN.out]; exact HJ.out.2.1), ← HJ.out.1] at hm7
          have hr7 := HR6.out.exc hx7 HF.out
          have ho7 : Own w7 w.heap.size 23 [.int .u8 (k : Int), .int .u8 (a : Int), .int .u8 (b : Int), .int .u8 (c : Int), .int .u8 (d : Int)] := by unfold Own; rw [hx7.block _ HO6.out.lt (fun h => HNe.out h)]; exact HO6.out
          have hJl : J ≤ n := by have := HJ.out; omega
          have hlv := fun W' (hb : Below w7.heap.size w7 W') => HLev.out W' (some ⟨sb, so, none⟩) J sc (l.take J) ((hr7.later hb).front J hJl) (by have := HA.out; omega)
          rw [HT2.out J (by rw [HN.out]; exact hJl)] at hlv
          have hS : ∀ W', Below w7.heap.size w7 W' → Below w7.heap.size w7 W' ∧ W'.cell? ⟨w.heap.size, 0, none⟩ = some (.int .u8 (k : Int)) ∧ W'.cell? ⟨w.heap.size, 1, none⟩ = some (.int .u8 (a : Int)) ∧ W'.cell? ⟨w.heap.size, 2, none⟩ = some (.int .u8 (b : Int)) ∧ W'.cell? ⟨w.heap.size, 3, none⟩ = some (.int .u8 (c : Int)) ∧ W'.cell? ⟨w.heap.size, 4, none⟩ = some (.int .u8 (d : Int)) := by
            intro W' hb
            have ho := ho7.below hb ho7.lt
            exact ⟨hb, ho.cell 0 (by simp), ho.cell 1 (by simp), ho.cell 2 (by simp), ho.cell 3 (by simp), ho.cell 4 (by simp)⟩
          have hVl := HRl.out J (by rw [HN.out]; exact hJl)
          have hVA := HLe.out J
          obtain ⟨V, hV⟩ : ∃ V, V = f l J := ⟨_, rfl⟩
          rw [← hV] at hlv hVl hVA
          have HS := Lib.hid hS
          have HLv2 := Lib.hid hlv
          have HM8 := Lib.hid hm7
          have HX8 := Lib.hid hx7
          have HVl := Lib.hid (And.intro hVl hVA)
          have HJl := Lib.hid hJl
          clear hS hlv hm7 hx7 hr7 ho7 hVl hVA hV hJl HM7 HX7 k2 hcj HCn HX HCd
          go_wp2_with fail
          have hS0 := HS.out w7 (Below.refl _ _)
          go_region_held3 (fun W' => Below w7.heap.size w7 W' ∧ W'.cell? ⟨w.heap.size, 0, none⟩ = some (.int .u8 (k : Int)) ∧ W'.cell? ⟨w.heap.size, 1, none⟩ = some (.int .u8 (a : Int)) ∧ W'.cell? ⟨w.heap.size, 2, none⟩ = some (.int .u8 (b : Int)) ∧ W'.cell? ⟨w.heap.size, 3, none⟩ = some (.int .u8 (c : Int)) ∧ W'.cell? ⟨w.heap.size, 4, none⟩ = some (.int .u8 (d : Int))) (first | assumption | exact HS.out _ (below_draw _ _))
            (first
              | (go_at_call 13; ((with_reducible refine (HLv2.out _ (And.left (by assumption))).mono ?_); rintro e w8 ⟨rfl, hb8⟩); have hS8 := HS.out _ (Below.trans (And.left (by assumption)) (Below.mono hb8 (Below.size (And.left (by assumption))))); clear hb8)
              | fail)
          have hb8 := And.left hS8
          have HM9 := Lib.hid (HM8.out.below hb8)
          have HX9 := Lib.hid (HX8.out.trans (Exc.of_below (S := fun k => k = g) hb8) (fun _ _ h => h))
          clear hS0 hS8 hb8 HS HLv2 HM8 HX8
          have hll := level_any g _ w8 HM9.out
          rw [HVl.out.1] at hll
          have hoo := over_any g _ w8 HM9.out
          have hove : (m.run (l.take J)).over = decide (V = A) := by unfold Mo.over; rw [HVl.out.1, Mo.run_lim, HLi.out]
          rw [hove] at hoo
          have heq := eq_dec V A
          obtain ⟨Bq, hBq⟩ : ∃ Bq, Bq = decide (V = A) := ⟨_, rfl⟩
          rw [← hBq] at hoo heq
          have hvv : ((V : Int) != (V : Int)) = false := by simp
          have hbb : (Bq != Bq) = false := by simp
          have v0 : ¬ (V : Int) < 0 := by omega
          have vA : ¬ (A : Int) < (V : Int) := by have := HVl.out.2; omega
          have HLl := Lib.hid hll
          have HOo := Lib.hid hoo
          clear hll hoo hove hBq
          go_wp2_with fail
          with_reducible refine HLl.out.mono ?_
          rintro e w9 ⟨rfl, rfl⟩
          go_wp2_with fail
          with_reducible refine HOo.out.mono ?_
          rintro e w10 ⟨rfl, q10, rfl⟩
          have hb10 := below_draw w9 q10
          generalize w9.drewN q10 = w10 at hb10 ⊢
          have HM10 := Lib.hid (HM9.out.below hb10)
          have HX10 := Lib.hid (HX9.out.trans (Exc.of_below (S := fun k => k = g) hb10) (fun _ _ h => h))
          clear hb10 HM9 HX9 HLl HOo
          cases Bq
          all_goals
            go_wp2_with fail
            refine ⟨⟨J, HJl.out, by rfl, HM10.out, HX10.out⟩, by simp only [intOf]; have := HJ.out; omega⟩
        · obtain rfl : j' = n := by omega
          have hji' : ¬ (j' : Int) < (j' : Int) := by omega
          have HB7 := Lib.hid (HB6.out.trans (hxj.below HB6.out.size (fun i _ h => by have := HG.out; omega)))
          clear hlt hj hmj hxj
          go_wp2_with fail
          with_reducible refine (HLv.out _).mono ?_
          rintro e w8 ⟨rfl, hb8⟩
          have HB8 := Lib.hid (HB7.out.trans (Below.mono hb8 HB7.out.size))
          clear hb8 HB7
          go_wp2
          go_ret
          exact ⟨rfl, HB8.out⟩
end Go.Proofs.Ytblhfdkopnaobaa
