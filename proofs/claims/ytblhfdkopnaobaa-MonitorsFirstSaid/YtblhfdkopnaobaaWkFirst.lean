/- Statements of layer 8: MonitorsFirst. -/
import Derived.Test.YtblhfdkopnaobaaMoLives
import Derived.Test.YtblhfdkopnaobaaMoFirstM
import Derived.Deep.RegionHeld3
namespace Go.Proofs.Ytblhfdkopnaobaa
open Go.RowKit

set_option maxHeartbeats 4000000 in
set_option maxRecDepth 100000 in
theorem mfirst_any (k a b c d : Nat) (s : ByteArray) (w : World) (hk : k ≤ 255) (ha : a ≤ 255) (hb : b ≤ 255) (hc : c ≤ 255) (hd : d ≤ 255) :
    Calls Try.prog 4 #[.agg #[.int .u8 (k : Int), .int .u8 (a : Int), .int .u8 (b : Int), .int .u8 (c : Int), .int .u8 (d : Int)], .string s] w fun e w' => e = .returned (.bool true) ∧ Below w.heap.size w w' := by
  obtain ⟨W, hW⟩ : ∃ X, X = w.alloc (.cells #[.int .u8 (k : Int), .int .u8 (a : Int), .int .u8 (b : Int), .int .u8 (c : Int), .int .u8 (d : Int)] 23) := ⟨_, rfl⟩
  have hbW : Below w.heap.size w W := by rw [hW]; exact below_alloc _ _
  have oW : Own W w.heap.size 23 [.int .u8 (k : Int), .int .u8 (a : Int), .int .u8 (b : Int), .int .u8 (c : Int), .int .u8 (d : Int)] := by rw [hW]; exact own_new w _ _ _ rfl
  have HW := Lib.hid hW
  have HBW := Lib.hid hbW
  have HOW := Lib.hid oW
  have hlw := oW.lt
  have HLv := Lib.hid mlives_any
  clear hW hbW oW
  obtain ⟨n, hn⟩ : ∃ n, n = s.size := ⟨_, rfl⟩
  by_cases h300 : 300 < n
  · have h3 : (300 : Int) < (s.size : Int) := by omega
    clear hlw h300 hn
    go_enter Try.func4, Try.ntmps4
    go_wp2_with fail
    rw [← HW.out]
    with_reducible refine (HLv.out W).mono ?_
    rintro e w1 ⟨rfl, hb1⟩
    have HB1 := Lib.hid (HBW.out.trans (Below.mono hb1 HBW.out.size))
    clear hb1 HLv
    go_wp2
    go_ret
    exact ⟨rfl, HB1.out⟩
  have h3 : ¬ (300 : Int) < (s.size : Int) := by omega
  have hn3 : n ≤ 300 := by omega
  have hnl := unitsOf_length s
  obtain ⟨l, hl⟩ : ∃ l, l = unitsOf s := ⟨_, rfl⟩
  have HU := Lib.hid (fun W' => units_any s W' (by omega))
  rw [← hl] at hnl HU
  rw [← hn] at hnl HU
  rw [← hn] at h3
  have hsz : (s.size : Int) = (n : Int) := by omega
  have HN := Lib.hid hnl
  have hAr := fun W' => args_any k a b c d W' ha hb hc hd
  have hOf := fun W' => mof_any k a b c d W' hk ha hb hc hd
  have hlev := fun W' sa n' sc l' (h : BRow W' sa n' sc l') (hn : n' ≤ 100000) => mlevel_any k a b c d W' hk ha hb hc hd sa n' sc l' h hn
  have hwant := fun x => Want.first (k := k) (a := a) (b := b) (c := c) (d := d) (l := l) (x := x)
  have hafl := after_lv k a b c d l
  have hafk := after_kd (moOf k a b c d) l
  have hafo := fun h => after_over (m := moOf k a b c d) (l := l) h l
  have hmk := moOf_kd k a b c d
  have hlt2 := fun i hi => lv_take k a b c d l i hi
  have hA0 : 1 + a % 40 ≤ 40 := by omega
  unfold OfBy at hOf
  obtain ⟨A, hA1⟩ : ∃ A, A = 1 + a % 40 := ⟨_, rfl⟩
  rw [← hA1] at hAr hwant hA0
  obtain ⟨kd, hkd⟩ : ∃ x, x = kdOf k := ⟨_, rfl⟩
  rw [← hkd] at hOf hmk
  obtain ⟨m, hm⟩ : ∃ x, x = moOf k a b c d := ⟨_, rfl⟩
  rw [← hm] at hOf hmk hwant hafl hafk hafo
  unfold mval at hOf
  obtain ⟨T, hT⟩ : ∃ T, T = kd.ptr := ⟨_, rfl⟩
  rw [← hT] at hOf
  have hml := fun g W' => meth_level kd g W'
  rw [← hT] at hml
  have hfi : ∀ g (mj : Mo) (W' : World), mj.kd = kd → MoAt W' g mj → ∀ (a : Option Addr) (n c : Nat) (l : List Bool), BRow W' a n c l → (∀ x, a = some x → x.block ≠ g) →
      Calls Try.prog 14 #[.iface T (.pointer (some ⟨g, 0, none⟩)), .slice a n c] W' fun e w' => e = .returned (.int .i64 (mj.firstI l)) ∧ MoAt w' g (mj.after l) ∧ Exc (fun k => k = g) W' w' := by
    intro g mj W' e h a n c l hl hne
    rw [hT, ← e]
    exact first_any g mj a n c l W' h hl hne
  generalize lv k a b c d = f at hlev hwant hafl hlt2
  have HAr := Lib.hid hAr
  have HOf := Lib.hid hOf
  have HLev := Lib.hid hlev
  have HWa := Lib.hid hwant
  have HAl := Lib.hid hafl
  have HAk := Lib.hid hafk
  have HAo := Lib.hid hafo
  have HMk := Lib.hid hmk
  have HT2 := Lib.hid hlt2
  have HMl := Lib.hid hml
  have HFi := Lib.hid hfi
  have HA := Lib.hid (And.intro hA0 hn3)
  have c0 := HOW.out.cell 0 (by simp)
  have c1 := HOW.out.cell 1 (by simp)
  have c2 := HOW.out.cell 2 (by simp)
  have c3 := HOW.out.cell 3 (by simp)
  have c4 := HOW.out.cell 4 (by simp)
  simp only [List.getD_cons_succ, List.getD_cons_zero] at c0 c1 c2 c3 c4
  clear hAr hOf hlev hwant hafl hafk hafo hmk hlt2 hml hfi hA0 hn3 hT hm hkd hA1 hl hnl hn h300 hk ha hb hc hd
  go_enter Try.func4, Try.ntmps4
  go_wp2_with fail
  rw [← HW.out]
  with_reducible refine (HOf.out W).mono ?_
  rintro e w1 ⟨g, rfl, hg, hm, hb1⟩
  have HB1 := Lib.hid (HBW.out.trans (Below.mono hb1 HBW.out.size))
  have HM1 := Lib.hid hm
  have HG := Lib.hid (show w.heap.size ≤ g by have := HBW.out.size; omega)
  have HNe := Lib.hid (show w.heap.size ≠ g by have := HOW.out.lt; omega)
  have HO1 := Lib.hid (HOW.out.below hb1 HOW.out.lt)
  clear hm hg hb1 c0 c1 c2 c3 c4 HOf
  have c0 := HO1.out.cell 0 (by simp)
  have c1 := HO1.out.cell 1 (by simp)
  have c2 := HO1.out.cell 2 (by simp)
  have c3 := HO1.out.cell 3 (by simp)
  have c4 := HO1.out.cell 4 (by simp)
  simp only [List.getD_cons_succ, List.getD_cons_zero] at c0 c1 c2 c3 c4
  go_wp2_with fail
  with_reducible refine (HAr.out w1).mono ?_
  rintro e w2 ⟨rfl, hb2⟩
  have HB2 := Lib.hid (HB1.out.trans (Below.mono hb2 HB1.out.size))
  have HM2 := Lib.hid (HM1.out.below hb2)
  have HO2 := Lib.hid (HO1.out.below hb2 HO1.out.lt)
  clear hb2 HB1 HM1 c0 c1 c2 c3 c4 HAr HO1
  go_wp2_with fail
  with_reducible refine (HU.out w2).mono ?_
  rintro e w3 ⟨sa, sc, rfl, hrow, hfar, _, hb3⟩
  have HB3 := Lib.hid (HB2.out.trans (Below.mono hb3 HB2.out.size))
  have HM3 := Lib.hid (HM2.out.below hb3)
  have HO3 := Lib.hid (HO2.out.below hb3 HO2.out.lt)
  have HR := Lib.hid hrow
  have HF := Lib.hid (fun x (h : sa = some x) => (by have := hfar x h; have := HM2.out.lt; omega : x.block ≠ g))
  clear hb3 hrow hfar HB2 HM2 HU HO2
  go_wp2_with fail
  go_loopw [12, 13] (fun v i wr => ∃ (j : Nat) (x : Int), j ≤ n ∧ i = .int .i64 j ∧ v = .int .i64 x ∧ Want (f l) A n j x ∧ Below w3.heap.size w3 wr) (fun _ i _ => (intOf i).toNat)
  case atStart => exact ⟨n, -1, Nat.le_refl _, rfl, rfl, Want.start _ _ _, Below.refl _ _⟩
  case round =>
    obtain ⟨j, x, hj, rfl, rfl, hwx, hbr⟩ := hrel
    by_cases hlt : 0 < j
    · have hji : (0 : Int) < (j : Int) := by omega
      have hjn : (j : Int) ≤ (n : Int) := by omega
      have j0 : (0 : Int) ≤ (j : Int) := by omega
      have hr0 := HR.out
      obtain ⟨sb, so, rfl, _⟩ := hr0.at (by omega)
      have hcap := hr0.le
      have hncap : (n : Int) ≤ (sc : Int) := by omega
      have hjcap : (j : Int) ≤ (sc : Int) := by omega
      have hlv := fun W' (hb : Below wr.heap.size wr W') => HLev.out W' (some ⟨sb, so, none⟩) j sc (l.take j) (((hr0.later hbr).later hb).front j hj) (by have := HA.out; omega)
      rw [HT2.out j (by rw [HN.out]; exact hj)] at hlv
      have hor := HO3.out.below hbr HO3.out.lt
      have HOr := Lib.hid hor
      obtain ⟨V, hV⟩ : ∃ V, V = f l j := ⟨_, rfl⟩
      rw [← hV] at hlv
      have HLv2 := Lib.hid hlv
      have hS : ∀ W', Below wr.heap.size wr W' → Below wr.heap.size wr W' ∧ W'.cell? ⟨w.heap.size, 0, none⟩ = some (.int .u8 (k : Int)) ∧ W'.cell? ⟨w.heap.size, 1, none⟩ = some (.int .u8 (a : Int)) ∧ W'.cell? ⟨w.heap.size, 2, none⟩ = some (.int .u8 (b : Int)) ∧ W'.cell? ⟨w.heap.size, 3, none⟩ = some (.int .u8 (c : Int)) ∧ W'.cell? ⟨w.heap.size, 4, none⟩ = some (.int .u8 (d : Int)) := by
        intro W' hb
        have ho := hor.below hb hor.lt
        exact ⟨hb, ho.cell 0 (by simp), ho.cell 1 (by simp), ho.cell 2 (by simp), ho.cell 3 (by simp), ho.cell 4 (by simp)⟩
      have HS := Lib.hid hS
      clear hS
      obtain ⟨J, hJ⟩ : ∃ J, j = J + 1 := ⟨j - 1, by omega⟩
      have hw1 : IntKind.i64.wrap ((j : Int) - 1) = (J : Int) := by have := HA.out; rw [IntWalk.i64_in _ (by omega)]; omega
      have HWx := Lib.hid hwx
      have HBr := Lib.hid hbr
      obtain ⟨Bq, hBq⟩ : ∃ Bq, Bq = decide (V = A) := ⟨_, rfl⟩
      have heq := eq_dec V A
      rw [← hBq] at heq
      have HBq := Lib.hid hBq
      have HJ := Lib.hid (And.intro hJ (And.intro hj hV))
      clear hBq
      clear hwx hbr hlt hr0 hlv hor hJ hV hj hcap
      have c0 := HOr.out.cell 0 (by simp)
      have c1 := HOr.out.cell 1 (by simp)
      have c2 := HOr.out.cell 2 (by simp)
      have c3 := HOr.out.cell 3 (by simp)
      have c4 := HOr.out.cell 4 (by simp)
      simp only [List.getD_cons_succ, List.getD_cons_zero] at c0 c1 c2 c3 c4
      go_wp2_with fail
      have hS0 := HS.out wr (Below.refl _ _)
      clear c0 c1 c2 c3 c4
      go_region_held3 (fun W' => Below wr.heap.size wr W' ∧ W'.cell? ⟨w.heap.size, 0, none⟩ = some (.int .u8 (k : Int)) ∧ W'.cell? ⟨w.heap.size, 1, none⟩ = some (.int .u8 (a : Int)) ∧ W'.cell? ⟨w.heap.size, 2, none⟩ = some (.int .u8 (b : Int)) ∧ W'.cell? ⟨w.heap.size, 3, none⟩ = some (.int .u8 (c : Int)) ∧ W'.cell? ⟨w.heap.size, 4, none⟩ = some (.int .u8 (d : Int))) (first | assumption | exact HS.out _ (below_draw _ _))
        (first
          | (go_at_call 13; ((with_reducible refine (HLv2.out _ (And.left (by assumption))).mono ?_); rintro e w4 ⟨rfl, hb4⟩); have hS4 := HS.out _ (Below.trans (And.left (by assumption)) (Below.mono hb4 (Below.size (And.left (by assumption))))); clear hb4)
          | fail)
      obtain ⟨e1, e2, e3⟩ := HJ.out
      have HB4 := Lib.hid (HBr.out.trans (Below.mono (And.left hS4) HBr.out.size))
      have HE := Lib.hid e1
      have HE3 := Lib.hid e3
      clear e2 hS0 hS4 e1 e3
      cases Bq
      · go_wp2
        refine ⟨⟨J, x, by have := HE.out; have := HJ.out.2.1; omega, by rfl, rfl, ?_, HB4.out⟩, by simp only [intOf]; have := HE.out; omega⟩
        have hne : V ≠ A := of_decide_eq_false HBq.out.symm
        have hx := HWx.out
        rw [HE.out] at hx
        exact hx.miss (by rw [← HE.out, ← HE3.out]; exact hne)
      · go_wp2
        refine ⟨⟨J, (j : Int), by have := HE.out; have := HJ.out.2.1; omega, by rfl, rfl, ?_, HB4.out⟩, by simp only [intOf]; have := HE.out; omega⟩
        have he : V = A := of_decide_eq_true HBq.out.symm
        have hx := HWx.out
        rw [HE.out] at hx
        have := hx.hit (by have := HE.out; have := HJ.out.2.1; omega) (by rw [← HE.out, ← HE3.out]; exact he)
        rw [← HE.out] at this
        exact this
    · obtain rfl : j = 0 := by omega
      have hji : ¬ (0 : Int) < ((0 : Nat) : Int) := by omega
      have hji2 : ¬ (0 : Int) < 0 := by omega
      obtain ⟨w4, rfl⟩ : ∃ x, x = wr := ⟨_, rfl⟩
      have hnl := HN.out
      have hfx := HWa.out x (by rw [hnl]; exact hwx)
      have hM4 := HM3.out.below hbr
      have hR4 := HR.out.later hbr
      have hO4 := HO3.out.below hbr HO3.out.lt
      have hfi := HFi.out g m w4 (by rw [HMk.out]) hM4 sa n sc l hR4 HF.out
      rw [hfx] at hfi
      have HFi4 := Lib.hid hfi
      have HR4 := Lib.hid hR4
      have HO4 := Lib.hid hO4
      have HB4 := Lib.hid (HB3.out.trans (Below.mono hbr HB3.out.size))
      have HFx := Lib.hid hfx
      clear hlt hj hwx hbr hfi hM4 hR4 hO4 hfx hnl HM3 HO3 HB3 HR HWa HT2
      go_wp2_with fail
      with_reducible refine HFi4.out.mono ?_
      rintro e w5 ⟨rfl, hm5, hx5⟩
      have hgf : ∀ i, i < w4.heap.size → i = g → w.heap.size ≤ i := fun i _ h => by have := HG.out; omega
      have HB5 := Lib.hid (HB4.out.trans (hx5.below HB4.out.size hgf))
      have HR5 := Lib.hid (HR4.out.exc hx5 HF.out)
      have ho5 : Own w5 w.heap.size 23 [.int .u8 (k : Int), .int .u8 (a : Int), .int .u8 (b : Int), .int .u8 (c : Int), .int .u8 (d : Int)] := by unfold Own; rw [hx5.block _ HO4.out.lt (fun h => HNe.out h)]; exact HO4.out
      have HO5 := Lib.hid ho5
      have HM5 := Lib.hid hm5
      clear hm5 hx5 ho5 hgf HB4 HR4 HO4 HFi4
      have hle : ∀ W', Below w5.heap.size w5 W' → Calls Try.prog 41 #[.pointer (some ⟨g, 0, none⟩)] W' fun e w' => e = .returned (.int .i64 ((f l n : Nat) : Int)) ∧ w' = W' := by
        intro W' hb
        have h := level_any g _ W' (HM5.out.below hb)
        rw [HAl.out, HN.out] at h
        exact h
      have hlv := fun W' (hb : Below w5.heap.size w5 W') => HLev.out W' sa n sc l (HR5.out.later hb) (by have := HA.out; omega)
      have hS : ∀ W', Below w5.heap.size w5 W' → Below w5.heap.size w5 W' ∧ W'.cell? ⟨w.heap.size, 0, none⟩ = some (.int .u8 (k : Int)) ∧ W'.cell? ⟨w.heap.size, 1, none⟩ = some (.int .u8 (a : Int)) ∧ W'.cell? ⟨w.heap.size, 2, none⟩ = some (.int .u8 (b : Int)) ∧ W'.cell? ⟨w.heap.size, 3, none⟩ = some (.int .u8 (c : Int)) ∧ W'.cell? ⟨w.heap.size, 4, none⟩ = some (.int .u8 (d : Int)) := by
        intro W' hb
        have ho := HO5.out.below hb HO5.out.lt
        exact ⟨hb, ho.cell 0 (by simp), ho.cell 1 (by simp), ho.cell 2 (by simp), ho.cell 3 (by simp), ho.cell 4 (by simp)⟩
      obtain ⟨V, hV⟩ : ∃ V, V = f l n := ⟨_, rfl⟩
      rw [← hV] at hle hlv
      have HS := Lib.hid hS
      have HLe := Lib.hid hle
      have HLv2 := Lib.hid hlv
      have ml := HMl.out g
      clear hS hle hlv hV
      go_wp2_with fail
      have hS0 := HS.out w5 (Below.refl _ _)
      go_region_held3 (fun W' => Below w5.heap.size w5 W' ∧ W'.cell? ⟨w.heap.size, 0, none⟩ = some (.int .u8 (k : Int)) ∧ W'.cell? ⟨w.heap.size, 1, none⟩ = some (.int .u8 (a : Int)) ∧ W'.cell? ⟨w.heap.size, 2, none⟩ = some (.int .u8 (b : Int)) ∧ W'.cell? ⟨w.heap.size, 3, none⟩ = some (.int .u8 (c : Int)) ∧ W'.cell? ⟨w.heap.size, 4, none⟩ = some (.int .u8 (d : Int))) (first | assumption | exact HS.out _ (below_draw _ _))
        (first
          | (go_at_call 41; ((with_reducible refine (HLe.out _ (And.left (by assumption))).mono ?_); rintro e w6 ⟨rfl, rfl⟩))
          | (go_at_call 13; ((with_reducible refine (HLv2.out _ (And.left (by assumption))).mono ?_); rintro e w7 ⟨rfl, hb7⟩); have hS7 := HS.out _ (Below.trans (And.left (by assumption)) (Below.mono hb7 (Below.size (And.left (by assumption))))); clear hb7)
          | fail)
      all_goals
        have HB7 := Lib.hid (HB5.out.trans (Below.mono (And.left hS7) HB5.out.size))
        have HM7 := Lib.hid (HM5.out.below (And.left hS7))
        have HR7 := Lib.hid (HR5.out.later (And.left hS7))
        clear hS0 hS7 HM5 HR5 HB5 HO5 HLe HLv2 HS ml
      by_cases hx0 : x < 0
      · have hx0b : decide (x < 0) = true := decide_eq_true hx0
        clear HM7 HR7
        go_wp2_with fail
        with_reducible refine (first_nil _ _ _ _).mono ?_
        rintro e w9 ⟨rfl, hb9⟩
        have HB9 := Lib.hid (HB7.out.trans (Below.mono hb9 HB7.out.size))
        clear hb9 HB7
        go_wp2_with fail
        with_reducible refine (HLv.out _).mono ?_
        rintro e w10 ⟨rfl, hb10⟩
        have HB10 := Lib.hid (HB9.out.trans (Below.mono hb10 HB9.out.size))
        clear hb10 HB9
        go_wp2
        go_ret
        exact ⟨rfl, HB10.out⟩
      · have hx0b : decide (x < 0) = false := decide_eq_false hx0
        have hfi7 := HFi.out g (m.after l) w7 (by rw [HAk.out, HMk.out]) HM7.out sa n sc l HR7.out HF.out
        rw [HAo.out (by rw [HFx.out]; omega)] at hfi7
        have HFi7 := Lib.hid hfi7
        clear hfi7 HM7 HR7
        go_wp2_with fail
        with_reducible refine HFi7.out.mono ?_
        rintro e w8 ⟨rfl, _, hx8⟩
        have HB8 := Lib.hid (HB7.out.trans (hx8.below HB7.out.size (fun i _ h => by have := HG.out; omega)))
        clear hx8 HB7 HFi7
        go_wp2_with fail
        with_reducible refine (first_nil _ _ _ _).mono ?_
        rintro e w9 ⟨rfl, hb9⟩
        have HB9 := Lib.hid (HB8.out.trans (Below.mono hb9 HB8.out.size))
        clear hb9 HB8
        go_wp2_with fail
        with_reducible refine (HLv.out _).mono ?_
        rintro e w10 ⟨rfl, hb10⟩
        have HB10 := Lib.hid (HB9.out.trans (Below.mono hb10 HB9.out.size))
        clear hb10 HB9
        go_wp2
        go_ret
        exact ⟨rfl, HB10.out⟩
end Go.Proofs.Ytblhfdkopnaobaa
