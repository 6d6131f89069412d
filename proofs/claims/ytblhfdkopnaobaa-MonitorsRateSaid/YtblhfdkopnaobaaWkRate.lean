/- Statements of layer 8: MonitorsRate. -/
import Derived.Test.YtblhfdkopnaobaaMoLives
import Derived.Test.YtblhfdkopnaobaaMoRate
import Derived.Test.YtblhfdkopnaobaaMoLevel
import Derived.Deep.RegionHeld3
namespace Go.Proofs.Ytblhfdkopnaobaa
open Go.RowKit

set_option maxHeartbeats 4000000 in
set_option maxRecDepth 100000 in
theorem rate_any (k a b c d : Nat) (s : ByteArray) (w : World) (_hk : k ≤ 255) (ha : a ≤ 255) (hb : b ≤ 255) (hc : c ≤ 255) (hd : d ≤ 255) :
    Calls Try.prog 6 #[.agg #[.int .u8 (k : Int), .int .u8 (a : Int), .int .u8 (b : Int), .int .u8 (c : Int), .int .u8 (d : Int)], .string s] w fun e w' => e = .returned (.bool true) ∧ Below w.heap.size w w' := by
  obtain ⟨W, hW⟩ : ∃ X, X = w.alloc (.cells #[.int .u8 (k : Int), .int .u8 (a : Int), .int .u8 (b : Int), .int .u8 (c : Int), .int .u8 (d : Int)] 23) := ⟨_, rfl⟩
  have hbW : Below w.heap.size w W := by rw [hW]; exact below_alloc _ _
  have oW : Own W w.heap.size 23 [.int .u8 (k : Int), .int .u8 (a : Int), .int .u8 (b : Int), .int .u8 (c : Int), .int .u8 (d : Int)] := by rw [hW]; exact own_new w _ _ _ rfl
  have HW := Lib.hid hW
  have HBW := Lib.hid hbW
  have HOW := Lib.hid oW
  have hlw := oW.lt
  have HLv := Lib.hid mlives_any
  clear hW hbW oW
  obtain ⟨n, hn⟩ : ∃ n, n = s.size := ⟨_, rfl⟩
  by_cases h300 : 300 < n
  · have h3 : (300 : Int) < (s.size : Int) := by omega
    clear hlw h300 hn
    go_enter Try.func6, Try.ntmps6
    go_wp2_with fail
    rw [← HW.out]
    with_reducible refine (HLv.out W).mono ?_
    rintro e w1 ⟨rfl, hb1⟩
    have HB1 := Lib.hid (HBW.out.trans (Below.mono hb1 HBW.out.size))
    clear hb1 HLv
    go_wp2
    go_ret
    exact ⟨rfl, HB1.out⟩
  have h3 : ¬ (300 : Int) < (s.size : Int) := by omega
  have hn3 : n ≤ 300 := by omega
  have hnl := unitsOf_length s
  obtain ⟨l, hl⟩ : ∃ l, l = unitsOf s := ⟨_, rfl⟩
  have HU := Lib.hid (fun W' => units_any s W' (by omega))
  rw [← hl] at hnl HU
  rw [← hn] at hnl HU
  rw [← hn] at h3
  have hsz : (s.size : Int) = (n : Int) := by omega
  have HN := Lib.hid hnl
  obtain ⟨W0, hW0⟩ : ∃ X, X = w.alloc (.cells #[.int .u8 0, .int .u8 (a : Int), .int .u8 (b : Int), .int .u8 (c : Int), .int .u8 (d : Int)] 23) := ⟨_, rfl⟩
  have hb0 : Below w.heap.size w W0 := by rw [hW0]; exact below_alloc _ _
  have o0 : Own W0 w.heap.size 23 [.int .u8 0, .int .u8 (a : Int), .int .u8 (b : Int), .int .u8 (c : Int), .int .u8 (d : Int)] := by rw [hW0]; exact own_new w _ _ _ rfl
  have hz : ((0 : Nat) : Int) = 0 := rfl
  have hAr := fun W' => args_any 0 a b c d W' ha hb hc hd
  have hOf := fun W' => mof_any 0 a b c d W' (by omega) ha hb hc hd
  rw [hz] at hAr hOf
  have hmo : moOf 0 a b c d = Mo.new .rate (1 + a % 40) (1 + b % 20) 1 1 := rfl
  have hkd : kdOf 0 = .rate := rfl
  have hsay := rate_says (1 + a % 40) (1 + b % 20) l (by omega)
  unfold OfBy at hOf
  rw [hmo, hkd] at hOf
  obtain ⟨A, hA1⟩ : ∃ A, A = 1 + a % 40 := ⟨_, rfl⟩
  obtain ⟨S, hB1⟩ : ∃ A, A = 1 + b % 20 := ⟨_, rfl⟩
  rw [← hA1] at hOf hAr hsay
  rw [← hB1] at hOf hAr hsay
  have hA2 : A ≤ 40 := by omega
  have hS0 : 1 ≤ S := by omega
  have hS2 : S ≤ 20 := by omega
  have c0' := HOW.out.cell 0 (by simp)
  have f0' := HOW.out.frozen 0
  simp only [List.getD_cons_zero] at c0'
  have HO0 := Lib.hid o0
  have HW0 := Lib.hid hW0
  have HB0 := Lib.hid hb0
  have HAr := Lib.hid hAr
  have HOf := Lib.hid hOf
  have HSay := Lib.hid hsay
  have HA := Lib.hid (And.intro hA2 (And.intro hS0 (And.intro hS2 hn3)))
  clear o0 hz hAr hOf hmo hkd hsay hA1 hB1 hA2 hS0 hS2 hW0 hb0 hl hnl hn h300 hn3 ha hb hc hd
  go_enter Try.func6, Try.ntmps6
  go_wp2_with fail
  rw [← HW0.out]
  with_reducible refine (HOf.out W0).mono ?_
  rintro e w1 ⟨g, rfl, hg, hm, hb1⟩
  unfold mval Kd.ptr
  have HB1 := Lib.hid (HB0.out.trans (Below.mono hb1 HB0.out.size))
  have HM1 := Lib.hid hm
  have HG := Lib.hid (show w.heap.size ≤ g by have := HB0.out.size; omega)
  have HNe := Lib.hid (show w.heap.size ≠ g by have := HO0.out.lt; omega)
  have HO1 := Lib.hid (HO0.out.below hb1 HO0.out.lt)
  have o1 := HO1
  have c0 := HO1.out.cell 0 (by simp)
  have c1 := HO1.out.cell 1 (by simp)
  have c2 := HO1.out.cell 2 (by simp)
  have c3 := HO1.out.cell 3 (by simp)
  have c4 := HO1.out.cell 4 (by simp)
  simp only [List.getD_cons_succ, List.getD_cons_zero] at c0 c1 c2 c3 c4
  clear hm hg hb1 HO0 c0' f0' o1 HOf
  go_wp2_with fail
  with_reducible refine (HAr.out w1).mono ?_
  rintro e w2 ⟨rfl, hb2⟩
  have HB2 := Lib.hid (HB1.out.trans (Below.mono hb2 HB1.out.size))
  have HM2 := Lib.hid (HM1.out.below hb2)
  clear hb2 HB1 HM1 c0 c1 c2 c3 c4 HAr
  go_wp2_with fail
  with_reducible refine (HU.out w2).mono ?_
  rintro e w3 ⟨sa, sc, rfl, hrow, hfar, _, hb3⟩
  have HB3 := Lib.hid (HB2.out.trans (Below.mono hb3 HB2.out.size))
  have HM3 := Lib.hid (HM2.out.below hb3)
  have HR := Lib.hid hrow
  have HF := Lib.hid (fun x (h : sa = some x) => (by have := hfar x h; have := HM2.out.lt; omega : x.block ≠ g))
  clear hb3 hrow hfar HB2 HM2 HU
  go_wp2_with fail
  go_loopw [12, 13] (fun v i wr => ∃ j : Nat, j ≤ n ∧ i = .int .i64 j ∧ v = .int .i64 (wrs (l.take j) : Nat) ∧ wr = w3) (fun _ i _ => n - (intOf i).toNat)
  case atStart => exact ⟨0, Nat.zero_le _, rfl, rfl, rfl⟩
  case round =>
    obtain ⟨j, hj, rfl, rfl, rfl⟩ := hrel
    by_cases hlt : j < n
    · have hji : (j : Int) < (n : Int) := by omega
      have j0 : (0 : Int) ≤ (j : Int) := by omega
      obtain ⟨sb, so, rfl, hcells⟩ := HR.out.at (by omega)
      have hcj := hcells j hlt
      have hsn := wrs_take_succ l j (by rw [HN.out]; exact hlt)
      have hle := wrs_le (l.take j)
      rw [List.length_take] at hle
      obtain ⟨ok, hok⟩ : ∃ ok, ok = l.getD j true := ⟨_, rfl⟩
      rw [← hok] at hcj hsn
      obtain ⟨V, hV⟩ : ∃ V, V = wrs (l.take j) := ⟨_, rfl⟩
      rw [← hV] at hsn hle ⊢
      obtain ⟨J, hJ⟩ : ∃ J, J = j + 1 := ⟨_, rfl⟩
      rw [← hJ] at hsn
      have hwJ : IntKind.i64.wrap ((j : Int) + 1) = (J : Int) := by have := HA.out; rw [IntWalk.i64_in _ (by omega)]; omega
      obtain ⟨V1, hV1⟩ : ∃ V1, V1 = V + 1 := ⟨_, rfl⟩
      have hwV : IntKind.i64.wrap ((V : Int) + 1) = (V1 : Int) := by have := HA.out; rw [IntWalk.i64_in _ (by omega)]; omega
      have HJ := Lib.hid (And.intro hJ hlt)
      have HS := Lib.hid hsn
      have HV := Lib.hid (And.intro hV hV1)
      clear hcells hok hV hJ hlt hj hsn hle hV1
      cases ok
      · go_wp2
        exact ⟨⟨J, by have := HJ.out; omega, by rfl, by rw [HS.out, HV.out.2]; rfl, trivial⟩, by simp only [intOf]; have := HJ.out; omega⟩
      · go_wp2
        exact ⟨⟨J, by have := HJ.out; omega, by rfl, by rw [HS.out]; rfl, trivial⟩, by simp only [intOf]; have := HJ.out; omega⟩
    · obtain rfl : j = n := by omega
      have hji : ¬ (j : Int) < (j : Int) := by omega
      rw [← HN.out, List.take_length]
      obtain ⟨w5, rfl⟩ : ∃ x, x = wr := ⟨_, rfl⟩
      have hfi : Calls Try.prog 14 #[.iface 54 (.pointer (some ⟨g, 0, none⟩)), .slice sa l.length sc] w5 fun e w' => e = .returned (.int .i64 ((Mo.new .rate A S 1 1).firstI l)) ∧ MoAt w' g ((Mo.new .rate A S 1 1).after l) ∧ Exc (fun k => k = g) w5 w' := first_any g _ sa l.length sc l w5 HM3.out (by have := HR.out; rw [← HN.out] at this; exact this) HF.out
      have hsay := HSay.out
      have hwl := wrs_le l
      obtain ⟨V, hV⟩ : ∃ V, V = wrs l := ⟨_, rfl⟩
      obtain ⟨F, hF⟩ : ∃ F, F = (Mo.new .rate A S 1 1).firstI l := ⟨_, rfl⟩
      rw [← hF] at hfi hsay
      rw [← hV] at hsay hwl ⊢
      obtain ⟨N, hN⟩ : ∃ N, N = l.length := ⟨_, rfl⟩
      have hnn := HN.out
      rw [← hN] at hfi hsay hwl hnn ⊢
      have hjN : ¬ (N : Int) < (N : Int) := by omega
      have hS := HA.out
      obtain ⟨D, hD⟩ : ∃ D, D = N / S := ⟨_, rfl⟩
      have hDN : D ≤ N := by rw [hD]; exact Nat.div_le_self _ _
      rw [← hD] at hsay
      have hdv : (N : Int).tdiv (S : Int) = (D : Int) := by rw [hD, Int.tdiv_eq_ediv_of_nonneg (by omega)]; omega
      have hdv2 : (N : Int) / (S : Int) = (D : Int) := by rw [hD]; omega
      have s1 : ¬ (S : Int) = 0 := by omega
      have s2 : ((S : Int) == 0) = false := by simp; omega
      have s3 : ¬ S = 0 := by omega
      have s4 : (S == 0) = false := by simp; omega
      obtain ⟨E, hE⟩ : ∃ E, E = A + D := ⟨_, rfl⟩
      have hwE : IntKind.i64.wrap ((A : Int) + (D : Int)) = (E : Int) := by rw [IntWalk.i64_in _ (by omega)]; omega
      have hwD : IntKind.i64.wrap (D : Int) = (D : Int) := IntWalk.i64_in _ (by omega)
      rw [← hE] at hsay
      have HFi := Lib.hid hfi
      have hVE : V < A → ¬ E ≤ V := by omega
      clear hfi hj hlt hji hF hV hN hD hDN hE hS hwl hnn
      by_cases h1 : E ≤ V
      · have h1i : (E : Int) ≤ (V : Int) := by omega
        have h2 := hsay.1 h1
        have h2n : ¬ F < 0 := by omega
        have h3i : ¬ (V : Int) < (A : Int) := by omega
        clear h1 hsay h2 hVE
        go_wp2_with fail
        with_reducible refine HFi.out.mono ?_
        rintro e w6 ⟨rfl, hm6, hx6⟩
        have HB6 := Lib.hid (HB3.out.trans (hx6.below HB3.out.size (fun i _ h => by have := HG.out; omega)))
        clear hm6 hx6 HFi
        go_wp2_with fail
        with_reducible refine (HLv.out w6).mono ?_
        rintro e w7 ⟨rfl, hb7⟩
        have HB7 := Lib.hid (HB6.out.trans (Below.mono hb7 HB6.out.size))
        clear hb7 HB6
        go_wp2
        go_ret
        exact ⟨rfl, HB7.out⟩
      · have h1i : ¬ (E : Int) ≤ (V : Int) := by omega
        by_cases h3 : V < A
        · have h3i : (V : Int) < (A : Int) := by omega
          have h2 := hsay.2 h3
          have h2n : ¬ 0 ≤ F := by omega
          clear h1 hsay h2 hVE h3
          go_wp2_with fail
          with_reducible refine HFi.out.mono ?_
          rintro e w6 ⟨rfl, hm6, hx6⟩
          have HB6 := Lib.hid (HB3.out.trans (hx6.below HB3.out.size (fun i _ h => by have := HG.out; omega)))
          clear hm6 hx6 HFi
          go_wp2_with fail
          with_reducible refine (HLv.out w6).mono ?_
          rintro e w7 ⟨rfl, hb7⟩
          have HB7 := Lib.hid (HB6.out.trans (Below.mono hb7 HB6.out.size))
          clear hb7 HB6
          go_wp2
          go_ret
          exact ⟨rfl, HB7.out⟩
        · have h3i : ¬ (V : Int) < (A : Int) := by omega
          clear h1 hsay hVE h3
          go_wp2_with fail
          with_reducible refine HFi.out.mono ?_
          rintro e w6 ⟨rfl, hm6, hx6⟩
          have HB6 := Lib.hid (HB3.out.trans (hx6.below HB3.out.size (fun i _ h => by have := HG.out; omega)))
          clear hm6 hx6 HFi
          go_wp2_with fail
          with_reducible refine (HLv.out w6).mono ?_
          rintro e w7 ⟨rfl, hb7⟩
          have HB7 := Lib.hid (HB6.out.trans (Below.mono hb7 HB6.out.size))
          clear hb7 HB6
          go_wp2
          go_ret
          exact ⟨rfl, HB7.out⟩
end Go.Proofs.Ytblhfdkopnaobaa
