/- Statements of layer 8: the level. -/
import Derived.Test.YtblhfdkopnaobaaMoArgs
import Derived.Test.YtblhfdkopnaobaaBools
namespace Go.Proofs.Ytblhfdkopnaobaa
open Go.RowKit

theorem lv_next {k a b c d : Nat} {l : List Bool} {i : Nat} (h : lv k a b c d l i < 1 + a % 40) : lv k a b c d l (i + 1) = lvStep (kdOf k) (1 + a % 40) (1 + b % 20) (1 + c % 20) (1 + d % 20) l (lv k a b c d l i) i := by
  unfold lv at h ⊢
  rw [lev, if_pos h]
theorem lv_le (k a b c d : Nat) (l : List Bool) (i : Nat) : lv k a b c d l i ≤ 1 + a % 40 := lev_le ..
theorem lv_stop {k a b c d : Nat} {l : List Bool} {i : Nat} (h : ¬ lv k a b c d l i < 1 + a % 40) (j : Nat) (hj : i ≤ j) : lv k a b c d l j = lv k a b c d l i := lev_stop h j hj
theorem tmod_nat (x y : Nat) : (x : Int).tmod (y : Int) = ((x % y : Nat) : Int) := by rw [Int.tmod_eq_emod_of_nonneg (by omega)]; omega
set_option maxHeartbeats 4000000 in
set_option maxRecDepth 100000 in
theorem level_rate (k a b c d : Nat) (w : World) (hk : k ≤ 255) (ha : a ≤ 255) (hb : b ≤ 255) (hc : c ≤ 255) (hd : d ≤ 255) (hK : k % 3 = 0) (sa : Option Addr) (n sc : Nat) (l : List Bool) (hl : BRow w sa n sc l) (hn : n ≤ 100000) :
    Calls Try.prog 13 #[.agg #[.int .u8 (k : Int), .int .u8 (a : Int), .int .u8 (b : Int), .int .u8 (c : Int), .int .u8 (d : Int)], .slice sa n sc] w fun e w' => e = .returned (.int .i64 (lv k a b c d l n : Nat)) ∧ Below w.heap.size w w' := by
  have hkd : kdOf k = .rate := by unfold kdOf; simp [hK]
  obtain ⟨W, hW⟩ : ∃ X, X = w.alloc (.cells #[.int .u8 (k : Int), .int .u8 (a : Int), .int .u8 (b : Int), .int .u8 (c : Int), .int .u8 (d : Int)] 23) := ⟨_, rfl⟩
  have hbW : Below w.heap.size w W := by rw [hW]; exact below_alloc _ _
  have oW : Own W w.heap.size 23 [.int .u8 (k : Int), .int .u8 (a : Int), .int .u8 (b : Int), .int .u8 (c : Int), .int .u8 (d : Int)] := by rw [hW]; exact own_new w _ _ _ rfl
  have hA := args_any k a b c d W ha hb hc hd
  have hnx := fun i => lv_next (k := k) (a := a) (b := b) (c := c) (d := d) (l := l) (i := i)
  have hle := lv_le k a b c d l
  have hst := fun i => lv_stop (k := k) (a := a) (b := b) (c := c) (d := d) (l := l) (i := i)
  have h0 : lv k a b c d l 0 = 0 := rfl
  rw [hkd] at hnx
  generalize lv k a b c d l = f at hnx hle hst h0 ⊢
  obtain ⟨A, hA1⟩ : ∃ A, A = 1 + a % 40 := ⟨_, rfl⟩
  obtain ⟨S, hB1⟩ : ∃ A, A = 1 + b % 20 := ⟨_, rfl⟩
  obtain ⟨U, hC1⟩ : ∃ A, A = 1 + c % 20 := ⟨_, rfl⟩
  obtain ⟨D, hD1⟩ : ∃ A, A = 1 + d % 20 := ⟨_, rfl⟩
  rw [← hA1] at hA hnx hle hst
  rw [← hB1] at hA hnx
  rw [← hC1] at hA hnx
  rw [← hD1] at hA hnx
  have hA2 : A ≤ 40 := by omega
  have hS0 : 1 ≤ S := by omega
  have hS2 : S ≤ 20 := by omega
  have hU2 : U ≤ 20 := by omega
  have hD2 : D ≤ 20 := by omega
  have ek : (k : Int) % 3 = 0 := by omega
  have k0 : (0 : Int) ≤ (k : Int) := by omega
  have k1 : (k : Int) ≤ 255 := by omega
  have s1 : ¬ (S : Int) = 0 := by omega
  have s2 : ((S : Int) == 0) = false := by simp; omega
  have s3 : ¬ S = 0 := by omega
  have s4 : (S == 0) = false := by simp; omega
  have c0 := oW.cell 0 (by simp)
  have c1 := oW.cell 1 (by simp)
  have c2 := oW.cell 2 (by simp)
  have c3 := oW.cell 3 (by simp)
  have c4 := oW.cell 4 (by simp)
  simp only [List.getD_cons_succ, List.getD_cons_zero] at c0 c1 c2 c3 c4
  have HA := Lib.hid hA
  have HW := Lib.hid hW
  have HB := Lib.hid hbW
  have HO := Lib.hid oW
  have HL := Lib.hid (hl.later hbW)
  have HN := Lib.hid hnx
  have HLe := Lib.hid hle
  have HSt := Lib.hid hst
  have H0 := Lib.hid h0
  clear hA hW hbW oW hA1 hB1 hC1 hD1 ha hb hc hd hk hK hkd hl hnx hle hst h0
  go_enter Try.func13, Try.ntmps13
  go_wp2_with fail
  rw [← HW.out]
  with_reducible refine HA.out.mono ?_
  rintro e w1 ⟨rfl, hb1⟩
  have HB1 := Lib.hid hb1
  have HL1 := Lib.hid (HL.out.later hb1)
  have d0 := (HO.out.below hb1 HO.out.lt).cell 0 (by simp)
  simp only [List.getD_cons_zero] at d0
  clear hb1 c0 c1 c2 c3 c4 HA HL
  go_wp2_with fail
  go_loopw [9, 10] (fun v i wr => ∃ j : Nat, j ≤ n ∧ i = .int .i64 j ∧ v = .int .i64 (f j : Nat) ∧ wr = w1) (fun _ i _ => n - (intOf i).toNat)
  case atStart => exact ⟨0, Nat.zero_le _, rfl, by rw [H0.out]; rfl, rfl⟩
  case round =>
    obtain ⟨j, hj, rfl, rfl, rfl⟩ := hrel
    have hfle := HLe.out j
    obtain ⟨F, hF⟩ : ∃ F, F = f j := ⟨_, rfl⟩
    rw [← hF]
    rw [← hF] at hfle
    have HF := Lib.hid hF
    clear hF
    by_cases hlt : j < n
    · have hji : (j : Int) < (n : Int) := by omega
      by_cases hFA : F < A
      · have hfi : (F : Int) < (A : Int) := by omega
        obtain ⟨sb, so, rfl, hcells⟩ := HL1.out.at (by omega)
        have hcj := hcells j hlt
        obtain ⟨ok, hok⟩ : ∃ ok, ok = l.getD j true := ⟨_, rfl⟩
        rw [← hok] at hcj
        have HOk := Lib.hid hok
        have HCs := Lib.hid hcells
        have j0 : (0 : Int) ≤ (j : Int) := by omega
        obtain ⟨J, hJ⟩ : ∃ J, J = j + 1 := ⟨_, rfl⟩
        have hwJ : IntKind.i64.wrap ((j : Int) + 1) = (J : Int) := by rw [IntWalk.i64_in _ (by omega)]; omega
        have HJ := Lib.hid hJ
        obtain ⟨G, hG⟩ : ∃ G, G = F + 1 := ⟨_, rfl⟩
        have hwG : IntKind.i64.wrap ((F : Int) + 1) = (G : Int) := by rw [IntWalk.i64_in _ (by omega)]; omega
        have HG := Lib.hid hG
        have HNx := Lib.hid (HN.out j (by rw [← HF.out]; exact hFA))
        have J0 : (0 : Int) ≤ (J : Int) := by omega
        have hmj : n - J < n - j := by omega
        have hJn : J ≤ n := by omega
        have HMj := Lib.hid (And.intro hmj hJn)
        have HFA := Lib.hid hFA
        obtain ⟨R, hR⟩ : ∃ R, R = J % S := ⟨_, rfl⟩
        have r1 : (J : Int).tmod (S : Int) = (R : Int) := by rw [tmod_nat, hR]
        have r2 : (J : Int) % (S : Int) = (R : Int) := by rw [hR]; omega
        have HR := Lib.hid hR
        -- the level behind the unit
        obtain ⟨N1, hN1⟩ : ∃ N1, N1 = lvl1 F ok := ⟨_, rfl⟩
        have HN1 := Lib.hid hN1
        have hN1A : N1 ≤ 40 := by have := lvl1_le hFA ok; omega
        obtain ⟨P, hP⟩ : ∃ P, P = N1 - 1 := ⟨_, rfl⟩
        have HP := Lib.hid hP
        have HNx2 : RowKit.Hid (f J = if R = 0 ∧ 0 < N1 ∧ N1 < A then P else N1) := Lib.hid (by rw [hJ, HNx.out, lvStep, ← hok, ← HF.out, ← hN1, hR, hJ, hP])
        clear hR hok hcells hmj hJn hJ HNx HN hfle hlt hFA
        cases ok
        · obtain rfl : N1 = G := by rw [hN1]; exact hG.symm
          clear hN1
          have hwP : 0 < N1 → IntKind.i64.wrap ((N1 : Int) - 1) = (P : Int) := fun h => by rw [IntWalk.i64_in _ (by omega)]; omega
          clear hP hG
          by_cases h1 : R = 0
          · have h1b : ((R : Int) == 0) = true := by simp [h1]
            by_cases h2 : 0 < N1
            · have h2b : (0 : Int) < (N1 : Int) := by omega
              have hw := hwP h2
              clear hwP
              by_cases h3 : N1 < A
              · have h3b : (N1 : Int) < (A : Int) := by omega
                have HC := Lib.hid (And.intro h1 (And.intro h2 h3))
                clear h1 h2 h3 hN1A
                go_wp2
                refine ⟨⟨J, HMj.out.2, by rfl, ?_, trivial⟩, by simp only [intOf]; have := HMj.out.1; omega⟩
                rw [HNx2.out, if_pos HC.out]
              · have h3b : ¬ (N1 : Int) < (A : Int) := by omega
                have HC := Lib.hid h3
                clear h1 h2 h3 hN1A
                go_wp2
                refine ⟨⟨J, HMj.out.2, by rfl, ?_, trivial⟩, by simp only [intOf]; have := HMj.out.1; omega⟩
                rw [HNx2.out, if_neg (fun h => HC.out h.2.2)]
            · have h2b : ¬ (0 : Int) < (N1 : Int) := by omega
              have HC := Lib.hid h2
              clear h1 h2 hN1A hwP
              go_wp2
              refine ⟨⟨J, HMj.out.2, by rfl, ?_, trivial⟩, by simp only [intOf]; have := HMj.out.1; omega⟩
              rw [HNx2.out, if_neg (fun h => HC.out h.2.1)]
          · have h1b : ((R : Int) == 0) = false := by simp; omega
            have HC := Lib.hid h1
            clear h1 hN1A hwP
            go_wp2
            refine ⟨⟨J, HMj.out.2, by rfl, ?_, trivial⟩, by simp only [intOf]; have := HMj.out.1; omega⟩
            rw [HNx2.out, if_neg (fun h => HC.out h.1)]
        · obtain rfl : N1 = F := by rw [hN1]; rfl
          clear hN1
          have hwP : 0 < N1 → IntKind.i64.wrap ((N1 : Int) - 1) = (P : Int) := fun h => by rw [IntWalk.i64_in _ (by omega)]; omega
          clear hP hG
          by_cases h1 : R = 0
          · have h1b : ((R : Int) == 0) = true := by simp [h1]
            by_cases h2 : 0 < N1
            · have h2b : (0 : Int) < (N1 : Int) := by omega
              have hw := hwP h2
              clear hwP
              by_cases h3 : N1 < A
              · have h3b : (N1 : Int) < (A : Int) := by omega
                have HC := Lib.hid (And.intro h1 (And.intro h2 h3))
                clear h1 h2 h3 hN1A
                go_wp2
                refine ⟨⟨J, HMj.out.2, by rfl, ?_, trivial⟩, by simp only [intOf]; have := HMj.out.1; omega⟩
                rw [HNx2.out, if_pos HC.out]
              · exact absurd HFA.out h3
            · have h2b : ¬ (0 : Int) < (N1 : Int) := by omega
              have HC := Lib.hid h2
              clear h1 h2 hN1A hwP
              go_wp2
              refine ⟨⟨J, HMj.out.2, by rfl, ?_, trivial⟩, by simp only [intOf]; have := HMj.out.1; omega⟩
              rw [HNx2.out, if_neg (fun h => HC.out h.2.1)]
          · have h1b : ((R : Int) == 0) = false := by simp; omega
            have HC := Lib.hid h1
            clear h1 hN1A hwP
            go_wp2
            refine ⟨⟨J, HMj.out.2, by rfl, ?_, trivial⟩, by simp only [intOf]; have := HMj.out.1; omega⟩
            rw [HNx2.out, if_neg (fun h => HC.out h.1)]
      · have hfi : ¬ (F : Int) < (A : Int) := by omega
        have HE := Lib.hid (HSt.out j (by rw [← HF.out]; omega) n (by omega))
        clear hfle hFA hlt
        go_wp2
        go_ret
        refine ⟨?_, HB.out.trans (Below.mono HB1.out HB.out.size)⟩
        rw [HE.out, ← HF.out]; rfl
    · obtain rfl : j = n := by omega
      have hji : ¬ (j : Int) < (j : Int) := by omega
      clear hfle hlt
      go_wp2
      go_ret
      refine ⟨?_, HB.out.trans (Below.mono HB1.out HB.out.size)⟩
      rw [← HF.out]; rfl
set_option maxHeartbeats 4000000 in
set_option maxRecDepth 100000 in
theorem level_sum (k a b c d : Nat) (w : World) (hk : k ≤ 255) (ha : a ≤ 255) (hb : b ≤ 255) (hc : c ≤ 255) (hd : d ≤ 255) (hK : k % 3 = 1) (sa : Option Addr) (n sc : Nat) (l : List Bool) (hl : BRow w sa n sc l) (hn : n ≤ 100000) :
    Calls Try.prog 13 #[.agg #[.int .u8 (k : Int), .int .u8 (a : Int), .int .u8 (b : Int), .int .u8 (c : Int), .int .u8 (d : Int)], .slice sa n sc] w fun e w' => e = .returned (.int .i64 (lv k a b c d l n : Nat)) ∧ Below w.heap.size w w' := by
  have hkd : kdOf k = .sum := by unfold kdOf; simp [hK]
  obtain ⟨W, hW⟩ : ∃ X, X = w.alloc (.cells #[.int .u8 (k : Int), .int .u8 (a : Int), .int .u8 (b : Int), .int .u8 (c : Int), .int .u8 (d : Int)] 23) := ⟨_, rfl⟩
  have hbW : Below w.heap.size w W := by rw [hW]; exact below_alloc _ _
  have oW : Own W w.heap.size 23 [.int .u8 (k : Int), .int .u8 (a : Int), .int .u8 (b : Int), .int .u8 (c : Int), .int .u8 (d : Int)] := by rw [hW]; exact own_new w _ _ _ rfl
  have hA := args_any k a b c d W ha hb hc hd
  have hnx := fun i => lv_next (k := k) (a := a) (b := b) (c := c) (d := d) (l := l) (i := i)
  have hle := lv_le k a b c d l
  have hst := fun i => lv_stop (k := k) (a := a) (b := b) (c := c) (d := d) (l := l) (i := i)
  have h0 : lv k a b c d l 0 = 0 := rfl
  rw [hkd] at hnx
  generalize lv k a b c d l = f at hnx hle hst h0 ⊢
  obtain ⟨A, hA1⟩ : ∃ A, A = 1 + a % 40 := ⟨_, rfl⟩
  obtain ⟨S, hB1⟩ : ∃ A, A = 1 + b % 20 := ⟨_, rfl⟩
  obtain ⟨U, hC1⟩ : ∃ A, A = 1 + c % 20 := ⟨_, rfl⟩
  obtain ⟨D, hD1⟩ : ∃ A, A = 1 + d % 20 := ⟨_, rfl⟩
  rw [← hA1] at hA hnx hle hst
  rw [← hB1] at hA hnx
  rw [← hC1] at hA hnx
  rw [← hD1] at hA hnx
  have hA2 : A ≤ 40 := by omega
  have hS0 : 1 ≤ S := by omega
  have hS2 : S ≤ 20 := by omega
  have hU2 : U ≤ 20 := by omega
  have hD2 : D ≤ 20 := by omega
  have ek : (k : Int) % 3 = 1 := by omega
  have k0 : (0 : Int) ≤ (k : Int) := by omega
  have k1 : (k : Int) ≤ 255 := by omega
  have s1 : ¬ (S : Int) = 0 := by omega
  have s2 : ((S : Int) == 0) = false := by simp; omega
  have s3 : ¬ S = 0 := by omega
  have s4 : (S == 0) = false := by simp; omega
  have c0 := oW.cell 0 (by simp)
  have c1 := oW.cell 1 (by simp)
  have c2 := oW.cell 2 (by simp)
  have c3 := oW.cell 3 (by simp)
  have c4 := oW.cell 4 (by simp)
  simp only [List.getD_cons_succ, List.getD_cons_zero] at c0 c1 c2 c3 c4
  have HA := Lib.hid hA
  have HW := Lib.hid hW
  have HB := Lib.hid hbW
  have HO := Lib.hid oW
  have HL := Lib.hid (hl.later hbW)
  have HN := Lib.hid hnx
  have HLe := Lib.hid hle
  have HSt := Lib.hid hst
  have H0 := Lib.hid h0
  clear hA hW hbW oW hA1 hB1 hC1 hD1 ha hb hc hd hk hK hkd hl hnx hle hst h0
  go_enter Try.func13, Try.ntmps13
  go_wp2_with fail
  rw [← HW.out]
  with_reducible refine HA.out.mono ?_
  rintro e w1 ⟨rfl, hb1⟩
  have HB1 := Lib.hid hb1
  have HL1 := Lib.hid (HL.out.later hb1)
  have d0 := (HO.out.below hb1 HO.out.lt).cell 0 (by simp)
  simp only [List.getD_cons_zero] at d0
  clear hb1 c0 c1 c2 c3 c4 HA HL
  go_wp2_with fail
  go_loopw [9, 10] (fun v i wr => ∃ j : Nat, j ≤ n ∧ i = .int .i64 j ∧ v = .int .i64 (f j : Nat) ∧ wr = w1) (fun _ i _ => n - (intOf i).toNat)
  case atStart => exact ⟨0, Nat.zero_le _, rfl, by rw [H0.out]; rfl, rfl⟩
  case round =>
    obtain ⟨j, hj, rfl, rfl, rfl⟩ := hrel
    have hfle := HLe.out j
    obtain ⟨F, hF⟩ : ∃ F, F = f j := ⟨_, rfl⟩
    rw [← hF]
    rw [← hF] at hfle
    have HF := Lib.hid hF
    clear hF
    by_cases hlt : j < n
    · have hji : (j : Int) < (n : Int) := by omega
      by_cases hFA : F < A
      · have hfi : (F : Int) < (A : Int) := by omega
        obtain ⟨sb, so, rfl, hcells⟩ := HL1.out.at (by omega)
        have hcj := hcells j hlt
        obtain ⟨ok, hok⟩ : ∃ ok, ok = l.getD j true := ⟨_, rfl⟩
        rw [← hok] at hcj
        have HOk := Lib.hid hok
        have HCs := Lib.hid hcells
        have j0 : (0 : Int) ≤ (j : Int) := by omega
        obtain ⟨J, hJ⟩ : ∃ J, J = j + 1 := ⟨_, rfl⟩
        have hwJ : IntKind.i64.wrap ((j : Int) + 1) = (J : Int) := by rw [IntWalk.i64_in _ (by omega)]; omega
        have HJ := Lib.hid hJ
        obtain ⟨G, hG⟩ : ∃ G, G = F + 1 := ⟨_, rfl⟩
        have hwG : IntKind.i64.wrap ((F : Int) + 1) = (G : Int) := by rw [IntWalk.i64_in _ (by omega)]; omega
        have HG := Lib.hid hG
        have HNx := Lib.hid (HN.out j (by rw [← HF.out]; exact hFA))
        have J0 : (0 : Int) ≤ (J : Int) := by omega
        have hmj : n - J < n - j := by omega
        have hJn : J ≤ n := by omega
        have HMj := Lib.hid (And.intro hmj hJn)
        have HFA := Lib.hid hFA
        clear hfle hFA hlt hok hcells hJ hG hmj hJn HN
        cases ok
        · go_wp2
          refine ⟨⟨J, HMj.out.2, by rfl, ?_, trivial⟩, by simp only [intOf]; have := HMj.out.1; omega⟩
          rw [HJ.out, HNx.out, lvStep, ← HOk.out, ← HF.out, HG.out]; rfl
        · go_wp2
          refine ⟨⟨J, HMj.out.2, by rfl, ?_, trivial⟩, by simp only [intOf]; have := HMj.out.1; omega⟩
          rw [HJ.out, HNx.out, lvStep, ← HOk.out, ← HF.out]; rfl
      · have hfi : ¬ (F : Int) < (A : Int) := by omega
        have HE := Lib.hid (HSt.out j (by rw [← HF.out]; omega) n (by omega))
        clear hfle hFA hlt
        go_wp2
        go_ret
        refine ⟨?_, HB.out.trans (Below.mono HB1.out HB.out.size)⟩
        rw [HE.out, ← HF.out]; rfl
    · obtain rfl : j = n := by omega
      have hji : ¬ (j : Int) < (j : Int) := by omega
      clear hfle hlt
      go_wp2
      go_ret
      refine ⟨?_, HB.out.trans (Below.mono HB1.out HB.out.size)⟩
      rw [← HF.out]; rfl
set_option maxHeartbeats 4000000 in
set_option maxRecDepth 100000 in
theorem level_span (k a b c d : Nat) (w : World) (hk : k ≤ 255) (ha : a ≤ 255) (hb : b ≤ 255) (hc : c ≤ 255) (hd : d ≤ 255) (hK : k % 3 = 2) (sa : Option Addr) (n sc : Nat) (l : List Bool) (hl : BRow w sa n sc l) (hn : n ≤ 100000) :
    Calls Try.prog 13 #[.agg #[.int .u8 (k : Int), .int .u8 (a : Int), .int .u8 (b : Int), .int .u8 (c : Int), .int .u8 (d : Int)], .slice sa n sc] w fun e w' => e = .returned (.int .i64 (lv k a b c d l n : Nat)) ∧ Below w.heap.size w w' := by
  have hkd : kdOf k = .span := by unfold kdOf; simp [hK]
  obtain ⟨W, hW⟩ : ∃ X, X = w.alloc (.cells #[.int .u8 (k : Int), .int .u8 (a : Int), .int .u8 (b : Int), .int .u8 (c : Int), .int .u8 (d : Int)] 23) := ⟨_, rfl⟩
  have hbW : Below w.heap.size w W := by rw [hW]; exact below_alloc _ _
  have oW : Own W w.heap.size 23 [.int .u8 (k : Int), .int .u8 (a : Int), .int .u8 (b : Int), .int .u8 (c : Int), .int .u8 (d : Int)] := by rw [hW]; exact own_new w _ _ _ rfl
  have hA := args_any k a b c d W ha hb hc hd
  have hnx := fun i => lv_next (k := k) (a := a) (b := b) (c := c) (d := d) (l := l) (i := i)
  have hle := lv_le k a b c d l
  have hst := fun i => lv_stop (k := k) (a := a) (b := b) (c := c) (d := d) (l := l) (i := i)
  have h0 : lv k a b c d l 0 = 0 := rfl
  rw [hkd] at hnx
  generalize lv k a b c d l = f at hnx hle hst h0 ⊢
  obtain ⟨A, hA1⟩ : ∃ A, A = 1 + a % 40 := ⟨_, rfl⟩
  obtain ⟨S, hB1⟩ : ∃ A, A = 1 + b % 20 := ⟨_, rfl⟩
  obtain ⟨U, hC1⟩ : ∃ A, A = 1 + c % 20 := ⟨_, rfl⟩
  obtain ⟨D, hD1⟩ : ∃ A, A = 1 + d % 20 := ⟨_, rfl⟩
  rw [← hA1] at hA hnx hle hst
  rw [← hB1] at hA hnx
  rw [← hC1] at hA hnx
  rw [← hD1] at hA hnx
  have hA2 : A ≤ 40 := by omega
  have hS0 : 1 ≤ S := by omega
  have hS2 : S ≤ 20 := by omega
  have hU2 : U ≤ 20 := by omega
  have hD2 : D ≤ 20 := by omega
  have ek : (k : Int) % 3 = 2 := by omega
  have k0 : (0 : Int) ≤ (k : Int) := by omega
  have k1 : (k : Int) ≤ 255 := by omega
  have s1 : ¬ (S : Int) = 0 := by omega
  have s2 : ((S : Int) == 0) = false := by simp; omega
  have s3 : ¬ S = 0 := by omega
  have s4 : (S == 0) = false := by simp; omega
  have c0 := oW.cell 0 (by simp)
  have c1 := oW.cell 1 (by simp)
  have c2 := oW.cell 2 (by simp)
  have c3 := oW.cell 3 (by simp)
  have c4 := oW.cell 4 (by simp)
  simp only [List.getD_cons_succ, List.getD_cons_zero] at c0 c1 c2 c3 c4
  have HA := Lib.hid hA
  have HW := Lib.hid hW
  have HB := Lib.hid hbW
  have HO := Lib.hid oW
  have HL := Lib.hid (hl.later hbW)
  have HN := Lib.hid hnx
  have HLe := Lib.hid hle
  have HSt := Lib.hid hst
  have H0 := Lib.hid h0
  clear hA hW hbW oW hA1 hB1 hC1 hD1 ha hb hc hd hk hK hkd hl hnx hle hst h0
  go_enter Try.func13, Try.ntmps13
  go_wp2_with fail
  rw [← HW.out]
  with_reducible refine HA.out.mono ?_
  rintro e w1 ⟨rfl, hb1⟩
  have HB1 := Lib.hid hb1
  have HL1 := Lib.hid (HL.out.later hb1)
  have d0 := (HO.out.below hb1 HO.out.lt).cell 0 (by simp)
  simp only [List.getD_cons_zero] at d0
  clear hb1 c0 c1 c2 c3 c4 HA HL
  go_wp2_with fail
  go_loopw [9, 10] (fun v i wr => ∃ j : Nat, j ≤ n ∧ i = .int .i64 j ∧ v = .int .i64 (f j : Nat) ∧ wr = w1) (fun _ i _ => n - (intOf i).toNat)
  case atStart => exact ⟨0, Nat.zero_le _, rfl, by rw [H0.out]; rfl, rfl⟩
  case round =>
    obtain ⟨j, hj, rfl, rfl, rfl⟩ := hrel
    have hfle := HLe.out j
    obtain ⟨F, hF⟩ : ∃ F, F = f j := ⟨_, rfl⟩
    rw [← hF]
    rw [← hF] at hfle
    have HF := Lib.hid hF
    clear hF
    by_cases hlt : j < n
    · have hji : (j : Int) < (n : Int) := by omega
      by_cases hFA : F < A
      · have hfi : (F : Int) < (A : Int) := by omega
        obtain ⟨sb, so, rfl, hcells⟩ := HL1.out.at (by omega)
        have hcj := hcells j hlt
        obtain ⟨ok, hok⟩ : ∃ ok, ok = l.getD j true := ⟨_, rfl⟩
        rw [← hok] at hcj
        have HOk := Lib.hid hok
        have HCs := Lib.hid hcells
        have j0 : (0 : Int) ≤ (j : Int) := by omega
        obtain ⟨J, hJ⟩ : ∃ J, J = j + 1 := ⟨_, rfl⟩
        have hwJ : IntKind.i64.wrap ((j : Int) + 1) = (J : Int) := by rw [IntWalk.i64_in _ (by omega)]; omega
        have HJ := Lib.hid hJ
        obtain ⟨G, hG⟩ : ∃ G, G = F + 1 := ⟨_, rfl⟩
        have hwG : IntKind.i64.wrap ((F : Int) + 1) = (G : Int) := by rw [IntWalk.i64_in _ (by omega)]; omega
        have HG := Lib.hid hG
        have HNx := Lib.hid (HN.out j (by rw [← HF.out]; exact hFA))
        have J0 : (0 : Int) ≤ (J : Int) := by omega
        have hmj : n - J < n - j := by omega
        have hJn : J ≤ n := by omega
        have HMj := Lib.hid (And.intro hmj hJn)
        have HFA := Lib.hid hFA
        obtain ⟨R, hR⟩ : ∃ R, R = J % S := ⟨_, rfl⟩
        have r1 : (J : Int).tmod (S : Int) = (R : Int) := by rw [tmod_nat, hR]
        have r2 : (J : Int) % (S : Int) = (R : Int) := by rw [hR]; omega
        have HR := Lib.hid hR
        have HLl := Lib.hid HL1.out.len
        by_cases h1 : R = 0
        · have h1b : ((R : Int) != 0) = false := by simp [h1]
          have hSJ : S ≤ J := by
            rcases Nat.lt_or_ge J S with h | h
            · rw [Nat.mod_eq_of_lt h] at hR; omega
            · exact h
          obtain ⟨T, hT⟩ : ∃ T, T = J - S := ⟨_, rfl⟩
          have hwT : IntKind.i64.wrap ((J : Int) - (S : Int)) = (T : Int) := by rw [IntWalk.i64_in _ (by omega)]; omega
          have HT := Lib.hid hT
          have hTS : T + S = J := by omega
          have HTS := Lib.hid hTS
          have HNx2 : RowKit.Hid (f J = if anyWrong l T S then min (F + U) A else F - D) := Lib.hid (by rw [hJ, HNx.out, lvStep, if_neg (by rw [← hJ, ← hR, h1]; decide), ← hJ, ← hT, ← HF.out])
          have HSm := Lib.hid (And.intro hS0 (And.intro hS2 (And.intro hU2 (And.intro hD2 (And.intro hA2 hfle)))))
          have HLt := Lib.hid hlt
          clear hR hok hcells hmj hJn hJ HNx HN hfle hlt hFA hT hTS h1 hSJ hG hwG HOk hcj
          obtain ⟨w5, rfl⟩ : ∃ x, x = wr := ⟨_, rfl⟩
          go_wp2_with fail
          go_loopw [11, 12] (fun q i wr => ∃ m V : Nat, m ≤ S ∧ V = T + m ∧ i = .int .i64 V ∧ q = .bool (anyWrong l T m) ∧ wr = w5) (fun _ i _ => J - (intOf i).toNat)
          case atStart => exact ⟨0, T, Nat.zero_le _, rfl, rfl, by rw [anyWrong_zero], rfl⟩
          case round =>
            obtain ⟨m, V, hm, hV, rfl, rfl, rfl⟩ := hrel
            obtain ⟨Q, hQ⟩ : ∃ Q, Q = anyWrong l T m := ⟨_, rfl⟩
            rw [← hQ]
            by_cases hmS : m < S
            · have hVj : V ≤ j := by have := HTS.out; have := HJ.out; omega
              have hvi : (V : Int) ≤ (j : Int) := by omega
              have hVn : V < n := by have := HLt.out; omega
              have hvn : (V : Int) < (n : Int) := by omega
              have hv0 : (0 : Int) ≤ (V : Int) := by omega
              have hcv := HCs.out V hVn
              obtain ⟨ok2, hok2⟩ : ∃ ok2, ok2 = l.getD V true := ⟨_, rfl⟩
              rw [← hok2] at hcv
              have hnext : anyWrong l T (m + 1) = (Q || !ok2) := by
                rw [anyWrong_succ _ _ _ (by rw [HLl.out, ← hV]; exact hVn), ← hQ, ← hV, ← hok2]
              have HNe := Lib.hid hnext
              obtain ⟨V1, hV1⟩ : ∃ V1, V1 = V + 1 := ⟨_, rfl⟩
              have hwV : IntKind.i64.wrap ((V : Int) + 1) = (V1 : Int) := by rw [IntWalk.i64_in _ (by omega)]; omega
              have HV := Lib.hid (And.intro hV hV1)
              have HmS := Lib.hid hmS
              have HVJ := Lib.hid (show V < J by have := HJ.out; omega)
              clear hnext hok2 hQ hV hV1 hmS hm hVj hVn
              cases Q
              · cases ok2
                · go_wp2
                  exact ⟨⟨m + 1, V1, HmS.out, by rw [HV.out.2, HV.out.1]; omega, rfl, by rw [HNe.out]; rfl, trivial⟩, by simp only [intOf]; have := HV.out.2; have := HVJ.out; omega⟩
                · go_wp2
                  exact ⟨⟨m + 1, V1, HmS.out, by rw [HV.out.2, HV.out.1]; omega, rfl, by rw [HNe.out]; rfl, trivial⟩, by simp only [intOf]; have := HV.out.2; have := HVJ.out; omega⟩
              · go_wp2
                exact ⟨⟨m + 1, V1, HmS.out, by rw [HV.out.2, HV.out.1]; omega, rfl, by rw [HNe.out]; rfl, trivial⟩, by simp only [intOf]; have := HV.out.2; have := HVJ.out; omega⟩
            · have hVj : ¬ V ≤ j := by have := HTS.out; have := HJ.out; omega
              have hvi : ¬ (V : Int) ≤ (j : Int) := by omega
              have hmS2 : m = S := by omega
              rw [hmS2] at hQ
              have HQ := Lib.hid hQ
              obtain ⟨X, hX⟩ : ∃ X, X = F + U := ⟨_, rfl⟩
              have hwX : IntKind.i64.wrap ((F : Int) + (U : Int)) = (X : Int) := by have := HSm.out; rw [IntWalk.i64_in _ (by omega)]; omega
              have hwD : IntKind.i64.wrap ((F : Int) - (D : Int)) = (F : Int) - (D : Int) := by have := HSm.out; exact IntWalk.i64_in _ (by omega)
              have HX := Lib.hid hX
              clear hQ hm hV hmS hVj hmS2 hX
              cases Q
              · clear hwX
                go_wp2
                all_goals
                  refine ⟨⟨J, HMj.out.2, by rfl, ?_, trivial⟩, by simp only [intOf]; have := HMj.out.1; omega⟩
                  rw [HNx2.out, ← HQ.out]
                  simp only [Bool.false_eq_true, if_false]
                  exact congrArg (Value.int .i64) (by omega)
              · clear hwD
                go_wp2
                all_goals
                  refine ⟨⟨J, HMj.out.2, by rfl, ?_, trivial⟩, by simp only [intOf]; have := HMj.out.1; omega⟩
                  rw [HNx2.out, ← HQ.out]
                  simp only [if_true]
                  have := HX.out
                  exact congrArg (Value.int .i64) (by omega)
        · have h1b : ((R : Int) != 0) = true := by simp; omega
          have HNx2 : RowKit.Hid (f J = F) := Lib.hid (by rw [hJ, HNx.out, lvStep, if_pos (by rw [← hJ, ← hR]; exact h1), ← HF.out])
          clear hR hok hcells hmj hJn hJ HNx HN hfle hlt hFA h1 hG hwG HOk
          go_wp2
          refine ⟨⟨J, HMj.out.2, by rfl, ?_, trivial⟩, by simp only [intOf]; have := HMj.out.1; omega⟩
          rw [HNx2.out]
      · have hfi : ¬ (F : Int) < (A : Int) := by omega
        have HE := Lib.hid (HSt.out j (by rw [← HF.out]; omega) n (by omega))
        clear hfle hFA hlt
        go_wp2
        go_ret
        refine ⟨?_, HB.out.trans (Below.mono HB1.out HB.out.size)⟩
        rw [HE.out, ← HF.out]; rfl
    · obtain rfl : j = n := by omega
      have hji : ¬ (j : Int) < (j : Int) := by omega
      clear hfle hlt
      go_wp2
      go_ret
      refine ⟨?_, HB.out.trans (Below.mono HB1.out HB.out.size)⟩
      rw [← HF.out]; rfl
theorem mlevel_any (k a b c d : Nat) (w : World) (hk : k ≤ 255) (ha : a ≤ 255) (hb : b ≤ 255) (hc : c ≤ 255) (hd : d ≤ 255) (sa : Option Addr) (n sc : Nat) (l : List Bool) (hl : BRow w sa n sc l) (hn : n ≤ 100000) :
    Calls Try.prog 13 #[.agg #[.int .u8 (k : Int), .int .u8 (a : Int), .int .u8 (b : Int), .int .u8 (c : Int), .int .u8 (d : Int)], .slice sa n sc] w fun e w' => e = .returned (.int .i64 (lv k a b c d l n : Nat)) ∧ Below w.heap.size w w' := by
  rcases (by omega : k % 3 = 0 ∨ k % 3 = 1 ∨ k % 3 = 2) with h | h | h
  · exact level_rate k a b c d w hk ha hb hc hd h sa n sc l hl hn
  · exact level_sum k a b c d w hk ha hb hc hd h sa n sc l hl hn
  · exact level_span k a b c d w hk ha hb hc hd h sa n sc l hl hn
end Go.Proofs.Ytblhfdkopnaobaa
