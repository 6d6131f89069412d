/- Statements of layer 8: the arguments of a monitor. -/
import Derived.Test.YtblhfdkopnaobaaMoMake
namespace Go.Proofs.Ytblhfdkopnaobaa
open Go.RowKit

/-- M as a value. -/
def mAgg (k a b c d : Nat) : Value := .agg #[.int .u8 (k : Int), .int .u8 (a : Int), .int .u8 (b : Int), .int .u8 (c : Int), .int .u8 (d : Int)]
set_option maxHeartbeats 2000000 in
set_option maxRecDepth 100000 in
theorem args_any (k a b c d : Nat) (w : World) (ha : a ≤ 255) (hb : b ≤ 255) (hc : c ≤ 255) (hd : d ≤ 255) :
    Calls Try.prog 12 #[.agg #[.int .u8 (k : Int), .int .u8 (a : Int), .int .u8 (b : Int), .int .u8 (c : Int), .int .u8 (d : Int)]] w fun e w' =>
      e = .returned (.tuple #[.int .i64 ((1 + a % 40 : Nat) : Int), .int .i64 ((1 + b % 20 : Nat) : Int), .int .i64 ((1 + c % 20 : Nat) : Int), .int .i64 ((1 + d % 20 : Nat) : Int)]) ∧ Below w.heap.size w w' := by
  obtain ⟨W, hW⟩ : ∃ X, X = w.alloc (.cells #[.int .u8 (k : Int), .int .u8 (a : Int), .int .u8 (b : Int), .int .u8 (c : Int), .int .u8 (d : Int)] 23) := ⟨_, rfl⟩
  have hbW : Below w.heap.size w W := by rw [hW]; exact below_alloc _ _
  have oW : Own W w.heap.size 23 [.int .u8 (k : Int), .int .u8 (a : Int), .int .u8 (b : Int), .int .u8 (c : Int), .int .u8 (d : Int)] := by rw [hW]; exact own_new w _ _ _ rfl
  have c1 := oW.cell 1 (by simp)
  have c2 := oW.cell 2 (by simp)
  have c3 := oW.cell 3 (by simp)
  have c4 := oW.cell 4 (by simp)
  simp only [List.getD_cons_succ, List.getD_cons_zero] at c1 c2 c3 c4
  obtain ⟨A, hA⟩ : ∃ A, A = 1 + a % 40 := ⟨_, rfl⟩
  obtain ⟨B, hB⟩ : ∃ A, A = 1 + b % 20 := ⟨_, rfl⟩
  obtain ⟨C, hC⟩ : ∃ A, A = 1 + c % 20 := ⟨_, rfl⟩
  obtain ⟨D, hD⟩ : ∃ A, A = 1 + d % 20 := ⟨_, rfl⟩
  rw [← hA, ← hB, ← hC, ← hD]
  have ea : (a : Int) % 40 = ((A - 1 : Nat) : Int) := by omega
  have eb : (b : Int) % 20 = ((B - 1 : Nat) : Int) := by omega
  have ec : (c : Int) % 20 = ((C - 1 : Nat) : Int) := by omega
  have ed : (d : Int) % 20 = ((D - 1 : Nat) : Int) := by omega
  have ga : IntKind.i64.wrap (1 + ((A - 1 : Nat) : Int)) = (A : Int) := by rw [IntWalk.i64_in _ (by omega)]; omega
  have gb : IntKind.i64.wrap (1 + ((B - 1 : Nat) : Int)) = (B : Int) := by rw [IntWalk.i64_in _ (by omega)]; omega
  have gc : IntKind.i64.wrap (1 + ((C - 1 : Nat) : Int)) = (C : Int) := by rw [IntWalk.i64_in _ (by omega)]; omega
  have gd : IntKind.i64.wrap (1 + ((D - 1 : Nat) : Int)) = (D : Int) := by rw [IntWalk.i64_in _ (by omega)]; omega
  have la : ((A - 1 : Nat) : Int) ≤ 39 := by omega
  have lb : ((B - 1 : Nat) : Int) ≤ 19 := by omega
  have lc : ((C - 1 : Nat) : Int) ≤ 19 := by omega
  have ld : ((D - 1 : Nat) : Int) ≤ 19 := by omega
  generalize A - 1 = A1 at ea ga la
  generalize B - 1 = B1 at eb gb lb
  generalize C - 1 = C1 at ec gc lc
  generalize D - 1 = D1 at ed gd ld
  have pa : (0 : Int) ≤ a := by omega
  have pb : (0 : Int) ≤ b := by omega
  have pc : (0 : Int) ≤ c := by omega
  have pd : (0 : Int) ≤ d := by omega
  have qa : (a : Int) ≤ 255 := by omega
  have qb : (b : Int) ≤ 255 := by omega
  have qc : (c : Int) ≤ 255 := by omega
  have qd : (d : Int) ≤ 255 := by omega
  have HW := Lib.hid hW
  have HB := Lib.hid hbW
  have hlt := oW.lt
  clear hA hB hC hD ha hb hc hd hW hbW oW
  go_enter Try.func12, Try.ntmps12
  go_wp2_with fail
  rw [← HW.out]
  go_quiet (fail)
  go_wp2
  refine bodyPost_ret (v := .tuple #[.int .i64 (A : Int), .int .i64 (B : Int), .int .i64 (C : Int), .int .i64 (D : Int)]) (by simp [results, Try.results12, go_sem]) rfl ?_
  exact ⟨rfl, HB.out.trans (Below.mono (below_draw W nq) HB.out.size)⟩
def kdOf (k : Nat) : Kd := if k % 3 = 0 then .rate else if k % 3 = 1 then .sum else .span
def moOf (k a b c d : Nat) : Mo :=
  if k % 3 = 0 then Mo.new .rate (1 + a % 40) (1 + b % 20) 1 1 else if k % 3 = 1 then Mo.new .sum (1 + a % 40) 1 1 1 else Mo.new .span (1 + a % 40) (1 + b % 20) (1 + c % 20) (1 + d % 20)
theorem moOf_kd (k a b c d : Nat) : (moOf k a b c d).kd = kdOf k := by unfold moOf kdOf; (repeat' split) <;> rfl
theorem moOf_lim (k a b c d : Nat) : (moOf k a b c d).lim = 1 + a % 40 := by unfold moOf; (repeat' split) <;> rfl
theorem moOf_lvl (k a b c d : Nat) : (moOf k a b c d).lvl = 0 := by unfold moOf; (repeat' split) <;> rfl
def lv (k a b c d : Nat) (l : List Bool) (i : Nat) : Nat := lev (kdOf k) (1 + a % 40) (1 + b % 20) (1 + c % 20) (1 + d % 20) l i
theorem lev_rate (lim size u d u' d' : Nat) (l : List Bool) (i : Nat) : lev .rate lim size u d l i = lev .rate lim size u' d' l i := by
  induction i with
  | zero => rfl
  | succ i ih => unfold lev; rw [ih]; rfl
theorem lev_sum (lim s u d s' u' d' : Nat) (l : List Bool) (i : Nat) : lev .sum lim s u d l i = lev .sum lim s' u' d' l i := by
  induction i with
  | zero => rfl
  | succ i ih => unfold lev; rw [ih]; rfl
theorem run_lv (k a b c d : Nat) (l : List Bool) (i : Nat) (hi : i ≤ l.length) : ((moOf k a b c d).run (l.take i)).lvl = lv k a b c d l i := by
  unfold moOf lv kdOf
  split
  · rw [run_level _ _ _ _ _ _ (by omega) _ hi]; exact lev_rate ..
  · split
    · rw [run_level _ _ _ _ _ _ (by omega) _ hi]; exact lev_sum ..
    · exact run_level _ _ _ _ _ _ (by omega) _ hi
/-- What Of hands back. -/
def OfBy (k a b c d : Nat) (w : World) (e : Ending) (w' : World) : Prop :=
  ∃ g, e = .returned (.tuple #[mval (kdOf k) g, .int .i64 0]) ∧ w.heap.size ≤ g ∧ MoAt w' g (moOf k a b c d) ∧ Below w.heap.size w w'
set_option maxHeartbeats 2000000 in
set_option maxRecDepth 100000 in
theorem mof_any (k a b c d : Nat) (w : World) (hk : k ≤ 255) (ha : a ≤ 255) (hb : b ≤ 255) (hc : c ≤ 255) (hd : d ≤ 255) :
    Calls Try.prog 10 #[.agg #[.int .u8 (k : Int), .int .u8 (a : Int), .int .u8 (b : Int), .int .u8 (c : Int), .int .u8 (d : Int)]] w (OfBy k a b c d w) := by
  obtain ⟨W, hW⟩ : ∃ X, X = w.alloc (.cells #[.int .u8 (k : Int), .int .u8 (a : Int), .int .u8 (b : Int), .int .u8 (c : Int), .int .u8 (d : Int)] 23) := ⟨_, rfl⟩
  have hbW : Below w.heap.size w W := by rw [hW]; exact below_alloc _ _
  have oW : Own W w.heap.size 23 [.int .u8 (k : Int), .int .u8 (a : Int), .int .u8 (b : Int), .int .u8 (c : Int), .int .u8 (d : Int)] := by rw [hW]; exact own_new w _ _ _ rfl
  have hA := args_any k a b c d W ha hb hc hd
  have HR := Lib.hid (fun W' => newRate_ok (1 + a % 40) (1 + b % 20) W' (by omega) (by omega) (by omega) (by omega))
  have HS := Lib.hid (fun W' => newSum_ok (1 + a % 40) W' (by omega) (by omega))
  have HP := Lib.hid (fun W' => newSpan_ok (1 + a % 40) (1 + b % 20) (1 + c % 20) (1 + d % 20) W' (by omega) (by omega) (by omega) (by omega) (by omega) (by omega) (by omega) (by omega))
  have hmo : moOf k a b c d = moOf k a b c d := rfl
  unfold OfBy
  unfold moOf kdOf
  obtain ⟨A, hA1⟩ : ∃ A, A = 1 + a % 40 := ⟨_, rfl⟩
  obtain ⟨B, hB1⟩ : ∃ A, A = 1 + b % 20 := ⟨_, rfl⟩
  obtain ⟨C, hC1⟩ : ∃ A, A = 1 + c % 20 := ⟨_, rfl⟩
  obtain ⟨D, hD1⟩ : ∃ A, A = 1 + d % 20 := ⟨_, rfl⟩
  rw [← hA1] at HR HS HP hA ⊢
  rw [← hB1] at HR HP hA ⊢
  rw [← hC1] at HP hA ⊢
  rw [← hD1] at HP hA ⊢
  obtain ⟨K, hK⟩ : ∃ K, K = k % 3 := ⟨_, rfl⟩
  have ek : (k : Int) % 3 = (K : Int) := by omega
  have k0 : (0 : Int) ≤ (k : Int) := by omega
  have k1 : (k : Int) ≤ 255 := by omega
  rw [← hK]
  have c0 := oW.cell 0 (by simp)
  have c1 := oW.cell 1 (by simp)
  have c2 := oW.cell 2 (by simp)
  have c3 := oW.cell 3 (by simp)
  have c4 := oW.cell 4 (by simp)
  simp only [List.getD_cons_succ, List.getD_cons_zero] at c0 c1 c2 c3 c4
  have HA := Lib.hid hA
  have HW := Lib.hid hW
  have HB := Lib.hid hbW
  have HO := Lib.hid oW
  have hK3 : K < 3 := by omega
  clear hA hW hbW oW hA1 hB1 hC1 hD1 hmo hK ha hb hc hd hk
  have k2 : K = 0 ∨ K = 1 ∨ K = 2 := by omega
  clear hK3
  rcases k2 with rfl | rfl | rfl
  · have ek' : (k : Int) % 3 = 0 := by omega
    clear ek
    go_enter Try.func10, Try.ntmps10
    go_wp2_with fail
    rw [← HW.out]
    with_reducible refine HA.out.mono ?_
    rintro e w1 ⟨rfl, hb1⟩
    have HB1 := Lib.hid hb1
    have d0 := (HO.out.below hb1 HO.out.lt).cell 0 (by simp)
    simp only [List.getD_cons_zero] at d0
    clear hb1 c0 c1 c2 c3 c4 HA
    go_wp2_with fail
    with_reducible refine (HR.out _).mono ?_
    rintro e w2 ⟨g, rfl, hg, hm, hb2⟩
    have HM := Lib.hid hm
    have HB2 := Lib.hid hb2
    have HG := Lib.hid hg
    clear hm hb2 hg d0
    go_wp2
    refine bodyPost_ret (v := .tuple #[mval .rate g, .int .i64 0]) (by simp [results, mval, Try.results10, go_sem]) rfl ?_
    have hs := HB.out.size
    have hs1 := HB1.out.size
    exact ⟨g, rfl, by have := HG.out; omega, HM.out, (HB.out.trans (Below.mono HB1.out hs)).trans (Below.mono HB2.out (Nat.le_trans hs hs1))⟩
  · have ek' : (k : Int) % 3 = 1 := by omega
    clear ek
    go_enter Try.func10, Try.ntmps10
    go_wp2_with fail
    rw [← HW.out]
    with_reducible refine HA.out.mono ?_
    rintro e w1 ⟨rfl, hb1⟩
    have HB1 := Lib.hid hb1
    have d0 := (HO.out.below hb1 HO.out.lt).cell 0 (by simp)
    simp only [List.getD_cons_zero] at d0
    clear hb1 c0 c1 c2 c3 c4 HA
    go_wp2_with fail
    with_reducible refine (HS.out _).mono ?_
    rintro e w2 ⟨g, rfl, hg, hm, hb2⟩
    have HM := Lib.hid hm
    have HB2 := Lib.hid hb2
    have HG := Lib.hid hg
    clear hm hb2 hg d0
    go_wp2
    refine bodyPost_ret (v := .tuple #[mval .sum g, .int .i64 0]) (by simp [results, mval, Try.results10, go_sem]) rfl ?_
    have hs := HB.out.size
    have hs1 := HB1.out.size
    exact ⟨g, rfl, by have := HG.out; omega, HM.out, (HB.out.trans (Below.mono HB1.out hs)).trans (Below.mono HB2.out (Nat.le_trans hs hs1))⟩
  · have ek' : (k : Int) % 3 = 2 := by omega
    clear ek
    go_enter Try.func10, Try.ntmps10
    go_wp2_with fail
    rw [← HW.out]
    with_reducible refine HA.out.mono ?_
    rintro e w1 ⟨rfl, hb1⟩
    have HB1 := Lib.hid hb1
    have d0 := (HO.out.below hb1 HO.out.lt).cell 0 (by simp)
    simp only [List.getD_cons_zero] at d0
    clear hb1 c0 c1 c2 c3 c4 HA
    go_wp2_with fail
    with_reducible refine (HP.out _).mono ?_
    rintro e w2 ⟨g, rfl, hg, hm, hb2⟩
    have HM := Lib.hid hm
    have HB2 := Lib.hid hb2
    have HG := Lib.hid hg
    clear hm hb2 hg d0
    go_wp2
    refine bodyPost_ret (v := .tuple #[mval .span g, .int .i64 0]) (by simp [results, mval, Try.results10, go_sem]) rfl ?_
    have hs := HB.out.size
    have hs1 := HB1.out.size
    exact ⟨g, rfl, by have := HG.out; omega, HM.out, (HB.out.trans (Below.mono HB1.out hs)).trans (Below.mono HB2.out (Nat.le_trans hs hs1))⟩
end Go.Proofs.Ytblhfdkopnaobaa
