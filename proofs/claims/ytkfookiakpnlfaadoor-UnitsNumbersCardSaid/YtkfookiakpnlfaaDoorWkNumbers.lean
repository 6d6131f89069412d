/- The walk of UnitsNumbers. -/
import Derived.Test.YtkfookiakpnlfaaDoorUnLives
namespace Go.Proofs.YtkfookiakpnlfaaDoor
open Go.RowKit

theorem tmod_is (a b : Int) : a.tmod b = if 0 ≤ a then a % b else -((-a) % b) := by
  split
  · rw [Int.tmod_eq_emod_of_nonneg (by assumption)]
  · have := Int.neg_tmod (-a) b
    rw [Int.neg_neg] at this
    rw [this, Int.tmod_eq_emod_of_nonneg (by omega)]
set_option maxHeartbeats 2000000 in
set_option maxRecDepth 100000 in
theorem unitsNumbers_walk (n t k0 k1 : Int) (w : World) (hp : PowOk w) (hn : (Lit.int .u8 n).wf = true) (ht : (Lit.int .u8 t).wf = true) (h0 : (Lit.int .i64 k0).wf = true) (h1 : (Lit.int .i64 k1).wf = true) :
    Calls Tryd.prog 7 #[.int .u8 n, .int .u8 t, .agg #[.int .i64 k0, .int .i64 k1]] w fun e w' => e = .returned (.bool true) ∧ Below w.heap.size w w' := by
  obtain ⟨hn0, hn1⟩ := wf_u8.1 hn
  obtain ⟨ht0, ht1⟩ := wf_u8.1 ht
  have HP := Lib.hid (hp.later (below_alloc w (.cells #[.int .i64 k0, .int .i64 k1] 52)))
  obtain ⟨T, hT⟩ : ∃ T, k0.tmod 128 = T := ⟨_, rfl⟩
  obtain ⟨K, hK⟩ : ∃ T, k1.tmod 1000000 = T := ⟨_, rfl⟩
  have hTr : -128 < T ∧ T < 128 := by rw [← hT, tmod_is]; split <;> omega
  have hKr : -1000000 < K ∧ K < 1000000 := by rw [← hK, tmod_is]; split <;> omega
  have hTm : T % 128 = k0 % 128 := by rw [← hT, tmod_is]; split <;> omega
  obtain ⟨hT0, hT1⟩ := hTr
  obtain ⟨hK0, hK1⟩ := hKr
  obtain ⟨A, hA⟩ : ∃ A, A = (n + k0) % 128 := ⟨_, rfl⟩
  have hA0 : 0 ≤ A := by omega
  have hA1 : A ≤ 127 := by omega
  obtain ⟨d, hd⟩ : ∃ A, A = (t - n) % 128 := ⟨_, rfl⟩
  obtain ⟨b, hb⟩ : ∃ A, A = (n - t) % 128 := ⟨_, rfl⟩
  have hd0 : 0 ≤ d := by omega
  have hd1 : d ≤ 127 := by omega
  have hb0 : 0 ≤ b := by omega
  have hb1 : b ≤ 127 := by omega
  obtain ⟨B, hB⟩ : ∃ X, X = (A + K) % 128 := ⟨_, rfl⟩
  have c1 : ∀ W, Calls Tryd.prog 26 #[.int .u8 n, .int .i64 k0] W fun e w' => e = .returned (.int .u8 A) ∧ W = w' := fun W => by rw [hA]; exact after_any n k0 W hn0 hn1
  have c2 : ∀ W, Calls Tryd.prog 26 #[.int .u8 n, .int .i64 0] W fun e w' => e = .returned (.int .u8 (n % 128)) ∧ W = w' := fun W => by have := after_any n 0 W hn0 hn1; rwa [Int.add_zero] at this
  have c3 : ∀ W, Calls Tryd.prog 27 #[.int .u8 n, .int .u8 ((n + 128) % 256)] W fun e w' => e = .returned (.int .i64 0) ∧ W = w' := fun W => by have := ahead_any n ((n + 128) % 256) W hn0 hn1 (by omega) (by omega); rwa [show ((n + 128) % 256 - n) % 128 = 0 by omega] at this
  have c6 : ∀ W, Calls Tryd.prog 27 #[.int .u8 n, .int .u8 t] W fun e w' => e = .returned (.int .i64 d) ∧ W = w' := fun W => by rw [hd]; exact ahead_any n t W hn0 hn1 ht0 ht1
  have c7 : ∀ W, Calls Tryd.prog 27 #[.int .u8 t, .int .u8 n] W fun e w' => e = .returned (.int .i64 b) ∧ W = w' := fun W => by rw [hb]; exact ahead_any t n W ht0 ht1 hn0 hn1
  have c8 : ∀ W, Calls Tryd.prog 26 #[.int .u8 A, .int .i64 K] W fun e w' => e = .returned (.int .u8 B) ∧ W = w' := fun W => by rw [hB]; exact after_any A K W hA0 (by omega)
  have c9 : ∀ W, Calls Tryd.prog 26 #[.int .u8 n, .int .i64 d] W fun e w' => e = .returned (.int .u8 (t % 128)) ∧ W = w' := fun W => by have := after_any n d W hn0 hn1; rwa [show (n + d) % 128 = t % 128 by omega] at this
  have hdb : (d + b) % 128 = 0 := by omega
  by_cases hneg : T < 0
  · obtain ⟨m, hm⟩ : ∃ m, T + 128 = m := ⟨_, rfl⟩
    have hmk : m = k0 % 128 := by omega
    have hm0 : 0 ≤ m := by omega
    have hm1 : m ≤ 127 := by omega
    have c4 : ∀ W, Calls Tryd.prog 27 #[.int .u8 n, .int .u8 A] W fun e w' => e = .returned (.int .i64 m) ∧ W = w' := fun W => by have := ahead_any n A W hn0 hn1 hA0 (by omega); rwa [show (A - n) % 128 = m by omega] at this
    have c5 : ∀ W, Calls Tryd.prog 27 #[.int .u8 ((n + 128) % 256), .int .u8 (A + 128)] W fun e w' => e = .returned (.int .i64 m) ∧ W = w' := fun W => by have := ahead_any ((n + 128) % 256) (A + 128) W (by omega) (by omega) (by omega) (by omega); rwa [show (A + 128 - (n + 128) % 256) % 128 = m by omega] at this
    have c10 : ∀ W, Calls Tryd.prog 26 #[.int .u8 n, .int .i64 (m + K)] W fun e w' => e = .returned (.int .u8 B) ∧ W = w' := fun W => by have := after_any n (m + K) W hn0 hn1; rwa [show (n + (m + K)) % 128 = B by omega] at this
    have hAm : (n % 128 + m) % 128 = A := by omega
    have HC1 := Lib.hid c1
    have HC2 := Lib.hid c2
    have HC3 := Lib.hid c3
    have HC4 := Lib.hid c4
    have HC5 := Lib.hid c5
    have HC6 := Lib.hid c6
    have HC7 := Lib.hid c7
    have HC8 := Lib.hid c8
    have HC9 := Lib.hid c9
    have HC10 := Lib.hid c10
    clear c1 c2 c3 c4 c5 c6 c7 c8 c9 c10 hmk hA hd hb hB hTm
    go_enter Tryd.func7, Tryd.ntmps7
    go_wp2_with fail
    refine (HC1.out _).mono ?_
    rintro e w' ⟨rfl, rfl⟩
    go_wp2_with fail
    refine (HC2.out _).mono ?_
    rintro e w' ⟨rfl, rfl⟩
    go_wp2_with fail
    refine (HC3.out _).mono ?_
    rintro e w' ⟨rfl, rfl⟩
    go_wp2_with fail
    refine (HC4.out _).mono ?_
    rintro e w' ⟨rfl, rfl⟩
    go_wp2_with fail
    refine (HC5.out _).mono ?_
    rintro e w' ⟨rfl, rfl⟩
    go_wp2_with fail
    refine (HC6.out _).mono ?_
    rintro e w' ⟨rfl, rfl⟩
    go_wp2_with fail
    refine (HC7.out _).mono ?_
    rintro e w' ⟨rfl, rfl⟩
    go_wp2_with fail
    refine (HC8.out _).mono ?_
    rintro e w' ⟨rfl, rfl⟩
    go_wp2_with fail
    refine (HC9.out _).mono ?_
    rintro e w' ⟨rfl, rfl⟩
    go_wp2_with fail
    refine (HC10.out _).mono ?_
    rintro e w' ⟨rfl, rfl⟩
    go_wp2_with fail
    refine (lives_any _ HP.out).mono ?_
    rintro e w1 ⟨rfl, hb⟩
    have BB := Lib.hid (below_call hb)
    clear hb
    go_wp2
    go_ret
    exact ⟨rfl, BB.out⟩
  · obtain ⟨m, hm⟩ : ∃ m, T = m := ⟨_, rfl⟩
    have hmk : m = k0 % 128 := by omega
    have hm0 : 0 ≤ m := by omega
    have hm1 : m ≤ 127 := by omega
    have c4 : ∀ W, Calls Tryd.prog 27 #[.int .u8 n, .int .u8 A] W fun e w' => e = .returned (.int .i64 m) ∧ W = w' := fun W => by have := ahead_any n A W hn0 hn1 hA0 (by omega); rwa [show (A - n) % 128 = m by omega] at this
    have c5 : ∀ W, Calls Tryd.prog 27 #[.int .u8 ((n + 128) % 256), .int .u8 (A + 128)] W fun e w' => e = .returned (.int .i64 m) ∧ W = w' := fun W => by have := ahead_any ((n + 128) % 256) (A + 128) W (by omega) (by omega) (by omega) (by omega); rwa [show (A + 128 - (n + 128) % 256) % 128 = m by omega] at this
    have c10 : ∀ W, Calls Tryd.prog 26 #[.int .u8 n, .int .i64 (m + K)] W fun e w' => e = .returned (.int .u8 B) ∧ W = w' := fun W => by have := after_any n (m + K) W hn0 hn1; rwa [show (n + (m + K)) % 128 = B by omega] at this
    have hAm : (n % 128 + m) % 128 = A := by omega
    subst hm
    have HC1 := Lib.hid c1
    have HC2 := Lib.hid c2
    have HC3 := Lib.hid c3
    have HC4 := Lib.hid c4
    have HC5 := Lib.hid c5
    have HC6 := Lib.hid c6
    have HC7 := Lib.hid c7
    have HC8 := Lib.hid c8
    have HC9 := Lib.hid c9
    have HC10 := Lib.hid c10
    clear c1 c2 c3 c4 c5 c6 c7 c8 c9 c10 hmk hA hd hb hB hTm
    go_enter Tryd.func7, Tryd.ntmps7
    go_wp2_with fail
    refine (HC1.out _).mono ?_
    rintro e w' ⟨rfl, rfl⟩
    go_wp2_with fail
    refine (HC2.out _).mono ?_
    rintro e w' ⟨rfl, rfl⟩
    go_wp2_with fail
    refine (HC3.out _).mono ?_
    rintro e w' ⟨rfl, rfl⟩
    go_wp2_with fail
    refine (HC4.out _).mono ?_
    rintro e w' ⟨rfl, rfl⟩
    go_wp2_with fail
    refine (HC5.out _).mono ?_
    rintro e w' ⟨rfl, rfl⟩
    go_wp2_with fail
    refine (HC6.out _).mono ?_
    rintro e w' ⟨rfl, rfl⟩
    go_wp2_with fail
    refine (HC7.out _).mono ?_
    rintro e w' ⟨rfl, rfl⟩
    go_wp2_with fail
    refine (HC8.out _).mono ?_
    rintro e w' ⟨rfl, rfl⟩
    go_wp2_with fail
    refine (HC9.out _).mono ?_
    rintro e w' ⟨rfl, rfl⟩
    go_wp2_with fail
    refine (HC10.out _).mono ?_
    rintro e w' ⟨rfl, rfl⟩
    go_wp2_with fail
    refine (lives_any _ HP.out).mono ?_
    rintro e w1 ⟨rfl, hb⟩
    have BB := Lib.hid (below_call hb)
    clear hb
    go_wp2
    go_ret
    exact ⟨rfl, BB.out⟩
end Go.Proofs.YtkfookiakpnlfaaDoor
