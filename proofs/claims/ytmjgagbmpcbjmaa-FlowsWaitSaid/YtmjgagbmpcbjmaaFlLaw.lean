/- Statements of layer 10: times of octets, sends, perform, marks. -/
import Derived.Test.YtmjgagbmpcbjmaaFlLev
namespace Go.Proofs.Ytmjgagbmpcbjmaa
open Go.RowKit

/-- The times of three octets. -/
def tmOf (a0 a1 a2 : Nat) : Tm := ⟨1 + a0 % 20, 1 + a1 % 20, 1 + a2 % 20⟩
/-- All times are from 1 to 20. -/
structure Tm.Low (t : Tm) : Prop where
  a : 1 ≤ t.again ∧ t.again ≤ 20
  m : 1 ≤ t.most ∧ t.most ≤ 20
  w : 1 ≤ t.wait ∧ t.wait ≤ 20
theorem tmOf_low (a0 a1 a2 : Nat) : (tmOf a0 a1 a2).Low := by
  constructor <;> (simp only [tmOf]; omega)
theorem Tm.Low.fit {t : Tm} (h : t.Low) : t.Fit := by
  obtain ⟨a, b, c⟩ := h
  constructor <;> omega
set_option maxHeartbeats 1000000 in
set_option maxRecDepth 100000 in
theorem of_any (a0 a1 a2 : Nat) (w : World) (h0 : a0 ≤ 255) (h1 : a1 ≤ 255) (h2 : a2 ≤ 255) (t : Tm) (ht : t = tmOf a0 a1 a2) :
    Calls Try.prog 12 #[.agg #[.int .u8 (a0 : Int), .int .u8 (a1 : Int), .int .u8 (a2 : Int)]] w fun e w' => e = .returned (.agg #[.int .i64 (t.again : Int), .int .i64 (t.most : Int), .int .i64 (t.wait : Int)]) ∧ Below w.heap.size w w' := by
  obtain ⟨W, hW⟩ : ∃ X, X = w.alloc (.cells #[.int .u8 (a0 : Int), .int .u8 (a1 : Int), .int .u8 (a2 : Int)] 23) := ⟨_, rfl⟩
  have hbW : Below w.heap.size w W := by rw [hW]; exact below_alloc _ _
  have oT : Own W w.heap.size 23 [.int .u8 (a0 : Int), .int .u8 (a1 : Int), .int .u8 (a2 : Int)] := by rw [hW]; exact Blk.fresh w _ _ _ rfl
  obtain ⟨W2, hW2⟩ : ∃ X, X = W.alloc (.cells #[.int .i64 0, .int .i64 0, .int .i64 0] 31) := ⟨_, rfl⟩
  have hs1 : W.heap.size = w.heap.size + 1 := by rw [hW]; simp
  have oT2 : Own W2 w.heap.size 23 [.int .u8 (a0 : Int), .int .u8 (a1 : Int), .int .u8 (a2 : Int)] := by rw [hW2]; exact oT.below (below_alloc W _) oT.lt
  have oR : Own W2 (w.heap.size + 1) 31 [.int .i64 0, .int .i64 0, .int .i64 0] := by rw [hW2, ← hs1]; exact Blk.fresh W _ _ _ rfl
  have hb2 : Below w.heap.size w W2 := by rw [hW2]; exact hbW.alloc hbW.size _
  have c0 := oT2.cell 0 (by simp)
  have c1 := oT2.cell 1 (by simp)
  have c2 := oT2.cell 2 (by simp)
  simp only [List.getD_cons_succ, List.getD_cons_zero] at c0 c1 c2
  have f0 := oR.frozen 0
  have f1 := oR.frozen 1
  have f2 := oR.frozen 2
  have d0 := oR.cell 0 (by simp)
  have d1 := oR.cell 1 (by simp)
  have d2 := oR.cell 2 (by simp)
  simp only [List.getD_cons_succ, List.getD_cons_zero] at d0 d1 d2
  have e0 : IntKind.i64.wrap (1 + (a0 : Int) % 20) = (t.again : Int) := by rw [IntWalk.i64_in _ (by omega), ht]; simp only [tmOf]; omega
  have n0 : (0 : Int) ≤ (a0 : Int) % 20 := by omega
  have e1 : IntKind.i64.wrap (1 + (a1 : Int) % 20) = (t.most : Int) := by rw [IntWalk.i64_in _ (by omega), ht]; simp only [tmOf]; omega
  have n1 : (0 : Int) ≤ (a1 : Int) % 20 := by omega
  have e2 : IntKind.i64.wrap (1 + (a2 : Int) % 20) = (t.wait : Int) := by rw [IntWalk.i64_in _ (by omega), ht]; simp only [tmOf]; omega
  have n2 : (0 : Int) ≤ (a2 : Int) % 20 := by omega
  obtain ⟨W3, hW3⟩ : ∃ X, X = ((W2.setCell ⟨w.heap.size + 1, 0, none⟩ (.int .i64 (t.again : Int))).setCell ⟨w.heap.size + 1, 1, none⟩ (.int .i64 (t.most : Int))).setCell ⟨w.heap.size + 1, 2, none⟩ (.int .i64 (t.wait : Int)) := ⟨_, rfl⟩
  have o3 : Own W3 (w.heap.size + 1) 31 [.int .i64 (t.again : Int), .int .i64 (t.most : Int), .int .i64 (t.wait : Int)] := by rw [hW3]; exact ((oR.set 0 _).set 1 _).set 2 _
  have hb3 : Below w.heap.size w W3 := by rw [hW3]; exact ((hb2.setCell (by simp) _).setCell (by simp) _).setCell (by simp) _
  have k0 := o3.cell 0 (by simp)
  have k1 := o3.cell 1 (by simp)
  have k2 := o3.cell 2 (by simp)
  simp only [List.getD_cons_succ, List.getD_cons_zero] at k0 k1 k2
  have HW := Lib.hid hW
  have HW2 := Lib.hid hW2
  have HW3 := Lib.hid hW3
  have H := Lib.hid hb3
  have HK := Lib.hid (And.intro k0 (And.intro k1 k2))
  have g1 : w.heap.size + 1 < W2.heap.size := oR.lt
  clear hW hW2 hbW oT oT2 oR hb2 hs1 ht hW3 o3 hb3 k0 k1 k2
  go_enter Try.func12, Try.ntmps12
  go_upto_region 1 with fail
  rw [← HW.out, ← HW2.out]
  clear HW HW2
  go_wp2
  rw [← HW3.out]
  obtain ⟨k0, k1, k2⟩ := HK.out
  refine bodyPost_ret (v := .agg #[.int .i64 (t.again : Int), .int .i64 (t.most : Int), .int .i64 (t.wait : Int)]) (by simp [results, Try.results12, go_sem, k0, k1, k2]) rfl ?_
  exact ⟨rfl, H.out⟩
set_option maxHeartbeats 1000000 in
set_option maxRecDepth 100000 in
theorem lsends (b : Nat) (x : Fl) (w : World) (h : FlAt w b x) :
    Calls Try.prog 16 #[.pointer (some ⟨b, 0, none⟩)] w fun e w' => e = .returned (.int .u8 (x.stat : Int)) ∧ w' = w := by
  have hc := fl_sends b x w h
  have e1 := x.stat_eq
  have e2 : x.is = false → x.st = 0 := fun h => by unfold Fl.st; rw [h]; rfl
  obtain ⟨T, hT⟩ : ∃ T, T = x.stat := ⟨_, rfl⟩
  obtain ⟨I, hI⟩ : ∃ I, I = x.is := ⟨_, rfl⟩
  obtain ⟨S, hS⟩ : ∃ S, S = x.st := ⟨_, rfl⟩
  rw [← hT, ← hI, ← hS] at e1
  rw [← hI, ← hS] at e2 hc
  rw [← hT]
  have HC := Lib.hid hc
  clear hT hI hS hc h
  cases I
  · have e3 := e2 rfl
    simp only [Bool.false_eq_true, if_false] at e1
    subst e1 e3
    clear e2
    go_enter Try.func16, Try.ntmps16
    go_wp2_with fail
    with_reducible refine HC.out.mono ?_
    rintro e w' ⟨rfl, rfl⟩
    clear HC
    go_wp2
    go_ret
    exact ⟨rfl, rfl⟩
  · simp only [if_true] at e1
    subst e1
    clear e2
    go_enter Try.func16, Try.ntmps16
    go_wp2_with fail
    with_reducible refine HC.out.mono ?_
    rintro e w' ⟨rfl, rfl⟩
    clear HC
    go_wp2
    go_ret
    exact ⟨rfl, rfl⟩
set_option maxHeartbeats 1000000 in
set_option maxRecDepth 100000 in
theorem lsends_none (v : Value) (w : World) (h : FlNone w v) :
    Calls Try.prog 16 #[v] w fun e w' => e = .returned (.int .u8 9) ∧ w' = w := by
  have HC := Lib.hid (fl_sends_none v w h)
  clear h
  go_enter Try.func16, Try.ntmps16
  go_wp2_with fail
  with_reducible refine HC.out.mono ?_
  rintro e w' ⟨rfl, rfl⟩
  clear HC
  go_wp2
  go_ret
  exact ⟨rfl, rfl⟩
/-- An act of a script, and its error. -/
def Fl.act (x : Fl) (a : Nat) : Fl :=
  if a < 2 then x.congest (decide (a = 1)) else if a < 4 then x.outage (decide (a = 3)) else if a < 8 then x.opens (decide (a % 2 = 1)) (decide (6 ≤ a)) else if a = 8 then x.tick else if a = 9 then x.hear 200 false else x.hear (a - 10) true
def Fl.err (x : Fl) (a : Nat) : Nat := if a < 10 then x.code else x.hearCode (a - 10) true
set_option maxHeartbeats 1000000 in
set_option maxRecDepth 100000 in
theorem perform_any (b : Nat) (x : Fl) (w : World) (h : FlAt w b x) (a : Nat) (ha : a ≤ 255) :
    Calls Try.prog 13 #[.pointer (some ⟨b, 0, none⟩), .int .u8 (a : Int)] w fun e w' => e = .returned (.int .i64 (x.err a : Int)) ∧ Nxt w b (x.act a) w' := by
  by_cases h10 : a < 10
  · have hcases : a = 0 ∨ a = 1 ∨ a = 2 ∨ a = 3 ∨ a = 4 ∨ a = 5 ∨ a = 6 ∨ a = 7 ∨ a = 8 ∨ a = 9 := by omega
    rw [show x.err a = x.code from if_pos h10]
    clear h10 ha
    rcases hcases with rfl | rfl | rfl | rfl | rfl | rfl | rfl | rfl | rfl | rfl
    · rw [show x.act 0 = x.congest false from rfl]
      have hc := fl_congest b x false w h
      obtain ⟨E, hE⟩ : ∃ E, E = x.code := ⟨_, rfl⟩
      rw [← hE] at hc ⊢
      have HC := Lib.hid hc
      clear h hc hE
      go_enter Try.func13, Try.ntmps13
      go_wp2_with fail
      with_reducible refine HC.out.mono ?_
      rintro e w' ⟨rfl, h⟩
      have H := Lib.hid h
      clear HC h
      go_wp2
      go_ret
      exact ⟨rfl, H.out⟩
    · rw [show x.act 1 = x.congest true from rfl]
      have hc := fl_congest b x true w h
      obtain ⟨E, hE⟩ : ∃ E, E = x.code := ⟨_, rfl⟩
      rw [← hE] at hc ⊢
      have HC := Lib.hid hc
      clear h hc hE
      go_enter Try.func13, Try.ntmps13
      go_wp2_with fail
      with_reducible refine HC.out.mono ?_
      rintro e w' ⟨rfl, h⟩
      have H := Lib.hid h
      clear HC h
      go_wp2
      go_ret
      exact ⟨rfl, H.out⟩
    · rw [show x.act 2 = x.outage false from rfl]
      have hc := fl_outage b x false w h
      obtain ⟨E, hE⟩ : ∃ E, E = x.code := ⟨_, rfl⟩
      rw [← hE] at hc ⊢
      have HC := Lib.hid hc
      clear h hc hE
      go_enter Try.func13, Try.ntmps13
      go_wp2_with fail
      with_reducible refine HC.out.mono ?_
      rintro e w' ⟨rfl, h⟩
      have H := Lib.hid h
      clear HC h
      go_wp2
      go_ret
      exact ⟨rfl, H.out⟩
    · rw [show x.act 3 = x.outage true from rfl]
      have hc := fl_outage b x true w h
      obtain ⟨E, hE⟩ : ∃ E, E = x.code := ⟨_, rfl⟩
      rw [← hE] at hc ⊢
      have HC := Lib.hid hc
      clear h hc hE
      go_enter Try.func13, Try.ntmps13
      go_wp2_with fail
      with_reducible refine HC.out.mono ?_
      rintro e w' ⟨rfl, h⟩
      have H := Lib.hid h
      clear HC h
      go_wp2
      go_ret
      exact ⟨rfl, H.out⟩
    · rw [show x.act 4 = x.opens false false from rfl]
      have hc := fl_open b x false false w h
      obtain ⟨E, hE⟩ : ∃ E, E = x.code := ⟨_, rfl⟩
      rw [← hE] at hc ⊢
      have HC := Lib.hid hc
      clear h hc hE
      go_enter Try.func13, Try.ntmps13
      go_wp2_with fail
      with_reducible refine HC.out.mono ?_
      rintro e w' ⟨rfl, h⟩
      have H := Lib.hid h
      clear HC h
      go_wp2
      go_ret
      exact ⟨rfl, H.out⟩
    · rw [show x.act 5 = x.opens true false from rfl]
      have hc := fl_open b x true false w h
      obtain ⟨E, hE⟩ : ∃ E, E = x.code := ⟨_, rfl⟩
      rw [← hE] at hc ⊢
      have HC := Lib.hid hc
      clear h hc hE
      go_enter Try.func13, Try.ntmps13
      go_wp2_with fail
      with_reducible refine HC.out.mono ?_
      rintro e w' ⟨rfl, h⟩
      have H := Lib.hid h
      clear HC h
      go_wp2
      go_ret
      exact ⟨rfl, H.out⟩
    · rw [show x.act 6 = x.opens false true from rfl]
      have hc := fl_open b x false true w h
      obtain ⟨E, hE⟩ : ∃ E, E = x.code := ⟨_, rfl⟩
      rw [← hE] at hc ⊢
      have HC := Lib.hid hc
      clear h hc hE
      go_enter Try.func13, Try.ntmps13
      go_wp2_with fail
      with_reducible refine HC.out.mono ?_
      rintro e w' ⟨rfl, h⟩
      have H := Lib.hid h
      clear HC h
      go_wp2
      go_ret
      exact ⟨rfl, H.out⟩
    · rw [show x.act 7 = x.opens true true from rfl]
      have hc := fl_open b x true true w h
      obtain ⟨E, hE⟩ : ∃ E, E = x.code := ⟨_, rfl⟩
      rw [← hE] at hc ⊢
      have HC := Lib.hid hc
      clear h hc hE
      go_enter Try.func13, Try.ntmps13
      go_wp2_with fail
      with_reducible refine HC.out.mono ?_
      rintro e w' ⟨rfl, h⟩
      have H := Lib.hid h
      clear HC h
      go_wp2
      go_ret
      exact ⟨rfl, H.out⟩
    · rw [show x.act 8 = x.tick from rfl]
      have hc := fl_tick b x w h
      obtain ⟨E, hE⟩ : ∃ E, E = x.code := ⟨_, rfl⟩
      rw [← hE] at hc ⊢
      have HC := Lib.hid hc
      clear h hc hE
      go_enter Try.func13, Try.ntmps13
      go_wp2_with fail
      with_reducible refine HC.out.mono ?_
      rintro e w' ⟨rfl, h⟩
      have H := Lib.hid h
      clear HC h
      go_wp2
      go_ret
      exact ⟨rfl, H.out⟩
    · rw [show x.act 9 = x.hear 200 false from rfl]
      have hc := fl_hear b x 200 false w h (by decide)
      rw [show x.hearCode 200 false = x.code from rfl, show ((200 : Nat) : Int) = 200 from rfl] at hc
      obtain ⟨E, hE⟩ : ∃ E, E = x.code := ⟨_, rfl⟩
      rw [← hE] at hc ⊢
      have HC := Lib.hid hc
      clear h hc hE
      go_enter Try.func13, Try.ntmps13
      go_wp2_with fail
      with_reducible refine HC.out.mono ?_
      rintro e w' ⟨rfl, h⟩
      have H := Lib.hid h
      clear HC h
      go_wp2
      go_ret
      exact ⟨rfl, H.out⟩
  · rw [show x.err a = x.hearCode (a - 10) true from if_neg h10, show x.act a = x.hear (a - 10) true by unfold Fl.act; rw [if_neg (by omega), if_neg (by omega), if_neg (by omega), if_neg (by omega), if_neg (by omega)]]
    obtain ⟨s, hs⟩ : ∃ s, s = a - 10 := ⟨_, rfl⟩
    have hw : IntKind.u8.wrap ((a : Int) - 10) = (s : Int) := by rw [IntWalk.u8_in _ (by omega)]; omega
    obtain ⟨A, hA⟩ : ∃ A : Int, A = (a : Int) := ⟨_, rfl⟩
    have q1 : ¬ A < 2 := by omega
    have q2 : ¬ A < 4 := by omega
    have q3 : ¬ A < 8 := by omega
    have q4 : ¬ A = 8 := by omega
    have q5 : ¬ A = 9 := by omega
    have q6 : (A == 8) = false := by simp; omega
    have q7 : (A == 9) = false := by simp; omega
    rw [← hA] at hw ⊢
    rw [← hs]
    have hc := fl_hear b x s true w h (by omega)
    obtain ⟨E, hE⟩ : ∃ E, E = x.hearCode s true := ⟨_, rfl⟩
    rw [← hE] at hc ⊢
    have HC := Lib.hid hc
    clear h hc hE hA hs h10 ha
    go_enter Try.func13, Try.ntmps13
    go_wp2_with fail
    with_reducible refine HC.out.mono ?_
    rintro e w' ⟨rfl, h⟩
    have H := Lib.hid h
    clear HC h
    go_wp2
    go_ret
    exact ⟨rfl, H.out⟩
set_option maxHeartbeats 1000000 in
set_option maxRecDepth 100000 in
theorem perform_none (v : Value) (w : World) (h : FlNone w v) (a : Nat) (ha : a ≤ 255) :
    Calls Try.prog 13 #[v, .int .u8 (a : Int)] w fun e w' => e = .returned (.int .i64 2) ∧ w' = w := by
  by_cases h10 : a < 10
  · have hcases : a = 0 ∨ a = 1 ∨ a = 2 ∨ a = 3 ∨ a = 4 ∨ a = 5 ∨ a = 6 ∨ a = 7 ∨ a = 8 ∨ a = 9 := by omega
    clear h10 ha
    rcases hcases with rfl | rfl | rfl | rfl | rfl | rfl | rfl | rfl | rfl | rfl
    · have HC := Lib.hid (fl_congest_none v false w h)
      clear h
      go_enter Try.func13, Try.ntmps13
      go_wp2_with fail
      with_reducible refine HC.out.mono ?_
      rintro e w' ⟨rfl, rfl⟩
      clear HC
      go_wp2
      go_ret
      exact ⟨rfl, rfl⟩
    · have HC := Lib.hid (fl_congest_none v true w h)
      clear h
      go_enter Try.func13, Try.ntmps13
      go_wp2_with fail
      with_reducible refine HC.out.mono ?_
      rintro e w' ⟨rfl, rfl⟩
      clear HC
      go_wp2
      go_ret
      exact ⟨rfl, rfl⟩
    · have HC := Lib.hid (fl_outage_none v false w h)
      clear h
      go_enter Try.func13, Try.ntmps13
      go_wp2_with fail
      with_reducible refine HC.out.mono ?_
      rintro e w' ⟨rfl, rfl⟩
      clear HC
      go_wp2
      go_ret
      exact ⟨rfl, rfl⟩
    · have HC := Lib.hid (fl_outage_none v true w h)
      clear h
      go_enter Try.func13, Try.ntmps13
      go_wp2_with fail
      with_reducible refine HC.out.mono ?_
      rintro e w' ⟨rfl, rfl⟩
      clear HC
      go_wp2
      go_ret
      exact ⟨rfl, rfl⟩
    · have HC := Lib.hid (fl_open_none v false false w h)
      clear h
      go_enter Try.func13, Try.ntmps13
      go_wp2_with fail
      with_reducible refine HC.out.mono ?_
      rintro e w' ⟨rfl, rfl⟩
      clear HC
      go_wp2
      go_ret
      exact ⟨rfl, rfl⟩
    · have HC := Lib.hid (fl_open_none v true false w h)
      clear h
      go_enter Try.func13, Try.ntmps13
      go_wp2_with fail
      with_reducible refine HC.out.mono ?_
      rintro e w' ⟨rfl, rfl⟩
      clear HC
      go_wp2
      go_ret
      exact ⟨rfl, rfl⟩
    · have HC := Lib.hid (fl_open_none v false true w h)
      clear h
      go_enter Try.func13, Try.ntmps13
      go_wp2_with fail
      with_reducible refine HC.out.mono ?_
      rintro e w' ⟨rfl, rfl⟩
      clear HC
      go_wp2
      go_ret
      exact ⟨rfl, rfl⟩
    · have HC := Lib.hid (fl_open_none v true true w h)
      clear h
      go_enter Try.func13, Try.ntmps13
      go_wp2_with fail
      with_reducible refine HC.out.mono ?_
      rintro e w' ⟨rfl, rfl⟩
      clear HC
      go_wp2
      go_ret
      exact ⟨rfl, rfl⟩
    · have HC := Lib.hid (fl_tick_none v w h)
      clear h
      go_enter Try.func13, Try.ntmps13
      go_wp2_with fail
      with_reducible refine HC.out.mono ?_
      rintro e w' ⟨rfl, rfl⟩
      clear HC
      go_wp2
      go_ret
      exact ⟨rfl, rfl⟩
    · have HC := Lib.hid (fl_hear_none v 200 false w h)
      clear h
      go_enter Try.func13, Try.ntmps13
      go_wp2_with fail
      with_reducible refine HC.out.mono ?_
      rintro e w' ⟨rfl, rfl⟩
      clear HC
      go_wp2
      go_ret
      exact ⟨rfl, rfl⟩
  ·
    obtain ⟨s, hs⟩ : ∃ s, s = a - 10 := ⟨_, rfl⟩
    have hw : IntKind.u8.wrap ((a : Int) - 10) = (s : Int) := by rw [IntWalk.u8_in _ (by omega)]; omega
    obtain ⟨A, hA⟩ : ∃ A : Int, A = (a : Int) := ⟨_, rfl⟩
    have q1 : ¬ A < 2 := by omega
    have q2 : ¬ A < 4 := by omega
    have q3 : ¬ A < 8 := by omega
    have q4 : ¬ A = 8 := by omega
    have q5 : ¬ A = 9 := by omega
    have q6 : (A == 8) = false := by simp; omega
    have q7 : (A == 9) = false := by simp; omega
    rw [← hA] at hw ⊢
    have HC := Lib.hid (fl_hear_none v (s : Int) true w h)
    clear h hA hs h10 ha
    go_enter Try.func13, Try.ntmps13
    go_wp2_with fail
    with_reducible refine HC.out.mono ?_
    rintro e w' ⟨rfl, rfl⟩
    clear HC
    go_wp2
    go_ret
    exact ⟨rfl, rfl⟩
set_option maxHeartbeats 1000000 in
set_option maxRecDepth 100000 in
theorem marks_any (w : World) :
    Calls Try.prog 28 #[] w fun e w' => e = .returned (.agg #[.int .i64 4, .int .i64 8, .int .i64 12, .int .i64 2, .int .i64 6, .int .i64 10]) ∧ Below w.heap.size w w' := by
  go_enter Try.func28, Try.ntmps28
  go_wp2
  refine bodyPost_ret (v := .agg #[.int .i64 4, .int .i64 8, .int .i64 12, .int .i64 2, .int .i64 6, .int .i64 10]) (by simp [results, Try.results28, go_sem]) rfl ?_
  exact ⟨rfl, below_alloc _ _⟩
end Go.Proofs.Ytmjgagbmpcbjmaa
