/- Statements of layer 9: an act of the model. -/
import Derived.Test.YtgfiikbecapodaaAlActB
namespace Go.Proofs.Ytgfiikbecapodaa
open Go.RowKit

set_option maxHeartbeats 4000000 in
set_option maxRecDepth 100000 in
theorem mact_0 (m : Nat) (x : Al) (w : World) (h : Md w m x) (hp : x.ph = 0 ∨ x.ph = 5) :
    Calls Try.prog 13 #[.pointer (some ⟨m, 0, none⟩), .int .u8 0] w fun e w' => e = .returned (.int .i64 0) ∧ MNext w m (x.start false) w' := by
  have c7 := h.ph
  have c8 := h.left
  have c10 := h.urg
  have c0 := h.c0
  have c9 := h.ow
  have c11 := h.prov
  have f7 := h.frozen 7
  have f8 := h.frozen 8
  have f9 := h.frozen 9
  have f10 := h.frozen 10
  have f11 := h.frozen 11
  have h1 : MNext w m (x.start false) (((((w.setCell ⟨m, 9, none⟩ (.bool false)).setCell ⟨m, 10, none⟩ (.bool false)).setCell ⟨m, 11, none⟩ (.int .i64 0)).setCell ⟨m, 7, none⟩ (.int .u8 1)).setCell ⟨m, 8, none⟩ (.int .i64 (x.t.seek : Int))) :=
    ⟨((((h.set 9 (.bool false)).set 10 (.bool false)).set 11 (.int .i64 0)).set 7 (.int .u8 1)).set 8 (.int .i64 (x.t.seek : Int)), exm _ _ (exm _ _ (exm _ _ (exm _ _ (exm _ _ (Exc.refl _ w)))))⟩
  have H := Lib.hid h1
  obtain ⟨p, hpp⟩ : ∃ p, p = x.ph := ⟨_, rfl⟩
  rw [← hpp] at hp c7
  clear h h1 hpp
  cases hu : x.urg
  all_goals
    rw [hu] at c10
    clear hu
    rcases hp with rfl | rfl
    all_goals
      go_enter Try.func13, Try.ntmps13
      go_wp2
      go_ret
      exact ⟨rfl, H.out⟩
set_option maxHeartbeats 4000000 in
set_option maxRecDepth 100000 in
theorem mact_0n (m : Nat) (x : Al) (w : World) (h : Md w m x) (hp : x.ph ≠ 0 ∧ x.ph ≠ 5) (h5 : x.ph ≤ 5) :
    Calls Try.prog 13 #[.pointer (some ⟨m, 0, none⟩), .int .u8 0] w fun e w' => e = .returned (.int .i64 6) ∧ MNext w m (x) w' := by
  have c7 := h.ph
  have c8 := h.left
  have c10 := h.urg
  have H := Lib.hid (MNext.same h)
  obtain ⟨p, hpp⟩ : ∃ p, p = x.ph := ⟨_, rfl⟩
  rw [← hpp] at hp c7 h5
  have h6 : p = 1 ∨ p = 2 ∨ p = 3 ∨ p = 4 := by omega
  clear h hpp hp h5
  cases hu : x.urg
  all_goals
    rw [hu] at c10
    clear hu
    rcases h6 with rfl | rfl | rfl | rfl
    all_goals
      go_enter Try.func13, Try.ntmps13
      go_wp2
      go_ret
      exact ⟨rfl, H.out⟩
set_option maxHeartbeats 4000000 in
set_option maxRecDepth 100000 in
theorem mact_1 (m : Nat) (x : Al) (w : World) (h : Md w m x) (hp : x.ph = 0 ∨ x.ph = 5) :
    Calls Try.prog 13 #[.pointer (some ⟨m, 0, none⟩), .int .u8 1] w fun e w' => e = .returned (.int .i64 0) ∧ MNext w m (x.start true) w' := by
  have c7 := h.ph
  have c8 := h.left
  have c10 := h.urg
  have c0 := h.c0
  have c9 := h.ow
  have c11 := h.prov
  have f7 := h.frozen 7
  have f8 := h.frozen 8
  have f9 := h.frozen 9
  have f10 := h.frozen 10
  have f11 := h.frozen 11
  have h1 : MNext w m (x.start true) (((((w.setCell ⟨m, 9, none⟩ (.bool true)).setCell ⟨m, 10, none⟩ (.bool true)).setCell ⟨m, 11, none⟩ (.int .i64 0)).setCell ⟨m, 7, none⟩ (.int .u8 1)).setCell ⟨m, 8, none⟩ (.int .i64 (x.t.seek : Int))) :=
    ⟨((((h.set 9 (.bool true)).set 10 (.bool true)).set 11 (.int .i64 0)).set 7 (.int .u8 1)).set 8 (.int .i64 (x.t.seek : Int)), exm _ _ (exm _ _ (exm _ _ (exm _ _ (exm _ _ (Exc.refl _ w)))))⟩
  have H := Lib.hid h1
  obtain ⟨p, hpp⟩ : ∃ p, p = x.ph := ⟨_, rfl⟩
  rw [← hpp] at hp c7
  clear h h1 hpp
  cases hu : x.urg
  all_goals
    rw [hu] at c10
    clear hu
    rcases hp with rfl | rfl
    all_goals
      go_enter Try.func13, Try.ntmps13
      go_wp2
      go_ret
      exact ⟨rfl, H.out⟩
set_option maxHeartbeats 4000000 in
set_option maxRecDepth 100000 in
theorem mact_1n (m : Nat) (x : Al) (w : World) (h : Md w m x) (hp : x.ph ≠ 0 ∧ x.ph ≠ 5) (h5 : x.ph ≤ 5) :
    Calls Try.prog 13 #[.pointer (some ⟨m, 0, none⟩), .int .u8 1] w fun e w' => e = .returned (.int .i64 6) ∧ MNext w m (x) w' := by
  have c7 := h.ph
  have c8 := h.left
  have c10 := h.urg
  have H := Lib.hid (MNext.same h)
  obtain ⟨p, hpp⟩ : ∃ p, p = x.ph := ⟨_, rfl⟩
  rw [← hpp] at hp c7 h5
  have h6 : p = 1 ∨ p = 2 ∨ p = 3 ∨ p = 4 := by omega
  clear h hpp hp h5
  cases hu : x.urg
  all_goals
    rw [hu] at c10
    clear hu
    rcases h6 with rfl | rfl | rfl | rfl
    all_goals
      go_enter Try.func13, Try.ntmps13
      go_wp2
      go_ret
      exact ⟨rfl, H.out⟩
set_option maxHeartbeats 4000000 in
set_option maxRecDepth 100000 in
theorem mact_2 (m : Nat) (x : Al) (w : World) (h : Md w m x) :
    Calls Try.prog 13 #[.pointer (some ⟨m, 0, none⟩), .int .u8 2] w fun e w' => e = .returned (.int .i64 0) ∧ MNext w m (x.ends 0) w' := by
  have c7 := h.ph
  have c8 := h.left
  have c10 := h.urg
  have HC := Lib.hid (mend_0 m x w h)
  clear h
  cases hu : x.urg
  all_goals
    rw [hu] at c10
    clear hu
    go_enter Try.func13, Try.ntmps13
    go_wp2_with fail
    with_reducible refine HC.out.mono ?_
    rintro e w2 ⟨rfl, h2, x2⟩
    have H2 := Lib.hid (show MNext w m (x.ends 0) w2 from ⟨h2, x2⟩)
    clear h2 x2 HC
    go_wp2
    go_ret
    exact ⟨rfl, H2.out⟩
set_option maxHeartbeats 4000000 in
set_option maxRecDepth 100000 in
theorem mact_3n (m : Nat) (x : Al) (w : World) (h : Md w m x) (hp : x.ph ≠ 3) (h5 : x.ph ≤ 5) :
    Calls Try.prog 13 #[.pointer (some ⟨m, 0, none⟩), .int .u8 3] w fun e w' => e = .returned (.int .i64 0) ∧ MNext w m (x) w' := by
  have c7 := h.ph
  have c8 := h.left
  have c10 := h.urg
  have H := Lib.hid (MNext.same h)
  obtain ⟨p, hpp⟩ : ∃ p, p = x.ph := ⟨_, rfl⟩
  rw [← hpp] at hp c7 h5
  have h6 : p = 0 ∨ p = 1 ∨ p = 2 ∨ p = 4 ∨ p = 5 := by omega
  clear h hpp hp h5
  cases hu : x.urg
  all_goals
    rw [hu] at c10
    clear hu
    rcases h6 with rfl | rfl | rfl | rfl | rfl
    all_goals
      go_enter Try.func13, Try.ntmps13
      go_wp2
      go_ret
      exact ⟨rfl, H.out⟩
set_option maxHeartbeats 4000000 in
set_option maxRecDepth 100000 in
theorem mact_4 (m : Nat) (x : Al) (w : World) (h : Md w m x) (hf : x.Fit) :
    Calls Try.prog 13 #[.pointer (some ⟨m, 0, none⟩), .int .u8 4] w fun e w' => e = .returned (.int .i64 0) ∧ MNext w m (x.tick) w' := by
  have c7 := h.ph
  have c8 := h.left
  have c10 := h.urg
  have f8 := h.frozen 8
  have hll := hf.left
  by_cases h0 : x.left = 0
  · rw [show x.tick = x by unfold Al.tick; rw [if_pos h0]]
    rw [h0] at c8
    have H := Lib.hid (MNext.same h)
    clear h hf hll h0
    cases hu : x.urg
    all_goals
      rw [hu] at c10
      clear hu
      go_enter Try.func13, Try.ntmps13
      go_wp2
      go_ret
      exact ⟨rfl, H.out⟩
  obtain ⟨L, hL⟩ : ∃ L, L = x.left - 1 := ⟨_, rfl⟩
  obtain ⟨l, hl⟩ : ∃ l : Int, l = (x.left : Int) := ⟨_, rfl⟩
  have hne : ¬ l = 0 := by omega
  have hgt : (0 : Int) < l := by omega
  have hw : IntKind.i64.wrap (l - 1) = (L : Int) := by rw [IntWalk.i64_in _ (by omega)]; omega
  rw [← hl] at c8
  obtain ⟨W1, hW1⟩ : ∃ W, W = w.setCell ⟨m, 8, none⟩ (.int .i64 (L : Int)) := ⟨_, rfl⟩
  have r1 : Md W1 m { x with left := L } := by rw [hW1]; exact h.set 8 (.int .i64 (L : Int))
  have x1 : Exc (fun k => k = m) w W1 := by rw [hW1]; exact exc_set m 8 _ w
  have d8 := r1.left
  have d7 := r1.ph
  dsimp only at d8 d7
  have h13 : x.ph = 1 ∨ x.ph = 2 ∨ x.ph = 3 := by have := hf.ph; have := hf.some; omega
  by_cases h1 : x.left = 1
  · rw [show x.tick = x.ends (if x.ph = 3 then 4 else 5) by unfold Al.tick; rw [if_neg h0, if_pos h1]]
    have hL0 : L = 0 := by omega
    subst hL0
    rw [show ((0 : Nat) : Int) = 0 from rfl] at hW1 hw d8
    have HE4 := Lib.hid (mend_4 m _ W1 r1)
    have HE5 := Lib.hid (mend_5 m _ W1 r1)
    have HX := Lib.hid x1
    have HW := Lib.hid hW1
    obtain ⟨p, hp⟩ : ∃ p, p = x.ph := ⟨_, rfl⟩
    rw [← hp] at c7 h13 d7 ⊢
    clear h r1 x1 hL hl hll h0 h1 hW1 hp hf
    cases hu : x.urg
    all_goals
      rw [hu] at c10
      clear hu
      rcases h13 with rfl | rfl | rfl
      · go_enter Try.func13, Try.ntmps13
        go_upto_region 22 with fail
        rw [← HW.out]
        go_wp2_with fail
        with_reducible refine HE5.out.mono ?_
        rintro e w2 ⟨rfl, h2, x2⟩
        have H2 := Lib.hid (show MNext w m (x.ends 5) w2 from ⟨h2, HX.out.trans x2 (fun _ _ h => h)⟩)
        clear h2 x2 HE4 HE5 HX HW
        go_wp2
        go_ret
        exact ⟨rfl, H2.out⟩
      · go_enter Try.func13, Try.ntmps13
        go_upto_region 22 with fail
        rw [← HW.out]
        go_wp2_with fail
        with_reducible refine HE5.out.mono ?_
        rintro e w2 ⟨rfl, h2, x2⟩
        have H2 := Lib.hid (show MNext w m (x.ends 5) w2 from ⟨h2, HX.out.trans x2 (fun _ _ h => h)⟩)
        clear h2 x2 HE4 HE5 HX HW
        go_wp2
        go_ret
        exact ⟨rfl, H2.out⟩
      · go_enter Try.func13, Try.ntmps13
        go_upto_region 22 with fail
        rw [← HW.out]
        go_wp2_with fail
        with_reducible refine HE4.out.mono ?_
        rintro e w2 ⟨rfl, h2, x2⟩
        have H2 := Lib.hid (show MNext w m (x.ends 4) w2 from ⟨h2, HX.out.trans x2 (fun _ _ h => h)⟩)
        clear h2 x2 HE4 HE5 HX HW
        go_wp2
        go_ret
        exact ⟨rfl, H2.out⟩
  · rw [show x.tick = { x with left := x.left - 1 } by unfold Al.tick; rw [if_neg h0, if_neg h1], ← hL]
    have e1 : ¬ (L : Int) = 0 := by omega
    have e2 : ((L : Int) == 0) = false := by simp; omega
    have e3 : ¬ L = 0 := by omega
    have e4 : (L == 0) = false := by simp; omega
    obtain ⟨X, hX⟩ : ∃ X : Al, X = { x with left := L } := ⟨_, rfl⟩
    rw [← hX] at r1 ⊢
    have HX := Lib.hid (show MNext w m X W1 from ⟨r1, x1⟩)
    have HW := Lib.hid hW1
    clear hX
    obtain ⟨p, hp⟩ : ∃ p, p = x.ph := ⟨_, rfl⟩
    rw [← hp] at c7 h13 d7
    clear h r1 x1 hL hl hll h0 h1 hW1 hp hf
    cases hu : x.urg
    all_goals
      rw [hu] at c10
      clear hu
      rcases h13 with rfl | rfl | rfl
      all_goals
        go_enter Try.func13, Try.ntmps13
        go_upto_region 22 with fail
        rw [← HW.out]
        clear HW
        go_wp2
        go_ret
        exact ⟨rfl, HX.out⟩
end Go.Proofs.Ytgfiikbecapodaa
