/- Statements of layer 9: an act of the model: a status is heard. -/
import Derived.Test.YtgfiikbecapodaaAlActB
namespace Go.Proofs.Ytgfiikbecapodaa
open Go.RowKit

set_option maxHeartbeats 4000000 in
set_option maxRecDepth 100000 in
theorem mact_8n (m : Nat) (x : Al) (w : World) (h : Md w m x) (hp : x.ph = 0 ∨ x.ph = 4 ∨ x.ph = 5 ∨ x.ph = 2) :
    Calls Try.prog 13 #[.pointer (some ⟨m, 0, none⟩), .int .u8 8] w fun e w' => e = .returned (.int .i64 0) ∧ MNext w m (x) w' := by
  have c7 := h.ph
  have c8 := h.left
  have c10 := h.urg
  have H := Lib.hid (MNext.same h)
  obtain ⟨p, hpp⟩ : ∃ p, p = x.ph := ⟨_, rfl⟩
  rw [← hpp] at hp c7
  clear h hpp
  cases hu : x.urg
  all_goals
    rw [hu] at c10
    clear hu
    rcases hp with rfl | rfl | rfl | rfl
    all_goals
      go_enter Try.func13, Try.ntmps13
      go_wp2
      go_ret
      exact ⟨rfl, H.out⟩
set_option maxHeartbeats 4000000 in
set_option maxRecDepth 100000 in
theorem mact_8s (m : Nat) (x : Al) (w : World) (h : Md w m x) (hp : x.ph = 1) :
    Calls Try.prog 13 #[.pointer (some ⟨m, 0, none⟩), .int .u8 8] w fun e w' => e = .returned (.int .i64 0) ∧ MNext w m ((x.mark 0).hold) w' := by
  have c7 := h.ph
  have c8 := h.left
  have c10 := h.urg
  have f10 := h.frozen 10
  obtain ⟨u, hu⟩ : ∃ u, u = (x.urg || decide (0 = 2)) := ⟨_, rfl⟩
  obtain ⟨W1, hW1⟩ : ∃ W, W = w.setCell ⟨m, 10, none⟩ (.bool u) := ⟨_, rfl⟩
  have r1 : Md W1 m (x.mark 0) := by rw [Al.mark_eq x 0 u hu.symm, hW1]; exact h.set 10 (.bool u)
  have x1 : Exc (fun k => k = m) w W1 := by rw [hW1]; exact exc_set m 10 _ w
  have HC := Lib.hid (mhold_any m _ W1 r1)
  have HX := Lib.hid x1
  rw [hp] at c7
  obtain ⟨g, hg⟩ : ∃ g, g = x.urg := ⟨_, rfl⟩
  rw [← hg] at hu c10
  clear h r1 x1 hp hg
  cases g
  all_goals
    simp only [(by decide : decide ((0 : Nat) = 2) = false), Bool.or_false] at hu
    subst hu
    have HW := Lib.hid hW1
    clear hW1
    go_enter Try.func13, Try.ntmps13
    go_wp2_with fail
    rw [← HW.out]
    with_reducible refine HC.out.mono ?_
    rintro e w2 ⟨rfl, h2, x2⟩
    have H2 := Lib.hid (show MNext w m ((x.mark 0).hold) w2 from ⟨h2, HX.out.trans x2 (fun _ _ h => h)⟩)
    clear h2 x2 HC HX HW
    go_wp2
    go_ret
    exact ⟨rfl, H2.out⟩
set_option maxHeartbeats 4000000 in
set_option maxRecDepth 100000 in
theorem mact_8h (m : Nat) (x : Al) (w : World) (h : Md w m x) (hp : x.ph = 3) :
    Calls Try.prog 13 #[.pointer (some ⟨m, 0, none⟩), .int .u8 8] w fun e w' => e = .returned (.int .i64 0) ∧ MNext w m (x.hold) w' := by
  have c7 := h.ph
  have c8 := h.left
  have c10 := h.urg
  have HC := Lib.hid (mhold_any m x w h)
  obtain ⟨p, hpp⟩ : ∃ p, p = x.ph := ⟨_, rfl⟩
  rw [← hpp] at hp c7
  clear h hpp
  cases hu : x.urg
  all_goals
    rw [hu] at c10
    clear hu
    subst hp
    all_goals
      go_enter Try.func13, Try.ntmps13
      go_wp2_with fail
      with_reducible refine HC.out.mono ?_
      rintro e w2 ⟨rfl, h2, x2⟩
      have H2 := Lib.hid (show MNext w m (x.hold) w2 from ⟨h2, x2⟩)
      clear h2 x2 HC
      go_wp2
      go_ret
      exact ⟨rfl, H2.out⟩
set_option maxHeartbeats 4000000 in
set_option maxRecDepth 100000 in
theorem mact_9n (m : Nat) (x : Al) (w : World) (h : Md w m x) (hp : x.ph = 0 ∨ x.ph = 4 ∨ x.ph = 5 ∨ x.ph = 3) :
    Calls Try.prog 13 #[.pointer (some ⟨m, 0, none⟩), .int .u8 9] w fun e w' => e = .returned (.int .i64 0) ∧ MNext w m (x) w' := by
  have c7 := h.ph
  have c8 := h.left
  have c10 := h.urg
  have H := Lib.hid (MNext.same h)
  obtain ⟨p, hpp⟩ : ∃ p, p = x.ph := ⟨_, rfl⟩
  rw [← hpp] at hp c7
  clear h hpp
  cases hu : x.urg
  all_goals
    rw [hu] at c10
    clear hu
    rcases hp with rfl | rfl | rfl | rfl
    all_goals
      go_enter Try.func13, Try.ntmps13
      go_wp2
      go_ret
      exact ⟨rfl, H.out⟩
set_option maxHeartbeats 4000000 in
set_option maxRecDepth 100000 in
theorem mact_9s (m : Nat) (x : Al) (w : World) (h : Md w m x) (hp : x.ph = 1) :
    Calls Try.prog 13 #[.pointer (some ⟨m, 0, none⟩), .int .u8 9] w fun e w' => e = .returned (.int .i64 0) ∧ MNext w m ((x.mark 1).hold) w' := by
  have c7 := h.ph
  have c8 := h.left
  have c10 := h.urg
  have f10 := h.frozen 10
  obtain ⟨u, hu⟩ : ∃ u, u = (x.urg || decide (1 = 2)) := ⟨_, rfl⟩
  obtain ⟨W1, hW1⟩ : ∃ W, W = w.setCell ⟨m, 10, none⟩ (.bool u) := ⟨_, rfl⟩
  have r1 : Md W1 m (x.mark 1) := by rw [Al.mark_eq x 1 u hu.symm, hW1]; exact h.set 10 (.bool u)
  have x1 : Exc (fun k => k = m) w W1 := by rw [hW1]; exact exc_set m 10 _ w
  have HC := Lib.hid (mhold_any m _ W1 r1)
  have HX := Lib.hid x1
  rw [hp] at c7
  obtain ⟨g, hg⟩ : ∃ g, g = x.urg := ⟨_, rfl⟩
  rw [← hg] at hu c10
  clear h r1 x1 hp hg
  cases g
  all_goals
    simp only [(by decide : decide ((1 : Nat) = 2) = false), Bool.or_false] at hu
    subst hu
    have HW := Lib.hid hW1
    clear hW1
    go_enter Try.func13, Try.ntmps13
    go_wp2_with fail
    rw [← HW.out]
    with_reducible refine HC.out.mono ?_
    rintro e w2 ⟨rfl, h2, x2⟩
    have H2 := Lib.hid (show MNext w m ((x.mark 1).hold) w2 from ⟨h2, HX.out.trans x2 (fun _ _ h => h)⟩)
    clear h2 x2 HC HX HW
    go_wp2
    go_ret
    exact ⟨rfl, H2.out⟩
set_option maxHeartbeats 4000000 in
set_option maxRecDepth 100000 in
theorem mact_9a (m : Nat) (x : Al) (w : World) (h : Md w m x) (hp : x.ph = 2) (hpr : x.prov ≤ 1000000) :
    Calls Try.prog 13 #[.pointer (some ⟨m, 0, none⟩), .int .u8 9] w fun e w' => e = .returned (.int .i64 0) ∧ MNext w m ((x.mark 1).prove) w' := by
  have c7 := h.ph
  have c8 := h.left
  have c10 := h.urg
  have f10 := h.frozen 10
  obtain ⟨u, hu⟩ : ∃ u, u = (x.urg || decide (1 = 2)) := ⟨_, rfl⟩
  obtain ⟨W1, hW1⟩ : ∃ W, W = w.setCell ⟨m, 10, none⟩ (.bool u) := ⟨_, rfl⟩
  have r1 : Md W1 m (x.mark 1) := by rw [Al.mark_eq x 1 u hu.symm, hW1]; exact h.set 10 (.bool u)
  have x1 : Exc (fun k => k = m) w W1 := by rw [hW1]; exact exc_set m 10 _ w
  have HC := Lib.hid (mprove_any m _ W1 r1 hpr)
  have HX := Lib.hid x1
  rw [hp] at c7
  obtain ⟨g, hg⟩ : ∃ g, g = x.urg := ⟨_, rfl⟩
  rw [← hg] at hu c10
  clear h r1 x1 hp hg hpr
  cases g
  all_goals
    simp only [(by decide : decide ((1 : Nat) = 2) = false), Bool.or_false] at hu
    subst hu
    have HW := Lib.hid hW1
    clear hW1
    go_enter Try.func13, Try.ntmps13
    go_wp2_with fail
    rw [← HW.out]
    with_reducible refine HC.out.mono ?_
    rintro e w2 ⟨rfl, h2, x2⟩
    have H2 := Lib.hid (show MNext w m ((x.mark 1).prove) w2 from ⟨h2, HX.out.trans x2 (fun _ _ h => h)⟩)
    clear h2 x2 HC HX HW
    go_wp2
    go_ret
    exact ⟨rfl, H2.out⟩
set_option maxHeartbeats 4000000 in
set_option maxRecDepth 100000 in
theorem mact_10n (m : Nat) (x : Al) (w : World) (h : Md w m x) (hp : x.ph = 0 ∨ x.ph = 4 ∨ x.ph = 5) :
    Calls Try.prog 13 #[.pointer (some ⟨m, 0, none⟩), .int .u8 10] w fun e w' => e = .returned (.int .i64 0) ∧ MNext w m (x) w' := by
  have c7 := h.ph
  have c8 := h.left
  have c10 := h.urg
  have H := Lib.hid (MNext.same h)
  obtain ⟨p, hpp⟩ : ∃ p, p = x.ph := ⟨_, rfl⟩
  rw [← hpp] at hp c7
  clear h hpp
  cases hu : x.urg
  all_goals
    rw [hu] at c10
    clear hu
    rcases hp with rfl | rfl | rfl
    all_goals
      go_enter Try.func13, Try.ntmps13
      go_wp2
      go_ret
      exact ⟨rfl, H.out⟩
set_option maxHeartbeats 4000000 in
set_option maxRecDepth 100000 in
theorem mact_10s (m : Nat) (x : Al) (w : World) (h : Md w m x) (hp : x.ph = 1) :
    Calls Try.prog 13 #[.pointer (some ⟨m, 0, none⟩), .int .u8 10] w fun e w' => e = .returned (.int .i64 0) ∧ MNext w m ((x.mark 2).hold) w' := by
  have c7 := h.ph
  have c8 := h.left
  have c10 := h.urg
  have f10 := h.frozen 10
  obtain ⟨u, hu⟩ : ∃ u, u = (x.urg || decide (2 = 2)) := ⟨_, rfl⟩
  obtain ⟨W1, hW1⟩ : ∃ W, W = w.setCell ⟨m, 10, none⟩ (.bool u) := ⟨_, rfl⟩
  have r1 : Md W1 m (x.mark 2) := by rw [Al.mark_eq x 2 u hu.symm, hW1]; exact h.set 10 (.bool u)
  have x1 : Exc (fun k => k = m) w W1 := by rw [hW1]; exact exc_set m 10 _ w
  have HC := Lib.hid (mhold_any m _ W1 r1)
  have HX := Lib.hid x1
  rw [hp] at c7
  obtain ⟨g, hg⟩ : ∃ g, g = x.urg := ⟨_, rfl⟩
  rw [← hg] at hu c10
  clear h r1 x1 hp hg
  cases g
  all_goals
    simp only [decide_true, Bool.or_true] at hu
    subst hu
    have HW := Lib.hid hW1
    clear hW1
    go_enter Try.func13, Try.ntmps13
    go_wp2_with fail
    rw [← HW.out]
    with_reducible refine HC.out.mono ?_
    rintro e w2 ⟨rfl, h2, x2⟩
    have H2 := Lib.hid (show MNext w m ((x.mark 2).hold) w2 from ⟨h2, HX.out.trans x2 (fun _ _ h => h)⟩)
    clear h2 x2 HC HX HW
    go_wp2
    go_ret
    exact ⟨rfl, H2.out⟩
set_option maxHeartbeats 4000000 in
set_option maxRecDepth 100000 in
theorem mact_10a (m : Nat) (x : Al) (w : World) (h : Md w m x) (hp : x.ph = 2) (hpr : x.prov ≤ 1000000) :
    Calls Try.prog 13 #[.pointer (some ⟨m, 0, none⟩), .int .u8 10] w fun e w' => e = .returned (.int .i64 0) ∧ MNext w m ((x.mark 2).prove) w' := by
  have c7 := h.ph
  have c8 := h.left
  have c10 := h.urg
  have f10 := h.frozen 10
  obtain ⟨u, hu⟩ : ∃ u, u = (x.urg || decide (2 = 2)) := ⟨_, rfl⟩
  obtain ⟨W1, hW1⟩ : ∃ W, W = w.setCell ⟨m, 10, none⟩ (.bool u) := ⟨_, rfl⟩
  have r1 : Md W1 m (x.mark 2) := by rw [Al.mark_eq x 2 u hu.symm, hW1]; exact h.set 10 (.bool u)
  have x1 : Exc (fun k => k = m) w W1 := by rw [hW1]; exact exc_set m 10 _ w
  have HC := Lib.hid (mprove_any m _ W1 r1 hpr)
  have HX := Lib.hid x1
  rw [hp] at c7
  obtain ⟨g, hg⟩ : ∃ g, g = x.urg := ⟨_, rfl⟩
  rw [← hg] at hu c10
  clear h r1 x1 hp hg hpr
  cases g
  all_goals
    simp only [decide_true, Bool.or_true] at hu
    subst hu
    have HW := Lib.hid hW1
    clear hW1
    go_enter Try.func13, Try.ntmps13
    go_wp2_with fail
    rw [← HW.out]
    with_reducible refine HC.out.mono ?_
    rintro e w2 ⟨rfl, h2, x2⟩
    have H2 := Lib.hid (show MNext w m ((x.mark 2).prove) w2 from ⟨h2, HX.out.trans x2 (fun _ _ h => h)⟩)
    clear h2 x2 HC HX HW
    go_wp2
    go_ret
    exact ⟨rfl, H2.out⟩
set_option maxHeartbeats 4000000 in
set_option maxRecDepth 100000 in
theorem mact_10p (m : Nat) (x : Al) (w : World) (h : Md w m x) (hp : x.ph = 3) (hu : x.urg = false) (hpr : x.prov ≤ 1000000) :
    Calls Try.prog 13 #[.pointer (some ⟨m, 0, none⟩), .int .u8 10] w fun e w' => e = .returned (.int .i64 0) ∧ MNext w m ((x.mark 2).prove) w' := by
  have c7 := h.ph
  have c8 := h.left
  have c10 := h.urg
  have f10 := h.frozen 10
  obtain ⟨W1, hW1⟩ : ∃ W, W = w.setCell ⟨m, 10, none⟩ (.bool true) := ⟨_, rfl⟩
  have r1 : Md W1 m (x.mark 2) := by rw [Al.mark_eq x 2 true (by simp), hW1]; exact h.set 10 (.bool true)
  have x1 : Exc (fun k => k = m) w W1 := by rw [hW1]; exact exc_set m 10 _ w
  have HC := Lib.hid (mprove_any m _ W1 r1 hpr)
  have HX := Lib.hid x1
  have HW := Lib.hid hW1
  rw [hp] at c7
  rw [hu] at c10
  clear h r1 x1 hp hu hpr hW1
  go_enter Try.func13, Try.ntmps13
  go_wp2_with fail
  rw [← HW.out]
  with_reducible refine HC.out.mono ?_
  rintro e w2 ⟨rfl, h2, x2⟩
  have H2 := Lib.hid (show MNext w m ((x.mark 2).prove) w2 from ⟨h2, HX.out.trans x2 (fun _ _ h => h)⟩)
  clear h2 x2 HC HX HW
  go_wp2
  go_ret
  exact ⟨rfl, H2.out⟩
set_option maxHeartbeats 4000000 in
set_option maxRecDepth 100000 in
theorem mact_10q (m : Nat) (x : Al) (w : World) (h : Md w m x) (hp : x.ph = 3) (hu : x.urg = true) :
    Calls Try.prog 13 #[.pointer (some ⟨m, 0, none⟩), .int .u8 10] w fun e w' => e = .returned (.int .i64 0) ∧ MNext w m (x) w' := by
  have c7 := h.ph
  have c8 := h.left
  have c10 := h.urg
  have H := Lib.hid (MNext.same h)
  rw [hp] at c7
  rw [hu] at c10
  clear h hp hu
  go_enter Try.func13, Try.ntmps13
  go_wp2
  go_ret
  exact ⟨rfl, H.out⟩
set_option maxHeartbeats 4000000 in
set_option maxRecDepth 100000 in
theorem mact_11n (m : Nat) (x : Al) (w : World) (h : Md w m x) (hp : x.ph = 0 ∨ x.ph = 4 ∨ x.ph = 5 ∨ x.ph = 1) :
    Calls Try.prog 13 #[.pointer (some ⟨m, 0, none⟩), .int .u8 11] w fun e w' => e = .returned (.int .i64 0) ∧ MNext w m (x) w' := by
  have c7 := h.ph
  have c8 := h.left
  have c10 := h.urg
  have H := Lib.hid (MNext.same h)
  obtain ⟨p, hpp⟩ : ∃ p, p = x.ph := ⟨_, rfl⟩
  rw [← hpp] at hp c7
  clear h hpp
  cases hu : x.urg
  all_goals
    rw [hu] at c10
    clear hu
    rcases hp with rfl | rfl | rfl | rfl
    all_goals
      go_enter Try.func13, Try.ntmps13
      go_wp2
      go_ret
      exact ⟨rfl, H.out⟩
set_option maxHeartbeats 4000000 in
set_option maxRecDepth 100000 in
theorem mact_11e (m : Nat) (x : Al) (w : World) (h : Md w m x) (hp : x.ph = 2 ∨ x.ph = 3) :
    Calls Try.prog 13 #[.pointer (some ⟨m, 0, none⟩), .int .u8 11] w fun e w' => e = .returned (.int .i64 0) ∧ MNext w m (x.ends 5) w' := by
  have c7 := h.ph
  have c8 := h.left
  have c10 := h.urg
  have HC := Lib.hid (mend_5 m x w h)
  obtain ⟨p, hpp⟩ : ∃ p, p = x.ph := ⟨_, rfl⟩
  rw [← hpp] at hp c7
  clear h hpp
  cases hu : x.urg
  all_goals
    rw [hu] at c10
    clear hu
    rcases hp with rfl | rfl
    all_goals
      go_enter Try.func13, Try.ntmps13
      go_wp2_with fail
      with_reducible refine HC.out.mono ?_
      rintro e w2 ⟨rfl, h2, x2⟩
      have H2 := Lib.hid (show MNext w m (x.ends 5) w2 from ⟨h2, x2⟩)
      clear h2 x2 HC
      go_wp2
      go_ret
      exact ⟨rfl, H2.out⟩
set_option maxHeartbeats 4000000 in
set_option maxRecDepth 100000 in
theorem mact_12n (m : Nat) (x : Al) (w : World) (h : Md w m x) (hp : x.ph = 0 ∨ x.ph = 4 ∨ x.ph = 5 ∨ x.ph = 1 ∨ x.ph = 3) :
    Calls Try.prog 13 #[.pointer (some ⟨m, 0, none⟩), .int .u8 12] w fun e w' => e = .returned (.int .i64 0) ∧ MNext w m (x) w' := by
  have c7 := h.ph
  have c8 := h.left
  have c10 := h.urg
  have H := Lib.hid (MNext.same h)
  obtain ⟨p, hpp⟩ : ∃ p, p = x.ph := ⟨_, rfl⟩
  rw [← hpp] at hp c7
  clear h hpp
  cases hu : x.urg
  all_goals
    rw [hu] at c10
    clear hu
    rcases hp with rfl | rfl | rfl | rfl | rfl
    all_goals
      go_enter Try.func13, Try.ntmps13
      go_wp2
      go_ret
      exact ⟨rfl, H.out⟩
set_option maxHeartbeats 4000000 in
set_option maxRecDepth 100000 in
theorem mact_12a (m : Nat) (x : Al) (w : World) (h : Md w m x) (hp : x.ph = 2) (hpr : x.prov ≤ 1000000) :
    Calls Try.prog 13 #[.pointer (some ⟨m, 0, none⟩), .int .u8 12] w fun e w' => e = .returned (.int .i64 0) ∧ MNext w m ((x.mark 4).prove) w' := by
  have c7 := h.ph
  have c8 := h.left
  have c10 := h.urg
  have f10 := h.frozen 10
  obtain ⟨u, hu⟩ : ∃ u, u = (x.urg || decide (4 = 2)) := ⟨_, rfl⟩
  obtain ⟨W1, hW1⟩ : ∃ W, W = w.setCell ⟨m, 10, none⟩ (.bool u) := ⟨_, rfl⟩
  have r1 : Md W1 m (x.mark 4) := by rw [Al.mark_eq x 4 u hu.symm, hW1]; exact h.set 10 (.bool u)
  have x1 : Exc (fun k => k = m) w W1 := by rw [hW1]; exact exc_set m 10 _ w
  have HC := Lib.hid (mprove_any m _ W1 r1 hpr)
  have HX := Lib.hid x1
  rw [hp] at c7
  obtain ⟨g, hg⟩ : ∃ g, g = x.urg := ⟨_, rfl⟩
  rw [← hg] at hu c10
  clear h r1 x1 hp hg hpr
  cases g
  all_goals
    simp only [(by decide : decide ((4 : Nat) = 2) = false), Bool.or_false] at hu
    subst hu
    have HW := Lib.hid hW1
    clear hW1
    go_enter Try.func13, Try.ntmps13
    go_wp2_with fail
    rw [← HW.out]
    with_reducible refine HC.out.mono ?_
    rintro e w2 ⟨rfl, h2, x2⟩
    have H2 := Lib.hid (show MNext w m ((x.mark 4).prove) w2 from ⟨h2, HX.out.trans x2 (fun _ _ h => h)⟩)
    clear h2 x2 HC HX HW
    go_wp2
    go_ret
    exact ⟨rfl, H2.out⟩
set_option maxHeartbeats 4000000 in
set_option maxRecDepth 100000 in
theorem mact_13n (m : Nat) (x : Al) (w : World) (h : Md w m x) (hp : x.ph = 0 ∨ x.ph = 4 ∨ x.ph = 5 ∨ x.ph = 1 ∨ x.ph = 3) :
    Calls Try.prog 13 #[.pointer (some ⟨m, 0, none⟩), .int .u8 13] w fun e w' => e = .returned (.int .i64 0) ∧ MNext w m (x) w' := by
  have c7 := h.ph
  have c8 := h.left
  have c10 := h.urg
  have H := Lib.hid (MNext.same h)
  obtain ⟨p, hpp⟩ : ∃ p, p = x.ph := ⟨_, rfl⟩
  rw [← hpp] at hp c7
  clear h hpp
  cases hu : x.urg
  all_goals
    rw [hu] at c10
    clear hu
    rcases hp with rfl | rfl | rfl | rfl | rfl
    all_goals
      go_enter Try.func13, Try.ntmps13
      go_wp2
      go_ret
      exact ⟨rfl, H.out⟩
set_option maxHeartbeats 4000000 in
set_option maxRecDepth 100000 in
theorem mact_13a (m : Nat) (x : Al) (w : World) (h : Md w m x) (hp : x.ph = 2) (hpr : x.prov ≤ 1000000) :
    Calls Try.prog 13 #[.pointer (some ⟨m, 0, none⟩), .int .u8 13] w fun e w' => e = .returned (.int .i64 0) ∧ MNext w m ((x.mark 5).prove) w' := by
  have c7 := h.ph
  have c8 := h.left
  have c10 := h.urg
  have f10 := h.frozen 10
  obtain ⟨u, hu⟩ : ∃ u, u = (x.urg || decide (5 = 2)) := ⟨_, rfl⟩
  obtain ⟨W1, hW1⟩ : ∃ W, W = w.setCell ⟨m, 10, none⟩ (.bool u) := ⟨_, rfl⟩
  have r1 : Md W1 m (x.mark 5) := by rw [Al.mark_eq x 5 u hu.symm, hW1]; exact h.set 10 (.bool u)
  have x1 : Exc (fun k => k = m) w W1 := by rw [hW1]; exact exc_set m 10 _ w
  have HC := Lib.hid (mprove_any m _ W1 r1 hpr)
  have HX := Lib.hid x1
  rw [hp] at c7
  obtain ⟨g, hg⟩ : ∃ g, g = x.urg := ⟨_, rfl⟩
  rw [← hg] at hu c10
  clear h r1 x1 hp hg hpr
  cases g
  all_goals
    simp only [(by decide : decide ((5 : Nat) = 2) = false), Bool.or_false] at hu
    subst hu
    have HW := Lib.hid hW1
    clear hW1
    go_enter Try.func13, Try.ntmps13
    go_wp2_with fail
    rw [← HW.out]
    with_reducible refine HC.out.mono ?_
    rintro e w2 ⟨rfl, h2, x2⟩
    have H2 := Lib.hid (show MNext w m ((x.mark 5).prove) w2 from ⟨h2, HX.out.trans x2 (fun _ _ h => h)⟩)
    clear h2 x2 HC HX HW
    go_wp2
    go_ret
    exact ⟨rfl, H2.out⟩
end Go.Proofs.Ytgfiikbecapodaa
