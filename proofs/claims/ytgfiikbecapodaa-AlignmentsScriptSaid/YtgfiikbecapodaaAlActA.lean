/- Statements of layer 9: every act of the model. -/
import Derived.Test.YtgfiikbecapodaaAlAct
import Derived.Test.YtgfiikbecapodaaAlActW
import Derived.Test.YtgfiikbecapodaaAlHeard
namespace Go.Proofs.Ytgfiikbecapodaa
open Go.RowKit

set_option maxHeartbeats 1000000 in
set_option maxRecDepth 100000 in
theorem mact_far (m a : Nat) (x : Al) (w : World) (h : Md w m x) (h14 : 14 ≤ a) (ha : a ≤ 255) :
    Calls Try.prog 13 #[.pointer (some ⟨m, 0, none⟩), .int .u8 (a : Int)] w fun e w' => e = .returned (.int .i64 1) ∧ MNext w m x w' := by
  have c7 := h.ph
  have c8 := h.left
  have c10 := h.urg
  have H := Lib.hid (MNext.same h)
  obtain ⟨s, hs⟩ : ∃ s : Int, s = (a : Int) - 8 := ⟨_, rfl⟩
  have hw : IntKind.u8.wrap ((a : Int) - 8) = s := by rw [IntWalk.u8_in _ (by omega)]; omega
  obtain ⟨A, hA⟩ : ∃ A : Int, A = (a : Int) := ⟨_, rfl⟩
  rw [← hA] at hw ⊢
  have q2 : ¬ A < 2 := by omega
  have q3 : ¬ A = 2 := by omega
  have q4 : ¬ A = 3 := by omega
  have q5 : ¬ A = 4 := by omega
  have q6 : ¬ A < 8 := by omega
  have r3 : (A == 2) = false := by simp; omega
  have r4 : (A == 3) = false := by simp; omega
  have r5 : (A == 4) = false := by simp; omega
  have s1 : ¬ s = 2 := by omega
  have s2 : (s == 2) = false := by simp; omega
  have s3 : (5 : Int) < s := by omega
  obtain ⟨p, hpp⟩ : ∃ p : Int, p = (x.ph : Int) := ⟨_, rfl⟩
  rw [← hpp] at c7
  clear h h14 ha hs hA hpp
  cases hu : x.urg
  all_goals
    rw [hu] at c10
    clear hu
    go_enter Try.func13, Try.ntmps13
    go_wp2
    go_ret
    exact ⟨rfl, H.out⟩
/-- Every act of the model that the law performs. -/
theorem mact_any (m a : Nat) (x : Al) (w : World) (h : Md w m x) (hf : x.Fit) (hpr : x.prov ≤ 1000000) (ha : a ≤ 4 ∨ 8 ≤ a) (ha2 : a ≤ 255) :
    Calls Try.prog 13 #[.pointer (some ⟨m, 0, none⟩), .int .u8 (a : Int)] w fun e w' => e = .returned (.int .i64 (x.err a : Int)) ∧ MNext w m (x.act a) w' := by
  have h5 := hf.ph
  by_cases h14 : 14 ≤ a
  · rw [show x.err a = 1 by unfold Al.err; rw [if_neg (by omega), if_neg (by omega), if_pos (by omega)], show x.act a = x by unfold Al.act; rw [if_neg (by omega), if_neg (by omega), if_neg (by omega), if_neg (by omega), if_pos (by omega)]]
    exact mact_far m a x w h h14 ha2
  have hc : a = 0 ∨ a = 1 ∨ a = 2 ∨ a = 3 ∨ a = 4 ∨ a = 8 ∨ a = 9 ∨ a = 10 ∨ a = 11 ∨ a = 12 ∨ a = 13 := by omega
  clear ha ha2 h14
  rcases hc with rfl | rfl | rfl | rfl | rfl | rfl | rfl | rfl | rfl | rfl | rfl
  · by_cases hp : x.ph = 0 ∨ x.ph = 5
    · rw [show x.err 0 = 0 by unfold Al.err; rw [if_pos (by decide), if_pos hp], show x.act 0 = x.start false by unfold Al.act Al.begin; rw [if_pos (by decide), if_pos hp]; rfl]
      exact mact_0 m x w h hp
    · rw [show x.err 0 = 6 by unfold Al.err; rw [if_pos (by decide), if_neg hp], show x.act 0 = x by unfold Al.act Al.begin; rw [if_pos (by decide), if_neg hp]]
      exact mact_0n m x w h ⟨fun e => hp (.inl e), fun e => hp (.inr e)⟩ h5
  · by_cases hp : x.ph = 0 ∨ x.ph = 5
    · rw [show x.err 1 = 0 by unfold Al.err; rw [if_pos (by decide), if_pos hp], show x.act 1 = x.start true by unfold Al.act Al.begin; rw [if_pos (by decide), if_pos hp]; rfl]
      exact mact_1 m x w h hp
    · rw [show x.err 1 = 6 by unfold Al.err; rw [if_pos (by decide), if_neg hp], show x.act 1 = x by unfold Al.act Al.begin; rw [if_pos (by decide), if_neg hp]]
      exact mact_1n m x w h ⟨fun e => hp (.inl e), fun e => hp (.inr e)⟩ h5
  · exact mact_2 m x w h
  · rw [show x.err 3 = 0 from rfl, show x.act 3 = x.wrong from rfl]
    by_cases hp : x.ph = 3
    · exact mact_3 m x w h hp hf hpr
    · rw [show x.wrong = x by unfold Al.wrong; rw [if_neg hp]]
      exact mact_3n m x w h hp h5
  · exact mact_4 m x w h hf
  · rw [show x.err 8 = 0 from rfl, show x.act 8 = x.hear 0 from rfl]
    have h6 : x.ph = 0 ∨ x.ph = 1 ∨ x.ph = 2 ∨ x.ph = 3 ∨ x.ph = 4 ∨ x.ph = 5 := by omega
    rcases h6 with hp | hp | hp | hp | hp | hp
    · rw [show x.hear 0 = x by unfold Al.hear; simp [hp]]
      exact mact_8n m x w h (by omega)
    · rw [show x.hear 0 = (x.mark 0).hold by unfold Al.hear; simp [hp]]
      exact mact_8s m x w h hp
    · rw [show x.hear 0 = x by unfold Al.hear; simp [hp]]
      exact mact_8n m x w h (by omega)
    · rw [show x.hear 0 = x.hold by unfold Al.hear; simp [hp]]
      exact mact_8h m x w h hp
    · rw [show x.hear 0 = x by unfold Al.hear; simp [hp]]
      exact mact_8n m x w h (by omega)
    · rw [show x.hear 0 = x by unfold Al.hear; simp [hp]]
      exact mact_8n m x w h (by omega)
  · rw [show x.err 9 = 0 from rfl, show x.act 9 = x.hear 1 from rfl]
    have h6 : x.ph = 0 ∨ x.ph = 1 ∨ x.ph = 2 ∨ x.ph = 3 ∨ x.ph = 4 ∨ x.ph = 5 := by omega
    rcases h6 with hp | hp | hp | hp | hp | hp
    · rw [show x.hear 1 = x by unfold Al.hear; simp [hp]]
      exact mact_9n m x w h (by omega)
    · rw [show x.hear 1 = (x.mark 1).hold by unfold Al.hear; simp [hp]]
      exact mact_9s m x w h hp
    · rw [show x.hear 1 = (x.mark 1).prove by unfold Al.hear; simp [hp]]
      exact mact_9a m x w h hp hpr
    · rw [show x.hear 1 = x by unfold Al.hear; simp [hp]]
      exact mact_9n m x w h (by omega)
    · rw [show x.hear 1 = x by unfold Al.hear; simp [hp]]
      exact mact_9n m x w h (by omega)
    · rw [show x.hear 1 = x by unfold Al.hear; simp [hp]]
      exact mact_9n m x w h (by omega)
  · rw [show x.err 10 = 0 from rfl, show x.act 10 = x.hear 2 from rfl]
    have h6 : x.ph = 0 ∨ x.ph = 1 ∨ x.ph = 2 ∨ x.ph = 3 ∨ x.ph = 4 ∨ x.ph = 5 := by omega
    rcases h6 with hp | hp | hp | hp | hp | hp
    · rw [show x.hear 2 = x by unfold Al.hear; simp [hp]]
      exact mact_10n m x w h (by omega)
    · rw [show x.hear 2 = (x.mark 2).hold by unfold Al.hear; simp [hp]]
      exact mact_10s m x w h hp
    · rw [show x.hear 2 = (x.mark 2).prove by unfold Al.hear; simp [hp]]
      exact mact_10a m x w h hp hpr
    · cases hu : x.urg
      · rw [show x.hear 2 = (x.mark 2).prove by unfold Al.hear; simp [hp, hu]]
        exact mact_10p m x w h hp hu hpr
      · rw [show x.hear 2 = x by unfold Al.hear; simp [hp, hu]]
        exact mact_10q m x w h hp hu
    · rw [show x.hear 2 = x by unfold Al.hear; simp [hp]]
      exact mact_10n m x w h (by omega)
    · rw [show x.hear 2 = x by unfold Al.hear; simp [hp]]
      exact mact_10n m x w h (by omega)
  · rw [show x.err 11 = 0 from rfl, show x.act 11 = x.hear 3 from rfl]
    have h6 : x.ph = 0 ∨ x.ph = 1 ∨ x.ph = 2 ∨ x.ph = 3 ∨ x.ph = 4 ∨ x.ph = 5 := by omega
    rcases h6 with hp | hp | hp | hp | hp | hp
    · rw [show x.hear 3 = x by unfold Al.hear; simp [hp]]
      exact mact_11n m x w h (by omega)
    · rw [show x.hear 3 = x by unfold Al.hear; simp [hp]]
      exact mact_11n m x w h (by omega)
    · rw [show x.hear 3 = x.ends 5 by unfold Al.hear; simp [hp]]
      exact mact_11e m x w h (by omega)
    · rw [show x.hear 3 = x.ends 5 by unfold Al.hear; simp [hp]]
      exact mact_11e m x w h (by omega)
    · rw [show x.hear 3 = x by unfold Al.hear; simp [hp]]
      exact mact_11n m x w h (by omega)
    · rw [show x.hear 3 = x by unfold Al.hear; simp [hp]]
      exact mact_11n m x w h (by omega)
  · rw [show x.err 12 = 0 from rfl, show x.act 12 = x.hear 4 from rfl]
    have h6 : x.ph = 0 ∨ x.ph = 1 ∨ x.ph = 2 ∨ x.ph = 3 ∨ x.ph = 4 ∨ x.ph = 5 := by omega
    rcases h6 with hp | hp | hp | hp | hp | hp
    · rw [show x.hear 4 = x by unfold Al.hear; simp [hp]]
      exact mact_12n m x w h (by omega)
    · rw [show x.hear 4 = x by unfold Al.hear; simp [hp]]
      exact mact_12n m x w h (by omega)
    · rw [show x.hear 4 = (x.mark 4).prove by unfold Al.hear; simp [hp]]
      exact mact_12a m x w h hp hpr
    · rw [show x.hear 4 = x by unfold Al.hear; simp [hp]]
      exact mact_12n m x w h (by omega)
    · rw [show x.hear 4 = x by unfold Al.hear; simp [hp]]
      exact mact_12n m x w h (by omega)
    · rw [show x.hear 4 = x by unfold Al.hear; simp [hp]]
      exact mact_12n m x w h (by omega)
  · rw [show x.err 13 = 0 from rfl, show x.act 13 = x.hear 5 from rfl]
    have h6 : x.ph = 0 ∨ x.ph = 1 ∨ x.ph = 2 ∨ x.ph = 3 ∨ x.ph = 4 ∨ x.ph = 5 := by omega
    rcases h6 with hp | hp | hp | hp | hp | hp
    · rw [show x.hear 5 = x by unfold Al.hear; simp [hp]]
      exact mact_13n m x w h (by omega)
    · rw [show x.hear 5 = x by unfold Al.hear; simp [hp]]
      exact mact_13n m x w h (by omega)
    · rw [show x.hear 5 = (x.mark 5).prove by unfold Al.hear; simp [hp]]
      exact mact_13a m x w h hp hpr
    · rw [show x.hear 5 = x by unfold Al.hear; simp [hp]]
      exact mact_13n m x w h (by omega)
    · rw [show x.hear 5 = x by unfold Al.hear; simp [hp]]
      exact mact_13n m x w h (by omega)
    · rw [show x.hear 5 = x by unfold Al.hear; simp [hp]]
      exact mact_13n m x w h (by omega)
end Go.Proofs.Ytgfiikbecapodaa
