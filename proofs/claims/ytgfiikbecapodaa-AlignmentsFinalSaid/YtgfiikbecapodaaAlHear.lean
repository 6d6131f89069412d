/- Alignments: Hear. -/
import Derived.Test.YtgfiikbecapodaaAlStart
namespace Go.Proofs.Ytgfiikbecapodaa
open Go.RowKit

theorem Al.mark_eq (x : Al) (s : Nat) (u : Bool) (h : (x.urg || decide (s = 2)) = u) : x.mark s = { x with urg := u } := by unfold Al.mark; rw [h]
set_option maxHeartbeats 1000000 in
set_option maxRecDepth 100000 in
theorem hearSeeking_any (b s : Nat) (x : Al) (v : Value) (w : World) (h : Raw w b x v) (hp : x.ph = 1) (hs : s ≤ 5) :
    Calls Try.prog 35 #[.pointer (some ⟨b, 0, none⟩), .int .u8 (s : Int)] w fun e w' => e = .returned (.tuple #[]) ∧ Raw w' b (x.hear s) v ∧ Exc (fun k => k = b) w w' := by
  have e : x.hear s = if s ≤ 2 then (x.mark s).hold else x := by unfold Al.hear; rw [if_pos hp]
  rw [e]
  clear e
  by_cases h2 : s ≤ 2
  · rw [if_pos h2]
    have c10 := h.urg
    have f10 := h.frozen 10
    obtain ⟨u, hu⟩ : ∃ u, u = (x.urg || decide (s = 2)) := ⟨_, rfl⟩
    obtain ⟨W1, hW1⟩ : ∃ W, W = w.setCell ⟨b, 10, none⟩ (.bool u) := ⟨_, rfl⟩
    have r1 : Raw W1 b (x.mark s) v := by rw [Al.mark_eq x s u hu.symm, hW1]; exact h.set 10 (.bool u)
    have x1 : Exc (fun k => k = b) w W1 := by rw [hW1]; exact exc_set b 10 _ w
    have hc := enter_hold b (x.mark s) v W1 r1
    have HC := Lib.hid hc
    have HX := Lib.hid x1
    obtain ⟨g, hg⟩ : ∃ g, g = x.urg := ⟨_, rfl⟩
    rw [← hg] at hu c10
    clear h hp hs hc x1 r1 hg
    have h3 : s = 0 ∨ s = 1 ∨ s = 2 := by omega
    clear h2
    rcases h3 with rfl | rfl | rfl <;> cases g
    all_goals
      simp only [Bool.or_true, Bool.or_false, decide_true, (by decide : decide ((0 : Nat) = 2) = false), (by decide : decide ((1 : Nat) = 2) = false)] at hu
      subst hu
      have HW := Lib.hid hW1
      clear hW1
      go_enter Try.func35, Try.ntmps35
      go_wp2_with fail
      rw [← HW.out]
      with_reducible refine HC.out.mono ?_
      rintro e w2 ⟨rfl, h2, x2⟩
      have H2 := Lib.hid (And.intro h2 (HX.out.trans x2 (fun _ _ h => h)))
      clear h2 x2 HC HX HW c10 f10
      go_wp2
      go_end0
      exact ⟨rfl, H2.out⟩
  · rw [if_neg h2]
    have H := Lib.hid h
    clear h hp
    have h3 : s = 3 ∨ s = 4 ∨ s = 5 := by omega
    clear h2 hs
    rcases h3 with rfl | rfl | rfl
    all_goals
      go_enter Try.func35, Try.ntmps35
      go_wp2
      go_end0
      exact ⟨rfl, H.out, Exc.refl _ _⟩
set_option maxHeartbeats 1000000 in
set_option maxRecDepth 100000 in
theorem hearAligned_any (b g : Nat) (s : Nat) (x : Al) (v : Value) (w : World) (h : Raw w b x v) (hf : x.Fit) (hp : x.ph = 2) (hs : s ≤ 5) (hpr : x.prov ≤ 1000000) :
    Calls Try.prog 36 #[.pointer (some ⟨b, 0, none⟩), .int .u8 (s : Int)] w fun e w' => e = .returned (.tuple #[]) ∧ Next w b g (x.hear s) w' := by
  have e : x.hear s = if s = 0 then x else if s = 3 then x.ends 5 else (x.mark s).prove := by unfold Al.hear; rw [if_neg (by omega), if_pos hp]
  rw [e]
  clear e
  have hn3 : x.ph ≠ 3 := by omega
  by_cases h0 : s = 0
  · subst h0
    rw [if_pos rfl]
    have H := Lib.hid (show Next w b g x w from Next.raw h (Exc.refl _ _) hf hn3)
    clear h hf hp hs hpr hn3
    go_enter Try.func36, Try.ntmps36
    go_wp2
    go_end0
    exact ⟨rfl, H.out⟩
  rw [if_neg h0]
  by_cases h3 : s = 3
  · subst h3
    rw [if_pos rfl]
    have hc := enter_end b 5 x v w h (.inr (.inr rfl))
    rw [show ((5 : Nat) : Int) = 5 from rfl] at hc
    have HC := Lib.hid hc
    have HF := Lib.hid (hf.ends (p := 5) (.inr (.inr rfl)))
    clear h hf hp hs hpr hn3 h0 hc
    go_enter Try.func36, Try.ntmps36
    go_wp2_with fail
    with_reducible refine HC.out.mono ?_
    rintro e w2 ⟨rfl, h2, x2⟩
    have H2 := Lib.hid (show Next w b g (x.ends 5) w2 from Next.raw h2 x2 HF.out (by show 5 ≠ 3; decide))
    clear h2 x2 HC
    go_wp2
    go_end0
    exact ⟨rfl, H2.out⟩
  rw [if_neg h3]
  have c10 := h.urg
  have f10 := h.frozen 10
  obtain ⟨u, hu⟩ : ∃ u, u = (x.urg || decide (s = 2)) := ⟨_, rfl⟩
  obtain ⟨W1, hW1⟩ : ∃ W, W = w.setCell ⟨b, 10, none⟩ (.bool u) := ⟨_, rfl⟩
  have r1 : Raw W1 b (x.mark s) v := by rw [Al.mark_eq x s u hu.symm, hW1]; exact h.set 10 (.bool u)
  have x1 : Exc (fun k => k = b) w W1 := by rw [hW1]; exact exc_set b 10 _ w
  have hc := enter_prove b (x.mark s) v W1 r1 hf.t hpr
  have HC := Lib.hid hc
  have HX := Lib.hid x1
  obtain ⟨q, hq⟩ : ∃ q, q = x.urg := ⟨_, rfl⟩
  rw [← hq] at hu c10
  have h4 : s = 1 ∨ s = 2 ∨ s = 4 ∨ s = 5 := by omega
  clear h hf hp hs hc x1 r1 hq hpr hn3 h0 h3
  rcases h4 with rfl | rfl | rfl | rfl <;> cases q
  all_goals
    simp only [Bool.or_true, Bool.or_false, decide_true, (by decide : decide ((1 : Nat) = 2) = false), (by decide : decide ((4 : Nat) = 2) = false), (by decide : decide ((5 : Nat) = 2) = false)] at hu
    subst hu
    have HW := Lib.hid hW1
    clear hW1
    go_enter Try.func36, Try.ntmps36
    go_wp2_with fail
    rw [← HW.out]
    with_reducible refine HC.out.mono ?_
    rintro e w2 ⟨rfl, g', h2, g2, x2⟩
    have H2 := Lib.hid (Next.prove (g := g) h2 HX.out g2 x2)
    clear h2 x2 HC HX HW c10 f10 g2
    go_wp2
    go_end0
    exact ⟨rfl, H2.out⟩
set_option maxHeartbeats 1000000 in
set_option maxRecDepth 100000 in
theorem hearProving_any (b g : Nat) (s : Nat) (x : Al) (w : World) (h : AlAt w b g x) (hp : x.ph = 3) (hs : s ≤ 5) (hpr : x.prov ≤ 1000000) :
    Calls Try.prog 37 #[.pointer (some ⟨b, 0, none⟩), .int .u8 (s : Int)] w fun e w' => e = .returned (.tuple #[]) ∧ Next w b g (x.hear s) w' := by
  have e : x.hear s = if s = 0 then x.hold else if s = 3 then x.ends 5 else if s = 2 ∧ x.urg = false then (x.mark s).prove else x := by unfold Al.hear; rw [if_neg (by omega), if_neg (by omega), if_pos hp]
  rw [e]
  clear e
  obtain ⟨v, ho, hv⟩ := h.own
  have hf := h.fit
  by_cases h0 : s = 0
  · subst h0
    rw [if_pos rfl]
    have HC := Lib.hid (enter_hold b x v w ho)
    have HF := Lib.hid hf.hold
    clear h ho hf hp hs hpr hv
    go_enter Try.func37, Try.ntmps37
    go_wp2_with fail
    with_reducible refine HC.out.mono ?_
    rintro e w2 ⟨rfl, h2, x2⟩
    have H2 := Lib.hid (show Next w b g x.hold w2 from Next.raw h2 x2 HF.out (by show 2 ≠ 3; decide))
    clear h2 x2 HC
    go_wp2
    go_end0
    exact ⟨rfl, H2.out⟩
  rw [if_neg h0]
  by_cases h3 : s = 3
  · subst h3
    rw [if_pos rfl]
    have hc := enter_end b 5 x v w ho (.inr (.inr rfl))
    rw [show ((5 : Nat) : Int) = 5 from rfl] at hc
    have HC := Lib.hid hc
    have HF := Lib.hid (hf.ends (p := 5) (.inr (.inr rfl)))
    clear h ho hf hp hs hpr h0 hc hv
    go_enter Try.func37, Try.ntmps37
    go_wp2_with fail
    with_reducible refine HC.out.mono ?_
    rintro e w2 ⟨rfl, h2, x2⟩
    have H2 := Lib.hid (show Next w b g (x.ends 5) w2 from Next.raw h2 x2 HF.out (by show 5 ≠ 3; decide))
    clear h2 x2 HC
    go_wp2
    go_end0
    exact ⟨rfl, H2.out⟩
  rw [if_neg h3]
  have c10 := ho.urg
  by_cases h2 : s = 2
  · subst h2
    cases hq : x.urg
    · rw [if_pos ⟨rfl, rfl⟩]
      have f10 := ho.frozen 10
      obtain ⟨W1, hW1⟩ : ∃ W, W = w.setCell ⟨b, 10, none⟩ (.bool true) := ⟨_, rfl⟩
      have r1 : Raw W1 b (x.mark 2) v := by rw [Al.mark_eq x 2 true (by simp), hW1]; exact ho.set 10 (.bool true)
      have x1 : Exc (fun k => k = b) w W1 := by rw [hW1]; exact exc_set b 10 _ w
      have hc := enter_prove b (x.mark 2) v W1 r1 hf.t hpr
      have HC := Lib.hid hc
      have HX := Lib.hid x1
      have HW := Lib.hid hW1
      rw [hq] at c10
      clear h ho hf hp hs hc x1 r1 hq hpr h0 h3 hW1 hv
      go_enter Try.func37, Try.ntmps37
      go_wp2_with fail
      rw [← HW.out]
      with_reducible refine HC.out.mono ?_
      rintro e w2 ⟨rfl, g', h2, g2, x2⟩
      have H2 := Lib.hid (Next.prove (g := g) h2 HX.out g2 x2)
      clear h2 x2 HC HX HW c10 f10 g2
      go_wp2
      go_end0
      exact ⟨rfl, H2.out⟩
    · rw [if_neg (by rintro ⟨_, h⟩; cases h)]
      rw [hq] at c10
      have H := Lib.hid (Next.same h)
      clear h ho hf hp hs hpr h0 h3 hq hv
      go_enter Try.func37, Try.ntmps37
      go_wp2
      go_end0
      exact ⟨rfl, H.out⟩
  · rw [if_neg (fun h => h2 h.1)]
    have h4 : s = 1 ∨ s = 4 ∨ s = 5 := by omega
    have H := Lib.hid (Next.same h)
    clear h ho hf hp hs hpr h0 h3 h2 hv
    rcases h4 with rfl | rfl | rfl
    all_goals
      go_enter Try.func37, Try.ntmps37
      go_wp2
      go_end0
      exact ⟨rfl, H.out⟩
set_option maxHeartbeats 1000000 in
set_option maxRecDepth 100000 in
theorem hear_any (b g : Nat) (s : Nat) (x : Al) (w : World) (h : AlAt w b g x) (hpr : x.prov ≤ 1000000) (hs : s ≤ 255) :
    Calls Try.prog 24 #[.pointer (some ⟨b, 0, none⟩), .int .u8 (s : Int)] w fun e w' => e = .returned (.int .i64 ((if 5 < s then 1 else 0 : Nat) : Int)) ∧ Next w b g (if 5 < s then x else x.hear s) w' := by
  have HN := Lib.hid (isNone_any b g x w h)
  have H := Lib.hid h
  by_cases h5 : 5 < s
  · rw [if_pos h5, if_pos h5]
    have hg : (5 : Int) < (s : Int) := by omega
    clear h hpr hs h5
    go_enter Try.func24, Try.ntmps24
    go_wp2_with fail
    with_reducible refine HN.out.mono ?_
    rintro e w' ⟨rfl, rfl⟩
    clear HN
    go_wp2
    go_ret
    exact ⟨rfl, Next.same H.out⟩
  rw [if_neg h5, if_neg h5]
  have hg : ¬ (5 : Int) < (s : Int) := by omega
  have h5' : s ≤ 5 := by omega
  have c7 := h.ph
  have hp5 := h.fit.ph
  have hsk : x.ph = 1 → Calls Try.prog 35 #[.pointer (some ⟨b, 0, none⟩), .int .u8 (s : Int)] w fun e w' => e = .returned (.tuple #[]) ∧ Next w b g (x.hear s) w' := fun hp => by
    obtain ⟨v, ho, hv⟩ := h.own
    refine (hearSeeking_any b s x v w ho hp h5').mono ?_
    rintro e w' ⟨rfl, h1, h2⟩
    refine ⟨rfl, Next.raw h1 h2 (h.fit.hear s) ?_⟩
    unfold Al.hear
    rw [if_pos hp]
    split
    · show 2 ≠ 3; decide
    · omega
  have hal : x.ph = 2 → Calls Try.prog 36 #[.pointer (some ⟨b, 0, none⟩), .int .u8 (s : Int)] w fun e w' => e = .returned (.tuple #[]) ∧ Next w b g (x.hear s) w' := fun hp => by
    obtain ⟨v, ho, hv⟩ := h.own
    exact hearAligned_any b g s x v w ho h.fit hp h5' hpr
  have hpv := fun hp => hearProving_any b g s x w h hp h5' hpr
  have hel : ¬ x.ph = 1 → ¬ x.ph = 2 → ¬ x.ph = 3 → x.hear s = x := fun a b c => by unfold Al.hear; rw [if_neg a, if_neg b, if_neg c]
  have HSk := Lib.hid hsk
  have HAl := Lib.hid hal
  have HPv := Lib.hid hpv
  have HEl := Lib.hid hel
  obtain ⟨p, hp⟩ : ∃ p, p = x.ph := ⟨_, rfl⟩
  rw [← hp] at c7 hp5
  have h6 : p = 1 ∨ p = 2 ∨ p = 3 ∨ p = 0 ∨ p = 4 ∨ p = 5 := by omega
  clear h hpr hs h5 hp5 hsk hal hpv hel h5'
  rcases h6 with rfl | rfl | rfl | rfl | rfl | rfl
  · have HP := Lib.hid (HSk.out hp.symm)
    clear hp HSk HAl HPv HEl
    go_enter Try.func24, Try.ntmps24
    go_wp2_with fail
    with_reducible refine HN.out.mono ?_
    rintro e w' ⟨rfl, rfl⟩
    go_wp2_with fail
    with_reducible refine HP.out.mono ?_
    rintro e w2 ⟨rfl, h2⟩
    have H2 := Lib.hid h2
    clear h2 HP HN c7
    go_wp2
    go_ret
    exact ⟨rfl, H2.out⟩
  · have HP := Lib.hid (HAl.out hp.symm)
    clear hp HSk HAl HPv HEl
    go_enter Try.func24, Try.ntmps24
    go_wp2_with fail
    with_reducible refine HN.out.mono ?_
    rintro e w' ⟨rfl, rfl⟩
    go_wp2_with fail
    with_reducible refine HP.out.mono ?_
    rintro e w2 ⟨rfl, h2⟩
    have H2 := Lib.hid h2
    clear h2 HP HN c7
    go_wp2
    go_ret
    exact ⟨rfl, H2.out⟩
  · have HP := Lib.hid (HPv.out hp.symm)
    clear hp HSk HAl HPv HEl
    go_enter Try.func24, Try.ntmps24
    go_wp2_with fail
    with_reducible refine HN.out.mono ?_
    rintro e w' ⟨rfl, rfl⟩
    go_wp2_with fail
    with_reducible refine HP.out.mono ?_
    rintro e w2 ⟨rfl, h2⟩
    have H2 := Lib.hid h2
    clear h2 HP HN c7
    go_wp2
    go_ret
    exact ⟨rfl, H2.out⟩
  all_goals
    have HE := Lib.hid (HEl.out (by omega) (by omega) (by omega))
    clear hp HSk HAl HPv HEl
    go_enter Try.func24, Try.ntmps24
    go_wp2_with fail
    with_reducible refine HN.out.mono ?_
    rintro e w' ⟨rfl, rfl⟩
    clear HN
    go_wp2
    go_ret
    refine ⟨rfl, ?_⟩
    rw [HE.out]
    exact Next.same H.out
end Go.Proofs.Ytgfiikbecapodaa
