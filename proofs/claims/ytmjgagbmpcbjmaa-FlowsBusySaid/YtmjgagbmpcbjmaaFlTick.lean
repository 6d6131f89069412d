/- Flows: Tick. -/
import Derived.Test.YtmjgagbmpcbjmaaFlGet
import Derived.StillTailTactics
namespace Go.Proofs.Ytmjgagbmpcbjmaa
open Go.RowKit

set_option maxHeartbeats 4000000 in
set_option maxRecDepth 100000 in
theorem fl_tick (b : Nat) (x : Fl) (w : World) (h : FlAt w b x) :
    Calls Try.prog 23 #[.pointer (some ⟨b, 0, none⟩)] w fun e w' => e = .returned (.int .i64 (x.code : Int)) ∧ Nxt w b x.tick w' := by
  have HC := Lib.hid (fl_check b x w h)
  obtain ⟨t, con, since, out, away, busy, wait, failed⟩ := x
  cases failed
  case true =>
    have H := Lib.hid (Nxt.same h)
    clear h
    go_enter Try.func23, Try.ntmps23
    go_wp2_with fail
    with_reducible refine HC.out.mono ?_
    rintro e w' ⟨rfl, rfl⟩
    clear HC
    go_wp2
    go_ret
    exact ⟨rfl, H.out⟩
  case false =>
    have hx1 := h.fit.since
    have hx2 := h.fit.busy
    have hx3 := h.fit.wait
    have hx4 := h.fit.t.a1
    have hx5 := h.fit.t.m1
    have hx6 := h.fit.t.w1
    dsimp only at hx1 hx2 hx3 hx4 hx5 hx6
    obtain ⟨S1, hS1⟩ : ∃ X, X = if con = true then (since + 1) % t.again else since := ⟨_, rfl⟩
    obtain ⟨B, hB⟩ : ∃ X, X = busy - 1 := ⟨_, rfl⟩
    obtain ⟨F, hF⟩ : ∃ X, X = decide (busy = 1) := ⟨_, rfl⟩
    obtain ⟨V, hV⟩ : ∃ X, X = wait - 1 := ⟨_, rfl⟩
    obtain ⟨G, hG⟩ : ∃ X, X = decide (wait = 1) := ⟨_, rfl⟩
    obtain ⟨H, hH⟩ : ∃ X, X = (out || away) := ⟨_, rfl⟩
    have e1 : Fl.tick ⟨t, con, since, out, away, busy, wait, false⟩ = ⟨t, con, S1, out, away, B, if H = true then wait else V, F || (!H && G)⟩ := by rw [hS1, hB, hV, hF, hG, hH]; rfl
    have HE := Lib.hid e1
    have HB := Lib.hid hB
    have HF := Lib.hid hF
    have HV := Lib.hid hV
    have HG := Lib.hid hG
    have HH := Lib.hid hH
    have HL := Lib.hid (show wait ≤ 1048576 ∧ busy ≤ 1048576 from ⟨Nat.le_trans hx3 hx6, Nat.le_trans hx2 hx5⟩)
    clear e1 hB hF hV hG hH hx2 hx3 hx5 hx6
    have c3 := h.c3
    have c4 := h.c4
    have c0 := h.c0
    have f4 := h.z 4
    dsimp only at c3 c4 c0
    cases con
    case false =>
      simp only [Bool.false_eq_true, if_false] at hS1
      subst hS1
      have H1 := Lib.hid (Nxt.same h)
      clear h c4 c0 f4 hx1 hx4
      go_enter Try.func23, Try.ntmps23
      go_wp2_with fail
      with_reducible refine HC.out.mono ?_
      rintro e w' ⟨rfl, rfl⟩
      clear HC
      have c7 := H1.out.1.c7
      have f7 := H1.out.1.z 7
      have c9 := H1.out.1.c9
      have f9 := H1.out.1.z 9
      dsimp only at c7 c9
      rcases Nat.eq_zero_or_pos busy with hb | hb
      · subst hb
        have hb0 : B = 0 := by rw [HB.out]
        have hf0 : F = false := by rw [HF.out]; rfl
        subst hb0 hf0
        have H2 := H1
        clear H1 f7 f9 c9
        have hh := fl_held b ⟨t, false, S1, out, away, 0, wait, false⟩ w' H2.out.1
        dsimp only at hh
        rw [← HH.out] at hh
        have HHd := Lib.hid hh
        clear hh
        go_wp2_with fail
        with_reducible refine HHd.out.mono ?_
        rintro e w3 ⟨rfl, q, rfl⟩
        have h3 := H2.out.drew q
        generalize w'.drewN q = W3 at h3 ⊢
        have H3 := Lib.hid h3
        have c8 := h3.1.c8
        have c9 := h3.1.c9
        have f8 := h3.1.z 8
        have f9 := h3.1.z 9
        dsimp only at c8 c9
        clear h3 H2 HHd
        cases H
        case true =>
          clear c8 c9 f8 f9
          go_wp2
          go_ret
          refine ⟨rfl, ?_⟩
          rw [HE.out]
          simp only [Bool.not_true, Bool.false_and, Bool.or_false, if_true]
          exact H3.out
        case false =>
          rcases Nat.eq_zero_or_pos wait with hw | hw
          · subst hw
            have hv0 : V = 0 := by rw [HV.out]
            have hg0 : G = false := by rw [HG.out]; rfl
            subst hv0 hg0
            clear f8 f9 c9
            go_wp2
            go_ret
            refine ⟨rfl, ?_⟩
            rw [HE.out]
            simp only [Bool.and_false, Bool.or_false, Bool.false_eq_true, if_false]
            exact H3.out
          · obtain ⟨X, hX⟩ : ∃ X : Int, X = (wait : Int) := ⟨_, rfl⟩
            obtain ⟨Y, hY⟩ : ∃ Y : Int, Y = (V : Int) := ⟨_, rfl⟩
            have hp : 0 < X := by omega
            have hwx : IntKind.i64.wrap (X - 1) = Y := by have := HV.out; have := HL.out.1; rw [IntWalk.i64_in _ (by omega)]; omega
            have hy : (Y == 0) = G := by rw [hY, HG.out, HV.out]; rw [Bool.eq_iff_iff]; simp; omega
            rw [← hX] at c8
            have H := Lib.hid (show Nxt w' b ⟨t, false, S1, out, away, 0, V, G⟩ ((W3.setCell ⟨b, 8, none⟩ (.int .i64 Y)).setCell ⟨b, 9, none⟩ (.bool G)) from ⟨⟨by rw [hY]; exact (H3.out.1.own.set 8 (.int .i64 (V : Int))).set 9 (.bool G), ⟨H3.out.1.fit.t, H3.out.1.fit.since, H3.out.1.fit.busy, by have h1 := H3.out.1.fit.wait; have h2 := HV.out; dsimp only at h1 ⊢; omega⟩⟩, Blk.more (Blk.more H3.out.2 8 _) 9 _⟩)
            clear hX hY hw H3
            go_wp2
            go_ret
            refine ⟨rfl, ?_⟩
            rw [HE.out]
            simp only [Bool.not_false, Bool.true_and, Bool.false_or, Bool.false_eq_true, if_false]
            exact H.out
      · obtain ⟨L, hL⟩ : ∃ L : Int, L = (busy : Int) := ⟨_, rfl⟩
        obtain ⟨K, hK⟩ : ∃ K : Int, K = (B : Int) := ⟨_, rfl⟩
        have hp : 0 < L := by omega
        have hwx : IntKind.i64.wrap (L - 1) = K := by have := HB.out; have := HL.out.2; rw [IntWalk.i64_in _ (by omega)]; omega
        have hy : (K == 0) = F := by rw [hK, HF.out, HB.out]; rw [Bool.eq_iff_iff]; simp; omega
        rw [← hL] at c7
        obtain ⟨W2, hW2⟩ : ∃ X, X = (w'.setCell ⟨b, 7, none⟩ (.int .i64 K)).setCell ⟨b, 9, none⟩ (.bool F) := ⟨_, rfl⟩
        have H2 := Lib.hid (show Nxt w' b ⟨t, false, S1, out, away, B, wait, F⟩ W2 from by rw [hW2, hK]; exact ⟨⟨(H1.out.1.own.set 7 (.int .i64 (B : Int))).set 9 (.bool F), ⟨H1.out.1.fit.t, H1.out.1.fit.since, by have h1 := H1.out.1.fit.busy; have h2 := HB.out; dsimp only at h1 ⊢; omega, H1.out.1.fit.wait⟩⟩, Blk.more (Blk.more H1.out.2 7 _) 9 _⟩)
        have HW2 := Lib.hid hW2
        clear hL hK hb H1 hW2
        go_upto_region 9 with fail
        rw [← HW2.out]
        clear HW2 hp hwx hy c7 c9 f7 f9
        have hh := fl_held b ⟨t, false, S1, out, away, B, wait, F⟩ W2 H2.out.1
        dsimp only at hh
        rw [← HH.out] at hh
        have HHd := Lib.hid hh
        clear hh
        go_wp2_with fail
        with_reducible refine HHd.out.mono ?_
        rintro e w3 ⟨rfl, q, rfl⟩
        have h3 := H2.out.drew q
        generalize W2.drewN q = W3 at h3 ⊢
        have H3 := Lib.hid h3
        have c8 := h3.1.c8
        have c9 := h3.1.c9
        have f8 := h3.1.z 8
        have f9 := h3.1.z 9
        dsimp only at c8 c9
        clear h3 H2 HHd
        cases H
        case true =>
          clear c8 c9 f8 f9
          go_wp2
          go_ret
          refine ⟨rfl, ?_⟩
          rw [HE.out]
          simp only [Bool.not_true, Bool.false_and, Bool.or_false, if_true]
          exact H3.out
        case false =>
          rcases Nat.eq_zero_or_pos wait with hw | hw
          · subst hw
            have hv0 : V = 0 := by rw [HV.out]
            have hg0 : G = false := by rw [HG.out]; rfl
            subst hv0 hg0
            clear f8 f9 c9
            go_wp2
            go_ret
            refine ⟨rfl, ?_⟩
            rw [HE.out]
            simp only [Bool.and_false, Bool.or_false, Bool.false_eq_true, if_false]
            exact H3.out
          · obtain ⟨X, hX⟩ : ∃ X : Int, X = (wait : Int) := ⟨_, rfl⟩
            obtain ⟨Y, hY⟩ : ∃ Y : Int, Y = (V : Int) := ⟨_, rfl⟩
            have hp : 0 < X := by omega
            have hwx : IntKind.i64.wrap (X - 1) = Y := by have := HV.out; have := HL.out.1; rw [IntWalk.i64_in _ (by omega)]; omega
            have hy : (Y == 0) = G := by rw [hY, HG.out, HV.out]; rw [Bool.eq_iff_iff]; simp; omega
            rw [← hX] at c8
            cases F
            case true =>
              have H := Lib.hid (show Nxt w' b ⟨t, false, S1, out, away, B, V, true⟩ ((W3.setCell ⟨b, 8, none⟩ (.int .i64 Y)).setCell ⟨b, 9, none⟩ (.bool true)) from ⟨⟨by rw [hY]; exact (H3.out.1.own.set 8 (.int .i64 (V : Int))).set 9 (.bool true), ⟨H3.out.1.fit.t, H3.out.1.fit.since, H3.out.1.fit.busy, by have h1 := H3.out.1.fit.wait; have h2 := HV.out; dsimp only at h1 ⊢; omega⟩⟩, Blk.more (Blk.more H3.out.2 8 _) 9 _⟩)
              clear hX hY hw H3
              go_wp2
              go_ret
              refine ⟨rfl, ?_⟩
              rw [HE.out]
              simp only [Bool.not_false, Bool.true_and, Bool.true_or, Bool.false_eq_true, if_false]
              exact H.out
            case false =>
              have H := Lib.hid (show Nxt w' b ⟨t, false, S1, out, away, B, V, G⟩ ((W3.setCell ⟨b, 8, none⟩ (.int .i64 Y)).setCell ⟨b, 9, none⟩ (.bool G)) from ⟨⟨by rw [hY]; exact (H3.out.1.own.set 8 (.int .i64 (V : Int))).set 9 (.bool G), ⟨H3.out.1.fit.t, H3.out.1.fit.since, H3.out.1.fit.busy, by have h1 := H3.out.1.fit.wait; have h2 := HV.out; dsimp only at h1 ⊢; omega⟩⟩, Blk.more (Blk.more H3.out.2 8 _) 9 _⟩)
              clear hX hY hw H3
              go_wp2
              go_ret
              refine ⟨rfl, ?_⟩
              rw [HE.out]
              simp only [Bool.not_false, Bool.true_and, Bool.false_or, Bool.false_eq_true, if_false]
              exact H.out
    case true =>
      simp only [if_true] at hS1
      have hwS : IntKind.i64.wrap ((since : Int) + 1) = ((since + 1 : Nat) : Int) := by rw [IntWalk.i64_in _ (by omega)]; omega
      have hsl : S1 < t.again := by rw [hS1]; exact Nat.mod_lt _ (by omega)
      obtain ⟨P, hP⟩ : ∃ P, P = t.again := ⟨_, rfl⟩
      obtain ⟨Z, hZ⟩ : ∃ Z : Nat, Z = since + 1 := ⟨_, rfl⟩
      rw [← hP, ← hZ] at hS1
      have e5 : (Z : Int).tmod (P : Int) = (S1 : Int) := by rw [Int.tmod_eq_emod_of_nonneg (by omega), hS1]; push_cast; rfl
      have e5a : ¬ ((P : Int) = 0) := by omega
      have e5b : ((P : Int) == 0) = false := by simp; omega
      have e5c : ¬ (P = 0) := by omega
      have e5d : (P == 0) = false := by simp; omega
      rw [← hZ] at hwS
      rw [← hP] at c0
      obtain ⟨W1, hW1⟩ : ∃ X, X = (w.setCell ⟨b, 4, none⟩ (.int .i64 (S1 : Int))).drew := ⟨_, rfl⟩
      have H1 := Lib.hid (show Nxt w b ⟨t, true, S1, out, away, busy, wait, false⟩ W1 from by rw [hW1]; exact (show Nxt w b ⟨t, true, S1, out, away, busy, wait, false⟩ (w.setCell ⟨b, 4, none⟩ (.int .i64 (S1 : Int))) from ⟨⟨h.own.set 4 (.int .i64 (S1 : Int)), ⟨h.fit.t, hsl, h.fit.busy, h.fit.wait⟩⟩, Blk.exc b 4 _ w⟩).drew 1)
      have HW1 := Lib.hid hW1
      clear h hx1 hx4 hS1 hsl hP hZ hW1
      go_enter Try.func23, Try.ntmps23
      go_wp2_with fail
      with_reducible refine HC.out.mono ?_
      rintro e w' ⟨rfl, rfl⟩
      clear HC
      go_upto_region 5 with fail
      go_still_tail 14, (by kernel_rfl)
      change wpList _ _ _ _ _ w'.drew
      go_upto_region 6 with fail
      rw [← HW1.out]
      clear HW1 hwS e5 e5a e5b e5c e5d c3 c4 c0 f4
      have c7 := H1.out.1.c7
      have f7 := H1.out.1.z 7
      have c9 := H1.out.1.c9
      have f9 := H1.out.1.z 9
      dsimp only at c7 c9
      rcases Nat.eq_zero_or_pos busy with hb | hb
      · subst hb
        have hb0 : B = 0 := by rw [HB.out]
        have hf0 : F = false := by rw [HF.out]; rfl
        subst hb0 hf0
        have H2 := H1
        clear H1 f7 f9 c9
        have hh := fl_held b ⟨t, true, S1, out, away, 0, wait, false⟩ W1 H2.out.1
        dsimp only at hh
        rw [← HH.out] at hh
        have HHd := Lib.hid hh
        clear hh
        go_wp2_with fail
        with_reducible refine HHd.out.mono ?_
        rintro e w3 ⟨rfl, q, rfl⟩
        have h3 := H2.out.drew q
        generalize W1.drewN q = W3 at h3 ⊢
        have H3 := Lib.hid h3
        have c8 := h3.1.c8
        have c9 := h3.1.c9
        have f8 := h3.1.z 8
        have f9 := h3.1.z 9
        dsimp only at c8 c9
        clear h3 H2 HHd
        cases H
        case true =>
          clear c8 c9 f8 f9
          go_wp2
          go_ret
          refine ⟨rfl, ?_⟩
          rw [HE.out]
          simp only [Bool.not_true, Bool.false_and, Bool.or_false, if_true]
          exact H3.out
        case false =>
          rcases Nat.eq_zero_or_pos wait with hw | hw
          · subst hw
            have hv0 : V = 0 := by rw [HV.out]
            have hg0 : G = false := by rw [HG.out]; rfl
            subst hv0 hg0
            clear f8 f9 c9
            go_wp2
            go_ret
            refine ⟨rfl, ?_⟩
            rw [HE.out]
            simp only [Bool.and_false, Bool.or_false, Bool.false_eq_true, if_false]
            exact H3.out
          · obtain ⟨X, hX⟩ : ∃ X : Int, X = (wait : Int) := ⟨_, rfl⟩
            obtain ⟨Y, hY⟩ : ∃ Y : Int, Y = (V : Int) := ⟨_, rfl⟩
            have hp : 0 < X := by omega
            have hwx : IntKind.i64.wrap (X - 1) = Y := by have := HV.out; have := HL.out.1; rw [IntWalk.i64_in _ (by omega)]; omega
            have hy : (Y == 0) = G := by rw [hY, HG.out, HV.out]; rw [Bool.eq_iff_iff]; simp; omega
            rw [← hX] at c8
            have H := Lib.hid (show Nxt w' b ⟨t, true, S1, out, away, 0, V, G⟩ ((W3.setCell ⟨b, 8, none⟩ (.int .i64 Y)).setCell ⟨b, 9, none⟩ (.bool G)) from ⟨⟨by rw [hY]; exact (H3.out.1.own.set 8 (.int .i64 (V : Int))).set 9 (.bool G), ⟨H3.out.1.fit.t, H3.out.1.fit.since, H3.out.1.fit.busy, by have h1 := H3.out.1.fit.wait; have h2 := HV.out; dsimp only at h1 ⊢; omega⟩⟩, Blk.more (Blk.more H3.out.2 8 _) 9 _⟩)
            clear hX hY hw H3
            go_wp2
            go_ret
            refine ⟨rfl, ?_⟩
            rw [HE.out]
            simp only [Bool.not_false, Bool.true_and, Bool.false_or, Bool.false_eq_true, if_false]
            exact H.out
      · obtain ⟨L, hL⟩ : ∃ L : Int, L = (busy : Int) := ⟨_, rfl⟩
        obtain ⟨K, hK⟩ : ∃ K : Int, K = (B : Int) := ⟨_, rfl⟩
        have hp : 0 < L := by omega
        have hwx : IntKind.i64.wrap (L - 1) = K := by have := HB.out; have := HL.out.2; rw [IntWalk.i64_in _ (by omega)]; omega
        have hy : (K == 0) = F := by rw [hK, HF.out, HB.out]; rw [Bool.eq_iff_iff]; simp; omega
        rw [← hL] at c7
        obtain ⟨W2, hW2⟩ : ∃ X, X = (W1.setCell ⟨b, 7, none⟩ (.int .i64 K)).setCell ⟨b, 9, none⟩ (.bool F) := ⟨_, rfl⟩
        have H2 := Lib.hid (show Nxt w' b ⟨t, true, S1, out, away, B, wait, F⟩ W2 from by rw [hW2, hK]; exact ⟨⟨(H1.out.1.own.set 7 (.int .i64 (B : Int))).set 9 (.bool F), ⟨H1.out.1.fit.t, H1.out.1.fit.since, by have h1 := H1.out.1.fit.busy; have h2 := HB.out; dsimp only at h1 ⊢; omega, H1.out.1.fit.wait⟩⟩, Blk.more (Blk.more H1.out.2 7 _) 9 _⟩)
        have HW2 := Lib.hid hW2
        clear hL hK hb H1 hW2
        go_upto_region 9 with fail
        rw [← HW2.out]
        clear HW2 hp hwx hy c7 c9 f7 f9
        have hh := fl_held b ⟨t, true, S1, out, away, B, wait, F⟩ W2 H2.out.1
        dsimp only at hh
        rw [← HH.out] at hh
        have HHd := Lib.hid hh
        clear hh
        go_wp2_with fail
        with_reducible refine HHd.out.mono ?_
        rintro e w3 ⟨rfl, q, rfl⟩
        have h3 := H2.out.drew q
        generalize W2.drewN q = W3 at h3 ⊢
        have H3 := Lib.hid h3
        have c8 := h3.1.c8
        have c9 := h3.1.c9
        have f8 := h3.1.z 8
        have f9 := h3.1.z 9
        dsimp only at c8 c9
        clear h3 H2 HHd
        cases H
        case true =>
          clear c8 c9 f8 f9
          go_wp2
          go_ret
          refine ⟨rfl, ?_⟩
          rw [HE.out]
          simp only [Bool.not_true, Bool.false_and, Bool.or_false, if_true]
          exact H3.out
        case false =>
          rcases Nat.eq_zero_or_pos wait with hw | hw
          · subst hw
            have hv0 : V = 0 := by rw [HV.out]
            have hg0 : G = false := by rw [HG.out]; rfl
            subst hv0 hg0
            clear f8 f9 c9
            go_wp2
            go_ret
            refine ⟨rfl, ?_⟩
            rw [HE.out]
            simp only [Bool.and_false, Bool.or_false, Bool.false_eq_true, if_false]
            exact H3.out
          · obtain ⟨X, hX⟩ : ∃ X : Int, X = (wait : Int) := ⟨_, rfl⟩
            obtain ⟨Y, hY⟩ : ∃ Y : Int, Y = (V : Int) := ⟨_, rfl⟩
            have hp : 0 < X := by omega
            have hwx : IntKind.i64.wrap (X - 1) = Y := by have := HV.out; have := HL.out.1; rw [IntWalk.i64_in _ (by omega)]; omega
            have hy : (Y == 0) = G := by rw [hY, HG.out, HV.out]; rw [Bool.eq_iff_iff]; simp; omega
            rw [← hX] at c8
            cases F
            case true =>
              have H := Lib.hid (show Nxt w' b ⟨t, true, S1, out, away, B, V, true⟩ ((W3.setCell ⟨b, 8, none⟩ (.int .i64 Y)).setCell ⟨b, 9, none⟩ (.bool true)) from ⟨⟨by rw [hY]; exact (H3.out.1.own.set 8 (.int .i64 (V : Int))).set 9 (.bool true), ⟨H3.out.1.fit.t, H3.out.1.fit.since, H3.out.1.fit.busy, by have h1 := H3.out.1.fit.wait; have h2 := HV.out; dsimp only at h1 ⊢; omega⟩⟩, Blk.more (Blk.more H3.out.2 8 _) 9 _⟩)
              clear hX hY hw H3
              go_wp2
              go_ret
              refine ⟨rfl, ?_⟩
              rw [HE.out]
              simp only [Bool.not_false, Bool.true_and, Bool.true_or, Bool.false_eq_true, if_false]
              exact H.out
            case false =>
              have H := Lib.hid (show Nxt w' b ⟨t, true, S1, out, away, B, V, G⟩ ((W3.setCell ⟨b, 8, none⟩ (.int .i64 Y)).setCell ⟨b, 9, none⟩ (.bool G)) from ⟨⟨by rw [hY]; exact (H3.out.1.own.set 8 (.int .i64 (V : Int))).set 9 (.bool G), ⟨H3.out.1.fit.t, H3.out.1.fit.since, H3.out.1.fit.busy, by have h1 := H3.out.1.fit.wait; have h2 := HV.out; dsimp only at h1 ⊢; omega⟩⟩, Blk.more (Blk.more H3.out.2 8 _) 9 _⟩)
              clear hX hY hw H3
              go_wp2
              go_ret
              refine ⟨rfl, ?_⟩
              rw [HE.out]
              simp only [Bool.not_false, Bool.true_and, Bool.false_or, Bool.false_eq_true, if_false]
              exact H.out
end Go.Proofs.Ytmjgagbmpcbjmaa
