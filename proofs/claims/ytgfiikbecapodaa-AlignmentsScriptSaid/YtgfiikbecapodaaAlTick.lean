/- Alignments: Tick, Wrong. -/
import Derived.Test.YtgfiikbecapodaaAlHear
namespace Go.Proofs.Ytgfiikbecapodaa
open Go.RowKit

set_option maxHeartbeats 1000000 in
set_option maxRecDepth 100000 in
theorem tick_any (b g : Nat) (x : Al) (w : World) (h : AlAt w b g x) :
    Calls Try.prog 20 #[.pointer (some ⟨b, 0, none⟩)] w fun e w' => e = .returned (.int .i64 0) ∧ Next w b g x.tick w' := by
  have HN := Lib.hid (isNone_any b g x w h)
  have H := Lib.hid h
  have c8 := h.left
  have hll := h.fit.left
  by_cases h0 : x.left = 0
  · rw [show x.tick = x by unfold Al.tick; rw [if_pos h0]]
    rw [h0] at c8
    clear h hll h0
    go_enter Try.func20, Try.ntmps20
    go_wp2_with fail
    with_reducible refine HN.out.mono ?_
    rintro e w' ⟨rfl, rfl⟩
    clear HN
    go_wp2
    go_ret
    exact ⟨rfl, Next.same H.out⟩
  obtain ⟨L, hL⟩ : ∃ L, L = x.left - 1 := ⟨_, rfl⟩
  obtain ⟨l, hl⟩ : ∃ l : Int, l = (x.left : Int) := ⟨_, rfl⟩
  have hne : ¬ l = 0 := by omega
  have hne2 : (l == 0) = false := by simp; omega
  have hw : IntKind.i64.wrap (l - 1) = (L : Int) := by rw [IntWalk.i64_in _ (by omega)]; omega
  obtain ⟨v, ho, hv⟩ := h.own
  have f8 := h.z 8
  rw [← hl] at c8
  obtain ⟨W1, hW1⟩ : ∃ W, W = w.setCell ⟨b, 8, none⟩ (.int .i64 (L : Int)) := ⟨_, rfl⟩
  have r1 : Raw W1 b { x with left := L } v := by rw [hW1]; exact ho.set 8 (.int .i64 (L : Int))
  have x1 : Exc (fun k => k = b) w W1 := by rw [hW1]; exact exc_set b 8 _ w
  by_cases h1 : x.left = 1
  · rw [show x.tick = x.ends (if x.ph = 3 then 4 else 5) by unfold Al.tick; rw [if_neg h0, if_pos h1]]
    have hL0 : L = 0 := by omega
    subst hL0
    rw [show ((0 : Nat) : Int) = 0 from rfl] at hW1 hw
    have hs8 := r1.left
    have c7 := r1.ph
    dsimp only at hs8 c7
    have hpp := h.fit.some
    have h13 : x.ph = 1 ∨ x.ph = 2 ∨ x.ph = 3 := by have := h.fit.ph; omega
    have he := fun p hp => enter_end b p { x with left := 0 } v W1 r1 hp
    have HE := Lib.hid he
    have HX := Lib.hid x1
    have HF := Lib.hid h.fit
    have HW := Lib.hid hW1
    obtain ⟨p, hp⟩ : ∃ p, p = x.ph := ⟨_, rfl⟩
    rw [← hp] at c7 h13 ⊢
    clear h ho hv he r1 x1 hpp hL hl hll h0 h1 hW1 hp
    rcases h13 with rfl | rfl | rfl
    · have hc := HE.out 5 (by omega)
      rw [show ((5 : Nat) : Int) = 5 from rfl] at hc
      have HC := Lib.hid hc
      clear hc HE
      go_enter Try.func20, Try.ntmps20
      go_wp2_with fail
      with_reducible refine HN.out.mono ?_
      rintro e w' ⟨rfl, rfl⟩
      go_upto_region 7 with fail
      rw [← HW.out]
      go_wp2_with fail
      with_reducible refine HC.out.mono ?_
      rintro e w2 ⟨rfl, h2, x2⟩
      have H2 := Lib.hid (show Next w' b g (x.ends 5) w2 from Next.raw h2 (HX.out.trans x2 (fun _ _ h => h)) (HF.out.ends (by omega)) (by show 5 ≠ 3; decide))
      clear h2 x2 HC HX HW c7 c8 f8 HN hs8
      go_wp2
      go_ret
      exact ⟨rfl, H2.out⟩
    · have hc := HE.out 5 (by omega)
      rw [show ((5 : Nat) : Int) = 5 from rfl] at hc
      have HC := Lib.hid hc
      clear hc HE
      go_enter Try.func20, Try.ntmps20
      go_wp2_with fail
      with_reducible refine HN.out.mono ?_
      rintro e w' ⟨rfl, rfl⟩
      go_upto_region 7 with fail
      rw [← HW.out]
      go_wp2_with fail
      with_reducible refine HC.out.mono ?_
      rintro e w2 ⟨rfl, h2, x2⟩
      have H2 := Lib.hid (show Next w' b g (x.ends 5) w2 from Next.raw h2 (HX.out.trans x2 (fun _ _ h => h)) (HF.out.ends (by omega)) (by show 5 ≠ 3; decide))
      clear h2 x2 HC HX HW c7 c8 f8 HN hs8
      go_wp2
      go_ret
      exact ⟨rfl, H2.out⟩
    · have hc := HE.out 4 (by omega)
      rw [show ((4 : Nat) : Int) = 4 from rfl] at hc
      have HC := Lib.hid hc
      clear hc HE
      go_enter Try.func20, Try.ntmps20
      go_wp2_with fail
      with_reducible refine HN.out.mono ?_
      rintro e w' ⟨rfl, rfl⟩
      go_upto_region 7 with fail
      rw [← HW.out]
      go_wp2_with fail
      with_reducible refine HC.out.mono ?_
      rintro e w2 ⟨rfl, h2, x2⟩
      have H2 := Lib.hid (show Next w' b g (x.ends 4) w2 from Next.raw h2 (HX.out.trans x2 (fun _ _ h => h)) (HF.out.ends (by omega)) (by show 4 ≠ 3; decide))
      clear h2 x2 HC HX HW c7 c8 f8 HN hs8
      go_wp2
      go_ret
      exact ⟨rfl, H2.out⟩
  · rw [show x.tick = { x with left := x.left - 1 } by unfold Al.tick; rw [if_neg h0, if_neg h1], ← hL]
    have hL0 : (0 : Int) < (L : Int) := by omega
    have hs8 := r1.left
    dsimp only at hs8
    have hnx : Next w b g { x with left := L } W1 := by
      refine ⟨g, ⟨⟨v, r1, hv⟩, fun e => ⟨(h.mon e).1.exc x1 (h.mon e).2, (h.mon e).2⟩, ?_⟩, x1.weak (fun _ _ h => .inl h), .inl rfl⟩
      have := h.fit.tick
      rw [show x.tick = { x with left := x.left - 1 } by unfold Al.tick; rw [if_neg h0, if_neg h1], ← hL] at this
      exact this
    have HX := Lib.hid hnx
    have HW := Lib.hid hW1
    clear h ho hv hl hll h0 h1 hW1 r1 x1 hnx hL
    go_enter Try.func20, Try.ntmps20
    go_wp2_with fail
    with_reducible refine HN.out.mono ?_
    rintro e w' ⟨rfl, rfl⟩
    clear HN
    go_upto_region 7 with fail
    rw [← HW.out]
    clear HW c8 f8 hw
    go_wp2
    go_ret
    exact ⟨rfl, HX.out⟩
theorem meth_count (g : Nat) (w : World) : (method 199 72 (.pointer (some ⟨g, 0, none⟩)) "Count").run Try.prog w = .ok (60, .pointer (some ⟨g, 0, none⟩)) w := by kernel_rfl
theorem meth_over (g : Nat) (w : World) : (method 199 72 (.pointer (some ⟨g, 0, none⟩)) "Over").run Try.prog w = .ok (62, .pointer (some ⟨g, 0, none⟩)) w := by kernel_rfl
set_option maxHeartbeats 1000000 in
set_option maxRecDepth 100000 in
theorem countWrong_any (b g : Nat) (x : Al) (w : World) (h : AlAt w b g x) (hp : x.ph = 3) (hpr : x.prov ≤ 1000000) :
    Calls Try.prog 34 #[.pointer (some ⟨b, 0, none⟩)] w fun e w' => e = .returned (.tuple #[]) ∧ Next w b g x.wrong w' := by
  obtain ⟨hsu, hgb⟩ := h.mon hp
  obtain ⟨v, ho, hv⟩ := h.own
  have hvv := hv hp
  subst hvv
  have c12 : w.cell? ⟨b, 12, none⟩ = some (.iface 72 (.pointer (some ⟨g, 0, none⟩))) := ho.v
  have mc := meth_count g
  have mo := meth_over g
  have HC := Lib.hid (count_any g x.wr x.lim w hsu (h.fit.lim hp))
  have HH := Lib.hid h
  have HO := Lib.hid ho
  have HG := Lib.hid hgb
  have HP := Lib.hid (And.intro hp hpr)
  clear h ho hv hsu hgb hp hpr
  go_enter Try.func34, Try.ntmps34
  go_wp2_with fail
  with_reducible refine HC.out.mono ?_
  rintro e W1 ⟨rfl, s1, x1⟩
  have o1 : Raw W1 b x (mval g) := by unfold Raw Own; rw [x1.block b HO.out.lt (fun h => HG.out h.symm)]; exact HO.out
  have d12 : W1.cell? ⟨b, 12, none⟩ = some (.iface 72 (.pointer (some ⟨g, 0, none⟩))) := o1.v
  have HOv := Lib.hid (over_any g (x.wr + 1) x.lim W1 s1)
  have HS := Lib.hid s1
  have HX := Lib.hid x1
  have HO1 := Lib.hid o1
  clear s1 x1 o1 HC c12
  go_wp2_with fail
  with_reducible refine HOv.out.mono ?_
  rintro e w2 ⟨rfl, q, rfl⟩
  have s2 : SuAt (W1.drewN q) g (x.wr + 1) x.lim := ⟨HS.out.own.drewK q, HS.out.le, HS.out.one, HS.out.max⟩
  have o2 : Raw (W1.drewN q) b x (mval g) := Own.drewK HO1.out q
  have x2 := HX.out.drawN q
  generalize W1.drewN q = W2 at s2 o2 x2 ⊢
  clear HOv HS HX HO1 d12
  have HS := Lib.hid s2
  have HX := Lib.hid x2
  have HO1 := Lib.hid o2
  by_cases hl : x.wr + 1 = x.lim
  · rw [decide_eq_true hl]
    have c11 := o2.prov
    have c6 := o2.c6
    by_cases hm : x.prov < x.t.most
    · have hm1 : (x.prov : Int) < (x.t.most : Int) := by omega
      have hm2 := decide_eq_true hm1
      have HL := Lib.hid (And.intro hl hm)
      clear s2 x2 o2 hl hm
      go_wp2_with fail
      go_quiet (fail)
      obtain ⟨W3, hW3⟩ : ∃ W, W = W2.drewN nq := ⟨_, rfl⟩
      have o3 : Raw W3 b x (mval g) := by rw [hW3]; exact Own.drewK HO1.out nq
      have x3 : Exc (fun k => k = g) w W3 := by rw [hW3]; exact HX.out.drawN nq
      have HC := Lib.hid (enter_prove b x (mval g) W3 o3 HH.out.fit.t HP.out.2)
      rw [← hW3]
      clear hW3 c11 c6
      have HX3 := Lib.hid x3
      clear x3 o3
      go_wp2_with fail
      with_reducible refine HC.out.mono ?_
      rintro e W4 ⟨rfl, g', h4, g4, x4⟩
      have H4 := Lib.hid (show Next w b g x.wrong W4 by
        rw [show x.wrong = x.prove by unfold Al.wrong; rw [if_pos HP.out.1, if_pos HL.out.1, if_pos HL.out.2]]
        exact ⟨g', h4, (HX3.out.weak (fun _ _ h => .inr h)).trans x4 (fun _ _ h => .inl h), .inr (Nat.le_trans HX3.out.size g4)⟩)
      clear h4 g4 x4
      go_wp2
      go_end0
      exact ⟨rfl, H4.out⟩
    · have hm1 : ¬ (x.prov : Int) < (x.t.most : Int) := by omega
      have hm2 := decide_eq_false hm1
      have HL := Lib.hid (And.intro hl hm)
      clear s2 x2 o2 hl hm
      go_wp2_with fail
      go_quiet (fail)
      obtain ⟨W3, hW3⟩ : ∃ W, W = W2.drewN nq := ⟨_, rfl⟩
      have o3 : Raw W3 b x (mval g) := by rw [hW3]; exact Own.drewK HO1.out nq
      have x3 : Exc (fun k => k = g) w W3 := by rw [hW3]; exact HX.out.drawN nq
      have hc := enter_end b 5 { x with wr := x.wr + 1 } (mval g) W3 o3 (.inr (.inr rfl))
      rw [show ((5 : Nat) : Int) = 5 from rfl] at hc
      have HC := Lib.hid hc
      rw [← hW3]
      clear hW3 c11 c6 hc
      have HX3 := Lib.hid x3
      clear x3 o3
      go_wp2_with fail
      with_reducible refine HC.out.mono ?_
      rintro e W4 ⟨rfl, h4, x4⟩
      have H4 := Lib.hid (show Next w b g x.wrong W4 by
        have hf := HH.out.fit.wrong
        have e : x.wrong = ({ x with wr := x.wr + 1 } : Al).ends 5 := by unfold Al.wrong; rw [if_pos HP.out.1, if_pos HL.out.1, if_neg HL.out.2]; rfl
        rw [e] at hf ⊢
        exact ⟨g, ⟨⟨mval g, h4, fun e => absurd e (by show 5 ≠ 3; decide)⟩, fun e => absurd e (by show 5 ≠ 3; decide), hf⟩, (HX3.out.weak (fun _ _ h => .inr h)).trans x4 (fun _ _ h => .inl h), .inl rfl⟩)
      clear h4 x4
      go_wp2
      go_end0
      exact ⟨rfl, H4.out⟩
  · rw [decide_eq_false hl]
    have HL := Lib.hid hl
    clear s2 x2 o2 hl
    go_wp2
    go_end0
    refine ⟨rfl, ?_⟩
    have hf := HH.out.fit.wrong
    have e : x.wrong = { x with wr := x.wr + 1 } := by unfold Al.wrong; rw [if_pos HP.out.1, if_neg HL.out]
    rw [e] at hf ⊢
    exact ⟨g, ⟨⟨mval g, HO1.out, fun _ => rfl⟩, fun _ => ⟨HS.out, HG.out⟩, hf⟩, HX.out.weak (fun _ _ h => .inr h), .inl rfl⟩
set_option maxHeartbeats 1000000 in
set_option maxRecDepth 100000 in
theorem wrong_any (b g : Nat) (x : Al) (w : World) (h : AlAt w b g x) (hpr : x.prov ≤ 1000000) :
    Calls Try.prog 22 #[.pointer (some ⟨b, 0, none⟩)] w fun e w' => e = .returned (.int .i64 0) ∧ Next w b g x.wrong w' := by
  have HN := Lib.hid (isNone_any b g x w h)
  have H := Lib.hid h
  have c7 := h.ph
  have hp5 := h.fit.ph
  by_cases hp : x.ph = 3
  · have HC := Lib.hid (countWrong_any b g x w h hp hpr)
    rw [hp] at c7
    clear h hp hp5 hpr
    go_enter Try.func22, Try.ntmps22
    go_wp2_with fail
    with_reducible refine HN.out.mono ?_
    rintro e w' ⟨rfl, rfl⟩
    go_wp2_with fail
    with_reducible refine HC.out.mono ?_
    rintro e w2 ⟨rfl, h2⟩
    have H2 := Lib.hid h2
    clear h2 HC HN c7
    go_wp2
    go_ret
    exact ⟨rfl, H2.out⟩
  · rw [show x.wrong = x by unfold Al.wrong; rw [if_neg hp]]
    obtain ⟨p, hpp⟩ : ∃ p : Int, p = (x.ph : Int) := ⟨_, rfl⟩
    have hne : ¬ p = 3 := by omega
    have hne2 : (p == 3) = false := by simp; omega
    rw [← hpp] at c7
    clear h hp hp5 hpr hpp
    go_enter Try.func22, Try.ntmps22
    go_wp2_with fail
    with_reducible refine HN.out.mono ?_
    rintro e w' ⟨rfl, rfl⟩
    clear HN
    go_wp2
    go_ret
    exact ⟨rfl, Next.same H.out⟩
end Go.Proofs.Ytgfiikbecapodaa
