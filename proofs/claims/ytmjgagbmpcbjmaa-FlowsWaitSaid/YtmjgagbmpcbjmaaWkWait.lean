/- Statements of layer 10: FlowsWait. -/
import Derived.Test.YtmjgagbmpcbjmaaFlOne
import Derived.Deep.CutBlock
namespace Go.Proofs.Ytmjgagbmpcbjmaa
open Go.RowKit

/-- Loads have waited for c ticks. -/
def Fl.wt (t : Tm) (c : Nat) (o a : Bool) : Fl := ⟨t, false, 0, o, a, 0, t.wait - c, false⟩
theorem wt_open (t : Tm) : (Fl.new t).opens true false = Fl.wt t 0 false false := by simp [Fl.new, Fl.opens, Fl.wt]
theorem wt_outage (t : Tm) (c : Nat) (o a on : Bool) : (Fl.wt t c o a).outage on = Fl.wt t c on a := by simp [Fl.wt, Fl.outage]
theorem wt_hear (t : Tm) (c : Nat) (o a on : Bool) : (Fl.wt t c o a).hear 4 on = Fl.wt t c o on := by cases on <;> simp [Fl.wt, Fl.hear]
theorem wt_held (t : Tm) (c : Nat) (o a : Bool) (h : (o || a) = true) : (Fl.wt t c o a).tick = Fl.wt t c o a := by simp [Fl.wt, Fl.tick, h]
theorem wt_tick (t : Tm) (c : Nat) (h : c + 1 < t.wait) : (Fl.wt t c false false).tick = Fl.wt t (c + 1) false false := by
  have h1 : ¬ t.wait - c = 1 := by omega
  have h2 : t.wait - c - 1 = t.wait - (c + 1) := by omega
  simp [Fl.wt, Fl.tick, h1, h2]
theorem wt_last (t : Tm) (c : Nat) (h : c + 1 = t.wait) : (Fl.wt t c false false).tick.failed = true := by
  have h1 : t.wait - c = 1 := by omega
  simp [Fl.wt, Fl.tick, h1]
theorem outage_wt {w0 w : World} {b c : Nat} {t : Tm} {o a : Bool} (h : One w0 w b (Fl.wt t c o a)) (on : Bool) :
    Calls Try.prog 24 #[.pointer (some ⟨b, 0, none⟩), .bool on] w fun e w' => e = .returned (.int .i64 0) ∧ One w0 w' b (Fl.wt t c on a) := by
  have := outage_one h on
  rw [wt_outage] at this
  exact this
theorem hear_wt {w0 w : World} {b c : Nat} {t : Tm} {o a : Bool} (h : One w0 w b (Fl.wt t c o a)) (on : Bool) :
    Calls Try.prog 22 #[.pointer (some ⟨b, 0, none⟩), .int .u8 4, .bool on] w fun e w' => e = .returned (.int .i64 0) ∧ One w0 w' b (Fl.wt t c o on) := by
  have := hear_one h 4 on (by decide)
  rw [wt_hear, show (Fl.wt t c o a).hearCode 4 on = 0 by cases on <;> rfl] at this
  exact this
theorem held_wt {w0 w : World} {b c : Nat} {t : Tm} {o a : Bool} (h : One w0 w b (Fl.wt t c o a)) :
    Calls Try.prog 15 #[.pointer (some ⟨b, 0, none⟩)] w fun e w' => e = .returned (.tuple #[.bool false, .bool (o || a)]) ∧ One w0 w' b (Fl.wt t c o a) := held_one h
theorem sends_wt {w0 w : World} {b c : Nat} {t : Tm} {o a : Bool} (T : Nat) (hT : T = if o then 4 else 9) (h : One w0 w b (Fl.wt t c o a)) :
    Calls Try.prog 16 #[.pointer (some ⟨b, 0, none⟩)] w fun e w' => e = .returned (.int .u8 (T : Int)) ∧ w' = w := by
  have := lsends_one h
  rw [show (Fl.wt t c o a).stat = T by rw [hT]; cases o <;> rfl] at this
  exact this
theorem tick_wt {w0 w : World} {b c : Nat} {t : Tm} {o a : Bool} (h : One w0 w b (Fl.wt t c o a)) :
    Calls Try.prog 23 #[.pointer (some ⟨b, 0, none⟩)] w fun e w' => e = .returned (.int .i64 0) ∧ One w0 w' b (Fl.wt t c o a).tick := tick_one h
/-- What a round keeps. -/
def WtI (w0 : World) (b : Nat) (t : Tm) (c : Nat) (w : World) : Prop := Below w0.heap.size w0 w ∧ (c < t.wait → ∃ o a, One w0 w b (Fl.wt t c o a))
theorem WtI.of {w0 w : World} {b c : Nat} {t : Tm} {o a : Bool} (h : One w0 w b (Fl.wt t c o a)) : WtI w0 b t c w := ⟨h.bel, fun _ => ⟨o, a, h⟩⟩
set_option maxHeartbeats 4000000 in
set_option maxRecDepth 100000 in
theorem wait_any (a0 a1 a2 : Nat) (s : Option Addr) (n c : Nat) (l : List Int) (w : World) (h0 : a0 ≤ 255) (h1 : a1 ≤ 255) (h2 : a2 ≤ 255) (hr : Row .u8 w s n c l) :
    Calls Try.prog 5 #[.agg #[.int .u8 (a0 : Int), .int .u8 (a1 : Int), .int .u8 (a2 : Int)], .slice s n c] w fun e w' => e = .returned (.bool true) ∧ Below w.heap.size w w' := by
  obtain ⟨W, hW⟩ : ∃ X, X = w.alloc (.cells #[.int .u8 (a0 : Int), .int .u8 (a1 : Int), .int .u8 (a2 : Int)] 23) := ⟨_, rfl⟩
  have hbW : Below w.heap.size w W := by rw [hW]; exact below_alloc _ _
  have oW : Own W w.heap.size 23 [.int .u8 (a0 : Int), .int .u8 (a1 : Int), .int .u8 (a2 : Int)] := by rw [hW]; exact Blk.fresh w _ _ _ rfl
  have c0 := oW.cell 0 (by simp)
  have c1 := oW.cell 1 (by simp)
  have c2 := oW.cell 2 (by simp)
  simp only [List.getD_cons_succ, List.getD_cons_zero] at c0 c1 c2
  obtain ⟨t, ht⟩ : ∃ t, t = tmOf a0 a1 a2 := ⟨_, rfl⟩
  have hlo : t.Low := by rw [ht]; exact tmOf_low ..
  have HOf := Lib.hid (fun W' => of_any a0 a1 a2 W' h0 h1 h2 t ht)
  have HW := Lib.hid hW
  have HO := Lib.hid oW
  have HB := Lib.hid hbW
  have HLo := Lib.hid hlo
  have HLv := Lib.hid lives_any
  clear hW hbW oW ht hlo h0 h1 h2
  have HR := Lib.hid hr
  clear hr
  by_cases g1 : 100 < n
  · have g2 : (100 : Int) < (n : Int) := by omega
    clear g1 HOf HLo HR HO
    go_enter Try.func5, Try.ntmps5
    go_upto_region 1 with fail
    rw [← HW.out]
    go_wp2_with fail
    with_reducible refine (HLv.out W).mono ?_
    rintro e w1 ⟨rfl, hb1⟩
    have HB1 := Lib.hid (HB.out.trans (Below.mono hb1 HB.out.size))
    clear hb1 HLv
    go_wp2
    go_ret
    exact ⟨rfl, HB1.out⟩
  have g2 : ¬ (100 : Int) < (n : Int) := by omega
  have HG := Lib.hid g1
  clear g1
  go_enter Try.func5, Try.ntmps5
  go_upto_region 1 with fail
  rw [← HW.out]
  go_wp2_with fail
  with_reducible refine (HOf.out _).mono ?_
  rintro e w2 ⟨rfl, hb2⟩
  have HB2 := Lib.hid (HB.out.trans (Below.mono hb2 HB.out.size))
  clear hb2 HOf HO HB c0 c1 c2
  obtain ⟨W3, hW3⟩ : ∃ X, X = w2.alloc (.cells #[.int .i64 (t.again : Int), .int .i64 (t.most : Int), .int .i64 (t.wait : Int)] 31) := ⟨_, rfl⟩
  obtain ⟨g, hg⟩ : ∃ g, g = w2.heap.size := ⟨_, rfl⟩
  have o3 : Own W3 g 31 [.int .i64 (t.again : Int), .int .i64 (t.most : Int), .int .i64 (t.wait : Int)] := by rw [hW3, hg]; exact Blk.fresh w2 _ _ _ rfl
  have hb3 : Below w.heap.size w W3 := by rw [hW3]; exact HB2.out.alloc HB2.out.size _
  have c0 := o3.cell 0 (by simp)
  have c1 := o3.cell 1 (by simp)
  have c2 := o3.cell 2 (by simp)
  simp only [List.getD_cons_succ, List.getD_cons_zero] at c0 c1 c2
  have HW3 := Lib.hid hW3
  have Hg := Lib.hid hg
  have HO3 := Lib.hid o3
  have HB3 := Lib.hid hb3
  clear hW3 hg o3 hb3 HB2
  go_upto_region 4 with fail
  rw [← Hg.out, ← HW3.out]
  clear HW3 Hg HW
  go_wp2_with fail
  with_reducible refine (new_one t HLo.out.fit (Below.refl W3.heap.size W3)).mono ?_
  rintro e w5 ⟨b, rfl, _, h5, _⟩
  have H5 := Lib.hid h5
  clear h5 c0 c1 c2
  clear g2
  go_wp2_with fail
  with_reducible refine (show Calls Try.prog 20 #[.pointer (some ⟨b, 0, none⟩), .bool true, .bool false] _ (fun e w' => e = .returned (.int .i64 0) ∧ One W3 w' b (Fl.wt t 0 false false)) from open_one H5.out true false).mono ?_
  rintro e w6 ⟨rfl, h6⟩
  have H6 := Lib.hid h6
  clear h6 H5
  go_wp2_with fail
  go_loopw [8, 9] (fun v u wr => ∃ c i : Nat, i ≤ n ∧ c ≤ t.wait ∧ v = .int .i64 c ∧ u = .int .i64 i ∧ WtI W3 b t c wr) (fun _ u _ => n - (intOf u).toNat)
  case atStart => exact ⟨0, 0, Nat.zero_le _, Nat.zero_le _, rfl, rfl, WtI.of H6.out⟩
  case round =>
    obtain ⟨c, i, hi, hc, rfl, rfl, hx⟩ := hrel
    have HX := Lib.hid hx
    clear hx H6
    have h2 := (HO3.out.below HX.out.1 HO3.out.lt).cell 2 (by simp)
    simp only [List.getD_cons_succ, List.getD_cons_zero] at h2
    obtain ⟨V, hV⟩ : ∃ V, V = t.wait := ⟨_, rfl⟩
    rw [← hV] at h2 hc
    by_cases hlt : i < n
    · have hii : (i : Int) < (n : Int) := by omega
      have hiid : decide ((i : Int) < (n : Int)) = true := decide_eq_true hii
      by_cases hcv : c < V
      · have hcc : (c : Int) < (V : Int) := by omega
        obtain ⟨o, a, h7⟩ := HX.out.2 (by omega)
        have H7 := Lib.hid h7
        clear h7 HX
        obtain ⟨sb, so, rfl, hcell, hv⟩ := (HR.out.later (HB3.out.trans (Below.mono H7.out.bel HB3.out.size))).oct i hlt
        obtain ⟨v, hvv⟩ : ∃ v, v = oct l i := ⟨_, rfl⟩
        rw [← hvv] at hcell hv
        have i0 : (0 : Int) ≤ (i : Int) := by omega
        obtain ⟨M1, hM1⟩ : ∃ M, bits BinOp.and IntKind.u8 (v : Int) 1 = M := ⟨_, rfl⟩
        obtain ⟨M2, hM2⟩ : ∃ M, bits BinOp.and IntKind.u8 (v : Int) 2 = M := ⟨_, rfl⟩
        obtain ⟨P, hP⟩ : ∃ P, (M1 == 1) = P := ⟨_, rfl⟩
        obtain ⟨Q, hQ⟩ : ∃ Q, (M2 == 2) = Q := ⟨_, rfl⟩
        have hw1 : IntKind.i64.wrap ((i : Int) + 1) = ((i + 1 : Nat) : Int) := by have := HG.out; rw [IntWalk.i64_in _ (by omega)]; omega
        obtain ⟨K, hK⟩ : ∃ K, K = i + 1 := ⟨_, rfl⟩
        rw [← hK] at hw1
        have hVl : V ≤ 20 := by have := HLo.out.w; omega
        have hw2 : IntKind.i64.wrap ((c : Int) + 1) = ((c + 1 : Nat) : Int) := by rw [IntWalk.i64_in _ (by omega)]; omega
        obtain ⟨C, hC⟩ : ∃ C, C = c + 1 := ⟨_, rfl⟩
        rw [← hC] at hw2
        have HK := Lib.hid (And.intro hK (And.intro hlt (And.intro hC (And.intro hcv hV))))
        have q1 : ((c : Int) == (V : Int)) = false := by simp; omega
        have q2 : ¬ c = V := by omega
        have HS := Lib.hid (fun W x (h : One W3 W b x) => (show W.cell? ⟨g, 2, none⟩ = some (.int .i64 (V : Int)) by rw [hV]; exact h.cell HO3.out 2 (by simp)))
        clear hK hlt hC hcv hV hi hc hvv hVl
        cases P <;> cases Q
        · go_wp2_with fail
          go_quiet (fail)
          have h8 := H7.out.drew nq
          generalize wr.drewN nq = W8 at h8 ⊢
          have H8 := Lib.hid h8
          clear h8 H7 hcell h2 hM1 hM2 hP hQ
          go_wp2_with fail
          with_reducible refine (outage_wt H8.out false).mono ?_
          rintro e w9 ⟨rfl, h9⟩
          have H9 := Lib.hid h9
          clear h9 H8
          go_wp2_with fail
          with_reducible refine (hear_wt H9.out false).mono ?_
          rintro e w10 ⟨rfl, h10⟩
          have H10 := Lib.hid h10
          clear h10 H9
          go_wp2_with fail
          with_reducible refine (show Calls Try.prog 15 #[.pointer (some ⟨b, 0, none⟩)] _ (fun e w' => e = .returned (.tuple #[.bool false, .bool false]) ∧ One W3 w' b (Fl.wt t c false false)) from held_wt H10.out).mono ?_
          rintro e w11 ⟨rfl, h11⟩
          have H11 := Lib.hid h11
          clear h11 H10
          go_wp2_with fail
          with_reducible refine (show Calls Try.prog 16 #[.pointer (some ⟨b, 0, none⟩)] _ (fun e w' => e = .returned (.int .u8 9) ∧ w' = _) from sends_wt 9 rfl H11.out).mono ?_
          rintro e w' ⟨rfl, rfl⟩
          go_wp2_with fail
          with_reducible refine (tick_wt H11.out).mono ?_
          rintro e w12 ⟨rfl, h12⟩
          have h2 := HS.out _ _ h12
          by_cases hl : C = V
          · have H12 := Lib.hid (show One W3 w12 b (Fl.wt t c false false).tick ∧ (Fl.wt t c false false).tick.failed = true from ⟨h12, wt_last t c (by have := HK.out; omega)⟩)
            clear h12 H11 HS
            have r1 : ((C : Int) == (V : Int)) = true := by simp; omega
            subst hl
            go_wp2_with fail
            go_quiet ((go_at_call 18; exact Calls.quiet_of_same (show Calls Try.prog 18 #[.pointer (some ⟨b, 0, none⟩)] _ (fun e w' => e = .returned (.bool true) ∧ w' = _) from H12.out.2 ▸ failed_one (H12.out.1.drew _))))
            go_wp2
            obtain ⟨hK, hlt, hC, hcv, hV⟩ := HK.out
            exact ⟨⟨C, K, by omega, by omega, rfl, rfl, (H12.out.1.drew _).bel, fun h => by omega⟩, by simp only [intOf]; omega⟩
          · have r1 : ((C : Int) == (V : Int)) = false := by simp; omega
            have r2 : ¬ (C : Int) = (V : Int) := by omega
            have H12 := Lib.hid (show One W3 w12 b (Fl.wt t C false false) from by have := HK.out; rw [this.2.2.1, ← wt_tick t c (by omega)]; exact h12)
            clear h12 H11 HS
            go_wp2_with fail
            go_quiet ((go_at_call 18; exact Calls.quiet_of_same (show Calls Try.prog 18 #[.pointer (some ⟨b, 0, none⟩)] _ (fun e w' => e = .returned (.bool false) ∧ w' = _) from failed_one (H12.out.drew _))))
            go_wp2
            obtain ⟨hK, hlt, hC, hcv, hV⟩ := HK.out
            exact ⟨⟨C, K, by omega, by omega, rfl, rfl, WtI.of (H12.out.drew _)⟩, by simp only [intOf]; omega⟩

        · go_wp2_with fail
          go_quiet (fail)
          have h8 := H7.out.drew nq
          generalize wr.drewN nq = W8 at h8 ⊢
          have H8 := Lib.hid h8
          clear h8 H7 hcell h2 hM1 hM2 hP hQ
          go_wp2_with fail
          with_reducible refine (outage_wt H8.out false).mono ?_
          rintro e w9 ⟨rfl, h9⟩
          have H9 := Lib.hid h9
          clear h9 H8
          go_wp2_with fail
          with_reducible refine (hear_wt H9.out true).mono ?_
          rintro e w10 ⟨rfl, h10⟩
          have H10 := Lib.hid h10
          clear h10 H9
          go_wp2_with fail
          with_reducible refine (show Calls Try.prog 15 #[.pointer (some ⟨b, 0, none⟩)] _ (fun e w' => e = .returned (.tuple #[.bool false, .bool true]) ∧ One W3 w' b (Fl.wt t c false true)) from held_wt H10.out).mono ?_
          rintro e w11 ⟨rfl, h11⟩
          have H11 := Lib.hid h11
          clear h11 H10
          go_wp2_with fail
          with_reducible refine (show Calls Try.prog 16 #[.pointer (some ⟨b, 0, none⟩)] _ (fun e w' => e = .returned (.int .u8 9) ∧ w' = _) from sends_wt 9 rfl H11.out).mono ?_
          rintro e w' ⟨rfl, rfl⟩
          go_wp2_with fail
          with_reducible refine (tick_wt H11.out).mono ?_
          rintro e w12 ⟨rfl, h12⟩
          rw [wt_held t c false true rfl] at h12
          have h2 := HS.out _ _ h12
          have H12 := Lib.hid h12
          clear h12 H11 HS
          go_wp2_with fail
          go_quiet ((go_at_call 18; exact Calls.quiet_of_same (show Calls Try.prog 18 #[.pointer (some ⟨b, 0, none⟩)] _ (fun e w' => e = .returned (.bool false) ∧ w' = _) from failed_one (H12.out.drew _))))
          go_wp2
          obtain ⟨hK, hlt, hC, hcv, hV⟩ := HK.out
          exact ⟨⟨c, K, by omega, by omega, rfl, rfl, WtI.of (H12.out.drew _)⟩, by simp only [intOf]; omega⟩

        · go_wp2_with fail
          go_quiet (fail)
          have h8 := H7.out.drew nq
          generalize wr.drewN nq = W8 at h8 ⊢
          have H8 := Lib.hid h8
          clear h8 H7 hcell h2 hM1 hM2 hP hQ
          go_wp2_with fail
          with_reducible refine (outage_wt H8.out true).mono ?_
          rintro e w9 ⟨rfl, h9⟩
          have H9 := Lib.hid h9
          clear h9 H8
          go_wp2_with fail
          with_reducible refine (hear_wt H9.out false).mono ?_
          rintro e w10 ⟨rfl, h10⟩
          have H10 := Lib.hid h10
          clear h10 H9
          go_wp2_with fail
          with_reducible refine (show Calls Try.prog 15 #[.pointer (some ⟨b, 0, none⟩)] _ (fun e w' => e = .returned (.tuple #[.bool false, .bool true]) ∧ One W3 w' b (Fl.wt t c true false)) from held_wt H10.out).mono ?_
          rintro e w11 ⟨rfl, h11⟩
          have H11 := Lib.hid h11
          clear h11 H10
          go_wp2_with fail
          with_reducible refine (show Calls Try.prog 16 #[.pointer (some ⟨b, 0, none⟩)] _ (fun e w' => e = .returned (.int .u8 4) ∧ w' = _) from sends_wt 4 rfl H11.out).mono ?_
          rintro e w' ⟨rfl, rfl⟩
          go_wp2_with fail
          with_reducible refine (tick_wt H11.out).mono ?_
          rintro e w12 ⟨rfl, h12⟩
          rw [wt_held t c true false rfl] at h12
          have h2 := HS.out _ _ h12
          have H12 := Lib.hid h12
          clear h12 H11 HS
          go_wp2_with fail
          go_quiet ((go_at_call 18; exact Calls.quiet_of_same (show Calls Try.prog 18 #[.pointer (some ⟨b, 0, none⟩)] _ (fun e w' => e = .returned (.bool false) ∧ w' = _) from failed_one (H12.out.drew _))))
          go_wp2
          obtain ⟨hK, hlt, hC, hcv, hV⟩ := HK.out
          exact ⟨⟨c, K, by omega, by omega, rfl, rfl, WtI.of (H12.out.drew _)⟩, by simp only [intOf]; omega⟩

        · go_wp2_with fail
          go_quiet (fail)
          have h8 := H7.out.drew nq
          generalize wr.drewN nq = W8 at h8 ⊢
          have H8 := Lib.hid h8
          clear h8 H7 hcell h2 hM1 hM2 hP hQ
          go_wp2_with fail
          with_reducible refine (outage_wt H8.out true).mono ?_
          rintro e w9 ⟨rfl, h9⟩
          have H9 := Lib.hid h9
          clear h9 H8
          go_wp2_with fail
          with_reducible refine (hear_wt H9.out true).mono ?_
          rintro e w10 ⟨rfl, h10⟩
          have H10 := Lib.hid h10
          clear h10 H9
          go_wp2_with fail
          with_reducible refine (show Calls Try.prog 15 #[.pointer (some ⟨b, 0, none⟩)] _ (fun e w' => e = .returned (.tuple #[.bool false, .bool true]) ∧ One W3 w' b (Fl.wt t c true true)) from held_wt H10.out).mono ?_
          rintro e w11 ⟨rfl, h11⟩
          have H11 := Lib.hid h11
          clear h11 H10
          go_wp2_with fail
          with_reducible refine (show Calls Try.prog 16 #[.pointer (some ⟨b, 0, none⟩)] _ (fun e w' => e = .returned (.int .u8 4) ∧ w' = _) from sends_wt 4 rfl H11.out).mono ?_
          rintro e w' ⟨rfl, rfl⟩
          go_wp2_with fail
          with_reducible refine (tick_wt H11.out).mono ?_
          rintro e w12 ⟨rfl, h12⟩
          rw [wt_held t c true true rfl] at h12
          have h2 := HS.out _ _ h12
          have H12 := Lib.hid h12
          clear h12 H11 HS
          go_wp2_with fail
          go_quiet ((go_at_call 18; exact Calls.quiet_of_same (show Calls Try.prog 18 #[.pointer (some ⟨b, 0, none⟩)] _ (fun e w' => e = .returned (.bool false) ∧ w' = _) from failed_one (H12.out.drew _))))
          go_wp2
          obtain ⟨hK, hlt, hC, hcv, hV⟩ := HK.out
          exact ⟨⟨c, K, by omega, by omega, rfl, rfl, WtI.of (H12.out.drew _)⟩, by simp only [intOf]; omega⟩

      · have hcc : ¬ (c : Int) < (V : Int) := by omega
        clear hlt hcv hi hc hV
        go_wp2_with fail
        with_reducible refine (HLv.out _).mono ?_
        rintro e w99 ⟨rfl, hb99⟩
        have HB99 := Lib.hid ((HB3.out.trans (Below.mono HX.out.1 HB3.out.size)).trans (Below.mono hb99 (HB3.out.trans (Below.mono HX.out.1 HB3.out.size)).size))
        clear hb99 HLv
        go_wp2
        go_ret
        exact ⟨rfl, HB99.out⟩
    · have hii : ¬ (i : Int) < (n : Int) := by omega
      have hiid : decide ((i : Int) < (n : Int)) = false := decide_eq_false hii
      clear hlt hi hc hV
      go_wp2_with fail
      with_reducible refine (HLv.out _).mono ?_
      rintro e w99 ⟨rfl, hb99⟩
      have HB99 := Lib.hid ((HB3.out.trans (Below.mono HX.out.1 HB3.out.size)).trans (Below.mono hb99 (HB3.out.trans (Below.mono HX.out.1 HB3.out.size)).size))
      clear hb99 HLv
      go_wp2
      go_ret
      exact ⟨rfl, HB99.out⟩
end Go.Proofs.Ytmjgagbmpcbjmaa
