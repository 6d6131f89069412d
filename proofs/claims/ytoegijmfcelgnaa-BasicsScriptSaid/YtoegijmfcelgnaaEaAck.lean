/- The code's end of a link: what is acknowledged. -/
import Derived.Test.YtoegijmfcelgnaaEaNumber
import Derived.StillTailTactics
namespace Go.Proofs.Ytoegijmfcelgnaa
open Go.RowKit

def En.ackd (x : En) (t : Nat) (bit : Bool) : En :=
  { x with una := x.una.drop (x.ahead t), fore := bit, rep := if bit = x.fore then min x.rep (x.una.length - x.ahead t) else x.una.length - x.ahead t }
set_option maxHeartbeats 4000000 in
set_option maxRecDepth 100000 in
theorem ack_ok (b : Nat) (x : En) (L : ELay) (w : World) (t : Nat) (bit : Bool) (h : EndL w b x L) (ht : t < 256) (hle : x.ahead t ≤ x.una.length) :
    Calls Try.prog 34 #[.pointer (some ⟨b, 0, none⟩), .int .u8 (t : Int), .bool bit] w fun e w' => e = .returned (.tuple #[]) ∧ ∃ L', EndL w' b (x.ackd t bit) L' ∧ L'.S b = L.S b ∧ Exc (fun k => k = b) w w' := by
  have hcon : ∀ W, W = w.drew → Calls Try.prog 33 #[.pointer (some ⟨b, 0, none⟩), .int .u8 (t : Int)] W fun e w' => e = .returned (.int .i64 ((x.ahead t : Nat) : Int)) ∧ ∃ q, w' = W.drewN q := fun W hW => by
    subst hW
    exact covers_any b x L w.drew t (h.later (below_draw w 1)) ht
  obtain ⟨A, hs1, hs2, hro⟩ := rows_cut h.o (x.ahead t) hle (by have := h.fit.una; omega)
  obtain ⟨D, hD⟩ : ∃ D, D = x.ahead t := ⟨_, rfl⟩
  rw [← hD] at hcon hs1 hs2 hro hle
  obtain ⟨M, hM⟩ : ∃ M, M = x.una.length - D := ⟨_, rfl⟩
  rw [← hM] at hs1 hs2
  have HM := Lib.hid hM
  have c1 := h.cells.2.1
  have f1 := h.own.frozen 1
  have H := Lib.hid h
  have HC := Lib.hid hcon
  have HRo := Lib.hid hro
  have HD := Lib.hid hD
  have HLe := Lib.hid hle
  clear h hcon hro hD hle hM
  go_enter Try.func34, Try.ntmps34
  go_wp2_with fail
  go_region_law
    (first
      | (go_simp; go_at_call 33; ((with_reducible refine (HC.out _ rfl).mono ?_); rintro e w3 ⟨rfl, q, rfl⟩; dsimp only))
      | fail)
  all_goals
    generalize hW1 : (w.drewN (1 + q)).setCell ⟨b, 1, none⟩ (.slice A M (L.co - D)) = W1
    have hx1 : Exc (fun k => k = b) w W1 := by rw [← hW1]; exact ((Exc.refl (fun k => k = b) w).drawN (1 + q)).setCell ⟨b, 1, none⟩ (.inl rfl) _
    have ho1 : Own W1 b 77 ((endCells x L).set 1 (.slice A M (L.co - D))) := by rw [← hW1]; exact (H.out.own.below (below_draw w (1 + q)) H.out.own.lt).set 1 _
    have c1' := ho1.cell 1 (by simp [endCells])
    have c2 := ho1.cell 2 (by simp [endCells])
    have c4 := ho1.cell 4 (by simp [endCells])
    have f2 := ho1.frozen 2
    have f4 := ho1.frozen 4
    simp only [endCells, List.set_cons_succ, List.set_cons_zero, List.getD_cons_succ, List.getD_cons_zero] at c1' c2 c4
    have HX1 := Lib.hid hx1
    have HO1 := Lib.hid ho1
    clear hx1 ho1 hW1 c1 f1 hs1 hs2
    go_wp2_with fail
    go_region
    have hR : (if M < x.rep then (M : Int) else (x.rep : Int)) = ((min x.rep M : Nat) : Int) := by split <;> omega
    rw [hR]
    generalize hW2 : (W1.setCell ⟨b, 2, none⟩ (.int .i64 ((min x.rep M : Nat) : Int))).drew = W2
    have hx12 : Exc (fun k => k = b) W1 W2 := by rw [← hW2]; exact ((Exc.refl (fun k => k = b) W1).setCell ⟨b, 2, none⟩ (.inl rfl) _).drawN 1
    have hx02 : Exc (fun k => k = b) w W2 := HX1.out.trans hx12 (fun k _ hk => hk)
    have ho2 : Own W2 b 77 (((endCells x L).set 1 (.slice A M (L.co - D))).set 2 (.int .i64 ((min x.rep M : Nat) : Int))) := by rw [← hW2]; exact Own.drewK (HO1.out.set 2 _)
    have hf := H.out.fit
    have h2 := H.out.cuto (x' := { x with una := x.una.drop D, rep := min x.rep M }) (p := D) hx02 HRo.out rfl rfl ⟨hf.que, by show (x.una.drop D).length ≤ 127; rw [List.length_drop]; have := hf.una; omega, by show min x.rep M ≤ (x.una.drop D).length; rw [List.length_drop, ← HM.out]; omega, hf.sent, hf.acc⟩ (by
      have e : endCells { x with una := x.una.drop D, rep := min x.rep M } { L with ao := A, co := L.co - D } = ((endCells x L).set 1 (.slice A M (L.co - D))).set 2 (.int .i64 ((min x.rep M : Nat) : Int)) := by simp [endCells, HM.out]
      rw [e]; exact ho2)
    obtain ⟨L2, hL2⟩ : ∃ L2, L2 = ({ L with ao := A, co := L.co - D } : ELay) := ⟨_, rfl⟩
    rw [← hL2] at h2
    obtain ⟨x2, hx2⟩ : ∃ x2, x2 = ({ x with una := x.una.drop D, rep := min x.rep M } : En) := ⟨_, rfl⟩
    rw [← hx2] at h2
    have e1 : x2.una.length = M := by rw [hx2, HM.out]; simp
    have e4 : x2.fore = x.fore := by rw [hx2]
    have hS : L2.S b = L.S b := by rw [hL2]; rfl
    have c1 := h2.cells.2.1
    have c4b := h2.cells.2.2.2.2.1
    have f4b := h2.own.frozen 4
    have f2b := h2.own.frozen 2
    have c2b := h2.cells.2.2.1
    rw [e1] at c1
    rw [e4] at c4b
    have H2 := Lib.hid h2
    have HX2 := Lib.hid hx2
    have HX02 := Lib.hid hx02
    have HS := Lib.hid hS
    have HE1 := Lib.hid e1
    clear h2 hx2 hx02 hS e1 e4 hL2 hf ho2 hx12 hW2 hR c1' c2 c4 f2 f4
    cases hbit : bit <;> cases hfo : x.fore
    all_goals
      rw [hfo] at c4b
      have HBF := Lib.hid (And.intro hbit hfo)
      clear hbit hfo
      go_wp2
    all_goals
      first
        | (go_end0
           refine ⟨rfl, L2, ?_, HS.out, HX02.out⟩
           have e : x.ackd t bit = x2 := by
             rw [HX2.out]; unfold En.ackd
             rw [← HD.out, ← HM.out, HBF.out.1, HBF.out.2]
             simp
           rw [e]; exact H2.out)
        | (have hg : ∃ v, v = bit := ⟨_, rfl⟩
           obtain ⟨v, hv⟩ := hg
           generalize hW3 : (W2.setCell ⟨b, 4, none⟩ (.bool _)).setCell ⟨b, 2, none⟩ (.int .i64 (M : Int)) = W3
           have hx23 : Exc (fun k => k = b) W2 W3 := by rw [← hW3]; exact ((Exc.refl (fun k => k = b) W2).setCell ⟨b, 4, none⟩ (.inl rfl) _).setCell ⟨b, 2, none⟩ (.inl rfl) _
           have ho3 := (H2.out.own.set 4 (.bool v)).set 2 (.int .i64 (M : Int))
           have hv2 := hv.trans HBF.out.1
           rw [hv2, hW3] at ho3
           have h3 := H2.out.redo (x' := { x2 with fore := bit, rep := M }) hx23 (by
             have e : endCells { x2 with fore := bit, rep := M } L2 = ((endCells x2 L2).set 4 (.bool bit)).set 2 (.int .i64 (M : Int)) := by simp [endCells]
             rw [e, HBF.out.1]; exact ho3) rfl rfl (by
             have hf := H2.out.fit
             exact ⟨hf.que, hf.una, by show M ≤ x2.una.length; rw [HE1.out]; exact Nat.le_refl _, hf.sent, hf.acc⟩)
           go_end0
           refine ⟨rfl, L2, ?_, HS.out, HX02.out.trans hx23 (fun k _ hk => hk)⟩
           have e : x.ackd t bit = { x2 with fore := bit, rep := M } := by
             rw [HX2.out]; unfold En.ackd
             rw [← HD.out, ← HM.out, HBF.out.1, HBF.out.2]
             simp
           rw [e]; exact h3)
end Go.Proofs.Ytoegijmfcelgnaa
