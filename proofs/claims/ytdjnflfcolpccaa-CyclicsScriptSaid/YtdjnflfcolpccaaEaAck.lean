/- The code's end of a link: what is acknowledged. -/
import Derived.Test.YtdjnflfcolpccaaCyNext
import Derived.StillTailTactics
namespace Go.Proofs.Ytdjnflfcolpccaa
open Go.RowKit

def En.ackd (x : En) (t : Nat) : En := { x with una := x.una.drop (x.ahead t), plc := x.plc - x.ahead t }
set_option maxHeartbeats 4000000 in
set_option maxRecDepth 100000 in
theorem ack_ok (b : Nat) (x : En) (L : ELay) (w : World) (t : Nat) (h : EndL w b x L) (ht : t < 256) (hle : x.ahead t ≤ x.una.length) :
    Calls Try.prog 36 #[.pointer (some ⟨b, 0, none⟩), .int .u8 (t : Int)] w fun e w' => e = .returned (.tuple #[]) ∧ ∃ L', EndL w' b (x.ackd t) L' ∧ L'.S b = L.S b ∧ Exc (fun k => k = b) w w' := by
  have hcon := covers_any b x L w t h ht
  obtain ⟨A, hs1, hs2, hro⟩ := rows_cut h.o (x.ahead t) hle (by have := h.fit.una; omega)
  obtain ⟨D, hD⟩ : ∃ D, D = x.ahead t := ⟨_, rfl⟩
  rw [← hD] at hcon hs1 hs2 hro hle
  obtain ⟨M, hM⟩ : ∃ M, M = x.una.length - D := ⟨_, rfl⟩
  rw [← hM] at hs1 hs2
  obtain ⟨P, hP⟩ : ∃ P, P = x.plc - D := ⟨_, rfl⟩
  have hfit := h.fit
  have hul := hfit.una
  have hpl := hfit.plc
  have hwr : IntKind.i64.wrap ((x.plc : Int) - (D : Int)) = (x.plc : Int) - (D : Int) := by rw [IntWalk.i64_in _ (by omega)]
  have hmx : (if (x.plc : Int) - (D : Int) < 0 then (0 : Int) else (x.plc : Int) - (D : Int)) = (P : Int) := by split <;> omega
  have hmx2 : max ((x.plc : Int) - (D : Int)) 0 = (P : Int) := by omega
  have HM := Lib.hid hM
  have HP := Lib.hid hP
  have H := Lib.hid h
  have HC := Lib.hid hcon
  have HRo := Lib.hid hro
  have HD := Lib.hid hD
  have HLe := Lib.hid hle
  have HF := Lib.hid hfit
  clear h hcon hro hD hle hM hP hfit
  go_enter Try.func36, Try.ntmps36
  go_wp2_with fail
  refine HC.out.mono ?_
  rintro e w1 ⟨rfl, q, hq⟩
  have hb1 : Below w.heap.size w w1 := by rw [hq]; exact below_draw _ _
  have h1 := H.out.later hb1
  have c3 := h1.cells.2.2.2.1
  have c4 := h1.cells.2.2.2.2.1
  have f3 := h1.own.frozen 3
  have f4 := h1.own.frozen 4
  have H1 := Lib.hid h1
  have HB1 := Lib.hid hb1
  clear h1 hb1 hq HC
  go_wp2_with fail
  go_end0
  generalize hW2 : (w1.setCell ⟨b, 3, none⟩ (.slice A M (L.co - D))).setCell ⟨b, 4, none⟩ (.int .i64 (P : Int)) = W2
  have hx12 : Exc (fun k => k = b) w1 W2 := by rw [← hW2]; exact ((Exc.refl (fun k => k = b) w1).setCell ⟨b, 3, none⟩ (.inl rfl) _).setCell ⟨b, 4, none⟩ (.inl rfl) _
  have hx02 : Exc (fun k => k = b) w W2 := (Exc.of_below HB1.out).trans hx12 (fun _ _ hk => hk)
  have ho2 : Own W2 b 79 (((endCells x L).set 3 (.slice A M (L.co - D))).set 4 (.int .i64 (P : Int))) := by rw [← hW2]; exact (H1.out.own.set 3 _).set 4 _
  have hf := HF.out
  have hM := HM.out
  have hP := HP.out
  have hle := HLe.out
  have e0 : x.ackd t = { x with una := x.una.drop D, plc := P } := by unfold En.ackd; rw [← HD.out, hP]
  rw [e0]
  have h2 := H.out.cuto (x' := { x with una := x.una.drop D, plc := P }) (p := D) hx02 HRo.out rfl rfl ⟨hf.que, by show (x.una.drop D).length ≤ 127; rw [List.length_drop]; omega, by show P ≤ (x.una.drop D).length; rw [List.length_drop]; omega, hf.lm1, hf.lm2, hf.lo1, hf.lo2, hf.sent, hf.acc⟩ (by
    have e : endCells { x with una := x.una.drop D, plc := P } { L with ao := A, co := L.co - D } = ((endCells x L).set 3 (.slice A M (L.co - D))).set 4 (.int .i64 (P : Int)) := by simp [endCells, hM]
    rw [e]; exact ho2)
  exact ⟨rfl, _, h2, rfl, hx02⟩
end Go.Proofs.Ytdjnflfcolpccaa
