/- The code's end of a link: a forced repetition begins, or ends. -/
import Derived.Test.YtdjnflfcolpccaaCyLimited
import Derived.Test.YtdjnflfcolpccaaEaAdd
namespace Go.Proofs.Ytdjnflfcolpccaa
open Go.RowKit

theorem En.pre_fit {x : En} (h : x.Fit) : x.pre.Fit := by
  rcases x.pre_cases with ⟨_, _, e⟩ | ⟨_, _, e⟩ | ⟨_, _, e⟩ | ⟨_, _, e⟩
  · rw [e]; exact ⟨h.que, h.una, Nat.zero_le _, h.lm1, h.lm2, h.lo1, h.lo2, h.sent, h.acc⟩
  · rw [e]; exact h
  · rw [e]; exact ⟨h.que, h.una, h.plc, h.lm1, h.lm2, h.lo1, h.lo2, h.sent, h.acc⟩
  · rw [e]; exact h
theorem EndL.turn0 {w w' : World} {b : Nat} {x' : En} {L : ELay} (h : EndL w' b x' L) (hx : Exc (fun k => k = b) w w') : EndL w' b x' L ∧ Turn (L.S b) w (L.S b) w' := ⟨h, hx.weak (fun _ _ hk => .inl hk), fun _ hk => .inl hk⟩
set_option maxHeartbeats 2000000 in
set_option maxRecDepth 100000 in
theorem force_any (b : Nat) (x : En) (L : ELay) (w : World) (h : EndL w b x L) :
    Calls Try.prog 45 #[.pointer (some ⟨b, 0, none⟩)] w fun e w' => e = .returned (.tuple #[]) ∧ EndL w' b x.pre L ∧ Exc (fun k => k = b) w w' := by
  rcases x.pre_cases with ⟨p1, p2, e⟩ | ⟨p1, p2, e⟩ | ⟨p1, p2, e⟩ | ⟨p1, p2, e⟩
  · rw [e]
    have hcon := limited_any b x L w h
    have hpf := En.pre_fit h.fit
    rw [e] at hpf
    have H := Lib.hid h
    have HC := Lib.hid hcon
    have HF := Lib.hid hpf
    clear hcon h hpf
    go_enter Try.func45, Try.ntmps45
    go_wp2_with fail
    refine HC.out.mono ?_
    rintro ee w1 ⟨rfl, hb1⟩
    have h1 := H.out.later hb1
    have c4 := h1.cells.2.2.2.2.1
    have c3 := h1.cells.2.2.2.1
    have c5 := h1.cells.2.2.2.2.2.1
    have f5 := h1.own.frozen 5
    have f4 := h1.own.frozen 4
    have hx1 : Exc (fun k => k = b) w w1 := Exc.of_below hb1
    have H1 := Lib.hid h1
    have HX1 := Lib.hid hx1
    clear hb1 h1 hx1 HC
    rw [p1]
    rw [p2] at c5
    clear p1 p2 e
    go_wp2_with fail
    go_end0
    have hx2 : Exc (fun k => k = b) w1 ((w1.setCell ⟨b, 5, none⟩ (.bool true)).setCell ⟨b, 4, none⟩ (.int .i64 0)) := ((Exc.refl (fun k => k = b) w1).setCell ⟨b, 5, none⟩ (.inl rfl) _).setCell ⟨b, 4, none⟩ (.inl rfl) _
    refine ⟨rfl, H1.out.redo (x' := { x with forced := true, plc := 0 }) hx2 ?_ rfl rfl HF.out, HX1.out.trans hx2 (fun _ _ hk => hk)⟩
    have ho := (H1.out.own.set 5 (.bool true)).set 4 (.int .i64 0)
    have e : endCells { x with forced := true, plc := 0 } L = ((endCells x L).set 5 (.bool true)).set 4 (.int .i64 0) := by simp [endCells]
    rw [e]; exact ho
  · rw [e]
    have hcon := limited_any b x L w h
    have hpf := En.pre_fit h.fit
    rw [e] at hpf
    have H := Lib.hid h
    have HC := Lib.hid hcon
    have HF := Lib.hid hpf
    clear hcon h hpf
    go_enter Try.func45, Try.ntmps45
    go_wp2_with fail
    refine HC.out.mono ?_
    rintro ee w1 ⟨rfl, hb1⟩
    have h1 := H.out.later hb1
    have c4 := h1.cells.2.2.2.2.1
    have c3 := h1.cells.2.2.2.1
    have c5 := h1.cells.2.2.2.2.2.1
    have f5 := h1.own.frozen 5
    have f4 := h1.own.frozen 4
    have hx1 : Exc (fun k => k = b) w w1 := Exc.of_below hb1
    have H1 := Lib.hid h1
    have HX1 := Lib.hid hx1
    clear hb1 h1 hx1 HC
    rw [p1]
    rw [p2] at c5
    clear p1 p2 e
    go_wp2_with fail
    go_quiet (fail)
    go_wp2_with fail
    go_end0
    refine ⟨rfl, H1.out.later (below_draw _ _), HX1.out.trans (S' := fun _ => False) (Exc.of_below (below_draw _ _)) (fun _ _ hk => hk.elim)⟩
  · rw [e]
    have hcon := limited_any b x L w h
    have hpf := En.pre_fit h.fit
    rw [e] at hpf
    have H := Lib.hid h
    have HC := Lib.hid hcon
    have HF := Lib.hid hpf
    clear hcon h hpf
    go_enter Try.func45, Try.ntmps45
    go_wp2_with fail
    refine HC.out.mono ?_
    rintro ee w1 ⟨rfl, hb1⟩
    have h1 := H.out.later hb1
    have c4 := h1.cells.2.2.2.2.1
    have c3 := h1.cells.2.2.2.1
    have c5 := h1.cells.2.2.2.2.2.1
    have f5 := h1.own.frozen 5
    have f4 := h1.own.frozen 4
    have hx1 : Exc (fun k => k = b) w w1 := Exc.of_below hb1
    have H1 := Lib.hid h1
    have HX1 := Lib.hid hx1
    clear hb1 h1 hx1 HC
    rw [p1]
    have hq : ((x.plc : Int) == (x.una.length : Int)) = true := by simp; omega
    clear p1 p2 e
    go_wp2_with fail
    go_quiet (fail)
    generalize hW2 : w1.drewN nq = W2
    have hb2 : Below w1.heap.size w1 W2 := by rw [← hW2]; exact below_draw _ _
    have h2 := H1.out.later hb2
    have g5 := h2.cells.2.2.2.2.2.1
    have k5 := h2.own.frozen 5
    have H2 := Lib.hid h2
    have HB2 := Lib.hid hb2
    clear hW2 hb2 h2 c3 c4 c5 f4 f5
    go_wp2_with fail
    go_end0
    have hx2 : Exc (fun k => k = b) W2 (W2.setCell ⟨b, 5, none⟩ (.bool false)) := (Exc.refl (fun k => k = b) W2).setCell ⟨b, 5, none⟩ (.inl rfl) _
    refine ⟨rfl, H2.out.redo (x' := { x with forced := false }) hx2 ?_ rfl rfl HF.out, (HX1.out.trans (S' := fun _ => False) (Exc.of_below HB2.out) (fun _ _ hk => hk.elim)).trans hx2 (fun _ _ hk => hk)⟩
    have ho := H2.out.own.set 5 (.bool false)
    have e : endCells { x with forced := false } L = (endCells x L).set 5 (.bool false) := by simp [endCells]
    rw [e]; exact ho
  · rw [e]
    have hcon := limited_any b x L w h
    have hpf := En.pre_fit h.fit
    rw [e] at hpf
    have H := Lib.hid h
    have HC := Lib.hid hcon
    have HF := Lib.hid hpf
    clear hcon h hpf
    go_enter Try.func45, Try.ntmps45
    go_wp2_with fail
    refine HC.out.mono ?_
    rintro ee w1 ⟨rfl, hb1⟩
    have h1 := H.out.later hb1
    have c4 := h1.cells.2.2.2.2.1
    have c3 := h1.cells.2.2.2.1
    have c5 := h1.cells.2.2.2.2.2.1
    have f5 := h1.own.frozen 5
    have f4 := h1.own.frozen 4
    have hx1 : Exc (fun k => k = b) w w1 := Exc.of_below hb1
    have H1 := Lib.hid h1
    have HX1 := Lib.hid hx1
    clear hb1 h1 hx1 HC
    rw [p1]
    have hq : ((x.plc : Int) == (x.una.length : Int)) = false := by simp; omega
    clear p1 p2 e
    go_wp2_with fail
    go_quiet (fail)
    go_wp2_with fail
    go_end0
    refine ⟨rfl, H1.out.later (below_draw _ _), HX1.out.trans (S' := fun _ => False) (Exc.of_below (below_draw _ _)) (fun _ _ hk => hk.elim)⟩
end Go.Proofs.Ytdjnflfcolpccaa
