/- Tick of a machine. -/
import Derived.Test.YtpjdodgbidkblaaRsAct
namespace Go.Proofs.Ytpjdodgbidkblaa
open Go.RowKit Go.Maps

/-- What Tick leaves. -/
def TickOut (mb bm : Nat) (m : Mc) (now : Int) (w : World) (e : Ending) (w' : World) : Prop := e = .returned (.bool (m.ends now)) ∧ McAt w' mb bm (m.tick now) ∧ Exc (Mu mb bm) w w'
theorem TickOut.no {mb bm : Nat} {m : Mc} {now : Int} {w w' : World} (h : McAt w' mb bm m) (hx : Exc (Mu mb bm) w w') (hq : m.ends now = false) : TickOut mb bm m now w (.returned (.bool false)) w' := by
  refine ⟨by rw [hq], ?_, hx⟩
  unfold Mc.tick
  rw [hq, if_neg (by simp)]
  exact h
theorem TickOut.yes {mb bm : Nat} {m : Mc} {now : Int} {w w' : World} (h : McAt w' mb bm m) (hx : Exc (Mu mb bm) w w') (hq : m.ends now = true) : TickOut mb bm m now w (.returned (.bool true)) (w'.setCell ⟨mb, 2, none⟩ (.int .u8 0)) := by
  refine ⟨by rw [hq], ?_, hx.setCell ⟨mb, 2, none⟩ (.inl (.inl rfl)) _⟩
  unfold Mc.tick
  rw [hq, if_pos rfl]
  exact ⟨h.own.set 2 (.int .u8 0), h.map.exc ((Exc.refl (fun k => k = mb) _).setCell ⟨mb, 2, none⟩ (.inl rfl) _) (fun e => h.ne e.symm), h.base, h.beg, ⟨by simp, by simp⟩, h.wfN⟩
set_option maxHeartbeats 4000000 in
set_option maxRecDepth 100000 in
theorem tick_any {mb bm : Nat} {m : Mc} (now : Int) (w : World) (h : McAt w mb bm m) : Calls Try.prog 13 #[.pointer (some ⟨mb, 0, none⟩), .int .i64 now] w (TickOut mb bm m now w) := by
  have hS := state_any w h
  have H := Lib.hid h
  obtain ⟨st, hst⟩ : ∃ s, s = m.st := ⟨_, rfl⟩
  rw [← hst] at hS
  have HS := Lib.hid hS
  clear hS h
  by_cases hs : st = 2
  · have hs1 : (st != 2) = false := by rw [hs]; rfl
    have HQ : Hid (m.ends now = !(m.any isOpB && decide (now < m.fin))) := Lib.hid (by unfold Mc.ends; rw [decide_eq_true (show m.st = 2 by rw [← hst]; exact hs), Bool.true_and])
    clear hst hs
    go_enter Try.func13, Try.ntmps13
    go_wp2_with fail
    with_reducible refine HS.out.mono ?_
    rintro e w' ⟨rfl, rfl⟩
    go_wp2_with fail
    refine (has_open w H.out).mono ?_
    rintro e w1 ⟨rfl, hb⟩
    have H1 := Lib.hid (H.out.below hb)
    have HB := Lib.hid hb
    obtain ⟨q, hq⟩ : ∃ q, q = m.any isOpB := ⟨_, rfl⟩
    have hQ := HQ.out
    rw [← hq] at hQ ⊢
    have HQ := Lib.hid hQ
    clear hb hQ hq
    cases q
    · have f2 := H1.out.own.frozen 2
      obtain ⟨g0, g1, g2, g3⟩ := H1.out.cells
      go_wp2
      go_ret
      exact TickOut.yes H1.out (Exc.of_below HB.out) (by rw [HQ.out]; rfl)
    · go_wp2_with fail
      refine (end_any w1 H1.out).mono ?_
      rintro e w2 ⟨rfl, hb⟩
      have H2 := Lib.hid (H1.out.below hb)
      have HB2 := Lib.hid (HB.out.trans (hb.mono HB.out.size))
      obtain ⟨E, hE⟩ : ∃ E, E = m.fin := ⟨_, rfl⟩
      have hQ := HQ.out
      rw [← hE] at hQ ⊢
      have HQ := Lib.hid hQ
      clear hb hQ hE
      by_cases hlt : now < E
      · have HL := Lib.hid hlt
        go_wp2
        go_ret
        exact TickOut.no H2.out (Exc.of_below HB2.out) (by rw [HQ.out, decide_eq_true HL.out]; rfl)
      · have HL := Lib.hid hlt
        have f2 := H2.out.own.frozen 2
        obtain ⟨g0, g1, g2, g3⟩ := H2.out.cells
        go_wp2
        go_ret
        exact TickOut.yes H2.out (Exc.of_below HB2.out) (by rw [HQ.out, decide_eq_false (by have := HL.out; omega)]; rfl)
  · have hs1 : (st != 2) = true := by simpa using hs
    have HQ : Hid (m.ends now = false) := Lib.hid (by unfold Mc.ends; rw [decide_eq_false (show ¬ m.st = 2 by rw [← hst]; exact hs), Bool.false_and])
    clear hst hs
    go_enter Try.func13, Try.ntmps13
    go_wp2_with fail
    with_reducible refine HS.out.mono ?_
    rintro e w' ⟨rfl, rfl⟩
    go_wp2
    go_ret
    exact TickOut.no H.out (Exc.refl _ _) HQ.out
end Go.Proofs.Ytpjdodgbidkblaa
