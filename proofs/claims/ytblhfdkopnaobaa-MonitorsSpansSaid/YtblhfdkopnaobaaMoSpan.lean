/- Monitors: contracts of the code's methods: Reset, and the Span. -/
import Derived.Test.YtblhfdkopnaobaaMoCode
namespace Go.Proofs.Ytblhfdkopnaobaa
open Go.RowKit

set_option maxHeartbeats 1000000 in
set_option maxRecDepth 100000 in
theorem rate_reset (b : Nat) (m : Mo) (w : World) (h : MoAt w b m) (hk : m.kd = .rate) :
    Calls Try.prog 46 #[.pointer (some ⟨b, 0, none⟩)] w fun e w' => e = .returned (.tuple #[]) ∧ MoAt w' b { m with lvl := 0, cnt := 0 } ∧ Exc (fun k => k = b) w w' := by
  have hc := mreset_any b m w h
  have HC := Lib.hid hc
  have H := Lib.hid h
  have HK := Lib.hid hk
  clear hc h hk
  go_enter Try.func46, Try.ntmps46
  go_wp2_with fail
  with_reducible refine HC.out.mono ?_
  rintro e W1 ⟨rfl, hW⟩
  have o1 : Own W1 b ({ m with lvl := 0 } : Mo).kd.ty ({ m with lvl := 0 } : Mo).cells := by
    rw [hW]
    have h1 := H.out.own.set 0 (.int .i64 0)
    rw [Mo.cells_rate HK.out] at h1
    rw [Mo.cells_rate (m := { m with lvl := 0 }) HK.out]
    exact h1
  have x1 : Exc (fun k => k = b) w W1 := by rw [hW]; exact exc_set _ _ _ _
  have c3 := own_r3 o1 HK.out
  have f3 := o1.frozen 3
  dsimp only at c3
  have O1 := Lib.hid o1
  have X1 := Lib.hid x1
  clear o1 x1 hW HC
  go_wp2
  go_end0
  have o2 := own_cnt_rate O1.out HK.out 0
  have h := H.out.fit
  exact ⟨rfl, ⟨o2, ⟨h.lim0, h.lim1, Nat.zero_le _, h.size0, h.size1, h.up1, h.down1, h.size0⟩⟩, X1.out.setCell _ (.inl rfl) _⟩
theorem own_s {w : World} {b : Nat} {m : Mo} (h : Own w b m.kd.ty m.cells) (hk : m.kd = .span) :
    w.cell? ⟨b, 0, none⟩ = some (.int .i64 (m.lvl : Int)) ∧ w.cell? ⟨b, 1, none⟩ = some (.int .i64 (m.lim : Int)) ∧ w.cell? ⟨b, 2, none⟩ = some (.int .i64 (m.size : Int)) ∧ w.cell? ⟨b, 3, none⟩ = some (.int .i64 (m.up : Int)) ∧ w.cell? ⟨b, 4, none⟩ = some (.int .i64 (m.down : Int)) ∧ w.cell? ⟨b, 5, none⟩ = some (.int .i64 (m.cnt : Int)) ∧ w.cell? ⟨b, 6, none⟩ = some (.bool m.wrong) := by
  rw [Mo.cells_span hk] at h
  exact ⟨h.cell 0 (by simp), h.cell 1 (by simp), h.cell 2 (by simp), h.cell 3 (by simp), h.cell 4 (by simp), h.cell 5 (by simp), h.cell 6 (by simp)⟩
theorem own_cnt_span {w : World} {b : Nat} {m : Mo} (h : Own w b m.kd.ty m.cells) (hk : m.kd = .span) (c : Nat) : Own (w.setCell ⟨b, 5, none⟩ (.int .i64 (c : Int))) b ({ m with cnt := c } : Mo).kd.ty ({ m with cnt := c } : Mo).cells := by
  have h1 := h.set 5 (.int .i64 (c : Int))
  rw [Mo.cells_span hk] at h1
  rw [Mo.cells_span (m := { m with cnt := c }) hk]
  exact h1
theorem own_wrong_span {w : World} {b : Nat} {m : Mo} (h : Own w b m.kd.ty m.cells) (hk : m.kd = .span) (c : Bool) : Own (w.setCell ⟨b, 6, none⟩ (.bool c)) b ({ m with wrong := c } : Mo).kd.ty ({ m with wrong := c } : Mo).cells := by
  have h1 := h.set 6 (.bool c)
  rw [Mo.cells_span hk] at h1
  rw [Mo.cells_span (m := { m with wrong := c }) hk]
  exact h1
theorem own_lvl_span {w : World} {b : Nat} {m : Mo} (h : Own w b m.kd.ty m.cells) (hk : m.kd = .span) (c : Nat) : Own (w.setCell ⟨b, 0, none⟩ (.int .i64 (c : Int))) b ({ m with lvl := c } : Mo).kd.ty ({ m with lvl := c } : Mo).cells := by
  have h1 := h.set 0 (.int .i64 (c : Int))
  rw [Mo.cells_span hk] at h1
  rw [Mo.cells_span (m := { m with lvl := c }) hk]
  exact h1
set_option maxHeartbeats 1000000 in
set_option maxRecDepth 100000 in
theorem span_reset (b : Nat) (m : Mo) (w : World) (h : MoAt w b m) (hk : m.kd = .span) :
    Calls Try.prog 48 #[.pointer (some ⟨b, 0, none⟩)] w fun e w' => e = .returned (.tuple #[]) ∧ MoAt w' b m.reset ∧ Exc (fun k => k = b) w w' := by
  have hc := mreset_any b m w h
  have HC := Lib.hid hc
  have H := Lib.hid h
  have HK := Lib.hid hk
  clear hc h hk
  go_enter Try.func48, Try.ntmps48
  go_wp2_with fail
  with_reducible refine HC.out.mono ?_
  rintro e W1 ⟨rfl, hW⟩
  have o1 : Own W1 b ({ m with lvl := 0 } : Mo).kd.ty ({ m with lvl := 0 } : Mo).cells := by rw [hW]; exact own_lvl_span H.out.own HK.out 0
  have x1 : Exc (fun k => k = b) w W1 := by rw [hW]; exact exc_set _ _ _ _
  obtain ⟨c0, c1, c2, c3, c4, c5, c6⟩ := own_s o1 HK.out
  have f5 := o1.frozen 5
  have f6 := o1.frozen 6
  dsimp only at c5 c6
  have O1 := Lib.hid o1
  have X1 := Lib.hid x1
  clear o1 x1 hW HC c0 c1 c2 c3 c4
  go_wp2
  go_end0
  have o2 := own_wrong_span (own_cnt_span O1.out HK.out 0) HK.out false
  have h := H.out.fit.reset
  exact ⟨rfl, ⟨o2, h⟩, (X1.out.setCell ⟨b, 5, none⟩ (.inl rfl) _).setCell ⟨b, 6, none⟩ (.inl rfl) _⟩
/-- Like a monitor, but the span may be full. -/
structure SpAt (w : World) (b : Nat) (m : Mo) : Prop where
  own : Own w b m.kd.ty m.cells
  kd : m.kd = .span
  fit : ({ m with cnt := 0 } : Mo).Fit
/-- What end leaves. -/
def Mo.ended (m : Mo) : Mo := { m with lvl := if m.wrong then min (m.lvl + m.up) m.lim else m.lvl - m.down, cnt := 0, wrong := false }
theorem Mo.ended_fit {m : Mo} (h : ({ m with cnt := 0 } : Mo).Fit) : m.ended.Fit :=
  ⟨h.lim0, h.lim1, by have := h.lvl; dsimp only at this; show (if m.wrong then min (m.lvl + m.up) m.lim else m.lvl - m.down) ≤ m.lim; split <;> omega, h.size0, h.size1, h.up1, h.down1, h.size0⟩
set_option maxHeartbeats 1000000 in
set_option maxRecDepth 100000 in
theorem span_end (b : Nat) (m : Mo) (w : World) (h : SpAt w b m) :
    Calls Try.prog 49 #[.pointer (some ⟨b, 0, none⟩)] w fun e w' => e = .returned (.tuple #[]) ∧ MoAt w' b m.ended ∧ Exc (fun k => k = b) w w' := by
  obtain ⟨c0, c1, c2, c3, c4, c5, c6⟩ := own_s h.own h.kd
  have f0 := h.own.frozen 0
  have hl := h.fit.lvl
  have hm := h.fit.lim1
  have hu := h.fit.up1
  have hd := h.fit.down1
  dsimp only at hl hm hu hd
  obtain ⟨X, hX⟩ : ∃ X, X = if m.wrong then min (m.lvl + m.up) m.lim else m.lvl - m.down := ⟨_, rfl⟩
  have hfin : ∀ W, W = (w.drew.setCell ⟨b, 0, none⟩ (.int .i64 (X : Int))).drew → Own W b ({ m with lvl := X } : Mo).kd.ty ({ m with lvl := X } : Mo).cells ∧ Exc (fun k => k = b) w W := by
    rintro W rfl
    exact ⟨((own_lvl_span (h.own.drewK 1) h.kd X).drewK 1), ((Exc.of_below (S := fun k => k = b) (below_draw w 1)).setCell _ (.inl rfl) _).drawN 1⟩
  have hend : m.ended = { m with lvl := X, cnt := 0, wrong := false } := by unfold Mo.ended; rw [hX]
  have HFin := Lib.hid hfin
  have HEnd := Lib.hid hend
  have H := Lib.hid h
  obtain ⟨e0, e1, _⟩ := own_s (h.own.drewK 1) h.kd
  have g0 := (h.own.drewK 1).frozen 0
  have hww : w.drewN 1 = w.drew := rfl
  rw [hww] at e0 e1 g0
  clear hfin hend h c0 c1 c2 c5 hww
  cases hwr : m.wrong
  · rw [hwr] at c6 hX
    have hch := change_any b m.lvl m.lim (-(m.down : Int)) X w.drew hl hm (by omega) (by omega) (by rw [hX]; simp only [Bool.false_eq_true, if_false]; (repeat' split) <;> omega) e0 e1 g0
    obtain ⟨D, hD⟩ : ∃ D, D = -(m.down : Int) := ⟨_, rfl⟩
    rw [← hD] at hch
    have hng : IntKind.i64.wrap (-(m.down : Int)) = D := by rw [hD]; exact IntWalk.i64_in _ (by omega)
    have HCh := Lib.hid hch
    clear hch hX hl hm hu hd hwr hD e0 e1 g0
    go_enter Try.func49, Try.ntmps49
    go_wp2_with fail
    go_still_tail 8, (by kernel_rfl)
    change wpList _ _ _ _ _ w.drew
    go_wp2_with fail
    with_reducible refine HCh.out.mono ?_
    rintro e W1 ⟨rfl, hW⟩
    obtain ⟨o1, x1⟩ := HFin.out W1 hW
    obtain ⟨_, _, _, _, _, d5, d6⟩ := own_s o1 H.out.kd
    have f5 := o1.frozen 5
    have f6 := o1.frozen 6
    dsimp only at d5 d6
    have O1 := Lib.hid o1
    have X1 := Lib.hid x1
    clear o1 x1 hW HCh c3 c4 c6 f0
    go_wp2
    go_end0
    have o2 := own_wrong_span (own_cnt_span O1.out H.out.kd 0) H.out.kd false
    have hf := Mo.ended_fit H.out.fit
    rw [HEnd.out] at hf ⊢
    exact ⟨rfl, ⟨o2, hf⟩, (X1.out.setCell ⟨b, 5, none⟩ (.inl rfl) _).setCell ⟨b, 6, none⟩ (.inl rfl) _⟩
  · rw [hwr] at c6 hX
    have hch := change_any b m.lvl m.lim (m.up : Int) X w.drew hl hm (by omega) (by omega) (by rw [hX]; simp only [if_true]; (repeat' split) <;> omega) e0 e1 g0
    have HCh := Lib.hid hch
    clear hch hX hl hm hu hd hwr e0 e1 g0
    go_enter Try.func49, Try.ntmps49
    go_wp2_with fail
    go_still_tail 7, (by kernel_rfl)
    change wpList _ _ _ _ _ w.drew
    go_wp2_with fail
    with_reducible refine HCh.out.mono ?_
    rintro e W1 ⟨rfl, hW⟩
    obtain ⟨o1, x1⟩ := HFin.out W1 hW
    obtain ⟨_, _, _, _, _, d5, d6⟩ := own_s o1 H.out.kd
    have f5 := o1.frozen 5
    have f6 := o1.frozen 6
    dsimp only at d5 d6
    have O1 := Lib.hid o1
    have X1 := Lib.hid x1
    clear o1 x1 hW HCh c3 c4 c6 f0
    go_wp2
    go_end0
    have o2 := own_wrong_span (own_cnt_span O1.out H.out.kd 0) H.out.kd false
    have hf := Mo.ended_fit H.out.fit
    rw [HEnd.out] at hf ⊢
    exact ⟨rfl, ⟨o2, hf⟩, (X1.out.setCell ⟨b, 5, none⟩ (.inl rfl) _).setCell ⟨b, 6, none⟩ (.inl rfl) _⟩
theorem sp_at {b : Nat} {m : Mo} (hk : m.kd = .span) (hf : m.Fit) (Q : Bool) (C : Nat) (W : World) (h : Own W b m.kd.ty ({ m with wrong := Q, cnt := C } : Mo).cells) : SpAt W b { m with wrong := Q, cnt := C } :=
  ⟨h, hk, ⟨hf.lim0, hf.lim1, hf.lvl, hf.size0, hf.size1, hf.up1, hf.down1, hf.size0⟩⟩
theorem span_count_eq (m : Mo) (ok : Bool) (hk : m.kd = .span) : m.count ok = if m.lvl = m.lim then m else if m.cnt + 1 = m.size then ({ m with cnt := m.cnt + 1, wrong := m.wrong || !ok } : Mo).ended else { m with cnt := m.cnt + 1, wrong := m.wrong || !ok } := by
  cases m
  cases hk
  rfl
set_option maxHeartbeats 1000000 in
set_option maxRecDepth 100000 in
theorem span_count (b : Nat) (m : Mo) (ok : Bool) (w : World) (h : MoAt w b m) (hk : m.kd = .span) :
    Calls Try.prog 47 #[.pointer (some ⟨b, 0, none⟩), .bool ok] w fun e w' => e = .returned (.tuple #[]) ∧ MoAt w' b (m.count ok) ∧ Exc (fun k => k = b) w w' := by
  have HCt := Lib.hid (span_count_eq m ok hk)
  have HO := Lib.hid (over_any b m w h)
  have H := Lib.hid h
  have HK := Lib.hid hk
  clear h hk
  go_enter Try.func47, Try.ntmps47
  go_wp2_with fail
  with_reducible refine HO.out.mono ?_
  rintro e w2 ⟨rfl, q, rfl⟩
  have h2 := H.out.below (below_draw w q)
  have x2 := (Exc.refl (fun k => k = b) w).drawN q
  generalize w.drewN q = W2 at h2 x2 ⊢
  cases hov : m.over
  · have hlv : ¬ m.lvl = m.lim := of_decide_eq_false hov
    have HL := Lib.hid hlv
    obtain ⟨_, _, _, _, _, c5, c6⟩ := own_s h2.own HK.out
    have f6 := h2.z 6
    have f5 := h2.z 5
    have hsz := h2.fit.size1
    have hct := h2.fit.cnt
    obtain ⟨C, hC⟩ : ∃ C, C = m.cnt + 1 := ⟨_, rfl⟩
    have hw1 : IntKind.i64.wrap ((m.cnt : Int) + 1) = (C : Int) := by rw [IntWalk.i64_in _ (by omega)]; omega
    obtain ⟨Q, hQ⟩ : ∃ Q, Q = (m.wrong || !ok) := ⟨_, rfl⟩
    have o3 := own_cnt_span (own_wrong_span h2.own HK.out Q) HK.out C
    have x3 := (x2.setCell ⟨b, 6, none⟩ (.inl rfl) (.bool Q)).setCell ⟨b, 5, none⟩ (.inl rfl) (.int .i64 (C : Int))
    have H2 := Lib.hid h2
    have HQ := Lib.hid hQ
    have HC := Lib.hid hC
    have O3 := Lib.hid o3
    have X3 := Lib.hid x3
    obtain ⟨P, hP⟩ : ∃ P, P = m.wrong := ⟨_, rfl⟩
    rw [← hP] at c6 hQ
    have hf := H.out.fit
    have HSp := Lib.hid (sp_at (b := b) HK.out hf Q C)
    clear h2 x2 hlv hov HO hC o3 x3 hP hsz hct hf
    cases P <;> cases ok <;> cases Q <;> (try (exact absurd hQ (by decide)))
    all_goals
      clear hQ
      go_wp2_with fail
      have o3 := O3.out
      have x3 := X3.out
      generalize (W2.setCell ⟨b, 6, none⟩ (.bool _)).setCell ⟨b, 5, none⟩ (.int .i64 (C : Int)) = W3 at o3 x3 ⊢
      have O3' := Lib.hid o3
      have X3' := Lib.hid x3
      obtain ⟨_, _, d2, _, _, d5, _⟩ := own_s o3 HK.out
      clear O3 X3 o3 x3 c5 c6 f5 f6 hw1
      dsimp only at d2 d5
      obtain ⟨B, hB⟩ : ∃ B, B = decide (C = m.size) := ⟨_, rfl⟩
      have heq := eq_dec C m.size
      rw [← hB] at heq
      have HB := Lib.hid hB
      clear hB
      cases B
      · go_quiet (fail)
        go_wp2
        go_end0
        refine ⟨rfl, ?_, X3'.out.drawN _⟩
        have hne : ¬ C = m.size := of_decide_eq_false HB.out.symm
        have h1 := H.out.fit
        rw [HCt.out, ← HC.out, if_neg HL.out, if_neg hne, ← HQ.out]
        exact ⟨O3'.out.drewK _, ⟨h1.lim0, h1.lim1, h1.lvl, h1.size0, h1.size1, h1.up1, h1.down1, by have := h1.cnt; have := HC.out; show C < m.size; omega⟩⟩
      · go_quiet (fail)
        go_wp2_with fail
        with_reducible refine (span_end b _ (W3.drewN nq) (HSp.out _ (O3'.out.drewK nq))).mono ?_
        rintro e W4 ⟨rfl, h4, x4⟩
        have H4 := Lib.hid h4
        have X4 := Lib.hid ((X3'.out.drawN nq).trans x4 (fun _ _ h => h))
        clear h4 x4
        go_wp2
        go_end0
        refine ⟨rfl, ?_, X4.out⟩
        have he : C = m.size := of_decide_eq_true HB.out.symm
        rw [HCt.out, ← HC.out, if_neg HL.out, if_pos he, ← HQ.out]
        exact H4.out
  · have hlv : m.lvl = m.lim := of_decide_eq_true hov
    have HL := Lib.hid hlv
    have H2 := Lib.hid h2
    have X2 := Lib.hid x2
    clear hlv h2 x2 hov HO
    go_wp2
    first | go_end0 | refine bodyPost_ret (results_none rfl _ _ _) rfl ?_
    refine ⟨rfl, ?_, X2.out⟩
    rw [HCt.out, if_pos HL.out]
    exact H2.out
end Go.Proofs.Ytblhfdkopnaobaa
