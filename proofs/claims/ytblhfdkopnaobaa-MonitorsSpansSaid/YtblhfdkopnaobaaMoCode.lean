/- Monitors: contracts of the code's methods. -/
import Derived.Test.YtblhfdkopnaobaaMoMath
import Derived.Test.YtblhfdkopnaobaaBaseEx
import Derived.StillTailTactics
namespace Go.Proofs.Ytblhfdkopnaobaa
open Go.RowKit

def int (n : Nat) : Value := .int .i64 (n : Int)
def Mo.cells (m : Mo) : List Value :=
  match m.kd with
  | .rate => [int m.lvl, int m.lim, int m.size, int m.cnt]
  | .sum => [int m.lvl, int m.lim]
  | .span => [int m.lvl, int m.lim, int m.size, int m.up, int m.down, int m.cnt, .bool m.wrong]
def Kd.ty : Kd → Nat
  | .rate => 56
  | .sum => 53
  | .span => 59
/-- At block b lies the monitor m. -/
structure MoAt (w : World) (b : Nat) (m : Mo) : Prop where
  own : Own w b m.kd.ty m.cells
  fit : m.Fit
theorem MoAt.lt {w : World} {b : Nat} {m : Mo} (h : MoAt w b m) : b < w.heap.size := h.own.lt
theorem MoAt.exc {w w' : World} {b : Nat} {m : Mo} {S : Nat → Prop} (h : MoAt w b m) (hx : Exc S w w') (hn : ¬ S b) : MoAt w' b m := by
  refine ⟨?_, h.fit⟩
  unfold Own
  rw [hx.block b h.own.lt hn]; exact h.own
theorem MoAt.below {w w' : World} {b : Nat} {m : Mo} (h : MoAt w b m) (hb : Below w.heap.size w w') : MoAt w' b m := ⟨h.own.below hb h.own.lt, h.fit⟩
theorem Mo.cells_rate {m : Mo} (h : m.kd = .rate) : m.cells = [int m.lvl, int m.lim, int m.size, int m.cnt] := by unfold Mo.cells; rw [h]
theorem Mo.cells_sum {m : Mo} (h : m.kd = .sum) : m.cells = [int m.lvl, int m.lim] := by unfold Mo.cells; rw [h]
theorem Mo.cells_span {m : Mo} (h : m.kd = .span) : m.cells = [int m.lvl, int m.lim, int m.size, int m.up, int m.down, int m.cnt, .bool m.wrong] := by unfold Mo.cells; rw [h]
theorem MoAt.c0 {w : World} {b : Nat} {m : Mo} (h : MoAt w b m) : w.cell? ⟨b, 0, none⟩ = some (.int .i64 (m.lvl : Int)) := by
  rw [h.own.cell 0 (by unfold Mo.cells; split <;> simp)]
  unfold Mo.cells; split <;> rfl
theorem MoAt.c1 {w : World} {b : Nat} {m : Mo} (h : MoAt w b m) : w.cell? ⟨b, 1, none⟩ = some (.int .i64 (m.lim : Int)) := by
  rw [h.own.cell 1 (by unfold Mo.cells; split <;> simp)]
  unfold Mo.cells; split <;> rfl
theorem MoAt.z {w : World} {b : Nat} {m : Mo} (h : MoAt w b m) (j : Nat) : w.frozen? ⟨b, j, none⟩ = false := h.own.frozen j
set_option maxHeartbeats 1000000 in
set_option maxRecDepth 100000 in
theorem clamp_any (v lo hi : Int) (w : World) (x : Int) (hx : x = if v < lo then lo else if hi < v then hi else v) (hlh : lo ≤ hi) :
    Calls Try.prog 23 #[.int .i64 v, .int .i64 lo, .int .i64 hi] w fun e w' => e = .returned (.int .i64 x) ∧ w' = w := by
  have HX := Lib.hid hx
  have HL := Lib.hid hlh
  clear hx hlh
  go_enter Try.func23, Try.ntmps23
  go_wp2
  all_goals
    go_ret
    refine ⟨ret_int ?_, rfl⟩
    rw [HX.out]
    have := HL.out
    repeat' split
    all_goals (first | rfl | omega)
set_option maxHeartbeats 1000000 in
set_option maxRecDepth 100000 in
/-- The level of the monitor at block b changes. -/
theorem change_any (b L M : Nat) (d : Int) (X : Nat) (w : World) (hL : L ≤ M) (hM : M ≤ 1048576) (hd0 : -1048576 ≤ d) (hd1 : d ≤ 1048576) (hX : (X : Int) = (if (L : Int) + d < 0 then (0 : Int) else if (M : Int) < (L : Int) + d then (M : Int) else (L : Int) + d))
    (c0 : w.cell? ⟨b, 0, none⟩ = some (.int .i64 (L : Int))) (c1 : w.cell? ⟨b, 1, none⟩ = some (.int .i64 (M : Int))) (f0 : w.frozen? ⟨b, 0, none⟩ = false) :
    Calls Try.prog 44 #[.pointer (some ⟨b, 0, none⟩), .int .i64 d] w fun e w' => e = .returned (.tuple #[]) ∧ w' = (w.setCell ⟨b, 0, none⟩ (.int .i64 (X : Int))).drew := by
  obtain ⟨v, hv⟩ : ∃ v, v = (L : Int) + d := ⟨_, rfl⟩
  have hw : IntKind.i64.wrap ((L : Int) + d) = v := by rw [hv]; exact IntWalk.i64_in _ (by omega)
  rw [← hv] at hX
  have hcl := fun W => (clamp_any v 0 (M : Int) W (X : Int) hX (by omega)).mono fun e w' (hh : e = .returned (.int .i64 (X : Int)) ∧ w' = W) => hh
  have HC := Lib.hid hcl
  clear hcl hX hv hL hd0 hd1
  go_enter Try.func44, Try.ntmps44
  go_still_tail 14, (by kernel_rfl)
  still_call (HC.out _)
  repeat still_step
  refine wpStill_nil ?_
  change wpList _ _ _ _ _ w.drew
  go_wp2
  go_end0
  exact ⟨rfl, rfl⟩
theorem eq_dec (a b : Nat) : ((a : Int) == (b : Int)) = decide (a = b) := by
  by_cases h : a = b
  · subst h; simp
  · rw [decide_eq_false h]; simp; omega
set_option maxHeartbeats 1000000 in
set_option maxRecDepth 100000 in
theorem over_any (b : Nat) (m : Mo) (w : World) (h : MoAt w b m) :
    Calls Try.prog 42 #[.pointer (some ⟨b, 0, none⟩)] w fun e w' => e = .returned (.bool m.over) ∧ ∃ q, w' = w.drewN q := by
  have c0 := h.c0
  have c1 := h.c1
  clear h
  have he := eq_dec m.lvl m.lim
  have ho : m.over = decide (m.lvl = m.lim) := rfl
  rw [ho]
  obtain ⟨B, hB⟩ : ∃ B, B = decide (m.lvl = m.lim) := ⟨_, rfl⟩
  rw [← hB] at he ⊢
  clear hB ho
  go_enter Try.func42, Try.ntmps42
  go_wp2
  go_quiet (fail)
  go_wp2
  go_ret
  exact ⟨rfl, _, rfl⟩
set_option maxHeartbeats 1000000 in
set_option maxRecDepth 100000 in
theorem level_any (b : Nat) (m : Mo) (w : World) (h : MoAt w b m) :
    Calls Try.prog 41 #[.pointer (some ⟨b, 0, none⟩)] w fun e w' => e = .returned (.int .i64 (m.lvl : Int)) ∧ w' = w := by
  have c0 := h.c0
  clear h
  go_enter Try.func41, Try.ntmps41
  go_wp2
  go_ret
  exact ⟨rfl, rfl⟩
set_option maxHeartbeats 1000000 in
set_option maxRecDepth 100000 in
theorem mreset_any (b : Nat) (m : Mo) (w : World) (h : MoAt w b m) :
    Calls Try.prog 43 #[.pointer (some ⟨b, 0, none⟩)] w fun e w' => e = .returned (.tuple #[]) ∧ w' = w.setCell ⟨b, 0, none⟩ (.int .i64 0) := by
  have f0 := h.z 0
  have c0 := h.c0
  clear h
  go_enter Try.func43, Try.ntmps43
  go_wp2
  go_end0
  exact ⟨rfl, rfl⟩
theorem exc_set (b j : Nat) (v : Value) (w : World) : Exc (fun k => k = b) w (w.setCell ⟨b, j, none⟩ v) := Exc.setCell (S := fun k => k = b) (Exc.refl _ w) ⟨b, j, none⟩ (.inl rfl) v
theorem Own.drewK {w : World} {b t : Nat} {cs : List Value} (h : Own w b t cs) (q : Nat) : Own (w.drewN q) b t cs := h.below (below_draw w q) h.lt
/-- The level changes. -/
theorem change_at (b : Nat) (m : Mo) (d : Int) (X : Nat) (w : World) (h : MoAt w b m) (hd0 : -1048576 ≤ d) (hd1 : d ≤ 1048576) (hX : (X : Int) = (if (m.lvl : Int) + d < 0 then (0 : Int) else if (m.lim : Int) < (m.lvl : Int) + d then (m.lim : Int) else (m.lvl : Int) + d)) :
    Calls Try.prog 44 #[.pointer (some ⟨b, 0, none⟩), .int .i64 d] w fun e w' => e = .returned (.tuple #[]) ∧ MoAt w' b { m with lvl := X } ∧ Exc (fun k => k = b) w w' := by
  have hle : X ≤ m.lim := by have := h.fit.lvl; revert hX; (repeat' split) <;> omega
  refine (change_any b m.lvl m.lim d X w h.fit.lvl h.fit.lim1 hd0 hd1 hX h.c0 h.c1 (h.z 0)).mono ?_
  rintro e w' ⟨rfl, rfl⟩
  refine ⟨rfl, ⟨?_, ⟨h.fit.lim0, h.fit.lim1, hle, h.fit.size0, h.fit.size1, h.fit.up1, h.fit.down1, h.fit.cnt⟩⟩, (exc_set b 0 _ w).drawN 1⟩
  have h1 := (h.own.set 0 (.int .i64 (X : Int))).drewK 1
  have e : ({ m with lvl := X } : Mo).cells = m.cells.set 0 (.int .i64 (X : Int)) := by
    unfold Mo.cells
    cases hk : m.kd <;> rfl
  rw [e]
  exact h1
theorem one_X (m : Mo) (h : m.lvl ≤ m.lim) : ((m.one false : Nat) : Int) = (if (m.lvl : Int) + 1 < 0 then (0 : Int) else if (m.lim : Int) < (m.lvl : Int) + 1 then (m.lim : Int) else (m.lvl : Int) + 1) := by
  show ((min (m.lvl + 1) m.lim : Nat) : Int) = _
  (repeat' split) <;> omega
set_option maxHeartbeats 1000000 in
set_option maxRecDepth 100000 in
theorem sum_count (b : Nat) (m : Mo) (ok : Bool) (w : World) (h : MoAt w b m) (hk : m.kd = .sum) :
    Calls Try.prog 40 #[.pointer (some ⟨b, 0, none⟩), .bool ok] w fun e w' => e = .returned (.tuple #[]) ∧ MoAt w' b (m.count ok) ∧ Exc (fun k => k = b) w w' := by
  have hc := change_at b m 1 (m.one false) w h (by omega) (by omega) (one_X m h.fit.lvl)
  have e1 : m.count false = { m with lvl := m.one false } := by unfold Mo.count; rw [hk]
  have e2 : m.count true = m := by cases m; cases hk; rfl
  rw [← e1] at hc
  have HC := Lib.hid hc
  have H := Lib.hid h
  have HE := Lib.hid e2
  clear hc h e1 e2
  cases ok
  · go_enter Try.func40, Try.ntmps40
    go_wp2_with fail
    with_reducible refine HC.out.mono ?_
    rintro e w' ⟨rfl, h1, h2⟩
    have HR := Lib.hid (And.intro h1 h2)
    clear h1 h2 HC
    go_wp2
    go_end0
    exact ⟨rfl, HR.out⟩
  · go_enter Try.func40, Try.ntmps40
    go_wp2
    go_end0
    rw [HE.out]
    exact ⟨rfl, H.out, Exc.refl _ _⟩
theorem own_r2 {w : World} {b : Nat} {m : Mo} (h : Own w b m.kd.ty m.cells) (hk : m.kd = .rate) : w.cell? ⟨b, 2, none⟩ = some (.int .i64 (m.size : Int)) := by
  rw [Mo.cells_rate hk] at h
  exact h.cell 2 (by simp)
theorem own_r3 {w : World} {b : Nat} {m : Mo} (h : Own w b m.kd.ty m.cells) (hk : m.kd = .rate) : w.cell? ⟨b, 3, none⟩ = some (.int .i64 (m.cnt : Int)) := by
  rw [Mo.cells_rate hk] at h
  exact h.cell 3 (by simp)
theorem own_cnt_rate {w : World} {b : Nat} {m : Mo} (h : Own w b m.kd.ty m.cells) (hk : m.kd = .rate) (c : Nat) : Own (w.setCell ⟨b, 3, none⟩ (.int .i64 (c : Int))) b ({ m with cnt := c } : Mo).kd.ty ({ m with cnt := c } : Mo).cells := by
  have h1 := h.set 3 (.int .i64 (c : Int))
  rw [Mo.cells_rate hk] at h1
  rw [Mo.cells_rate (m := { m with cnt := c }) hk]
  exact h1
theorem rate_count_eq (m : Mo) (ok : Bool) (hk : m.kd = .rate) (m1 : Mo) (h : m1 = { m with lvl := m.one ok }) : m.count ok = if m1.lvl = m1.lim then m1 else if m1.cnt + 1 = m1.size then { m1 with lvl := m1.lvl - 1, cnt := 0 } else { m1 with cnt := m1.cnt + 1 } := by
  subst h
  cases m
  cases hk
  rfl
set_option maxHeartbeats 1000000 in
set_option maxRecDepth 100000 in
theorem rate_count (b : Nat) (m : Mo) (ok : Bool) (w : World) (h : MoAt w b m) (hk : m.kd = .rate) :
    Calls Try.prog 45 #[.pointer (some ⟨b, 0, none⟩), .bool ok] w fun e w' => e = .returned (.tuple #[]) ∧ MoAt w' b (m.count ok) ∧ Exc (fun k => k = b) w w' := by
  have hct := fun m1 h1 => rate_count_eq m ok hk m1 h1
  have hc := change_at b m 1 (m.one false) w h (by omega) (by omega) (one_X m h.fit.lvl)
  have HCt0 := Lib.hid hct
  have HC := Lib.hid hc
  have H := Lib.hid h
  have HK0 := Lib.hid hk
  clear hct hc h hk
  cases ok
  · obtain ⟨m1, hm1⟩ : ∃ m1 : Mo, m1 = { m with lvl := m.one false } := ⟨_, rfl⟩
    have HK := Lib.hid (show m1.kd = .rate by rw [hm1]; exact HK0.out)
    have HCt := Lib.hid (HCt0.out m1 hm1)
    rw [← hm1] at HC
    clear HK0 HCt0 hm1
    go_enter Try.func45, Try.ntmps45
    go_wp2_with fail
    with_reducible refine HC.out.mono ?_
    rintro e W1 ⟨rfl, h1, x1⟩
    have H1 := Lib.hid h1
    have X1 := Lib.hid x1
    have HO := Lib.hid (over_any b m1 W1 h1)
    clear h1 x1 HC
    go_wp2_with fail
    with_reducible refine HO.out.mono ?_
    rintro e w2 ⟨rfl, q, rfl⟩
    have h2 := H1.out.below (below_draw W1 q)
    have x2 := X1.out.drawN q
    generalize W1.drewN q = W2 at h2 x2 ⊢
    have c3 := own_r3 h2.own HK.out
    have f3 := h2.z 3
    have hsz := h2.fit.size1
    have hct := h2.fit.cnt
    obtain ⟨C, hC⟩ : ∃ C, C = m1.cnt + 1 := ⟨_, rfl⟩
    have hw1 : IntKind.i64.wrap ((m1.cnt : Int) + 1) = (C : Int) := by rw [IntWalk.i64_in _ (by omega)]; omega
    have H2 := Lib.hid h2
    have X2 := Lib.hid x2
    have HC1 := Lib.hid hC
    clear h2 x2 hsz hct HO hC
    cases hov : m1.over
    · go_wp2_with fail
      have o3 := own_cnt_rate H2.out.own HK.out C
      have x3 := X2.out.setCell ⟨b, 3, none⟩ (.inl rfl) (.int .i64 (C : Int))
      generalize W2.setCell ⟨b, 3, none⟩ (.int .i64 (C : Int)) = W3 at o3 x3 ⊢
      have d2 := own_r2 o3 HK.out
      have d3 := own_r3 o3 HK.out
      have g3 := o3.frozen 3
      dsimp only at d2 d3
      obtain ⟨B, hB⟩ : ∃ B, B = decide (C = m1.size) := ⟨_, rfl⟩
      have heq := eq_dec C m1.size
      rw [← hB] at heq
      have HB := Lib.hid hB
      have O3 := Lib.hid o3
      have X3 := Lib.hid x3
      have HOv := Lib.hid hov
      clear hB o3 x3 c3 f3 hw1 hov
      cases B
      · go_quiet (fail)
        go_wp2
        go_end0
        refine ⟨rfl, ?_, X3.out.drawN _⟩
        have hne : ¬ C = m1.size := of_decide_eq_false HB.out.symm
        have h1 := H1.out.fit
        have hlv : ¬ m1.lvl = m1.lim := of_decide_eq_false HOv.out
        rw [HCt.out, ← HC1.out, if_neg hlv, if_neg hne]
        exact ⟨O3.out.drewK _, ⟨h1.lim0, h1.lim1, h1.lvl, h1.size0, h1.size1, h1.up1, h1.down1, by have := h1.cnt; have := HC1.out; show C < m1.size; omega⟩⟩
      · go_quiet (fail)
        go_wp2_with fail
        have he : C = m1.size := of_decide_eq_true HB.out.symm
        have h1 := H1.out.fit
        have o4 := own_cnt_rate (m := { m1 with cnt := C }) (O3.out.drewK nq) HK.out 0
        have x4 := (X3.out.drawN nq).setCell ⟨b, 3, none⟩ (.inl rfl) (.int .i64 ((0 : Nat) : Int))
        have e0 : ((0 : Nat) : Int) = 0 := rfl
        rw [e0] at o4 x4
        dsimp only at o4
        have h4 : MoAt ((W3.drewN nq).setCell ⟨b, 3, none⟩ (.int .i64 0)) b { m1 with cnt := 0 } := ⟨o4, ⟨h1.lim0, h1.lim1, h1.lvl, h1.size0, h1.size1, h1.up1, h1.down1, by have := h1.size0; show 0 < m1.size; omega⟩⟩
        have hch := change_at b { m1 with cnt := 0 } (-1) (m1.lvl - 1) _ h4 (by omega) (by omega) (by have := h1.lvl; show ((m1.lvl - 1 : Nat) : Int) = (if (m1.lvl : Int) + -1 < 0 then (0 : Int) else if (m1.lim : Int) < (m1.lvl : Int) + -1 then (m1.lim : Int) else (m1.lvl : Int) + -1); (repeat' split) <;> omega)
        have HCh := Lib.hid hch
        have X4 := Lib.hid x4
        clear hch x4 o4 h4 h1 d2 d3 g3
        with_reducible refine HCh.out.mono ?_
        rintro e w5 ⟨rfl, h5, x5⟩
        have H5 := Lib.hid h5
        have X5 := Lib.hid x5
        clear h5 x5
        go_wp2
        go_end0
        refine ⟨rfl, ?_, X4.out.trans X5.out (fun _ _ h => h)⟩
        have hlv : ¬ m1.lvl = m1.lim := of_decide_eq_false HOv.out
        rw [HCt.out, ← HC1.out, if_neg hlv, if_pos he]
        exact H5.out
    · have hlv : m1.lvl = m1.lim := of_decide_eq_true hov
      have HL := Lib.hid hlv
      clear hlv
      go_wp2
      first | go_end0 | refine bodyPost_ret (results_none rfl _ _ _) rfl ?_
      refine ⟨rfl, ?_, X2.out⟩
      rw [HCt.out, if_pos HL.out]
      exact H2.out
  · obtain ⟨m1, hm1⟩ : ∃ m1 : Mo, m1 = { m with lvl := m.one true } := ⟨_, rfl⟩
    have HK := Lib.hid (show m1.kd = .rate by rw [hm1]; exact HK0.out)
    have HCt := Lib.hid (HCt0.out m1 hm1)
    have hmm : m1 = m := hm1
    obtain ⟨W1, hW1⟩ : ∃ W, W = w := ⟨_, rfl⟩
    rw [← hmm, ← hW1] at H
    have H1 := H
    have X1 := Lib.hid (show Exc (fun k => k = b) w W1 by rw [hW1]; exact Exc.refl _ _)
    have HO := Lib.hid (over_any b m1 W1 H1.out)
    rw [← hW1]
    rw [← hW1] at X1
    clear HK0 HCt0 hm1 HC H hW1 hmm
    go_enter Try.func45, Try.ntmps45
    go_wp2_with fail
    with_reducible refine HO.out.mono ?_
    rintro e w2 ⟨rfl, q, rfl⟩
    have h2 := H1.out.below (below_draw W1 q)
    have x2 := X1.out.drawN q
    generalize W1.drewN q = W2 at h2 x2 ⊢
    have c3 := own_r3 h2.own HK.out
    have f3 := h2.z 3
    have hsz := h2.fit.size1
    have hct := h2.fit.cnt
    obtain ⟨C, hC⟩ : ∃ C, C = m1.cnt + 1 := ⟨_, rfl⟩
    have hw1 : IntKind.i64.wrap ((m1.cnt : Int) + 1) = (C : Int) := by rw [IntWalk.i64_in _ (by omega)]; omega
    have H2 := Lib.hid h2
    have X2 := Lib.hid x2
    have HC1 := Lib.hid hC
    clear h2 x2 hsz hct HO hC
    cases hov : m1.over
    · go_wp2_with fail
      have o3 := own_cnt_rate H2.out.own HK.out C
      have x3 := X2.out.setCell ⟨b, 3, none⟩ (.inl rfl) (.int .i64 (C : Int))
      generalize W2.setCell ⟨b, 3, none⟩ (.int .i64 (C : Int)) = W3 at o3 x3 ⊢
      have d2 := own_r2 o3 HK.out
      have d3 := own_r3 o3 HK.out
      have g3 := o3.frozen 3
      dsimp only at d2 d3
      obtain ⟨B, hB⟩ : ∃ B, B = decide (C = m1.size) := ⟨_, rfl⟩
      have heq := eq_dec C m1.size
      rw [← hB] at heq
      have HB := Lib.hid hB
      have O3 := Lib.hid o3
      have X3 := Lib.hid x3
      have HOv := Lib.hid hov
      clear hB o3 x3 c3 f3 hw1 hov
      cases B
      · go_quiet (fail)
        go_wp2
        go_end0
        refine ⟨rfl, ?_, X3.out.drawN _⟩
        have hne : ¬ C = m1.size := of_decide_eq_false HB.out.symm
        have h1 := H1.out.fit
        have hlv : ¬ m1.lvl = m1.lim := of_decide_eq_false HOv.out
        rw [HCt.out, ← HC1.out, if_neg hlv, if_neg hne]
        exact ⟨O3.out.drewK _, ⟨h1.lim0, h1.lim1, h1.lvl, h1.size0, h1.size1, h1.up1, h1.down1, by have := h1.cnt; have := HC1.out; show C < m1.size; omega⟩⟩
      · go_quiet (fail)
        go_wp2_with fail
        have he : C = m1.size := of_decide_eq_true HB.out.symm
        have h1 := H1.out.fit
        have o4 := own_cnt_rate (m := { m1 with cnt := C }) (O3.out.drewK nq) HK.out 0
        have x4 := (X3.out.drawN nq).setCell ⟨b, 3, none⟩ (.inl rfl) (.int .i64 ((0 : Nat) : Int))
        have e0 : ((0 : Nat) : Int) = 0 := rfl
        rw [e0] at o4 x4
        dsimp only at o4
        have h4 : MoAt ((W3.drewN nq).setCell ⟨b, 3, none⟩ (.int .i64 0)) b { m1 with cnt := 0 } := ⟨o4, ⟨h1.lim0, h1.lim1, h1.lvl, h1.size0, h1.size1, h1.up1, h1.down1, by have := h1.size0; show 0 < m1.size; omega⟩⟩
        have hch := change_at b { m1 with cnt := 0 } (-1) (m1.lvl - 1) _ h4 (by omega) (by omega) (by have := h1.lvl; show ((m1.lvl - 1 : Nat) : Int) = (if (m1.lvl : Int) + -1 < 0 then (0 : Int) else if (m1.lim : Int) < (m1.lvl : Int) + -1 then (m1.lim : Int) else (m1.lvl : Int) + -1); (repeat' split) <;> omega)
        have HCh := Lib.hid hch
        have X4 := Lib.hid x4
        clear hch x4 o4 h4 h1 d2 d3 g3
        with_reducible refine HCh.out.mono ?_
        rintro e w5 ⟨rfl, h5, x5⟩
        have H5 := Lib.hid h5
        have X5 := Lib.hid x5
        clear h5 x5
        go_wp2
        go_end0
        refine ⟨rfl, ?_, X4.out.trans X5.out (fun _ _ h => h)⟩
        have hlv : ¬ m1.lvl = m1.lim := of_decide_eq_false HOv.out
        rw [HCt.out, ← HC1.out, if_neg hlv, if_pos he]
        exact H5.out
    · have hlv : m1.lvl = m1.lim := of_decide_eq_true hov
      have HL := Lib.hid hlv
      clear hlv
      go_wp2
      first | go_end0 | refine bodyPost_ret (results_none rfl _ _ _) rfl ?_
      refine ⟨rfl, ?_, X2.out⟩
      rw [HCt.out, if_pos HL.out]
      exact H2.out
end Go.Proofs.Ytblhfdkopnaobaa
