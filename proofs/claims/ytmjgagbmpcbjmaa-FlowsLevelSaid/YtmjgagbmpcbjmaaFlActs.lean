/- Flows: Congest, Outage, Hear, Open, Tick. -/
import Derived.Test.YtmjgagbmpcbjmaaFlAt
namespace Go.Proofs.Ytmjgagbmpcbjmaa
open Go.RowKit

set_option maxHeartbeats 1000000 in
set_option maxRecDepth 100000 in
theorem fl_congest (b : Nat) (x : Fl) (on : Bool) (w : World) (h : FlAt w b x) :
    Calls Try.prog 19 #[.pointer (some ⟨b, 0, none⟩), .bool on] w fun e w' => e = .returned (.int .i64 (x.code : Int)) ∧ Nxt w b (x.congest on) w' := by
  have HC := Lib.hid (fl_check b x w h)
  obtain ⟨t, con, since, out, away, busy, wait, failed⟩ := x
  cases failed
  case true =>
    have H := Lib.hid (Nxt.same h)
    clear h
    go_enter Try.func19, Try.ntmps19
    go_wp2_with fail
    with_reducible refine HC.out.mono ?_
    rintro e w' ⟨rfl, rfl⟩
    clear HC
    go_wp2
    go_ret
    exact ⟨rfl, H.out⟩
  case false =>
    have f3 := h.z 3
    have f4 := h.z 4
    have c3 := h.c3
    have c4 := h.c4
    dsimp only at c3 c4
    have ft := h.fit.congest on
    cases con
    case false =>
      have H := Lib.hid (show Nxt w b (⟨t, on, 0, out, away, busy, wait, false⟩) ((w.setCell ⟨b, 4, none⟩ (.int .i64 0)).setCell ⟨b, 3, none⟩ (.bool on)) from ⟨⟨((h.own.set 4 (.int .i64 0)).set 3 (.bool on)), ft⟩, (Blk.more ((Blk.more (Exc.refl _ w) 4 (.int .i64 0))) 3 (.bool on))⟩)
      clear h ft
      go_enter Try.func19, Try.ntmps19
      go_wp2_with fail
      with_reducible refine HC.out.mono ?_
      rintro e w' ⟨rfl, rfl⟩
      clear HC
      go_wp2
      go_ret
      exact ⟨rfl, H.out⟩
    case true =>
      have H := Lib.hid (show Nxt w b (⟨t, on, since, out, away, busy, wait, false⟩) (w.setCell ⟨b, 3, none⟩ (.bool on)) from ⟨⟨(h.own.set 3 (.bool on)), ft⟩, (Blk.more (Exc.refl _ w) 3 (.bool on))⟩)
      clear h ft
      go_enter Try.func19, Try.ntmps19
      go_wp2_with fail
      with_reducible refine HC.out.mono ?_
      rintro e w' ⟨rfl, rfl⟩
      clear HC
      go_wp2
      go_ret
      exact ⟨rfl, H.out⟩
set_option maxHeartbeats 1000000 in
set_option maxRecDepth 100000 in
theorem fl_outage (b : Nat) (x : Fl) (on : Bool) (w : World) (h : FlAt w b x) :
    Calls Try.prog 24 #[.pointer (some ⟨b, 0, none⟩), .bool on] w fun e w' => e = .returned (.int .i64 (x.code : Int)) ∧ Nxt w b (x.outage on) w' := by
  have HC := Lib.hid (fl_check b x w h)
  obtain ⟨t, con, since, out, away, busy, wait, failed⟩ := x
  cases failed
  case true =>
    have H := Lib.hid (Nxt.same h)
    clear h
    go_enter Try.func24, Try.ntmps24
    go_wp2_with fail
    with_reducible refine HC.out.mono ?_
    rintro e w' ⟨rfl, rfl⟩
    clear HC
    go_wp2
    go_ret
    exact ⟨rfl, H.out⟩
  case false =>
    have f5 := h.z 5
    have c5 := h.c5
    dsimp only at c5
    have ft := h.fit.outage on
    have H := Lib.hid (show Nxt w b (⟨t, con, since, on, away, busy, wait, false⟩) (w.setCell ⟨b, 5, none⟩ (.bool on)) from ⟨⟨(h.own.set 5 (.bool on)), ft⟩, (Blk.more (Exc.refl _ w) 5 (.bool on))⟩)
    clear h ft
    go_enter Try.func24, Try.ntmps24
    go_wp2_with fail
    with_reducible refine HC.out.mono ?_
    rintro e w' ⟨rfl, rfl⟩
    clear HC
    go_wp2
    go_ret
    exact ⟨rfl, H.out⟩
set_option maxHeartbeats 1000000 in
set_option maxRecDepth 100000 in
theorem fl_hearBusy (b : Nat) (x : Fl) (w : World) (h : FlAt w b x) :
    Calls Try.prog 33 #[.pointer (some ⟨b, 0, none⟩)] w fun e w' => e = .returned (.tuple #[]) ∧ Nxt w b x.hearB w' := by
  obtain ⟨t, con, since, out, away, busy, wait, failed⟩ := x
  have f7 := h.z 7
  have f8 := h.z 8
  have c1 := h.c1
  have c2 := h.c2
  have c7 := h.c7
  have c8 := h.c8
  dsimp only at c1 c2 c7 c8
  have ft := h.fit.hearB
  rcases Nat.eq_zero_or_pos busy with hb | hb <;> rcases Nat.eq_zero_or_pos wait with hw | hw
  · subst hb
    subst hw
    simp only [Fl.hearB, if_neg (Nat.lt_irrefl 0)] at ft ⊢
    simp only [if_true] at ft ⊢
    have H := Lib.hid (show Nxt w b (⟨t, con, since, out, away, t.most, 0, failed⟩) (w.setCell ⟨b, 7, none⟩ (.int .i64 (t.most : Int))) from ⟨⟨(h.own.set 7 (.int .i64 (t.most : Int))), ft⟩, (Blk.more (Exc.refl _ w) 7 (.int .i64 (t.most : Int)))⟩)
    clear h ft
    go_enter Try.func33, Try.ntmps33
    go_wp2
    go_end0
    exact ⟨rfl, H.out⟩
  · subst hb
    have hw2 : (0 : Int) < (wait : Int) := by omega
    simp only [Fl.hearB, if_pos hw] at ft ⊢
    simp only [if_true] at ft ⊢
    have H := Lib.hid (show Nxt w b (⟨t, con, since, out, away, t.most, t.wait, failed⟩) ((w.setCell ⟨b, 7, none⟩ (.int .i64 (t.most : Int))).setCell ⟨b, 8, none⟩ (.int .i64 (t.wait : Int))) from ⟨⟨((h.own.set 7 (.int .i64 (t.most : Int))).set 8 (.int .i64 (t.wait : Int))), ft⟩, (Blk.more ((Blk.more (Exc.refl _ w) 7 (.int .i64 (t.most : Int)))) 8 (.int .i64 (t.wait : Int)))⟩)
    clear h ft hw
    obtain ⟨X, hX⟩ : ∃ X : Int, X = (wait : Int) := ⟨_, rfl⟩
    rw [← hX] at c8 hw2
    clear hX
    go_enter Try.func33, Try.ntmps33
    go_wp2
    go_end0
    exact ⟨rfl, H.out⟩
  · have hb2 : ¬ (busy : Int) = 0 := by omega
    have hb3 : ((busy : Int) == 0) = false := by simp; omega
    subst hw
    simp only [Fl.hearB, if_neg (Nat.lt_irrefl 0)] at ft ⊢
    simp only [if_neg (Nat.ne_of_gt hb)] at ft ⊢
    have H := Lib.hid (show Nxt w b (⟨t, con, since, out, away, busy, 0, failed⟩) w from ⟨⟨h.own, ft⟩, Exc.refl _ w⟩)
    clear h ft hb
    obtain ⟨B, hB⟩ : ∃ B : Int, B = (busy : Int) := ⟨_, rfl⟩
    rw [← hB] at c7 hb2 hb3
    clear hB
    go_enter Try.func33, Try.ntmps33
    go_wp2
    go_end0
    exact ⟨rfl, H.out⟩
  · have hb2 : ¬ (busy : Int) = 0 := by omega
    have hb3 : ((busy : Int) == 0) = false := by simp; omega
    have hw2 : (0 : Int) < (wait : Int) := by omega
    simp only [Fl.hearB, if_pos hw] at ft ⊢
    simp only [if_neg (Nat.ne_of_gt hb)] at ft ⊢
    have H := Lib.hid (show Nxt w b (⟨t, con, since, out, away, busy, t.wait, failed⟩) (w.setCell ⟨b, 8, none⟩ (.int .i64 (t.wait : Int))) from ⟨⟨(h.own.set 8 (.int .i64 (t.wait : Int))), ft⟩, (Blk.more (Exc.refl _ w) 8 (.int .i64 (t.wait : Int)))⟩)
    clear h ft hb hw
    obtain ⟨B, hB⟩ : ∃ B : Int, B = (busy : Int) := ⟨_, rfl⟩
    rw [← hB] at c7 hb2 hb3
    clear hB
    obtain ⟨X, hX⟩ : ∃ X : Int, X = (wait : Int) := ⟨_, rfl⟩
    rw [← hX] at c8 hw2
    clear hX
    go_enter Try.func33, Try.ntmps33
    go_wp2
    go_end0
    exact ⟨rfl, H.out⟩
set_option maxHeartbeats 1000000 in
set_option maxRecDepth 100000 in
theorem fl_hear (b : Nat) (x : Fl) (s : Nat) (is : Bool) (w : World) (h : FlAt w b x) (hs : s ≤ 255) :
    Calls Try.prog 22 #[.pointer (some ⟨b, 0, none⟩), .int .u8 (s : Int), .bool is] w fun e w' => e = .returned (.int .i64 (x.hearCode s is : Int)) ∧ Nxt w b (x.hear s is) w' := by
  have HC := Lib.hid (fl_check b x w h)
  have HB := Lib.hid (fl_hearBusy b x w h)
  obtain ⟨t, con, since, out, away, busy, wait, failed⟩ := x
  cases failed
  case true =>
    have H := Lib.hid (Nxt.same h)
    clear h HB
    go_enter Try.func22, Try.ntmps22
    go_wp2_with fail
    with_reducible refine HC.out.mono ?_
    rintro e w' ⟨rfl, rfl⟩
    clear HC
    go_wp2
    go_ret
    exact ⟨rfl, H.out⟩
  case false =>
    have ft := h.fit.hear s is
    have f6 := h.z 6
    have f9 := h.z 9
    have c6 := h.c6
    have c9 := h.c9
    dsimp only at c6 c9
    cases is
    case false =>
      have H := Lib.hid (show Nxt w b (⟨t, con, since, out, false, busy, wait, false⟩) (w.setCell ⟨b, 6, none⟩ (.bool false)) from ⟨⟨(h.own.set 6 (.bool false)), ft⟩, (Blk.more (Exc.refl _ w) 6 (.bool false))⟩)
      clear h ft HB
      go_enter Try.func22, Try.ntmps22
      go_wp2_with fail
      with_reducible refine HC.out.mono ?_
      rintro e w' ⟨rfl, rfl⟩
      clear HC
      go_wp2
      go_ret
      exact ⟨rfl, H.out⟩
    case true =>
      by_cases h5 : 5 < s
      · have e1 : Fl.hear ⟨t, con, since, out, away, busy, wait, false⟩ s true = ⟨t, con, since, out, away, busy, wait, false⟩ := by simp [Fl.hear, h5]
        have e2 : Fl.hearCode ⟨t, con, since, out, away, busy, wait, false⟩ s true = 1 := by simp [Fl.hearCode, h5]
        rw [e1, e2]
        have H := Lib.hid (Nxt.same h)
        obtain ⟨S, hS⟩ : ∃ S : Int, S = (s : Int) := ⟨_, rfl⟩
        have hq : 5 < S := by omega
        rw [← hS]
        clear h ft HB e1 e2 h5 hS hs
        go_enter Try.func22, Try.ntmps22
        go_wp2_with fail
        with_reducible refine HC.out.mono ?_
        rintro e w' ⟨rfl, rfl⟩
        clear HC
        go_wp2
        go_ret
        exact ⟨rfl, H.out⟩
      · have h6 : s = 4 ∨ s = 5 ∨ s = 0 ∨ s = 1 ∨ s = 2 ∨ s = 3 := by omega
        clear h5 hs
        rcases h6 with rfl | rfl | rfl | rfl | rfl | rfl
        ·
          have H := Lib.hid (show Nxt w b (⟨t, con, since, out, true, busy, wait, false⟩) (w.setCell ⟨b, 6, none⟩ (.bool true)) from ⟨⟨(h.own.set 6 (.bool true)), ft⟩, (Blk.more (Exc.refl _ w) 6 (.bool true))⟩)
          clear h ft HB
          go_enter Try.func22, Try.ntmps22
          go_wp2_with fail
          with_reducible refine HC.out.mono ?_
          rintro e w' ⟨rfl, rfl⟩
          clear HC
          go_wp2
          go_ret
          exact ⟨rfl, H.out⟩
        · clear h ft
          go_enter Try.func22, Try.ntmps22
          go_wp2_with fail
          with_reducible refine HC.out.mono ?_
          rintro e w' ⟨rfl, rfl⟩
          clear HC
          go_wp2_with fail
          with_reducible refine HB.out.mono ?_
          rintro e w2 ⟨rfl, h2⟩
          have H := Lib.hid h2
          clear h2 HB
          go_wp2
          go_ret
          exact ⟨rfl, H.out⟩
        ·
          have H := Lib.hid (show Nxt w b (⟨t, con, since, out, away, busy, wait, true⟩) (w.setCell ⟨b, 9, none⟩ (.bool true)) from ⟨⟨(h.own.set 9 (.bool true)), ft⟩, (Blk.more (Exc.refl _ w) 9 (.bool true))⟩)
          clear h ft HB
          go_enter Try.func22, Try.ntmps22
          go_wp2_with fail
          with_reducible refine HC.out.mono ?_
          rintro e w' ⟨rfl, rfl⟩
          clear HC
          go_wp2
          go_ret
          exact ⟨rfl, H.out⟩
        ·
          have H := Lib.hid (show Nxt w b (⟨t, con, since, out, away, busy, wait, true⟩) (w.setCell ⟨b, 9, none⟩ (.bool true)) from ⟨⟨(h.own.set 9 (.bool true)), ft⟩, (Blk.more (Exc.refl _ w) 9 (.bool true))⟩)
          clear h ft HB
          go_enter Try.func22, Try.ntmps22
          go_wp2_with fail
          with_reducible refine HC.out.mono ?_
          rintro e w' ⟨rfl, rfl⟩
          clear HC
          go_wp2
          go_ret
          exact ⟨rfl, H.out⟩
        ·
          have H := Lib.hid (show Nxt w b (⟨t, con, since, out, away, busy, wait, true⟩) (w.setCell ⟨b, 9, none⟩ (.bool true)) from ⟨⟨(h.own.set 9 (.bool true)), ft⟩, (Blk.more (Exc.refl _ w) 9 (.bool true))⟩)
          clear h ft HB
          go_enter Try.func22, Try.ntmps22
          go_wp2_with fail
          with_reducible refine HC.out.mono ?_
          rintro e w' ⟨rfl, rfl⟩
          clear HC
          go_wp2
          go_ret
          exact ⟨rfl, H.out⟩
        ·
          have H := Lib.hid (show Nxt w b (⟨t, con, since, out, away, busy, wait, true⟩) (w.setCell ⟨b, 9, none⟩ (.bool true)) from ⟨⟨(h.own.set 9 (.bool true)), ft⟩, (Blk.more (Exc.refl _ w) 9 (.bool true))⟩)
          clear h ft HB
          go_enter Try.func22, Try.ntmps22
          go_wp2_with fail
          with_reducible refine HC.out.mono ?_
          rintro e w' ⟨rfl, rfl⟩
          clear HC
          go_wp2
          go_ret
          exact ⟨rfl, H.out⟩
set_option maxHeartbeats 1000000 in
set_option maxRecDepth 100000 in
theorem fl_open (b : Nat) (x : Fl) (wt ack : Bool) (w : World) (h : FlAt w b x) :
    Calls Try.prog 20 #[.pointer (some ⟨b, 0, none⟩), .bool wt, .bool ack] w fun e w' => e = .returned (.int .i64 (x.code : Int)) ∧ Nxt w b (x.opens wt ack) w' := by
  have HC := Lib.hid (fl_check b x w h)
  obtain ⟨t, con, since, out, away, busy, wait, failed⟩ := x
  cases failed
  case true =>
    have H := Lib.hid (Nxt.same h)
    clear h
    go_enter Try.func20, Try.ntmps20
    go_wp2_with fail
    with_reducible refine HC.out.mono ?_
    rintro e w' ⟨rfl, rfl⟩
    clear HC
    go_wp2
    go_ret
    exact ⟨rfl, H.out⟩
  case false =>
    have f7 := h.z 7
    have f8 := h.z 8
    have c2 := h.c2
    have c7 := h.c7
    have c8 := h.c8
    dsimp only at c2 c7 c8
    have ft := h.fit.opens wt ack
    cases ack <;> cases wt
    ·
      have H := Lib.hid (show Nxt w b (⟨t, con, since, out, away, busy, 0, false⟩) (w.setCell ⟨b, 8, none⟩ (.int .i64 0)) from ⟨⟨(h.own.set 8 (.int .i64 0)), ft⟩, (Blk.more (Exc.refl _ w) 8 (.int .i64 0))⟩)
      clear h ft
      go_enter Try.func20, Try.ntmps20
      go_wp2_with fail
      with_reducible refine HC.out.mono ?_
      rintro e w' ⟨rfl, rfl⟩
      clear HC
      go_wp2
      go_ret
      exact ⟨rfl, H.out⟩
    · rcases Nat.eq_zero_or_pos wait with hw | hw
      · subst hw
        have H := Lib.hid (show Nxt w b (⟨t, con, since, out, away, busy, t.wait, false⟩) (w.setCell ⟨b, 8, none⟩ (.int .i64 (t.wait : Int))) from ⟨⟨(h.own.set 8 (.int .i64 (t.wait : Int))), ft⟩, (Blk.more (Exc.refl _ w) 8 (.int .i64 (t.wait : Int)))⟩)
        clear h ft
        go_enter Try.func20, Try.ntmps20
        go_wp2_with fail
        with_reducible refine HC.out.mono ?_
        rintro e w' ⟨rfl, rfl⟩
        clear HC
        go_wp2
        go_ret
        exact ⟨rfl, H.out⟩
      · have e1 : Fl.opens ⟨t, con, since, out, away, busy, wait, false⟩ true false = ⟨t, con, since, out, away, busy, wait, false⟩ := by
          have : ¬ wait = 0 := by omega
          simp [Fl.opens, this]
        rw [e1]
        have H := Lib.hid (Nxt.same h)
        obtain ⟨X, hX⟩ : ∃ X : Int, X = (wait : Int) := ⟨_, rfl⟩
        have hq : ¬ X = 0 := by omega
        have hq2 : (X == 0) = false := by simp; omega
        rw [← hX] at c8
        clear h ft e1 hX hw
        go_enter Try.func20, Try.ntmps20
        go_wp2_with fail
        with_reducible refine HC.out.mono ?_
        rintro e w' ⟨rfl, rfl⟩
        clear HC
        go_wp2
        go_ret
        exact ⟨rfl, H.out⟩
    ·
      have H := Lib.hid (show Nxt w b (⟨t, con, since, out, away, 0, 0, false⟩) ((w.setCell ⟨b, 7, none⟩ (.int .i64 0)).setCell ⟨b, 8, none⟩ (.int .i64 0)) from ⟨⟨((h.own.set 7 (.int .i64 0)).set 8 (.int .i64 0)), ft⟩, (Blk.more ((Blk.more (Exc.refl _ w) 7 (.int .i64 0))) 8 (.int .i64 0))⟩)
      clear h ft
      go_enter Try.func20, Try.ntmps20
      go_wp2_with fail
      with_reducible refine HC.out.mono ?_
      rintro e w' ⟨rfl, rfl⟩
      clear HC
      go_wp2
      go_ret
      exact ⟨rfl, H.out⟩
    ·
      have H := Lib.hid (show Nxt w b (⟨t, con, since, out, away, 0, t.wait, false⟩) ((w.setCell ⟨b, 7, none⟩ (.int .i64 0)).setCell ⟨b, 8, none⟩ (.int .i64 (t.wait : Int))) from ⟨⟨((h.own.set 7 (.int .i64 0)).set 8 (.int .i64 (t.wait : Int))), ft⟩, (Blk.more ((Blk.more (Exc.refl _ w) 7 (.int .i64 0))) 8 (.int .i64 (t.wait : Int)))⟩)
      clear h ft
      go_enter Try.func20, Try.ntmps20
      go_wp2_with fail
      with_reducible refine HC.out.mono ?_
      rintro e w' ⟨rfl, rfl⟩
      clear HC
      go_wp2
      go_ret
      exact ⟨rfl, H.out⟩
set_option maxHeartbeats 1000000 in
set_option maxRecDepth 100000 in
theorem fl_congest_none (v : Value) (on : Bool) (w : World) (h : FlNone w v) :
    Calls Try.prog 19 #[v, .bool on] w fun e w' => e = .returned (.int .i64 2) ∧ w' = w := by
  have HC := Lib.hid (fl_check_none v w h)
  clear h
  go_enter Try.func19, Try.ntmps19
  go_wp2_with fail
  with_reducible refine HC.out.mono ?_
  rintro e w' ⟨rfl, rfl⟩
  clear HC
  go_wp2
  go_ret
  exact ⟨rfl, rfl⟩
set_option maxHeartbeats 1000000 in
set_option maxRecDepth 100000 in
theorem fl_outage_none (v : Value) (on : Bool) (w : World) (h : FlNone w v) :
    Calls Try.prog 24 #[v, .bool on] w fun e w' => e = .returned (.int .i64 2) ∧ w' = w := by
  have HC := Lib.hid (fl_check_none v w h)
  clear h
  go_enter Try.func24, Try.ntmps24
  go_wp2_with fail
  with_reducible refine HC.out.mono ?_
  rintro e w' ⟨rfl, rfl⟩
  clear HC
  go_wp2
  go_ret
  exact ⟨rfl, rfl⟩
set_option maxHeartbeats 1000000 in
set_option maxRecDepth 100000 in
theorem fl_hear_none (v : Value) (s : Int) (is : Bool) (w : World) (h : FlNone w v) :
    Calls Try.prog 22 #[v, .int .u8 s, .bool is] w fun e w' => e = .returned (.int .i64 2) ∧ w' = w := by
  have HC := Lib.hid (fl_check_none v w h)
  clear h
  go_enter Try.func22, Try.ntmps22
  go_wp2_with fail
  with_reducible refine HC.out.mono ?_
  rintro e w' ⟨rfl, rfl⟩
  clear HC
  go_wp2
  go_ret
  exact ⟨rfl, rfl⟩
set_option maxHeartbeats 1000000 in
set_option maxRecDepth 100000 in
theorem fl_open_none (v : Value) (wt ack : Bool) (w : World) (h : FlNone w v) :
    Calls Try.prog 20 #[v, .bool wt, .bool ack] w fun e w' => e = .returned (.int .i64 2) ∧ w' = w := by
  have HC := Lib.hid (fl_check_none v w h)
  clear h
  go_enter Try.func20, Try.ntmps20
  go_wp2_with fail
  with_reducible refine HC.out.mono ?_
  rintro e w' ⟨rfl, rfl⟩
  clear HC
  go_wp2
  go_ret
  exact ⟨rfl, rfl⟩
set_option maxHeartbeats 1000000 in
set_option maxRecDepth 100000 in
theorem fl_tick_none (v : Value) (w : World) (h : FlNone w v) :
    Calls Try.prog 23 #[v] w fun e w' => e = .returned (.int .i64 2) ∧ w' = w := by
  have HC := Lib.hid (fl_check_none v w h)
  clear h
  go_enter Try.func23, Try.ntmps23
  go_wp2_with fail
  with_reducible refine HC.out.mono ?_
  rintro e w' ⟨rfl, rfl⟩
  clear HC
  go_wp2
  go_ret
  exact ⟨rfl, rfl⟩
end Go.Proofs.Ytmjgagbmpcbjmaa
