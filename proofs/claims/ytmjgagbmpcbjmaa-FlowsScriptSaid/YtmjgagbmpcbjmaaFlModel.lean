/- Statements of layer 10: the statements' own model. -/
import Derived.Test.YtmjgagbmpcbjmaaFlLaw
namespace Go.Proofs.Ytmjgagbmpcbjmaa
open Go.RowKit

structure Fm where
  t : Tm
  began : Int
  now : Int
  out : Bool
  far : Bool
  busy : Int
  wait : Int
  failed : Bool
def Fm.cells (m : Fm) : List Value := [.int .i64 (m.t.again : Int), .int .i64 (m.t.most : Int), .int .i64 (m.t.wait : Int), .int .i64 m.began, .int .i64 m.now, .bool m.out, .bool m.far, .int .i64 m.busy, .int .i64 m.wait, .bool m.failed]
abbrev FmAt (w : World) (b : Nat) (m : Fm) : Prop := Own w b 34 m.cells
theorem FmAt.c0 {w : World} {b : Nat} {m : Fm} (h : FmAt w b m) : w.cell? ⟨b, 0, none⟩ = some (.int .i64 (m.t.again : Int)) := Own.cell h 0 (by simp [Fm.cells])
theorem FmAt.c1 {w : World} {b : Nat} {m : Fm} (h : FmAt w b m) : w.cell? ⟨b, 1, none⟩ = some (.int .i64 (m.t.most : Int)) := Own.cell h 1 (by simp [Fm.cells])
theorem FmAt.c2 {w : World} {b : Nat} {m : Fm} (h : FmAt w b m) : w.cell? ⟨b, 2, none⟩ = some (.int .i64 (m.t.wait : Int)) := Own.cell h 2 (by simp [Fm.cells])
theorem FmAt.c3 {w : World} {b : Nat} {m : Fm} (h : FmAt w b m) : w.cell? ⟨b, 3, none⟩ = some (.int .i64 m.began) := Own.cell h 3 (by simp [Fm.cells])
theorem FmAt.c4 {w : World} {b : Nat} {m : Fm} (h : FmAt w b m) : w.cell? ⟨b, 4, none⟩ = some (.int .i64 m.now) := Own.cell h 4 (by simp [Fm.cells])
theorem FmAt.c5 {w : World} {b : Nat} {m : Fm} (h : FmAt w b m) : w.cell? ⟨b, 5, none⟩ = some (.bool m.out) := Own.cell h 5 (by simp [Fm.cells])
theorem FmAt.c6 {w : World} {b : Nat} {m : Fm} (h : FmAt w b m) : w.cell? ⟨b, 6, none⟩ = some (.bool m.far) := Own.cell h 6 (by simp [Fm.cells])
theorem FmAt.c7 {w : World} {b : Nat} {m : Fm} (h : FmAt w b m) : w.cell? ⟨b, 7, none⟩ = some (.int .i64 m.busy) := Own.cell h 7 (by simp [Fm.cells])
theorem FmAt.c8 {w : World} {b : Nat} {m : Fm} (h : FmAt w b m) : w.cell? ⟨b, 8, none⟩ = some (.int .i64 m.wait) := Own.cell h 8 (by simp [Fm.cells])
theorem FmAt.c9 {w : World} {b : Nat} {m : Fm} (h : FmAt w b m) : w.cell? ⟨b, 9, none⟩ = some (.bool m.failed) := Own.cell h 9 (by simp [Fm.cells])
structure Fm.Fit (m : Fm) : Prop where
  t : m.t.Fit
  b0 : -1 ≤ m.began
  b1 : m.began ≤ 1000000
  bn : m.began ≤ m.now
  n0 : 0 ≤ m.now
  n1 : m.now ≤ 1000000
  y0 : -1 ≤ m.busy
  y1 : m.busy ≤ 1048576
  w0 : -1 ≤ m.wait
  w1 : m.wait ≤ 1048576
def Fm.nb (m : Fm) : Int := if 0 < m.busy then m.busy - 1 else m.busy
def Fm.nw (m : Fm) : Int := if 0 < m.wait ∧ m.out = false ∧ m.far = false then m.wait - 1 else m.wait
def Fm.act (m : Fm) (a : Nat) : Fm :=
  if m.failed then m
  else if a = 0 then { m with began := -1 }
  else if a = 1 then (if m.began < 0 then { m with began := m.now } else m)
  else if a < 4 then { m with out := decide (a = 3) }
  else if a < 8 then { m with busy := if 6 ≤ a then -1 else m.busy, wait := if a % 2 = 0 then -1 else if 6 ≤ a ∨ m.wait < 0 then (m.t.wait : Int) else m.wait }
  else if a = 8 then { m with now := m.now + 1, busy := m.nb, wait := m.nw, failed := decide (m.nb = 0) || decide (m.nw = 0) }
  else if a = 9 then { m with far := false }
  else if 15 < a then m
  else if a = 15 then { m with busy := if m.busy < 0 then (m.t.most : Int) else m.busy, wait := if 0 ≤ m.wait then (m.t.wait : Int) else m.wait }
  else if a = 14 then { m with far := true }
  else { m with failed := true }
def Fm.err (m : Fm) (a : Nat) : Nat := if m.failed then 6 else if 15 < a then 1 else 0
def Fm.stat (m : Fm) : Nat := if m.failed then 9 else if m.out then 4 else if 0 ≤ m.began ∧ (m.now - m.began) % (m.t.again : Int) = 0 then 5 else 9
/-- What an act leaves. -/
def MNxt (w : World) (b : Nat) (m : Fm) (w' : World) : Prop := FmAt w' b m ∧ Exc (fun k => k = b) w w'
set_option maxHeartbeats 4000000 in
set_option maxRecDepth 100000 in
theorem mact_any (b : Nat) (m : Fm) (w : World) (h : FmAt w b m) (hf : m.Fit) (a : Nat) (ha : a ≤ 255) :
    Calls Try.prog 14 #[.pointer (some ⟨b, 0, none⟩), .int .u8 (a : Int)] w fun e w' => e = .returned (.int .i64 (m.err a : Int)) ∧ MNxt w b (m.act a) w' := by
  obtain ⟨t, began, now, out, far, busy, wait, failed⟩ := m
  have hB0 := hf.b0; have hB1 := hf.b1; have hN0 := hf.n0; have hN1 := hf.n1; have hY0 := hf.y0; have hY1 := hf.y1; have hW0 := hf.w0; have hW1 := hf.w1
  dsimp only at hB0 hB1 hN0 hN1 hY0 hY1 hW0 hW1
  have HI := Lib.hid (And.intro hB0 (And.intro hB1 (And.intro hN0 (And.intro hN1 (And.intro hY0 (And.intro hY1 (And.intro hW0 hW1)))))))
  clear hf hB0 hB1 hN0 hN1 hY0 hY1 hW0 hW1
  cases failed
  case true =>
    have H := Lib.hid (show MNxt w b ⟨t, began, now, out, far, busy, wait, true⟩ w from ⟨h, Exc.refl _ w⟩)
    have e1 : Fm.err ⟨t, began, now, out, far, busy, wait, true⟩ a = 6 := rfl
    have e2 : Fm.act ⟨t, began, now, out, far, busy, wait, true⟩ a = ⟨t, began, now, out, far, busy, wait, true⟩ := rfl
    rw [e1, e2]
    have c9 := FmAt.c9 h
    dsimp only at c9
    obtain ⟨A, hA⟩ : ∃ A : Int, A = (a : Int) := ⟨_, rfl⟩
    rw [← hA]
    clear h e1 e2 hA ha
    go_enter Try.func14, Try.ntmps14
    go_wp2
    go_ret
    exact ⟨rfl, H.out⟩
  case false =>
    have c9 := FmAt.c9 h
    dsimp only at c9
    by_cases h15 : 15 < a
    · have e1 : Fm.err ⟨t, began, now, out, far, busy, wait, false⟩ a = 1 := by simp [Fm.err, h15]
      have e2 : Fm.act ⟨t, began, now, out, far, busy, wait, false⟩ a = ⟨t, began, now, out, far, busy, wait, false⟩ := by unfold Fm.act; rw [if_neg (by simp), if_neg (by omega), if_neg (by omega), if_neg (by omega), if_neg (by omega), if_neg (by omega), if_neg (by omega), if_pos h15]
      rw [e1, e2]
      have H := Lib.hid (show MNxt w b ⟨t, began, now, out, far, busy, wait, false⟩ w from ⟨h, Exc.refl _ w⟩)
      obtain ⟨S, hS⟩ : ∃ S : Nat, S = a - 10 := ⟨_, rfl⟩
      have hw : IntKind.u8.wrap ((a : Int) - 10) = (S : Int) := by rw [IntWalk.u8_in _ (by omega)]; omega
      have hw2 : 5 < (S : Int) := by omega
      obtain ⟨A, hA⟩ : ∃ A : Int, A = (a : Int) := ⟨_, rfl⟩
      have q0 : ¬ A = 0 := by omega
      have q1 : ¬ A = 1 := by omega
      have q2 : ¬ A < 4 := by omega
      have q3 : ¬ A < 8 := by omega
      have q4 : ¬ A = 8 := by omega
      have q5 : ¬ A = 9 := by omega
      have r0 : (A == 0) = false := by simp; omega
      have r1 : (A == 1) = false := by simp; omega
      have r4 : (A == 8) = false := by simp; omega
      have r5 : (A == 9) = false := by simp; omega
      rw [← hA] at hw ⊢
      clear h e1 e2 hA ha h15 hS
      go_enter Try.func14, Try.ntmps14
      go_wp2
      go_ret
      exact ⟨rfl, H.out⟩
    have hcases : a = 0 ∨ a = 1 ∨ a = 2 ∨ a = 3 ∨ a = 4 ∨ a = 5 ∨ a = 6 ∨ a = 7 ∨ a = 8 ∨ a = 9 ∨ a = 10 ∨ a = 11 ∨ a = 12 ∨ a = 13 ∨ a = 14 ∨ a = 15 := by omega
    clear h15 ha
    rcases hcases with rfl | rfl | rfl | rfl | rfl | rfl | rfl | rfl | rfl | rfl | rfl | rfl | rfl | rfl | rfl | rfl
    ·
      have c3 := FmAt.c3 h
      dsimp only at c3
      have f3 := Own.frozen h 3
      have H := Lib.hid (show MNxt w b (⟨t, -1, now, out, far, busy, wait, false⟩) (w.setCell ⟨b, 3, none⟩ (.int .i64 (-1))) from ⟨(Own.set h 3 (.int .i64 (-1))), (Blk.more (Exc.refl _ w) 3 (.int .i64 (-1)))⟩)
      clear h
      go_enter Try.func14, Try.ntmps14
      go_wp2
      go_ret
      exact ⟨rfl, H.out⟩
    ·
      have c3 := FmAt.c3 h
      have c4 := FmAt.c4 h
      dsimp only at c3 c4
      have f3 := Own.frozen h 3
      by_cases hq : began < 0
      · have e2 : Fm.act ⟨t, began, now, out, far, busy, wait, false⟩ 1 = ⟨t, now, now, out, far, busy, wait, false⟩ := by simp [Fm.act, hq]
        rw [e2]
        have H := Lib.hid (show MNxt w b (⟨t, now, now, out, far, busy, wait, false⟩) (w.setCell ⟨b, 3, none⟩ (.int .i64 now)) from ⟨(Own.set h 3 (.int .i64 now)), (Blk.more (Exc.refl _ w) 3 (.int .i64 now))⟩)
        clear h e2
        go_enter Try.func14, Try.ntmps14
        go_wp2
        go_ret
        exact ⟨rfl, H.out⟩
      · have e2 : Fm.act ⟨t, began, now, out, far, busy, wait, false⟩ 1 = ⟨t, began, now, out, far, busy, wait, false⟩ := by simp [Fm.act, hq]
        rw [e2]
        have H := Lib.hid (show MNxt w b (⟨t, began, now, out, far, busy, wait, false⟩) w from ⟨h, Exc.refl _ w⟩)
        clear h e2
        go_enter Try.func14, Try.ntmps14
        go_wp2
        go_ret
        exact ⟨rfl, H.out⟩
    ·
      have c5 := FmAt.c5 h
      dsimp only at c5
      have f5 := Own.frozen h 5
      have H := Lib.hid (show MNxt w b (⟨t, began, now, false, far, busy, wait, false⟩) (w.setCell ⟨b, 5, none⟩ (.bool false)) from ⟨(Own.set h 5 (.bool false)), (Blk.more (Exc.refl _ w) 5 (.bool false))⟩)
      clear h
      go_enter Try.func14, Try.ntmps14
      go_wp2
      go_ret
      exact ⟨rfl, H.out⟩
    ·
      have c5 := FmAt.c5 h
      dsimp only at c5
      have f5 := Own.frozen h 5
      have H := Lib.hid (show MNxt w b (⟨t, began, now, true, far, busy, wait, false⟩) (w.setCell ⟨b, 5, none⟩ (.bool true)) from ⟨(Own.set h 5 (.bool true)), (Blk.more (Exc.refl _ w) 5 (.bool true))⟩)
      clear h
      go_enter Try.func14, Try.ntmps14
      go_wp2
      go_ret
      exact ⟨rfl, H.out⟩
    ·
      have c8 := FmAt.c8 h
      dsimp only at c8
      have f8 := Own.frozen h 8
      have H := Lib.hid (show MNxt w b (⟨t, began, now, out, far, busy, -1, false⟩) (w.setCell ⟨b, 8, none⟩ (.int .i64 (-1))) from ⟨(Own.set h 8 (.int .i64 (-1))), (Blk.more (Exc.refl _ w) 8 (.int .i64 (-1)))⟩)
      clear h
      go_enter Try.func14, Try.ntmps14
      go_wp2
      go_ret
      exact ⟨rfl, H.out⟩
    ·
      have c2 := FmAt.c2 h
      have c8 := FmAt.c8 h
      dsimp only at c2 c8
      have f8 := Own.frozen h 8
      by_cases hq : wait < 0
      · have e2 : Fm.act ⟨t, began, now, out, far, busy, wait, false⟩ 5 = ⟨t, began, now, out, far, busy, (t.wait : Int), false⟩ := by simp [Fm.act, hq]
        rw [e2]
        have H := Lib.hid (show MNxt w b (⟨t, began, now, out, far, busy, (t.wait : Int), false⟩) (w.setCell ⟨b, 8, none⟩ (.int .i64 (t.wait : Int))) from ⟨(Own.set h 8 (.int .i64 (t.wait : Int))), (Blk.more (Exc.refl _ w) 8 (.int .i64 (t.wait : Int)))⟩)
        clear h e2
        go_enter Try.func14, Try.ntmps14
        go_wp2
        go_ret
        exact ⟨rfl, H.out⟩
      · have e2 : Fm.act ⟨t, began, now, out, far, busy, wait, false⟩ 5 = ⟨t, began, now, out, far, busy, wait, false⟩ := by simp [Fm.act, hq]
        rw [e2]
        have H := Lib.hid (show MNxt w b (⟨t, began, now, out, far, busy, wait, false⟩) w from ⟨h, Exc.refl _ w⟩)
        clear h e2
        go_enter Try.func14, Try.ntmps14
        go_wp2
        go_ret
        exact ⟨rfl, H.out⟩
    ·
      have c7 := FmAt.c7 h
      have c8 := FmAt.c8 h
      dsimp only at c7 c8
      have f7 := Own.frozen h 7
      have f8 := Own.frozen h 8
      have H := Lib.hid (show MNxt w b (⟨t, began, now, out, far, -1, -1, false⟩) ((w.setCell ⟨b, 7, none⟩ (.int .i64 (-1))).setCell ⟨b, 8, none⟩ (.int .i64 (-1))) from ⟨(Own.set (Own.set h 7 (.int .i64 (-1))) 8 (.int .i64 (-1))), (Blk.more ((Blk.more (Exc.refl _ w) 7 (.int .i64 (-1)))) 8 (.int .i64 (-1)))⟩)
      clear h
      go_enter Try.func14, Try.ntmps14
      go_wp2
      go_ret
      exact ⟨rfl, H.out⟩
    ·
      have c2 := FmAt.c2 h
      have c7 := FmAt.c7 h
      have c8 := FmAt.c8 h
      dsimp only at c2 c7 c8
      have f7 := Own.frozen h 7
      have f8 := Own.frozen h 8
      have H := Lib.hid (show MNxt w b (⟨t, began, now, out, far, -1, (t.wait : Int), false⟩) ((w.setCell ⟨b, 7, none⟩ (.int .i64 (-1))).setCell ⟨b, 8, none⟩ (.int .i64 (t.wait : Int))) from ⟨(Own.set (Own.set h 7 (.int .i64 (-1))) 8 (.int .i64 (t.wait : Int))), (Blk.more ((Blk.more (Exc.refl _ w) 7 (.int .i64 (-1)))) 8 (.int .i64 (t.wait : Int)))⟩)
      clear h
      go_enter Try.func14, Try.ntmps14
      go_wp2
      go_ret
      exact ⟨rfl, H.out⟩
    ·
      have c4 := FmAt.c4 h
      have c5 := FmAt.c5 h
      have c6 := FmAt.c6 h
      have c7 := FmAt.c7 h
      have c8 := FmAt.c8 h
      dsimp only at c4 c5 c6 c7 c8
      have f4 := Own.frozen h 4
      have f7 := Own.frozen h 7
      have f8 := Own.frozen h 8
      have f9 := Own.frozen h 9
      obtain ⟨Z, hZ⟩ : ∃ Z, Z = now + 1 := ⟨_, rfl⟩
      have hwz : IntKind.i64.wrap (now + 1) = Z := by have := HI.out; rw [hZ, IntWalk.i64_in _ (by omega)]
      obtain ⟨Y, hY⟩ : ∃ Y, Y = Fm.nb ⟨t, began, now, out, far, busy, wait, false⟩ := ⟨_, rfl⟩
      obtain ⟨V, hV⟩ : ∃ V, V = Fm.nw ⟨t, began, now, out, far, busy, wait, false⟩ := ⟨_, rfl⟩
      obtain ⟨P, hP⟩ : ∃ P, P = (Y == 0) := ⟨_, rfl⟩
      obtain ⟨Q, hQ⟩ : ∃ Q, Q = (V == 0) := ⟨_, rfl⟩
      have e2 : Fm.act ⟨t, began, now, out, far, busy, wait, false⟩ 8 = ⟨t, began, Z, out, far, Y, V, P || Q⟩ := by rw [hP, hQ, hZ]; simp only [Fm.act, hY, hV]; rfl
      have hpe := hP.symm
      have hqe := hQ.symm
      rw [e2]
      clear e2 hP hQ
      by_cases hb : 0 < busy
      · by_cases hw : 0 < wait
        · cases out
          · cases far
            ·
              have hy2 : Y = busy - 1 := by rw [hY]; exact if_pos hb
              have hwy : IntKind.i64.wrap (busy - 1) = Y := by have := HI.out; rw [hy2, IntWalk.i64_in _ (by omega)]
              clear hY hy2
              have hv2 : V = wait - 1 := by rw [hV]; exact if_pos ⟨hw, rfl, rfl⟩
              have hwv : IntKind.i64.wrap (wait - 1) = V := by have := HI.out; rw [hv2, IntWalk.i64_in _ (by omega)]
              clear hV hv2
              cases P
              ·
                have H := Lib.hid (show MNxt w b (⟨t, began, Z, false, false, Y, V, Q⟩) ((((w.setCell ⟨b, 4, none⟩ (.int .i64 Z)).setCell ⟨b, 7, none⟩ (.int .i64 Y)).setCell ⟨b, 8, none⟩ (.int .i64 V)).setCell ⟨b, 9, none⟩ (.bool Q)) from ⟨(Own.set (Own.set (Own.set (Own.set h 4 (.int .i64 Z)) 7 (.int .i64 Y)) 8 (.int .i64 V)) 9 (.bool Q)), (Blk.more ((Blk.more ((Blk.more ((Blk.more (Exc.refl _ w) 4 (.int .i64 Z))) 7 (.int .i64 Y))) 8 (.int .i64 V))) 9 (.bool Q))⟩)
                clear h hZ
                go_enter Try.func14, Try.ntmps14
                go_wp2
                go_ret
                exact ⟨rfl, H.out⟩
              ·
                have H := Lib.hid (show MNxt w b (⟨t, began, Z, false, false, Y, V, true⟩) ((((w.setCell ⟨b, 4, none⟩ (.int .i64 Z)).setCell ⟨b, 7, none⟩ (.int .i64 Y)).setCell ⟨b, 8, none⟩ (.int .i64 V)).setCell ⟨b, 9, none⟩ (.bool true)) from ⟨(Own.set (Own.set (Own.set (Own.set h 4 (.int .i64 Z)) 7 (.int .i64 Y)) 8 (.int .i64 V)) 9 (.bool true)), (Blk.more ((Blk.more ((Blk.more ((Blk.more (Exc.refl _ w) 4 (.int .i64 Z))) 7 (.int .i64 Y))) 8 (.int .i64 V))) 9 (.bool true))⟩)
                clear h hZ
                go_enter Try.func14, Try.ntmps14
                go_wp2
                go_ret
                exact ⟨rfl, H.out⟩
            ·
              have hy2 : Y = busy - 1 := by rw [hY]; exact if_pos hb
              have hwy : IntKind.i64.wrap (busy - 1) = Y := by have := HI.out; rw [hy2, IntWalk.i64_in _ (by omega)]
              clear hY hy2
              have hv2 : wait = V := by rw [hV]; exact (if_neg (fun hh => by cases hh.2.2)).symm
              subst hv2
              clear hV
              cases P
              ·
                have H := Lib.hid (show MNxt w b (⟨t, began, Z, false, true, Y, wait, Q⟩) (((w.setCell ⟨b, 4, none⟩ (.int .i64 Z)).setCell ⟨b, 7, none⟩ (.int .i64 Y)).setCell ⟨b, 9, none⟩ (.bool Q)) from ⟨(Own.set (Own.set (Own.set h 4 (.int .i64 Z)) 7 (.int .i64 Y)) 9 (.bool Q)), (Blk.more ((Blk.more ((Blk.more (Exc.refl _ w) 4 (.int .i64 Z))) 7 (.int .i64 Y))) 9 (.bool Q))⟩)
                clear h hZ
                go_enter Try.func14, Try.ntmps14
                go_wp2
                go_ret
                exact ⟨rfl, H.out⟩
              ·
                have H := Lib.hid (show MNxt w b (⟨t, began, Z, false, true, Y, wait, true⟩) (((w.setCell ⟨b, 4, none⟩ (.int .i64 Z)).setCell ⟨b, 7, none⟩ (.int .i64 Y)).setCell ⟨b, 9, none⟩ (.bool true)) from ⟨(Own.set (Own.set (Own.set h 4 (.int .i64 Z)) 7 (.int .i64 Y)) 9 (.bool true)), (Blk.more ((Blk.more ((Blk.more (Exc.refl _ w) 4 (.int .i64 Z))) 7 (.int .i64 Y))) 9 (.bool true))⟩)
                clear h hZ
                go_enter Try.func14, Try.ntmps14
                go_wp2
                go_ret
                exact ⟨rfl, H.out⟩
          ·
            have hy2 : Y = busy - 1 := by rw [hY]; exact if_pos hb
            have hwy : IntKind.i64.wrap (busy - 1) = Y := by have := HI.out; rw [hy2, IntWalk.i64_in _ (by omega)]
            clear hY hy2
            have hv2 : wait = V := by rw [hV]; exact (if_neg (fun hh => by cases hh.2.1)).symm
            subst hv2
            clear hV
            cases P
            ·
              have H := Lib.hid (show MNxt w b (⟨t, began, Z, true, far, Y, wait, Q⟩) (((w.setCell ⟨b, 4, none⟩ (.int .i64 Z)).setCell ⟨b, 7, none⟩ (.int .i64 Y)).setCell ⟨b, 9, none⟩ (.bool Q)) from ⟨(Own.set (Own.set (Own.set h 4 (.int .i64 Z)) 7 (.int .i64 Y)) 9 (.bool Q)), (Blk.more ((Blk.more ((Blk.more (Exc.refl _ w) 4 (.int .i64 Z))) 7 (.int .i64 Y))) 9 (.bool Q))⟩)
              clear h hZ
              go_enter Try.func14, Try.ntmps14
              go_wp2
              go_ret
              exact ⟨rfl, H.out⟩
            ·
              have H := Lib.hid (show MNxt w b (⟨t, began, Z, true, far, Y, wait, true⟩) (((w.setCell ⟨b, 4, none⟩ (.int .i64 Z)).setCell ⟨b, 7, none⟩ (.int .i64 Y)).setCell ⟨b, 9, none⟩ (.bool true)) from ⟨(Own.set (Own.set (Own.set h 4 (.int .i64 Z)) 7 (.int .i64 Y)) 9 (.bool true)), (Blk.more ((Blk.more ((Blk.more (Exc.refl _ w) 4 (.int .i64 Z))) 7 (.int .i64 Y))) 9 (.bool true))⟩)
              clear h hZ
              go_enter Try.func14, Try.ntmps14
              go_wp2
              go_ret
              exact ⟨rfl, H.out⟩
        ·
          have hy2 : Y = busy - 1 := by rw [hY]; exact if_pos hb
          have hwy : IntKind.i64.wrap (busy - 1) = Y := by have := HI.out; rw [hy2, IntWalk.i64_in _ (by omega)]
          clear hY hy2
          have hv2 : wait = V := by rw [hV]; exact (if_neg (fun hh => hw hh.1)).symm
          subst hv2
          clear hV
          cases P
          ·
            have H := Lib.hid (show MNxt w b (⟨t, began, Z, out, far, Y, wait, Q⟩) (((w.setCell ⟨b, 4, none⟩ (.int .i64 Z)).setCell ⟨b, 7, none⟩ (.int .i64 Y)).setCell ⟨b, 9, none⟩ (.bool Q)) from ⟨(Own.set (Own.set (Own.set h 4 (.int .i64 Z)) 7 (.int .i64 Y)) 9 (.bool Q)), (Blk.more ((Blk.more ((Blk.more (Exc.refl _ w) 4 (.int .i64 Z))) 7 (.int .i64 Y))) 9 (.bool Q))⟩)
            clear h hZ
            go_enter Try.func14, Try.ntmps14
            go_wp2
            go_ret
            exact ⟨rfl, H.out⟩
          ·
            have H := Lib.hid (show MNxt w b (⟨t, began, Z, out, far, Y, wait, true⟩) (((w.setCell ⟨b, 4, none⟩ (.int .i64 Z)).setCell ⟨b, 7, none⟩ (.int .i64 Y)).setCell ⟨b, 9, none⟩ (.bool true)) from ⟨(Own.set (Own.set (Own.set h 4 (.int .i64 Z)) 7 (.int .i64 Y)) 9 (.bool true)), (Blk.more ((Blk.more ((Blk.more (Exc.refl _ w) 4 (.int .i64 Z))) 7 (.int .i64 Y))) 9 (.bool true))⟩)
            clear h hZ
            go_enter Try.func14, Try.ntmps14
            go_wp2
            go_ret
            exact ⟨rfl, H.out⟩
      · by_cases hw : 0 < wait
        · cases out
          · cases far
            ·
              have hy2 : busy = Y := by rw [hY]; exact (if_neg hb).symm
              subst hy2
              clear hY
              have hv2 : V = wait - 1 := by rw [hV]; exact if_pos ⟨hw, rfl, rfl⟩
              have hwv : IntKind.i64.wrap (wait - 1) = V := by have := HI.out; rw [hv2, IntWalk.i64_in _ (by omega)]
              clear hV hv2
              cases P
              ·
                have H := Lib.hid (show MNxt w b (⟨t, began, Z, false, false, busy, V, Q⟩) (((w.setCell ⟨b, 4, none⟩ (.int .i64 Z)).setCell ⟨b, 8, none⟩ (.int .i64 V)).setCell ⟨b, 9, none⟩ (.bool Q)) from ⟨(Own.set (Own.set (Own.set h 4 (.int .i64 Z)) 8 (.int .i64 V)) 9 (.bool Q)), (Blk.more ((Blk.more ((Blk.more (Exc.refl _ w) 4 (.int .i64 Z))) 8 (.int .i64 V))) 9 (.bool Q))⟩)
                clear h hZ
                go_enter Try.func14, Try.ntmps14
                go_wp2
                go_ret
                exact ⟨rfl, H.out⟩
              ·
                have H := Lib.hid (show MNxt w b (⟨t, began, Z, false, false, busy, V, true⟩) (((w.setCell ⟨b, 4, none⟩ (.int .i64 Z)).setCell ⟨b, 8, none⟩ (.int .i64 V)).setCell ⟨b, 9, none⟩ (.bool true)) from ⟨(Own.set (Own.set (Own.set h 4 (.int .i64 Z)) 8 (.int .i64 V)) 9 (.bool true)), (Blk.more ((Blk.more ((Blk.more (Exc.refl _ w) 4 (.int .i64 Z))) 8 (.int .i64 V))) 9 (.bool true))⟩)
                clear h hZ
                go_enter Try.func14, Try.ntmps14
                go_wp2
                go_ret
                exact ⟨rfl, H.out⟩
            ·
              have hy2 : busy = Y := by rw [hY]; exact (if_neg hb).symm
              subst hy2
              clear hY
              have hv2 : wait = V := by rw [hV]; exact (if_neg (fun hh => by cases hh.2.2)).symm
              subst hv2
              clear hV
              cases P
              ·
                have H := Lib.hid (show MNxt w b (⟨t, began, Z, false, true, busy, wait, Q⟩) ((w.setCell ⟨b, 4, none⟩ (.int .i64 Z)).setCell ⟨b, 9, none⟩ (.bool Q)) from ⟨(Own.set (Own.set h 4 (.int .i64 Z)) 9 (.bool Q)), (Blk.more ((Blk.more (Exc.refl _ w) 4 (.int .i64 Z))) 9 (.bool Q))⟩)
                clear h hZ
                go_enter Try.func14, Try.ntmps14
                go_wp2
                go_ret
                exact ⟨rfl, H.out⟩
              ·
                have H := Lib.hid (show MNxt w b (⟨t, began, Z, false, true, busy, wait, true⟩) ((w.setCell ⟨b, 4, none⟩ (.int .i64 Z)).setCell ⟨b, 9, none⟩ (.bool true)) from ⟨(Own.set (Own.set h 4 (.int .i64 Z)) 9 (.bool true)), (Blk.more ((Blk.more (Exc.refl _ w) 4 (.int .i64 Z))) 9 (.bool true))⟩)
                clear h hZ
                go_enter Try.func14, Try.ntmps14
                go_wp2
                go_ret
                exact ⟨rfl, H.out⟩
          ·
            have hy2 : busy = Y := by rw [hY]; exact (if_neg hb).symm
            subst hy2
            clear hY
            have hv2 : wait = V := by rw [hV]; exact (if_neg (fun hh => by cases hh.2.1)).symm
            subst hv2
            clear hV
            cases P
            ·
              have H := Lib.hid (show MNxt w b (⟨t, began, Z, true, far, busy, wait, Q⟩) ((w.setCell ⟨b, 4, none⟩ (.int .i64 Z)).setCell ⟨b, 9, none⟩ (.bool Q)) from ⟨(Own.set (Own.set h 4 (.int .i64 Z)) 9 (.bool Q)), (Blk.more ((Blk.more (Exc.refl _ w) 4 (.int .i64 Z))) 9 (.bool Q))⟩)
              clear h hZ
              go_enter Try.func14, Try.ntmps14
              go_wp2
              go_ret
              exact ⟨rfl, H.out⟩
            ·
              have H := Lib.hid (show MNxt w b (⟨t, began, Z, true, far, busy, wait, true⟩) ((w.setCell ⟨b, 4, none⟩ (.int .i64 Z)).setCell ⟨b, 9, none⟩ (.bool true)) from ⟨(Own.set (Own.set h 4 (.int .i64 Z)) 9 (.bool true)), (Blk.more ((Blk.more (Exc.refl _ w) 4 (.int .i64 Z))) 9 (.bool true))⟩)
              clear h hZ
              go_enter Try.func14, Try.ntmps14
              go_wp2
              go_ret
              exact ⟨rfl, H.out⟩
        ·
          have hy2 : busy = Y := by rw [hY]; exact (if_neg hb).symm
          subst hy2
          clear hY
          have hv2 : wait = V := by rw [hV]; exact (if_neg (fun hh => hw hh.1)).symm
          subst hv2
          clear hV
          cases P
          ·
            have H := Lib.hid (show MNxt w b (⟨t, began, Z, out, far, busy, wait, Q⟩) ((w.setCell ⟨b, 4, none⟩ (.int .i64 Z)).setCell ⟨b, 9, none⟩ (.bool Q)) from ⟨(Own.set (Own.set h 4 (.int .i64 Z)) 9 (.bool Q)), (Blk.more ((Blk.more (Exc.refl _ w) 4 (.int .i64 Z))) 9 (.bool Q))⟩)
            clear h hZ
            go_enter Try.func14, Try.ntmps14
            go_wp2
            go_ret
            exact ⟨rfl, H.out⟩
          ·
            have H := Lib.hid (show MNxt w b (⟨t, began, Z, out, far, busy, wait, true⟩) ((w.setCell ⟨b, 4, none⟩ (.int .i64 Z)).setCell ⟨b, 9, none⟩ (.bool true)) from ⟨(Own.set (Own.set h 4 (.int .i64 Z)) 9 (.bool true)), (Blk.more ((Blk.more (Exc.refl _ w) 4 (.int .i64 Z))) 9 (.bool true))⟩)
            clear h hZ
            go_enter Try.func14, Try.ntmps14
            go_wp2
            go_ret
            exact ⟨rfl, H.out⟩
    ·
      have c6 := FmAt.c6 h
      dsimp only at c6
      have f6 := Own.frozen h 6
      have H := Lib.hid (show MNxt w b (⟨t, began, now, out, false, busy, wait, false⟩) (w.setCell ⟨b, 6, none⟩ (.bool false)) from ⟨(Own.set h 6 (.bool false)), (Blk.more (Exc.refl _ w) 6 (.bool false))⟩)
      clear h
      go_enter Try.func14, Try.ntmps14
      go_wp2
      go_ret
      exact ⟨rfl, H.out⟩
    ·
      have c9 := FmAt.c9 h
      dsimp only at c9
      have f9 := Own.frozen h 9
      have H := Lib.hid (show MNxt w b (⟨t, began, now, out, far, busy, wait, true⟩) (w.setCell ⟨b, 9, none⟩ (.bool true)) from ⟨(Own.set h 9 (.bool true)), (Blk.more (Exc.refl _ w) 9 (.bool true))⟩)
      clear h
      go_enter Try.func14, Try.ntmps14
      go_wp2
      go_ret
      exact ⟨rfl, H.out⟩
    ·
      have c9 := FmAt.c9 h
      dsimp only at c9
      have f9 := Own.frozen h 9
      have H := Lib.hid (show MNxt w b (⟨t, began, now, out, far, busy, wait, true⟩) (w.setCell ⟨b, 9, none⟩ (.bool true)) from ⟨(Own.set h 9 (.bool true)), (Blk.more (Exc.refl _ w) 9 (.bool true))⟩)
      clear h
      go_enter Try.func14, Try.ntmps14
      go_wp2
      go_ret
      exact ⟨rfl, H.out⟩
    ·
      have c9 := FmAt.c9 h
      dsimp only at c9
      have f9 := Own.frozen h 9
      have H := Lib.hid (show MNxt w b (⟨t, began, now, out, far, busy, wait, true⟩) (w.setCell ⟨b, 9, none⟩ (.bool true)) from ⟨(Own.set h 9 (.bool true)), (Blk.more (Exc.refl _ w) 9 (.bool true))⟩)
      clear h
      go_enter Try.func14, Try.ntmps14
      go_wp2
      go_ret
      exact ⟨rfl, H.out⟩
    ·
      have c9 := FmAt.c9 h
      dsimp only at c9
      have f9 := Own.frozen h 9
      have H := Lib.hid (show MNxt w b (⟨t, began, now, out, far, busy, wait, true⟩) (w.setCell ⟨b, 9, none⟩ (.bool true)) from ⟨(Own.set h 9 (.bool true)), (Blk.more (Exc.refl _ w) 9 (.bool true))⟩)
      clear h
      go_enter Try.func14, Try.ntmps14
      go_wp2
      go_ret
      exact ⟨rfl, H.out⟩
    ·
      have c6 := FmAt.c6 h
      dsimp only at c6
      have f6 := Own.frozen h 6
      have H := Lib.hid (show MNxt w b (⟨t, began, now, out, true, busy, wait, false⟩) (w.setCell ⟨b, 6, none⟩ (.bool true)) from ⟨(Own.set h 6 (.bool true)), (Blk.more (Exc.refl _ w) 6 (.bool true))⟩)
      clear h
      go_enter Try.func14, Try.ntmps14
      go_wp2
      go_ret
      exact ⟨rfl, H.out⟩
    ·
      have c1 := FmAt.c1 h
      have c2 := FmAt.c2 h
      have c7 := FmAt.c7 h
      have c8 := FmAt.c8 h
      dsimp only at c1 c2 c7 c8
      have f7 := Own.frozen h 7
      have f8 := Own.frozen h 8
      by_cases hb : busy < 0 <;> by_cases hw : 0 ≤ wait
      · have e2 : Fm.act ⟨t, began, now, out, far, busy, wait, false⟩ 15 = ⟨t, began, now, out, far, (t.most : Int), (t.wait : Int), false⟩ := by simp [Fm.act, hb, hw]
        rw [e2]
        have H := Lib.hid (show MNxt w b (⟨t, began, now, out, far, (t.most : Int), (t.wait : Int), false⟩) ((w.setCell ⟨b, 7, none⟩ (.int .i64 (t.most : Int))).setCell ⟨b, 8, none⟩ (.int .i64 (t.wait : Int))) from ⟨(Own.set (Own.set h 7 (.int .i64 (t.most : Int))) 8 (.int .i64 (t.wait : Int))), (Blk.more ((Blk.more (Exc.refl _ w) 7 (.int .i64 (t.most : Int)))) 8 (.int .i64 (t.wait : Int)))⟩)
        clear h e2
        go_enter Try.func14, Try.ntmps14
        go_wp2
        go_ret
        exact ⟨rfl, H.out⟩
      · have e2 : Fm.act ⟨t, began, now, out, far, busy, wait, false⟩ 15 = ⟨t, began, now, out, far, (t.most : Int), wait, false⟩ := by simp [Fm.act, hb, hw]
        rw [e2]
        have H := Lib.hid (show MNxt w b (⟨t, began, now, out, far, (t.most : Int), wait, false⟩) (w.setCell ⟨b, 7, none⟩ (.int .i64 (t.most : Int))) from ⟨(Own.set h 7 (.int .i64 (t.most : Int))), (Blk.more (Exc.refl _ w) 7 (.int .i64 (t.most : Int)))⟩)
        clear h e2
        go_enter Try.func14, Try.ntmps14
        go_wp2
        go_ret
        exact ⟨rfl, H.out⟩
      · have e2 : Fm.act ⟨t, began, now, out, far, busy, wait, false⟩ 15 = ⟨t, began, now, out, far, busy, (t.wait : Int), false⟩ := by simp [Fm.act, hb, hw]
        rw [e2]
        have H := Lib.hid (show MNxt w b (⟨t, began, now, out, far, busy, (t.wait : Int), false⟩) (w.setCell ⟨b, 8, none⟩ (.int .i64 (t.wait : Int))) from ⟨(Own.set h 8 (.int .i64 (t.wait : Int))), (Blk.more (Exc.refl _ w) 8 (.int .i64 (t.wait : Int)))⟩)
        clear h e2
        go_enter Try.func14, Try.ntmps14
        go_wp2
        go_ret
        exact ⟨rfl, H.out⟩
      · have e2 : Fm.act ⟨t, began, now, out, far, busy, wait, false⟩ 15 = ⟨t, began, now, out, far, busy, wait, false⟩ := by simp [Fm.act, hb, hw]
        rw [e2]
        have H := Lib.hid (show MNxt w b (⟨t, began, now, out, far, busy, wait, false⟩) w from ⟨h, Exc.refl _ w⟩)
        clear h e2
        go_enter Try.func14, Try.ntmps14
        go_wp2
        go_ret
        exact ⟨rfl, H.out⟩
set_option maxHeartbeats 4000000 in
set_option maxRecDepth 100000 in
theorem msends_any (b : Nat) (m : Fm) (w : World) (h : FmAt w b m) (hf : m.Fit) :
    Calls Try.prog 17 #[.pointer (some ⟨b, 0, none⟩)] w fun e w' => e = .returned (.int .u8 (m.stat : Int)) ∧ ∃ q, w' = w.drewN q := by
  obtain ⟨t, began, now, out, far, busy, wait, failed⟩ := m
  have hB0 := hf.b0; have hB1 := hf.b1; have hN0 := hf.n0; have hN1 := hf.n1; have hA := hf.t.a0; have hBN := hf.bn
  dsimp only at hB0 hB1 hN0 hN1 hA hBN
  have c0 := FmAt.c0 h
  have c3 := FmAt.c3 h
  have c4 := FmAt.c4 h
  have c5 := FmAt.c5 h
  have c9 := FmAt.c9 h
  dsimp only at c0 c3 c4 c5 c9
  clear h hf
  cases failed
  case true =>
    unfold Fm.stat
    go_enter Try.func17, Try.ntmps17
    go_wp2
    go_ret
    exact ⟨rfl, 0, rfl⟩
  case false =>
    cases out
    case true =>
      unfold Fm.stat
      go_enter Try.func17, Try.ntmps17
      go_wp2
      go_ret
      exact ⟨rfl, 0, rfl⟩
    case false =>
      by_cases hg : 0 ≤ began
      · obtain ⟨A, hA1⟩ : ∃ A : Nat, A = t.again := ⟨_, rfl⟩
        obtain ⟨D, hD⟩ : ∃ D : Int, D = now - began := ⟨_, rfl⟩
        have hwd : IntKind.i64.wrap (now - began) = D := by rw [hD, IntWalk.i64_in _ (by omega)]
        obtain ⟨R, hR⟩ : ∃ R : Int, R = D.tmod (A : Int) := ⟨_, rfl⟩
        have e5 := hR.symm
        have e5a : ¬ ((A : Int) = 0) := by omega
        have e5b : ((A : Int) == 0) = false := by simp; omega
        have e5c : ¬ (A = 0) := by omega
        have e5d : (A == 0) = false := by simp; omega
        have hgd : decide (0 ≤ began) = true := decide_eq_true hg
        rw [← hA1] at c0
        have hst : ∀ P : Bool, P = (R == 0) → (0 ≤ D) → Fm.stat ⟨t, began, now, false, far, busy, wait, false⟩ = if P then 5 else 9 := by
          intro P hP h0
          rw [Int.tmod_eq_emod_of_nonneg h0, hA1, hD] at hR
          rw [hP, hR]
          unfold Fm.stat
          by_cases hz : (now - began) % (t.again : Int) = 0
          · simp [hg, hz]
          · simp [hg, hz]
        obtain ⟨P, hP⟩ : ∃ P, P = (R == 0) := ⟨_, rfl⟩
        have hpe := hP.symm
        rw [hst P hP (by omega)]
        clear hst hP hR hD hA1 hN0 hN1 hB0 hB1 hA hBN
        cases P
        ·
          go_enter Try.func17, Try.ntmps17
          go_wp2_with fail
          go_quiet (fail)
          go_wp2
          go_ret
          exact ⟨rfl, _, rfl⟩
        ·
          go_enter Try.func17, Try.ntmps17
          go_wp2_with fail
          go_quiet (fail)
          go_wp2
          go_ret
          exact ⟨rfl, _, rfl⟩
      · have hgd : decide (0 ≤ began) = false := decide_eq_false hg
        have e1 : Fm.stat ⟨t, began, now, false, far, busy, wait, false⟩ = 9 := by simp [Fm.stat, hg]
        rw [e1]
        clear e1
        go_enter Try.func17, Try.ntmps17
        go_wp2_with fail
        go_quiet (fail)
        go_wp2
        go_ret
        exact ⟨rfl, _, rfl⟩
end Go.Proofs.Ytmjgagbmpcbjmaa
