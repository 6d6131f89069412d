/- The code's end of a link: New, Accept. -/
import Derived.Test.YtdjnflfcolpccaaEaAdd
namespace Go.Proofs.Ytdjnflfcolpccaa
open Go.RowKit

def ELay.none : ELay := ⟨Option.none, Option.none, Option.none, Option.none, 0, 0, fun _ => False⟩
theorem Fit.zero {lm lo : Nat} (h1 : 1 ≤ lm) (h2 : lm ≤ 127) (h3 : 1 ≤ lo) (h4 : lo ≤ 65535) : (En.zero lm lo).Fit := ⟨Nat.zero_le _, Nat.zero_le _, Nat.le_refl _, h1, h2, h3, h4, (by decide : 127 < 128), (by decide : 127 < 128)⟩
set_option maxHeartbeats 1000000 in
set_option maxRecDepth 100000 in
theorem enew_any (w : World) (lm lo : Nat) (l1 : 1 ≤ lm) (l2 : lm ≤ 127) (l3 : 1 ≤ lo) (l4 : lo ≤ 65535) :
    Calls Try.prog 7 #[.int .i64 (lm : Int), .int .i64 (lo : Int)] w fun e w' => e = .returned (.tuple #[.pointer (some ⟨w.heap.size, 0, Option.none⟩), .int .i64 0]) ∧ EndL w' w.heap.size (En.zero lm lo) ELay.none ∧ Below w.heap.size w w' := by
  have hF := Lib.hid (Fit.zero l1 l2 l3 l4)
  have i1 : decide ((lm : Int) < 1) = false := decide_eq_false (by omega)
  have i2 : decide ((127 : Int) < (lm : Int)) = false := decide_eq_false (by omega)
  have i3 : decide ((lo : Int) < 1) = false := decide_eq_false (by omega)
  have i4 : decide ((65535 : Int) < (lo : Int)) = false := decide_eq_false (by omega)
  have j1 : ¬ (lm : Int) < 1 := by omega
  have j2 : ¬ (127 : Int) < (lm : Int) := by omega
  have j3 : ¬ (lo : Int) < 1 := by omega
  have j4 : ¬ (65535 : Int) < (lo : Int) := by omega
  clear l1 l2 l3 l4
  go_enter Try.func7, Try.ntmps7
  go_wp2
  go_ret2
  refine ⟨rfl, ⟨own_lit w _ _ (endCells (En.zero lm lo) ELay.none) rfl, RowsAt.nil _ _, RowsAt.nil _ _, fun h => h, fun k hk => by simp [ELay.none] at hk, fun k hk => by simp [ELay.none] at hk, fun k hk => by exact hk.elim, hF.out, fun k hk => by simp [En.zero] at hk⟩, below_alloc _ _⟩
theorem enew_bad (w : World) (a b : Int) (h : a < 1 ∨ 127 < a ∨ b < 1 ∨ 65535 < b) :
    Calls Try.prog 7 #[.int .i64 a, .int .i64 b] w fun e w' => e = .returned (.tuple #[.pointer Option.none, .int .i64 1]) ∧ w' = w := by
  go_enter Try.func7, Try.ntmps7
  by_cases h1 : a < 1
  · have i1 : decide (a < 1) = true := decide_eq_true h1
    clear h
    go_wp2
    go_ret2
    exact ⟨rfl, rfl⟩
  · have i1 : decide (a < 1) = false := decide_eq_false h1
    by_cases h2 : 127 < a
    · have i2 : decide (127 < a) = true := decide_eq_true h2
      clear h
      go_wp2
      go_ret2
      exact ⟨rfl, rfl⟩
    · have i2 : decide (127 < a) = false := decide_eq_false h2
      by_cases h3 : b < 1
      · have i3 : decide (b < 1) = true := decide_eq_true h3
        clear h
        go_wp2
        go_ret2
        exact ⟨rfl, rfl⟩
      · have i3 : decide (b < 1) = false := decide_eq_false h3
        have h4 : 65535 < b := by omega
        have i4 : decide (65535 < b) = true := decide_eq_true h4
        clear h
        go_wp2
        go_ret2
        exact ⟨rfl, rfl⟩
set_option maxHeartbeats 1000000 in
set_option maxRecDepth 100000 in
/-- A failed end. -/
theorem accept_failed (b : Nat) (x : En) (L : ELay) (w : World) (v : Value) (h : EndL w b x L) (hf : x.failed = true) :
    Calls Try.prog 8 #[.pointer (some ⟨b, 0, none⟩), v] w fun e w' => e = .returned (.int .i64 6) ∧ ∃ q, w' = w.drewN q := by
  have hcon := echeck_any b x L w h
  rw [hf] at hcon
  simp only [if_true] at hcon
  have HC := Lib.hid hcon
  clear h hcon
  go_enter Try.func8, Try.ntmps8
  go_wp2_with fail
  refine HC.out.mono ?_
  rintro e w' ⟨rfl, q, rfl⟩
  go_wp2
  go_ret
  exact ⟨rfl, q, rfl⟩
set_option maxHeartbeats 1000000 in
set_option maxRecDepth 100000 in
/-- A load that is no load, or a queue that is full. -/
theorem accept_not (b : Nat) (x : En) (L : ELay) (w : World) (a : Option Addr) (n c : Nat) (h : EndL w b x L) (hf : x.failed = false) (hn : n ≤ 9223372036854775807) (hno : chk 0 0 2 0 n ≠ 0 ∨ x.que.length = 64) :
    Calls Try.prog 8 #[.pointer (some ⟨b, 0, none⟩), .slice a n c] w fun e w' => e = .returned (.int .i64 (if chk 0 0 2 0 n ≠ 0 then chk 0 0 2 0 n else 9)) ∧ Below w.heap.size w w' := by
  have hcon := echeck_any b x L w h
  rw [hf] at hcon
  simp only [Bool.false_eq_true, if_false] at hcon
  have hck := fun q => ucheck_any 0 false 0 false 2 0 a n c (w.drewN q) (by omega) (by omega) (by omega) (by omega) (by omega) (by omega) (by omega) (by omega) hn
  obtain ⟨C, hC⟩ : ∃ C, C = chk 0 0 2 0 n := ⟨_, rfl⟩
  rw [← hC] at hck hno ⊢
  have HC := Lib.hid hcon
  have HK := Lib.hid hck
  have H := Lib.hid h
  clear h hcon hck hC
  go_enter Try.func8, Try.ntmps8
  go_wp2_with fail
  refine HC.out.mono ?_
  rintro e w' ⟨rfl, q, rfl⟩
  go_wp2_with fail
  refine (HK.out q).mono ?_
  rintro e w2 ⟨rfl, hb⟩
  have hb2 : Below w.heap.size w w2 := (below_draw w q).trans hb
  have HB := Lib.hid hb2
  clear hb hb2
  by_cases hC0 : C = 0
  · subst hC0
    obtain ⟨_, _, c0, _, _, _, _, _, _, _, _⟩ := (H.out.later HB.out).cells
    have h64 : x.que.length = 64 := by simpa using hno
    have hq1 : ((x.que.length : Int) == 64) = true := by simp; omega
    go_wp2
    go_ret
    exact ⟨rfl, HB.out⟩
  · have hb1 : (C == 0) = false := by simp [hC0]
    have hb2 : (C != 0) = true := by simp [hC0]
    go_wp2
    go_ret
    exact ⟨ret_int (by first | rfl | rw [if_pos hC0]), HB.out⟩
end Go.Proofs.Ytdjnflfcolpccaa
