/- The code's end of a link: New, Accept. -/
import Derived.Test.YtoegijmfcelgnaaEaAdd
namespace Go.Proofs.Ytoegijmfcelgnaa
open Go.RowKit

def ELay.none : ELay := ⟨Option.none, Option.none, Option.none, Option.none, 0, 0, fun _ => False⟩
set_option maxHeartbeats 1000000 in
set_option maxRecDepth 100000 in
theorem enew_any (w : World) :
    Calls Try.prog 6 #[] w fun e w' => e = .returned (.pointer (some ⟨w.heap.size, 0, Option.none⟩)) ∧ EndL w' w.heap.size En.zero ELay.none ∧ Below w.heap.size w w' := by
  go_enter Try.func6, Try.ntmps6
  go_wp2
  go_ret
  refine ⟨rfl, ⟨own_lit w _ _ (endCells En.zero ELay.none) rfl, RowsAt.nil _ _, RowsAt.nil _ _, fun h => h, fun k hk => by simp [ELay.none] at hk, fun k hk => by simp [ELay.none] at hk, fun k hk => by exact hk.elim, ⟨by decide, by decide, by decide, by decide, by decide⟩, fun k hk => by simp [En.zero] at hk⟩, below_alloc _ _⟩
set_option maxHeartbeats 1000000 in
set_option maxRecDepth 100000 in
/-- A failed end. -/
theorem accept_failed (b : Nat) (x : En) (L : ELay) (w : World) (v : Value) (h : EndL w b x L) (hf : x.failed = true) :
    Calls Try.prog 8 #[.pointer (some ⟨b, 0, none⟩), v] w fun e w' => e = .returned (.int .i64 6) ∧ ∃ q, w' = w.drewN q := by
  have hcon := echeck_any b x L w h
  rw [hf] at hcon
  simp only [if_true] at hcon
  have HC := Lib.hid hcon
  clear h hcon
  go_enter Try.func8, Try.ntmps8
  go_wp2_with fail
  refine HC.out.mono ?_
  rintro e w' ⟨rfl, q, rfl⟩
  go_wp2
  go_ret
  exact ⟨rfl, q, rfl⟩
set_option maxHeartbeats 1000000 in
set_option maxRecDepth 100000 in
/-- A load that is no load, or a queue that is full. -/
theorem accept_not (b : Nat) (x : En) (L : ELay) (w : World) (a : Option Addr) (n c : Nat) (h : EndL w b x L) (hf : x.failed = false) (hn : n ≤ 9223372036854775807) (hno : chk 0 0 2 0 n ≠ 0 ∨ x.que.length = 64) :
    Calls Try.prog 8 #[.pointer (some ⟨b, 0, none⟩), .slice a n c] w fun e w' => e = .returned (.int .i64 (if chk 0 0 2 0 n ≠ 0 then chk 0 0 2 0 n else 9)) ∧ Below w.heap.size w w' := by
  have hcon := echeck_any b x L w h
  rw [hf] at hcon
  simp only [Bool.false_eq_true, if_false] at hcon
  have hck := fun q => ucheck_any 0 false 0 false 2 0 a n c (w.drewN q) (by omega) (by omega) (by omega) (by omega) (by omega) (by omega) (by omega) (by omega) hn
  obtain ⟨C, hC⟩ : ∃ C, C = chk 0 0 2 0 n := ⟨_, rfl⟩
  rw [← hC] at hck hno ⊢
  have HC := Lib.hid hcon
  have HK := Lib.hid hck
  have H := Lib.hid h
  clear h hcon hck hC
  go_enter Try.func8, Try.ntmps8
  go_wp2_with fail
  refine HC.out.mono ?_
  rintro e w' ⟨rfl, q, rfl⟩
  go_wp2_with fail
  refine (HK.out q).mono ?_
  rintro e w2 ⟨rfl, hb⟩
  have hb2 : Below w.heap.size w w2 := (below_draw w q).trans hb
  have HB := Lib.hid hb2
  clear hb hb2
  by_cases hC0 : C = 0
  · subst hC0
    obtain ⟨c0, _, _, _, _, _, _, _, _, _, _⟩ := (H.out.later HB.out).cells
    have h64 : x.que.length = 64 := by simpa using hno
    have hq1 : ((x.que.length : Int) == 64) = true := by simp; omega
    go_wp2
    go_ret
    exact ⟨rfl, HB.out⟩
  · have hb1 : (C == 0) = false := by simp [hC0]
    have hb2 : (C != 0) = true := by simp [hC0]
    go_wp2
    go_ret
    exact ⟨ret_int (by first | rfl | rw [if_pos hC0]), HB.out⟩
end Go.Proofs.Ytoegijmfcelgnaa
