/- The statements' own functions index and lines. -/
import Derived.Test.YtgklapjjofclcaaGreatDoorPlAt
import Derived.StillTailTactics
namespace Go.Proofs.YtgklapjjofclcaaGreatDoor
open Go.RowKit

def planCells (a : Option Addr) (n c : Nat) (a' : Option Addr) (n' c' : Nat) (p : Pn) : List Value := [.slice a n c, .slice a' n' c', .int .i64 p.rate, .int .i64 p.room, .int .i64 p.m0, .int .i64 p.m1, .int .i64 p.m2]
theorem own_alloc (w : World) (cs : List Value) (t : Nat) : Own (w.alloc (.cells cs.toArray t)) w.heap.size t cs := heap_alloc_new w _
/-- The boxed plan: its two slices. -/
theorem boxed {a : Option Addr} {n c : Nat} {a' : Option Addr} {n' c' : Nat} {p : Pn} {w W : World} {t : Nat} (hW : W = w.alloc (.cells (planCells a n c a' n' c' p).toArray t)) :
    W.cell? ⟨w.heap.size, 0, none⟩ = some (.slice a n c) ∧ W.cell? ⟨w.heap.size, 1, none⟩ = some (.slice a' n' c') ∧ W.cell? ⟨w.heap.size, 2, none⟩ = some (.int .i64 p.rate) ∧ W.cell? ⟨w.heap.size, 3, none⟩ = some (.int .i64 p.room) ∧ W.cell? ⟨w.heap.size, 4, none⟩ = some (.int .i64 p.m0) ∧ W.cell? ⟨w.heap.size, 5, none⟩ = some (.int .i64 p.m1) ∧ W.cell? ⟨w.heap.size, 6, none⟩ = some (.int .i64 p.m2) ∧ Below w.heap.size w W := by
  have h := own_alloc w (planCells a n c a' n' c' p) t
  rw [← hW] at h
  refine ⟨h.cell 0 (by simp [planCells]), h.cell 1 (by simp [planCells]), h.cell 2 (by simp [planCells]), h.cell 3 (by simp [planCells]), h.cell 4 (by simp [planCells]), h.cell 5 (by simp [planCells]), h.cell 6 (by simp [planCells]), ?_⟩
  rw [hW]; exact below_alloc _ _
theorem index_any (p : Pn) (a : Option Addr) (n c : Nat) (a' : Option Addr) (n' c' : Nat) (code : Int) (w : World) (hP : PRow w a n c p.P) :
    Calls Tryz.prog 20 #[planV a n c a' n' c' p, .int .u16 code] w fun e w' => e = .returned (.int .i64 (idxI p.P code)) ∧ Below w.heap.size w w' := by
  unfold planV
  obtain ⟨W, hW⟩ : ∃ W, W = w.alloc (.cells (planCells a n c a' n' c' p).toArray 31) := ⟨_, rfl⟩
  obtain ⟨g0, g1, g2, g3, g4, g5, g6, hB⟩ := boxed hW
  have hP' := hP.later hB
  have hmax := hP.max
  have hle := hP.le
  unfold maxLen at hmax
  go_enter Tryz.func20, Tryz.ntmps20
  go_wp2_with fail
  show Code.wp _ _ _ _ (w.alloc (.cells (planCells a n c a' n' c' p).toArray 31))
  rw [← hW]
  have HW := Lib.hid hW
  have HB := Lib.hid hB
  have HP := Lib.hid hP'
  have hPl := Lib.hid hP.len
  clear hW hB hP hP'
  go_loopw [5] (fun i wr => ∃ k : Nat, k ≤ n ∧ i = .int .i64 k ∧ (∀ j, j < k → pc p.P j ≠ code) ∧ wr = W) (fun i _ => n - (intOf i).toNat)
  case atStart => exact ⟨0, Nat.zero_le _, rfl, fun j hj => absurd hj (Nat.not_lt_zero _), rfl⟩
  case round =>
    obtain ⟨k, hk, rfl, hno, rfl⟩ := hrel
    have HN := Lib.hid hno
    clear hno
    by_cases hkn : k < n
    · obtain ⟨b, off, rfl, hc⟩ := HP.out.cells.resolve_left (by omega)
      obtain ⟨c0, c1⟩ := hc k hkn
      clear hc
      obtain ⟨x, hx⟩ : ∃ x, x = pc p.P k := ⟨_, rfl⟩
      have HX := Lib.hid hx
      rw [← hx] at c0
      clear hx
      by_cases he : x = code
      · subst he
        go_wp2
        go_ret
        refine ⟨ret_int ?_, HB.out⟩
        unfold idxI
        rw [fnd_some (k := k) (by have := hPl.out; omega) HX.out.symm HN.out]
      · go_wp2
        refine ⟨⟨k + 1, by omega, by go_num, fun j hj => ?_, trivial⟩, by simp [intOf]; omega⟩
        by_cases hjk : j = k
        · rw [hjk, ← HX.out]; exact he
        · exact HN.out j (by omega)
    · have hkn' : k = n := by omega
      subst hkn'
      go_wp2
      go_ret
      refine ⟨ret_int ?_, HB.out⟩
      unfold idxI
      rw [fnd_none (by rw [hPl.out]; exact HN.out)]
theorem joins_one {A B C D x y : Int} {l : Ln} {r : Bool} (h : l = ⟨A, B, C, D⟩) (hr : joins ⟨A, B, C, D⟩ x y = r) : joins l x y = r := by rw [h]; exact hr
theorem near_t {L : List Ln} {x y : Int} {k N : Nat} (hs : nearN (L.take (k + 1)) x y = nearN (L.take k) x y + (if joins (lnAt L k) x y = true then 1 else 0)) (hj : joins (lnAt L k) x y = true) (hn : N = nearN (L.take k) x y) : Value.int .i64 ((N : Int) + 1) = Value.int .i64 (nearN (L.take (k + 1)) x y) := by
  rw [hs, if_pos hj, ← hn]; congr 1
theorem near_f {L : List Ln} {x y : Int} {k N : Nat} (hs : nearN (L.take (k + 1)) x y = nearN (L.take k) x y + (if joins (lnAt L k) x y = true then 1 else 0)) (hj : joins (lnAt L k) x y = false) (hn : N = nearN (L.take k) x y) : Value.int .i64 (N : Int) = Value.int .i64 (nearN (L.take (k + 1)) x y) := by
  rw [hs, if_neg (by rw [hj]; exact Bool.false_ne_true), ← hn]; rfl
end Go.Proofs.YtgklapjjofclcaaGreatDoor
