/- Contracts of package units: contentOf, Encode. -/
import Derived.Test.YtnecdmihnndebaaDoorUnCheck
namespace Go.Proofs.YtnecdmihnndebaaDoor
open Go.RowKit

set_option maxRecDepth 100000 in
theorem contentOf_state (a0 : Int) (b1 : Bool) (a2 : Int) (b3 : Bool) (a5 : Int) (s : Option Addr) (n c : Nat) (w : World) :
    Calls Tryd.prog 15 #[.agg #[.int .u8 a0, .bool b1, .int .u8 a2, .bool b3, .int .u8 1, .int .u8 a5, .slice s n c]] w
      fun e w' => e = .returned (.slice (some ⟨w.heap.size + 1, 0, none⟩) 1 1) ∧ w' = (w.alloc (.cells #[.int .u8 a0, .bool b1, .int .u8 a2, .bool b3, .int .u8 1, .int .u8 a5, .slice s n c] 29)).alloc (.cells #[.int .u8 a5] 5) := by
  go_enter Tryd.func15, Tryd.ntmps15
  go_wp2
  go_ret
  exact ⟨by simp, rfl⟩
set_option maxRecDepth 100000 in
theorem contentOf_else (a0 : Int) (b1 : Bool) (a2 : Int) (b3 : Bool) (a4 a5 : Int) (s : Option Addr) (n c : Nat) (w : World) (h : (a4 == 1) = false) :
    Calls Tryd.prog 15 #[.agg #[.int .u8 a0, .bool b1, .int .u8 a2, .bool b3, .int .u8 a4, .int .u8 a5, .slice s n c]] w
      fun e w' => e = .returned (.slice s n c) ∧ w' = w.alloc (.cells #[.int .u8 a0, .bool b1, .int .u8 a2, .bool b3, .int .u8 a4, .int .u8 a5, .slice s n c] 29) := by
  go_enter Tryd.func15, Tryd.ntmps15
  go_wp2
  go_ret
  exact ⟨rfl, rfl⟩
/-- The content of a unit, as a row. -/
theorem contentOf_any (a0 : Int) (b1 : Bool) (a2 : Int) (b3 : Bool) (a4 a5 : Int) (s : Option Addr) (n c : Nat) (l : List Int) (w : World) (h5 : 0 ≤ a5) (h5' : a5 ≤ 255) (h : Row .u8 w s n c l) (h1 : a4 = 1 → n = 0) (m : Nat) (hm : (contL a4 a5 l).length = m) :
    Calls Tryd.prog 15 #[.agg #[.int .u8 a0, .bool b1, .int .u8 a2, .bool b3, .int .u8 a4, .int .u8 a5, .slice s n c]] w
      fun e w' => (∃ s' c', e = .returned (.slice s' m c') ∧ Row .u8 w' s' m c' (contL a4 a5 l)) ∧ Below w.heap.size w w' := by
  subst hm
  by_cases ha : a4 = 1
  · subst ha
    refine (contentOf_state a0 b1 a2 b3 a5 s n c w).mono ?_
    rintro e w' ⟨rfl, rfl⟩
    have hr := row_lit .u8 (w.alloc (.cells #[.int .u8 a0, .bool b1, .int .u8 a2, .bool b3, .int .u8 1, .int .u8 a5, .slice s n c] 29)) 5 [a5] 1 rfl (by decide) (by simp; exact wf_u8.2 ⟨h5, h5'⟩)
    rw [World.size_alloc] at hr
    exact ⟨⟨_, _, rfl, by simpa [contL, nums] using hr⟩, ((Below.refl _ _).alloc (Nat.le_refl _) _).alloc (by simp) _⟩
  · have hb : (a4 == 1) = false := by simpa using ha
    refine (contentOf_else a0 b1 a2 b3 a4 a5 s n c w hb).mono ?_
    rintro e w' ⟨rfl, rfl⟩
    have e1 : contL a4 a5 l = l := by simp [contL, ha]
    rw [e1, h.len]
    exact ⟨⟨_, _, rfl, h.later (below_alloc _ _)⟩, below_alloc _ _⟩
end Go.Proofs.YtnecdmihnndebaaDoor
