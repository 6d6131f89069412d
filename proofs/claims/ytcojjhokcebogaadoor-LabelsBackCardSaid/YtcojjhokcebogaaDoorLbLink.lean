/- Contracts of package labels: Rotate, Link, Other. -/
import Derived.Test.YtcojjhokcebogaaDoorBaseEx
namespace Go.Proofs.YtcojjhokcebogaaDoor
open Go.RowKit

theorem wf_u16 {x : Int} : (Lit.int .u16 x).wf = true ↔ 0 ≤ x ∧ x ≤ 65535 := by
  simp [Lit.wf, IntKind.min, IntKind.max, IntKind.bits, IntKind.signed]
/-- The rotated selection code. -/
def rotL (x : Int) : Int := 4 * (x % 4) + x / 4 % 4
theorem rotL_range {x : Int} : 0 ≤ rotL x ∧ rotL x ≤ 15 := by unfold rotL; omega
theorem rot_two (r s : Int) (h0 : 0 ≤ r) (h1 : r ≤ 3) (h2 : 0 ≤ s) (h3 : s ≤ 3) : (4 * r + s) % 4 = s ∧ (4 * r + s) / 4 % 4 = r := by omega
theorem rotL_twice {x : Int} : rotL (rotL x) = x % 16 := by
  obtain ⟨e1, e2⟩ := rot_two (x % 4) (x / 4 % 4) (by omega) (by omega) (by omega) (by omega)
  have h3 : rotL (rotL x) = 4 * ((4 * (x % 4) + x / 4 % 4) % 4) + (4 * (x % 4) + x / 4 % 4) / 4 % 4 := rfl
  rw [h3, e1, e2]; omega
theorem rot_bits : ∀ i : Fin 256, bits BinOp.or IntKind.u8 (bits BinOp.and IntKind.u8 ((i.val : Int) * 4 % 256) 12) (bits BinOp.and IntKind.u8 ((i.val : Int) / 4) 3) = rotL (i.val : Int) := by decide +kernel
theorem rotate_any (x : Int) (w : World) (h0 : 0 ≤ x) (h1 : x ≤ 255) :
    Calls Tryd.prog 23 #[.int .u8 x] w fun e w' => e = .returned (.int .u8 (rotL x)) ∧ w = w' := by
  have hb := rot_bits ⟨x.toNat, by omega⟩
  simp only [show ((x.toNat : Nat) : Int) = x by omega] at hb
  have HB := Lib.hid hb
  clear hb
  go_enter Tryd.func23, Tryd.ntmps23
  go_wp2
  go_ret
  exact ⟨ret_int HB.out, rfl⟩
theorem link_bad (a b c : Int) (w : World) (h : a = b ∨ 16383 < a ∨ 16383 < b ∨ 15 < c) :
    Calls Tryd.prog 24 #[.int .u16 a, .int .u16 b, .int .u8 c] w fun e w' => e = .returned (.tuple #[.agg #[.int .u16 0, .int .u16 0, .int .u8 0], .int .i64 1]) ∧ Below w.heap.size w w' := by
  by_cases hab : a = b
  · subst hab
    clear h
    go_enter Tryd.func24, Tryd.ntmps24
    go_wp2
    exact bodyPost_ret (v := .tuple #[.agg #[.int .u16 0, .int .u16 0, .int .u8 0], .int .i64 1]) (by simp [results, Tryd.results24, go_sem]) rfl ⟨rfl, below_alloc _ _⟩
  · have h0 : (a == b) = false := by simpa using hab
    by_cases hm : 16383 < max a b
    · have hd : decide (16383 < max a b) = true := by simpa using hm
      clear h
      go_enter Tryd.func24, Tryd.ntmps24
      go_wp2
      all_goals exact bodyPost_ret (v := .tuple #[.agg #[.int .u16 0, .int .u16 0, .int .u8 0], .int .i64 1]) (by simp [results, Tryd.results24, go_sem]) rfl ⟨rfl, below_alloc _ _⟩
    · have hd : ¬ 16383 < max a b := hm
      have hc : 15 < c := by omega
      clear h
      go_enter Tryd.func24, Tryd.ntmps24
      go_wp2
      all_goals exact bodyPost_ret (v := .tuple #[.agg #[.int .u16 0, .int .u16 0, .int .u8 0], .int .i64 1]) (by simp [results, Tryd.results24, go_sem]) rfl ⟨rfl, below_alloc _ _⟩
theorem link_ok (a b c : Int) (w : World) (h : a < b) (hb : b ≤ 16383) (hc : c ≤ 15) :
    Calls Tryd.prog 24 #[.int .u16 a, .int .u16 b, .int .u8 c] w fun e w' => e = .returned (.tuple #[.agg #[.int .u16 a, .int .u16 b, .int .u8 c], .int .i64 0]) ∧ Below w.heap.size w w' := by
  have hab : (a == b) = false := by simp; omega
  have e1 : max a b = b := by omega
  have e2 : min a b = a := by omega
  go_enter Tryd.func24, Tryd.ntmps24
  go_wp2
  all_goals exact bodyPost_ret (v := .tuple #[.agg #[.int .u16 a, .int .u16 b, .int .u8 c], .int .i64 0]) (by simp [results, Tryd.results24, go_sem]) rfl ⟨rfl, below_alloc _ _⟩
theorem link_ok' (a b c : Int) (w : World) (h : b < a) (hb : a ≤ 16383) (hc : c ≤ 15) :
    Calls Tryd.prog 24 #[.int .u16 a, .int .u16 b, .int .u8 c] w fun e w' => e = .returned (.tuple #[.agg #[.int .u16 b, .int .u16 a, .int .u8 c], .int .i64 0]) ∧ Below w.heap.size w w' := by
  have hab : (a == b) = false := by simp; omega
  have e1 : max a b = a := by omega
  have e2 : min a b = b := by omega
  go_enter Tryd.func24, Tryd.ntmps24
  go_wp2
  all_goals exact bodyPost_ret (v := .tuple #[.agg #[.int .u16 b, .int .u16 a, .int .u8 c], .int .i64 0]) (by simp [results, Tryd.results24, go_sem]) rfl ⟨rfl, below_alloc _ _⟩
/-- The other end of a link, and whether there is one. -/
def othB (A B P : Int) : Bool := decide (A = P) != decide (B = P)
def othL (A B P : Int) : Int := if othB A B P then (if A = P then B else A) else 0
theorem other_any (A B C P : Int) (w : World) :
    Calls Tryd.prog 25 #[.agg #[.int .u16 A, .int .u16 B, .int .u8 C], .int .u16 P] w fun e w' => e = .returned (.tuple #[.int .u16 (othL A B P), .bool (othB A B P)]) ∧ Below w.heap.size w w' := by
  by_cases h1 : A = P
  · by_cases h2 : B = P
    · have r1 : othB A B P = false := by simp [othB, h1, h2]
      have r2 : othL A B P = 0 := by simp [othL, r1]
      rw [r1, r2]
      clear r1 r2
      subst h1; subst h2
      go_enter Tryd.func25, Tryd.ntmps25
      go_wp2
      go_ret2
      exact ⟨rfl, below_alloc _ _⟩
    · have r1 : othB A B P = true := by simp [othB, h1, h2]
      have r2 : othL A B P = B := by rw [othL, r1, if_pos rfl, if_pos h1]
      rw [r1, r2]
      clear r1 r2
      subst h1
      have h3 : (B == A) = false := by simpa using h2
      go_enter Tryd.func25, Tryd.ntmps25
      go_wp2
      go_ret2
      exact ⟨rfl, below_alloc _ _⟩
  · have h3 : (A == P) = false := by simpa using h1
    by_cases h2 : B = P
    · have r1 : othB A B P = true := by simp [othB, h1, h2]
      have r2 : othL A B P = A := by rw [othL, r1, if_pos rfl, if_neg h1]
      rw [r1, r2]
      clear r1 r2
      subst h2
      go_enter Tryd.func25, Tryd.ntmps25
      go_wp2
      go_ret2
      exact ⟨rfl, below_alloc _ _⟩
    · have r1 : othB A B P = false := by simp [othB, h1, h2]
      have r2 : othL A B P = 0 := by simp [othL, r1]
      rw [r1, r2]
      clear r1 r2
      have h4 : (B == P) = false := by simpa using h2
      go_enter Tryd.func25, Tryd.ntmps25
      go_wp2
      go_ret2
      exact ⟨rfl, below_alloc _ _⟩
end Go.Proofs.YtcojjhokcebogaaDoor
