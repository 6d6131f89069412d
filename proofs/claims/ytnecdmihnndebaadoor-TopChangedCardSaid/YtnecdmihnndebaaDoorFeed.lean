/- Contracts: Feed. -/
import Derived.Test.YtnecdmihnndebaaDoorScan4
namespace Go.Proofs.YtnecdmihnndebaaDoor
open Go.RowKit

theorem feed_none (a : Option Addr) (n c : Nat) (w : World) :
    Calls Tryd.prog 23 #[.pointer none, .slice a n c] w fun e w' => e = .returned (.tuple #[.slice none 0 0, .int .i64 2]) ∧ w = w' := by
  go_enter Tryd.func23, Tryd.ntmps23
  go_wp2
  go_ret2
  exact ⟨rfl, rfl⟩
theorem feed_zero (b o : Nat) (a : Option Addr) (n c : Nat) (w : World) (h : w.cell? ⟨b, o, none⟩ = some (.int .i64 0)) :
    Calls Tryd.prog 23 #[.pointer (some ⟨b, o, none⟩), .slice a n c] w fun e w' => e = .returned (.tuple #[.slice none 0 0, .int .i64 2]) ∧ w = w' := by
  go_enter Tryd.func23, Tryd.ntmps23
  go_wp2
  go_ret2
  exact ⟨rfl, rfl⟩
theorem errors_zero (b o : Nat) (w : World) (h : w.cell? ⟨b, o + 3, none⟩ = some (.int .i64 0)) :
    Calls Tryd.prog 22 #[.pointer (some ⟨b, o, none⟩)] w fun e w' => e = .returned (.int .i64 0) ∧ w = w' := by
  go_enter Tryd.func22, Tryd.ntmps22
  go_wp2
  go_ret
  exact ⟨rfl, rfl⟩
theorem ScAt.state {w : World} {b : Nat} {g : Option Nat} {x : Sc} {m : Nat} (h : ScAt w b g x m) : ∃ q : Int, w.cell? ⟨b, 0, none⟩ = some (.int .i64 q) ∧ (q == 0) = false := by
  obtain ⟨i, o, k, e⟩ := x
  obtain ⟨⟨h0, _⟩, _⟩ := h.cells
  exact ⟨_, h0, by cases i <;> rfl⟩
theorem feed_err (b : Nat) (g : Option Nat) (x : Sc) (m : Nat) (a : Option Addr) (n c : Nat) (l : List Int) (r : Int) (w : World) (h : ScAt w b g x m) (hrow : Row .u8 w a n c l) (he : errOf l = r) (hr : r ≠ 0) :
    Calls Tryd.prog 23 #[.pointer (some ⟨b, 0, none⟩), .slice a n c] w fun e w' => e = .returned (.tuple #[.slice none 0 0, .int .i64 r]) ∧ w = w' := by
  have hcon := check_any a n c l w hrow
  rw [he] at hcon
  have hne : (r != 0) = true := by simpa using hr
  obtain ⟨q, hq, hq0⟩ := h.state
  have H := Lib.hid hcon
  clear hcon h hrow he hr
  go_enter Tryd.func23, Tryd.ntmps23
  go_wp2_with fail
  refine H.out.mono ?_
  rintro e w' ⟨rfl, rfl⟩
  go_wp2
  go_ret2
  exact ⟨rfl, rfl⟩
theorem feed_ok (b : Nat) (g : Option Nat) (x : Sc) (m : Nat) (a : Option Addr) (n c : Nat) (l : List Int) (w : World) (h : ScAt w b g x m) (hrow : Row .u8 w a n c l) (he : errOf l = 0) (hsep : ∀ z, a = some z → z.block ≠ b ∧ g ≠ some z.block) (hm : m ≤ 1000000000) :
    Calls Tryd.prog 23 #[.pointer (some ⟨b, 0, none⟩), .slice a n c] w fun e w' => ∃ v, e = .returned (.tuple #[v, .int .i64 0]) ∧ CollSays w b g (feed x l) (m + 2 * n) v w' := by
  have hcon := check_any a n c l w hrow
  rw [he] at hcon
  obtain ⟨hn, hbits⟩ := errOf_zero he
  have hbin : Bin l := fun x hx => by have := hrow.bits hbits x hx; omega
  rw [hrow.len] at hn
  have hcol := collected_any b g x m a n c l w h hrow hbin hsep hm (by omega)
  obtain ⟨q, hq, hq0⟩ := h.state
  have H := Lib.hid hcon
  have HC := Lib.hid hcol
  clear hcon h hrow he hcol hbin hsep hbits
  go_enter Tryd.func23, Tryd.ntmps23
  go_wp2_with fail
  refine H.out.mono ?_
  rintro e w' ⟨rfl, rfl⟩
  go_wp2_with fail
  refine HC.out.mono ?_
  rintro e w' ⟨v, rfl, hs⟩
  have HS := Lib.hid hs
  clear hs
  go_wp2
  go_ret2
  exact ⟨_, rfl, HS.out⟩
end Go.Proofs.YtnecdmihnndebaaDoor
