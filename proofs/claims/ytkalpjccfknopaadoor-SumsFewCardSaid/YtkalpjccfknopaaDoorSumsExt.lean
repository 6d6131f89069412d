/- Contracts of package sums: Extend, Sum, Start. -/
import Derived.Test.YtkalpjccfknopaaDoorSums
namespace Go.Proofs.YtkalpjccfknopaaDoor
open Go.RowKit

def toN (l : List Int) : List Nat := l.map Int.toNat
theorem toN_lt {l : List Int} (h : ∀ x ∈ l, 0 ≤ x ∧ x ≤ 255) : ∀ x ∈ toN l, x < 256 := by
  intro x hx
  simp only [toN, List.mem_map] at hx
  obtain ⟨y, hy, rfl⟩ := hx
  have := h y hy
  omega
theorem toN_append (a b : List Int) : toN (a ++ b) = toN a ++ toN b := by simp [toN]
theorem toN_length (a : List Int) : (toN a).length = a.length := by simp [toN]
theorem Row.octs {w : World} {a : Option Addr} {n c : Nat} {l : List Int} (h : Row .u8 w a n c l) : ∀ x ∈ l, 0 ≤ x ∧ x ≤ 255 := fun x hx => wf_u8.1 (h.wf x hx)
theorem toN_ofN {l : List Int} (h : ∀ x ∈ l, 0 ≤ x ∧ x ≤ 255) : (toN l).map Int.ofNat = l := by
  simp only [toN, List.map_map]
  conv => rhs; rw [← List.map_id l]
  apply List.map_congr_left
  intro x hx
  have := h x hx
  show ((x.toNat : Nat) : Int) = x
  omega
theorem getD_oct {l : List Int} (h : ∀ x ∈ l, 0 ≤ x ∧ x ≤ 255) (i : Nat) : 0 ≤ l.getD i 0 ∧ l.getD i 0 ≤ 255 := by
  rw [List.getD_eq_getElem?_getD]
  by_cases hi : i < l.length
  · rw [List.getElem?_eq_getElem hi]; exact h _ (List.getElem_mem hi)
  · rw [List.getElem?_eq_none (by omega)]; decide
set_option maxHeartbeats 800000 in
theorem extend_any (r : Nat) (a : Option Addr) (n c : Nat) (l : List Int) (w : World) (hr : r < 65536) (hb : BehindOk w) (h : Row .u8 w a n c l) :
    Calls Tryd.prog 10 #[.int .u16 r, .slice a n c] w fun e w' => e = .returned (.int .u16 ((Crc.ext r (toN l) : Nat) : Int)) ∧ w = w' := by
  have hoct := h.octs
  obtain ⟨hl, hle, hm, hw, hc, _⟩ := h
  unfold maxLen at hm
  have HL := Lib.hid hl
  have HO := Lib.hid hoct
  have HB := Lib.hid hb
  clear hl hw hoct hb
  go_enter Tryd.func10, Tryd.ntmps10
  go_wp2
  go_loop [0, 9] (fun v i => ∃ k R : Nat, k ≤ n ∧ i = .int .i64 k ∧ v = .int .u16 R ∧ R < 65536 ∧ R = Crc.ext r (toN (l.take k))) (fun _ i => n - (intOf i).toNat)
  case atStart => exact ⟨0, r, Nat.zero_le _, rfl, rfl, hr, rfl⟩
  case round =>
    obtain ⟨k, R, hk, rfl, rfl, hR, hRe⟩ := hrel
    have HR := Lib.hid hRe
    clear hRe
    by_cases hlt : k < n
    · rcases hc with h0 | ⟨b, o, rfl, hc⟩
      · omega
      have g := hc k hlt
      obtain ⟨x, hx⟩ : ∃ x, x = l.getD k 0 := ⟨_, rfl⟩
      rw [← hx] at g
      have hx255 := getD_oct HO.out k
      rw [← hx] at hx255
      obtain ⟨hx0, hx1⟩ := hx255
      obtain ⟨X, rfl⟩ := Int.eq_ofNat_of_zero_le hx0
      obtain ⟨Y, hY⟩ : ∃ Y, Y = R ^^^ X := ⟨_, rfl⟩
      have hY2 : Y < 65536 := by rw [hY]; exact Crc.xor_lt hR (by omega)
      have hxor : bits BinOp.xor IntKind.u16 (R : Int) (X : Int) = (Y : Int) := by rw [u16_xor_nat _ _ hR (by omega), hY]
      have HX := Lib.hid hx
      have HY := Lib.hid hY
      have hn1 : Crc.nib Y < 65536 := by rw [Crc.nib_eq]; exact Crc.shn_lt hY2
      have hn2 : Crc.nib (Crc.nib Y) < 65536 := by rw [Crc.nib_eq]; exact Crc.shn_lt hn1
      clear hx hY hc
      go_wp2_with fail
      refine (skipped_any Y _ hY2 HB.out).mono ?_
      rintro e w' ⟨rfl, rfl⟩
      go_wp2_with fail
      refine (skipped_any _ _ hn1 HB.out).mono ?_
      rintro e w' ⟨rfl, rfl⟩
      go_wp2
      go_round
      case rel =>
        refine ⟨k + 1, Crc.nib (Crc.nib Y), by omega, by go_num, rfl, hn2, ?_⟩
        rw [take_succ' (by rw [HL.out]; omega), toN_append, Crc.ext_append, ← HR.out, ← HX.out]
        show _ = Crc.oct R X
        rw [Crc.oct_nib, HY.out]
      case measure => simp [intOf]; omega
    · go_wp2
      go_ret
      obtain rfl : k = n := by omega
      exact ⟨ret_int (by rw [HR.out, List.take_of_length_le (by rw [HL.out]; exact Nat.le_refl _)]), rfl⟩
theorem ext_oct_lt {r : Nat} {l : List Int} (hr : r < 65536) (h : ∀ x ∈ l, 0 ≤ x ∧ x ≤ 255) : Crc.ext r (toN l) < 65536 := Crc.ext_lt hr (toN_lt h)
theorem crc_oct_lt {l : List Int} (h : ∀ x ∈ l, 0 ≤ x ∧ x ≤ 255) : Crc.crc (toN l) < 65536 := Crc.crc_lt (toN_lt h)
theorem start_any (w : World) : Calls Tryd.prog 13 #[] w fun e w' => e = .returned (.int .u16 65535) ∧ w = w' := by
  go_enter Tryd.func13, Tryd.ntmps13
  go_wp2
  go_ret
  exact ⟨rfl, rfl⟩
set_option maxHeartbeats 400000 in
theorem sum_any (a : Option Addr) (n c : Nat) (l : List Int) (w : World) (hb : BehindOk w) (h : Row .u8 w a n c l) :
    Calls Tryd.prog 12 #[.slice a n c] w fun e w' => e = .returned (.int .u16 ((Crc.crc (toN l) : Nat) : Int)) ∧ w = w' := by
  obtain ⟨R, hR⟩ : ∃ R, R = Crc.ext 65535 (toN l) := ⟨_, rfl⟩
  have hlt : R < 65536 := by rw [hR]; exact ext_oct_lt (by decide) h.octs
  have hx : bits BinOp.xor IntKind.u16 (65535 : Int) (R : Int) = ((Crc.crc (toN l) : Nat) : Int) := by
    have := u16_xor_nat 65535 R (by decide) hlt
    rw [show ((65535 : Nat) : Int) = 65535 from rfl] at this
    rw [this, Crc.crc, ← hR, Nat.xor_comm]
  have hE := extend_any 65535 a n c l w (by decide) hb h
  rw [← hR] at hE
  have HE := Lib.hid hE
  have HX := Lib.hid hx
  clear hx hE hR h hb
  go_enter Tryd.func12, Tryd.ntmps12
  go_wp2_with fail
  refine (HE.out).mono ?_
  rintro e w' ⟨rfl, rfl⟩
  go_wp2
  go_ret
  exact ⟨ret_int HX.out, rfl⟩
end Go.Proofs.YtkalpjccfknopaaDoor
