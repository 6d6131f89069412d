/- Contracts: Octets. -/
import Derived.Test.YtnecdmihnndebaaDoorCheck
import Derived.Test.YtnecdmihnndebaaDoorRead
namespace Go.Proofs.YtnecdmihnndebaaDoor
open Go.RowKit

set_option maxHeartbeats 400000 in
theorem octets_err (a : Option Addr) (n c : Nat) (l : List Int) (w : World) (h : Row .u8 w a n c l) (he : errOf l ≠ 0) :
    Calls Tryd.prog 47 #[.slice a n c] w fun e w' => e = .returned (.tuple #[.slice none 0 0, .int .i64 (errOf l)]) ∧ w = w' := by
  have hcon := check_any a n c l w h
  obtain ⟨x, hx⟩ : ∃ x, x = errOf l := ⟨_, rfl⟩
  rw [← hx] at hcon he ⊢
  have hne : (x == 0) = false := by simpa using he
  have hne' : (x != 0) = true := by simpa using he
  have HC := Lib.hid hcon
  clear hcon hx h
  go_enter Tryd.func47, Tryd.ntmps47
  go_wp2_with fail
  refine HC.out.mono ?_
  rintro e w' ⟨rfl, rfl⟩
  go_wp2
  go_ret2
  exact ⟨rfl, rfl⟩
set_option maxHeartbeats 400000 in
theorem octets_width (a : Option Addr) (n c : Nat) (l : List Int) (w : World) (h : Row .u8 w a n c l) (he : errOf l = 0) (h8 : n % 8 ≠ 0) :
    Calls Tryd.prog 47 #[.slice a n c] w fun e w' => e = .returned (.tuple #[.slice none 0 0, .int .i64 5]) ∧ w = w' := by
  have hcon := check_any a n c l w h
  rw [he] at hcon
  have hn := (errOf_zero he).1
  rw [h.len] at hn
  have h8' : ¬ (n : Int) % 8 = 0 := by omega
  have hb : (((n : Int) % 8) != 0) = true := by simpa using h8'
  have HC := Lib.hid hcon
  clear hcon he h h8
  go_enter Tryd.func47, Tryd.ntmps47
  go_wp2_with fail
  refine HC.out.mono ?_
  rintro e w' ⟨rfl, rfl⟩
  go_wp2
  go_ret2
  exact ⟨rfl, rfl⟩
set_option maxHeartbeats 400000 in
theorem octets_ok (a : Option Addr) (n c : Nat) (l : List Int) (w : World) (h : Row .u8 w a n c l) (he : errOf l = 0) (h8 : n % 8 = 0) :
    Calls Tryd.prog 47 #[.slice a n c] w fun e w' => e = .returned (.tuple #[.slice (some ⟨w.heap.size, 0, none⟩) (n / 8) (n / 8), .int .i64 0]) ∧ Below w.heap.size w w' ∧
      Own w' w.heap.size 5 (nums .u8 (octs l)) := by
  have hcon := check_any a n c l w h
  rw [he] at hcon
  obtain ⟨hn, hbits⟩ := errOf_zero he
  rw [h.len] at hn
  obtain ⟨m, hm⟩ : ∃ m, n = 8 * m := ⟨n / 8, by omega⟩
  subst hm
  rw [show 8 * m / 8 = m by omega]
  have hb : ((8 * (m : Int)) % 8 != 0) = false := by simp
  have hd : (8 * (m : Int)) / 8 = (m : Int) := by omega
  have h01 := h.bits hbits
  have hmk := make8 m (by omega)
  have HC := Lib.hid hcon
  have HR := Lib.hid h
  have HB := Lib.hid hbits
  have HE := Lib.hid he
  have H01 := Lib.hid h01
  have hle := h.le
  have hmx := h.max
  unfold maxLen at hmx
  clear hcon he h h8 hbits h01
  go_enter Tryd.func47, Tryd.ntmps47
  go_wp2_with fail
  refine HC.out.mono ?_
  rintro e w' ⟨rfl, rfl⟩
  go_wp2
  clear hmk
  go_loopw [6, 22] (fun _ i wr => ∃ k : Nat, k ≤ m ∧ i = .int .i64 k ∧ Below w.heap.size w wr ∧
      Own wr w.heap.size 5 (nums .u8 ((List.range k).map (fun i => val ((l.drop (8 * i)).take 8)) ++ List.replicate (m - k) 0))) (fun _ i _ => m - (intOf i).toNat)
  case atStart => exact ⟨0, Nat.zero_le _, rfl, below_alloc _ _, by simpa using own_made .u8 m 5 w⟩
  case round =>
    obtain ⟨k, hk, rfl, hbel, hown⟩ := hrel
    by_cases hlt : k < m
    · obtain ⟨b, o, rfl⟩ : ∃ b o, a = some ⟨b, o, none⟩ := by
        rcases HR.out.cells with h0 | ⟨b, o, ha, _⟩
        · omega
        · exact ⟨b, o, ha⟩
      have hrow := (HR.out.later hbel).tail (8 * k) (by omega)
      have hv := val_oct H01.out (8 * k)
      have hread := read_any _ _ _ 8 _ wr hrow (isBits_drop HB.out (8 * k)) (by omega) (by omega)
      obtain ⟨x, hx⟩ : ∃ x, x = val ((l.drop (8 * k)).take 8) := ⟨_, rfl⟩
      rw [← hx] at hv hread
      obtain ⟨hv0, hv1⟩ := hv
      have hA : ((List.range k).map (fun i => val ((l.drop (8 * i)).take 8))).length = k := by simp
      have hcell := hown.cell k (by rw [nums_length, List.length_append, hA, List.length_replicate]; omega)
      have hfr := hown.frozen k
      have HX := Lib.hid hx
      have HD := Lib.hid hread
      have HO := Lib.hid hown
      have HBel := Lib.hid hbel
      have HA := Lib.hid hA
      clear hx hread hown hbel hA hrow
      go_wp2_with fail
      refine HD.out.mono ?_
      rintro e w' ⟨rfl, rfl⟩
      go_wp2
      refine ⟨⟨k + 1, by omega, by go_num, HBel.out.setCell (Nat.le_refl _) _, ?_⟩, by simp [intOf]; omega⟩
      have := HO.out.set k (.int .u8 x)
      rw [nums_set, set_at _ HA.out hlt] at this
      rw [List.range_succ, List.map_append, List.map_singleton, ← HX.out]
      exact this
    · go_wp2
      go_ret2
      obtain rfl : k = m := by omega
      refine ⟨rfl, hbel, ?_⟩
      rw [Nat.sub_self, List.replicate_zero, List.append_nil] at hown
      have : octs l = (List.range k).map (fun i => val ((l.drop (8 * i)).take 8)) := by
        unfold octs
        rw [HR.out.len, show 8 * k / 8 = k by omega]
      rw [this]
      exact hown
theorem octets_n (a : Option Addr) (n c m : Nat) (l l' : List Int) (w : World) (h : Row .u8 w a n c l) (he : errOf l = 0) (h8 : n % 8 = 0) (hm : n / 8 = m) (hl : octs l = l') :
    Calls Tryd.prog 47 #[.slice a n c] w fun e w' => IsN2 m l' w.heap.size e w' ∧ Below w.heap.size w w' := by
  subst hm hl
  refine (octets_ok a n c l w h he h8).mono ?_
  rintro e w' ⟨rfl, hb, ho⟩
  have hn := (errOf_zero he).1
  rw [h.len] at hn
  refine ⟨⟨_, rfl, ho.row0 _ _ (by simp [octs, h.len]) (Nat.le_refl _) (by unfold maxLen; omega) ?_, Nat.le_refl _⟩, hb⟩
  intro x hx
  unfold octs at hx
  obtain ⟨i, _, rfl⟩ := List.mem_map.1 hx
  exact wf_u8.2 (val_oct (h.bits (errOf_zero he).2) _)
theorem octets_e (a : Option Addr) (n c : Nat) (l : List Int) (x : Int) (w : World) (h : Row .u8 w a n c l) (he : errOf l = x) (hx : x ≠ 0) :
    Calls Tryd.prog 47 #[.slice a n c] w fun e w' => e = .returned (.tuple #[.slice none 0 0, .int .i64 x]) ∧ w = w' := by
  subst he; exact octets_err a n c l w h hx
end Go.Proofs.YtnecdmihnndebaaDoor
