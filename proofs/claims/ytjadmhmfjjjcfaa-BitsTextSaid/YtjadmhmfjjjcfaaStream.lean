/- Contracts: Stream of the statements, isWidth and extended of the program. -/
import Derived.Test.YtjadmhmfjjjcfaaBase
import Derived.Deep.QuietTactic
import Derived.BigQuiet
namespace Go.Proofs.Ytjadmhmfjjjcfaa
open Go.RowKit

theorem isWidth_any (m : Int) (w : World) :
    Calls Try.prog 33 #[.int .i64 m] w fun e w' => e = .returned (.bool (decide (0 ≤ m ∧ m ≤ 64))) ∧ w = w' := by
  by_cases h0 : 0 ≤ m
  · by_cases h1 : m ≤ 64
    · go_enter Try.func33, Try.ntmps33
      go_wp2
      go_ret
      exact ⟨ret_bool (by simp [h0, h1]), rfl⟩
    · go_enter Try.func33, Try.ntmps33
      go_wp2
      go_ret
      exact ⟨ret_bool (by simp [h1]), rfl⟩
  · go_enter Try.func33, Try.ntmps33
    go_wp2
    go_ret
    exact ⟨ret_bool (by simp; omega), rfl⟩

set_option maxHeartbeats 400000 in
theorem stream_any (s : ByteArray) (w : World) (hs : s.size ≤ 2097152) :
    Calls Try.prog 28 #[.string s] w fun e w' => e = .returned (.slice (some ⟨w.heap.size, 0, none⟩) s.size s.size) ∧ Below w.heap.size w w' ∧
      Own w' w.heap.size 5 (nums .u8 (s.data.toList.map fun c => (c.toNat : Int) % 2)) := by
  have hmk := make8 s.size (by omega)
  go_enter Try.func28, Try.ntmps28
  go_wp2
  clear hmk
  go_loopw [4] (fun i wr => ∃ k : Nat, k ≤ s.size ∧ i = .int .i64 k ∧ Below w.heap.size w wr ∧
      Own wr w.heap.size 5 (nums .u8 ((s.data.toList.take k).map (fun c => (c.toNat : Int) % 2) ++ List.replicate (s.size - k) 0))) (fun i _ => s.size - (intOf i).toNat)
  case atStart => exact ⟨0, Nat.zero_le _, rfl, below_alloc _ _, by simpa using own_made .u8 s.size 5 w⟩
  case round =>
    obtain ⟨k, hk, rfl, hbel, hown⟩ := hrel
    by_cases hlt : k < s.size
    · have hA : ((s.data.toList.take k).map (fun c => (c.toNat : Int) % 2)).length = k := by simp; omega
      have hcell := hown.cell k (by rw [nums_length, List.length_append, hA, List.length_replicate]; omega)
      have hfr := hown.frozen k
      have HO := Lib.hid hown
      have HN := Lib.hid hbel
      have HA := Lib.hid hA
      clear hown hbel hA
      go_wp2
      have hr := u8_range s[k]
      rw [and_one_u8 _ hr.1 hr.2]
      refine ⟨⟨k + 1, by omega, by go_num, HN.out.setCell (Nat.le_refl _) _, ?_⟩, by simp [intOf]; omega⟩
      have := HO.out.set k (.int .u8 ((s[k].toNat : Int) % 2))
      rw [nums_set, set_at _ HA.out hlt] at this
      rw [bytes_take_snoc s k hlt, List.map_append]
      exact this
    · go_wp2
      go_ret
      obtain rfl : k = s.size := by omega
      refine ⟨rfl, hbel, ?_⟩
      rw [List.take_of_length_le (by simp), Nat.sub_self, List.replicate_zero, List.append_nil] at hown
      exact hown
end Go.Proofs.Ytjadmhmfjjjcfaa
