/- Contracts: LawStream. -/
import Derived.Test.YtpcjhmddcfiemaaDoorBase
namespace Go.Proofs.YtpcjhmddcfiemaaDoor
open Go.RowKit

set_option maxHeartbeats 400000 in
theorem stream_any (s : ByteArray) (w : World) (hs : s.size ≤ 2097152) :
    Calls Tryd.prog 23 #[.string s] w fun e w' => e = .returned (.slice (some ⟨w.heap.size, 0, none⟩) s.size s.size) ∧ Below w.heap.size w w' ∧
      Own w' w.heap.size 5 (nums .u8 (s.data.toList.map fun c => (c.toNat : Int) % 2)) := by
  have hmk := make8 s.size (by omega)
  go_enter Tryd.func23, Tryd.ntmps23
  go_wp2
  clear hmk
  go_loopw [4] (fun i wr => ∃ k : Nat, k ≤ s.size ∧ i = .int .i64 k ∧ Below w.heap.size w wr ∧
      Own wr w.heap.size 5 (nums .u8 ((s.data.toList.take k).map (fun c => (c.toNat : Int) % 2) ++ List.replicate (s.size - k) 0))) (fun i _ => s.size - (intOf i).toNat)
  case atStart => exact ⟨0, Nat.zero_le _, rfl, below_alloc _ _, by simpa using own_made .u8 s.size 5 w⟩
  case round =>
    obtain ⟨k, hk, rfl, hbel, hown⟩ := hrel
    by_cases hlt : k < s.size
    · have hA : ((s.data.toList.take k).map (fun c => (c.toNat : Int) % 2)).length = k := by simp; omega
      have hcell := hown.cell k (by rw [nums_length, List.length_append, hA, List.length_replicate]; omega)
      have hfr := hown.frozen k
      have HO := Lib.hid hown
      have HN := Lib.hid hbel
      have HA := Lib.hid hA
      clear hown hbel hA
      go_wp2
      have hr := u8_range s[k]
      rw [and_one_u8 _ hr.1 hr.2]
      refine ⟨⟨k + 1, by omega, by go_num, HN.out.setCell (Nat.le_refl _) _, ?_⟩, by simp [intOf]; omega⟩
      have := HO.out.set k (.int .u8 ((s[k].toNat : Int) % 2))
      rw [nums_set, set_at _ HA.out hlt] at this
      rw [bytes_take_snoc s k hlt, List.map_append]
      exact this
    · go_wp2
      go_ret
      obtain rfl : k = s.size := by omega
      refine ⟨rfl, hbel, ?_⟩
      rw [List.take_of_length_le (by simp), Nat.sub_self, List.replicate_zero, List.append_nil] at hown
      exact hown
theorem stream_n (s : ByteArray) (n : Nat) (l : List Int) (w : World) (hn : s.size = n) (h : n ≤ 2097152) (hl : (s.data.toList.map fun c => (c.toNat : Int) % 2) = l) :
    Calls Tryd.prog 23 #[.string s] w fun e w' => IsN n l w.heap.size e w' ∧ Below w.heap.size w w' := by
  subst hl hn
  refine (stream_any s w h).mono ?_
  rintro e w' ⟨rfl, hb, ho⟩
  refine ⟨⟨_, rfl, ho.row0 _ _ (by simp) (Nat.le_refl _) (by unfold maxLen; omega) ?_, Nat.le_refl _⟩, hb⟩
  intro x hx
  obtain ⟨c, _, rfl⟩ := List.mem_map.1 hx
  exact wf_u8.2 (by omega)
end Go.Proofs.YtpcjhmddcfiemaaDoor
