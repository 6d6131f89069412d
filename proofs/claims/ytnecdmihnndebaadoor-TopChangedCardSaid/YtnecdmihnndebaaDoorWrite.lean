/- Contracts: Write. -/
import Derived.Test.YtnecdmihnndebaaDoorBase
namespace Go.Proofs.YtnecdmihnndebaaDoor
open Go.RowKit

set_option maxHeartbeats 400000 in
theorem write_any (b off n c m : Nat) (v : Int) (l : List Int) (w : World) (h : Own w b 5 (nums .u8 l)) (hn : off + n ≤ l.length) (hm : m ≤ n) (h64 : m ≤ 64)
    (hv0 : 0 ≤ v) (hv : v ≤ 18446744073709551615) :
    Calls Tryd.prog 33 #[.slice (some ⟨b, off, none⟩) n c, .int .u64 v, .int .i64 m] w fun e w' =>
      e = .returned (.tuple #[]) ∧ Only b w w' ∧ Own w' b 5 (nums .u8 (l.take off ++ bitsOf v m ++ l.drop (off + m))) := by
  go_enter Tryd.func33, Tryd.ntmps33
  go_wp2
  go_loopw [6, 8] (fun _ i wr => ∃ k : Nat, k ≤ m ∧ i = .int .i64 k ∧ Only b w wr ∧ Own wr b 5 (nums .u8 (l.take off ++ bitsOf v k ++ l.drop (off + k)))) (fun _ i _ => m - (intOf i).toNat)
  case atStart => exact ⟨0, Nat.zero_le _, rfl, Only.refl _ _, by simpa [bitsOf] using h⟩
  case round =>
    obtain ⟨k, hkm, rfl, hon, hown⟩ := hrel
    by_cases hlt : k < m
    · have hlen : (l.take off ++ bitsOf v k ++ l.drop (off + k)).length = l.length := by simp [bitsOf_length]; omega
      have hcell := hown.cell (off + k) (by rw [nums_length]; omega)
      have hfr := hown.frozen (off + k)
      have HO := Lib.hid hown
      have HN := Lib.hid hon
      have HLL := Lib.hid hlen
      clear hown hon hlen h
      go_wp2
      have hbit : bits BinOp.and IntKind.u64 (v / 2 ^ k) 1 % 256 = bitOf v k := by
        rw [and_one_u64 _ (Int.ediv_nonneg hv0 (Int.pow_nonneg (by decide))) (Int.le_trans (Int.ediv_le_self _ hv0) hv)]
        unfold bitOf; omega
      rw [hbit]
      refine ⟨⟨k + 1, by omega, by go_num, HN.out.setCell _ _, ?_⟩, by simp [intOf]; omega⟩
      have := HO.out.set (off + k) (.int .u8 (bitOf v k))
      rw [nums_set, set_bits v (by omega)] at this
      exact this
    · go_wp2
      obtain rfl : k = m := by omega
      go_end0
      exact ⟨rfl, hon, hown⟩
end Go.Proofs.YtnecdmihnndebaaDoor
