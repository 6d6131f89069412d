/- Contracts: what writes and reads the bits of an integer. -/
import Derived.Test.YtjadmhmfjjjcfaaBase
import Derived.Deep.QuietTactic
import Derived.BigQuiet
namespace Go.Proofs.Ytjadmhmfjjjcfaa
open Go.RowKit

set_option maxHeartbeats 400000 in
theorem read_any (a : Option Addr) (n c m : Nat) (l : List Int) (w : World) (h : Row .u8 w a n c l) (hbits : isBits l = true) (hmn : m ≤ n) (h64 : m ≤ 64) :
    Calls Try.prog 30 #[.slice a n c, .int .i64 m] w fun e w' => e = .returned (.int .u64 (val (l.take m))) ∧ w = w' := by
  obtain ⟨hl, hle, hm, hw, hc, _⟩ := h
  unfold maxLen at hm
  have h01 : ∀ x ∈ l, 0 ≤ x ∧ x ≤ 1 := fun x hx => ⟨(wf_u8.1 (hw x hx)).1, (isBits_iff l).1 hbits x hx⟩
  have HL := Lib.hid hl
  have HW := Lib.hid h01
  clear hl hw h01 hbits
  go_enter Try.func30, Try.ntmps30
  go_wp2
  go_loop [5, 6, 8] (fun v _ i => ∃ k : Nat, ∃ y : Int, k ≤ m ∧ i = .int .i64 k ∧ v = .int .u64 y ∧ y = val (l.take k)) (fun _ _ i => m - (intOf i).toNat)
  case atStart => exact ⟨0, 0, Nat.zero_le _, rfl, rfl, rfl⟩
  case round =>
    obtain ⟨k, y, hkm, rfl, rfl, hy⟩ := hrel
    have HY := Lib.hid hy
    clear hy
    by_cases hlt : k < m
    · rcases hc with h0 | ⟨b, o, rfl, hc⟩
      · omega
      have g := hc k (by omega)
      obtain ⟨x, hx⟩ : ∃ x, x = l.getD k 0 := ⟨_, rfl⟩
      rw [← hx] at g
      have HX := Lib.hid hx
      have hx01 := HW.out x (by rw [hx]; rw [List.getD_eq_getElem?_getD, List.getElem?_eq_getElem (by rw [HL.out]; omega), Option.getD_some]; exact List.getElem_mem _)
      obtain ⟨hx0, hx1⟩ := hx01
      clear hx hc
      go_wp2
      go_round
      case rel =>
        refine ⟨k + 1, _, by omega, by go_num, rfl, ?_⟩
        have ht : l.take (k + 1) = l.take k ++ [x] := by rw [HX.out]; exact take_succ' (by rw [HL.out]; omega)
        have hlen : (l.take k).length = k := by rw [List.length_take, HL.out]; omega
        have hb := val_bound (l.take k) (fun z hz => HW.out z (List.mem_of_mem_take hz))
        rw [hlen, ← HY.out] at hb
        rw [ht, val_append, hlen, ← HY.out, or_shl hb.1 hb.2 hx0 hx1 (by omega)]
        simp [val]
      case measure => simp [intOf]; omega
    · go_wp2
      go_ret
      obtain rfl : k = m := by omega
      exact ⟨ret_int (by rw [HY.out]), rfl⟩

set_option maxHeartbeats 400000 in
theorem write_any (b off n c m : Nat) (v : Int) (l : List Int) (w : World) (h : Own w b 5 (nums .u8 l)) (hn : off + n ≤ l.length) (hm : m ≤ n) (h64 : m ≤ 64)
    (hv0 : 0 ≤ v) (hv : v ≤ 18446744073709551615) :
    Calls Try.prog 29 #[.slice (some ⟨b, off, none⟩) n c, .int .u64 v, .int .i64 m] w fun e w' =>
      e = .returned (.tuple #[]) ∧ Only b w w' ∧ Own w' b 5 (nums .u8 (l.take off ++ bitsOf v m ++ l.drop (off + m))) := by
  go_enter Try.func29, Try.ntmps29
  go_wp2
  go_loopw [6, 8] (fun _ i wr => ∃ k : Nat, k ≤ m ∧ i = .int .i64 k ∧ Only b w wr ∧ Own wr b 5 (nums .u8 (l.take off ++ bitsOf v k ++ l.drop (off + k)))) (fun _ i _ => m - (intOf i).toNat)
  case atStart => exact ⟨0, Nat.zero_le _, rfl, Only.refl _ _, by simpa [bitsOf] using h⟩
  case round =>
    obtain ⟨k, hkm, rfl, hon, hown⟩ := hrel
    by_cases hlt : k < m
    · have hlen : (l.take off ++ bitsOf v k ++ l.drop (off + k)).length = l.length := by simp [bitsOf_length]; omega
      have hcell := hown.cell (off + k) (by rw [nums_length]; omega)
      have hfr := hown.frozen (off + k)
      have HO := Lib.hid hown
      have HN := Lib.hid hon
      have HLL := Lib.hid hlen
      clear hown hon hlen h
      go_wp2
      have hbit : bits BinOp.and IntKind.u64 (v / 2 ^ k) 1 % 256 = bitOf v k := by
        rw [and_one_u64 _ (Int.ediv_nonneg hv0 (Int.pow_nonneg (by decide))) (Int.le_trans (Int.ediv_le_self _ hv0) hv)]
        unfold bitOf; omega
      rw [hbit]
      refine ⟨⟨k + 1, by omega, by go_num, HN.out.setCell _ _, ?_⟩, by simp [intOf]; omega⟩
      have := HO.out.set (off + k) (.int .u8 (bitOf v k))
      rw [nums_set, set_bits v (by omega)] at this
      exact this
    · go_wp2
      obtain rfl : k = m := by omega
      go_end0
      exact ⟨rfl, hon, hown⟩
end Go.Proofs.Ytjadmhmfjjjcfaa
