/- Contracts: RefValue. -/
import Derived.Test.YtkalpjccfknopaaDoorBase
namespace Go.Proofs.YtkalpjccfknopaaDoor
open Go.RowKit

set_option maxHeartbeats 400000 in
theorem value_any (a : Option Addr) (n c : Nat) (l : List Int) (w : World) (h : Row .u8 w a n c l) (hbits : isBits l = true) (h64 : n ≤ 64) :
    Calls Tryd.prog 25 #[.slice a n c] w fun e w' => e = .returned (.int .u64 (val l)) ∧ w = w' := by
  obtain ⟨hl, hle, hm, hw, hc, _⟩ := h
  unfold maxLen at hm
  have h01 : ∀ x ∈ l, 0 ≤ x ∧ x ≤ 1 := fun x hx => ⟨(wf_u8.1 (hw x hx)).1, (isBits_iff l).1 hbits x hx⟩
  have HL := Lib.hid hl
  have HW := Lib.hid h01
  clear hl hw h01 hbits
  go_enter Tryd.func25, Tryd.ntmps25
  go_wp2
  go_loop [3, 4] (fun v i => ∃ m : Nat, ∃ y : Int, m ≤ n ∧ i = .int .i64 ((m : Int) - 1) ∧ v = .int .u64 y ∧ y = val (l.drop m)) (fun _ i => (intOf i + 1).toNat)
  case atStart => exact ⟨n, 0, Nat.le_refl _, rfl, rfl, by rw [List.drop_of_length_le (by rw [HL.out]; omega)]; rfl⟩
  case round =>
    obtain ⟨m, y, hmn, rfl, rfl, hy⟩ := hrel
    have HY := Lib.hid hy
    clear hy
    by_cases hlt : 0 < m
    · rcases hc with h0 | ⟨b, o, rfl, hc⟩
      · omega
      obtain ⟨k, hk⟩ : ∃ k, m = k + 1 := ⟨m - 1, by omega⟩
      subst hk
      have g := hc k (by omega)
      obtain ⟨x, hx⟩ : ∃ x, x = l.getD k 0 := ⟨_, rfl⟩
      rw [← hx] at g
      have HX := Lib.hid hx
      have hd : l.drop k = x :: l.drop (k + 1) := by rw [hx]; exact drop_pred (by rw [HL.out]; omega)
      have hb1 := val_64 (l.drop (k + 1)) (fun z hz => HW.out z (List.mem_of_mem_drop hz)) (by rw [List.length_drop, HL.out]; omega)
      have hb2 := val_64 (l.drop k) (fun z hz => HW.out z (List.mem_of_mem_drop hz)) (by rw [List.length_drop, HL.out]; omega)
      rw [hd, val_cons, ← HY.out] at hb2
      rw [← HY.out] at hb1
      have hx01 := HW.out x (by rw [hx]; rw [List.getD_eq_getElem?_getD, List.getElem?_eq_getElem (by rw [HL.out]; omega), Option.getD_some]; exact List.getElem_mem _)
      have HD := Lib.hid hd
      obtain ⟨hb10, hb11⟩ := hb1
      obtain ⟨hb20, hb21⟩ := hb2
      obtain ⟨hx0, hx1⟩ := hx01
      clear hx hd hc
      go_wp2
      go_round
      case rel => 
        refine ⟨k, _, by omega, ?_, rfl, ?_⟩
        · first | rfl | go_num
        · rw [HD.out, val_cons, ← HY.out]; exact Int.add_comm _ _
      case measure => simp [intOf]
    · go_wp2
      go_ret
      obtain rfl : m = 0 := by omega
      exact ⟨ret_int (by rw [HY.out]; rfl), rfl⟩
end Go.Proofs.YtkalpjccfknopaaDoor
