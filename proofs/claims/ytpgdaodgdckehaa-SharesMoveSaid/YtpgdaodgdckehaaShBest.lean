/- The code's best: the best status and the smallest rank of those that have it. -/
import Derived.Test.YtpgdaodgdckehaaShRow
namespace Go.Proofs.Ytpgdaodgdckehaa
open Go.RowKit

theorem ret_two {k1 k2 : IntKind} {a b c d : Int} (h : a = c) (h2 : b = d) : Ending.returned (.tuple #[.int k1 a, .int k2 b]) = Ending.returned (.tuple #[.int k1 c, .int k2 d]) := by rw [h, h2]
set_option maxHeartbeats 1000000 in
theorem best_any (a : Option Addr) (n c : Nat) (R : List (Int × Int)) (a' : Option Addr) (n' c' : Nat) (S : List Int) (w : World) (hR : CRow w a n c R) (hS : Row .u8 w a' n' c' S) :
    Calls Try.prog 16 #[.slice a n c, .slice a' n' c'] w fun e w' => e = .returned (.tuple #[.int .u8 (bst (rks R) S n).1, .int .i64 (bst (rks R) S n).2]) ∧ Below w.heap.size w w' := by
  have HR := Lib.hid hR
  have HS := Lib.hid hS
  have hmx := hR.max
  have hle := hR.le
  unfold maxLen at hmx
  clear hR hS
  go_enter Try.func16, Try.ntmps16
  go_wp2_with fail
  go_loopw [6, 7, 13] (fun s r i wr => ∃ k : Nat, k ≤ n ∧ s = .int .u8 (bst (rks R) S k).1 ∧ r = .int .i64 (bst (rks R) S k).2 ∧ i = .int .i64 k ∧ Below w.heap.size w wr) (fun _ _ i _ => n - (intOf i).toNat)
  case atStart => exact ⟨0, Nat.zero_le _, rfl, rfl, rfl, Below.refl _ _⟩
  case round =>
    obtain ⟨k, hk, rfl, rfl, rfl, hb⟩ := hrel
    by_cases hkn : k < n
    · obtain ⟨b, off, rfl, hc⟩ := (HR.out.later hb).cells.resolve_left (by omega)
      obtain ⟨c0, c1⟩ := hc k hkn
      obtain ⟨x, hx⟩ : ∃ x, x = (R.getD k (0, 0)).1 := ⟨_, rfl⟩
      obtain ⟨y, hy⟩ : ∃ y, y = (R.getD k (0, 0)).2 := ⟨_, rfl⟩
      rw [← hx] at c0
      rw [← hy] at c1
      have hcon : ∀ W, Below w.heap.size w W → Calls Try.prog 20 #[.slice a' n' c', .int .i64 (k : Int)] W fun e w' => e = .returned (.int .u8 (stM S k)) ∧ W = w' := fun W h => statusAt_any a' n' c' S k W (HS.out.later h)
      have hstep : bst (rks R) S (k + 1) = if stM S k < (bst (rks R) S k).1 ∨ (stM S k = (bst (rks R) S k).1 ∧ y < (bst (rks R) S k).2) then (stM S k, y) else bst (rks R) S k := by
        show (if _ ∨ (_ ∧ (rks R).getD k 0 < _) then (_, (rks R).getD k 0) else _) = _
        rw [rks_getD, ← hy]
      generalize bst (rks R) S k = P at *
      obtain ⟨st, rk⟩ := P
      simp only at hstep
      generalize stM S k = s at *
      have HB := Lib.hid hb
      have HC := Lib.hid hcon
      have HS2 := Lib.hid hstep
      have hb2 : Below w.heap.size w (wr.alloc (.cells #[.int .u16 x, .int .i64 y] 48)) := hb.trans ((below_alloc wr _).mono hb.size)
      have HB2 := Lib.hid hb2
      clear hc hx hy hcon hstep hb hb2
      by_cases h1 : s < st
      · have HP : Hid (s < st ∨ (s = st ∧ y < rk)) := Lib.hid (.inl h1)
        go_wp2_with fail
        with_reducible refine (HC.out _ HB2.out).mono ?_
        rintro e w' ⟨rfl, rfl⟩
        go_wp2
        go_quiet (fail)
        go_wp2
        refine ⟨⟨k + 1, by omega, ?_, ?_, by go_num, HB2.out.trans ((below_draw _ _).mono HB2.out.size)⟩, by simp [intOf]; omega⟩
        · rw [HS2.out, if_pos HP.out]
        · rw [HS2.out, if_pos HP.out]
      · by_cases h2 : s = st
        · by_cases h3 : y < rk
          · have HP : Hid (s < st ∨ (s = st ∧ y < rk)) := Lib.hid (.inr ⟨h2, h3⟩)
            subst h2
            go_wp2_with fail
            with_reducible refine (HC.out _ HB2.out).mono ?_
            rintro e w' ⟨rfl, rfl⟩
            go_wp2
            go_quiet (fail)
            go_wp2
            refine ⟨⟨k + 1, by omega, ?_, ?_, by go_num, HB2.out.trans ((below_draw _ _).mono HB2.out.size)⟩, by simp [intOf]; omega⟩
            · rw [HS2.out, if_pos HP.out]
            · rw [HS2.out, if_pos HP.out]
          · have HN : Hid (¬ (s < st ∨ (s = st ∧ y < rk))) := Lib.hid (fun h => h.elim h1 (fun h => h3 h.2))
            subst h2
            go_wp2_with fail
            with_reducible refine (HC.out _ HB2.out).mono ?_
            rintro e w' ⟨rfl, rfl⟩
            go_wp2
            refine ⟨⟨k + 1, by omega, ?_, ?_, by go_num, HB2.out⟩, by simp [intOf]; omega⟩
            · rw [HS2.out, if_neg HN.out]
            · rw [HS2.out, if_neg HN.out]
        · have HN : Hid (¬ (s < st ∨ (s = st ∧ y < rk))) := Lib.hid (fun h => h.elim h1 (fun h => h2 h.1))
          have h4 : (s == st) = false := by simpa using h2
          clear h2
          go_wp2_with fail
          with_reducible refine (HC.out _ HB2.out).mono ?_
          rintro e w' ⟨rfl, rfl⟩
          go_wp2
          refine ⟨⟨k + 1, by omega, ?_, ?_, by go_num, HB2.out⟩, by simp [intOf]; omega⟩
          · rw [HS2.out, if_neg HN.out]
          · rw [HS2.out, if_neg HN.out]
    · obtain rfl : k = n := by omega
      go_wp2
      go_ret2
      exact ⟨rfl, hb⟩
end Go.Proofs.Ytpgdaodgdckehaa
