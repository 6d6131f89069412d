/- Contracts: RefSame. -/
import Derived.Test.YtnecdmihnndebaaDoorBase
namespace Go.Proofs.YtnecdmihnndebaaDoor
open Go.RowKit

set_option maxHeartbeats 400000 in
theorem same_any (a1 a2 : Option Addr) (n1 c1 n2 c2 : Nat) (l1 l2 : List Int) (w : World) (h1 : Row .u8 w a1 n1 c1 l1) (h2 : Row .u8 w a2 n2 c2 l2) :
    Calls Tryd.prog 10 #[.slice a1 n1 c1, .slice a2 n2 c2] w fun e w' => e = .returned (.bool (decide (l1 = l2))) ∧ ∃ n, w' = w.drewN n := by
  obtain ⟨hl1, hle1, hm1, hw1, hc1, _⟩ := h1
  obtain ⟨hl2, hle2, hm2, hw2, hc2, _⟩ := h2
  unfold maxLen at hm1 hm2
  by_cases hn : n1 = n2
  · subst hn
    have hne : ((n1 : Int) != (n1 : Int)) = false := by simp
    go_enter Tryd.func10, Tryd.ntmps10
    go_wp2
    go_loopw [5] (fun i wr => ∃ k q : Nat, k ≤ n1 ∧ i = .int .i64 k ∧ wr = w.drewN q ∧ ∀ j, j < k → l1.getD j 0 = l2.getD j 0) (fun i _ => n1 - (intOf i).toNat)
    case atStart => exact ⟨0, 0, Nat.zero_le _, rfl, rfl, by intro j hj; omega⟩
    case round =>
      obtain ⟨k, q, hk, rfl, rfl, heq⟩ := hrel
      by_cases hlt : k < n1
      · rcases hc1 with h0 | ⟨b1, o1, rfl, hc1⟩
        · omega
        rcases hc2 with h0 | ⟨b2, o2, rfl, hc2⟩
        · omega
        have g1 := hc1 k hlt
        have g2 := hc2 k hlt
        obtain ⟨x, hx⟩ : ∃ x, x = l1.getD k 0 := ⟨_, rfl⟩
        obtain ⟨y, hy⟩ : ∃ y, y = l2.getD k 0 := ⟨_, rfl⟩
        rw [← hx] at g1
        rw [← hy] at g2
        have HX := Lib.hid hx
        have HY := Lib.hid hy
        have HQ := Lib.hid heq
        have HL1 := Lib.hid hl1
        have HL2 := Lib.hid hl2
        clear hx hy heq hl1 hl2 hc1 hc2 hw1 hw2
        by_cases hxy : x = y
        · have hb : (x != y) = false := by simp [hxy]
          have HXY := Lib.hid hxy
          clear hxy
          go_wp2
          go_quiet (fail)
          go_wp2
          go_roundw
          case rel => 
            refine ⟨k + 1, q + nq, by omega, by go_num, ?_, ?_⟩
            · simp [World.drewN]
            · intro j hj
              by_cases hjk : j < k
              · exact HQ.out j hjk
              · have : j = k := by omega
                subst this
                rw [← HX.out, ← HY.out]; exact HXY.out
          case measure => simp [intOf]; omega
        · have hb : (x != y) = true := by simp [hxy]
          have HXY := Lib.hid hxy
          clear hxy
          go_wp2
          go_quiet (fail)
          go_wp2
          go_ret
          exact ⟨ret_bool (by rw [eq_comm, decide_eq_false_iff_not]; intro h; apply HXY.out; rw [HX.out, HY.out, h]), q + nq, by simp [World.drewN, Nat.add_assoc]⟩
      · go_wp2
        go_ret
        refine ⟨?_, q, rfl⟩
        have : l1 = l2 := list_eq_of_getD (by omega) (fun i hi => heq i (by omega))
        simp [this]
  · have hne : ((n1 : Int) != (n2 : Int)) = true := by simp; omega
    have hnl : l1 ≠ l2 := by intro h; apply hn; rw [← hl1, ← hl2, h]
    have HN := Lib.hid hnl
    clear hnl
    go_enter Tryd.func10, Tryd.ntmps10
    go_wp2
    go_ret
    exact ⟨by simp [HN.out], 0, rfl⟩
/-- Same of two lists that are equal. -/
theorem same_yes (a1 a2 : Option Addr) (n1 c1 n2 c2 : Nat) (l : List Int) (w : World) (h1 : Row .u8 w a1 n1 c1 l) (h2 : Row .u8 w a2 n2 c2 l) :
    Calls Tryd.prog 10 #[.slice a1 n1 c1, .slice a2 n2 c2] w fun e w' => e = .returned (.bool true) ∧ ∃ n, w' = w.drewN n := by
  have := same_any a1 a2 n1 c1 n2 c2 l l w h1 h2
  simpa only [decide_true] using this
end Go.Proofs.YtnecdmihnndebaaDoor
