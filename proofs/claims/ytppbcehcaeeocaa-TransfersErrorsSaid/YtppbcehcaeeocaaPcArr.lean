/- The code's arePlaces. -/
import Derived.Test.YtppbcehcaeeocaaPlIdx
import Derived.Test.YtppbcehcaeeocaaPlChkM
import Derived.BigQuiet
import Derived.Deep.LoopGhost
namespace Go.Proofs.Ytppbcehcaeeocaa
open Go.RowKit

theorem all_but {P : List (Int × Bool)} {n : Nat} (hn : P.length = n) : (decide (0 < n) && (List.range n).all (okPl P)) = (decide (0 < P.length) && (List.range P.length).all (okPl P)) := by rw [hn]
def arePl (P : List (Int × Bool)) : Bool := decide (0 < P.length) && (List.range P.length).all (okPl P)
theorem arePl_no {P : List (Int × Bool)} {k : Nat} (hk : k < P.length) (h : okPl P k = false) : arePl P = false := by unfold arePl; rw [all_range_no hk h, Bool.and_false]
theorem arePl_ok {P : List (Int × Bool)} (h : ∀ i, i < P.length → okPl P i = true) : arePl P = decide (0 < P.length) := by unfold arePl; rw [all_range.2 h, Bool.and_true]
set_option maxRecDepth 20000 in
set_option maxHeartbeats 2000000 in
theorem arePlaces_any (P : List (Int × Bool)) (a : Option Addr) (n c : Nat) (w : World) (hP : PRow w a n c P) :
    Calls Try.prog 70 #[.slice a n c] w fun e w' => e = .returned (.bool (arePl P)) ∧ Below w.heap.size w w' := by
  have hmax := hP.max
  have hle := hP.le
  unfold maxLen at hmax
  have HP := Lib.hid hP
  have HL := Lib.hid hP.len
  clear hP
  obtain ⟨B, hB⟩ : ∃ B, B = arePl P := ⟨_, rfl⟩
  rw [← hB]
  have HB := Lib.hid hB
  clear hB
  go_enter Try.func70, Try.ntmps70
  go_wp2_with fail
  go_loopw [7] (fun i wr => ∃ k : Nat, k ≤ n ∧ i = .int .i64 k ∧ (∀ j, j < k → okPl P j = true) ∧ Below w.heap.size w wr) (fun i _ => n - (intOf i).toNat)
  case atStart => exact ⟨0, Nat.zero_le _, rfl, fun j hj => absurd hj (Nat.not_lt_zero _), Below.refl _ _⟩
  case round =>
    obtain ⟨k, hk, rfl, hno, hb⟩ := hrel
    have HN := Lib.hid hno
    have HB2 := Lib.hid hb
    have HP2 := Lib.hid (HP.out.later hb)
    clear hno hb
    by_cases hkn : k < n
    · obtain ⟨b, off, rfl, hc⟩ := HP2.out.cells.resolve_left (by omega)
      obtain ⟨c0, c1⟩ := hc k hkn
      have HC := Lib.hid hc
      clear hc
      have hbl : b < wr.heap.size := World.block_lt_of_cell? _ _ c0
      obtain ⟨x, hx⟩ : ∃ x, x = pc P k := ⟨_, rfl⟩
      obtain ⟨y, hy⟩ : ∃ y, y = pt P k := ⟨_, rfl⟩
      have HX := Lib.hid hx
      rw [← hx] at c0
      rw [← hy] at c1
      clear hx hy
      have hbw := below_alloc wr (.cells #[.int .u16 x, .bool y] 42)
      have HBW := Lib.hid (HB2.out.trans (hbw.mono HB2.out.size))
      clear hbw
      by_cases hbig : 16383 < x
      · have HF := Lib.hid (arePl_no (k := k) (by have := HL.out; omega) (okPl_big HX.out hbig))
        go_wp2_with fail
        go_quiet (fail)
        go_wp2
        go_ret
        exact ⟨ret_bool (by rw [HB.out, HF.out]), HBW.out.trans ((below_draw _ _).mono HBW.out.size)⟩
      · have hbig' : decide (16383 < x) = false := by simpa using hbig
        by_cases h0 : k = 0
        · have HF := Lib.hid (okPl_first HX.out hbig h0)
          have k0 : decide (0 < k) = false := by simp; omega
          have H0 := Lib.hid h0
          clear h0
          go_wp2_with fail
          go_quiet (fail)
          go_wp2
          exact ⟨⟨k + 1, by omega, by go_num, upto_succ HN.out HF.out, HBW.out.trans ((below_draw _ _).mono HBW.out.size)⟩, by simp [intOf]; omega⟩
        · obtain ⟨m, rfl⟩ : ∃ m, k = m + 1 := ⟨k - 1, by omega⟩
          obtain ⟨e0, _⟩ := HC.out m (by omega)
          obtain ⟨z, hz⟩ : ∃ z, z = pc P m := ⟨_, rfl⟩
          have HZ := Lib.hid hz
          rw [← hz] at e0
          clear hz h0
          have k0 : decide (0 < m + 1) = true := by simp
          have k0i : (0 : Int) < (m : Int) + 1 := by omega
          have k0j : decide ((0 : Int) < (m : Int) + 1) = true := decide_eq_true k0i
          have w1 : IntKind.i64.wrap ((m : Int) + 1 - 1) = (m : Int) := by rw [IntWalk.i64_in _ (by omega)]; omega
          by_cases hlt : z < x
          · have HF := Lib.hid (okPl_next (m := m) HX.out hbig (by omega) HZ.out hlt)
            have hge : ¬ x ≤ z := by omega
            have hged : decide (x ≤ z) = false := decide_eq_false hge
            go_wp2_with fail
            go_quiet (fail)
            go_wp2
            exact ⟨⟨m + 1 + 1, by omega, by go_num, upto_succ HN.out HF.out, HBW.out.trans ((below_draw _ _).mono HBW.out.size)⟩, by simp [intOf]; omega⟩
          · have HF := Lib.hid (arePl_no (k := m + 1) (by have := HL.out; omega) (okPl_not (m := m) HX.out (by omega) HZ.out (by omega) hlt))
            have hge : x ≤ z := by omega
            have hged : decide (x ≤ z) = true := decide_eq_true hge
            go_wp2_with fail
            go_quiet (fail)
            go_wp2
            go_ret
            exact ⟨ret_bool (by rw [HB.out, HF.out]), HBW.out.trans ((below_draw _ _).mono HBW.out.size)⟩
    · have hkn' : k = n := by omega
      subst hkn'
      have HF := Lib.hid (arePl_ok (P := P) (by rw [HL.out]; exact HN.out))
      go_wp2
      go_ret
      exact ⟨ret_bool (by rw [HB.out, HF.out, HL.out]), HB2.out⟩
end Go.Proofs.Ytppbcehcaeeocaa
