import Derived.Test.YtdjmopipmeonlaaPcSort
import Derived.BigRegion
import Derived.Deep.Cut
import Derived.Deep.CutBlock
import Derived.IntWalk
/- The library's stable sort of many: what its parts leave (the row holds the same number of places). -/
namespace Go.Proofs.Ytdjmopipmeonlaa
set_option linter.unusedVariables false
open Go.RowKit Go.Sort Go.Lib

def Keep {n : Nat} [Inhabited (Fin n)] (w0 : World) (blk : Nat) (m : Nat) (W : World) : Prop := ∃ dk : Array (Fin n), dk.size = m ∧ SW encF w0 blk 0 dk W
theorem at_cell {n : Nat} [Inhabited (Fin n)] {w0 W : World} {blk : Nat} {d0 dk : Array (Fin n)} (R : Row1 (encF (n := n)) w0 blk 0 d0) (S : SW encF w0 blk 0 dk W) (hs : dk.size = d0.size) {i : Nat} (hi : i < dk.size) : W.cell? ⟨blk, i, none⟩ = some (.int .i64 ((dk[i]!).val : Int)) ∧ W.frozen? ⟨blk, i, none⟩ = false := by
  have h1 := S.c1 R hs i hi
  have h2 := S.f1 R hs i hi
  rw [Nat.zero_add] at h1 h2
  exact ⟨h1, h2⟩
set_option maxRecDepth 20000 in
set_option maxHeartbeats 2000000 in
theorem swapRange_any {n : Nat} [Inhabited (Fin n)] (f : Value) (blk cap : Nat) (d0 : Array (Fin n)) (w0 w : World) (R : Row1 (encF (n := n)) w0 blk 0 d0) (S : Keep (n := n) w0 blk d0.size w) (a b k : Nat) (ha : a + k ≤ d0.size) (hb : b + k ≤ d0.size) (hm : d0.size ≤ 64) :
    Calls Try.prog 103 #[.slice (some ⟨blk, 0, none⟩) d0.size cap, .int .i64 a, .int .i64 b, .int .i64 k, f] w fun e w' => e = .returned (.tuple #[]) ∧ Keep (n := n) w0 blk d0.size w' := by
  obtain ⟨m, hmm⟩ : ∃ m, m = d0.size := ⟨_, rfl⟩
  rw [← hmm] at ha hb hm S ⊢
  have HS := Lib.hid S
  have HR := Lib.hid R
  have HM := Lib.hid hmm
  clear S R hmm
  go_enter Try.func103, Try.ntmps103
  go_wp2_with fail
  go_loopw [10] (fun iv wr => ∃ i : Nat, i ≤ k ∧ iv = .int .i64 i ∧ Keep (n := n) w0 blk m wr) (fun iv _ => k - (intOf iv).toNat)
  case atStart => exact ⟨0, Nat.zero_le _, rfl, HS.out⟩
  case round =>
    obtain ⟨i, hi, rfl, hkp⟩ := hrel
    have HKp := Lib.hid hkp
    by_cases hik : i < k
    · obtain ⟨dk, hs, S⟩ := hkp
      have hs0 : dk.size = d0.size := by rw [hs]; exact HM.out
      obtain ⟨c0, f0⟩ := at_cell HR.out S hs0 (i := a + i) (by omega)
      obtain ⟨c1, f1⟩ := at_cell HR.out S hs0 (i := b + i) (by omega)
      obtain ⟨X, hX⟩ : ∃ X, X = (dk[a + i]!).val := ⟨_, rfl⟩
      obtain ⟨Y, hY⟩ : ∃ Y, Y = (dk[b + i]!).val := ⟨_, rfl⟩
      have s1 := S.swapped HR.out (a + i) (b + i) (by omega) (by omega)
      have s2 := S.swapped HR.out (b + i) (a + i) (by omega) (by omega)
      obtain ⟨u1, c2⟩ := S.c2 HR.out hs0 (a + i) (b + i) (by omega) (by omega) (.int .i64 (Y : Int))
      obtain ⟨u2, c3⟩ := S.c2 HR.out hs0 (b + i) (a + i) (by omega) (by omega) (.int .i64 (X : Int))
      rw [Nat.zero_add, Nat.zero_add] at c2 c3 s1 s2
      have HS1 := Lib.hid s1
      have HS2 := Lib.hid s2
      rw [← hX] at c0
      rw [← hY] at c1
      have HX := Lib.hid hX
      have HY := Lib.hid hY
      have HSz := Lib.hid hs
      have i0 : (0 : Int) ≤ (i : Int) := by omega
      have i1 : (i : Int) < (k : Int) := by omega
      have w1 : IntKind.i64.wrap ((a : Int) + (i : Int)) = (a : Int) + (i : Int) := IntWalk.i64_in _ (by omega)
      have w2 : IntKind.i64.wrap ((b : Int) + (i : Int)) = (b : Int) + (i : Int) := IntWalk.i64_in _ (by omega)
      have b1 : (0 : Int) ≤ (a : Int) + (i : Int) := by omega
      have b2 : (a : Int) + (i : Int) < (m : Int) := by omega
      have b3 : (0 : Int) ≤ (b : Int) + (i : Int) := by omega
      have b4 : (b : Int) + (i : Int) < (m : Int) := by omega
      have t1 : ((a : Int) + (i : Int)).toNat = a + i := by omega
      have t2 : ((b : Int) + (i : Int)).toNat = b + i := by omega
      clear S hs hs0 hX hY s1 s2
      go_upto_region 3 with (fail)
      go_region
      have HE1 := Lib.hid (show encF dk[b + i]! = Value.int .i64 (Y : Int) from by unfold encF; rw [HY.out])
      have HE2 := Lib.hid (show encF dk[a + i]! = Value.int .i64 (X : Int) from by unfold encF; rw [HX.out])
      go_wp2_with fail
      refine ⟨⟨i + 1, by omega, by go_num, ⟨swp dk (a + i) (b + i), by rw [size_swp]; exact HSz.out, ?_⟩⟩, by simp [intOf]; omega⟩
      have h := HS1.out
      rw [HE1.out, HE2.out] at h
      exact h
    · have i1 : ¬ (i : Int) < (k : Int) := by omega
      clear hkp
      go_wp2
      go_end0
      exact ⟨rfl, HKp.out⟩
set_option maxRecDepth 20000 in
set_option maxHeartbeats 2000000 in
theorem rotate_any {n : Nat} [Inhabited (Fin n)] (f : Value) (blk cap : Nat) (d0 : Array (Fin n)) (w0 w : World) (R : Row1 (encF (n := n)) w0 blk 0 d0) (S : Keep (n := n) w0 blk d0.size w) (a m b : Nat) (ha : a < m) (hmb : m < b) (hb : b ≤ d0.size) (hm : d0.size ≤ 64) :
    Calls Try.prog 100 #[.slice (some ⟨blk, 0, none⟩) d0.size cap, .int .i64 a, .int .i64 m, .int .i64 b, f] w fun e w' => e = .returned (.tuple #[]) ∧ Keep (n := n) w0 blk d0.size w' := by
  have HSw := Lib.hid (fun (W : World) (S : Keep (n := n) w0 blk d0.size W) (x y k : Nat) (hx : x + k ≤ d0.size) (hy : y + k ≤ d0.size) => swapRange_any f blk cap d0 w0 W R S x y k hx hy hm)
  obtain ⟨N, hN⟩ : ∃ N, N = d0.size := ⟨_, rfl⟩
  rw [← hN] at HSw hb hm S ⊢
  have HS := Lib.hid S
  clear S R hN
  have e1 : (m : Int) - (a : Int) = ((m - a : Nat) : Int) := by omega
  have e2 : (b : Int) - (m : Int) = ((b - m : Nat) : Int) := by omega
  go_enter Try.func100, Try.ntmps100
  go_wp2_with fail
  clear e1 e2
  go_loopw [10, 11] (fun iv jv wr => ∃ i j : Nat, 0 < i ∧ 0 < j ∧ i ≤ m - a ∧ j ≤ b - m ∧ iv = .int .i64 i ∧ jv = .int .i64 j ∧ Keep (n := n) w0 blk N wr) (fun iv jv _ => (intOf iv).toNat + (intOf jv).toNat)
  case atStart => exact ⟨m - a, b - m, by omega, by omega, Nat.le_refl _, Nat.le_refl _, rfl, rfl, HS.out⟩
  case round =>
    obtain ⟨i, j, hi0, hj0, hi, hj, rfl, rfl, hkp⟩ := hrel
    have HKp := Lib.hid hkp
    clear hkp
    by_cases hij : i = j
    · subst hij
      have f1 : ((i : Int) != (i : Int)) = false := by simp
      have e3 : (m : Int) - (i : Int) = ((m - i : Nat) : Int) := by omega
      go_wp2_with fail
      with_reducible refine (HSw.out _ HKp.out _ _ _ (by omega) (by omega)).mono ?_
      rintro e w1 ⟨rfl, hk1⟩
      have HK1 := Lib.hid hk1
      clear hk1 e3
      go_wp2
      go_end0
      exact ⟨rfl, HK1.out⟩
    · have f0 : ¬ (i : Int) = (j : Int) := by omega
      have f1 : ((i : Int) != (j : Int)) = true := by simpa using f0
      by_cases hgt : j < i
      · have f2 : (j : Int) < (i : Int) := by omega
        have e3 : (m : Int) - (i : Int) = ((m - i : Nat) : Int) := by omega
        have e4 : (i : Int) - (j : Int) = ((i - j : Nat) : Int) := by omega
        go_wp2_with fail
        with_reducible refine (HSw.out _ HKp.out _ _ _ (by omega) (by omega)).mono ?_
        rintro e w1 ⟨rfl, hk1⟩
        have HK1 := Lib.hid hk1
        clear hk1 e3
        go_wp2_with fail
        exact ⟨⟨i - j, j, by omega, hj0, by omega, hj, rfl, rfl, HK1.out⟩, by simp [intOf]; omega⟩
      · have f2 : ¬ (j : Int) < (i : Int) := by omega
        have e3 : (m : Int) - (i : Int) = ((m - i : Nat) : Int) := by omega
        have e4 : (j : Int) - (i : Int) = ((j - i : Nat) : Int) := by omega
        have e5 : (m : Int) + (j : Int) - (i : Int) = ((m + j - i : Nat) : Int) := by omega
        go_wp2_with fail
        with_reducible refine (HSw.out _ HKp.out _ _ _ (by omega) (by omega)).mono ?_
        rintro e w1 ⟨rfl, hk1⟩
        have HK1 := Lib.hid hk1
        clear hk1 e3 e5
        go_wp2_with fail
        exact ⟨⟨i, j - i, hi0, by omega, hi, by omega, rfl, rfl, HK1.out⟩, by simp [intOf]; omega⟩
end Go.Proofs.Ytdjmopipmeonlaa
