/- Contracts: bits.Run. -/
import Derived.Test.YtjadmhmfjjjcfaaBase
import Derived.Deep.QuietTactic
import Derived.BigQuiet
namespace Go.Proofs.Ytjadmhmfjjjcfaa
open Go.RowKit

/-- The run at the end of a list, and the longest one. -/
def runEnd (v : Int) (l : List Int) : Int := l.foldl (fun r x => if x = v then r + 1 else 0) 0
def runMax (v : Int) (l : List Int) : Int := (l.foldl (fun (p : Int × Int) x => if x = v then (p.1 + 1, if p.2 < p.1 + 1 then p.1 + 1 else p.2) else (0, p.2)) (0, 0)).2
theorem runMax_fst (v : Int) (l : List Int) : (l.foldl (fun (p : Int × Int) x => if x = v then (p.1 + 1, if p.2 < p.1 + 1 then p.1 + 1 else p.2) else (0, p.2)) (0, 0)).1 = runEnd v l := by
  unfold runEnd
  suffices h : ∀ (r : Int) (m : Int), (l.foldl (fun (p : Int × Int) x => if x = v then (p.1 + 1, if p.2 < p.1 + 1 then p.1 + 1 else p.2) else (0, p.2)) (r, m)).1 = l.foldl (fun r x => if x = v then r + 1 else 0) r from h 0 0
  induction l with
  | nil => intro r m; rfl
  | cons x l ih =>
    intro r m
    simp only [List.foldl_cons]
    by_cases hx : x = v
    · simp only [hx, if_true]; exact ih _ _
    · simp only [hx, if_false]; exact ih _ _
theorem runEnd_snoc (v x : Int) (l : List Int) : runEnd v (l ++ [x]) = if x = v then runEnd v l + 1 else 0 := by simp [runEnd, List.foldl_append]
theorem runMax_snoc (v x : Int) (l : List Int) : runMax v (l ++ [x]) = if x = v then (if runMax v l < runEnd v l + 1 then runEnd v l + 1 else runMax v l) else runMax v l := by
  have h := runMax_fst v l
  unfold runMax
  rw [List.foldl_append, List.foldl_cons, List.foldl_nil]
  by_cases hx : x = v
  · simp only [hx, if_true, ← h]
  · simp only [hx, if_false]
theorem run_bounds (v : Int) (n : Nat) (l : List Int) (h : l.length ≤ n) : 0 ≤ runEnd v l ∧ runEnd v l ≤ n ∧ 0 ≤ runMax v l ∧ runMax v l ≤ n := by
  suffices hh : ∀ k, k ≤ l.length → 0 ≤ runEnd v (l.take k) ∧ runEnd v (l.take k) ≤ k ∧ 0 ≤ runMax v (l.take k) ∧ runMax v (l.take k) ≤ k by
    have := hh l.length (Nat.le_refl _)
    rw [List.take_of_length_le (Nat.le_refl _)] at this
    omega
  intro k
  induction k with
  | zero => intro _; simp [runEnd, runMax]
  | succ k ih =>
    intro hk
    have := ih (by omega)
    rw [take_succ' (by omega), runEnd_snoc, runMax_snoc]
    split
    · split <;> omega
    · omega

set_option maxHeartbeats 400000 in
theorem run_any (a : Option Addr) (n c : Nat) (l : List Int) (v : Int) (w : World) (h : Row .u8 w a n c l) :
    Calls Try.prog 27 #[.slice a n c, .int .u8 v] w fun e w' => e = .returned (.int .i64 (runMax v l)) ∧ w = w' := by
  have hle := h.le
  have hmx := h.max
  have hcc := h.cells
  unfold maxLen at hmx
  have HL := Lib.hid h.len
  clear h
  go_enter Try.func27, Try.ntmps27
  go_wp2
  go_loop [5, 6, 8, 11] (fun m r _ i => ∃ k : Nat, ∃ x y : Int, k ≤ n ∧ i = .int .i64 k ∧ m = .int .i64 x ∧ r = .int .i64 y ∧ x = runMax v (l.take k) ∧ y = runEnd v (l.take k)) (fun _ _ _ i => n - (intOf i).toNat)
  case atStart => exact ⟨0, 0, 0, Nat.zero_le _, rfl, rfl, rfl, rfl, rfl⟩
  case round =>
    obtain ⟨k, x, y, hk, rfl, rfl, rfl, hx, hy⟩ := hrel
    by_cases hlt : k < n
    · rcases hcc with h0 | ⟨b, o, rfl, hc⟩
      · omega
      have g := hc k hlt
      obtain ⟨z, hz⟩ : ∃ z, z = l.getD k 0 := ⟨_, rfl⟩
      rw [← hz] at g
      have hb := run_bounds v k (l.take k) (by rw [List.length_take]; omega)
      rw [← hx, ← hy] at hb
      obtain ⟨hb1, hb2, hb3, hb4⟩ := hb
      have ht : l.take (k + 1) = l.take k ++ [z] := by rw [hz]; exact take_succ' (by rw [HL.out]; exact hlt)
      have hs1 := runEnd_snoc v z (l.take k)
      have hs2 := runMax_snoc v z (l.take k)
      rw [← ht, ← hy] at hs1
      rw [← ht, ← hx, ← hy] at hs2
      have H1 := Lib.hid hs1
      have H2 := Lib.hid hs2
      clear hx hy hz ht hs1 hs2 hc
      by_cases hzv : z = v
      · have hne : (z != v) = false := by simp [hzv]
        have HZ := Lib.hid hzv
        clear hzv
        go_wp2
        exact ⟨⟨k + 1, _, _, by omega, by go_num, rfl, rfl, by rw [H2.out, if_pos HZ.out], by rw [H1.out, if_pos HZ.out]⟩, by simp [intOf]; omega⟩
      · have hne : (z != v) = true := by simp [hzv]
        have HZ := Lib.hid hzv
        clear hzv
        go_wp2
        exact ⟨⟨k + 1, _, _, by omega, by go_num, rfl, rfl, by rw [H2.out, if_neg HZ.out], by rw [H1.out, if_neg HZ.out]⟩, by simp [intOf]; omega⟩
    · go_wp2
      go_ret
      obtain rfl : k = n := by omega
      refine ⟨ret_int ?_, rfl⟩
      rw [List.take_of_length_le (by rw [HL.out]; exact Nat.le_refl _)]
end Go.Proofs.Ytjadmhmfjjjcfaa
