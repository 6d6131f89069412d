/- Contracts: the statements' own Message and U.Of. -/
import Derived.Test.YtnecdmihnndebaaDoorUnBase
import Derived.Test.YtnecdmihnndebaaDoorUnMath
namespace Go.Proofs.YtnecdmihnndebaaDoor
open Go.RowKit

/-- The octets of a load of the given size. -/
def msgL (size : Nat) (l : List Int) : List Int := (List.range (2 + size % 272)).map fun i => if l.length = 0 then 0 else l.getD (i % l.length) 0
theorem msgL_length (size : Nat) (l : List Int) : (msgL size l).length = 2 + size % 272 := by simp [msgL]
theorem msgL_octs {size : Nat} {l : List Int} (h : ∀ x ∈ l, 0 ≤ x ∧ x ≤ 255) : ∀ x ∈ msgL size l, 0 ≤ x ∧ x ≤ 255 := by
  intro x hx
  simp only [msgL, List.mem_map] at hx
  obtain ⟨i, _, rfl⟩ := hx
  split
  · omega
  · rename_i h0
    rw [List.getD_eq_getElem?_getD, List.getElem?_eq_getElem (Nat.mod_lt _ (by omega)), Option.getD_some]
    exact h _ (List.getElem_mem _)
theorem msgL_nil (size : Nat) : msgL size [] = List.replicate (2 + size % 272) 0 := by
  unfold msgL
  simp only [List.length_nil, if_true]
  rw [List.map_const', List.length_range]
theorem msg_set {size : Nat} {l : List Int} {k : Nat} (h0 : l.length ≠ 0) (hk : k < 2 + size % 272) :
    (((msgL size l).take k ++ List.replicate (2 + size % 272 - k) 0)).set k (l.getD (k % l.length) 0) = (msgL size l).take (k + 1) ++ List.replicate (2 + size % 272 - (k + 1)) 0 := by
  have hlen := msgL_length size l
  have hkl : k < (msgL size l).length := by omega
  obtain ⟨r, hr⟩ : ∃ r, 2 + size % 272 - k = r + 1 := ⟨2 + size % 272 - k - 1, by omega⟩
  rw [hr, show 2 + size % 272 - (k + 1) = r by omega, List.set_append_right _ _ (by rw [List.length_take]; omega), List.length_take, Nat.min_eq_left (by omega), Nat.sub_self, List.replicate_succ, List.set_cons_zero,
    List.take_succ_eq_append_getElem hkl, List.append_assoc]
  congr 1
  simp only [List.cons_append, List.nil_append, List.cons.injEq, and_true]
  simp [msgL, h0]
set_option maxHeartbeats 2000000 in
set_option maxRecDepth 100000 in
theorem message_any (size : Nat) (a : Option Addr) (n c : Nat) (l : List Int) (w : World) (hs : size ≤ 65535) (h : Row .u8 w a n c l) :
    Calls Tryd.prog 13 #[.int .u16 (size : Int), .slice a n c] w fun e w' =>
      e = .returned (.slice (some ⟨w.heap.size, 0, none⟩) (2 + size % 272) (2 + size % 272)) ∧ Own w' w.heap.size 5 (nums .u8 (msgL size l)) ∧ Below w.heap.size w w' := by
  have hl := h.len
  have hle := h.le
  have hcm := h.max
  unfold maxLen at hcm
  obtain ⟨Z, hZ⟩ : ∃ Z, Z = 2 + size % 272 := ⟨_, rfl⟩
  have hZ1 : Z ≤ 273 := by omega
  have hZi : 2 + (size : Int) % 272 = (Z : Int) := by omega
  have hmk := make8 Z (by omega)
  rw [← hZ]
  have HZ := Lib.hid hZ
  by_cases hn : n = 0
  · subst hn
    have := List.eq_nil_of_length_eq_zero hl
    subst this
    clear h hl hZ
    go_enter Tryd.func13, Tryd.ntmps13
    go_wp2_with fail
    go_loop [6] (fun i => i = .int .i64 0) (fun _ => 0)
    case atStart => rfl
    case round =>
      obtain rfl := hrel
      go_wp2
      go_ret
      refine ⟨rfl, ?_, below_alloc _ _⟩
      rw [msgL_nil, ← HZ.out]
      exact own_made .u8 Z 5 w
  · obtain ⟨b, o, rfl, hc⟩ : ∃ b off, a = some ⟨b, off, none⟩ ∧ ∀ i, i < n → w.cell? ⟨b, off + i, none⟩ = some (.int .u8 (l.getD i 0)) := by
      rcases h.cells with h0 | h0
      · omega
      · exact h0
    have hbl : b < w.heap.size := World.block_lt_of_cell? w _ (hc 0 (by omega))
    have hnpos : 0 < n := by omega
    have HC := Lib.hid hc
    have HL := Lib.hid hl
    have hnz : ((n : Int) == 0) = false := by simp; omega
    clear h hc hl hn hZ
    go_enter Tryd.func13, Tryd.ntmps13
    go_wp2_with fail
    clear hmk
    go_loopw [6] (fun i wr => ∃ k : Nat, k ≤ Z ∧ i = .int .i64 k ∧ Below w.heap.size w wr ∧ Own wr w.heap.size 5 (nums .u8 ((msgL size l).take k ++ List.replicate (Z - k) 0))) (fun i _ => Z - (intOf i).toNat)
    case atStart => exact ⟨0, Nat.zero_le _, rfl, below_alloc _ _, by simpa using own_made .u8 Z 5 w⟩
    case round =>
      obtain ⟨k, hk, rfl, hbel, hown⟩ := hrel
      by_cases hlt : k < Z
      · obtain ⟨j, hj⟩ : ∃ j, j = k % n := ⟨_, rfl⟩
        have hjn : j < n := by rw [hj]; exact Nat.mod_lt _ hnpos
        have hji : (k : Int) % (n : Int) = (j : Int) := by rw [hj]; omega
        have hjt : (k : Int).tmod (n : Int) = (j : Int) := by rw [Int.tmod_eq_emod_of_nonneg (by omega)]; exact hji
        have g0 := HC.out j hjn
        have g := (hbel.cell (p := ⟨b, o + j, none⟩) hbl).trans g0
        have hz0 := hown.cell k (by rw [nums_length, List.length_append, List.length_take, List.length_replicate, msgL_length, ← HZ.out]; omega)
        have hf := hown.frozen k
        have hset := msg_set (size := size) (l := l) (k := k) (by rw [HL.out]; omega) (by rw [← HZ.out]; exact hlt)
        rw [← HZ.out, HL.out, ← hj] at hset
        obtain ⟨x, hx⟩ : ∃ x, x = l.getD j 0 := ⟨_, rfl⟩
        rw [← hx] at g hset
        have HSet := Lib.hid hset
        have HB := Lib.hid hbel
        have HO := Lib.hid hown
        clear hset hbel hown hj hx g0
        go_wp2
        refine ⟨⟨k + 1, by omega, by go_num, HB.out.setCell (Nat.le_refl _) _, ?_⟩, by simp [intOf]; omega⟩
        have hh := HO.out.set k (.int .u8 x)
        rw [nums_set, HSet.out] at hh
        exact hh
      · obtain rfl : k = Z := by omega
        have HB := Lib.hid hbel
        rw [Nat.sub_self, List.replicate_zero, List.append_nil, List.take_of_length_le (by rw [msgL_length, ← HZ.out]; exact Nat.le_refl _)] at hown
        have HO := Lib.hid hown
        clear hbel hown
        go_wp2
        go_ret
        exact ⟨rfl, HO.out, HB.out⟩
end Go.Proofs.YtnecdmihnndebaaDoor
