/- Contracts: the statements' own U.Of. -/
import Derived.Test.YtnecdmihnndebaaDoorUnMsg
namespace Go.Proofs.YtnecdmihnndebaaDoor
open Go.RowKit

def uStat (a2 a3 : Int) : Int := if a2 % 3 = 1 then a3 % 6 else 0
def uLoad (a2 : Int) (size : Nat) (l : List Int) : List Int := if a2 % 3 = 2 then msgL size l else []
theorem uLoad_octs {a2 : Int} {size : Nat} {l : List Int} (h : ∀ x ∈ l, 0 ≤ x ∧ x ≤ 255) : ∀ x ∈ uLoad a2 size l, 0 ≤ x ∧ x ≤ 255 := by
  unfold uLoad
  split
  · exact msgL_octs h
  · simp
theorem uStat_range {a2 a3 : Int} : 0 ≤ uStat a2 a3 ∧ uStat a2 a3 ≤ 5 := by
  unfold uStat; split <;> omega
theorem chk_u {a0 a1 a2 a3 : Int} {size : Nat} {l : List Int} : chk (a0 % 128) (a1 % 128) (a2 % 3) (uStat a2 a3) (uLoad a2 size l).length = 0 := by
  apply chk_ok.2
  have h := uStat_range (a2 := a2) (a3 := a3)
  refine ⟨by omega, by omega, by omega, h.2, ?_, ?_, ?_⟩
  · unfold uStat; split
    · rename_i h1; exact .inr h1
    · exact .inl rfl
  · intro h2; unfold uLoad; rw [if_pos h2, msgL_length]; omega
  · intro h2; unfold uLoad; rw [if_neg h2]; rfl
set_option maxHeartbeats 4000000 in
set_option maxRecDepth 100000 in
theorem uof_any (a0 a1 a2 a3 : Int) (size : Nat) (s : Option Addr) (n c : Nat) (l : List Int) (w : World) (h00 : 0 ≤ a0) (h01 : a0 ≤ 255) (h10 : 0 ≤ a1) (h11 : a1 ≤ 255) (h20 : 0 ≤ a2) (h21 : a2 ≤ 255) (h30 : 0 ≤ a3) (h31 : a3 ≤ 255) (hs : size ≤ 65535) (h : Row .u8 w s n c l)
    (m : Nat) (hm : (uLoad a2 size l).length = m) :
    Calls Tryd.prog 4 #[.agg #[.int .u8 a0, .int .u8 a1, .int .u8 a2, .int .u8 a3, .int .u16 (size : Int), .slice s n c]] w fun e w' =>
      (∃ s', e = .returned (.agg #[.int .u8 (a0 % 128), .bool (decide (128 ≤ a0)), .int .u8 (a1 % 128), .bool (decide (128 ≤ a1)), .int .u8 (a2 % 3), .int .u8 (uStat a2 a3), .slice s' m m]) ∧ LoadAt w' w.heap.size s' (uLoad a2 size l)) ∧ Below w.heap.size w w' := by
  rcases (by omega : a2 % 3 = 0 ∨ a2 % 3 = 1 ∨ a2 % 3 = 2) with hk | hk | hk
  · have e1 : uStat a2 a3 = 0 := by unfold uStat; rw [if_neg (by omega)]
    have e2 : uLoad a2 size l = [] := by unfold uLoad; rw [if_neg (by omega)]
    rw [e2] at hm
    obtain rfl : m = 0 := by rw [← hm]; rfl
    rw [e1, e2, hk]
    clear h hm e1 e2
    go_enter Tryd.func4, Tryd.ntmps4
    go_wp2
    exact bodyPost_ret (v := .agg #[.int .u8 (a0 % 128), .bool (decide (128 ≤ a0)), .int .u8 (a1 % 128), .bool (decide (128 ≤ a1)), .int .u8 0, .int .u8 0, .slice none 0 0]) (by simp [results, Tryd.results4, go_sem]) rfl ⟨⟨none, rfl, .inl ⟨rfl, rfl⟩⟩, (((Below.refl _ _).alloc (Nat.le_refl _) _).alloc (by simp) _).alloc (by simp; omega) _⟩
  · have e1 : uStat a2 a3 = a3 % 6 := by unfold uStat; rw [if_pos hk]
    have e2 : uLoad a2 size l = [] := by unfold uLoad; rw [if_neg (by omega)]
    rw [e2] at hm
    obtain rfl : m = 0 := by rw [← hm]; rfl
    rw [e1, e2, hk]
    clear h hm e1 e2
    go_enter Tryd.func4, Tryd.ntmps4
    go_wp2
    exact bodyPost_ret (v := .agg #[.int .u8 (a0 % 128), .bool (decide (128 ≤ a0)), .int .u8 (a1 % 128), .bool (decide (128 ≤ a1)), .int .u8 1, .int .u8 (a3 % 6), .slice none 0 0]) (by simp [results, Tryd.results4, go_sem]) rfl ⟨⟨none, rfl, .inl ⟨rfl, rfl⟩⟩, (((Below.refl _ _).alloc (Nat.le_refl _) _).alloc (by simp) _).alloc (by simp; omega) _⟩
  · have e1 : uStat a2 a3 = 0 := by unfold uStat; rw [if_neg (by omega)]
    have e2 : uLoad a2 size l = msgL size l := by unfold uLoad; rw [if_pos hk]
    rw [e2] at hm
    rw [msgL_length] at hm
    rw [e1, e2, hk]
    have HM := Lib.hid hm
    obtain ⟨w3, hw3⟩ : ∃ W, W = ((w.alloc (.cells #[.int .u8 a0, .int .u8 a1, .int .u8 a2, .int .u8 a3, .int .u16 (size : Int), .slice s n c] 25)).alloc (.cells #[.int .u8 0, .bool false, .int .u8 0, .bool false, .int .u8 0, .int .u8 0, .slice none 0 0] 29)).alloc (.cells #[.int .u8 (a0 % 128), .bool (decide (128 ≤ a0)), .int .u8 (a1 % 128), .bool (decide (128 ≤ a1)), .int .u8 2, .int .u8 0, .slice none 0 0] 29) := ⟨_, rfl⟩
    have hb3 : Below w.heap.size w w3 := by rw [hw3]; exact (((Below.refl _ _).alloc (Nat.le_refl _) _).alloc (by simp) _).alloc (by simp; omega) _
    have oz : Own w3 (w.heap.size + 1) 29 [.int .u8 0, .bool false, .int .u8 0, .bool false, .int .u8 0, .int .u8 0, .slice none 0 0] := by
      rw [hw3]
      have hh := own_lit (w.alloc (.cells #[.int .u8 a0, .int .u8 a1, .int .u8 a2, .int .u8 a3, .int .u16 (size : Int), .slice s n c] 25)) 29 #[.int .u8 0, .bool false, .int .u8 0, .bool false, .int .u8 0, .int .u8 0, .slice none 0 0] _ rfl
      rw [World.size_alloc] at hh
      exact hh.below (below_alloc _ _) (by simp)
    have ou : Own w3 (w.heap.size + 1 + 1) 29 [.int .u8 (a0 % 128), .bool (decide (128 ≤ a0)), .int .u8 (a1 % 128), .bool (decide (128 ≤ a1)), .int .u8 2, .int .u8 0, .slice none 0 0] := by
      rw [hw3]
      have hh := own_lit ((w.alloc (.cells #[.int .u8 a0, .int .u8 a1, .int .u8 a2, .int .u8 a3, .int .u16 (size : Int), .slice s n c] 25)).alloc (.cells #[.int .u8 0, .bool false, .int .u8 0, .bool false, .int .u8 0, .int .u8 0, .slice none 0 0] 29)) 29 #[.int .u8 (a0 % 128), .bool (decide (128 ≤ a0)), .int .u8 (a1 % 128), .bool (decide (128 ≤ a1)), .int .u8 2, .int .u8 0, .slice none 0 0] _ rfl
      rwa [World.size_alloc, World.size_alloc] at hh
    have hmsg := message_any size s n c l w3 hs (h.later hb3)
    rw [hm] at hmsg
    have HMsg := Lib.hid hmsg
    have HW3 := Lib.hid hw3
    have HB3 := Lib.hid hb3
    have HOz := Lib.hid oz
    have HOu := Lib.hid ou
    clear h hm e1 e2 hmsg hw3 hb3 oz ou
    go_enter Tryd.func4, Tryd.ntmps4
    go_wp2_with fail
    rw [← HW3.out]
    refine (HMsg.out).mono ?_
    rintro e w4 ⟨rfl, ho4, hb4⟩
    have oz4 := HOz.out.below hb4 HOz.out.lt
    have ou4 := HOu.out.below hb4 HOu.out.lt
    have hs4 := hb4.size
    have hlu := HOu.out.lt
    obtain ⟨z0, z1, z2, z3, z4, z5, z6⟩ := unit_cells oz4
    obtain ⟨y0, y1, y2, y3, y4, y5, y6⟩ := unit_cells ou4
    obtain ⟨f0, f1, f2, f3, f4, f5, f6⟩ := unit_frozen oz4
    obtain ⟨q0, q1, q2, q3, q4, q5, q6⟩ := unit_frozen ou4
    have HO4 := Lib.hid ho4
    have HB4 := Lib.hid (HB3.out.trans (hb4.mono HB3.out.size))
    clear ho4 hb4 oz4 ou4
    go_wp2
    have HX := Lib.hid (((((((((Exc.refl (fun k => k = w.heap.size + 1 ∨ k = w.heap.size + 1 + 1) w4).setCell ⟨w.heap.size + 1 + 1, 6, none⟩ (.inl (.inr rfl)) (.slice (some ⟨w3.heap.size, 0, none⟩) m m)).setCell ⟨w.heap.size + 1, 0, none⟩ (.inl (.inl rfl)) (.int .u8 (a0 % 128))).setCell ⟨w.heap.size + 1, 1, none⟩ (.inl (.inl rfl)) (.bool (decide (128 ≤ a0)))).setCell ⟨w.heap.size + 1, 2, none⟩ (.inl (.inl rfl)) (.int .u8 (a1 % 128))).setCell ⟨w.heap.size + 1, 3, none⟩ (.inl (.inl rfl)) (.bool (decide (128 ≤ a1)))).setCell ⟨w.heap.size + 1, 4, none⟩ (.inl (.inl rfl)) (.int .u8 2)).setCell ⟨w.heap.size + 1, 5, none⟩ (.inl (.inl rfl)) (.int .u8 0)).setCell ⟨w.heap.size + 1, 6, none⟩ (.inl (.inl rfl)) (.slice (some ⟨w3.heap.size, 0, none⟩) m m))
    have h3s := HB3.out.size
    refine bodyPost_ret (v := .agg #[.int .u8 (a0 % 128), .bool (decide (128 ≤ a0)), .int .u8 (a1 % 128), .bool (decide (128 ≤ a1)), .int .u8 2, .int .u8 0, .slice (some ⟨w3.heap.size, 0, none⟩) m m]) (by simp [results, Tryd.results4, go_sem, z0, z1, z2, z3, z4, z5, z6]) rfl ⟨⟨some ⟨w3.heap.size, 0, none⟩, rfl, .inr ⟨_, rfl, h3s, ?_⟩⟩, ?_⟩
    · exact HO4.out.exc HX.out (by omega)
    · exact HB4.out.trans (HX.out.below HB4.out.size (fun i _ hi => by omega))
end Go.Proofs.YtnecdmihnndebaaDoor
