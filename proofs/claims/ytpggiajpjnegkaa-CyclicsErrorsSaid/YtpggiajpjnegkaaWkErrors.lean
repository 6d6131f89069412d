/- Statement text: CyclicsErrors. -/
import Derived.Test.YtpggiajpjnegkaaEaNone
import Derived.Test.YtpggiajpjnegkaaBaPrefix
namespace Go.Proofs.Ytpggiajpjnegkaa
open Go.RowKit

theorem fin_wrong1 {B : Nat} {W : World} {b : Nat} (h : FinAt B W b false false) :
    Calls Try.prog 20 #[.pointer (some ⟨b, 0, none⟩), .agg #[.int .u8 3, .bool false, .int .u8 0, .bool false, .int .u8 0, .int .u8 0, .slice none 0 0]] W fun e w' => (∃ v, e = .returned (.tuple #[v, .int .i64 0])) ∧ FinAt B w' b true false ∧ Exc (fun k => k = b) W w' := by
  refine (fin_wrong h).mono ?_
  rintro e w' ⟨h1, h2⟩
  simp only [Bool.false_eq_true, if_false] at h1
  exact ⟨h1, h2⟩
theorem fin_wrong2 {B : Nat} {W : World} {b : Nat} (h : FinAt B W b true false) :
    Calls Try.prog 20 #[.pointer (some ⟨b, 0, none⟩), .agg #[.int .u8 3, .bool false, .int .u8 0, .bool false, .int .u8 0, .int .u8 0, .slice none 0 0]] W fun e w' => (∃ v, e = .returned (.tuple #[v, .int .i64 6])) ∧ FinAt B w' b true true ∧ Exc (fun k => k = b) W w' := by
  refine (fin_wrong h).mono ?_
  rintro e w' ⟨h1, h2⟩
  simp only [if_true] at h1
  exact ⟨h1, h2⟩
set_option maxHeartbeats 8000000 in
set_option maxRecDepth 100000 in
theorem errors_any (hl : LivesOk) (w : World) (A B : Int) (la : Option Addr) (ln lc : Nat) (ll : List Int) (a0 a2 a4 a5 : Nat) (b1 b3 : Bool) (s : Option Addr) (n c : Nat) (l : List Int) (hL : Row .u8 w la ln lc ll) (hU : Row .u8 w s n c l) (h0 : a0 ≤ 255) (h2 : a2 ≤ 255) (h4 : a4 ≤ 255) (h5 : a5 ≤ 255) :
    Calls Try.prog 7 #[.agg #[.int .i64 A, .int .i64 B], .slice la ln lc, .agg #[.int .u8 (a0 : Int), .bool b1, .int .u8 (a2 : Int), .bool b3, .int .u8 (a4 : Int), .int .u8 (a5 : Int), .slice s n c]] w fun e w' => e = .returned (.bool true) ∧ Below w.heap.size w w' := by
  have hlle := hL.le
  have hlmx := hL.max
  have hule := hU.le
  have humx := hU.max
  unfold maxLen at hlmx humx
  obtain ⟨u, hu⟩ : ∃ u : Un, u = ⟨a0, b1, a2, b3, a4, a5, l⟩ := ⟨_, rfl⟩
  have huc : unCells u s n c = [.int .u8 (a0 : Int), .bool b1, .int .u8 (a2 : Int), .bool b3, .int .u8 (a4 : Int), .int .u8 (a5 : Int), .slice s n c] := by rw [hu]; rfl
  have HL := Lib.hid hl
  have HLr := Lib.hid hL
  have HUc := Lib.hid huc
  have HUe := Lib.hid hu
  have HBd := Lib.hid (And.intro h0 (And.intro h2 (And.intro h4 h5)))
  obtain ⟨Wa, hWa⟩ : ∃ X, X = w.alloc (.cells #[.int .i64 A, .int .i64 B] 66) := ⟨_, rfl⟩
  have hba : Below w.heap.size w Wa := by rw [hWa]; exact below_alloc _ _
  have oa : Own Wa w.heap.size 66 [.int .i64 A, .int .i64 B] := by rw [hWa]; exact own_lit w _ _ _ rfl
  have esa : Wa.heap.size = w.heap.size + 1 := by rw [hWa]; simp
  obtain ⟨W0, hW0⟩ : ∃ X, X = Wa.alloc (.cells #[.int .u8 (a0 : Int), .bool b1, .int .u8 (a2 : Int), .bool b3, .int .u8 (a4 : Int), .int .u8 (a5 : Int), .slice s n c] 45) := ⟨_, rfl⟩
  have hb0 : Below Wa.heap.size Wa W0 := by rw [hW0]; exact below_alloc _ _
  have ou0 : Own W0 Wa.heap.size 45 [.int .u8 (a0 : Int), .bool b1, .int .u8 (a2 : Int), .bool b3, .int .u8 (a4 : Int), .int .u8 (a5 : Int), .slice s n c] := by rw [hW0]; exact own_lit Wa _ _ _ rfl
  have es0 : W0.heap.size = w.heap.size + 1 + 1 := by rw [hW0]; simp [esa]
  rw [esa] at ou0
  have HWa := Lib.hid hWa
  have HW0 := Lib.hid hW0
  have HB0 := Lib.hid (hba.trans (Below.mono hb0 hba.size))
  have HA0 := Lib.hid (oa.below hb0 oa.lt)
  have HO0 := Lib.hid ou0
  have HEs := Lib.hid (And.intro esa es0)
  have v6 := ou0.cell 6 (by simp)
  simp only [List.getD_cons_succ, List.getD_cons_zero] at v6
  clear hl hL hU huc hu h0 h2 h4 h5 hW0 hb0 ou0 hWa hba oa esa es0
  go_enter Try.func7, Try.ntmps7
  by_cases hbig : 400 < ln ∨ 400 < n
  · by_cases hln : 400 < ln
    · have hli : (400 : Int) < (ln : Int) := by omega
      go_wp2_with fail
      rw [← HWa.out, ← HW0.out]
      refine (HL.out _).mono ?_
      rintro e w1 ⟨rfl, hb⟩
      have HB := Lib.hid (HB0.out.trans (Below.mono hb HB0.out.size))
      clear hb
      go_wp2
      go_ret
      exact ⟨rfl, HB.out⟩
    · have hli : ¬ (400 : Int) < (ln : Int) := by omega
      have hld : decide ((400 : Int) < (ln : Int)) = false := decide_eq_false hli
      have hni : (400 : Int) < (n : Int) := by omega
      go_wp2_with fail
      rw [← HWa.out, ← HW0.out]
      refine (HL.out _).mono ?_
      rintro e w1 ⟨rfl, hb⟩
      have HB := Lib.hid (HB0.out.trans (Below.mono hb HB0.out.size))
      clear hb
      go_wp2
      go_ret
      exact ⟨rfl, HB.out⟩
  · have hln : ln ≤ 400 := by omega
    have hn : n ≤ 400 := by omega
    have hli : ¬ (400 : Int) < (ln : Int) := by omega
    have hld : decide ((400 : Int) < (ln : Int)) = false := decide_eq_false hli
    have hni : ¬ (400 : Int) < (n : Int) := by omega
    obtain ⟨W1, hW1⟩ : ∃ X, X = W0.alloc (.cells #[.int .i64 0, .int .i64 0, .slice none 0 0, .slice none 0 0, .int .i64 0, .bool false, .int .u8 0, .int .u8 0, .bool false, .bool false, .bool false] 82) := ⟨_, rfl⟩
    have hb1 : Below W0.heap.size W0 W1 := by rw [hW1]; exact below_alloc _ _
    have oz1 : Own W1 W0.heap.size 82 [.int .i64 0, .int .i64 0, .slice none 0 0, .slice none 0 0, .int .i64 0, .bool false, .int .u8 0, .int .u8 0, .bool false, .bool false, .bool false] := by rw [hW1]; exact own_lit W0 _ _ _ rfl
    rw [HEs.out.2] at oz1
    have hz : NoneAt W1 (some ⟨w.heap.size + 1 + 1, 0, none⟩) := .inr ⟨_, rfl, oz1.cell 0 (by simp), oz1.cell 1 (by simp)⟩
    have ou1 := HO0.out.below hb1 HO0.out.lt
    have HW1 := Lib.hid hW1
    have HB1 := Lib.hid (HB0.out.trans (Below.mono hb1 HB0.out.size))
    have HA1 := Lib.hid (HA0.out.below hb1 HA0.out.lt)
    have HZ1 := Lib.hid hz
    have HO1 := Lib.hid ou1
    clear hW1 hb1 hz ou1 hbig oz1 HB0 HA0 HO0 v6
    go_wp2_with fail
    rw [← HWa.out, ← HW0.out, ← HW1.out]
    have HCn := Lib.hid (none_next none W1 (.inl rfl))
    with_reducible refine HCn.out.mono ?_
    clear HCn
    rintro e w2 ⟨rfl, hb2⟩
    have HB2 := Lib.hid (HB1.out.trans (Below.mono hb2 HB1.out.size))
    have HA2 := Lib.hid (HA1.out.below hb2 HA1.out.lt)
    have HZ2 := Lib.hid (HZ1.out.later hb2)
    have HO2 := Lib.hid (HO1.out.below hb2 HO1.out.lt)
    clear hb2 HB1 HZ1 HO1 HA1
    go_wp2_with fail
    obtain ⟨w3, hw3⟩ : ∃ X, X = w2.alloc (.cells #[.int .u8 0, .bool false, .int .u8 0, .bool false, .int .u8 0, .int .u8 0, .slice none 0 0] 45) := ⟨_, rfl⟩
    rw [← hw3]
    have hb3 : Below w2.heap.size w2 w3 := by rw [hw3]; exact below_alloc _ _
    have HB3 := Lib.hid (HB2.out.trans (Below.mono hb3 HB2.out.size))
    have HA3 := Lib.hid (HA2.out.below hb3 HA2.out.lt)
    have HZ3 := Lib.hid (HZ2.out.later hb3)
    have HO3 := Lib.hid (HO2.out.below hb3 HO2.out.lt)
    clear hb3 hw3 HB2 HZ2 HO2 HA2
    have HCn := Lib.hid (none_next (some ⟨w.heap.size + 1 + 1, 0, none⟩) w3 HZ3.out)
    with_reducible refine HCn.out.mono ?_
    clear HCn
    rintro e w4 ⟨rfl, hb4⟩
    have HB4 := Lib.hid (HB3.out.trans (Below.mono hb4 HB3.out.size))
    have HA4 := Lib.hid (HA3.out.below hb4 HA3.out.lt)
    have HZ4 := Lib.hid (HZ3.out.later hb4)
    have HO4 := Lib.hid (HO3.out.below hb4 HO3.out.lt)
    clear hb4 HB3 HZ3 HO3 HA3
    obtain ⟨c0, c1, c2, c3, c4, c5, c6⟩ := unit_cells HO4.out
    have hlt := HO4.out.lt
    go_wp2_with fail
    obtain ⟨w5, hw5⟩ : ∃ X, X = w4.alloc (.cells #[.int .u8 0, .bool false, .int .u8 0, .bool false, .int .u8 0, .int .u8 0, .slice none 0 0] 45) := ⟨_, rfl⟩
    rw [← hw5]
    have hb5 : Below w4.heap.size w4 w5 := by rw [hw5]; exact below_alloc _ _
    have HB5 := Lib.hid (HB4.out.trans (Below.mono hb5 HB4.out.size))
    have HA5 := Lib.hid (HA4.out.below hb5 HA4.out.lt)
    have HZ5 := Lib.hid (HZ4.out.later hb5)
    have HO5 := Lib.hid (HO4.out.below hb5 HO4.out.lt)
    clear hb5 hw5 HB4 HZ4 HO4 HA4
    clear c0 c1 c2 c3 c4 c5 c6 hlt
    have HCn := Lib.hid (show Calls Try.prog 20 #[.pointer none, .agg #[.int .u8 (a0 : Int), .bool b1, .int .u8 (a2 : Int), .bool b3, .int .u8 (a4 : Int), .int .u8 (a5 : Int), .slice s n c]] w5 fun e w' => e = .returned (.tuple #[.slice none 0 0, .int .i64 2]) ∧ Below w5.heap.size w5 w' by have hh := none_hear none u s n c w5 (.inl rfl); rw [HUc.out] at hh; exact hh)
    with_reducible refine HCn.out.mono ?_
    clear HCn
    rintro e w6 ⟨rfl, hb6⟩
    have HB6 := Lib.hid (HB5.out.trans (Below.mono hb6 HB5.out.size))
    have HA6 := Lib.hid (HA5.out.below hb6 HA5.out.lt)
    have HZ6 := Lib.hid (HZ5.out.later hb6)
    have HO6 := Lib.hid (HO5.out.below hb6 HO5.out.lt)
    clear hb6 HB5 HZ5 HO5 HA5
    obtain ⟨c0, c1, c2, c3, c4, c5, c6⟩ := unit_cells HO6.out
    have hlt := HO6.out.lt
    go_wp2_with fail
    clear c0 c1 c2 c3 c4 c5 c6 hlt
    have HCn := Lib.hid (show Calls Try.prog 20 #[.pointer (some ⟨w.heap.size + 1 + 1, 0, none⟩), .agg #[.int .u8 (a0 : Int), .bool b1, .int .u8 (a2 : Int), .bool b3, .int .u8 (a4 : Int), .int .u8 (a5 : Int), .slice s n c]] w6 fun e w' => e = .returned (.tuple #[.slice none 0 0, .int .i64 2]) ∧ Below w6.heap.size w6 w' by have hh := none_hear (some ⟨w.heap.size + 1 + 1, 0, none⟩) u s n c w6 HZ6.out; rw [HUc.out] at hh; exact hh)
    with_reducible refine HCn.out.mono ?_
    clear HCn
    rintro e w7 ⟨rfl, hb7⟩
    have HB7 := Lib.hid (HB6.out.trans (Below.mono hb7 HB6.out.size))
    have HA7 := Lib.hid (HA6.out.below hb7 HA6.out.lt)
    have HZ7 := Lib.hid (HZ6.out.later hb7)
    have HO7 := Lib.hid (HO6.out.below hb7 HO6.out.lt)
    clear hb7 HB6 HZ6 HO6 HA6
    go_wp2_with fail
    have HCn := Lib.hid (none_retrieve none 127 w7 (.inl rfl))
    with_reducible refine HCn.out.mono ?_
    clear HCn
    rintro e w8 ⟨rfl, q8, hq8⟩
    have hb8 : Below w7.heap.size w7 w8 := by rw [hq8]; exact below_draw w7 q8
    have HB8 := Lib.hid (HB7.out.trans (Below.mono hb8 HB7.out.size))
    have HA8 := Lib.hid (HA7.out.below hb8 HA7.out.lt)
    have HZ8 := Lib.hid (HZ7.out.later hb8)
    have HO8 := Lib.hid (HO7.out.below hb8 HO7.out.lt)
    clear hb8 hq8 HB7 HZ7 HO7 HA7
    go_wp2_with fail
    have HCn := Lib.hid (none_retrieve (some ⟨w.heap.size + 1 + 1, 0, none⟩) 0 w8 HZ8.out)
    with_reducible refine HCn.out.mono ?_
    clear HCn
    rintro e w9 ⟨rfl, q9, hq9⟩
    have hb9 : Below w8.heap.size w8 w9 := by rw [hq9]; exact below_draw w8 q9
    have HB9 := Lib.hid (HB8.out.trans (Below.mono hb9 HB8.out.size))
    have HA9 := Lib.hid (HA8.out.below hb9 HA8.out.lt)
    have HZ9 := Lib.hid (HZ8.out.later hb9)
    have HO9 := Lib.hid (HO8.out.below hb9 HO8.out.lt)
    clear hb9 hq9 HB8 HZ8 HO8 HA8
    go_wp2_with fail
    have HCn := Lib.hid (none_waiting none w9 (.inl rfl))
    with_reducible refine HCn.out.mono ?_
    clear HCn
    rintro e w10 ⟨rfl, q10, hq10⟩
    have hb10 : Below w9.heap.size w9 w10 := by rw [hq10]; exact below_draw w9 q10
    have HB10 := Lib.hid (HB9.out.trans (Below.mono hb10 HB9.out.size))
    have HA10 := Lib.hid (HA9.out.below hb10 HA9.out.lt)
    have HZ10 := Lib.hid (HZ9.out.later hb10)
    have HO10 := Lib.hid (HO9.out.below hb10 HO9.out.lt)
    clear hb10 hq10 HB9 HZ9 HO9 HA9
    go_wp2_with fail
    have HCn := Lib.hid (none_waiting (some ⟨w.heap.size + 1 + 1, 0, none⟩) w10 HZ10.out)
    with_reducible refine HCn.out.mono ?_
    clear HCn
    rintro e w11 ⟨rfl, q11, hq11⟩
    have hb11 : Below w10.heap.size w10 w11 := by rw [hq11]; exact below_draw w10 q11
    have HB11 := Lib.hid (HB10.out.trans (Below.mono hb11 HB10.out.size))
    have HA11 := Lib.hid (HA10.out.below hb11 HA10.out.lt)
    have HZ11 := Lib.hid (HZ10.out.later hb11)
    have HO11 := Lib.hid (HO10.out.below hb11 HO10.out.lt)
    clear hb11 hq11 HB10 HZ10 HO10 HA10
    go_wp2_with fail
    have HCn := Lib.hid (none_accept none (.slice la ln lc) w11 (.inl rfl))
    with_reducible refine HCn.out.mono ?_
    clear HCn
    rintro e w12 ⟨rfl, q12, hq12⟩
    have hb12 : Below w11.heap.size w11 w12 := by rw [hq12]; exact below_draw w11 q12
    have HB12 := Lib.hid (HB11.out.trans (Below.mono hb12 HB11.out.size))
    have HA12 := Lib.hid (HA11.out.below hb12 HA11.out.lt)
    have HZ12 := Lib.hid (HZ11.out.later hb12)
    have HO12 := Lib.hid (HO11.out.below hb12 HO11.out.lt)
    clear hb12 hq12 HB11 HZ11 HO11 HA11
    go_wp2_with fail
    have HCn := Lib.hid (none_accept (some ⟨w.heap.size + 1 + 1, 0, none⟩) (.slice la ln lc) w12 HZ12.out)
    with_reducible refine HCn.out.mono ?_
    clear HCn
    rintro e w13 ⟨rfl, q13, hq13⟩
    have hb13 : Below w12.heap.size w12 w13 := by rw [hq13]; exact below_draw w12 q13
    have HB13 := Lib.hid (HB12.out.trans (Below.mono hb13 HB12.out.size))
    have HA13 := Lib.hid (HA12.out.below hb13 HA12.out.lt)
    have HZ13 := Lib.hid (HZ12.out.later hb13)
    have HO13 := Lib.hid (HO12.out.below hb13 HO12.out.lt)
    clear hb13 hq13 HB12 HZ12 HO12 HA12
    go_wp2_with fail
    have HCn := Lib.hid (none_failed none w13 (.inl rfl))
    with_reducible refine HCn.out.mono ?_
    clear HCn
    rintro e w14 ⟨rfl, q14, hq14⟩
    have hb14 : Below w13.heap.size w13 w14 := by rw [hq14]; exact below_draw w13 q14
    have HB14 := Lib.hid (HB13.out.trans (Below.mono hb14 HB13.out.size))
    have HA14 := Lib.hid (HA13.out.below hb14 HA13.out.lt)
    have HZ14 := Lib.hid (HZ13.out.later hb14)
    have HO14 := Lib.hid (HO13.out.below hb14 HO13.out.lt)
    clear hb14 hq14 HB13 HZ13 HO13 HA13
    go_wp2_with fail
    have HCn := Lib.hid (none_failed (some ⟨w.heap.size + 1 + 1, 0, none⟩) w14 HZ14.out)
    with_reducible refine HCn.out.mono ?_
    clear HCn
    rintro e w15 ⟨rfl, q15, hq15⟩
    have hb15 : Below w14.heap.size w14 w15 := by rw [hq15]; exact below_draw w14 q15
    have HB15 := Lib.hid (HB14.out.trans (Below.mono hb15 HB14.out.size))
    have HA15 := Lib.hid (HA14.out.below hb15 HA14.out.lt)
    have HZ15 := Lib.hid (HZ14.out.later hb15)
    have HO15 := Lib.hid (HO14.out.below hb15 HO14.out.lt)
    clear hb15 hq15 HB14 HZ14 HO14 HA14
    go_wp2_with fail
    have HCn := Lib.hid (none_last none w15 (.inl rfl))
    with_reducible refine HCn.out.mono ?_
    clear HCn
    rintro e w16 ⟨rfl, q16, hq16⟩
    have hb16 : Below w15.heap.size w15 w16 := by rw [hq16]; exact below_draw w15 q16
    have HB16 := Lib.hid (HB15.out.trans (Below.mono hb16 HB15.out.size))
    have HA16 := Lib.hid (HA15.out.below hb16 HA15.out.lt)
    have HZ16 := Lib.hid (HZ15.out.later hb16)
    have HO16 := Lib.hid (HO15.out.below hb16 HO15.out.lt)
    clear hb16 hq16 HB15 HZ15 HO15 HA15
    go_wp2_with fail
    have HCn := Lib.hid (none_last (some ⟨w.heap.size + 1 + 1, 0, none⟩) w16 HZ16.out)
    with_reducible refine HCn.out.mono ?_
    clear HCn
    rintro e w17 ⟨rfl, q17, hq17⟩
    have hb17 : Below w16.heap.size w16 w17 := by rw [hq17]; exact below_draw w16 q17
    have HB17 := Lib.hid (HB16.out.trans (Below.mono hb17 HB16.out.size))
    have HA17 := Lib.hid (HA16.out.below hb17 HA16.out.lt)
    have HZ17 := Lib.hid (HZ16.out.later hb17)
    have HO17 := Lib.hid (HO16.out.below hb17 HO16.out.lt)
    clear hb17 hq17 HB16 HZ16 HO16 HA16
    have a0c := HA17.out.cell 0 (by simp)
    have a1c := HA17.out.cell 1 (by simp)
    simp only [List.getD_cons_succ, List.getD_cons_zero] at a0c a1c
    have hlt := HA17.out.lt
    go_wp2_with fail
    by_cases hlim : A < 1 ∨ 127 < A ∨ B < 1 ∨ 65535 < B
    · have HCn := Lib.hid (enew_bad w17 A B hlim)
      with_reducible refine HCn.out.mono ?_
      clear HCn
      rintro e w' ⟨rfl, hw'⟩
      subst w'
      by_cases p1 : A < 1
      · go_wp2_with fail
        with_reducible refine (HL.out _).mono ?_
        rintro e Wz ⟨rfl, hbz⟩
        have HBz := Lib.hid (HB17.out.trans (Below.mono hbz HB17.out.size))
        clear hbz
        go_wp2
        go_ret
        exact ⟨rfl, HBz.out⟩
      · have p1d : decide (A < 1) = false := decide_eq_false p1
        by_cases p2 : 127 < A
        · go_wp2_with fail
          with_reducible refine (HL.out _).mono ?_
          rintro e Wz ⟨rfl, hbz⟩
          have HBz := Lib.hid (HB17.out.trans (Below.mono hbz HB17.out.size))
          clear hbz
          go_wp2
          go_ret
          exact ⟨rfl, HBz.out⟩
        · have p2d : decide (127 < A) = false := decide_eq_false p2
          by_cases p3 : B < 1
          · go_wp2_with fail
            with_reducible refine (HL.out _).mono ?_
            rintro e Wz ⟨rfl, hbz⟩
            have HBz := Lib.hid (HB17.out.trans (Below.mono hbz HB17.out.size))
            clear hbz
            go_wp2
            go_ret
            exact ⟨rfl, HBz.out⟩
          · have p3d : decide (B < 1) = false := decide_eq_false p3
            have p4 : 65535 < B := by omega
            go_wp2_with fail
            with_reducible refine (HL.out _).mono ?_
            rintro e Wz ⟨rfl, hbz⟩
            have HBz := Lib.hid (HB17.out.trans (Below.mono hbz HB17.out.size))
            clear hbz
            go_wp2
            go_ret
            exact ⟨rfl, HBz.out⟩
    · have p1 : ¬ A < 1 := by omega
      have p2 : ¬ 127 < A := by omega
      have p3 : ¬ B < 1 := by omega
      have p4 : ¬ 65535 < B := by omega
      have p1d : decide (A < 1) = false := decide_eq_false p1
      have p2d : decide (127 < A) = false := decide_eq_false p2
      have p3d : decide (B < 1) = false := decide_eq_false p3
      have p4d : decide (65535 < B) = false := decide_eq_false p4
      have HCn := Lib.hid (fin_new w17 A B (by omega))
      with_reducible refine HCn.out.mono ?_
      clear HCn
      rintro e w18 ⟨rfl, hsz18, h18, hb18⟩
      have a0c := (HA17.out.below hb18 HA17.out.lt).cell 0 (by simp)
      have a1c := (HA17.out.below hb18 HA17.out.lt).cell 1 (by simp)
      simp only [List.getD_cons_succ, List.getD_cons_zero] at a0c a1c
      have hlt := HA17.out.lt
      have hbl := HO17.out.lt
      have hbw := HB17.out.size
      have hls : w.heap.size < w18.heap.size := by omega
      have HT18 := Lib.hid (fin_take (a := la) (n := ln) (c := lc) (l := ll) h18 (Nat.le_of_lt hsz18) (HLr.out.later (HB17.out.trans (Below.mono hb18 HB17.out.size))) hln)
      have HB18 := Lib.hid (HB17.out.trans (Below.mono hb18 HB17.out.size))
      have HO18 := Lib.hid (HO17.out.below hb18 hbl)
      clear h18 hb18 HB17 HO17 HZ17 HA17 hlim
      go_wp2_with fail
      obtain ⟨C, hC⟩ : ∃ C, C = chk 0 0 2 0 ln := ⟨_, rfl⟩
      have HC := Lib.hid hC
      have hCd : (C != C) = false := by simp
      clear hC a0c a1c p1 p2 p3 p4 p1d p2d p3d p4d hls hlt
      with_reducible refine HT18.out.mono ?_
      clear HT18
      rw [← HC.out]
      rintro e w19 ⟨rfl, h19, hb19⟩
      have HF19 := Lib.hid h19
      have HB19 := Lib.hid (HB18.out.trans (Below.mono hb19 hbw))
      have HO19 := Lib.hid (HO18.out.below hb19 hbl)
      have hsz19 : w17.heap.size < w19.heap.size := Nat.lt_of_lt_of_le hsz18 (by have := hb19.size; omega)
      clear h19 hb19 HB18 HO18 hsz18
      go_wp2_with fail
      have HCk := Lib.hid (ucheck_any 0 false 0 false 2 0 la ln lc w19 (by omega) (by omega) (by omega) (by omega) (by omega) (by omega) (by omega) (by omega) (by omega))
      rw [← HC.out] at HCk
      with_reducible refine HCk.out.mono ?_
      clear HCk
      rintro e w20 ⟨rfl, hb20⟩
      have HF20 := Lib.hid (HF19.out.later hb20)
      have HB20 := Lib.hid (HB19.out.trans (Below.mono hb20 HB19.out.size))
      have HO20 := Lib.hid (HO19.out.below hb20 HO19.out.lt)
      have hsz20 : w17.heap.size < w20.heap.size := Nat.lt_of_lt_of_le hsz19 hb20.size
      clear hb20 HF19 HB19 HO19 hsz19
      obtain ⟨c0, c1, c2, c3, c4, c5, c6⟩ := unit_cells HO20.out
      have hlt := HO20.out.lt
      go_wp2_with fail
      obtain ⟨C2, hC2⟩ : ∃ C2, C2 = chk (a0 : Int) (a2 : Int) (a4 : Int) (a5 : Int) n := ⟨_, rfl⟩
      obtain ⟨t0, t2, t4, t5⟩ := HBd.out
      have hck2 := ucheck_any (a0 : Int) b1 (a2 : Int) b3 (a4 : Int) (a5 : Int) s n c w20 (by omega) (by omega) (by omega) (by omega) (by omega) (by omega) (by omega) (by omega) (by omega)
      rw [← hC2] at hck2
      have HCk2 := Lib.hid hck2
      have HC2 := Lib.hid hC2
      clear hck2 hC2
      with_reducible refine HCk2.out.mono ?_
      clear HCk2
      rintro e w21 ⟨rfl, hb21⟩
      clear c0 c1 c2 c3 c4 c5 c6 hlt
      have HF21 := Lib.hid (HF20.out.later hb21)
      have HB21 := Lib.hid (HB20.out.trans (Below.mono hb21 HB20.out.size))
      have HO21 := Lib.hid (HO20.out.below hb21 HO20.out.lt)
      have hsz21 : w17.heap.size < w21.heap.size := Nat.lt_of_lt_of_le hsz20 hb21.size
      clear hb21 HF20 HB20 HO20 hsz20
      obtain ⟨c0, c1, c2, c3, c4, c5, c6⟩ := unit_cells HO21.out
      have hlt := HO21.out.lt
      by_cases hC20 : C2 = 0
      · have hcb : (C2 != 0) = false := by simp [hC20]
        have HC20 := Lib.hid hC20
        clear hC20
        go_wp2_with fail
        have hT : ((128 + a0 % 128 : Nat) : Int) = 128 + (a0 : Int) % 128 := by omega
        have HR := Lib.hid (fin_retr (128 + a0 % 128) HF21.out (by omega) (.inl (by omega)))
        rw [hT] at HR
        clear hT
        with_reducible refine HR.out.mono ?_
        clear HR
        rintro e w22 ⟨rfl, q22, hq22⟩
        have hb22 : Below w21.heap.size w21 w22 := by rw [hq22]; exact below_draw w21 q22
        clear hq22 c0 c1 c2 c3 c4 c5 c6 hlt
        have HF22 := Lib.hid (HF21.out.later hb22)
        have HB22 := Lib.hid (HB21.out.trans (Below.mono hb22 HB21.out.size))
        have HO22 := Lib.hid (HO21.out.below hb22 HO21.out.lt)
        have hsz22 : w17.heap.size < w22.heap.size := Nat.lt_of_lt_of_le hsz21 hb22.size
        clear hb22 HF21 HB21 HO21 hsz21
        go_wp2_with fail
        have hR0 : Calls Try.prog 23 #[.pointer (some ⟨w17.heap.size, 0, none⟩), .int .u8 0] w22 fun e w' => e = .returned (.tuple #[.slice none 0 0, .int .i64 1]) ∧ ∃ q, w' = w22.drewN q := fin_retr 0 HF22.out (by omega) (.inr rfl)
        have HR := Lib.hid hR0
        clear hR0
        with_reducible refine HR.out.mono ?_
        clear HR
        rintro e w23 ⟨rfl, q23, hq23⟩
        have hb23 : Below w22.heap.size w22 w23 := by rw [hq23]; exact below_draw w22 q23
        clear hq23
        have HF23 := Lib.hid (HF22.out.later hb23)
        have HB23 := Lib.hid (HB22.out.trans (Below.mono hb23 HB22.out.size))
        have HO23 := Lib.hid (HO22.out.below hb23 HO22.out.lt)
        have hsz23 : w17.heap.size < w23.heap.size := Nat.lt_of_lt_of_le hsz22 hb23.size
        clear hb23 HF22 HB22 HO22 hsz22
        obtain ⟨w24, hw24⟩ : ∃ X, X = w23.alloc (.cells #[.int .u8 3, .bool false, .int .u8 0, .bool false, .int .u8 0, .int .u8 0, .slice none 0 0] 45) := ⟨_, rfl⟩
        have hb24 : Below w23.heap.size w23 w24 := by rw [hw24]; exact below_alloc _ _
        have ow : Own w24 w23.heap.size 45 [.int .u8 3, .bool false, .int .u8 0, .bool false, .int .u8 0, .int .u8 0, .slice none 0 0] := by rw [hw24]; exact own_lit w23 _ _ _ rfl
        have hne : w23.heap.size ≠ w17.heap.size := by omega
        have Hw := Lib.hid hw24
        have HW24 := Lib.hid ow
        clear hw24 ow
        have HF24 := Lib.hid (HF23.out.later hb24)
        have HB24 := Lib.hid (HB23.out.trans (Below.mono hb24 HB23.out.size))
        have HO24 := Lib.hid (HO23.out.below hb24 HO23.out.lt)
        have hsz24 : w17.heap.size < w24.heap.size := Nat.lt_of_lt_of_le hsz23 hb24.size
        clear hb24 HF23 HB23 HO23 hsz23
        go_wp2_with fail
        rw [← Hw.out]
        have HCn := Lib.hid (fin_wrong1 HF24.out)
        with_reducible refine HCn.out.mono ?_
        clear HCn
        rintro e w25 ⟨⟨v25, rfl⟩, h25, hx25⟩
        have HF25 := Lib.hid h25
        have HB25 := Lib.hid (HB24.out.trans (hx25.below (B := w.heap.size) HB24.out.size (fun z _ hz => by omega)))
        have HW25 := Lib.hid (HW24.out.exc hx25 hne)
        have hsz25 : w17.heap.size < w25.heap.size := Nat.lt_of_lt_of_le hsz24 hx25.size
        clear h25 hx25 HF24 HB24 HO24 HW24 hsz24
        go_wp2_with fail
        have HCn := Lib.hid (fin_state HF25.out)
        with_reducible refine HCn.out.mono ?_
        clear HCn
        rintro e w26 ⟨rfl, hb26⟩
        have HF26 := Lib.hid (HF25.out.later hb26)
        have HB26 := Lib.hid (HB25.out.trans (Below.mono hb26 HB25.out.size))
        have HW26 := Lib.hid (HW25.out.below hb26 HW25.out.lt)
        have hsz26 : w17.heap.size < w26.heap.size := Nat.lt_of_lt_of_le hsz25 hb26.size
        clear hb26 HF25 HB25 HW25 hsz25
        obtain ⟨c0, c1, c2, c3, c4, c5, c6⟩ := unit_cells HW26.out
        have hlt := HW26.out.lt
        go_wp2_with fail
        have HCn := Lib.hid (fin_wrong2 HF26.out)
        with_reducible refine HCn.out.mono ?_
        clear HCn
        rintro e w27 ⟨⟨v27, rfl⟩, h27, hx27⟩
        have HF27 := Lib.hid h27
        have HB27 := Lib.hid (HB26.out.trans (hx27.below (B := w.heap.size) HB26.out.size (fun z _ hz => by omega)))
        clear h27 hx27 HF26 HB26 HW26 hsz26 c0 c1 c2 c3 c4 c5 c6 hlt
        go_wp2_with fail
        have HCn := Lib.hid (fin_next HF27.out)
        with_reducible refine HCn.out.mono ?_
        clear HCn
        rintro e w28 ⟨rfl, hb28⟩
        have HF28 := Lib.hid (HF27.out.later hb28)
        have HB28 := Lib.hid (HB27.out.trans (Below.mono hb28 HB27.out.size))
        clear hb28 HF27 HB27
        go_wp2_with fail
        obtain ⟨wy, hwy⟩ : ∃ X, X = w28.alloc (.cells #[.int .u8 0, .bool false, .int .u8 0, .bool false, .int .u8 0, .int .u8 0, .slice none 0 0] 45) := ⟨_, rfl⟩
        rw [← hwy]
        have hby : Below w28.heap.size w28 wy := by rw [hwy]; exact below_alloc _ _
        have HFy := Lib.hid (HF28.out.later hby)
        have HBy := Lib.hid (HB28.out.trans (Below.mono hby HB28.out.size))
        clear hby hwy HF28 HB28
        have HCn := Lib.hid (fin_failed HFy.out)
        with_reducible refine HCn.out.mono ?_
        clear HCn
        rintro e wx ⟨rfl, qx, hqx⟩
        have hbx : Below wy.heap.size wy wx := by rw [hqx]; exact below_draw wy qx
        have HFx := Lib.hid (HFy.out.later hbx)
        have HBx := Lib.hid (HBy.out.trans (Below.mono hbx HBy.out.size))
        clear hbx hqx HFy HBy
        go_wp2_with fail
        have HCn := Lib.hid (fin_accept (.slice la ln lc) HFx.out)
        with_reducible refine HCn.out.mono ?_
        clear HCn
        rintro e wv ⟨rfl, qv, hqv⟩
        have hbv : Below wx.heap.size wx wv := by rw [hqv]; exact below_draw wx qv
        have HBv := Lib.hid (HBx.out.trans (Below.mono hbv HBx.out.size))
        clear hbv hqv HFx HBx
        go_wp2_with fail
        with_reducible refine (HL.out _).mono ?_
        rintro e Wz ⟨rfl, hbz⟩
        have HBz := Lib.hid (HBv.out.trans (Below.mono hbz HBv.out.size))
        clear hbz
        go_wp2
        go_ret
        exact ⟨rfl, HBz.out⟩
      · have hcb : (C2 != 0) = true := by simp [hC20]
        have hfh := fin_hear (u := u) (s := s) (n := n) (c := c) HF21.out (by rw [HUe.out]; show a0 < 256; omega) (by rw [HUe.out]; show a2 < 256; omega) (by rw [HUe.out]; show a4 < 256; omega) (by rw [HUe.out]; show a5 < 256; omega) (by omega) (.inl (by rw [HUe.out]; show chk (a0 : Int) (a2 : Int) (a4 : Int) (a5 : Int) n ≠ 0; rw [← HC2.out]; exact hC20))
        have hcc : chk (u.back : Int) (u.fore : Int) (u.kind : Int) (u.state : Int) n = C2 := by rw [HUe.out, HC2.out]
        rw [hcc, HUc.out] at hfh
        have HFh := Lib.hid hfh
        have HC20 := Lib.hid hC20
        have heq : (C2 != C2) = false := by simp
        clear hfh hcc hC20
        go_wp2_with fail
        with_reducible refine HFh.out.mono ?_
        clear HFh
        rintro e w22 ⟨rfl, hb22⟩
        clear c0 c1 c2 c3 c4 c5 c6 hlt
        have HF22 := Lib.hid (HF21.out.later hb22)
        have HB22 := Lib.hid (HB21.out.trans (Below.mono hb22 HB21.out.size))
        have HO22 := Lib.hid (HO21.out.below hb22 HO21.out.lt)
        have hsz22 : w17.heap.size < w22.heap.size := Nat.lt_of_lt_of_le hsz21 hb22.size
        clear hb22 HF21 HB21 HO21 hsz21
        obtain ⟨c0, c1, c2, c3, c4, c5, c6⟩ := unit_cells HO22.out
        have hlt := HO22.out.lt
        go_wp2_with fail
        have hT : ((128 + a0 % 128 : Nat) : Int) = 128 + (a0 : Int) % 128 := by omega
        have HR := Lib.hid (fin_retr (128 + a0 % 128) HF22.out (by omega) (.inl (by omega)))
        rw [hT] at HR
        clear hT
        with_reducible refine HR.out.mono ?_
        clear HR
        rintro e w23 ⟨rfl, q23, hq23⟩
        have hb23 : Below w22.heap.size w22 w23 := by rw [hq23]; exact below_draw w22 q23
        clear hq23 c0 c1 c2 c3 c4 c5 c6 hlt
        have HF23 := Lib.hid (HF22.out.later hb23)
        have HB23 := Lib.hid (HB22.out.trans (Below.mono hb23 HB22.out.size))
        have HO23 := Lib.hid (HO22.out.below hb23 HO22.out.lt)
        have hsz23 : w17.heap.size < w23.heap.size := Nat.lt_of_lt_of_le hsz22 hb23.size
        clear hb23 HF22 HB22 HO22 hsz22
        go_wp2_with fail
        have hR0 : Calls Try.prog 23 #[.pointer (some ⟨w17.heap.size, 0, none⟩), .int .u8 0] w23 fun e w' => e = .returned (.tuple #[.slice none 0 0, .int .i64 1]) ∧ ∃ q, w' = w23.drewN q := fin_retr 0 HF23.out (by omega) (.inr rfl)
        have HR := Lib.hid hR0
        clear hR0
        with_reducible refine HR.out.mono ?_
        clear HR
        rintro e w24 ⟨rfl, q24, hq24⟩
        have hb24 : Below w23.heap.size w23 w24 := by rw [hq24]; exact below_draw w23 q24
        clear hq24
        have HF24 := Lib.hid (HF23.out.later hb24)
        have HB24 := Lib.hid (HB23.out.trans (Below.mono hb24 HB23.out.size))
        have HO24 := Lib.hid (HO23.out.below hb24 HO23.out.lt)
        have hsz24 : w17.heap.size < w24.heap.size := Nat.lt_of_lt_of_le hsz23 hb24.size
        clear hb24 HF23 HB23 HO23 hsz23
        obtain ⟨w25, hw25⟩ : ∃ X, X = w24.alloc (.cells #[.int .u8 3, .bool false, .int .u8 0, .bool false, .int .u8 0, .int .u8 0, .slice none 0 0] 45) := ⟨_, rfl⟩
        have hb25 : Below w24.heap.size w24 w25 := by rw [hw25]; exact below_alloc _ _
        have ow : Own w25 w24.heap.size 45 [.int .u8 3, .bool false, .int .u8 0, .bool false, .int .u8 0, .int .u8 0, .slice none 0 0] := by rw [hw25]; exact own_lit w24 _ _ _ rfl
        have hne : w24.heap.size ≠ w17.heap.size := by omega
        have Hw := Lib.hid hw25
        have HW25 := Lib.hid ow
        clear hw25 ow
        have HF25 := Lib.hid (HF24.out.later hb25)
        have HB25 := Lib.hid (HB24.out.trans (Below.mono hb25 HB24.out.size))
        have HO25 := Lib.hid (HO24.out.below hb25 HO24.out.lt)
        have hsz25 : w17.heap.size < w25.heap.size := Nat.lt_of_lt_of_le hsz24 hb25.size
        clear hb25 HF24 HB24 HO24 hsz24
        go_wp2_with fail
        rw [← Hw.out]
        have HCn := Lib.hid (fin_wrong1 HF25.out)
        with_reducible refine HCn.out.mono ?_
        clear HCn
        rintro e w26 ⟨⟨v26, rfl⟩, h26, hx26⟩
        have HF26 := Lib.hid h26
        have HB26 := Lib.hid (HB25.out.trans (hx26.below (B := w.heap.size) HB25.out.size (fun z _ hz => by omega)))
        have HW26 := Lib.hid (HW25.out.exc hx26 hne)
        have hsz26 : w17.heap.size < w26.heap.size := Nat.lt_of_lt_of_le hsz25 hx26.size
        clear h26 hx26 HF25 HB25 HO25 HW25 hsz25
        go_wp2_with fail
        have HCn := Lib.hid (fin_state HF26.out)
        with_reducible refine HCn.out.mono ?_
        clear HCn
        rintro e w27 ⟨rfl, hb27⟩
        have HF27 := Lib.hid (HF26.out.later hb27)
        have HB27 := Lib.hid (HB26.out.trans (Below.mono hb27 HB26.out.size))
        have HW27 := Lib.hid (HW26.out.below hb27 HW26.out.lt)
        have hsz27 : w17.heap.size < w27.heap.size := Nat.lt_of_lt_of_le hsz26 hb27.size
        clear hb27 HF26 HB26 HW26 hsz26
        obtain ⟨c0, c1, c2, c3, c4, c5, c6⟩ := unit_cells HW27.out
        have hlt := HW27.out.lt
        go_wp2_with fail
        have HCn := Lib.hid (fin_wrong2 HF27.out)
        with_reducible refine HCn.out.mono ?_
        clear HCn
        rintro e w28 ⟨⟨v28, rfl⟩, h28, hx28⟩
        have HF28 := Lib.hid h28
        have HB28 := Lib.hid (HB27.out.trans (hx28.below (B := w.heap.size) HB27.out.size (fun z _ hz => by omega)))
        clear h28 hx28 HF27 HB27 HW27 hsz27 c0 c1 c2 c3 c4 c5 c6 hlt
        go_wp2_with fail
        have HCn := Lib.hid (fin_next HF28.out)
        with_reducible refine HCn.out.mono ?_
        clear HCn
        rintro e w29 ⟨rfl, hb29⟩
        have HF29 := Lib.hid (HF28.out.later hb29)
        have HB29 := Lib.hid (HB28.out.trans (Below.mono hb29 HB28.out.size))
        clear hb29 HF28 HB28
        go_wp2_with fail
        obtain ⟨wy, hwy⟩ : ∃ X, X = w29.alloc (.cells #[.int .u8 0, .bool false, .int .u8 0, .bool false, .int .u8 0, .int .u8 0, .slice none 0 0] 45) := ⟨_, rfl⟩
        rw [← hwy]
        have hby : Below w29.heap.size w29 wy := by rw [hwy]; exact below_alloc _ _
        have HFy := Lib.hid (HF29.out.later hby)
        have HBy := Lib.hid (HB29.out.trans (Below.mono hby HB29.out.size))
        clear hby hwy HF29 HB29
        have HCn := Lib.hid (fin_failed HFy.out)
        with_reducible refine HCn.out.mono ?_
        clear HCn
        rintro e wx ⟨rfl, qx, hqx⟩
        have hbx : Below wy.heap.size wy wx := by rw [hqx]; exact below_draw wy qx
        have HFx := Lib.hid (HFy.out.later hbx)
        have HBx := Lib.hid (HBy.out.trans (Below.mono hbx HBy.out.size))
        clear hbx hqx HFy HBy
        go_wp2_with fail
        have HCn := Lib.hid (fin_accept (.slice la ln lc) HFx.out)
        with_reducible refine HCn.out.mono ?_
        clear HCn
        rintro e wv ⟨rfl, qv, hqv⟩
        have hbv : Below wx.heap.size wx wv := by rw [hqv]; exact below_draw wx qv
        have HBv := Lib.hid (HBx.out.trans (Below.mono hbv HBx.out.size))
        clear hbv hqv HFx HBx
        go_wp2_with fail
        with_reducible refine (HL.out _).mono ?_
        rintro e Wz ⟨rfl, hbz⟩
        have HBz := Lib.hid (HBv.out.trans (Below.mono hbz HBv.out.size))
        clear hbz
        go_wp2
        go_ret
        exact ⟨rfl, HBz.out⟩
end Go.Proofs.Ytpggiajpjnegkaa
