/- Statement text: BasicsErrors. -/
import Derived.Test.YtfoliplejhoaeaaEaNone
namespace Go.Proofs.Ytfoliplejhoaeaa
open Go.RowKit

set_option maxHeartbeats 8000000 in
set_option maxRecDepth 100000 in
theorem errors_any (hl : LivesOk) (w : World) (la : Option Addr) (ln lc : Nat) (ll : List Int) (a0 a2 a4 a5 : Nat) (b1 b3 : Bool) (s : Option Addr) (n c : Nat) (l : List Int) (hL : Row .u8 w la ln lc ll) (hU : Row .u8 w s n c l) (h0 : a0 ≤ 255) (h2 : a2 ≤ 255) (h4 : a4 ≤ 255) (h5 : a5 ≤ 255)
    (hfz : ∀ b o, la = some ⟨b, o, none⟩ → ∀ i, i < ln → w.frozen? ⟨b, o + i, none⟩ = false) :
    Calls Try.prog 8 #[.slice la ln lc, .agg #[.int .u8 (a0 : Int), .bool b1, .int .u8 (a2 : Int), .bool b3, .int .u8 (a4 : Int), .int .u8 (a5 : Int), .slice s n c]] w fun e w' => e = .returned (.bool true) ∧ Below w.heap.size w w' := by
  have hlle := hL.le
  have hlmx := hL.max
  have hule := hU.le
  have humx := hU.max
  unfold maxLen at hlmx humx
  obtain ⟨u, hu⟩ : ∃ u : Un, u = ⟨a0, b1, a2, b3, a4, a5, l⟩ := ⟨_, rfl⟩
  have huc : unCells u s n c = [.int .u8 (a0 : Int), .bool b1, .int .u8 (a2 : Int), .bool b3, .int .u8 (a4 : Int), .int .u8 (a5 : Int), .slice s n c] := by rw [hu]; rfl
  have HL := Lib.hid hl
  have HLr := Lib.hid hL
  have HUr := Lib.hid hU
  have HFz := Lib.hid hfz
  have HUc := Lib.hid huc
  have HUe := Lib.hid hu
  have HBd := Lib.hid (And.intro h0 (And.intro h2 (And.intro h4 h5)))
  obtain ⟨W0, hW0⟩ : ∃ X, X = w.alloc (.cells #[.int .u8 (a0 : Int), .bool b1, .int .u8 (a2 : Int), .bool b3, .int .u8 (a4 : Int), .int .u8 (a5 : Int), .slice s n c] 41) := ⟨_, rfl⟩
  have hb0 : Below w.heap.size w W0 := by rw [hW0]; exact below_alloc _ _
  have ou0 : Own W0 w.heap.size 41 [.int .u8 (a0 : Int), .bool b1, .int .u8 (a2 : Int), .bool b3, .int .u8 (a4 : Int), .int .u8 (a5 : Int), .slice s n c] := by rw [hW0]; exact own_lit w _ _ _ rfl
  have HW0 := Lib.hid hW0
  have HB0 := Lib.hid hb0
  have HO0 := Lib.hid ou0
  have v6 := ou0.cell 6 (by simp)
  simp only [List.getD_cons_succ, List.getD_cons_zero] at v6
  clear hl hL hU hfz huc hu h0 h2 h4 h5 hW0 hb0 ou0
  go_enter Try.func8, Try.ntmps8
  by_cases hbig : 400 < ln ∨ 400 < n
  · by_cases hln : 400 < ln
    · have hli : (400 : Int) < (ln : Int) := by omega
      go_wp2_with fail
      rw [← HW0.out]
      refine (HL.out _).mono ?_
      rintro e w1 ⟨rfl, hb⟩
      have HB := Lib.hid (HB0.out.trans (Below.mono hb HB0.out.size))
      clear hb
      go_wp2
      go_ret
      exact ⟨rfl, HB.out⟩
    · have hli : ¬ (400 : Int) < (ln : Int) := by omega
      have hld : decide ((400 : Int) < (ln : Int)) = false := decide_eq_false hli
      have hni : (400 : Int) < (n : Int) := by omega
      go_wp2_with fail
      rw [← HW0.out]
      refine (HL.out _).mono ?_
      rintro e w1 ⟨rfl, hb⟩
      have HB := Lib.hid (HB0.out.trans (Below.mono hb HB0.out.size))
      clear hb
      go_wp2
      go_ret
      exact ⟨rfl, HB.out⟩
  · have hln : ln ≤ 400 := by omega
    have hn : n ≤ 400 := by omega
    have hli : ¬ (400 : Int) < (ln : Int) := by omega
    have hld : decide ((400 : Int) < (ln : Int)) = false := decide_eq_false hli
    have hni : ¬ (400 : Int) < (n : Int) := by omega
    obtain ⟨W1, hW1⟩ : ∃ X, X = W0.alloc (.cells #[.slice none 0 0, .slice none 0 0, .int .i64 0, .int .u8 0, .bool false, .int .u8 0, .bool false, .bool false, .bool false, .bool false, .bool false] 80) := ⟨_, rfl⟩
    have hb1 : Below W0.heap.size W0 W1 := by rw [hW1]; exact below_alloc _ _
    have e01 : W0.heap.size = w.heap.size + 1 := by rw [HW0.out]; simp
    have oz1 : Own W1 W0.heap.size 80 [.slice none 0 0, .slice none 0 0, .int .i64 0, .int .u8 0, .bool false, .int .u8 0, .bool false, .bool false, .bool false, .bool false, .bool false] := by rw [hW1]; exact own_lit W0 _ _ _ rfl
    rw [e01] at oz1
    have hz : NoneAt W1 (some ⟨w.heap.size + 1, 0, none⟩) := .inr ⟨_, rfl, oz1.cell 7 (by simp)⟩
    have ou1 := HO0.out.below hb1 HO0.out.lt
    have HW1 := Lib.hid hW1
    have HB1 := Lib.hid (HB0.out.trans (Below.mono hb1 HB0.out.size))
    have HZ1 := Lib.hid hz
    have HO1 := Lib.hid ou1
    clear hW1 hb1 hz ou1 hbig oz1 e01
    go_wp2_with fail
    rw [← HW0.out, ← HW1.out]
    have HCn := Lib.hid (none_next none W1 (.inl rfl))
    with_reducible refine HCn.out.mono ?_
    clear HCn
    rintro e w2 ⟨rfl, hb2⟩
    have HB2 := Lib.hid (HB1.out.trans (Below.mono hb2 HB1.out.size))
    have HZ2 := Lib.hid (HZ1.out.later hb2)
    have HO2 := Lib.hid (HO1.out.below hb2 HO1.out.lt)
    clear hb2 HB1 HZ1 HO1
    go_wp2_with fail
    obtain ⟨w3, hw3⟩ : ∃ X, X = w2.alloc (.cells #[.int .u8 0, .bool false, .int .u8 0, .bool false, .int .u8 0, .int .u8 0, .slice none 0 0] 41) := ⟨_, rfl⟩
    rw [← hw3]
    have hb3 : Below w2.heap.size w2 w3 := by rw [hw3]; exact below_alloc _ _
    have HB3 := Lib.hid (HB2.out.trans (Below.mono hb3 HB2.out.size))
    have HZ3 := Lib.hid (HZ2.out.later hb3)
    have HO3 := Lib.hid (HO2.out.below hb3 HO2.out.lt)
    clear hb3 hw3 HB2 HZ2 HO2
    have HCn := Lib.hid (none_next (some ⟨w.heap.size + 1, 0, none⟩) w3 HZ3.out)
    with_reducible refine HCn.out.mono ?_
    clear HCn
    rintro e w4 ⟨rfl, hb4⟩
    have HB4 := Lib.hid (HB3.out.trans (Below.mono hb4 HB3.out.size))
    have HZ4 := Lib.hid (HZ3.out.later hb4)
    have HO4 := Lib.hid (HO3.out.below hb4 HO3.out.lt)
    clear hb4 HB3 HZ3 HO3
    obtain ⟨c0, c1, c2, c3, c4, c5, c6⟩ := unit_cells HO4.out
    have hlt := HO4.out.lt
    go_wp2_with fail
    obtain ⟨w5, hw5⟩ : ∃ X, X = w4.alloc (.cells #[.int .u8 0, .bool false, .int .u8 0, .bool false, .int .u8 0, .int .u8 0, .slice none 0 0] 41) := ⟨_, rfl⟩
    rw [← hw5]
    have hb5 : Below w4.heap.size w4 w5 := by rw [hw5]; exact below_alloc _ _
    have HB5 := Lib.hid (HB4.out.trans (Below.mono hb5 HB4.out.size))
    have HZ5 := Lib.hid (HZ4.out.later hb5)
    have HO5 := Lib.hid (HO4.out.below hb5 HO4.out.lt)
    clear hb5 hw5 HB4 HZ4 HO4
    clear c0 c1 c2 c3 c4 c5 c6 hlt
    have HCn := Lib.hid (show Calls Try.prog 19 #[.pointer none, .agg #[.int .u8 (a0 : Int), .bool b1, .int .u8 (a2 : Int), .bool b3, .int .u8 (a4 : Int), .int .u8 (a5 : Int), .slice s n c]] w5 fun e w' => e = .returned (.tuple #[.slice none 0 0, .int .i64 2]) ∧ Below w5.heap.size w5 w' by have hh := none_hear none u s n c w5 (.inl rfl); rw [HUc.out] at hh; exact hh)
    with_reducible refine HCn.out.mono ?_
    clear HCn
    rintro e w6 ⟨rfl, hb6⟩
    have HB6 := Lib.hid (HB5.out.trans (Below.mono hb6 HB5.out.size))
    have HZ6 := Lib.hid (HZ5.out.later hb6)
    have HO6 := Lib.hid (HO5.out.below hb6 HO5.out.lt)
    clear hb6 HB5 HZ5 HO5
    obtain ⟨c0, c1, c2, c3, c4, c5, c6⟩ := unit_cells HO6.out
    have hlt := HO6.out.lt
    go_wp2_with fail
    clear c0 c1 c2 c3 c4 c5 c6 hlt
    have HCn := Lib.hid (show Calls Try.prog 19 #[.pointer (some ⟨w.heap.size + 1, 0, none⟩), .agg #[.int .u8 (a0 : Int), .bool b1, .int .u8 (a2 : Int), .bool b3, .int .u8 (a4 : Int), .int .u8 (a5 : Int), .slice s n c]] w6 fun e w' => e = .returned (.tuple #[.slice none 0 0, .int .i64 2]) ∧ Below w6.heap.size w6 w' by have hh := none_hear (some ⟨w.heap.size + 1, 0, none⟩) u s n c w6 HZ6.out; rw [HUc.out] at hh; exact hh)
    with_reducible refine HCn.out.mono ?_
    clear HCn
    rintro e w7 ⟨rfl, hb7⟩
    have HB7 := Lib.hid (HB6.out.trans (Below.mono hb7 HB6.out.size))
    have HZ7 := Lib.hid (HZ6.out.later hb7)
    have HO7 := Lib.hid (HO6.out.below hb7 HO6.out.lt)
    clear hb7 HB6 HZ6 HO6
    go_wp2_with fail
    have HCn := Lib.hid (none_retrieve none 127 w7 (.inl rfl))
    with_reducible refine HCn.out.mono ?_
    clear HCn
    rintro e w8 ⟨rfl, q8, hq8⟩
    have hb8 : Below w7.heap.size w7 w8 := by rw [hq8]; exact below_draw w7 q8
    have HB8 := Lib.hid (HB7.out.trans (Below.mono hb8 HB7.out.size))
    have HZ8 := Lib.hid (HZ7.out.later hb8)
    have HO8 := Lib.hid (HO7.out.below hb8 HO7.out.lt)
    clear hb8 hq8 HB7 HZ7 HO7
    go_wp2_with fail
    have HCn := Lib.hid (none_retrieve (some ⟨w.heap.size + 1, 0, none⟩) 0 w8 HZ8.out)
    with_reducible refine HCn.out.mono ?_
    clear HCn
    rintro e w9 ⟨rfl, q9, hq9⟩
    have hb9 : Below w8.heap.size w8 w9 := by rw [hq9]; exact below_draw w8 q9
    have HB9 := Lib.hid (HB8.out.trans (Below.mono hb9 HB8.out.size))
    have HZ9 := Lib.hid (HZ8.out.later hb9)
    have HO9 := Lib.hid (HO8.out.below hb9 HO8.out.lt)
    clear hb9 hq9 HB8 HZ8 HO8
    go_wp2_with fail
    have HCn := Lib.hid (none_waiting none w9 (.inl rfl))
    with_reducible refine HCn.out.mono ?_
    clear HCn
    rintro e w10 ⟨rfl, q10, hq10⟩
    have hb10 : Below w9.heap.size w9 w10 := by rw [hq10]; exact below_draw w9 q10
    have HB10 := Lib.hid (HB9.out.trans (Below.mono hb10 HB9.out.size))
    have HZ10 := Lib.hid (HZ9.out.later hb10)
    have HO10 := Lib.hid (HO9.out.below hb10 HO9.out.lt)
    clear hb10 hq10 HB9 HZ9 HO9
    go_wp2_with fail
    have HCn := Lib.hid (none_waiting (some ⟨w.heap.size + 1, 0, none⟩) w10 HZ10.out)
    with_reducible refine HCn.out.mono ?_
    clear HCn
    rintro e w11 ⟨rfl, q11, hq11⟩
    have hb11 : Below w10.heap.size w10 w11 := by rw [hq11]; exact below_draw w10 q11
    have HB11 := Lib.hid (HB10.out.trans (Below.mono hb11 HB10.out.size))
    have HZ11 := Lib.hid (HZ10.out.later hb11)
    have HO11 := Lib.hid (HO10.out.below hb11 HO10.out.lt)
    clear hb11 hq11 HB10 HZ10 HO10
    go_wp2_with fail
    have HCn := Lib.hid (none_accept none (.slice la ln lc) w11 (.inl rfl))
    with_reducible refine HCn.out.mono ?_
    clear HCn
    rintro e w12 ⟨rfl, q12, hq12⟩
    have hb12 : Below w11.heap.size w11 w12 := by rw [hq12]; exact below_draw w11 q12
    have HB12 := Lib.hid (HB11.out.trans (Below.mono hb12 HB11.out.size))
    have HZ12 := Lib.hid (HZ11.out.later hb12)
    have HO12 := Lib.hid (HO11.out.below hb12 HO11.out.lt)
    clear hb12 hq12 HB11 HZ11 HO11
    go_wp2_with fail
    have HCn := Lib.hid (none_accept (some ⟨w.heap.size + 1, 0, none⟩) (.slice la ln lc) w12 HZ12.out)
    with_reducible refine HCn.out.mono ?_
    clear HCn
    rintro e w13 ⟨rfl, q13, hq13⟩
    have hb13 : Below w12.heap.size w12 w13 := by rw [hq13]; exact below_draw w12 q13
    have HB13 := Lib.hid (HB12.out.trans (Below.mono hb13 HB12.out.size))
    have HZ13 := Lib.hid (HZ12.out.later hb13)
    have HO13 := Lib.hid (HO12.out.below hb13 HO12.out.lt)
    clear hb13 hq13 HB12 HZ12 HO12
    go_wp2_with fail
    have HCn := Lib.hid (none_failed none w13 (.inl rfl))
    with_reducible refine HCn.out.mono ?_
    clear HCn
    rintro e w14 ⟨rfl, q14, hq14⟩
    have hb14 : Below w13.heap.size w13 w14 := by rw [hq14]; exact below_draw w13 q14
    have HB14 := Lib.hid (HB13.out.trans (Below.mono hb14 HB13.out.size))
    have HZ14 := Lib.hid (HZ13.out.later hb14)
    have HO14 := Lib.hid (HO13.out.below hb14 HO13.out.lt)
    clear hb14 hq14 HB13 HZ13 HO13
    go_wp2_with fail
    have HCn := Lib.hid (none_failed (some ⟨w.heap.size + 1, 0, none⟩) w14 HZ14.out)
    with_reducible refine HCn.out.mono ?_
    clear HCn
    rintro e w15 ⟨rfl, q15, hq15⟩
    have hb15 : Below w14.heap.size w14 w15 := by rw [hq15]; exact below_draw w14 q15
    have HB15 := Lib.hid (HB14.out.trans (Below.mono hb15 HB14.out.size))
    have HZ15 := Lib.hid (HZ14.out.later hb15)
    have HO15 := Lib.hid (HO14.out.below hb15 HO14.out.lt)
    clear hb15 hq15 HB14 HZ14 HO14
    go_wp2_with fail
    have HCn := Lib.hid (none_last none w15 (.inl rfl))
    with_reducible refine HCn.out.mono ?_
    clear HCn
    rintro e w16 ⟨rfl, q16, hq16⟩
    have hb16 : Below w15.heap.size w15 w16 := by rw [hq16]; exact below_draw w15 q16
    have HB16 := Lib.hid (HB15.out.trans (Below.mono hb16 HB15.out.size))
    have HZ16 := Lib.hid (HZ15.out.later hb16)
    have HO16 := Lib.hid (HO15.out.below hb16 HO15.out.lt)
    clear hb16 hq16 HB15 HZ15 HO15
    go_wp2_with fail
    have HCn := Lib.hid (none_last (some ⟨w.heap.size + 1, 0, none⟩) w16 HZ16.out)
    with_reducible refine HCn.out.mono ?_
    clear HCn
    rintro e w17 ⟨rfl, q17, hq17⟩
    have hb17 : Below w16.heap.size w16 w17 := by rw [hq17]; exact below_draw w16 q17
    have HB17 := Lib.hid (HB16.out.trans (Below.mono hb17 HB16.out.size))
    have HZ17 := Lib.hid (HZ16.out.later hb17)
    have HO17 := Lib.hid (HO16.out.below hb17 HO16.out.lt)
    clear hb17 hq17 HB16 HZ16 HO16
    go_wp2_with fail
    have hbl17 := HO17.out.lt
    have hnw := enew_any w17
    have HNw := Lib.hid hnw
    clear hnw
    with_reducible refine HNw.out.mono ?_
    clear HNw
    rintro e w18 ⟨rfl, h18, hb18⟩
    have hS0 : ∀ k, ELay.none.S w17.heap.size k → w17.heap.size ≤ k := fun k hk => by
      rcases hk with hk | hk | hk | hk
      · omega
      · simp [ELay.none] at hk
      · simp [ELay.none] at hk
      · exact hk.elim
    have HS0 := Lib.hid hS0
    have HE18 := Lib.hid h18
    have HB18 := Lib.hid (HB17.out.trans (Below.mono hb18 HB17.out.size))
    have HO18 := Lib.hid (HO17.out.below hb18 HO17.out.lt)
    have hsz18 : w17.heap.size < w18.heap.size := h18.own.lt
    have HX18 := Lib.hid hb18
    clear hS0 h18 hb18 HB17 HO17 HZ17
    go_wp2_with fail
    obtain ⟨C, hC⟩ : ∃ C, C = chk 0 0 2 0 ln := ⟨_, rfl⟩
    have hck := ucheck_any 0 false 0 false 2 0 la ln lc w18 (by omega) (by omega) (by omega) (by omega) (by omega) (by omega) (by omega) (by omega) (by omega)
    rw [← hC] at hck
    have HCk := Lib.hid hck
    have HC := Lib.hid hC
    clear hck hC
    with_reducible refine HCk.out.mono ?_
    clear HCk
    rintro e w19 ⟨rfl, hb19⟩
    have HE19 := Lib.hid (HE18.out.later hb19)
    have HB19 := Lib.hid (HB18.out.trans (Below.mono hb19 HB18.out.size))
    have HO19 := Lib.hid (HO18.out.below hb19 HO18.out.lt)
    have hsz19 : w17.heap.size < w19.heap.size := Nat.lt_of_lt_of_le hsz18 hb19.size
    clear hb19 HE18 HB18 HO18 HX18 hsz18
    by_cases hC0 : C = 0
    · have hln2 : 2 ≤ ln ∧ ln ≤ 273 := by
        have h5 : chk 0 0 2 0 ln = 0 := by rw [← HC.out]; exact hC0
        rw [chk_ok] at h5
        omega
      subst hC0
      obtain ⟨hln2a, hln2b⟩ := hln2
      have HAc := Lib.hid (accept_ok w17.heap.size En.zero ELay.none w19 la ln lc ll HE19.out rfl (by decide) (HLr.out.later HB19.out) hln2a hln2b)
      go_wp2_with fail
      with_reducible refine HAc.out.mono ?_
      clear HAc
      rintro e w20 ⟨rfl, L1, h20, ht20⟩
      have hS1 : ∀ k, L1.S w17.heap.size k → w17.heap.size ≤ k := fun k hk => by
        rcases ht20.lies k hk with h5 | h5
        · exact HS0.out k h5
        · omega
      have hbw : Below w17.heap.size w19 w20 := ht20.exc.below (Nat.le_of_lt hsz19) (fun i _ hi => HS0.out i hi)
      have HE20 := Lib.hid h20
      have HB20 := Lib.hid (HB19.out.trans (Below.mono hbw (Nat.le_of_lt hbl17)))
      have HO20 := Lib.hid (HO19.out.below hbw hbl17)
      have HS1 := Lib.hid hS1
      have hsz20 : w17.heap.size < w20.heap.size := h20.own.lt
      clear h20 ht20 hS1 hbw HE19 HB19 HO19 hsz19
      have hwt : Calls Try.prog 21 #[.pointer (some ⟨w17.heap.size, 0, none⟩)] w20 fun e w' => e = .returned (.tuple #[.int .i64 1, .int .i64 0]) ∧ ∃ q, w' = w20.drewN q := ewaiting_any w17.heap.size (En.zero.accept ll) L1 w20 HE20.out
      have HWt := Lib.hid hwt
      clear hwt
      go_wp2_with fail
      with_reducible refine HWt.out.mono ?_
      clear HWt
      rintro e w21 ⟨rfl, q21, hq21⟩
      have hb21 : Below w20.heap.size w20 w21 := by rw [hq21]; exact below_draw w20 q21
      have HE21 := Lib.hid (HE20.out.later hb21)
      have HB21 := Lib.hid (HB20.out.trans (Below.mono hb21 HB20.out.size))
      have HO21 := Lib.hid (HO20.out.below hb21 HO20.out.lt)
      have hsz21 : w17.heap.size < w21.heap.size := Nat.lt_of_lt_of_le hsz20 hb21.size
      clear hb21 hq21 HE20 HB20 HO20 hsz20
      obtain ⟨i0, hi, hz0, hz1', hz2⟩ := info_parts info8
      have HI := Lib.hid (And.intro hi (And.intro hz0 (And.intro hz1' hz2)))
      clear hi hz0 hz1' hz2
      obtain ⟨lb, lo, hla, hcl⟩ : ∃ lb lo, la = some ⟨lb, lo, none⟩ ∧ ∀ i, i < ln → w.cell? ⟨lb, lo + i, none⟩ = some (.int .u8 (ll.getD i 0)) := by
        rcases HLr.out.cells with h5 | h5
        · omega
        · exact h5
      subst hla
      have hx0 := wf_u8.1 (HLr.out.wf (ll.getD 0 0) (by rw [List.getD_eq_getElem?_getD, List.getElem?_eq_getElem (by rw [HLr.out.len]; omega)]; exact List.getElem_mem _))
      have hc0 := hcl 0 (by omega)
      have hf0 := HFz.out lb lo rfl 0 (by omega)
      simp only [Nat.add_zero] at hc0 hf0
      obtain ⟨X0, hX0⟩ : ∃ X0, X0 = ll.getD 0 0 := ⟨_, rfl⟩
      rw [← hX0] at hc0 hx0
      obtain ⟨V0, hV0⟩ : ∃ V0, V0 = (X0 + 1) % 256 := ⟨_, rfl⟩
      have hV1 : (X0 + 1) % 256 = V0 := hV0.symm
      have hV2 : (V0 - 1) % 256 = X0 := by omega
      have hlbw : lb < w.heap.size := World.block_lt_of_cell? w _ hc0
      have HV := Lib.hid (And.intro hx0 (And.intro hV1 hV2))
      have HC0 := Lib.hid hc0
      have HF0 := Lib.hid hf0
      have hlni : (0 : Int) < (ln : Int) := by omega
      have hlnn : 0 < ln := by omega
      clear hX0 hV0 hcl hc0 hf0 hx0 hV1 hV2
      go_wp2_with (at_builtin; refine wpList_append_list (by rfl) _ _ 32 (by rfl) w21.heap.size 5 i0 (.int .u8 0) 1 Try.underlying32 HI.out.1 HI.out.2.1 HI.out.2.2.1 HI.out.2.2.2 (by rfl) .u8 (.slice none 0 0) 0 [] (by rfl) (World.ownsRow_nil _ _ _ _) (some ⟨lb, lo, none⟩) ln lc ll (by rfl) (HLr.out.later HB21.out) (by unfold maxLen; omega) (by omega) (Nat.le_refl _) ?_)
      intro bv w22 hbo hbg
      have hb22 : Below w21.heap.size w21 w22 := by
        have := (Exc.of_grown hbg).below (B := w21.heap.size) (Nat.le_refl _) (fun i _ hi => by simp [Value.ownBlock] at hi)
        exact this
      obtain ⟨ba, bc, rfl, hbr, hbs⟩ := ownsRow_rowN .u8 hbo HLr.out.wf
      have hbk : ∀ z, ba = some z → w21.heap.size ≤ z.block := fun z hz => by
        have := ownBlock_lt hbo (k := z.block) (by rw [hz]; rfl)
        exact this.1
      have hcA : w22.cell? ⟨lb, lo, none⟩ = some (.int .u8 X0) := by rw [((HB21.out.trans (Below.mono hb22 HB21.out.size)).cell (p := ⟨lb, lo, none⟩) hlbw)]; exact HC0.out
      have hfA : w22.frozen? ⟨lb, lo, none⟩ = false := by rw [((HB21.out.trans (Below.mono hb22 HB21.out.size)).frozen (p := ⟨lb, lo, none⟩) hlbw)]; exact HF0.out
      have HE22 := Lib.hid (HE21.out.later hb22)
      have HB22 := Lib.hid (HB21.out.trans (Below.mono hb22 HB21.out.size))
      have HO22 := Lib.hid (HO21.out.below hb22 HO21.out.lt)
      have hsz22 : w17.heap.size < w22.heap.size := Nat.lt_of_lt_of_le hsz21 hb22.size
      have HBr := Lib.hid (And.intro hbr (And.intro hbk (HE21.out.s_lt)))
      have HcA := Lib.hid hcA
      obtain ⟨hx0, hV1, hV2⟩ := HV.out
      have hx0a := hx0.1
      have hx0b := hx0.2
      clear hbo hbg hb22 hbr hbs hbk HE21 HB21 HO21 hx0
      go_wp2_with fail
      have hlbB : lb < w17.heap.size := Nat.lt_trans hlbw hbl17
      have hxA : Exc (fun k => k = lb) w22 (w22.setCell ⟨lb, lo, none⟩ (.int .u8 V0)) := (Exc.refl (fun k => k = lb) w22).setCell ⟨lb, lo, none⟩ (.inl rfl) _
      have hEA := HE22.out.exc hxA (fun k hk hh => by have := HS1.out k hk; omega)
      have hnx := next_ok w17.heap.size (En.zero.accept ll) L1 _ hEA rfl
      have hu : (En.zero.accept ll).next.1 = ⟨127, true, 0, true, 2, 0, ll⟩ := by simp [En.next, En.accept, En.zero]
      have hy : (En.zero.accept ll).next.2.failed = false ∧ (En.zero.accept ll).next.2.acc = 127 ∧ (En.zero.accept ll).next.2.back = true ∧ (En.zero.accept ll).next.2.fore = true := by simp [En.next, En.accept, En.zero]
      rw [hu] at hnx
      obtain ⟨y, hye⟩ : ∃ y, y = (En.zero.accept ll).next.2 := ⟨_, rfl⟩
      rw [← hye] at hnx hy
      have HNx := Lib.hid hnx
      have HY := Lib.hid hy
      have HXA := Lib.hid hxA
      clear hxA hEA hnx hu hy hye
      with_reducible refine HNx.out.mono ?_
      clear HNx
      rintro e w23 ⟨L2, ⟨ns, rfl, hnr, hnz⟩, h23, ht23⟩
      have hsA : (w22.setCell ⟨lb, lo, none⟩ (.int .u8 V0)).heap.size = w22.heap.size := by simp
      have hoA := ht23.exc.weak (S' := fun k => w17.heap.size ≤ k) (fun k _ hk => HS1.out k hk)
      have hcB : w23.cell? ⟨lb, lo, none⟩ = some (.int .u8 V0) := hoA.cell (World.cell?_setCell_same _ _ _ hcA) (by show ¬ w17.heap.size ≤ lb; omega)
      have hfB : w23.frozen? ⟨lb, lo, none⟩ = false := by
        have h6 : (w22.setCell ⟨lb, lo, none⟩ (.int .u8 V0)).frozen? ⟨lb, lo, none⟩ = false := by rw [World.frozen?_setCell]; exact hfA
        have h7 := hoA.block lb (by rw [hsA]; omega) (by omega)
        unfold World.frozen? at h6 ⊢
        simp only at h6 ⊢
        rw [h7]; exact h6
      have hlb4 : lb < w23.heap.size := World.block_lt_of_cell? _ _ hcB
      have hlbn : lb ≠ w23.heap.size := by omega
      have hll : ll.length = ln := HLr.out.len
      simp only [unCells, hll] at hnr ⊢
      have HNr := Lib.hid (And.intro hnr (And.intro hnz (And.intro h23 (And.intro ht23 hoA))))
      clear hnr hnz h23 ht23 hoA hcA hfA
      go_wp2_with fail
      obtain ⟨hnr, hnz, h23, ht23, hoA⟩ := HNr.out
      have hS2 : ∀ k, L2.S w17.heap.size k → w17.heap.size ≤ k := fun k hk => by
        rcases ht23.lies k hk with h5 | h5
        · exact HS1.out k h5
        · rw [hsA] at h5; omega
      have hres : Below w.heap.size w (w23.setCell ⟨lb, lo, none⟩ (.int .u8 X0)) := below_restore HB22.out HcA.out ht23.exc (fun k hk => by have := HS1.out k hk; omega) hlbw
      have hxB : Exc (fun k => k = lb) w23 (w23.setCell ⟨lb, lo, none⟩ (.int .u8 X0)) := (Exc.refl (fun k => k = lb) w23).setCell ⟨lb, lo, none⟩ (.inl rfl) _
      obtain ⟨W5, hW5⟩ : ∃ Y, Y = (w23.setCell ⟨lb, lo, none⟩ (.int .u8 X0)).alloc (.cells #[.int .u8 127, .bool true, .int .u8 0, .bool true, .int .u8 2, .int .u8 0, .slice ns ln ln] 41) := ⟨_, rfl⟩
      have hbB : Below (w23.setCell ⟨lb, lo, none⟩ (.int .u8 X0)).heap.size (w23.setCell ⟨lb, lo, none⟩ (.int .u8 X0)) W5 := by rw [hW5]; exact below_alloc _ _
      rw [← hW5]
      have hE5 := (h23.exc hxB (fun k hk hh => by have := hS2 k hk; omega)).later hbB
      have hr5 := (hnr.exc hxB (fun z hz hh => by have h7 := (hnz z hz).1; rw [hsA] at h7; omega)).later hbB
      have hbr5 : Row .u8 W5 ba ln bc ll := by
        have q1 := HBr.out.1.exc HXA.out (fun z hz hh => by have := HBr.out.2.1 z hz; omega)
        have q2 := q1.exc ht23.exc (fun z hz hh => by have := HBr.out.2.1 z hz; have := HBr.out.2.2 _ hh; omega)
        exact (q2.exc hxB (fun z hz hh => by have := HBr.out.2.1 z hz; omega)).later hbB
      have hO5 : Own W5 w.heap.size 41 [.int .u8 (a0 : Int), .bool b1, .int .u8 (a2 : Int), .bool b3, .int .u8 (a4 : Int), .int .u8 (a5 : Int), .slice s n c] := by
        have q1 := HO22.out.exc HXA.out (by omega)
        have q2 := q1.exc ht23.exc (fun hh => by have := HS1.out _ hh; omega)
        exact (q2.exc hxB (by omega)).below hbB (q2.exc hxB (by omega)).lt
      have hB5 := hres.trans (Below.mono hbB hres.size)
      have hfin : FinAt w17.heap.size W5 w17.heap.size := ⟨⟨y, L2, hE5, hS2, HY.out⟩⟩
      have HBy := Lib.hid (bytes_yes ns ba ln ln bc ll W5 hr5 hbr5)
      have HF5 := Lib.hid hfin
      have HO5 := Lib.hid hO5
      have HB5 := Lib.hid hB5
      have hs5 : w17.heap.size ≤ W5.heap.size := by have := hE5.own.lt; omega
      clear hnr hnz h23 ht23 hoA hS2 hres hxB hW5 hbB hE5 hr5 hbr5 hO5 hB5 hfin HNr hcB hfB hV1 hV2
      with_reducible refine HBy.out.mono ?_
      clear HBy
      rintro e W6 ⟨rfl, q6, hq6⟩
      have hb6 : Below W5.heap.size W5 W6 := by rw [hq6]; exact below_draw W5 q6
      have HF6 := Lib.hid (HF5.out.later hb6)
      have HO6 := Lib.hid (HO5.out.below hb6 HO5.out.lt)
      have HB6 := Lib.hid (HB5.out.trans (Below.mono hb6 HB5.out.size))
      have hs6 : w17.heap.size ≤ W6.heap.size := Nat.le_trans hs5 hb6.size
      clear hb6 hq6 HF5 HO5 HB5 hs5
      obtain ⟨c0, c1, c2, c3, c4, c5, c6⟩ := unit_cells HO6.out
      have hlt := HO6.out.lt
      obtain ⟨C2, hC2⟩ : ∃ C2, C2 = chk (a0 : Int) (a2 : Int) (a4 : Int) (a5 : Int) n := ⟨_, rfl⟩
      obtain ⟨t0, t2, t4, t5⟩ := HBd.out
      have hck2 := ucheck_any (a0 : Int) b1 (a2 : Int) b3 (a4 : Int) (a5 : Int) s n c W6 (by omega) (by omega) (by omega) (by omega) (by omega) (by omega) (by omega) (by omega) (by omega)
      rw [← hC2] at hck2
      have HCk2 := Lib.hid hck2
      have HC2 := Lib.hid hC2
      clear hck2 hC2
      go_wp2_with fail
      with_reducible refine HCk2.out.mono ?_
      clear HCk2
      rintro e W7 ⟨rfl, hb7⟩
      have HF7 := Lib.hid (HF6.out.later hb7)
      have HO7 := Lib.hid (HO6.out.below hb7 HO6.out.lt)
      have HB7 := Lib.hid (HB6.out.trans (Below.mono hb7 HB6.out.size))
      have hs7 : w17.heap.size ≤ W7.heap.size := Nat.le_trans hs6 hb7.size
      clear hb7 HF6 HO6 HB6 c0 c1 c2 c3 c4 c5 c6 hlt
      by_cases hC20 : C2 = 0
      · have hcb : (C2 != 0) = false := by simp [hC20]
        have HC20 := Lib.hid hC20
        clear hC20
        go_wp2_with fail
        with_reducible refine (HL.out _).mono ?_
        rintro e W8 ⟨rfl, hb8⟩
        have HB8 := Lib.hid (HB7.out.trans (Below.mono hb8 HB7.out.size))
        clear hb8
        go_wp2
        go_ret
        exact ⟨rfl, HB8.out⟩
      · have hcb : (C2 != 0) = true := by simp [hC20]
        have hfh := fin_hear (u := u) (s := s) (n := n) (c := c) HF7.out (by rw [HUe.out]; show a0 < 256; omega) (by rw [HUe.out]; show a2 < 256; omega) (by rw [HUe.out]; show a4 < 256; omega) (by rw [HUe.out]; show a5 < 256; omega) (by omega) (by rw [HUe.out]; show chk (a0 : Int) (a2 : Int) (a4 : Int) (a5 : Int) n ≠ 0; rw [← HC2.out]; exact hC20)
        have hcc : chk (u.back : Int) (u.fore : Int) (u.kind : Int) (u.state : Int) n = C2 := by rw [HUe.out, HC2.out]
        rw [hcc, HUc.out] at hfh
        have HFh := Lib.hid hfh
        have HC20 := Lib.hid hC20
        have heq : (C2 == C2) = true := by simp
        clear hfh hcc hC20
        obtain ⟨c0, c1, c2, c3, c4, c5, c6⟩ := unit_cells HO7.out
        go_wp2_with fail
        with_reducible refine HFh.out.mono ?_
        clear HFh
        rintro e W8 ⟨rfl, hb8⟩
        have HF8 := Lib.hid (HF7.out.later hb8)
        have HB8 := Lib.hid (HB7.out.trans (Below.mono hb8 HB7.out.size))
        have hs8 : w17.heap.size ≤ W8.heap.size := Nat.le_trans hs7 hb8.size
        have HNn := Lib.hid (fin_next HF8.out hs8)
        clear hb8 HF7 HO7 HB7 c0 c1 c2 c3 c4 c5 c6
        go_wp2_with fail
        with_reducible refine HNn.out.mono ?_
        clear HNn
        rintro e W9 ⟨⟨vf, vk, vs, vm, rfl⟩, hb9⟩
        have HB9 := Lib.hid (HB8.out.trans (Below.mono hb9 (Nat.le_of_lt hbl17)))
        clear hb9 HB8 HF8
        go_wp2_with fail
        obtain ⟨W10, hW10⟩ : ∃ Y, Y = W9.alloc (.cells #[.int .u8 127, .bool true, .int .u8 (vf : Int), .bool true, .int .u8 (vk : Int), .int .u8 0, .slice vs vm vm] 41) := ⟨_, rfl⟩
        have HB10 := Lib.hid (HB9.out.trans (by rw [hW10]; exact Below.mono (below_alloc W9 _) HB9.out.size : Below w.heap.size W9 W10))
        rw [← hW10]
        clear hW10
        with_reducible refine (HL.out _).mono ?_
        rintro e W11 ⟨rfl, hb11⟩
        have HB11 := Lib.hid (HB10.out.trans (Below.mono hb11 HB10.out.size))
        clear hb11
        go_wp2
        go_ret
        exact ⟨rfl, HB11.out⟩
    · have hCb : (C == 0) = false := by simp [hC0]
      have hCc : (C != 0) = true := by simp [hC0]
      have hCe : (C == C) = true := by simp
      have hCd : (C != C) = false := by simp
      have hne : chk 0 0 2 0 ln ≠ 0 := by rw [← HC.out]; exact hC0
      have hac := accept_not w17.heap.size En.zero ELay.none w19 (la) ln lc HE19.out rfl (by omega) (.inl hne)
      rw [if_pos hne, ← HC.out] at hac
      have HAc := Lib.hid hac
      have HC0n := Lib.hid hC0
      clear hac hne hC0
      go_wp2_with fail
      with_reducible refine HAc.out.mono ?_
      clear HAc
      rintro e w20 ⟨rfl, hb20⟩
      have HE20 := Lib.hid (HE19.out.later hb20)
      have HB20 := Lib.hid (HB19.out.trans (Below.mono hb20 HB19.out.size))
      have HO20 := Lib.hid (HO19.out.below hb20 HO19.out.lt)
      have hwt : Calls Try.prog 21 #[.pointer (some ⟨w17.heap.size, 0, none⟩)] w20 fun e w' => e = .returned (.tuple #[.int .i64 0, .int .i64 0]) ∧ ∃ q, w' = w20.drewN q := ewaiting_any w17.heap.size En.zero ELay.none w20 HE20.out
      have HWt := Lib.hid hwt
      have hsz20 : w17.heap.size < w20.heap.size := Nat.lt_of_lt_of_le hsz19 hb20.size
      clear hwt hb20 HE19 HB19 HO19
      go_wp2_with fail
      with_reducible refine HWt.out.mono ?_
      clear HWt
      rintro e W6 ⟨rfl, q6, hq6⟩
      have hb6 : Below w20.heap.size w20 W6 := by rw [hq6]; exact below_draw w20 q6
      have HF6 := Lib.hid (show FinAt w17.heap.size W6 w17.heap.size from ⟨⟨En.zero, ELay.none, HE20.out.later hb6, HS0.out, rfl, rfl, rfl, rfl⟩⟩)
      have HO6 := Lib.hid (HO20.out.below hb6 HO20.out.lt)
      have HB6 := Lib.hid (HB20.out.trans (Below.mono hb6 HB20.out.size))
      have hs6 : w17.heap.size ≤ W6.heap.size := Nat.le_trans (Nat.le_of_lt hsz20) hb6.size
      clear hb6 hq6 HE20 HB20 HO20
      obtain ⟨c0, c1, c2, c3, c4, c5, c6⟩ := unit_cells HO6.out
      have hlt := HO6.out.lt
      obtain ⟨C2, hC2⟩ : ∃ C2, C2 = chk (a0 : Int) (a2 : Int) (a4 : Int) (a5 : Int) n := ⟨_, rfl⟩
      obtain ⟨t0, t2, t4, t5⟩ := HBd.out
      have hck2 := ucheck_any (a0 : Int) b1 (a2 : Int) b3 (a4 : Int) (a5 : Int) s n c W6 (by omega) (by omega) (by omega) (by omega) (by omega) (by omega) (by omega) (by omega) (by omega)
      rw [← hC2] at hck2
      have HCk2 := Lib.hid hck2
      have HC2 := Lib.hid hC2
      clear hck2 hC2
      go_wp2_with fail
      with_reducible refine HCk2.out.mono ?_
      clear HCk2
      rintro e W7 ⟨rfl, hb7⟩
      have HF7 := Lib.hid (HF6.out.later hb7)
      have HO7 := Lib.hid (HO6.out.below hb7 HO6.out.lt)
      have HB7 := Lib.hid (HB6.out.trans (Below.mono hb7 HB6.out.size))
      have hs7 : w17.heap.size ≤ W7.heap.size := Nat.le_trans hs6 hb7.size
      clear hb7 HF6 HO6 HB6 c0 c1 c2 c3 c4 c5 c6 hlt
      by_cases hC20 : C2 = 0
      · have hcb : (C2 != 0) = false := by simp [hC20]
        have HC20 := Lib.hid hC20
        clear hC20
        go_wp2_with fail
        with_reducible refine (HL.out _).mono ?_
        rintro e W8 ⟨rfl, hb8⟩
        have HB8 := Lib.hid (HB7.out.trans (Below.mono hb8 HB7.out.size))
        clear hb8
        go_wp2
        go_ret
        exact ⟨rfl, HB8.out⟩
      · have hcb : (C2 != 0) = true := by simp [hC20]
        have hfh := fin_hear (u := u) (s := s) (n := n) (c := c) HF7.out (by rw [HUe.out]; show a0 < 256; omega) (by rw [HUe.out]; show a2 < 256; omega) (by rw [HUe.out]; show a4 < 256; omega) (by rw [HUe.out]; show a5 < 256; omega) (by omega) (by rw [HUe.out]; show chk (a0 : Int) (a2 : Int) (a4 : Int) (a5 : Int) n ≠ 0; rw [← HC2.out]; exact hC20)
        have hcc : chk (u.back : Int) (u.fore : Int) (u.kind : Int) (u.state : Int) n = C2 := by rw [HUe.out, HC2.out]
        rw [hcc, HUc.out] at hfh
        have HFh := Lib.hid hfh
        have HC20 := Lib.hid hC20
        have heq : (C2 == C2) = true := by simp
        clear hfh hcc hC20
        obtain ⟨c0, c1, c2, c3, c4, c5, c6⟩ := unit_cells HO7.out
        go_wp2_with fail
        with_reducible refine HFh.out.mono ?_
        clear HFh
        rintro e W8 ⟨rfl, hb8⟩
        have HF8 := Lib.hid (HF7.out.later hb8)
        have HB8 := Lib.hid (HB7.out.trans (Below.mono hb8 HB7.out.size))
        have hs8 : w17.heap.size ≤ W8.heap.size := Nat.le_trans hs7 hb8.size
        have HNn := Lib.hid (fin_next HF8.out hs8)
        clear hb8 HF7 HO7 HB7 c0 c1 c2 c3 c4 c5 c6
        go_wp2_with fail
        with_reducible refine HNn.out.mono ?_
        clear HNn
        rintro e W9 ⟨⟨vf, vk, vs, vm, rfl⟩, hb9⟩
        have HB9 := Lib.hid (HB8.out.trans (Below.mono hb9 (Nat.le_of_lt hbl17)))
        clear hb9 HB8 HF8
        go_wp2_with fail
        obtain ⟨W10, hW10⟩ : ∃ Y, Y = W9.alloc (.cells #[.int .u8 127, .bool true, .int .u8 (vf : Int), .bool true, .int .u8 (vk : Int), .int .u8 0, .slice vs vm vm] 41) := ⟨_, rfl⟩
        have HB10 := Lib.hid (HB9.out.trans (by rw [hW10]; exact Below.mono (below_alloc W9 _) HB9.out.size : Below w.heap.size W9 W10))
        rw [← hW10]
        clear hW10
        with_reducible refine (HL.out _).mono ?_
        rintro e W11 ⟨rfl, hb11⟩
        have HB11 := Lib.hid (HB10.out.trans (Below.mono hb11 HB10.out.size))
        clear hb11
        go_wp2
        go_ret
        exact ⟨rfl, HB11.out⟩
end Go.Proofs.Ytfoliplejhoaeaa
