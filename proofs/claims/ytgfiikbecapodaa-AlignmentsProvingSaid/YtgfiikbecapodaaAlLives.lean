/- Statements of layer 9: the examples of the chapter. -/
import Derived.Test.YtgfiikbecapodaaAlOne
namespace Go.Proofs.Ytgfiikbecapodaa
open Go.RowKit

abbrev tE : Ti := ⟨5, 4, 3, 1, 2, 1, 2⟩
abbrev xE0 : Al := ⟨tE, 0, 0, false, false, 0, 0⟩
abbrev xE1 : Al := ⟨tE, 1, 5, false, false, 0, 0⟩
abbrev xE2 : Al := ⟨tE, 2, 4, false, false, 0, 0⟩
abbrev xE3 : Al := ⟨tE, 3, 3, false, false, 1, 0⟩
abbrev xE4 : Al := ⟨tE, 3, 3, false, false, 1, 1⟩
abbrev xE5 : Al := ⟨tE, 3, 3, false, false, 2, 0⟩
abbrev xE6 : Al := ⟨tE, 3, 3, false, false, 2, 1⟩
abbrev xE7 : Al := ⟨tE, 5, 0, false, false, 2, 2⟩
abbrev xE8 : Al := ⟨tE, 3, 1, false, true, 2, 0⟩
abbrev xE9 : Al := ⟨tE, 4, 0, false, true, 2, 0⟩
theorem tE_fit : tE.Fit := by constructor <;> decide
theorem litNew {w0 w : World} (h : Below w0.heap.size w0 w) : Calls Try.prog 10 #[.agg #[.int .i64 5, .int .i64 4, .int .i64 3, .int .i64 1, .int .i64 2, .int .i64 1, .int .i64 2]] w fun e w' => ∃ b, e = .returned (.tuple #[.pointer (some ⟨b, 0, none⟩), .int .i64 0]) ∧ One w0 w' b xE0 := by
  refine (show Calls Try.prog 10 #[.agg #[.int .i64 5, .int .i64 4, .int .i64 3, .int .i64 1, .int .i64 2, .int .i64 1, .int .i64 2]] w _ from new_one tE tE_fit h).mono ?_
  rintro e w' ⟨b, rfl, _, h, _⟩
  exact ⟨b, rfl, h⟩
theorem litStart {w0 w : World} {b : Nat} (h : One w0 w b xE0) : Calls Try.prog 19 #[.pointer (some ⟨b, 0, none⟩), .bool false] w fun e w' => e = .returned (.int .i64 0) ∧ One w0 w' b xE1 := start_one h false
theorem litHear0 {w0 w : World} {b : Nat} (h : One w0 w b xE1) : Calls Try.prog 24 #[.pointer (some ⟨b, 0, none⟩), .int .u8 0] w fun e w' => e = .returned (.int .i64 0) ∧ One w0 w' b xE2 := hear_one h 0 (by decide) (by decide)
theorem litHear1 {w0 w : World} {b : Nat} (h : One w0 w b xE2) : Calls Try.prog 24 #[.pointer (some ⟨b, 0, none⟩), .int .u8 1] w fun e w' => e = .returned (.int .i64 0) ∧ One w0 w' b xE3 := hear_one h 1 (by decide) (by decide)
theorem litHear2 {w0 w : World} {b : Nat} (h : One w0 w b xE3) : Calls Try.prog 24 #[.pointer (some ⟨b, 0, none⟩), .int .u8 2] w fun e w' => e = .returned (.int .i64 0) ∧ One w0 w' b xE8 := hear_one h 2 (by decide) (by decide)
theorem litTick {w0 w : World} {b : Nat} (h : One w0 w b xE8) : Calls Try.prog 20 #[.pointer (some ⟨b, 0, none⟩)] w fun e w' => e = .returned (.int .i64 0) ∧ One w0 w' b xE9 := tick_one h
theorem litWrong3 {w0 w : World} {b : Nat} (h : One w0 w b xE3) : Calls Try.prog 22 #[.pointer (some ⟨b, 0, none⟩)] w fun e w' => e = .returned (.int .i64 0) ∧ One w0 w' b xE4 := wrong_one h (by decide)
theorem litWrong4 {w0 w : World} {b : Nat} (h : One w0 w b xE4) : Calls Try.prog 22 #[.pointer (some ⟨b, 0, none⟩)] w fun e w' => e = .returned (.int .i64 0) ∧ One w0 w' b xE5 := wrong_one h (by decide)
theorem litWrong5 {w0 w : World} {b : Nat} (h : One w0 w b xE5) : Calls Try.prog 22 #[.pointer (some ⟨b, 0, none⟩)] w fun e w' => e = .returned (.int .i64 0) ∧ One w0 w' b xE6 := wrong_one h (by decide)
theorem litWrong6 {w0 w : World} {b : Nat} (h : One w0 w b xE6) : Calls Try.prog 22 #[.pointer (some ⟨b, 0, none⟩)] w fun e w' => e = .returned (.int .i64 0) ∧ One w0 w' b xE7 := wrong_one h (by decide)
theorem litPhase1 {w0 w : World} {b : Nat} (h : One w0 w b xE1) : Calls Try.prog 14 #[.pointer (some ⟨b, 0, none⟩)] w fun e w' => e = .returned (.int .u8 1) ∧ w' = w := phase_one h
theorem litPhase2 {w0 w : World} {b : Nat} (h : One w0 w b xE2) : Calls Try.prog 14 #[.pointer (some ⟨b, 0, none⟩)] w fun e w' => e = .returned (.int .u8 2) ∧ w' = w := phase_one h
theorem litPhase3 {w0 w : World} {b : Nat} (h : One w0 w b xE3) : Calls Try.prog 14 #[.pointer (some ⟨b, 0, none⟩)] w fun e w' => e = .returned (.int .u8 3) ∧ w' = w := phase_one h
theorem litPhase7 {w0 w : World} {b : Nat} (h : One w0 w b xE7) : Calls Try.prog 14 #[.pointer (some ⟨b, 0, none⟩)] w fun e w' => e = .returned (.int .u8 5) ∧ w' = w := phase_one h
theorem litPhase9 {w0 w : World} {b : Nat} (h : One w0 w b xE9) : Calls Try.prog 14 #[.pointer (some ⟨b, 0, none⟩)] w fun e w' => e = .returned (.int .u8 4) ∧ w' = w := phase_one h
theorem litSends1 {w0 w : World} {b : Nat} (h : One w0 w b xE1) : Calls Try.prog 26 #[.pointer (some ⟨b, 0, none⟩)] w fun e w' => e = .returned (.tuple #[.int .u8 0, .bool true]) ∧ w' = w := sends_one h
theorem litSends3 {w0 w : World} {b : Nat} (h : One w0 w b xE3) : Calls Try.prog 26 #[.pointer (some ⟨b, 0, none⟩)] w fun e w' => e = .returned (.tuple #[.int .u8 1, .bool true]) ∧ w' = w := sends_one h
theorem litLeft3 {w0 w : World} {b : Nat} (h : One w0 w b xE3) : Calls Try.prog 15 #[.pointer (some ⟨b, 0, none⟩)] w fun e w' => e = .returned (.int .i64 3) ∧ w' = w := left_one h
theorem litLeft8 {w0 w : World} {b : Nat} (h : One w0 w b xE8) : Calls Try.prog 15 #[.pointer (some ⟨b, 0, none⟩)] w fun e w' => e = .returned (.int .i64 1) ∧ w' = w := left_one h
theorem litProv5 {w0 w : World} {b : Nat} (h : One w0 w b xE5) : Calls Try.prog 16 #[.pointer (some ⟨b, 0, none⟩)] w fun e w' => e = .returned (.int .i64 2) ∧ w' = w := provings_one h
set_option maxHeartbeats 4000000 in
set_option maxRecDepth 100000 in
theorem lives_any (w : World) : Calls Try.prog 9 #[] w fun e w' => e = .returned (.bool true) ∧ Below w.heap.size w w' := by
  go_enter Try.func9, Try.ntmps9
  go_wp2_with fail
  with_reducible refine (litNew (Below.refl w.heap.size w)).mono ?_
  rintro e w1 ⟨b, rfl, h1⟩
  have H := Lib.hid h1
  clear h1
  go_wp2_with fail
  with_reducible refine (usual_any _).mono ?_
  rintro e w2 ⟨rfl, h2⟩
  have H2 := Lib.hid (H.out.more h2)
  clear h2 H
  obtain ⟨W3, hW3⟩ : ∃ W, W = w2.alloc (.cells #[.int .i64 120, .int .i64 30, .int .i64 80, .int .i64 6, .int .i64 4, .int .i64 1, .int .i64 5] 31) := ⟨_, rfl⟩
  have oU : Own W3 w2.heap.size 31 [.int .i64 120, .int .i64 30, .int .i64 80, .int .i64 6, .int .i64 4, .int .i64 1, .int .i64 5] := by rw [hW3]; exact own_new w2 _ _ _ rfl
  have u0 := oU.cell 0 (by simp)
  have u6 := oU.cell 6 (by simp)
  simp only [List.getD_cons_succ, List.getD_cons_zero] at u0 u6
  have h3 : One w W3 b xE0 := by rw [hW3]; exact H2.out.more (below_alloc w2 _)
  have HW3 := Lib.hid hW3
  have HO := Lib.hid oU
  have H := Lib.hid h3
  clear H2 hW3 oU h3
  go_upto_region 3 with fail
  rw [← HW3.out]
  go_wp2_with fail
  with_reducible refine (litStart H.out).mono ?_
  rintro e w4 ⟨rfl, h4⟩
  have H4 := Lib.hid h4
  clear h4 H HO HW3 u0 u6
  go_wp2_with fail
  with_reducible refine (litPhase1 H4.out).mono ?_
  rintro e w' ⟨rfl, rfl⟩
  go_wp2_with fail
  with_reducible refine (litSends1 H4.out).mono ?_
  rintro e w' ⟨rfl, rfl⟩
  go_wp2_with fail
  with_reducible refine (litHear0 H4.out).mono ?_
  rintro e w5 ⟨rfl, h5⟩
  have H5 := Lib.hid h5
  clear h5 H4
  go_wp2_with fail
  with_reducible refine (litPhase2 H5.out).mono ?_
  rintro e w' ⟨rfl, rfl⟩
  go_wp2_with fail
  with_reducible refine (litHear1 H5.out).mono ?_
  rintro e w6 ⟨rfl, h6⟩
  have H6 := Lib.hid h6
  clear h6 H5
  go_wp2_with fail
  with_reducible refine (litPhase3 H6.out).mono ?_
  rintro e w' ⟨rfl, rfl⟩
  go_wp2_with fail
  with_reducible refine (litSends3 H6.out).mono ?_
  rintro e w' ⟨rfl, rfl⟩
  go_wp2_with fail
  with_reducible refine (litLeft3 H6.out).mono ?_
  rintro e w' ⟨rfl, rfl⟩
  go_wp2_with fail
  with_reducible refine (litWrong3 H6.out).mono ?_
  rintro e w7 ⟨rfl, h7⟩
  have H7 := Lib.hid h7
  clear h7 H6
  go_wp2_with fail
  with_reducible refine (litWrong4 H7.out).mono ?_
  rintro e w8 ⟨rfl, h8⟩
  have H8 := Lib.hid h8
  clear h8 H7
  go_wp2_with fail
  with_reducible refine (litProv5 H8.out).mono ?_
  rintro e w' ⟨rfl, rfl⟩
  go_wp2_with fail
  with_reducible refine (litWrong5 H8.out).mono ?_
  rintro e w9 ⟨rfl, h9⟩
  have H9 := Lib.hid h9
  clear h9 H8
  go_wp2_with fail
  with_reducible refine (litWrong6 H9.out).mono ?_
  rintro e w10 ⟨rfl, h10⟩
  have H10 := Lib.hid h10
  clear h10 H9
  go_wp2_with fail
  with_reducible refine (litPhase7 H10.out).mono ?_
  rintro e w' ⟨rfl, rfl⟩
  go_wp2_with fail
  with_reducible refine (litNew H10.out.bel).mono ?_
  rintro e w11 ⟨c, rfl, h11⟩
  have H11 := Lib.hid h11
  clear h11 H10
  go_wp2_with fail
  with_reducible refine (litStart H11.out).mono ?_
  rintro e w12 ⟨rfl, h12⟩
  have H12 := Lib.hid h12
  clear h12 H11
  go_wp2_with fail
  with_reducible refine (litHear0 H12.out).mono ?_
  rintro e w13 ⟨rfl, h13⟩
  have H13 := Lib.hid h13
  clear h13 H12
  go_wp2_with fail
  with_reducible refine (litHear1 H13.out).mono ?_
  rintro e w14 ⟨rfl, h14⟩
  have H14 := Lib.hid h14
  clear h14 H13
  go_wp2_with fail
  with_reducible refine (litHear2 H14.out).mono ?_
  rintro e w15 ⟨rfl, h15⟩
  have H15 := Lib.hid h15
  clear h15 H14
  go_wp2_with fail
  with_reducible refine (litLeft8 H15.out).mono ?_
  rintro e w' ⟨rfl, rfl⟩
  go_wp2_with fail
  with_reducible refine (litTick H15.out).mono ?_
  rintro e w16 ⟨rfl, h16⟩
  have H16 := Lib.hid h16
  clear h16 H15
  go_wp2_with fail
  with_reducible refine (litPhase9 H16.out).mono ?_
  rintro e w' ⟨rfl, rfl⟩
  go_wp2
  go_ret
  exact ⟨rfl, H16.out.bel⟩
end Go.Proofs.Ytgfiikbecapodaa
