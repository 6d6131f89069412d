/- ChangesNone: a nil end and the zero end are Idle and do nothing. -/
import Derived.Test.YtlmkmgfnfcnoaaaChLives
import Derived.Test.YtlmkmgfnfcnoaaaChNone
namespace Go.Proofs.Ytlmkmgfnfcnoaaa
open Go.RowKit

set_option maxHeartbeats 4000000 in
set_option maxRecDepth 100000 in
theorem none_walk (n t : Int) (w : World) (_h0 : (Lit.int .i64 n).wf = true) (_h1 : (Lit.int .i64 t).wf = true) :
    Calls Try.prog 6 #[.int .i64 n, .int .i64 t] w fun e w' => e = .returned (.bool true) ∧ Below w.heap.size w w' := by
  have o1 : Own (w.alloc (.cells #[.bool false, .int .u8 0, .slice none 0 0, .int .i64 0, .int .i64 0, .int .i64 0] 60)) w.heap.size 60 [.bool false, .int .u8 0, .slice none 0 0, .int .i64 0, .int .i64 0, .int .i64 0] := own_lit w _ _ _ rfl
  have hb1 : Below w.heap.size w (w.alloc (.cells #[.bool false, .int .u8 0, .slice none 0 0, .int .i64 0, .int .i64 0, .int .i64 0] 60)) := below_alloc _ _
  have o2 : Own ((w.alloc (.cells #[.bool false, .int .u8 0, .slice none 0 0, .int .i64 0, .int .i64 0, .int .i64 0] 60)).alloc (.cells #[.pointer none, .pointer (some ⟨w.heap.size, 0, none⟩)] 24)) (w.heap.size + 1) 24 [.pointer none, .pointer (some ⟨w.heap.size, 0, none⟩)] := by
    have := own_lit (w.alloc (.cells #[.bool false, .int .u8 0, .slice none 0 0, .int .i64 0, .int .i64 0, .int .i64 0] 60)) 24 #[.pointer none, .pointer (some ⟨w.heap.size, 0, none⟩)] _ rfl
    rw [World.size_alloc] at this
    exact this
  have o1' := o1.below (below_alloc _ (.cells #[.pointer none, .pointer (some ⟨w.heap.size, 0, none⟩)] 24)) o1.lt
  have hb2 := hb1.trans ((below_alloc (w.alloc (.cells #[.bool false, .int .u8 0, .slice none 0 0, .int .i64 0, .int .i64 0, .int .i64 0] 60)) (.cells #[.pointer none, .pointer (some ⟨w.heap.size, 0, none⟩)] 24)).mono hb1.size)
  have H := Lib.hid (And.intro o1' (And.intro o2 hb2))
  clear o1 o1' o2 hb1 hb2
  go_enter Try.func6, Try.ntmps6
  go_upto_region 4 with fail
  generalize (w.alloc (.cells #[.bool false, .int .u8 0, .slice none 0 0, .int .i64 0, .int .i64 0, .int .i64 0] 60)).alloc _ = W at *
  obtain ⟨s, hs⟩ : ∃ s, s = w.heap.size + 1 := ⟨_, rfl⟩
  obtain ⟨z, hz⟩ : ∃ z, z = w.heap.size := ⟨_, rfl⟩
  obtain ⟨p1, p2, p3⟩ := H.out
  rw [← hz] at p1
  rw [← hs, ← hz] at p2
  rw [← hs, ← hz]
  have HW := Lib.hid (And.intro p1 (And.intro p2 p3))
  clear p1 p2 p3 hs hz H
  go_loopw [23] (fun i wr => ∃ k : Nat, k ≤ 2 ∧ i = .int .i64 k ∧ Below W.heap.size W wr) (fun i _ => 2 - (intOf i).toNat)
  case atStart => exact ⟨0, Nat.zero_le _, rfl, Below.refl _ _⟩
  case round =>
    obtain ⟨k, hk, rfl, hb⟩ := hrel
    have HX := Lib.hid hb
    clear hb
    by_cases hlt : k < 2
    · obtain ⟨v, cv, hno⟩ : ∃ v, wr.cell? ⟨s, k, none⟩ = some (.pointer v) ∧ NoEnd wr v := by
        have p1 := HW.out.1.below HX.out HW.out.1.lt
        have p2 := HW.out.2.1.below HX.out HW.out.2.1.lt
        rcases (by omega : k = 0 ∨ k = 1) with rfl | rfl
        · exact ⟨none, p2.cell 0 (by simp), .inl rfl⟩
        · exact ⟨some ⟨z, 0, none⟩, p2.cell 1 (by simp), .inr ⟨z, rfl, p1.cell 0 (by simp)⟩⟩
      have HN := Lib.hid hno
      have k1 : (k : Int) < 2 := by omega
      have k0 : (0 : Int) ≤ (k : Int) := by omega
      clear hno
      go_wp2_with fail
      refine (show Calls Try.prog 9 #[.int .i64 1] wr (fun e w' => ItemOut wr 1 e w') from item_any 1 wr (by decide)).mono ?_
      rintro e w2 ⟨g, rfl, hr, hb2⟩
      have N2 := Lib.hid (HN.out.later hb2)
      have X2 := Lib.hid (HX.out.trans (hb2.mono HX.out.size))
      clear hr hb2
      go_wp2_with fail
      refine (send_no v _ _ _ _ _ _ _ _ _ _ w2 N2.out).mono ?_
      rintro e w3 ⟨rfl, hb3⟩
      have N3 := Lib.hid (N2.out.later hb3)
      have X3 := Lib.hid (X2.out.trans (hb3.mono X2.out.size))
      clear hb3
      go_wp2_with fail
      refine (fail_no v t w3 N3.out).mono ?_
      rintro e w4' ⟨rfl, q4, rfl⟩
      obtain ⟨w4, hw4⟩ : ∃ x, x = w3.drewN q4 := ⟨_, rfl⟩
      rw [← hw4]
      have N4 := Lib.hid (show NoEnd w4 v by rw [hw4]; exact N3.out.later (below_draw w3 q4))
      have X4 := Lib.hid (show Below W.heap.size W w4 by rw [hw4]; exact below_drewN X3.out q4)
      clear hw4
      go_wp2_with fail
      refine (told_no v n w4 N4.out).mono ?_
      rintro e w5' ⟨rfl, q5, rfl⟩
      obtain ⟨w5, hw5⟩ : ∃ x, x = w4.drewN q5 := ⟨_, rfl⟩
      rw [← hw5]
      have N5 := Lib.hid (show NoEnd w5 v by rw [hw5]; exact N4.out.later (below_draw w4 q5))
      have X5 := Lib.hid (show Below W.heap.size W w5 by rw [hw5]; exact below_drewN X4.out q5)
      clear hw5
      go_wp2_with fail
      refine (tick_no v t n w5 N5.out).mono ?_
      rintro e w6' ⟨rfl, q6, rfl⟩
      obtain ⟨w6, hw6⟩ : ∃ x, x = w5.drewN q6 := ⟨_, rfl⟩
      rw [← hw6]
      have N6 := Lib.hid (show NoEnd w6 v by rw [hw6]; exact N5.out.later (below_draw w5 q6))
      have X6 := Lib.hid (show Below W.heap.size W w6 by rw [hw6]; exact below_drewN X5.out q6)
      clear hw6
      go_wp2_with fail
      refine (arrive_no v n w6 N6.out).mono ?_
      rintro e w7' ⟨rfl, q7, rfl⟩
      obtain ⟨w7, hw7⟩ : ∃ x, x = w6.drewN q7 := ⟨_, rfl⟩
      rw [← hw7]
      have N7 := Lib.hid (show NoEnd w7 v by rw [hw7]; exact N6.out.later (below_draw w6 q7))
      have X7 := Lib.hid (show Below W.heap.size W w7 by rw [hw7]; exact below_drewN X6.out q7)
      clear hw7
      go_wp2_with fail
      refine (acked_no v n w7 N7.out).mono ?_
      rintro e w8' ⟨rfl, q8, rfl⟩
      obtain ⟨w8, hw8⟩ : ∃ x, x = w7.drewN q8 := ⟨_, rfl⟩
      rw [← hw8]
      have N8 := Lib.hid (show NoEnd w8 v by rw [hw8]; exact N7.out.later (below_draw w7 q8))
      have X8 := Lib.hid (show Below W.heap.size W w8 by rw [hw8]; exact below_drewN X7.out q8)
      clear hw8
      go_wp2_with fail
      refine (restore_no v w8 N8.out).mono ?_
      rintro e w9' ⟨rfl, q9, rfl⟩
      obtain ⟨w9, hw9⟩ : ∃ x, x = w8.drewN q9 := ⟨_, rfl⟩
      rw [← hw9]
      have N9 := Lib.hid (show NoEnd w9 v by rw [hw9]; exact N8.out.later (below_draw w8 q9))
      have X9 := Lib.hid (show Below W.heap.size W w9 by rw [hw9]; exact below_drewN X8.out q9)
      clear hw9
      go_wp2_with fail
      refine (last_no v w9 N9.out).mono ?_
      rintro e w10' ⟨rfl, q10, rfl⟩
      obtain ⟨w10, hw10⟩ : ∃ x, x = w9.drewN q10 := ⟨_, rfl⟩
      rw [← hw10]
      have N10 := Lib.hid (show NoEnd w10 v by rw [hw10]; exact N9.out.later (below_draw w9 q10))
      have X10 := Lib.hid (show Below W.heap.size W w10 by rw [hw10]; exact below_drewN X9.out q10)
      clear hw10
      go_wp2_with fail
      refine (retained_no v w10 N10.out).mono ?_
      rintro e w11' ⟨rfl, q11, rfl⟩
      obtain ⟨w11, hw11⟩ : ∃ x, x = w10.drewN q11 := ⟨_, rfl⟩
      rw [← hw11]
      have N11 := Lib.hid (show NoEnd w11 v by rw [hw11]; exact N10.out.later (below_draw w10 q11))
      have X11 := Lib.hid (show Below W.heap.size W w11 by rw [hw11]; exact below_drewN X10.out q11)
      clear hw11
      go_wp2_with fail
      refine (state_no v w11 N11.out).mono ?_
      rintro e w12' ⟨rfl, q12, rfl⟩
      obtain ⟨w12, hw12⟩ : ∃ x, x = w11.drewN q12 := ⟨_, rfl⟩
      rw [← hw12]
      have N12 := Lib.hid (show NoEnd w12 v by rw [hw12]; exact N11.out.later (below_draw w11 q12))
      have X12 := Lib.hid (show Below W.heap.size W w12 by rw [hw12]; exact below_drewN X11.out q12)
      clear hw12
      go_wp2
      exact ⟨⟨k + 1, by omega, by go_num, X12.out⟩, by simp [intOf]; omega⟩
    · obtain rfl : k = 2 := by omega
      go_wp2_with fail
      refine (lives_any wr).mono ?_
      rintro e w9 ⟨rfl, hb9⟩
      have B9 := Lib.hid (HW.out.2.2.trans ((HX.out.trans (hb9.mono HX.out.size)).mono HW.out.2.2.size))
      clear hb9
      go_wp2
      go_ret
      exact ⟨rfl, B9.out⟩
end Go.Proofs.Ytlmkmgfnfcnoaaa
