/- Statements of layer 10: FlowsErrors. -/
import Derived.Test.YtmjgagbmpcbjmaaFlOne
import Derived.Deep.CutBlock
namespace Go.Proofs.Ytmjgagbmpcbjmaa
open Go.RowKit

/-- The wanted error behind k times. -/
def wantT (t0 t1 t2 : Int) (k : Nat) : Nat := if (1 ≤ k → okTime t0 = true) ∧ (2 ≤ k → okTime t1 = true) ∧ (3 ≤ k → okTime t2 = true) then 0 else 1
/-- A failed flow control. -/
def Fl.dead (t : Tm) : Fl := ⟨t, false, 0, false, false, 0, 0, true⟩
theorem dead_hear (t : Tm) (s : Nat) (h : s < 4) : (Fl.new t).hear s true = Fl.dead t := by
  have h1 : ¬ 5 < s := by omega
  have h2 : ¬ s = 4 := by omega
  have h3 : ¬ s = 5 := by omega
  simp [Fl.new, Fl.hear, Fl.dead, h1, h2, h3]
theorem dead_code (t : Tm) (s : Nat) (h : s < 4) : (Fl.new t).hearCode s true = 0 := by
  have h1 : ¬ 5 < s := by omega
  simp [Fl.new, Fl.hearCode, h1]
theorem dead_act (t : Tm) (a : Nat) : (Fl.dead t).act a = Fl.dead t := by
  unfold Fl.act
  repeat' split
  all_goals rfl
theorem dead_err (t : Tm) (a : Nat) : (Fl.dead t).err a = 6 := by
  unfold Fl.err
  split <;> rfl
theorem hear_dead {w0 w : World} {b : Nat} {t : Tm} (h : One w0 w b (Fl.new t)) (s : Nat) (hs : s < 4) :
    Calls Try.prog 22 #[.pointer (some ⟨b, 0, none⟩), .int .u8 (s : Int), .bool true] w fun e w' => e = .returned (.int .i64 0) ∧ One w0 w' b (Fl.dead t) := by
  have := hear_one h s true (by omega)
  rw [dead_hear t s hs, dead_code t s hs] at this
  exact this
theorem perform_dead {w0 w : World} {b : Nat} {t : Tm} (h : One w0 w b (Fl.dead t)) (a : Nat) (ha : a ≤ 255) :
    Calls Try.prog 13 #[.pointer (some ⟨b, 0, none⟩), .int .u8 (a : Int)] w fun e w' => e = .returned (.int .i64 6) ∧ One w0 w' b (Fl.dead t) := by
  have := perform_one h a ha
  rw [dead_err, dead_act] at this
  exact this
theorem failed_dead {w0 w : World} {b : Nat} {t : Tm} (h : One w0 w b (Fl.dead t)) :
    Calls Try.prog 18 #[.pointer (some ⟨b, 0, none⟩)] w fun e w' => e = .returned (.bool true) ∧ w' = w := failed_one h
theorem sends_dead {w0 w : World} {b : Nat} {t : Tm} (h : One w0 w b (Fl.dead t)) :
    Calls Try.prog 16 #[.pointer (some ⟨b, 0, none⟩)] w fun e w' => e = .returned (.int .u8 9) ∧ w' = w := lsends_one h
set_option maxHeartbeats 4000000 in
set_option maxRecDepth 100000 in
theorem errors_any (t0 t1 t2 : Int) (a : Nat) (w : World) (ha : a ≤ 255) :
    Calls Try.prog 9 #[.agg #[.int .i64 t0, .int .i64 t1, .int .i64 t2], .int .u8 (a : Int)] w fun e w' => e = .returned (.bool true) ∧ Below w.heap.size w w' := by
  obtain ⟨W, hW⟩ : ∃ X, X = w.alloc (.cells #[.int .i64 t0, .int .i64 t1, .int .i64 t2] 31) := ⟨_, rfl⟩
  have oW : Own W w.heap.size 31 [.int .i64 t0, .int .i64 t1, .int .i64 t2] := by rw [hW]; exact Blk.fresh w _ _ _ rfl
  have hbW : Below w.heap.size w W := by rw [hW]; exact below_alloc _ _
  obtain ⟨W2, hW2⟩ : ∃ X, X = W.alloc (.cells #[.int .i64 t0, .int .i64 t1, .int .i64 t2] 3) := ⟨_, rfl⟩
  obtain ⟨q, hq⟩ : ∃ q, q = W.heap.size := ⟨_, rfl⟩
  have oq : Own W2 q 3 [.int .i64 t0, .int .i64 t1, .int .i64 t2] := by rw [hW2, hq]; exact Blk.fresh W _ _ _ rfl
  have oW2 : Own W2 w.heap.size 31 [.int .i64 t0, .int .i64 t1, .int .i64 t2] := by rw [hW2]; exact oW.below (below_alloc W _) oW.lt
  have hb2 : Below w.heap.size w W2 := by rw [hW2]; exact hbW.alloc hbW.size _
  have c0 := oW.cell 0 (by simp)
  have c1 := oW.cell 1 (by simp)
  have c2 := oW.cell 2 (by simp)
  simp only [List.getD_cons_succ, List.getD_cons_zero] at c0 c1 c2
  have HW := Lib.hid hW
  have HW2 := Lib.hid hW2
  have Hq := Lib.hid hq
  have HO := Lib.hid (And.intro oq oW2)
  have HB2 := Lib.hid hb2
  have HLv := Lib.hid lives_any
  have HA := Lib.hid ha
  clear hW oW hbW hW2 hq oq oW2 hb2 ha
  by_cases hall : [t0, t1, t2].all okTime = true
  · have h3 : okTime t0 = true ∧ okTime t1 = true ∧ okTime t2 = true := by simpa using hall
    have k0 := of_decide_eq_true h3.1
    have k1 := of_decide_eq_true h3.2.1
    have k2 := of_decide_eq_true h3.2.2
    obtain ⟨t, ht⟩ : ∃ t : Tm, t = ⟨t0.toNat, t1.toNat, t2.toNat⟩ := ⟨_, rfl⟩
    have htf : t.Fit := by rw [ht]; constructor <;> dsimp only <;> omega
    have e0 : (t.again : Int) = t0 := by rw [ht]; dsimp only; omega
    have e1 : (t.most : Int) = t1 := by rw [ht]; dsimp only; omega
    have e2 : (t.wait : Int) = t2 := by rw [ht]; dsimp only; omega
    have hnew := new_one t htf (Below.refl W2.heap.size W2)
    rw [e0, e1, e2] at hnew
    have HNew := Lib.hid (show Calls Try.prog 11 #[.agg #[.int .i64 t0, .int .i64 t1, .int .i64 t2]] W2 (fun e w' => ∃ b, e = .returned (.tuple #[.pointer (some ⟨b, 0, none⟩), .int .i64 0]) ∧ One W2 w' b (Fl.new t) ∧ Below W2.heap.size W2 w') from hnew.mono (by rintro e w' ⟨b, h1, _, h2, h3⟩; exact ⟨b, h1, h2, h3⟩))
    have HWant := Lib.hid (show wantT t0 t1 t2 3 = 0 by unfold wantT; rw [if_pos ⟨fun _ => h3.1, fun _ => h3.2.1, fun _ => h3.2.2⟩])
    have hm4 : (a : Int) % 4 = ((a % 4 : Nat) : Int) := by omega
    obtain ⟨s, hs⟩ : ∃ s, s = a % 4 := ⟨_, rfl⟩
    rw [← hs] at hm4
    have HS := Lib.hid (show s < 4 by omega)
    clear hall h3 k0 k1 k2 ht htf e0 e1 e2 hnew hs
    have HBB := HB2
    go_enter Try.func9, Try.ntmps9
    go_upto_region 2 with fail
    rw [← HW.out]
    clear HW
    go_upto_region 3 with fail
    rw [← HW2.out, ← Hq.out]
    clear HW2 Hq c0 c1 c2
    have c0 := HO.out.2.cell 0 (by simp)
    have c1 := HO.out.2.cell 1 (by simp)
    have c2 := HO.out.2.cell 2 (by simp)
    have d0 := HO.out.1.cell 0 (by simp)
    have d1 := HO.out.1.cell 1 (by simp)
    have d2 := HO.out.1.cell 2 (by simp)
    simp only [List.getD_cons_succ, List.getD_cons_zero] at c0 c1 c2 d0 d1 d2
    go_wp2_with fail
    go_loopw [5, 7] (fun v i wr => ∃ k Q : Nat, k ≤ 3 ∧ v = .int .i64 (Q : Int) ∧ i = .int .i64 k ∧ Q = wantT t0 t1 t2 k ∧ wr = W2) (fun _ i _ => 3 - (intOf i).toNat)
    case atStart => exact ⟨0, 0, Nat.zero_le _, rfl, rfl, by unfold wantT; simp, rfl⟩
    case round =>
      obtain ⟨k, Q, hk, rfl, rfl, hQ, rfl⟩ := hrel
      have HQ := Lib.hid hQ
      have hkk : k = 0 ∨ k = 1 ∨ k = 2 ∨ k = 3 := by omega
      clear hk hQ
      rcases hkk with rfl | rfl | rfl | rfl
      · by_cases h1 : t0 < 1
        · have HF := Lib.hid (show okTime t0 = false from decide_eq_false (fun h => by omega))
          go_wp2
          exact ⟨⟨1, 1, by omega, by go_num, by go_num, by unfold wantT; rw [if_neg (fun h => by have := HF.out; have h0 := h.1 (by decide); rw [this] at h0; cases h0)], trivial⟩, by simp [intOf]⟩
        · by_cases h2 : 1048576 < t0
          · have HF := Lib.hid (show okTime t0 = false from decide_eq_false (fun h => by omega))
            go_wp2
            exact ⟨⟨1, 1, by omega, by go_num, by go_num, by unfold wantT; rw [if_neg (fun h => by have := HF.out; have h0 := h.1 (by decide); rw [this] at h0; cases h0)], trivial⟩, by simp [intOf]⟩
          · have HF := Lib.hid (show okTime t0 = true from decide_eq_true ⟨by omega, by omega⟩)
            go_wp2
            exact ⟨⟨1, Q, by omega, by go_num, by go_num, by rw [HQ.out]; unfold wantT; congr 1; apply propext; have := HF.out; constructor <;> intro h <;> refine ⟨fun _ => ?_, fun _ => ?_, fun _ => ?_⟩ <;> first | exact h.1 (by omega) | exact h.2.1 (by omega) | exact h.2.2 (by omega) | assumption | omega, trivial⟩, by simp [intOf]⟩
      · by_cases h1 : t1 < 1
        · have HF := Lib.hid (show okTime t1 = false from decide_eq_false (fun h => by omega))
          go_wp2
          exact ⟨⟨2, 1, by omega, by go_num, by go_num, by unfold wantT; rw [if_neg (fun h => by have := HF.out; have h1 := h.2.1 (by decide); rw [this] at h1; cases h1)], trivial⟩, by simp [intOf]⟩
        · by_cases h2 : 1048576 < t1
          · have HF := Lib.hid (show okTime t1 = false from decide_eq_false (fun h => by omega))
            go_wp2
            exact ⟨⟨2, 1, by omega, by go_num, by go_num, by unfold wantT; rw [if_neg (fun h => by have := HF.out; have h1 := h.2.1 (by decide); rw [this] at h1; cases h1)], trivial⟩, by simp [intOf]⟩
          · have HF := Lib.hid (show okTime t1 = true from decide_eq_true ⟨by omega, by omega⟩)
            go_wp2
            exact ⟨⟨2, Q, by omega, by go_num, by go_num, by rw [HQ.out]; unfold wantT; congr 1; apply propext; have := HF.out; constructor <;> intro h <;> refine ⟨fun _ => ?_, fun _ => ?_, fun _ => ?_⟩ <;> first | exact h.1 (by omega) | exact h.2.1 (by omega) | exact h.2.2 (by omega) | assumption | omega, trivial⟩, by simp [intOf]⟩
      · by_cases h1 : t2 < 1
        · have HF := Lib.hid (show okTime t2 = false from decide_eq_false (fun h => by omega))
          go_wp2
          exact ⟨⟨3, 1, by omega, by go_num, by go_num, by unfold wantT; rw [if_neg (fun h => by have := HF.out; have h2 := h.2.2 (by decide); rw [this] at h2; cases h2)], trivial⟩, by simp [intOf]⟩
        · by_cases h2 : 1048576 < t2
          · have HF := Lib.hid (show okTime t2 = false from decide_eq_false (fun h => by omega))
            go_wp2
            exact ⟨⟨3, 1, by omega, by go_num, by go_num, by unfold wantT; rw [if_neg (fun h => by have := HF.out; have h2 := h.2.2 (by decide); rw [this] at h2; cases h2)], trivial⟩, by simp [intOf]⟩
          · have HF := Lib.hid (show okTime t2 = true from decide_eq_true ⟨by omega, by omega⟩)
            go_wp2
            exact ⟨⟨3, Q, by omega, by go_num, by go_num, by rw [HQ.out]; unfold wantT; congr 1; apply propext; have := HF.out; constructor <;> intro h <;> refine ⟨fun _ => ?_, fun _ => ?_, fun _ => ?_⟩ <;> first | exact h.1 (by omega) | exact h.2.1 (by omega) | exact h.2.2 (by omega) | assumption | omega, trivial⟩, by simp [intOf]⟩
      · obtain rfl : Q = 0 := by rw [HQ.out, HWant.out]
        clear HQ d0 d1 d2
        go_wp2_with fail
        with_reducible refine HNew.out.mono ?_
        rintro e w3 ⟨b, rfl, hn, hb3⟩
        have HN := Lib.hid hn
        have HB3 := Lib.hid (HB2.out.trans (Below.mono hb3 HB2.out.size))
        clear hn hb3 HNew HB2 c0 c1 c2
        obtain ⟨W4, hW4⟩ : ∃ X, X = w3.alloc (.cells #[.int .i64 0, .int .i64 0, .int .i64 0, .bool false, .int .i64 0, .bool false, .bool false, .int .i64 0, .int .i64 0, .bool false] 62) := ⟨_, rfl⟩
        obtain ⟨z, hz⟩ : ∃ z, z = w3.heap.size := ⟨_, rfl⟩
        have hz0 : FlNone W4 (.pointer (some ⟨z, 0, none⟩)) := .inr ⟨z, rfl, by rw [hW4, hz]; exact Blk.fresh w3 _ _ _ rfl⟩
        have HZ := Lib.hid hz0
        have HNil := Lib.hid (show FlNone W4 (.pointer none) from .inl rfl)
        have HB4 := Lib.hid (show Below w.heap.size w W4 from by rw [hW4]; exact HB3.out.alloc HB3.out.size _)
        have HN4 := Lib.hid (show One wr W4 b (Fl.new t) from by rw [hW4]; exact HN.out.more (below_alloc w3 _))
        clear HN
        have HW4 := Lib.hid hW4
        have HZ0 := Lib.hid hz
        clear hz0 hW4 hz
        go_upto_region 13 with fail
        rw [← HZ0.out, ← HW4.out]
        clear HZ0 HW4 HB3
        go_wp2_with fail
        with_reducible refine (fl_held_none (.pointer none) _ HNil.out).mono ?_
        rintro e w' ⟨rfl, rfl⟩
        go_wp2_with fail
        with_reducible refine (fl_held_none (.pointer (some ⟨z, 0, none⟩)) _ HZ.out).mono ?_
        rintro e w' ⟨rfl, rfl⟩
        go_wp2_with fail
        with_reducible refine (perform_none (.pointer none) _ HNil.out a HA.out).mono ?_
        rintro e w' ⟨rfl, rfl⟩
        go_wp2_with fail
        with_reducible refine (perform_none (.pointer (some ⟨z, 0, none⟩)) _ HZ.out a HA.out).mono ?_
        rintro e w' ⟨rfl, rfl⟩
        go_wp2_with fail
        with_reducible refine (lsends_none (.pointer none) _ HNil.out).mono ?_
        rintro e w' ⟨rfl, rfl⟩
        go_wp2_with fail
        with_reducible refine (lsends_none (.pointer (some ⟨z, 0, none⟩)) _ HZ.out).mono ?_
        rintro e w' ⟨rfl, rfl⟩
        go_wp2_with fail
        with_reducible refine (fl_failed_none (.pointer none) _ HNil.out).mono ?_
        rintro e w' ⟨rfl, rfl⟩
        go_wp2_with fail
        with_reducible refine (fl_failed_none (.pointer (some ⟨z, 0, none⟩)) _ HZ.out).mono ?_
        rintro e w' ⟨rfl, rfl⟩
        go_wp2_with fail
        with_reducible refine (hear_dead HN4.out s HS.out).mono ?_
        rintro e w5 ⟨rfl, h5⟩
        have H5 := Lib.hid h5
        clear h5 HN4
        go_wp2_with fail
        with_reducible refine (failed_dead H5.out).mono ?_
        rintro e w' ⟨rfl, rfl⟩
        go_wp2_with fail
        with_reducible refine (sends_dead H5.out).mono ?_
        rintro e w' ⟨rfl, rfl⟩
        go_wp2_with fail
        with_reducible refine (perform_dead H5.out a HA.out).mono ?_
        rintro e w6 ⟨rfl, h6⟩
        have H6 := Lib.hid h6
        clear h6 H5
        go_wp2_with fail
        with_reducible refine (failed_dead H6.out).mono ?_
        rintro e w' ⟨rfl, rfl⟩
        go_wp2_with fail
        with_reducible refine (HLv.out _).mono ?_
        rintro e w99 ⟨rfl, hb99⟩
        have HB99 := Lib.hid ((HBB.out.trans (Below.mono H6.out.bel HBB.out.size)).trans (Below.mono hb99 (HBB.out.trans (Below.mono H6.out.bel HBB.out.size)).size))
        clear hb99 HLv
        go_wp2
        go_ret
        exact ⟨rfl, HB99.out⟩
  · have HNew := Lib.hid (show Calls Try.prog 11 #[.agg #[.int .i64 t0, .int .i64 t1, .int .i64 t2]] W2 (fun e w' => e = .returned (.tuple #[.pointer none, .int .i64 1]) ∧ Below W2.heap.size W2 w') from (fl_new t0 t1 t2 W2).mono (by rintro e w' ⟨h1, h2⟩; rw [if_neg hall] at h2; exact ⟨h2, h1⟩))
    have HWant := Lib.hid (show wantT t0 t1 t2 3 = 1 by unfold wantT; rw [if_neg (fun h => hall (by simp [h.1 (by decide), h.2.1 (by decide), h.2.2 (by decide)]))])
    clear hall
    go_enter Try.func9, Try.ntmps9
    go_upto_region 2 with fail
    rw [← HW.out]
    clear HW
    go_upto_region 3 with fail
    rw [← HW2.out, ← Hq.out]
    clear HW2 Hq c0 c1 c2
    have c0 := HO.out.2.cell 0 (by simp)
    have c1 := HO.out.2.cell 1 (by simp)
    have c2 := HO.out.2.cell 2 (by simp)
    have d0 := HO.out.1.cell 0 (by simp)
    have d1 := HO.out.1.cell 1 (by simp)
    have d2 := HO.out.1.cell 2 (by simp)
    simp only [List.getD_cons_succ, List.getD_cons_zero] at c0 c1 c2 d0 d1 d2
    go_wp2_with fail
    go_loopw [5, 7] (fun v i wr => ∃ k Q : Nat, k ≤ 3 ∧ v = .int .i64 (Q : Int) ∧ i = .int .i64 k ∧ Q = wantT t0 t1 t2 k ∧ wr = W2) (fun _ i _ => 3 - (intOf i).toNat)
    case atStart => exact ⟨0, 0, Nat.zero_le _, rfl, rfl, by unfold wantT; simp, rfl⟩
    case round =>
      obtain ⟨k, Q, hk, rfl, rfl, hQ, rfl⟩ := hrel
      have HQ := Lib.hid hQ
      have hkk : k = 0 ∨ k = 1 ∨ k = 2 ∨ k = 3 := by omega
      clear hk hQ
      rcases hkk with rfl | rfl | rfl | rfl
      · by_cases h1 : t0 < 1
        · have HF := Lib.hid (show okTime t0 = false from decide_eq_false (fun h => by omega))
          go_wp2
          exact ⟨⟨1, 1, by omega, by go_num, by go_num, by unfold wantT; rw [if_neg (fun h => by have := HF.out; have h0 := h.1 (by decide); rw [this] at h0; cases h0)], trivial⟩, by simp [intOf]⟩
        · by_cases h2 : 1048576 < t0
          · have HF := Lib.hid (show okTime t0 = false from decide_eq_false (fun h => by omega))
            go_wp2
            exact ⟨⟨1, 1, by omega, by go_num, by go_num, by unfold wantT; rw [if_neg (fun h => by have := HF.out; have h0 := h.1 (by decide); rw [this] at h0; cases h0)], trivial⟩, by simp [intOf]⟩
          · have HF := Lib.hid (show okTime t0 = true from decide_eq_true ⟨by omega, by omega⟩)
            go_wp2
            exact ⟨⟨1, Q, by omega, by go_num, by go_num, by rw [HQ.out]; unfold wantT; congr 1; apply propext; have := HF.out; constructor <;> intro h <;> refine ⟨fun _ => ?_, fun _ => ?_, fun _ => ?_⟩ <;> first | exact h.1 (by omega) | exact h.2.1 (by omega) | exact h.2.2 (by omega) | assumption | omega, trivial⟩, by simp [intOf]⟩
      · by_cases h1 : t1 < 1
        · have HF := Lib.hid (show okTime t1 = false from decide_eq_false (fun h => by omega))
          go_wp2
          exact ⟨⟨2, 1, by omega, by go_num, by go_num, by unfold wantT; rw [if_neg (fun h => by have := HF.out; have h1 := h.2.1 (by decide); rw [this] at h1; cases h1)], trivial⟩, by simp [intOf]⟩
        · by_cases h2 : 1048576 < t1
          · have HF := Lib.hid (show okTime t1 = false from decide_eq_false (fun h => by omega))
            go_wp2
            exact ⟨⟨2, 1, by omega, by go_num, by go_num, by unfold wantT; rw [if_neg (fun h => by have := HF.out; have h1 := h.2.1 (by decide); rw [this] at h1; cases h1)], trivial⟩, by simp [intOf]⟩
          · have HF := Lib.hid (show okTime t1 = true from decide_eq_true ⟨by omega, by omega⟩)
            go_wp2
            exact ⟨⟨2, Q, by omega, by go_num, by go_num, by rw [HQ.out]; unfold wantT; congr 1; apply propext; have := HF.out; constructor <;> intro h <;> refine ⟨fun _ => ?_, fun _ => ?_, fun _ => ?_⟩ <;> first | exact h.1 (by omega) | exact h.2.1 (by omega) | exact h.2.2 (by omega) | assumption | omega, trivial⟩, by simp [intOf]⟩
      · by_cases h1 : t2 < 1
        · have HF := Lib.hid (show okTime t2 = false from decide_eq_false (fun h => by omega))
          go_wp2
          exact ⟨⟨3, 1, by omega, by go_num, by go_num, by unfold wantT; rw [if_neg (fun h => by have := HF.out; have h2 := h.2.2 (by decide); rw [this] at h2; cases h2)], trivial⟩, by simp [intOf]⟩
        · by_cases h2 : 1048576 < t2
          · have HF := Lib.hid (show okTime t2 = false from decide_eq_false (fun h => by omega))
            go_wp2
            exact ⟨⟨3, 1, by omega, by go_num, by go_num, by unfold wantT; rw [if_neg (fun h => by have := HF.out; have h2 := h.2.2 (by decide); rw [this] at h2; cases h2)], trivial⟩, by simp [intOf]⟩
          · have HF := Lib.hid (show okTime t2 = true from decide_eq_true ⟨by omega, by omega⟩)
            go_wp2
            exact ⟨⟨3, Q, by omega, by go_num, by go_num, by rw [HQ.out]; unfold wantT; congr 1; apply propext; have := HF.out; constructor <;> intro h <;> refine ⟨fun _ => ?_, fun _ => ?_, fun _ => ?_⟩ <;> first | exact h.1 (by omega) | exact h.2.1 (by omega) | exact h.2.2 (by omega) | assumption | omega, trivial⟩, by simp [intOf]⟩
      · obtain rfl : Q = 1 := by rw [HQ.out, HWant.out]
        clear HQ d0 d1 d2
        go_wp2_with fail
        with_reducible refine HNew.out.mono ?_
        rintro e w3 ⟨rfl, hb3⟩
        have HB3 := Lib.hid (HB2.out.trans (Below.mono hb3 HB2.out.size))
        clear hb3 HNew HB2 c0 c1 c2
        obtain ⟨W4, hW4⟩ : ∃ X, X = w3.alloc (.cells #[.int .i64 0, .int .i64 0, .int .i64 0, .bool false, .int .i64 0, .bool false, .bool false, .int .i64 0, .int .i64 0, .bool false] 62) := ⟨_, rfl⟩
        obtain ⟨z, hz⟩ : ∃ z, z = w3.heap.size := ⟨_, rfl⟩
        have hz0 : FlNone W4 (.pointer (some ⟨z, 0, none⟩)) := .inr ⟨z, rfl, by rw [hW4, hz]; exact Blk.fresh w3 _ _ _ rfl⟩
        have HZ := Lib.hid hz0
        have HNil := Lib.hid (show FlNone W4 (.pointer none) from .inl rfl)
        have HB4 := Lib.hid (show Below w.heap.size w W4 from by rw [hW4]; exact HB3.out.alloc HB3.out.size _)
        have HW4 := Lib.hid hW4
        have HZ0 := Lib.hid hz
        clear hz0 hW4 hz
        go_upto_region 13 with fail
        rw [← HZ0.out, ← HW4.out]
        clear HZ0 HW4 HB3
        go_wp2_with fail
        with_reducible refine (fl_held_none (.pointer none) _ HNil.out).mono ?_
        rintro e w' ⟨rfl, rfl⟩
        go_wp2_with fail
        with_reducible refine (fl_held_none (.pointer (some ⟨z, 0, none⟩)) _ HZ.out).mono ?_
        rintro e w' ⟨rfl, rfl⟩
        go_wp2_with fail
        with_reducible refine (perform_none (.pointer none) _ HNil.out a HA.out).mono ?_
        rintro e w' ⟨rfl, rfl⟩
        go_wp2_with fail
        with_reducible refine (perform_none (.pointer (some ⟨z, 0, none⟩)) _ HZ.out a HA.out).mono ?_
        rintro e w' ⟨rfl, rfl⟩
        go_wp2_with fail
        with_reducible refine (lsends_none (.pointer none) _ HNil.out).mono ?_
        rintro e w' ⟨rfl, rfl⟩
        go_wp2_with fail
        with_reducible refine (lsends_none (.pointer (some ⟨z, 0, none⟩)) _ HZ.out).mono ?_
        rintro e w' ⟨rfl, rfl⟩
        go_wp2_with fail
        with_reducible refine (fl_failed_none (.pointer none) _ HNil.out).mono ?_
        rintro e w' ⟨rfl, rfl⟩
        go_wp2_with fail
        with_reducible refine (fl_failed_none (.pointer (some ⟨z, 0, none⟩)) _ HZ.out).mono ?_
        rintro e w' ⟨rfl, rfl⟩
        go_wp2_with fail
        with_reducible refine (HLv.out _).mono ?_
        rintro e w99 ⟨rfl, hb99⟩
        have HB99 := Lib.hid ((HB4.out).trans (Below.mono hb99 (HB4.out).size))
        clear hb99 HLv
        go_wp2
        go_ret
        exact ⟨rfl, HB99.out⟩
end Go.Proofs.Ytmjgagbmpcbjmaa
