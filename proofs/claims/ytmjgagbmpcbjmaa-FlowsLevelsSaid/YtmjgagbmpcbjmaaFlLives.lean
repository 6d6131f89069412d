/- Statements of layer 10: several flow controls beside each other; the examples of the chapter. -/
import Derived.Test.YtmjgagbmpcbjmaaFlLaw
namespace Go.Proofs.Ytmjgagbmpcbjmaa
open Go.RowKit

/-- In w, at b, c, d, three flow controls, all behind what was there in w0. -/
structure Tri (w0 w : World) (b c d : Nat) (x y z : Fl) : Prop where
  x : FlAt w b x
  y : FlAt w c y
  z : FlAt w d z
  bc : b ≠ c
  bd : b ≠ d
  cd : c ≠ d
  lb : w0.heap.size ≤ b
  lc : w0.heap.size ≤ c
  ld : w0.heap.size ≤ d
  bel : Below w0.heap.size w0 w
theorem Tri.more {w0 w w' : World} {b c d : Nat} {x y z : Fl} (h : Tri w0 w b c d x y z) (hb : Below w.heap.size w w') : Tri w0 w' b c d x y z :=
  ⟨h.x.below hb, h.y.below hb, h.z.below hb, h.bc, h.bd, h.cd, h.lb, h.lc, h.ld, h.bel.trans (Below.mono hb h.bel.size)⟩
theorem Tri.s1 {w0 w w' : World} {b c d : Nat} {x y z x' : Fl} (h : Tri w0 w b c d x y z) (n : Nxt w b x' w') : Tri w0 w' b c d x' y z :=
  ⟨n.1, h.y.exc n.2 (fun e => h.bc e.symm), h.z.exc n.2 (fun e => h.bd e.symm), h.bc, h.bd, h.cd, h.lb, h.lc, h.ld, h.bel.trans (n.2.below h.bel.size (fun i _ e => by have := h.lb; omega))⟩
theorem Tri.s2 {w0 w w' : World} {b c d : Nat} {x y z y' : Fl} (h : Tri w0 w b c d x y z) (n : Nxt w c y' w') : Tri w0 w' b c d x y' z :=
  ⟨h.x.exc n.2 (fun e => h.bc e), n.1, h.z.exc n.2 (fun e => h.cd e.symm), h.bc, h.bd, h.cd, h.lb, h.lc, h.ld, h.bel.trans (n.2.below h.bel.size (fun i _ e => by have := h.lc; omega))⟩
theorem Tri.s3 {w0 w w' : World} {b c d : Nat} {x y z z' : Fl} (h : Tri w0 w b c d x y z) (n : Nxt w d z' w') : Tri w0 w' b c d x y z' :=
  ⟨h.x.exc n.2 (fun e => h.bd e), h.y.exc n.2 (fun e => h.cd e), n.1, h.bc, h.bd, h.cd, h.lb, h.lc, h.ld, h.bel.trans (n.2.below h.bel.size (fun i _ e => by have := h.ld; omega))⟩
abbrev tE : Tm := ⟨2, 3, 5⟩
theorem tE_fit : tE.Fit := by constructor <;> decide
def vA : Nat → Fl
  | 0 => ⟨tE, true, 0, false, false, 0, 0, false⟩
  | 1 => ⟨tE, true, 1, false, false, 0, 0, false⟩
  | 2 => ⟨tE, true, 0, false, false, 0, 0, false⟩
  | 3 => ⟨tE, true, 1, false, false, 0, 0, false⟩
  | 4 => ⟨tE, true, 0, false, false, 0, 0, false⟩
  | 5 => ⟨tE, true, 1, false, false, 0, 0, false⟩
  | _ => ⟨tE, true, 0, false, false, 0, 0, false⟩
def vB : Nat → Fl
  | 0 => ⟨tE, false, 0, false, false, 0, 5, false⟩
  | 1 => ⟨tE, false, 0, false, false, 2, 4, false⟩
  | 2 => ⟨tE, false, 0, false, false, 1, 3, false⟩
  | 3 => ⟨tE, false, 0, false, false, 0, 4, true⟩
  | 4 => ⟨tE, false, 0, false, false, 0, 4, true⟩
  | 5 => ⟨tE, false, 0, false, false, 0, 4, true⟩
  | _ => ⟨tE, false, 0, false, false, 0, 4, true⟩
def vC : Nat → Fl
  | 0 => ⟨tE, false, 0, false, false, 0, 5, false⟩
  | 1 => ⟨tE, false, 0, false, false, 2, 4, false⟩
  | 2 => ⟨tE, false, 0, false, false, 0, 4, false⟩
  | 3 => ⟨tE, false, 0, false, false, 0, 3, false⟩
  | 4 => ⟨tE, false, 0, false, false, 0, 2, false⟩
  | 5 => ⟨tE, false, 0, false, false, 0, 1, false⟩
  | _ => ⟨tE, false, 0, false, false, 0, 0, true⟩
theorem litNew (w : World) : Calls Try.prog 11 #[.agg #[.int .i64 2, .int .i64 3, .int .i64 5]] w fun e w' => ∃ b, e = .returned (.tuple #[.pointer (some ⟨b, 0, none⟩), .int .i64 0]) ∧ w.heap.size ≤ b ∧ FlAt w' b ⟨tE, false, 0, false, false, 0, 0, false⟩ ∧ Below w.heap.size w w' := by
  refine (show Calls Try.prog 11 #[.agg #[.int .i64 2, .int .i64 3, .int .i64 5]] w _ from fl_new_ok tE tE_fit w).mono ?_
  rintro e w' ⟨h1, b, rfl, h2, h3⟩
  exact ⟨b, rfl, h2, h3, h1⟩
theorem litLevels (s : Option Addr) (w : World) (h : Row .i64 w s 8 8 [3, 4, 3, 2, 9, 7, 6, 20]) : Calls Try.prog 27 #[.agg #[.int .i64 4, .int .i64 8, .int .i64 12, .int .i64 2, .int .i64 6, .int .i64 10], .slice s 8 8] w fun e w' => ∃ g, e = .returned (.tuple #[.slice (some ⟨g, 0, none⟩) 8 8, .int .i64 0]) ∧ w.heap.size ≤ g ∧ Row .i64 w' (some ⟨g, 0, none⟩) 8 8 [0, 1, 1, 0, 2, 2, 1, 3] ∧ Below w.heap.size w w' := by
  refine (fl_levels 4 8 12 2 6 10 s 8 8 [3, 4, 3, 2, 9, 7, 6, 20] w h (by decide)).mono ?_
  rintro e w' ⟨h1, h2⟩
  rw [if_pos (by decide)] at h2
  obtain ⟨g, rfl, h3, h4⟩ := h2
  have e1 : lvs (nxL 4 8 12 2 6 10) 0 [3, 4, 3, 2, 9, 7, 6, 20] = [0, 1, 1, 0, 2, 2, 1, 3] := by decide
  rw [e1] at h4
  exact ⟨g, rfl, h3, h4, h1⟩
set_option maxHeartbeats 4000000 in
set_option maxRecDepth 100000 in
theorem lives_any (w : World) : Calls Try.prog 10 #[] w fun e w' => e = .returned (.bool true) ∧ Below w.heap.size w w' := by
  obtain ⟨W, hW⟩ : ∃ X, X = w.alloc (.cells #[.int .i64 2, .int .i64 3, .int .i64 5] 31) := ⟨_, rfl⟩
  have oW : Own W w.heap.size 31 [.int .i64 2, .int .i64 3, .int .i64 5] := by rw [hW]; exact Blk.fresh w _ _ _ rfl
  have hbW : Below w.heap.size w W := by rw [hW]; exact below_alloc _ _
  have c0 := oW.cell 0 (by simp)
  have c1 := oW.cell 1 (by simp)
  have c2 := oW.cell 2 (by simp)
  simp only [List.getD_cons_succ, List.getD_cons_zero] at c0 c1 c2
  have HW := Lib.hid hW
  have HO := Lib.hid oW
  have HB := Lib.hid hbW
  clear hW oW hbW
  go_enter Try.func10, Try.ntmps10
  go_upto_region 2 with fail
  rw [← HW.out]
  clear HW
  go_wp2_with fail
  with_reducible refine (litNew _).mono ?_
  rintro e w1 ⟨b, rfl, l1, h1, b1⟩
  have o1 := HO.out.below b1 HO.out.lt
  have c0 := o1.cell 0 (by simp)
  have c1 := o1.cell 1 (by simp)
  have c2 := o1.cell 2 (by simp)
  simp only [List.getD_cons_succ, List.getD_cons_zero] at c0 c1 c2
  have H1 := Lib.hid (And.intro h1 (And.intro (Nat.le_trans HB.out.size l1) (And.intro (HB.out.trans (Below.mono b1 HB.out.size)) o1)))
  clear l1 h1 b1 o1 HO HB
  go_wp2_with fail
  with_reducible refine (litNew _).mono ?_
  rintro e w2 ⟨c, rfl, l2, h2, b2⟩
  have o2 := H1.out.2.2.2.below b2 H1.out.2.2.2.lt
  have c0 := o2.cell 0 (by simp)
  have c1 := o2.cell 1 (by simp)
  have c2 := o2.cell 2 (by simp)
  simp only [List.getD_cons_succ, List.getD_cons_zero] at c0 c1 c2
  have hs2 := H1.out.2.2.1.size
  have H2 := Lib.hid (And.intro (H1.out.1.below b2) (And.intro h2 (And.intro (show b < c from Nat.lt_of_lt_of_le H1.out.1.lt l2) (And.intro (Nat.le_trans hs2 l2) (And.intro (H1.out.2.2.1.trans (Below.mono b2 hs2)) (And.intro o2 H1.out.2.1))))))
  clear l2 h2 b2 o2 H1 hs2
  go_wp2_with fail
  with_reducible refine (litNew _).mono ?_
  rintro e w3 ⟨d, rfl, l3, h3, b3⟩
  obtain ⟨k1, k2, k3, k4, k5, k6, k7⟩ := H2.out
  have Hw3 := Lib.hid (show Tri w w3 b c d ⟨tE, false, 0, false, false, 0, 0, false⟩ ⟨tE, false, 0, false, false, 0, 0, false⟩ ⟨tE, false, 0, false, false, 0, 0, false⟩ from ⟨k1.below b3, k2.below b3, h3, by omega, by have := k2.lt; omega, by have := k2.lt; omega, k7, k4, Nat.le_trans k5.size l3, k5.trans (Below.mono b3 k5.size)⟩)
  clear l3 h3 b3 k1 k2 k3 k4 k5 k6 k7 H2 c0 c1 c2
  go_wp2_with fail
  with_reducible refine (show Calls Try.prog 19 #[.pointer (some ⟨b, 0, none⟩), .bool true] _ (fun e w' => e = .returned (.int .i64 0) ∧ Nxt _ b ⟨tE, true, 0, false, false, 0, 0, false⟩ w') from fl_congest b ⟨tE, false, 0, false, false, 0, 0, false⟩ true _ Hw3.out.x).mono ?_
  rintro e w4 ⟨rfl, hn⟩
  have Hw4 := Lib.hid (Hw3.out.s1 hn)
  clear hn Hw3
  go_wp2_with fail
  with_reducible refine (show Calls Try.prog 20 #[.pointer (some ⟨c, 0, none⟩), .bool true, .bool false] _ (fun e w' => e = .returned (.int .i64 0) ∧ Nxt _ c ⟨tE, false, 0, false, false, 0, 5, false⟩ w') from fl_open c ⟨tE, false, 0, false, false, 0, 0, false⟩ true false _ Hw4.out.y).mono ?_
  rintro e w5 ⟨rfl, hn⟩
  have Hw5 := Lib.hid (Hw4.out.s2 hn)
  clear hn Hw4
  go_wp2_with fail
  with_reducible refine (show Calls Try.prog 20 #[.pointer (some ⟨d, 0, none⟩), .bool true, .bool false] _ (fun e w' => e = .returned (.int .i64 0) ∧ Nxt _ d ⟨tE, false, 0, false, false, 0, 5, false⟩ w') from fl_open d ⟨tE, false, 0, false, false, 0, 0, false⟩ true false _ Hw5.out.z).mono ?_
  rintro e w6 ⟨rfl, hn⟩
  have Hw6 := Lib.hid (Hw5.out.s3 hn)
  clear hn Hw5
  go_wp2_with fail
  go_loopw [8] (fun v wr => ∃ k : Nat, k ≤ 6 ∧ v = .int .i64 k ∧ Tri w wr b c d (vA k) (vB k) (vC k)) (fun v _ => 6 - (intOf v).toNat)
  case atStart => exact ⟨0, Nat.zero_le _, rfl, Hw6.out⟩
  case round =>
    obtain ⟨k, hk, rfl, hh⟩ := hrel
    clear Hw6
    have hkk : k = 0 ∨ k = 1 ∨ k = 2 ∨ k = 3 ∨ k = 4 ∨ k = 5 ∨ k = 6 := by omega
    clear hk
    rcases hkk with rfl | rfl | rfl | rfl | rfl | rfl | rfl
    · have HG := Lib.hid (show Tri w wr b c d ⟨tE, true, 0, false, false, 0, 0, false⟩ ⟨tE, false, 0, false, false, 0, 5, false⟩ ⟨tE, false, 0, false, false, 0, 5, false⟩ from hh)
      clear hh
      go_wp2_with fail
      with_reducible refine (show Calls Try.prog 16 #[.pointer (some ⟨b, 0, none⟩)] _ (fun e w' => e = .returned (.int .u8 5) ∧ w' = _) from lsends b ⟨tE, true, 0, false, false, 0, 0, false⟩ _ HG.out.x).mono ?_
      rintro e w' ⟨rfl, rfl⟩
      go_wp2_with fail
      with_reducible refine (show Calls Try.prog 22 #[.pointer (some ⟨c, 0, none⟩), .int .u8 5, .bool true] _ (fun e w' => e = .returned (.int .i64 0) ∧ Nxt _ c ⟨tE, false, 0, false, false, 3, 5, false⟩ w') from fl_hear c ⟨tE, false, 0, false, false, 0, 5, false⟩ 5 true _ HG.out.y (by decide)).mono ?_
      rintro e v1 ⟨rfl, hn⟩
      have Hv1 := Lib.hid (HG.out.s2 hn)
      clear hn HG
      go_wp2_with fail
      with_reducible refine (show Calls Try.prog 22 #[.pointer (some ⟨d, 0, none⟩), .int .u8 5, .bool true] _ (fun e w' => e = .returned (.int .i64 0) ∧ Nxt _ d ⟨tE, false, 0, false, false, 3, 5, false⟩ w') from fl_hear d ⟨tE, false, 0, false, false, 0, 5, false⟩ 5 true _ Hv1.out.z (by decide)).mono ?_
      rintro e v2 ⟨rfl, hn⟩
      have Hv2 := Lib.hid (Hv1.out.s3 hn)
      clear hn Hv1
      go_wp2_with fail
      with_reducible refine (show Calls Try.prog 23 #[.pointer (some ⟨b, 0, none⟩)] _ (fun e w' => e = .returned (.int .i64 0) ∧ Nxt _ b ⟨tE, true, 1, false, false, 0, 0, false⟩ w') from fl_tick b ⟨tE, true, 0, false, false, 0, 0, false⟩ _ Hv2.out.x).mono ?_
      rintro e v3 ⟨rfl, hn⟩
      have Hv3 := Lib.hid (Hv2.out.s1 hn)
      clear hn Hv2
      go_wp2_with fail
      with_reducible refine (show Calls Try.prog 23 #[.pointer (some ⟨c, 0, none⟩)] _ (fun e w' => e = .returned (.int .i64 0) ∧ Nxt _ c ⟨tE, false, 0, false, false, 2, 4, false⟩ w') from fl_tick c ⟨tE, false, 0, false, false, 3, 5, false⟩ _ Hv3.out.y).mono ?_
      rintro e v4 ⟨rfl, hn⟩
      have Hv4 := Lib.hid (Hv3.out.s2 hn)
      clear hn Hv3
      go_wp2_with fail
      with_reducible refine (show Calls Try.prog 23 #[.pointer (some ⟨d, 0, none⟩)] _ (fun e w' => e = .returned (.int .i64 0) ∧ Nxt _ d ⟨tE, false, 0, false, false, 2, 4, false⟩ w') from fl_tick d ⟨tE, false, 0, false, false, 3, 5, false⟩ _ Hv4.out.z).mono ?_
      rintro e v5 ⟨rfl, hn⟩
      have Hv5 := Lib.hid (Hv4.out.s3 hn)
      clear hn Hv4
      go_wp2_with fail
      with_reducible refine (show Calls Try.prog 18 #[.pointer (some ⟨c, 0, none⟩)] _ (fun e w' => e = .returned (.bool false) ∧ w' = _) from fl_failed c ⟨tE, false, 0, false, false, 2, 4, false⟩ _ Hv5.out.y).mono ?_
      rintro e w' ⟨rfl, rfl⟩
      go_wp2_with fail
      with_reducible refine (show Calls Try.prog 18 #[.pointer (some ⟨d, 0, none⟩)] _ (fun e w' => e = .returned (.bool false) ∧ w' = _) from fl_failed d ⟨tE, false, 0, false, false, 2, 4, false⟩ _ Hv5.out.z).mono ?_
      rintro e w' ⟨rfl, rfl⟩
      go_wp2_with fail
      exact ⟨⟨1, by omega, by go_num, Hv5.out⟩, by simp [intOf]⟩
    · have HG := Lib.hid (show Tri w wr b c d ⟨tE, true, 1, false, false, 0, 0, false⟩ ⟨tE, false, 0, false, false, 2, 4, false⟩ ⟨tE, false, 0, false, false, 2, 4, false⟩ from hh)
      clear hh
      go_wp2_with fail
      with_reducible refine (show Calls Try.prog 16 #[.pointer (some ⟨b, 0, none⟩)] _ (fun e w' => e = .returned (.int .u8 9) ∧ w' = _) from lsends b ⟨tE, true, 1, false, false, 0, 0, false⟩ _ HG.out.x).mono ?_
      rintro e w' ⟨rfl, rfl⟩
      go_wp2_with fail
      with_reducible refine (show Calls Try.prog 20 #[.pointer (some ⟨d, 0, none⟩), .bool true, .bool true] _ (fun e w' => e = .returned (.int .i64 0) ∧ Nxt _ d ⟨tE, false, 0, false, false, 0, 5, false⟩ w') from fl_open d ⟨tE, false, 0, false, false, 2, 4, false⟩ true true _ HG.out.z).mono ?_
      rintro e v1 ⟨rfl, hn⟩
      have Hv1 := Lib.hid (HG.out.s3 hn)
      clear hn HG
      go_wp2_with fail
      with_reducible refine (show Calls Try.prog 23 #[.pointer (some ⟨b, 0, none⟩)] _ (fun e w' => e = .returned (.int .i64 0) ∧ Nxt _ b ⟨tE, true, 0, false, false, 0, 0, false⟩ w') from fl_tick b ⟨tE, true, 1, false, false, 0, 0, false⟩ _ Hv1.out.x).mono ?_
      rintro e v2 ⟨rfl, hn⟩
      have Hv2 := Lib.hid (Hv1.out.s1 hn)
      clear hn Hv1
      go_wp2_with fail
      with_reducible refine (show Calls Try.prog 23 #[.pointer (some ⟨c, 0, none⟩)] _ (fun e w' => e = .returned (.int .i64 0) ∧ Nxt _ c ⟨tE, false, 0, false, false, 1, 3, false⟩ w') from fl_tick c ⟨tE, false, 0, false, false, 2, 4, false⟩ _ Hv2.out.y).mono ?_
      rintro e v3 ⟨rfl, hn⟩
      have Hv3 := Lib.hid (Hv2.out.s2 hn)
      clear hn Hv2
      go_wp2_with fail
      with_reducible refine (show Calls Try.prog 23 #[.pointer (some ⟨d, 0, none⟩)] _ (fun e w' => e = .returned (.int .i64 0) ∧ Nxt _ d ⟨tE, false, 0, false, false, 0, 4, false⟩ w') from fl_tick d ⟨tE, false, 0, false, false, 0, 5, false⟩ _ Hv3.out.z).mono ?_
      rintro e v4 ⟨rfl, hn⟩
      have Hv4 := Lib.hid (Hv3.out.s3 hn)
      clear hn Hv3
      go_wp2_with fail
      with_reducible refine (show Calls Try.prog 18 #[.pointer (some ⟨c, 0, none⟩)] _ (fun e w' => e = .returned (.bool false) ∧ w' = _) from fl_failed c ⟨tE, false, 0, false, false, 1, 3, false⟩ _ Hv4.out.y).mono ?_
      rintro e w' ⟨rfl, rfl⟩
      go_wp2_with fail
      with_reducible refine (show Calls Try.prog 18 #[.pointer (some ⟨d, 0, none⟩)] _ (fun e w' => e = .returned (.bool false) ∧ w' = _) from fl_failed d ⟨tE, false, 0, false, false, 0, 4, false⟩ _ Hv4.out.z).mono ?_
      rintro e w' ⟨rfl, rfl⟩
      go_wp2_with fail
      exact ⟨⟨2, by omega, by go_num, Hv4.out⟩, by simp [intOf]⟩
    · have HG := Lib.hid (show Tri w wr b c d ⟨tE, true, 0, false, false, 0, 0, false⟩ ⟨tE, false, 0, false, false, 1, 3, false⟩ ⟨tE, false, 0, false, false, 0, 4, false⟩ from hh)
      clear hh
      go_wp2_with fail
      with_reducible refine (show Calls Try.prog 16 #[.pointer (some ⟨b, 0, none⟩)] _ (fun e w' => e = .returned (.int .u8 5) ∧ w' = _) from lsends b ⟨tE, true, 0, false, false, 0, 0, false⟩ _ HG.out.x).mono ?_
      rintro e w' ⟨rfl, rfl⟩
      go_wp2_with fail
      with_reducible refine (show Calls Try.prog 22 #[.pointer (some ⟨c, 0, none⟩), .int .u8 5, .bool true] _ (fun e w' => e = .returned (.int .i64 0) ∧ Nxt _ c ⟨tE, false, 0, false, false, 1, 5, false⟩ w') from fl_hear c ⟨tE, false, 0, false, false, 1, 3, false⟩ 5 true _ HG.out.y (by decide)).mono ?_
      rintro e v1 ⟨rfl, hn⟩
      have Hv1 := Lib.hid (HG.out.s2 hn)
      clear hn HG
      go_wp2_with fail
      with_reducible refine (show Calls Try.prog 22 #[.pointer (some ⟨d, 0, none⟩), .int .u8 5, .bool false] _ (fun e w' => e = .returned (.int .i64 0) ∧ Nxt _ d ⟨tE, false, 0, false, false, 0, 4, false⟩ w') from fl_hear d ⟨tE, false, 0, false, false, 0, 4, false⟩ 5 false _ Hv1.out.z (by decide)).mono ?_
      rintro e v2 ⟨rfl, hn⟩
      have Hv2 := Lib.hid (Hv1.out.s3 hn)
      clear hn Hv1
      go_wp2_with fail
      with_reducible refine (show Calls Try.prog 23 #[.pointer (some ⟨b, 0, none⟩)] _ (fun e w' => e = .returned (.int .i64 0) ∧ Nxt _ b ⟨tE, true, 1, false, false, 0, 0, false⟩ w') from fl_tick b ⟨tE, true, 0, false, false, 0, 0, false⟩ _ Hv2.out.x).mono ?_
      rintro e v3 ⟨rfl, hn⟩
      have Hv3 := Lib.hid (Hv2.out.s1 hn)
      clear hn Hv2
      go_wp2_with fail
      with_reducible refine (show Calls Try.prog 23 #[.pointer (some ⟨c, 0, none⟩)] _ (fun e w' => e = .returned (.int .i64 0) ∧ Nxt _ c ⟨tE, false, 0, false, false, 0, 4, true⟩ w') from fl_tick c ⟨tE, false, 0, false, false, 1, 5, false⟩ _ Hv3.out.y).mono ?_
      rintro e v4 ⟨rfl, hn⟩
      have Hv4 := Lib.hid (Hv3.out.s2 hn)
      clear hn Hv3
      go_wp2_with fail
      with_reducible refine (show Calls Try.prog 23 #[.pointer (some ⟨d, 0, none⟩)] _ (fun e w' => e = .returned (.int .i64 0) ∧ Nxt _ d ⟨tE, false, 0, false, false, 0, 3, false⟩ w') from fl_tick d ⟨tE, false, 0, false, false, 0, 4, false⟩ _ Hv4.out.z).mono ?_
      rintro e v5 ⟨rfl, hn⟩
      have Hv5 := Lib.hid (Hv4.out.s3 hn)
      clear hn Hv4
      go_wp2_with fail
      with_reducible refine (show Calls Try.prog 18 #[.pointer (some ⟨c, 0, none⟩)] _ (fun e w' => e = .returned (.bool true) ∧ w' = _) from fl_failed c ⟨tE, false, 0, false, false, 0, 4, true⟩ _ Hv5.out.y).mono ?_
      rintro e w' ⟨rfl, rfl⟩
      go_wp2_with fail
      with_reducible refine (show Calls Try.prog 18 #[.pointer (some ⟨d, 0, none⟩)] _ (fun e w' => e = .returned (.bool false) ∧ w' = _) from fl_failed d ⟨tE, false, 0, false, false, 0, 3, false⟩ _ Hv5.out.z).mono ?_
      rintro e w' ⟨rfl, rfl⟩
      go_wp2_with fail
      exact ⟨⟨3, by omega, by go_num, Hv5.out⟩, by simp [intOf]⟩
    · have HG := Lib.hid (show Tri w wr b c d ⟨tE, true, 1, false, false, 0, 0, false⟩ ⟨tE, false, 0, false, false, 0, 4, true⟩ ⟨tE, false, 0, false, false, 0, 3, false⟩ from hh)
      clear hh
      go_wp2_with fail
      with_reducible refine (show Calls Try.prog 16 #[.pointer (some ⟨b, 0, none⟩)] _ (fun e w' => e = .returned (.int .u8 9) ∧ w' = _) from lsends b ⟨tE, true, 1, false, false, 0, 0, false⟩ _ HG.out.x).mono ?_
      rintro e w' ⟨rfl, rfl⟩
      go_wp2_with fail
      with_reducible refine (show Calls Try.prog 23 #[.pointer (some ⟨b, 0, none⟩)] _ (fun e w' => e = .returned (.int .i64 0) ∧ Nxt _ b ⟨tE, true, 0, false, false, 0, 0, false⟩ w') from fl_tick b ⟨tE, true, 1, false, false, 0, 0, false⟩ _ HG.out.x).mono ?_
      rintro e v1 ⟨rfl, hn⟩
      have Hv1 := Lib.hid (HG.out.s1 hn)
      clear hn HG
      go_wp2_with fail
      with_reducible refine (show Calls Try.prog 23 #[.pointer (some ⟨c, 0, none⟩)] _ (fun e w' => e = .returned (.int .i64 6) ∧ Nxt _ c ⟨tE, false, 0, false, false, 0, 4, true⟩ w') from fl_tick c ⟨tE, false, 0, false, false, 0, 4, true⟩ _ Hv1.out.y).mono ?_
      rintro e v2 ⟨rfl, hn⟩
      have Hv2 := Lib.hid (Hv1.out.s2 hn)
      clear hn Hv1
      go_wp2_with fail
      with_reducible refine (show Calls Try.prog 23 #[.pointer (some ⟨d, 0, none⟩)] _ (fun e w' => e = .returned (.int .i64 0) ∧ Nxt _ d ⟨tE, false, 0, false, false, 0, 2, false⟩ w') from fl_tick d ⟨tE, false, 0, false, false, 0, 3, false⟩ _ Hv2.out.z).mono ?_
      rintro e v3 ⟨rfl, hn⟩
      have Hv3 := Lib.hid (Hv2.out.s3 hn)
      clear hn Hv2
      go_wp2_with fail
      with_reducible refine (show Calls Try.prog 18 #[.pointer (some ⟨c, 0, none⟩)] _ (fun e w' => e = .returned (.bool true) ∧ w' = _) from fl_failed c ⟨tE, false, 0, false, false, 0, 4, true⟩ _ Hv3.out.y).mono ?_
      rintro e w' ⟨rfl, rfl⟩
      go_wp2_with fail
      with_reducible refine (show Calls Try.prog 18 #[.pointer (some ⟨d, 0, none⟩)] _ (fun e w' => e = .returned (.bool false) ∧ w' = _) from fl_failed d ⟨tE, false, 0, false, false, 0, 2, false⟩ _ Hv3.out.z).mono ?_
      rintro e w' ⟨rfl, rfl⟩
      go_wp2_with fail
      exact ⟨⟨4, by omega, by go_num, Hv3.out⟩, by simp [intOf]⟩
    · have HG := Lib.hid (show Tri w wr b c d ⟨tE, true, 0, false, false, 0, 0, false⟩ ⟨tE, false, 0, false, false, 0, 4, true⟩ ⟨tE, false, 0, false, false, 0, 2, false⟩ from hh)
      clear hh
      go_wp2_with fail
      with_reducible refine (show Calls Try.prog 16 #[.pointer (some ⟨b, 0, none⟩)] _ (fun e w' => e = .returned (.int .u8 5) ∧ w' = _) from lsends b ⟨tE, true, 0, false, false, 0, 0, false⟩ _ HG.out.x).mono ?_
      rintro e w' ⟨rfl, rfl⟩
      go_wp2_with fail
      with_reducible refine (show Calls Try.prog 22 #[.pointer (some ⟨c, 0, none⟩), .int .u8 5, .bool true] _ (fun e w' => e = .returned (.int .i64 6) ∧ Nxt _ c ⟨tE, false, 0, false, false, 0, 4, true⟩ w') from fl_hear c ⟨tE, false, 0, false, false, 0, 4, true⟩ 5 true _ HG.out.y (by decide)).mono ?_
      rintro e v1 ⟨rfl, hn⟩
      have Hv1 := Lib.hid (HG.out.s2 hn)
      clear hn HG
      go_wp2_with fail
      with_reducible refine (show Calls Try.prog 22 #[.pointer (some ⟨d, 0, none⟩), .int .u8 5, .bool false] _ (fun e w' => e = .returned (.int .i64 0) ∧ Nxt _ d ⟨tE, false, 0, false, false, 0, 2, false⟩ w') from fl_hear d ⟨tE, false, 0, false, false, 0, 2, false⟩ 5 false _ Hv1.out.z (by decide)).mono ?_
      rintro e v2 ⟨rfl, hn⟩
      have Hv2 := Lib.hid (Hv1.out.s3 hn)
      clear hn Hv1
      go_wp2_with fail
      with_reducible refine (show Calls Try.prog 23 #[.pointer (some ⟨b, 0, none⟩)] _ (fun e w' => e = .returned (.int .i64 0) ∧ Nxt _ b ⟨tE, true, 1, false, false, 0, 0, false⟩ w') from fl_tick b ⟨tE, true, 0, false, false, 0, 0, false⟩ _ Hv2.out.x).mono ?_
      rintro e v3 ⟨rfl, hn⟩
      have Hv3 := Lib.hid (Hv2.out.s1 hn)
      clear hn Hv2
      go_wp2_with fail
      with_reducible refine (show Calls Try.prog 23 #[.pointer (some ⟨c, 0, none⟩)] _ (fun e w' => e = .returned (.int .i64 6) ∧ Nxt _ c ⟨tE, false, 0, false, false, 0, 4, true⟩ w') from fl_tick c ⟨tE, false, 0, false, false, 0, 4, true⟩ _ Hv3.out.y).mono ?_
      rintro e v4 ⟨rfl, hn⟩
      have Hv4 := Lib.hid (Hv3.out.s2 hn)
      clear hn Hv3
      go_wp2_with fail
      with_reducible refine (show Calls Try.prog 23 #[.pointer (some ⟨d, 0, none⟩)] _ (fun e w' => e = .returned (.int .i64 0) ∧ Nxt _ d ⟨tE, false, 0, false, false, 0, 1, false⟩ w') from fl_tick d ⟨tE, false, 0, false, false, 0, 2, false⟩ _ Hv4.out.z).mono ?_
      rintro e v5 ⟨rfl, hn⟩
      have Hv5 := Lib.hid (Hv4.out.s3 hn)
      clear hn Hv4
      go_wp2_with fail
      with_reducible refine (show Calls Try.prog 18 #[.pointer (some ⟨c, 0, none⟩)] _ (fun e w' => e = .returned (.bool true) ∧ w' = _) from fl_failed c ⟨tE, false, 0, false, false, 0, 4, true⟩ _ Hv5.out.y).mono ?_
      rintro e w' ⟨rfl, rfl⟩
      go_wp2_with fail
      with_reducible refine (show Calls Try.prog 18 #[.pointer (some ⟨d, 0, none⟩)] _ (fun e w' => e = .returned (.bool false) ∧ w' = _) from fl_failed d ⟨tE, false, 0, false, false, 0, 1, false⟩ _ Hv5.out.z).mono ?_
      rintro e w' ⟨rfl, rfl⟩
      go_wp2_with fail
      exact ⟨⟨5, by omega, by go_num, Hv5.out⟩, by simp [intOf]⟩
    · have HG := Lib.hid (show Tri w wr b c d ⟨tE, true, 1, false, false, 0, 0, false⟩ ⟨tE, false, 0, false, false, 0, 4, true⟩ ⟨tE, false, 0, false, false, 0, 1, false⟩ from hh)
      clear hh
      go_wp2_with fail
      with_reducible refine (show Calls Try.prog 16 #[.pointer (some ⟨b, 0, none⟩)] _ (fun e w' => e = .returned (.int .u8 9) ∧ w' = _) from lsends b ⟨tE, true, 1, false, false, 0, 0, false⟩ _ HG.out.x).mono ?_
      rintro e w' ⟨rfl, rfl⟩
      go_wp2_with fail
      with_reducible refine (show Calls Try.prog 23 #[.pointer (some ⟨b, 0, none⟩)] _ (fun e w' => e = .returned (.int .i64 0) ∧ Nxt _ b ⟨tE, true, 0, false, false, 0, 0, false⟩ w') from fl_tick b ⟨tE, true, 1, false, false, 0, 0, false⟩ _ HG.out.x).mono ?_
      rintro e v1 ⟨rfl, hn⟩
      have Hv1 := Lib.hid (HG.out.s1 hn)
      clear hn HG
      go_wp2_with fail
      with_reducible refine (show Calls Try.prog 23 #[.pointer (some ⟨c, 0, none⟩)] _ (fun e w' => e = .returned (.int .i64 6) ∧ Nxt _ c ⟨tE, false, 0, false, false, 0, 4, true⟩ w') from fl_tick c ⟨tE, false, 0, false, false, 0, 4, true⟩ _ Hv1.out.y).mono ?_
      rintro e v2 ⟨rfl, hn⟩
      have Hv2 := Lib.hid (Hv1.out.s2 hn)
      clear hn Hv1
      go_wp2_with fail
      with_reducible refine (show Calls Try.prog 23 #[.pointer (some ⟨d, 0, none⟩)] _ (fun e w' => e = .returned (.int .i64 0) ∧ Nxt _ d ⟨tE, false, 0, false, false, 0, 0, true⟩ w') from fl_tick d ⟨tE, false, 0, false, false, 0, 1, false⟩ _ Hv2.out.z).mono ?_
      rintro e v3 ⟨rfl, hn⟩
      have Hv3 := Lib.hid (Hv2.out.s3 hn)
      clear hn Hv2
      go_wp2_with fail
      with_reducible refine (show Calls Try.prog 18 #[.pointer (some ⟨c, 0, none⟩)] _ (fun e w' => e = .returned (.bool true) ∧ w' = _) from fl_failed c ⟨tE, false, 0, false, false, 0, 4, true⟩ _ Hv3.out.y).mono ?_
      rintro e w' ⟨rfl, rfl⟩
      go_wp2_with fail
      with_reducible refine (show Calls Try.prog 18 #[.pointer (some ⟨d, 0, none⟩)] _ (fun e w' => e = .returned (.bool true) ∧ w' = _) from fl_failed d ⟨tE, false, 0, false, false, 0, 0, true⟩ _ Hv3.out.z).mono ?_
      rintro e w' ⟨rfl, rfl⟩
      go_wp2_with fail
      exact ⟨⟨6, by omega, by go_num, Hv3.out⟩, by simp [intOf]⟩
    · have HT := Lib.hid hh.bel
      clear hh
      go_wp2_with fail
      with_reducible refine (marks_any _).mono ?_
      rintro e w7 ⟨rfl, b7⟩
      have HT7 := Lib.hid (HT.out.trans (Below.mono b7 HT.out.size))
      clear b7 HT
      obtain ⟨W8, hW8⟩ : ∃ X, X = w7.alloc (.cells #[.int .i64 3, .int .i64 4, .int .i64 3, .int .i64 2, .int .i64 9, .int .i64 7, .int .i64 6, .int .i64 20] 3) := ⟨_, rfl⟩
      have r8 : Row .i64 W8 (some ⟨w7.heap.size, 0, none⟩) 8 8 [3, 4, 3, 2, 9, 7, 6, 20] := by rw [hW8]; exact row_lit .i64 w7 _ [3, 4, 3, 2, 9, 7, 6, 20] 8 rfl (by decide) (by decide)
      have b8 : Below w.heap.size w W8 := by rw [hW8]; exact HT7.out.alloc HT7.out.size _
      have HR8 := Lib.hid r8
      have HB8 := Lib.hid b8
      have HW8 := Lib.hid hW8
      clear r8 b8 hW8 HT7
      go_wp2_with fail
      rw [← HW8.out]
      clear HW8
      with_reducible refine (litLevels _ _ HR8.out).mono ?_
      rintro e w9 ⟨g, rfl, g9, r9, b9⟩
      have HB9 := Lib.hid (HB8.out.trans (Below.mono b9 HB8.out.size))
      have HR9 := Lib.hid r9
      clear g9 r9 b9 HB8 HR8
      obtain ⟨W10, hW10⟩ : ∃ X, X = w9.alloc (.cells #[.int .i64 0, .int .i64 1, .int .i64 1, .int .i64 0, .int .i64 2, .int .i64 2, .int .i64 1, .int .i64 3] 3) := ⟨_, rfl⟩
      obtain ⟨y, hy⟩ : ∃ y, y = w9.heap.size := ⟨_, rfl⟩
      have r10 : Row .i64 W10 (some ⟨y, 0, none⟩) 8 8 [0, 1, 1, 0, 2, 2, 1, 3] := by rw [hW10, hy]; exact row_lit .i64 w9 _ [0, 1, 1, 0, 2, 2, 1, 3] 8 rfl (by decide) (by decide)
      have r11 : Row .i64 W10 (some ⟨g, 0, none⟩) 8 8 [0, 1, 1, 0, 2, 2, 1, 3] := by rw [hW10]; exact HR9.out.later (below_alloc _ _)
      have b10 : Below w.heap.size w W10 := by rw [hW10]; exact HB9.out.alloc HB9.out.size _
      have H10 := Lib.hid (And.intro r10 (And.intro r11 b10))
      have HW10 := Lib.hid hW10
      have HY := Lib.hid hy
      clear r10 r11 b10 hW10 hy HB9 HR9
      go_upto_region 27 with fail
      rw [← HY.out, ← HW10.out]
      clear HW10 HY
      go_wp2_with fail
      go_loopw [13] (fun v wr => ∃ k : Nat, k ≤ 8 ∧ v = .int .i64 k ∧ Row .i64 wr (some ⟨y, 0, none⟩) 8 8 [0, 1, 1, 0, 2, 2, 1, 3] ∧ Row .i64 wr (some ⟨g, 0, none⟩) 8 8 [0, 1, 1, 0, 2, 2, 1, 3] ∧ Below w.heap.size w wr) (fun v _ => 8 - (intOf v).toNat)
      case atStart => exact ⟨0, Nat.zero_le _, rfl, H10.out.1, H10.out.2.1, H10.out.2.2⟩
      case round =>
        obtain ⟨k, hk, rfl, r1, r2, b1⟩ := hrel
        clear H10
        have H := Lib.hid (And.intro r1 (And.intro r2 b1))
        clear r1 r2 b1
        by_cases hlt : k < 8
        · have hki : (k : Int) < 8 := by omega
          have k0 : (0 : Int) ≤ (k : Int) := by omega
          have hw1 : IntKind.i64.wrap ((k : Int) + 1) = ((k + 1 : Nat) : Int) := by rw [IntWalk.i64_in _ (by omega)]; omega
          obtain ⟨K, hK⟩ : ∃ K, K = k + 1 := ⟨_, rfl⟩
          rw [← hK] at hw1
          rcases H.out.1.cells with h0 | ⟨p1, o1, e1, q1⟩
          · exact absurd h0 (by decide)
          rcases H.out.2.1.cells with h0 | ⟨p2, o2, e2, q2⟩
          · exact absurd h0 (by decide)
          cases e1
          cases e2
          have d1 := q1 k hlt
          have d2 := q2 k hlt
          rw [Nat.zero_add] at d1 d2
          obtain ⟨x, hx⟩ : ∃ x, x = ([0, 1, 1, 0, 2, 2, 1, 3] : List Int).getD k 0 := ⟨_, rfl⟩
          rw [← hx] at d1 d2
          have HK := Lib.hid (And.intro hK hlt)
          clear hK hlt hk q1 q2 hx
          go_wp2_with fail
          go_quiet (fail)
          go_wp2
          obtain ⟨hK, hlt⟩ := HK.out
          exact ⟨⟨K, by omega, by rfl, H.out.1.later (below_draw _ _), H.out.2.1.later (below_draw _ _), H.out.2.2.trans ((below_draw _ _).mono H.out.2.2.size)⟩, by simp only [intOf]; omega⟩
        · obtain rfl : k = 8 := by omega
          clear hlt hk
          go_wp2_with fail
          with_reducible refine (fl_usual _).mono ?_
          rintro e w12 ⟨rfl, b12⟩
          have HE := Lib.hid (H.out.2.2.trans (Below.mono b12 H.out.2.2.size))
          clear b12 H
          go_wp2
          go_ret
          exact ⟨rfl, HE.out⟩
end Go.Proofs.Ytmjgagbmpcbjmaa
