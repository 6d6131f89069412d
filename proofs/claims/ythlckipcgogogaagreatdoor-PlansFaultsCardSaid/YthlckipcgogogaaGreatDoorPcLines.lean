/- Joined: PlChkM PcArr PcLines. -/
import Derived.Test.YthlckipcgogogaaGreatDoorPlN
import Derived.Test.YthlckipcgogogaaGreatDoorUnBase
import Derived.BigQuiet
import Derived.Deep.LoopGhost
import Derived.Test.YthlckipcgogogaaGreatDoorLbCmp
import Derived.Deep.RegionHeld3
/- The error of a plan, step by step: mathematics. -/
namespace Go.Proofs.YthlckipcgogogaaGreatDoor
set_option linter.unusedVariables false

theorem chk_big {p : Pn} (h : 64 < p.P.length ∨ 1024 < p.L.length) : 3 = chkPl p := by unfold chkPl; rw [if_pos h]
theorem chk_empty {p : Pn} (h : ¬ (64 < p.P.length ∨ 1024 < p.L.length)) (h0 : p.P.length = 0) : 1 = chkPl p := by unfold chkPl; rw [if_neg h, if_pos h0]
/-- Not too many places and lines, and a place. -/
structure Fits (p : Pn) : Prop where
  big : ¬ (64 < p.P.length ∨ 1024 < p.L.length)
  some : ¬ p.P.length = 0
theorem chk_place {p : Pn} (h : Fits p) {i : Nat} (hi : i < p.P.length) (hf : okPl p.P i = false) : 1 = chkPl p := by
  unfold chkPl
  rw [if_neg h.big, if_neg h.some, all_range_no hi hf, if_neg Bool.false_ne_true]
theorem chk_line {p : Pn} (h : Fits p) (hp : ∀ i, i < p.P.length → okPl p.P i = true) {i : Nat} (hi : i < p.L.length) (hf : okLn p.L i = false) : 1 = chkPl p := by
  unfold chkPl
  rw [if_neg h.big, if_neg h.some, if_pos (all_range.2 hp), all_range_no hi hf, if_neg Bool.false_ne_true]
theorem chk_end {p : Pn} (h : Fits p) (hp : ∀ i, i < p.P.length → okPl p.P i = true) (hl : ∀ i, i < p.L.length → okLn p.L i = true) {i : Nat} (hi : i < p.L.length) (hf : okEnd p.P p.L i = false) : 7 = chkPl p := by
  unfold chkPl
  rw [if_neg h.big, if_neg h.some, if_pos (all_range.2 hp), if_pos (all_range.2 hl), all_range_no hi hf, if_neg Bool.false_ne_true]
theorem chk_num {p : Pn} (h : Fits p) (hp : ∀ i, i < p.P.length → okPl p.P i = true) (hl : ∀ i, i < p.L.length → okLn p.L i = true) (he : ∀ i, i < p.L.length → okEnd p.P p.L i = true) : (if okNum p then 0 else 1) = chkPl p := by
  unfold chkPl
  rw [if_neg h.big, if_neg h.some, if_pos (all_range.2 hp), if_pos (all_range.2 hl), if_pos (all_range.2 he)]
theorem upto_succ {f : Nat → Bool} {k : Nat} (h : ∀ i, i < k → f i = true) (hk : f k = true) : ∀ i, i < k + 1 → f i = true := fun i hi => by
  by_cases e : i = k
  · rw [e]; exact hk
  · exact h i (by omega)
theorem okPl_big {P : List (Int × Bool)} {k : Nat} {x : Int} (h : x = pc P k) (hx : 16383 < x) : okPl P k = false := by
  unfold okPl; rw [← h, decide_eq_false (by omega), Bool.false_and]
theorem okPl_first {P : List (Int × Bool)} {k : Nat} {x : Int} (h : x = pc P k) (hx : ¬ 16383 < x) (h0 : k = 0) : okPl P k = true := by
  unfold okPl; rw [← h, decide_eq_true (show x ≤ 16383 by omega), decide_eq_true h0]; rfl
theorem okPl_next {P : List (Int × Bool)} {k m : Nat} {x y : Int} (h : x = pc P k) (hx : ¬ 16383 < x) (hm : m = k - 1) (g : y = pc P m) (hy : y < x) : okPl P k = true := by
  unfold okPl; rw [← h, ← hm, ← g, decide_eq_true (show x ≤ 16383 by omega), decide_eq_true hy, Bool.or_true]; rfl
theorem okPl_not {P : List (Int × Bool)} {k m : Nat} {x y : Int} (h : x = pc P k) (hm : m = k - 1) (g : y = pc P m) (h0 : ¬ k = 0) (hy : ¬ y < x) : okPl P k = false := by
  unfold okPl; rw [← h, ← hm, ← g, decide_eq_false h0, decide_eq_false hy, Bool.or_self, Bool.and_false]
theorem okLn_bad {L : List Ln} {k : Nat} {A B C D : Int} (h : ⟨A, B, C, D⟩ = lnAt L k) (hb : ¬ (A < B ∧ C ≤ 15 ∧ 1 ≤ D ∧ D ≤ 64)) : okLn L k = false := by
  cases e : okLn L k
  · rfl
  · unfold okLn at e
    rw [← h] at e
    simp only [Bool.and_eq_true, decide_eq_true_eq] at e
    exact absurd ⟨e.1.1.1.1, e.1.1.1.2, e.1.1.2, e.1.2⟩ hb
theorem okLn_first {L : List Ln} {k : Nat} {A B C D : Int} (h : ⟨A, B, C, D⟩ = lnAt L k) (h1 : A < B) (h2 : C ≤ 15) (h3 : 1 ≤ D) (h4 : D ≤ 64) (h0 : k = 0) : okLn L k = true := by
  unfold okLn
  rw [← h]
  simp only [Bool.and_eq_true, Bool.or_eq_true, decide_eq_true_eq]
  exact ⟨⟨⟨⟨h1, h2⟩, h3⟩, h4⟩, .inl h0⟩
theorem okLn_next {L : List Ln} {k m : Nat} {A B C D A2 B2 C2 D2 : Int} (h : ⟨A, B, C, D⟩ = lnAt L k) (h1 : A < B) (h2 : C ≤ 15) (h3 : 1 ≤ D) (h4 : D ≤ 64) (hm : m = k - 1) (g : ⟨A2, B2, C2, D2⟩ = lnAt L m) (hl : A2 < A ∨ A2 = A ∧ (B2 < B ∨ B2 = B ∧ C2 < C)) : okLn L k = true := by
  unfold okLn
  rw [← hm, ← h, ← g]
  simp only [Bool.and_eq_true, Bool.or_eq_true, decide_eq_true_eq]
  exact ⟨⟨⟨⟨h1, h2⟩, h3⟩, h4⟩, .inr (lt3B_iff.2 hl)⟩
theorem okLn_not {L : List Ln} {k m : Nat} {A B C D A2 B2 C2 D2 : Int} (h : ⟨A, B, C, D⟩ = lnAt L k) (hm : m = k - 1) (g : ⟨A2, B2, C2, D2⟩ = lnAt L m) (h0 : ¬ k = 0) (hl : ¬ (A2 < A ∨ A2 = A ∧ (B2 < B ∨ B2 = B ∧ C2 < C))) : okLn L k = false := by
  cases e : okLn L k
  · rfl
  · unfold okLn at e
    rw [← hm, ← h, ← g] at e
    simp only [Bool.and_eq_true, Bool.or_eq_true, decide_eq_true_eq] at e
    rcases e.2 with e | e
    · exact absurd e h0
    · exact absurd (lt3B_iff.1 e) hl
theorem idx_neg {P : List (Int × Bool)} {c : Int} : idxI P c < 0 ↔ fnd P c = none := by
  unfold idxI
  cases fnd P c <;> simp <;> omega
theorem okEnd_a {P : List (Int × Bool)} {L : List Ln} {k : Nat} {A B C D : Int} (h : ⟨A, B, C, D⟩ = lnAt L k) (ha : idxI P A < 0) : okEnd P L k = false := by
  unfold okEnd; rw [← h, idx_neg.1 ha]; rfl
theorem okEnd_b {P : List (Int × Bool)} {L : List Ln} {k : Nat} {A B C D : Int} (h : ⟨A, B, C, D⟩ = lnAt L k) (ha : idxI P B < 0) : okEnd P L k = false := by
  unfold okEnd; rw [← h, idx_neg.1 ha]; exact Bool.and_false _
theorem okEnd_t {P : List (Int × Bool)} {L : List Ln} {k : Nat} {A B C D : Int} (h : ⟨A, B, C, D⟩ = lnAt L k) (ha : ¬ idxI P A < 0) (hb : ¬ idxI P B < 0) : okEnd P L k = true := by
  unfold okEnd
  rw [← h]
  rw [idx_neg, Option.eq_none_iff_forall_ne_some] at ha hb
  have e1 : (fnd P A).isSome = true := by cases e : fnd P A; · exact absurd (idx_neg.2 e) (by rw [idx_neg, Option.eq_none_iff_forall_ne_some]; exact ha)
                                          · rfl
  have e2 : (fnd P B).isSome = true := by cases e : fnd P B; · exact absurd (idx_neg.2 e) (by rw [idx_neg, Option.eq_none_iff_forall_ne_some]; exact hb)
                                          · rfl
  simp only [e1, e2, Bool.and_self]
theorem num_bad {p : Pn} (h : Fits p) (hp : ∀ i, i < p.P.length → okPl p.P i = true) (hl : ∀ i, i < p.L.length → okLn p.L i = true) (he : ∀ i, i < p.L.length → okEnd p.P p.L i = true)
    (hb : ¬ (1 ≤ p.rate ∧ p.rate ≤ 16 ∧ 1 ≤ p.room ∧ p.room ≤ 64 ∧ 1 ≤ p.m0 ∧ p.m0 < p.m1 ∧ p.m1 < p.m2 ∧ p.m2 ≤ p.room)) : 1 = chkPl p := by
  rw [← chk_num h hp hl he, if_neg]
  intro e
  unfold okNum at e
  simp only [Bool.and_eq_true, decide_eq_true_eq] at e
  omega
theorem num_ok {p : Pn} (h : Fits p) (hp : ∀ i, i < p.P.length → okPl p.P i = true) (hl : ∀ i, i < p.L.length → okLn p.L i = true) (he : ∀ i, i < p.L.length → okEnd p.P p.L i = true)
    (hb : 1 ≤ p.rate ∧ p.rate ≤ 16 ∧ 1 ≤ p.room ∧ p.room ≤ 64 ∧ 1 ≤ p.m0 ∧ p.m0 < p.m1 ∧ p.m1 < p.m2 ∧ p.m2 ≤ p.room) : 0 = chkPl p := by
  rw [← chk_num h hp hl he, if_pos]
  unfold okNum
  simp only [Bool.and_eq_true, decide_eq_true_eq]
  omega
end Go.Proofs.YthlckipcgogogaaGreatDoor
/- The code's arePlaces. -/
namespace Go.Proofs.YthlckipcgogogaaGreatDoor
set_option linter.unusedVariables false
open Go.RowKit

theorem all_but {P : List (Int × Bool)} {n : Nat} (hn : P.length = n) : (decide (0 < n) && (List.range n).all (okPl P)) = (decide (0 < P.length) && (List.range P.length).all (okPl P)) := by rw [hn]
def arePl (P : List (Int × Bool)) : Bool := decide (0 < P.length) && (List.range P.length).all (okPl P)
theorem arePl_no {P : List (Int × Bool)} {k : Nat} (hk : k < P.length) (h : okPl P k = false) : arePl P = false := by unfold arePl; rw [all_range_no hk h, Bool.and_false]
theorem arePl_ok {P : List (Int × Bool)} (h : ∀ i, i < P.length → okPl P i = true) : arePl P = decide (0 < P.length) := by unfold arePl; rw [all_range.2 h, Bool.and_true]
set_option maxRecDepth 20000 in
set_option maxHeartbeats 2000000 in
theorem arePlaces_any (P : List (Int × Bool)) (a : Option Addr) (n c : Nat) (w : World) (hP : PRow w a n c P) :
    Calls Tryz.prog 50 #[.slice a n c] w fun e w' => e = .returned (.bool (arePl P)) ∧ Below w.heap.size w w' := by
  have hmax := hP.max
  have hle := hP.le
  unfold maxLen at hmax
  have HP := Lib.hid hP
  have HL := Lib.hid hP.len
  clear hP
  obtain ⟨B, hB⟩ : ∃ B, B = arePl P := ⟨_, rfl⟩
  rw [← hB]
  have HB := Lib.hid hB
  clear hB
  go_enter Tryz.func50, Tryz.ntmps50
  go_wp2_with fail
  go_loopw [7] (fun i wr => ∃ k : Nat, k ≤ n ∧ i = .int .i64 k ∧ (∀ j, j < k → okPl P j = true) ∧ Below w.heap.size w wr) (fun i _ => n - (intOf i).toNat)
  case atStart => exact ⟨0, Nat.zero_le _, rfl, fun j hj => absurd hj (Nat.not_lt_zero _), Below.refl _ _⟩
  case round =>
    obtain ⟨k, hk, rfl, hno, hb⟩ := hrel
    have HN := Lib.hid hno
    have HB2 := Lib.hid hb
    have HP2 := Lib.hid (HP.out.later hb)
    clear hno hb
    by_cases hkn : k < n
    · obtain ⟨b, off, rfl, hc⟩ := HP2.out.cells.resolve_left (by omega)
      obtain ⟨c0, c1⟩ := hc k hkn
      have HC := Lib.hid hc
      clear hc
      have hbl : b < wr.heap.size := World.block_lt_of_cell? _ _ c0
      obtain ⟨x, hx⟩ : ∃ x, x = pc P k := ⟨_, rfl⟩
      obtain ⟨y, hy⟩ : ∃ y, y = pt P k := ⟨_, rfl⟩
      have HX := Lib.hid hx
      rw [← hx] at c0
      rw [← hy] at c1
      clear hx hy
      have hbw := below_alloc wr (.cells #[.int .u16 x, .bool y] 72)
      have HBW := Lib.hid (HB2.out.trans (hbw.mono HB2.out.size))
      clear hbw
      by_cases hbig : 16383 < x
      · have HF := Lib.hid (arePl_no (k := k) (by have := HL.out; omega) (okPl_big HX.out hbig))
        go_wp2_with fail
        go_quiet (fail)
        go_wp2
        go_ret
        exact ⟨ret_bool (by rw [HB.out, HF.out]), HBW.out.trans ((below_draw _ _).mono HBW.out.size)⟩
      · have hbig' : decide (16383 < x) = false := by simpa using hbig
        by_cases h0 : k = 0
        · have HF := Lib.hid (okPl_first HX.out hbig h0)
          have k0 : decide (0 < k) = false := by simp; omega
          have H0 := Lib.hid h0
          clear h0
          go_wp2_with fail
          go_quiet (fail)
          go_wp2
          exact ⟨⟨k + 1, by omega, by go_num, upto_succ HN.out HF.out, HBW.out.trans ((below_draw _ _).mono HBW.out.size)⟩, by simp [intOf]; omega⟩
        · obtain ⟨m, rfl⟩ : ∃ m, k = m + 1 := ⟨k - 1, by omega⟩
          obtain ⟨e0, _⟩ := HC.out m (by omega)
          obtain ⟨z, hz⟩ : ∃ z, z = pc P m := ⟨_, rfl⟩
          have HZ := Lib.hid hz
          rw [← hz] at e0
          clear hz h0
          have k0 : decide (0 < m + 1) = true := by simp
          have k0i : (0 : Int) < (m : Int) + 1 := by omega
          have k0j : decide ((0 : Int) < (m : Int) + 1) = true := decide_eq_true k0i
          have w1 : IntKind.i64.wrap ((m : Int) + 1 - 1) = (m : Int) := by rw [IntWalk.i64_in _ (by omega)]; omega
          by_cases hlt : z < x
          · have HF := Lib.hid (okPl_next (m := m) HX.out hbig (by omega) HZ.out hlt)
            have hge : ¬ x ≤ z := by omega
            have hged : decide (x ≤ z) = false := decide_eq_false hge
            go_wp2_with fail
            go_quiet (fail)
            go_wp2
            exact ⟨⟨m + 1 + 1, by omega, by go_num, upto_succ HN.out HF.out, HBW.out.trans ((below_draw _ _).mono HBW.out.size)⟩, by simp [intOf]; omega⟩
          · have HF := Lib.hid (arePl_no (k := m + 1) (by have := HL.out; omega) (okPl_not (m := m) HX.out (by omega) HZ.out (by omega) hlt))
            have hge : x ≤ z := by omega
            have hged : decide (x ≤ z) = true := decide_eq_true hge
            go_wp2_with fail
            go_quiet (fail)
            go_wp2
            go_ret
            exact ⟨ret_bool (by rw [HB.out, HF.out]), HBW.out.trans ((below_draw _ _).mono HBW.out.size)⟩
    · have hkn' : k = n := by omega
      subst hkn'
      have HF := Lib.hid (arePl_ok (P := P) (by rw [HL.out]; exact HN.out))
      go_wp2
      go_ret
      exact ⟨ret_bool (by rw [HB.out, HF.out, HL.out]), HB2.out⟩
end Go.Proofs.YthlckipcgogogaaGreatDoor
/- The code's areLines. -/
namespace Go.Proofs.YthlckipcgogogaaGreatDoor
set_option linter.unusedVariables false
open Go.RowKit

def areLn (L : List Ln) : Bool := (List.range L.length).all (okLn L)
theorem areLn_no {L : List Ln} {k : Nat} (hk : k < L.length) (h : okLn L k = false) : areLn L = false := by unfold areLn; rw [all_range_no hk h]
theorem areLn_ok {L : List Ln} (h : ∀ i, i < L.length → okLn L i = true) : areLn L = true := by unfold areLn; rw [all_range.2 h]
theorem ordL_neg (a1 a2 a3 b1 b2 b3 : Int) : ordL a1 a2 a3 b1 b2 b3 < 0 ↔ (a1 < b1 ∨ a1 = b1 ∧ (a2 < b2 ∨ a2 = b2 ∧ a3 < b3)) := by
  unfold ordL orL
  rcases cmpL_cases a1 b1 with ⟨e1, h1⟩ | ⟨e1, h1⟩ | ⟨e1, h1⟩ <;> rcases cmpL_cases a2 b2 with ⟨e2, h2⟩ | ⟨e2, h2⟩ | ⟨e2, h2⟩ <;> rcases cmpL_cases a3 b3 with ⟨e3, h3⟩ | ⟨e3, h3⟩ | ⟨e3, h3⟩ <;> rw [e1, e2, e3] <;> simp <;> omega
set_option maxRecDepth 20000 in
set_option maxHeartbeats 4000000 in
theorem areLines_any (L : List Ln) (a : Option Addr) (n c : Nat) (w : World) (hL : LRow w a n c L) :
    Calls Tryz.prog 51 #[.slice a n c] w fun e w' => e = .returned (.bool (areLn L)) ∧ Below w.heap.size w w' := by
  have hmax := hL.max
  have hle := hL.le
  unfold maxLen at hmax
  have HP := Lib.hid hL
  have HL := Lib.hid hL.len
  clear hL
  obtain ⟨B0, hB0⟩ : ∃ B0, B0 = areLn L := ⟨_, rfl⟩
  rw [← hB0]
  have HB := Lib.hid hB0
  clear hB0
  go_enter Tryz.func51, Tryz.ntmps51
  go_wp2_with fail
  go_loopw [7] (fun i wr => ∃ k : Nat, k ≤ n ∧ i = .int .i64 k ∧ (∀ j, j < k → okLn L j = true) ∧ Below w.heap.size w wr) (fun i _ => n - (intOf i).toNat)
  case atStart => exact ⟨0, Nat.zero_le _, rfl, fun j hj => absurd hj (Nat.not_lt_zero _), Below.refl _ _⟩
  case round =>
    obtain ⟨k, hk, rfl, hno, hb⟩ := hrel
    have HN := Lib.hid hno
    have HB2 := Lib.hid hb
    have HP2 := Lib.hid (HP.out.later hb)
    clear hno hb
    by_cases hkn : k < n
    · obtain ⟨b, off, rfl, hc⟩ := HP2.out.cells.resolve_left (by omega)
      obtain ⟨c0, c1, c2, c3⟩ := hc k hkn
      have HC := Lib.hid hc
      clear hc
      have hbl : b < wr.heap.size := World.block_lt_of_cell? _ _ c0
      obtain ⟨l, hl⟩ : ∃ l, l = lnAt L k := ⟨_, rfl⟩
      rw [← hl] at c0 c1 c2 c3
      have HX := Lib.hid hl
      clear hl
      obtain ⟨A, B, C, D⟩ := l
      simp only at c0 c1 c2 c3
      have hbw := below_alloc wr (.cells #[.int .u16 A, .int .u16 B, .int .u8 C, .int .i64 D] 76)
      have HBW := Lib.hid (HB2.out.trans (hbw.mono HB2.out.size))
      clear hbw
      have NO : Hid (∀ (_ : okLn L k = false), B0 = false) := Lib.hid (fun h => by rw [HB.out, areLn_no (k := k) (by have := HL.out; omega) h])
      by_cases h1 : B ≤ A
      · have HF := Lib.hid (NO.out (okLn_bad HX.out (by omega)))
        go_wp2
        go_ret
        exact ⟨ret_bool HF.out.symm, HBW.out⟩
      by_cases h2 : 15 < C
      · have HF := Lib.hid (NO.out (okLn_bad HX.out (by omega)))
        go_wp2
        go_ret
        exact ⟨ret_bool HF.out.symm, HBW.out⟩
      by_cases h3 : D < 1
      · have HF := Lib.hid (NO.out (okLn_bad HX.out (by omega)))
        go_wp2
        go_ret
        exact ⟨ret_bool HF.out.symm, HBW.out⟩
      by_cases h4 : 64 < D
      · have HF := Lib.hid (NO.out (okLn_bad HX.out (by omega)))
        go_wp2
        go_ret
        exact ⟨ret_bool HF.out.symm, HBW.out⟩
      by_cases h0 : k = 0
      · have HF := Lib.hid (okLn_first HX.out (by omega) (by omega) (by omega) (by omega) h0)
        have k0 : decide (0 < k) = false := by simp; omega
        have H0 := Lib.hid h0
        clear h0
        go_wp2_with fail
        go_quiet (fail)
        go_wp2
        exact ⟨⟨k + 1, by omega, by go_num, upto_succ HN.out HF.out, HBW.out.trans ((below_draw _ _).mono HBW.out.size)⟩, by simp [intOf]; omega⟩
      obtain ⟨m, rfl⟩ : ∃ m, k = m + 1 := ⟨k - 1, by omega⟩
      obtain ⟨e0, e1, e2, e3⟩ := HC.out m (by omega)
      obtain ⟨l2, hl2⟩ : ∃ l2, l2 = lnAt L m := ⟨_, rfl⟩
      rw [← hl2] at e0 e1 e2 e3
      have HZ := Lib.hid hl2
      clear hl2 h0
      obtain ⟨A2, B2, C2, D2⟩ := l2
      simp only at e0 e1 e2 e3
      have k0 : decide (0 < m + 1) = true := by simp
      have w2 : IntKind.i64.wrap (m : Int) = (m : Int) := IntWalk.i64_in _ (by omega)
      have mi0 : (0 : Int) ≤ (m : Int) := by omega
      have mi1 : (m : Int) < (n : Int) := by omega
      have k0i : (0 : Int) < (m : Int) + 1 := by omega
      have k0j : decide ((0 : Int) < (m : Int) + 1) = true := decide_eq_true k0i
      have w1 : IntKind.i64.wrap ((m : Int) + 1 - 1) = (m : Int) := by rw [IntWalk.i64_in _ (by omega)]; omega
      have HCM := Lib.hid (fun W => compare_any A2 B2 C2 A B C W)
      have HO := Lib.hid (ordL_neg A2 B2 C2 A B C)
      obtain ⟨V, hV⟩ : ∃ V, V = ordL A2 B2 C2 A B C := ⟨_, rfl⟩
      rw [← hV] at HCM HO
      clear hV
      by_cases hlt : V < 0
      · have HF := Lib.hid (okLn_next (m := m) HX.out (by omega) (by omega) (by omega) (by omega) (by omega) HZ.out (HO.out.1 hlt))
        have hge : ¬ 0 ≤ V := by omega
        have hged : decide (0 ≤ V) = false := decide_eq_false hge
        clear hlt
        go_wp2_with fail
        have W1b := below_alloc wr (.cells #[.int .u16 A, .int .u16 B, .int .u8 C, .int .i64 D] 76)
        have W1o := own_alloc wr [.int .u16 A, .int .u16 B, .int .u8 C, .int .i64 D] 76
        obtain ⟨W1, hW1⟩ : ∃ W1, W1 = wr.alloc (.cells #[.int .u16 A, .int .u16 B, .int .u8 C, .int .i64 D] 76) := ⟨_, rfl⟩
        rw [← hW1] at HBW ⊢
        have q0 : W1.cell? ⟨wr.heap.size, 0, none⟩ = some (.int .u16 A) := by rw [hW1]; exact W1o.cell 0 (by simp)
        have q1 : W1.cell? ⟨wr.heap.size, 1, none⟩ = some (.int .u16 B) := by rw [hW1]; exact W1o.cell 1 (by simp)
        have q2 : W1.cell? ⟨wr.heap.size, 2, none⟩ = some (.int .u8 C) := by rw [hW1]; exact W1o.cell 2 (by simp)
        have r0 : W1.cell? ⟨b, off + m * 4, none⟩ = some (.int .u16 A2) := by rw [hW1]; exact (W1b.cell hbl).trans e0
        have r1 : W1.cell? ⟨b, off + m * 4 + 1, none⟩ = some (.int .u16 B2) := by rw [hW1]; exact (W1b.cell hbl).trans e1
        have r2 : W1.cell? ⟨b, off + m * 4 + 2, none⟩ = some (.int .u8 C2) := by rw [hW1]; exact (W1b.cell hbl).trans e2
        clear W1b W1o hW1 e0 e1 e2 e3 c0 c1 c2 c3
        have HC2 := Lib.hid ((HCM.out W1.drew).mono (R' := fun e w' => e = .returned (.int .i64 V) ∧ Below W1.heap.size W1 w' ∧ w'.cell? ⟨wr.heap.size, 0, none⟩ = some (.int .u16 A) ∧ w'.cell? ⟨wr.heap.size, 1, none⟩ = some (.int .u16 B) ∧ w'.cell? ⟨wr.heap.size, 2, none⟩ = some (.int .u8 C) ∧ w'.cell? ⟨b, off + m * 4, none⟩ = some (.int .u16 A2) ∧ w'.cell? ⟨b, off + m * 4 + 1, none⟩ = some (.int .u16 B2) ∧ w'.cell? ⟨b, off + m * 4 + 2, none⟩ = some (.int .u8 C2)) fun e w' h => by
          have hbx : Below W1.heap.size W1 w' := (below_draw W1 1).trans h.2
          have z1 := World.block_lt_of_cell? W1 _ q0
          have z2 := World.block_lt_of_cell? W1 _ r0
          exact ⟨h.1, hbx, (hbx.cell (p := ⟨wr.heap.size, 0, none⟩) z1).trans q0, (hbx.cell (p := ⟨wr.heap.size, 1, none⟩) z1).trans q1, (hbx.cell (p := ⟨wr.heap.size, 2, none⟩) z1).trans q2, (hbx.cell (p := ⟨b, off + m * 4, none⟩) z2).trans r0, (hbx.cell (p := ⟨b, off + m * 4 + 1, none⟩) z2).trans r1, (hbx.cell (p := ⟨b, off + m * 4 + 2, none⟩) z2).trans r2⟩)
        clear HCM
        go_region_held3 (fun W => W.cell? ⟨wr.heap.size, 0, none⟩ = some (.int .u16 A) ∧ W.cell? ⟨wr.heap.size, 1, none⟩ = some (.int .u16 B) ∧ W.cell? ⟨wr.heap.size, 2, none⟩ = some (.int .u8 C) ∧ W.cell? ⟨b, off + m * 4, none⟩ = some (.int .u16 A2) ∧ W.cell? ⟨b, off + m * 4 + 1, none⟩ = some (.int .u16 B2) ∧ W.cell? ⟨b, off + m * 4 + 2, none⟩ = some (.int .u8 C2)) (first | go_keep | assumption) (first | (go_at_call 81; ((with_reducible refine HC2.out.mono ?_); rintro e w1 ⟨rfl, hb1, s1, s2, s3, s4, s5, s6⟩); have HB1 := Lib.hid hb1; clear hb1) | fail)
        go_wp2
        exact ⟨⟨m + 1 + 1, by omega, by go_num, upto_succ HN.out HF.out, HBW.out.trans (HB1.out.mono HBW.out.size)⟩, by simp [intOf]; omega⟩
      · have HF := Lib.hid (NO.out (okLn_not (m := m) HX.out (by omega) HZ.out (by omega) (fun h => hlt (HO.out.2 h))))
        have hge : 0 ≤ V := by omega
        have hged : decide (0 ≤ V) = true := decide_eq_true hge
        clear hlt
        go_wp2_with fail
        have W1b := below_alloc wr (.cells #[.int .u16 A, .int .u16 B, .int .u8 C, .int .i64 D] 76)
        have W1o := own_alloc wr [.int .u16 A, .int .u16 B, .int .u8 C, .int .i64 D] 76
        obtain ⟨W1, hW1⟩ : ∃ W1, W1 = wr.alloc (.cells #[.int .u16 A, .int .u16 B, .int .u8 C, .int .i64 D] 76) := ⟨_, rfl⟩
        rw [← hW1] at HBW ⊢
        have q0 : W1.cell? ⟨wr.heap.size, 0, none⟩ = some (.int .u16 A) := by rw [hW1]; exact W1o.cell 0 (by simp)
        have q1 : W1.cell? ⟨wr.heap.size, 1, none⟩ = some (.int .u16 B) := by rw [hW1]; exact W1o.cell 1 (by simp)
        have q2 : W1.cell? ⟨wr.heap.size, 2, none⟩ = some (.int .u8 C) := by rw [hW1]; exact W1o.cell 2 (by simp)
        have r0 : W1.cell? ⟨b, off + m * 4, none⟩ = some (.int .u16 A2) := by rw [hW1]; exact (W1b.cell hbl).trans e0
        have r1 : W1.cell? ⟨b, off + m * 4 + 1, none⟩ = some (.int .u16 B2) := by rw [hW1]; exact (W1b.cell hbl).trans e1
        have r2 : W1.cell? ⟨b, off + m * 4 + 2, none⟩ = some (.int .u8 C2) := by rw [hW1]; exact (W1b.cell hbl).trans e2
        clear W1b W1o hW1 e0 e1 e2 e3 c0 c1 c2 c3
        have HC2 := Lib.hid ((HCM.out W1.drew).mono (R' := fun e w' => e = .returned (.int .i64 V) ∧ Below W1.heap.size W1 w' ∧ w'.cell? ⟨wr.heap.size, 0, none⟩ = some (.int .u16 A) ∧ w'.cell? ⟨wr.heap.size, 1, none⟩ = some (.int .u16 B) ∧ w'.cell? ⟨wr.heap.size, 2, none⟩ = some (.int .u8 C) ∧ w'.cell? ⟨b, off + m * 4, none⟩ = some (.int .u16 A2) ∧ w'.cell? ⟨b, off + m * 4 + 1, none⟩ = some (.int .u16 B2) ∧ w'.cell? ⟨b, off + m * 4 + 2, none⟩ = some (.int .u8 C2)) fun e w' h => by
          have hbx : Below W1.heap.size W1 w' := (below_draw W1 1).trans h.2
          have z1 := World.block_lt_of_cell? W1 _ q0
          have z2 := World.block_lt_of_cell? W1 _ r0
          exact ⟨h.1, hbx, (hbx.cell (p := ⟨wr.heap.size, 0, none⟩) z1).trans q0, (hbx.cell (p := ⟨wr.heap.size, 1, none⟩) z1).trans q1, (hbx.cell (p := ⟨wr.heap.size, 2, none⟩) z1).trans q2, (hbx.cell (p := ⟨b, off + m * 4, none⟩) z2).trans r0, (hbx.cell (p := ⟨b, off + m * 4 + 1, none⟩) z2).trans r1, (hbx.cell (p := ⟨b, off + m * 4 + 2, none⟩) z2).trans r2⟩)
        clear HCM
        go_region_held3 (fun W => W.cell? ⟨wr.heap.size, 0, none⟩ = some (.int .u16 A) ∧ W.cell? ⟨wr.heap.size, 1, none⟩ = some (.int .u16 B) ∧ W.cell? ⟨wr.heap.size, 2, none⟩ = some (.int .u8 C) ∧ W.cell? ⟨b, off + m * 4, none⟩ = some (.int .u16 A2) ∧ W.cell? ⟨b, off + m * 4 + 1, none⟩ = some (.int .u16 B2) ∧ W.cell? ⟨b, off + m * 4 + 2, none⟩ = some (.int .u8 C2)) (first | go_keep | assumption) (first | (go_at_call 81; ((with_reducible refine HC2.out.mono ?_); rintro e w1 ⟨rfl, hb1, s1, s2, s3, s4, s5, s6⟩); have HB1 := Lib.hid hb1; clear hb1) | fail)
        go_wp2
        go_ret
        exact ⟨ret_bool HF.out.symm, HBW.out.trans (HB1.out.mono HBW.out.size)⟩
    · have hkn' : k = n := by omega
      subst hkn'
      have HF := Lib.hid (areLn_ok (L := L) (by rw [HL.out]; exact HN.out))
      go_wp2
      go_ret
      exact ⟨ret_bool (by rw [HB.out, HF.out]), HB2.out⟩
end Go.Proofs.YthlckipcgogogaaGreatDoor
