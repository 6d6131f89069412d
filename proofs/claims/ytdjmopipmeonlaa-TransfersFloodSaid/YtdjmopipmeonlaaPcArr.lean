/- Joined: PcRep PlChkM PcArr. -/
import Derived.Test.YtdjmopipmeonlaaLbCmp
import Derived.BigQuiet
import Derived.BigRegion
import Derived.Laws.CopyOwn
import Derived.Deep.RegionLaw
import Derived.Test.YtdjmopipmeonlaaPlWay
import Derived.Test.YtdjmopipmeonlaaPlRx
import Derived.Deep.LoopGhost
/- The library's Repeat at one number; a product of one. -/
namespace Go.Proofs.Ytdjmopipmeonlaa
set_option linter.unusedVariables false
open Go.RowKit

theorem and_low : ∀ i : Fin 65, bits BinOp.and IntKind.u64 (i.val : Int) 4294967295 = (i.val : Int) := by decide +kernel
theorem and_one_low : bits BinOp.and IntKind.u64 1 4294967295 = 1 := by decide +kernel
theorem and_zero_low : bits BinOp.and IntKind.u64 0 4294967295 = 0 := by decide +kernel
set_option maxHeartbeats 1000000 in
theorem mul64_any (n : Nat) (w : World) (hn : n ≤ 64) :
    Calls Try.prog 91 #[.int .u64 1, .int .u64 (n : Int)] w fun e w' => e = .returned (.tuple #[.int .u64 0, .int .u64 (n : Int)]) ∧ w = w' := by
  have h1 := and_low ⟨n, by omega⟩
  simp only at h1
  have h2 := and_one_low
  have h3 := and_zero_low
  have h4 : (n : Int) / 4294967296 = 0 := by omega
  have h5 : (0 : Int) ≤ (n : Int) := by omega
  have h6 : (n : Int) ≤ 64 := by omega
  go_enter Try.func91, Try.ntmps91
  go_wp2
  go_ret2
  exact ⟨rfl, rfl⟩
theorem mul_any (n : Nat) (w : World) (hn : n ≤ 64) :
    Calls Try.prog 76 #[.int .u64 1, .int .u64 (n : Int)] w fun e w' => e = .returned (.tuple #[.int .u64 0, .int .u64 (n : Int)]) ∧ w = w' := by
  have H := Lib.hid (fun w => mul64_any n w hn)
  have h5 : (0 : Int) ≤ (n : Int) := by omega
  have h6 : (n : Int) ≤ 64 := by omega
  go_enter Try.func76, Try.ntmps76
  go_wp2_with fail
  with_reducible refine (H.out _).mono ?_
  rintro e w' ⟨rfl, rfl⟩
  go_wp2
  go_ret2
  exact ⟨rfl, rfl⟩
theorem infoI : (Try.prog.info? 3).map (fun i => (i.zero, i.size, i.bytes)) = some (some (.int .i64 0), 1, 8) := by kernel_rfl
theorem sizeI : (Try.prog.info? 3).map (·.size) = some 1 := by kernel_rfl
theorem makeI (n : Nat) (hn : n ≤ 35184372088832) (w : World) :
    (Instr.makeSlice 127 (.int .i64 (n : Int)) (.int .i64 (n : Int))).run Try.prog w = .ok (.slice (some ⟨w.heap.size, 0, none⟩) n n) (w.alloc (.cells (madeCells #[.int .i64 0] n) 3)) :=
  run_make_row' 127 3 (.int .i64 0) 8 Try.underlying127 infoI rfl .i64 .i64 n (by omega) (by omega) w
/-- The first k numbers of n are x. -/
def repL (x : Int) (n k : Nat) : List Int := List.replicate k x ++ List.replicate (n - k) 0
theorem repL_length {x : Int} {n k : Nat} (h : k ≤ n) : (repL x n k).length = n := by simp [repL]; omega
theorem repL_splice {x : Int} {n k m : Nat} (h : k + m ≤ n) : splice (nums .i64 (repL x n k)) k (nums .i64 (List.replicate m x)) = nums .i64 (repL x n (k + m)) := by
  have e : nums .i64 (repL x n k) = nums .i64 (List.replicate k x) ++ nums .i64 (List.replicate (n - k) 0) := by simp [repL, nums]
  have l1 : (nums .i64 (List.replicate k x)).length = k := by simp [nums]
  have l2 : (nums .i64 (List.replicate m x)).length = m := by simp [nums]
  unfold splice
  rw [l2, e, List.take_left' l1, List.drop_append, l1, List.drop_of_length_le (by rw [l1]; omega), List.nil_append]
  simp only [repL, nums, List.map_append, List.map_replicate, List.drop_replicate]
  rw [← List.append_assoc, List.replicate_append_replicate]
  congr 2
  omega
def RepOut (x : Int) (n : Nat) (w : World) (e : Ending) (w' : World) : Prop := ∃ g, e = .returned (.slice (some ⟨g, 0, none⟩) n n) ∧ Own w' g 3 (nums .i64 (List.replicate n x)) ∧ w.heap.size ≤ g ∧ Below w.heap.size w w'
theorem min_ints (a b : Nat) : min (a : Int) (b : Int) = ((min a b : Nat) : Int) := by omega
set_option maxRecDepth 100000 in
set_option maxHeartbeats 2000000 in
theorem repeat_any (g : Nat) (x : Int) (n : Nat) (w : World) (hn : n ≤ 64) (h1 : 1 ≤ n) (hg : Own w g 3 [.int .i64 x]) :
    Calls Try.prog 61 #[.slice (some ⟨g, 0, none⟩) 1 1, .int .i64 (n : Int)] w (RepOut x n w) := by
  have H := Lib.hid (fun w => mul_any n w hn)
  have h5 : ¬ (n : Int) < 0 := by omega
  have h6 : (n : Int) ≤ 64 := by omega
  have h7 : (0 : Int) ≤ (n : Int) := by omega
  have hM := makeI n (by omega)
  have HG := Lib.hid hg
  clear hg
  go_enter Try.func61, Try.ntmps61
  go_wp2_with fail
  with_reducible refine (H.out _).mono ?_
  rintro e w' ⟨rfl, rfl⟩
  have hm0 : Own (w.alloc (.cells (madeCells #[.int .i64 0] n) 3)) w.heap.size 3 (nums .i64 (repL x n 0)) := by
    have := own_made .i64 n 3 w
    have e : repL x n 0 = List.replicate n 0 := by simp [repL]
    rw [e]; exact this
  have hcs : ∀ j v, (nums .i64 [x])[j]? = some v → (w.alloc (.cells (madeCells #[.int .i64 0] n) 3)).cell? ⟨g, j, none⟩ = some v := fun j v hj => by
    have hj0 : j = 0 := by
      have := (List.getElem?_eq_some_iff.1 hj).1
      simpa [nums] using this
    subst hj0
    have e : v = .int .i64 x := by simpa [nums] using hj.symm
    subst e
    have := (HG.out.below (below_alloc w (.cells (madeCells #[.int .i64 0] n) 3)) HG.out.lt).cell 0 (by simp)
    simpa using this
  have HM := Lib.hid hm0
  have HCS := Lib.hid hcs
  have HBA := Lib.hid (below_alloc w (.cells (madeCells #[.int .i64 0] n) 3))
  have hmin : (1 : Nat) = Nat.min 1 n := by show 1 = min 1 n; omega
  have HMIN := Lib.hid hmin
  clear hm0 hcs hmin
  go_wp2_with (with_reducible refine wpList_copy_splice rfl (.tmp 31) (.tmp 32) 127 127 rfl 3 Try.underlying127 sizeI _ _ n n 1 1 rfl rfl w.heap.size 0 (nums .i64 (repL x n 0)) 3 ?_ (nums .i64 [x]) ?_ ?_ ?_ ?_ w.heap.size w ?_ (Nat.le_refl _) ?_)
  · exact HM.out
  · exact HMIN.out
  · exact fun _ => HCS.out
  · rw [nums_length, nums_length, repL_length (Nat.zero_le _)]; show 0 + 1 ≤ n; omega
  · intro v hv; simp [nums] at hv; subst hv; rfl
  · exact HBA.out
  intro w1 hg1 hb1
  have hg2 : Own w1 w.heap.size 3 (nums .i64 (repL x n 1)) := by
    have := hg1.out
    have e := repL_splice (x := x) (n := n) (k := 0) (m := 1) (by omega)
    rw [show nums .i64 [x] = nums .i64 (List.replicate 1 x) from rfl, e] at this
    exact this
  have HG1 := Lib.hid hg2
  have HB1 := Lib.hid hb1
  clear hg1 hb1 hg2 HM HCS HBA HMIN hM HG
  go_wp2_with fail
  go_loopw [8] (fun i wr => ∃ k : Nat, 1 ≤ k ∧ k ≤ n ∧ i = .int .i64 k ∧ Own wr w.heap.size 3 (nums .i64 (repL x n k)) ∧ Below w.heap.size w wr) (fun i _ => n - (intOf i).toNat)
  case atStart => exact ⟨1, Nat.le_refl _, h1, rfl, HG1.out, HB1.out⟩
  case round =>
    obtain ⟨k, hk1, hk, rfl, ho, hb⟩ := hrel
    have HO := Lib.hid ho
    have HB := Lib.hid hb
    clear ho hb
    by_cases hkn : k < n
    · have i1 : (0 : Int) ≤ (k : Int) := by omega
      have i2 : (k : Int) ≤ (n : Int) := by omega
      have hnk : ¬ n = k := by omega
      obtain ⟨m, hm⟩ : ∃ m, m = min k (n - k) := ⟨_, rfl⟩
      have hm1 : 1 ≤ m := by omega
      have hm2 : k + m ≤ n := by omega
      have i3 : IntKind.i64.wrap ((k : Int) + (m : Int)) = ((k + m : Nat) : Int) := by rw [IntWalk.i64_in _ (by omega)]; omega
      have hcs : ∀ j v, (nums .i64 (List.replicate m x))[j]? = some v → wr.drew.cell? ((⟨w.heap.size, 0, none⟩ : Addr).add j) = some v := fun j v hj => by
        have hj0 := (List.getElem?_eq_some_iff.1 hj).1
        have hjm : j < m := by simpa [nums] using hj0
        have e : v = .int .i64 x := by
          rw [nums, List.map_replicate, List.getElem?_replicate, if_pos hjm] at hj
          exact (Option.some.inj hj).symm
        subst e
        have := HO.out.cell j (by rw [nums_length, repL_length hk]; omega)
        rw [nums_getD _ _ _ (by rw [repL_length hk]; omega)] at this
        have e2 : (repL x n k).getD j 0 = x := by
          unfold repL
          rw [List.getD_eq_getElem?_getD, List.getElem?_append_left (by simp; omega), List.getElem?_replicate, if_pos (by omega)]; rfl
        rw [e2] at this
        have e3 : (⟨w.heap.size, 0, none⟩ : Addr).add j = ⟨w.heap.size, j, none⟩ := by unfold Addr.add; split <;> simp_all
        rw [e3]; exact this
      have HCS := Lib.hid hcs
      have HMin := Lib.hid (show (nums .i64 (List.replicate m x)).length = Nat.min k (n - k) by rw [nums_length, List.length_replicate]; exact hm)
      have HD : Hid (wr.drew.heap[w.heap.size]? = some (.cells (nums .i64 (repL x n k)).toArray 3 (0, 0))) := Lib.hid HO.out
      have HBD : Hid (Below w.heap.size w wr.drew) := Lib.hid (HB.out.trans ((below_draw wr 1).mono HB.out.size))
      have HFit := Lib.hid (show k + (nums .i64 (List.replicate m x)).length ≤ (nums .i64 (repL x n k)).length by rw [nums_length, nums_length, repL_length hk, List.length_replicate]; exact hm2)
      have HOne := Lib.hid (show ∀ v ∈ nums .i64 (List.replicate m x), v.oneCell' = true from fun v hv => by simp [nums] at hv; rw [hv.2]; rfl)
      clear hcs hm
      go_wp2_with fail
      go_region_law (refine step_copy_splice rfl (.tmp 41) (.tmp 44) 127 127 rfl 3 Try.underlying127 sizeI (some ⟨w.heap.size, k, none⟩) (some ⟨w.heap.size, 0, none⟩) (n - k) (n - k) k n (by simp [Act.eval, Act.put]) (by simp [Act.eval, Act.put]) w.heap.size k (nums .i64 (repL x n k)) 3 HD.out (nums .i64 (List.replicate m x)) HMin.out (fun _ => ⟨rfl, _, rfl, HCS.out⟩) HFit.out HOne.out w.heap.size w HBD.out (Nat.le_refl _) ?_; intro w4 hg4 hb4)
      all_goals
        have hg5 : Own w4 w.heap.size 3 (nums .i64 (repL x n (k + m))) := by
          have := hg4.out
          rw [repL_splice hm2] at this
          exact this
        have HG5 := Lib.hid hg5
        have HB5 := Lib.hid hb4
        have hnl : (nums .i64 (List.replicate m x)).length = m := by rw [nums_length, List.length_replicate]
        simp only [hnl, i3]
        clear hg4 hg5 hb4 HD HCS HBD HFit HOne HMin hnl
        go_simp
        go_wp2
        exact ⟨⟨k + m, by omega, hm2, rfl, HG5.out, HB5.out⟩, by simp [intOf]; omega⟩
    · have hkn' : k = n := by omega
      subst hkn'
      go_wp2
      go_ret
      refine ⟨w.heap.size, rfl, ?_, Nat.le_refl _, HB.out⟩
      have := HO.out
      rwa [show repL x k k = List.replicate k x by simp [repL]] at this
end Go.Proofs.Ytdjmopipmeonlaa
/- The error of a plan, step by step: mathematics. -/
namespace Go.Proofs.Ytdjmopipmeonlaa
set_option linter.unusedVariables false

theorem chk_big {p : Pn} (h : 64 < p.P.length ∨ 1024 < p.L.length) : 3 = chkPl p := by unfold chkPl; rw [if_pos h]
theorem chk_empty {p : Pn} (h : ¬ (64 < p.P.length ∨ 1024 < p.L.length)) (h0 : p.P.length = 0) : 1 = chkPl p := by unfold chkPl; rw [if_neg h, if_pos h0]
/-- Not too many places and lines, and a place. -/
structure Fits (p : Pn) : Prop where
  big : ¬ (64 < p.P.length ∨ 1024 < p.L.length)
  some : ¬ p.P.length = 0
theorem chk_place {p : Pn} (h : Fits p) {i : Nat} (hi : i < p.P.length) (hf : okPl p.P i = false) : 1 = chkPl p := by
  unfold chkPl
  rw [if_neg h.big, if_neg h.some, all_range_no hi hf, if_neg Bool.false_ne_true]
theorem chk_line {p : Pn} (h : Fits p) (hp : ∀ i, i < p.P.length → okPl p.P i = true) {i : Nat} (hi : i < p.L.length) (hf : okLn p.L i = false) : 1 = chkPl p := by
  unfold chkPl
  rw [if_neg h.big, if_neg h.some, if_pos (all_range.2 hp), all_range_no hi hf, if_neg Bool.false_ne_true]
theorem chk_end {p : Pn} (h : Fits p) (hp : ∀ i, i < p.P.length → okPl p.P i = true) (hl : ∀ i, i < p.L.length → okLn p.L i = true) {i : Nat} (hi : i < p.L.length) (hf : okEnd p.P p.L i = false) : 7 = chkPl p := by
  unfold chkPl
  rw [if_neg h.big, if_neg h.some, if_pos (all_range.2 hp), if_pos (all_range.2 hl), all_range_no hi hf, if_neg Bool.false_ne_true]
theorem chk_num {p : Pn} (h : Fits p) (hp : ∀ i, i < p.P.length → okPl p.P i = true) (hl : ∀ i, i < p.L.length → okLn p.L i = true) (he : ∀ i, i < p.L.length → okEnd p.P p.L i = true) : (if okNum p then 0 else 1) = chkPl p := by
  unfold chkPl
  rw [if_neg h.big, if_neg h.some, if_pos (all_range.2 hp), if_pos (all_range.2 hl), if_pos (all_range.2 he)]
theorem upto_succ {f : Nat → Bool} {k : Nat} (h : ∀ i, i < k → f i = true) (hk : f k = true) : ∀ i, i < k + 1 → f i = true := fun i hi => by
  by_cases e : i = k
  · rw [e]; exact hk
  · exact h i (by omega)
theorem okPl_big {P : List (Int × Bool)} {k : Nat} {x : Int} (h : x = pc P k) (hx : 16383 < x) : okPl P k = false := by
  unfold okPl; rw [← h, decide_eq_false (by omega), Bool.false_and]
theorem okPl_first {P : List (Int × Bool)} {k : Nat} {x : Int} (h : x = pc P k) (hx : ¬ 16383 < x) (h0 : k = 0) : okPl P k = true := by
  unfold okPl; rw [← h, decide_eq_true (show x ≤ 16383 by omega), decide_eq_true h0]; rfl
theorem okPl_next {P : List (Int × Bool)} {k m : Nat} {x y : Int} (h : x = pc P k) (hx : ¬ 16383 < x) (hm : m = k - 1) (g : y = pc P m) (hy : y < x) : okPl P k = true := by
  unfold okPl; rw [← h, ← hm, ← g, decide_eq_true (show x ≤ 16383 by omega), decide_eq_true hy, Bool.or_true]; rfl
theorem okPl_not {P : List (Int × Bool)} {k m : Nat} {x y : Int} (h : x = pc P k) (hm : m = k - 1) (g : y = pc P m) (h0 : ¬ k = 0) (hy : ¬ y < x) : okPl P k = false := by
  unfold okPl; rw [← h, ← hm, ← g, decide_eq_false h0, decide_eq_false hy, Bool.or_self, Bool.and_false]
theorem okLn_bad {L : List Ln} {k : Nat} {A B C D : Int} (h : ⟨A, B, C, D⟩ = lnAt L k) (hb : ¬ (A < B ∧ C ≤ 15 ∧ 1 ≤ D ∧ D ≤ 64)) : okLn L k = false := by
  cases e : okLn L k
  · rfl
  · unfold okLn at e
    rw [← h] at e
    simp only [Bool.and_eq_true, decide_eq_true_eq] at e
    exact absurd ⟨e.1.1.1.1, e.1.1.1.2, e.1.1.2, e.1.2⟩ hb
theorem okLn_first {L : List Ln} {k : Nat} {A B C D : Int} (h : ⟨A, B, C, D⟩ = lnAt L k) (h1 : A < B) (h2 : C ≤ 15) (h3 : 1 ≤ D) (h4 : D ≤ 64) (h0 : k = 0) : okLn L k = true := by
  unfold okLn
  rw [← h]
  simp only [Bool.and_eq_true, Bool.or_eq_true, decide_eq_true_eq]
  exact ⟨⟨⟨⟨h1, h2⟩, h3⟩, h4⟩, .inl h0⟩
theorem okLn_next {L : List Ln} {k m : Nat} {A B C D A2 B2 C2 D2 : Int} (h : ⟨A, B, C, D⟩ = lnAt L k) (h1 : A < B) (h2 : C ≤ 15) (h3 : 1 ≤ D) (h4 : D ≤ 64) (hm : m = k - 1) (g : ⟨A2, B2, C2, D2⟩ = lnAt L m) (hl : A2 < A ∨ A2 = A ∧ (B2 < B ∨ B2 = B ∧ C2 < C)) : okLn L k = true := by
  unfold okLn
  rw [← hm, ← h, ← g]
  simp only [Bool.and_eq_true, Bool.or_eq_true, decide_eq_true_eq]
  exact ⟨⟨⟨⟨h1, h2⟩, h3⟩, h4⟩, .inr (lt3B_iff.2 hl)⟩
theorem okLn_not {L : List Ln} {k m : Nat} {A B C D A2 B2 C2 D2 : Int} (h : ⟨A, B, C, D⟩ = lnAt L k) (hm : m = k - 1) (g : ⟨A2, B2, C2, D2⟩ = lnAt L m) (h0 : ¬ k = 0) (hl : ¬ (A2 < A ∨ A2 = A ∧ (B2 < B ∨ B2 = B ∧ C2 < C))) : okLn L k = false := by
  cases e : okLn L k
  · rfl
  · unfold okLn at e
    rw [← hm, ← h, ← g] at e
    simp only [Bool.and_eq_true, Bool.or_eq_true, decide_eq_true_eq] at e
    rcases e.2 with e | e
    · exact absurd e h0
    · exact absurd (lt3B_iff.1 e) hl
theorem idx_neg {P : List (Int × Bool)} {c : Int} : idxI P c < 0 ↔ fnd P c = none := by
  unfold idxI
  cases fnd P c <;> simp <;> omega
theorem okEnd_a {P : List (Int × Bool)} {L : List Ln} {k : Nat} {A B C D : Int} (h : ⟨A, B, C, D⟩ = lnAt L k) (ha : idxI P A < 0) : okEnd P L k = false := by
  unfold okEnd; rw [← h, idx_neg.1 ha]; rfl
theorem okEnd_b {P : List (Int × Bool)} {L : List Ln} {k : Nat} {A B C D : Int} (h : ⟨A, B, C, D⟩ = lnAt L k) (ha : idxI P B < 0) : okEnd P L k = false := by
  unfold okEnd; rw [← h, idx_neg.1 ha]; exact Bool.and_false _
theorem okEnd_t {P : List (Int × Bool)} {L : List Ln} {k : Nat} {A B C D : Int} (h : ⟨A, B, C, D⟩ = lnAt L k) (ha : ¬ idxI P A < 0) (hb : ¬ idxI P B < 0) : okEnd P L k = true := by
  unfold okEnd
  rw [← h]
  rw [idx_neg, Option.eq_none_iff_forall_ne_some] at ha hb
  have e1 : (fnd P A).isSome = true := by cases e : fnd P A; · exact absurd (idx_neg.2 e) (by rw [idx_neg, Option.eq_none_iff_forall_ne_some]; exact ha)
                                          · rfl
  have e2 : (fnd P B).isSome = true := by cases e : fnd P B; · exact absurd (idx_neg.2 e) (by rw [idx_neg, Option.eq_none_iff_forall_ne_some]; exact hb)
                                          · rfl
  simp only [e1, e2, Bool.and_self]
theorem num_bad {p : Pn} (h : Fits p) (hp : ∀ i, i < p.P.length → okPl p.P i = true) (hl : ∀ i, i < p.L.length → okLn p.L i = true) (he : ∀ i, i < p.L.length → okEnd p.P p.L i = true)
    (hb : ¬ (1 ≤ p.rate ∧ p.rate ≤ 16 ∧ 1 ≤ p.room ∧ p.room ≤ 64 ∧ 1 ≤ p.m0 ∧ p.m0 < p.m1 ∧ p.m1 < p.m2 ∧ p.m2 ≤ p.room)) : 1 = chkPl p := by
  rw [← chk_num h hp hl he, if_neg]
  intro e
  unfold okNum at e
  simp only [Bool.and_eq_true, decide_eq_true_eq] at e
  omega
theorem num_ok {p : Pn} (h : Fits p) (hp : ∀ i, i < p.P.length → okPl p.P i = true) (hl : ∀ i, i < p.L.length → okLn p.L i = true) (he : ∀ i, i < p.L.length → okEnd p.P p.L i = true)
    (hb : 1 ≤ p.rate ∧ p.rate ≤ 16 ∧ 1 ≤ p.room ∧ p.room ≤ 64 ∧ 1 ≤ p.m0 ∧ p.m0 < p.m1 ∧ p.m1 < p.m2 ∧ p.m2 ≤ p.room) : 0 = chkPl p := by
  rw [← chk_num h hp hl he, if_pos]
  unfold okNum
  simp only [Bool.and_eq_true, decide_eq_true_eq]
  omega
end Go.Proofs.Ytdjmopipmeonlaa
/- The code's arePlaces. -/
namespace Go.Proofs.Ytdjmopipmeonlaa
set_option linter.unusedVariables false
open Go.RowKit

theorem all_but {P : List (Int × Bool)} {n : Nat} (hn : P.length = n) : (decide (0 < n) && (List.range n).all (okPl P)) = (decide (0 < P.length) && (List.range P.length).all (okPl P)) := by rw [hn]
def arePl (P : List (Int × Bool)) : Bool := decide (0 < P.length) && (List.range P.length).all (okPl P)
theorem arePl_no {P : List (Int × Bool)} {k : Nat} (hk : k < P.length) (h : okPl P k = false) : arePl P = false := by unfold arePl; rw [all_range_no hk h, Bool.and_false]
theorem arePl_ok {P : List (Int × Bool)} (h : ∀ i, i < P.length → okPl P i = true) : arePl P = decide (0 < P.length) := by unfold arePl; rw [all_range.2 h, Bool.and_true]
set_option maxRecDepth 20000 in
set_option maxHeartbeats 2000000 in
theorem arePlaces_any (P : List (Int × Bool)) (a : Option Addr) (n c : Nat) (w : World) (hP : PRow w a n c P) :
    Calls Try.prog 70 #[.slice a n c] w fun e w' => e = .returned (.bool (arePl P)) ∧ Below w.heap.size w w' := by
  have hmax := hP.max
  have hle := hP.le
  unfold maxLen at hmax
  have HP := Lib.hid hP
  have HL := Lib.hid hP.len
  clear hP
  obtain ⟨B, hB⟩ : ∃ B, B = arePl P := ⟨_, rfl⟩
  rw [← hB]
  have HB := Lib.hid hB
  clear hB
  go_enter Try.func70, Try.ntmps70
  go_wp2_with fail
  go_loopw [7] (fun i wr => ∃ k : Nat, k ≤ n ∧ i = .int .i64 k ∧ (∀ j, j < k → okPl P j = true) ∧ Below w.heap.size w wr) (fun i _ => n - (intOf i).toNat)
  case atStart => exact ⟨0, Nat.zero_le _, rfl, fun j hj => absurd hj (Nat.not_lt_zero _), Below.refl _ _⟩
  case round =>
    obtain ⟨k, hk, rfl, hno, hb⟩ := hrel
    have HN := Lib.hid hno
    have HB2 := Lib.hid hb
    have HP2 := Lib.hid (HP.out.later hb)
    clear hno hb
    by_cases hkn : k < n
    · obtain ⟨b, off, rfl, hc⟩ := HP2.out.cells.resolve_left (by omega)
      obtain ⟨c0, c1⟩ := hc k hkn
      have HC := Lib.hid hc
      clear hc
      have hbl : b < wr.heap.size := World.block_lt_of_cell? _ _ c0
      obtain ⟨x, hx⟩ : ∃ x, x = pc P k := ⟨_, rfl⟩
      obtain ⟨y, hy⟩ : ∃ y, y = pt P k := ⟨_, rfl⟩
      have HX := Lib.hid hx
      rw [← hx] at c0
      rw [← hy] at c1
      clear hx hy
      have hbw := below_alloc wr (.cells #[.int .u16 x, .bool y] 42)
      have HBW := Lib.hid (HB2.out.trans (hbw.mono HB2.out.size))
      clear hbw
      by_cases hbig : 16383 < x
      · have HF := Lib.hid (arePl_no (k := k) (by have := HL.out; omega) (okPl_big HX.out hbig))
        go_wp2_with fail
        go_quiet (fail)
        go_wp2
        go_ret
        exact ⟨ret_bool (by rw [HB.out, HF.out]), HBW.out.trans ((below_draw _ _).mono HBW.out.size)⟩
      · have hbig' : decide (16383 < x) = false := by simpa using hbig
        by_cases h0 : k = 0
        · have HF := Lib.hid (okPl_first HX.out hbig h0)
          have k0 : decide (0 < k) = false := by simp; omega
          have H0 := Lib.hid h0
          clear h0
          go_wp2_with fail
          go_quiet (fail)
          go_wp2
          exact ⟨⟨k + 1, by omega, by go_num, upto_succ HN.out HF.out, HBW.out.trans ((below_draw _ _).mono HBW.out.size)⟩, by simp [intOf]; omega⟩
        · obtain ⟨m, rfl⟩ : ∃ m, k = m + 1 := ⟨k - 1, by omega⟩
          obtain ⟨e0, _⟩ := HC.out m (by omega)
          obtain ⟨z, hz⟩ : ∃ z, z = pc P m := ⟨_, rfl⟩
          have HZ := Lib.hid hz
          rw [← hz] at e0
          clear hz h0
          have k0 : decide (0 < m + 1) = true := by simp
          have k0i : (0 : Int) < (m : Int) + 1 := by omega
          have k0j : decide ((0 : Int) < (m : Int) + 1) = true := decide_eq_true k0i
          have w1 : IntKind.i64.wrap ((m : Int) + 1 - 1) = (m : Int) := by rw [IntWalk.i64_in _ (by omega)]; omega
          by_cases hlt : z < x
          · have HF := Lib.hid (okPl_next (m := m) HX.out hbig (by omega) HZ.out hlt)
            have hge : ¬ x ≤ z := by omega
            have hged : decide (x ≤ z) = false := decide_eq_false hge
            go_wp2_with fail
            go_quiet (fail)
            go_wp2
            exact ⟨⟨m + 1 + 1, by omega, by go_num, upto_succ HN.out HF.out, HBW.out.trans ((below_draw _ _).mono HBW.out.size)⟩, by simp [intOf]; omega⟩
          · have HF := Lib.hid (arePl_no (k := m + 1) (by have := HL.out; omega) (okPl_not (m := m) HX.out (by omega) HZ.out (by omega) hlt))
            have hge : x ≤ z := by omega
            have hged : decide (x ≤ z) = true := decide_eq_true hge
            go_wp2_with fail
            go_quiet (fail)
            go_wp2
            go_ret
            exact ⟨ret_bool (by rw [HB.out, HF.out]), HBW.out.trans ((below_draw _ _).mono HBW.out.size)⟩
    · have hkn' : k = n := by omega
      subst hkn'
      have HF := Lib.hid (arePl_ok (P := P) (by rw [HL.out]; exact HN.out))
      go_wp2
      go_ret
      exact ⟨ret_bool (by rw [HB.out, HF.out, HL.out]), HB2.out⟩
end Go.Proofs.Ytdjmopipmeonlaa
