/- Flows: marks, Level. -/
import Derived.Test.YtmjgagbmpcbjmaaFlTick
import Derived.OwnWalk
import Derived.Laws.MakeOwn
import Derived.IntWalk
namespace Go.Proofs.Ytmjgagbmpcbjmaa
open Go.RowKit

/-- append(v, y) within the capacity, v of the call's own. -/
theorem Blk.append_fits {k : IntKind} {t e : TypeId} {bytes : Nat} (ht : Try.prog.underlying t = some (.slice e)) (hin : (Try.prog.info? e).map (fun i => (i.zero, i.size, i.bytes)) = some (some (.int k 0), 1, bytes))
    {ops : Array Oper} {rest : List Oper} {o : Oper} {a : Act} {Q : Exit → Act → World → Prop} {w0 : World} (hgd : o.guard = none) (s x : Operand)
    (ho : o.op = .call { callee := .builtin .append, args := #[s, x], argTypes := #[t, t] })
    (B d n C : Nat) (xs : List Int) (y : Int) (hs : a.eval s = .slice (some ⟨d, 0, none⟩) n C) (hown : w0.ownsRow B e 1 (.slice (some ⟨d, 0, none⟩) n C) n (nums k xs)) (hx : a.eval x = .slice (some ⟨w0.heap.size, 0, none⟩) 1 1)
    (hroom : n + 1 ≤ C)
    (h : ∀ w', w'.ownsRow B e 1 (.slice (some ⟨d, 0, none⟩) (n + 1) C) (n + 1) (nums k (xs ++ [y])) → Exc (fun j => j = d) w0 w' → wpList Try.prog ops Q rest (a.put o.dst (.slice (some ⟨d, 0, none⟩) (n + 1) C)) w') :
    wpList Try.prog ops Q (o :: rest) a (w0.alloc (.cells #[.int k y] e)) := by
  obtain ⟨i0, hi, hz0, hz1, hz2⟩ := info_parts hin
  refine wpList_append_fits _ hgd s x t ho B e i0 1 ht hi hz1 d n C (nums k xs) hs (hown.alloc _) ⟨w0.heap.size, 0, none⟩ 1 1 [.int k y] hx rfl ?_ (fun u hu => by simp at hu; subst hu; rfl) hroom ?_
  · exact cell_one_new w0 _ _
  · intro w' h1 h2
    have e1 : nums k (xs ++ [y]) = nums k xs ++ [.int k y] := by simp [nums]
    refine h w' (by rw [e1]; exact h1) ?_
    exact ((Exc.refl (fun j => j = d) w0).alloc _).trans (Exc.of_grown h2) (fun i _ hh => (Option.some.inj hh).symm)
theorem make_ints (c : Nat) (hc : c ≤ 1099511627776) (w : World) :
    (Instr.makeSlice 57 (.int .i64 0) (.int .i64 (c : Int))).run Try.prog w = .ok (.slice (some ⟨w.heap.size, 0, none⟩) 0 c) (w.alloc (.cells (madeCells #[.int .i64 0] c) 3)) := by
  obtain ⟨i, hi, hz0, hz1, hz2⟩ := info_parts info64
  have h := run_make (P := Try.prog) w 57 3 i (.int .i64 0) Try.underlying57 hi hz0 .i64 .i64 0 c (Int.le_refl _) (by omega) (by rw [hz2]; omega) (by omega)
  rw [hz1, Nat.mul_one] at h
  simpa [Value.cells] using h
theorem owns_ints (w : World) (B c : Nat) (hB : B ≤ w.heap.size) (hc : c ≤ 1099511627776) : (w.alloc (.cells (madeCells #[.int .i64 0] c) 3)).ownsRow B 3 1 (.slice (some ⟨w.heap.size, 0, none⟩) 0 c) 0 (nums .i64 []) := by
  have h := World.ownsRow_made (base := B) (e := 3) (size := 1) w (madeCells #[.int .i64 0] c) c hB (by unfold maxLen; omega) (by have := size_madeCells #[.int .i64 0] c; simpa using this)
  exact h
/-- A slice of the call's own, full, reads as its list. -/
theorem row_full {k : IntKind} {w : World} {B e g n : Nat} {l : List Int} (h : w.ownsRow B e 1 (.slice (some ⟨g, 0, none⟩) n n) n (nums k l)) (hl : l.length = n) (hn : n ≤ 1000) (hw : ∀ x ∈ l, (Lit.int k x).wf = true) : Row k w (some ⟨g, 0, none⟩) n n l := by
  rcases Nat.eq_zero_or_pos n with h0 | h0
  · subst h0
    exact ⟨hl, Nat.le_refl _, by unfold maxLen; omega, hw, .inl rfl, by simp⟩
  · obtain ⟨g', c, rest, hv, _, ho⟩ := ownsRow_own h h0
    cases hv
    refine ⟨hl, Nat.le_refl _, by unfold maxLen; omega, hw, .inr ⟨g, 0, rfl, fun i hi => ?_⟩, by simp⟩
    rw [Nat.zero_add, Own.cell ho i (by rw [List.length_append, nums_length]; omega)]
    simp [List.getD_eq_getElem?_getD, List.getElem?_append_left, nums, hl, hi]
/-- Valid marks. -/
def okM (b0 b1 b2 e0 e1 e2 : Int) : Bool := decide (0 ≤ e0 ∧ e0 < b0 ∧ 0 ≤ e1 ∧ e1 < b1 ∧ 0 ≤ e2 ∧ e2 < b2 ∧ b0 < b1 ∧ b1 < b2 ∧ e0 ≤ e1 ∧ e1 ≤ e2)
def loL (b0 b1 b2 n : Int) : Int := (if b0 ≤ n then 1 else 0) + (if b1 ≤ n then 1 else 0) + (if b2 ≤ n then 1 else 0)
def hiL (e0 e1 e2 n : Int) : Int := (if e0 < n then 1 else 0) + (if e1 < n then 1 else 0) + (if e2 < n then 1 else 0)
/-- The next level. -/
def nxL (b0 b1 b2 e0 e1 e2 last n : Int) : Int := max (loL b0 b1 b2 n) (min last (hiL e0 e1 e2 n))
theorem loL_in (b0 b1 b2 n : Int) : 0 ≤ loL b0 b1 b2 n ∧ loL b0 b1 b2 n ≤ 3 := by unfold loL; omega
theorem hiL_in (e0 e1 e2 n : Int) : 0 ≤ hiL e0 e1 e2 n ∧ hiL e0 e1 e2 n ≤ 3 := by unfold hiL; omega
theorem nxL_in (b0 b1 b2 e0 e1 e2 last n : Int) : 0 ≤ nxL b0 b1 b2 e0 e1 e2 last n ∧ nxL b0 b1 b2 e0 e1 e2 last n ≤ 3 := by
  have h1 := loL_in b0 b1 b2 n
  have h2 := hiL_in e0 e1 e2 n
  unfold nxL; omega
theorem lo_hi {b0 b1 b2 e0 e1 e2 n : Int} (h : okM b0 b1 b2 e0 e1 e2 = true) : loL b0 b1 b2 n ≤ hiL e0 e1 e2 n := by
  unfold okM at h
  have h := of_decide_eq_true h
  unfold loL hiL
  repeat' split
  all_goals omega
/-- The levels of lengths one after another. -/
def lvs (f : Int → Int → Int) : Int → List Int → List Int
  | _, [] => []
  | last, n :: t => f last n :: lvs f (f last n) t
theorem lvs_length (f : Int → Int → Int) : ∀ (l : List Int) (a : Int), (lvs f a l).length = l.length
  | [], _ => rfl
  | n :: t, a => by simp [lvs, lvs_length f t]
theorem lvs_snoc (f : Int → Int → Int) (x : Int) : ∀ (l : List Int) (a : Int), lvs f a (l ++ [x]) = lvs f a l ++ [f (l.foldl f a) x]
  | [], _ => rfl
  | n :: t, a => by simp [lvs, lvs_snoc f x t]
theorem lvs_mem {f : Int → Int → Int} {P : Int → Prop} (hf : ∀ a n, P (f a n)) : ∀ (l : List Int) (a : Int), ∀ x ∈ lvs f a l, P x
  | [], _, x, h => by simp [lvs] at h
  | n :: t, a, x, h => by
    simp only [lvs, List.mem_cons] at h
    rcases h with rfl | h
    · exact hf a n
    · exact lvs_mem hf t _ x h
theorem lvs_getD (f : Int → Int → Int) : ∀ (l : List Int) (a : Int) (i : Nat), i < l.length → (lvs f a l).getD i 0 = f ((l.take i).foldl f a) (l.getD i 0)
  | [], _, _, h => by simp at h
  | n :: t, a, 0, _ => rfl
  | n :: t, a, i + 1, h => by
    have := lvs_getD f t (f a n) i (by simpa using h)
    simpa [lvs] using this
theorem trio_0 (t0 t1 t2 : Int) (w : World) : (Instr.index 50 (.agg #[.int .i64 t0, .int .i64 t1, .int .i64 t2]) (.int .i64 0)).run Try.prog w = .ok (.int .i64 t0) w := by kernel_rfl
theorem trio_1 (t0 t1 t2 : Int) (w : World) : (Instr.index 50 (.agg #[.int .i64 t0, .int .i64 t1, .int .i64 t2]) (.int .i64 1)).run Try.prog w = .ok (.int .i64 t1) w := by kernel_rfl
theorem trio_2 (t0 t1 t2 : Int) (w : World) : (Instr.index 50 (.agg #[.int .i64 t0, .int .i64 t1, .int .i64 t2]) (.int .i64 2)).run Try.prog w = .ok (.int .i64 t2) w := by kernel_rfl
set_option maxHeartbeats 4000000 in
set_option maxRecDepth 100000 in
theorem mk_areValid (b0 b1 b2 e0 e1 e2 : Int) (w : World) :
    Calls Try.prog 34 #[.agg #[.int .i64 b0, .int .i64 b1, .int .i64 b2, .int .i64 e0, .int .i64 e1, .int .i64 e2]] w fun e w' => e = .returned (.bool (okM b0 b1 b2 e0 e1 e2)) ∧ w' = w.alloc (.cells #[.int .i64 b0, .int .i64 b1, .int .i64 b2, .int .i64 e0, .int .i64 e1, .int .i64 e2] 52) := by
  obtain ⟨W, hW⟩ : ∃ W, W = w.alloc (.cells #[.int .i64 b0, .int .i64 b1, .int .i64 b2, .int .i64 e0, .int .i64 e1, .int .i64 e2] 52) := ⟨_, rfl⟩
  have o1 : Own W w.heap.size 52 [.int .i64 b0, .int .i64 b1, .int .i64 b2, .int .i64 e0, .int .i64 e1, .int .i64 e2] := by rw [hW]; exact Blk.fresh w _ _ _ rfl
  have hbl : Below w.heap.size w W := by rw [hW]; exact below_alloc w _
  have c0 := o1.cell 0 (by simp)
  have c1 := o1.cell 1 (by simp)
  have c2 := o1.cell 2 (by simp)
  have c3 := o1.cell 3 (by simp)
  have c4 := o1.cell 4 (by simp)
  have c5 := o1.cell 5 (by simp)
  simp only [List.getD_cons_succ, List.getD_cons_zero] at c0 c1 c2 c3 c4 c5
  rw [← hW]
  have HW := Lib.hid hW
  clear hW o1 hbl
  obtain ⟨B, hB⟩ : ∃ B, B = okM b0 b1 b2 e0 e1 e2 := ⟨_, rfl⟩
  rw [← hB]
  have HB := Lib.hid hB
  clear hB
  have s1 : IntKind.i64.wrap (1 - 1) = 0 := by decide
  have s2 : IntKind.i64.wrap (2 - 1) = 1 := by decide
  go_enter Try.func34, Try.ntmps34
  go_upto_region 1 with fail
  rw [← HW.out]
  go_wp2_with fail
  go_loopw [8] (fun i wr => ∃ k : Nat, k ≤ 3 ∧ i = .int .i64 k ∧ (1 ≤ k → 0 ≤ e0 ∧ e0 < b0) ∧ (2 ≤ k → 0 ≤ e1 ∧ e1 < b1 ∧ b0 < b1 ∧ e0 ≤ e1) ∧ (3 ≤ k → 0 ≤ e2 ∧ e2 < b2 ∧ b1 < b2 ∧ e1 ≤ e2) ∧ wr = W) (fun i _ => 3 - (intOf i).toNat)
  case atStart => exact ⟨0, Nat.zero_le _, rfl, by omega, by omega, by omega, rfl⟩
  case round =>
    obtain ⟨k, hk, rfl, p1, p2, p3, rfl⟩ := hrel
    have HP := Lib.hid (And.intro p1 (And.intro p2 p3))
    have hkk : k = 0 ∨ k = 1 ∨ k = 2 ∨ k = 3 := by omega
    clear hk p1 p2 p3
    rcases hkk with rfl | rfl | rfl | rfl
    · have hix := trio_0 b0 b1 b2
      by_cases h1 : e0 < 0
      · have H1 := Lib.hid h1
        go_wp2
        go_ret
        refine ⟨ret_bool ?_, rfl⟩
        rw [HB.out]
        symm
        unfold okM
        exact decide_eq_false (by have := H1.out; omega)
      · by_cases h2 : b0 ≤ e0
        · have H2 := Lib.hid h2
          go_wp2
          go_ret
          refine ⟨ret_bool ?_, rfl⟩
          rw [HB.out]
          symm
          unfold okM
          exact decide_eq_false (by have := H2.out; omega)
        · have HQ := Lib.hid (And.intro h1 h2)
          go_wp2
          exact ⟨⟨1, by omega, by go_num, by have := HQ.out; omega, by omega, by omega, trivial⟩, by simp [intOf]⟩
    · have hix := trio_1 b0 b1 b2
      by_cases h1 : e1 < 0
      · have H1 := Lib.hid h1
        go_wp2
        go_ret
        refine ⟨ret_bool ?_, rfl⟩
        rw [HB.out]
        symm
        unfold okM
        exact decide_eq_false (by have := H1.out; omega)
      · by_cases h2 : b1 ≤ e1
        · have H2 := Lib.hid h2
          go_wp2
          go_ret
          refine ⟨ret_bool ?_, rfl⟩
          rw [HB.out]
          symm
          unfold okM
          exact decide_eq_false (by have := H2.out; omega)
        · by_cases h3 : b1 ≤ b0
          · have H3 := Lib.hid h3
            go_wp2
            go_ret
            refine ⟨ret_bool ?_, rfl⟩
            rw [HB.out]
            symm
            unfold okM
            exact decide_eq_false (by have := H3.out; omega)
          · by_cases h4 : e1 < e0
            · have H4 := Lib.hid h4
              go_wp2
              go_ret
              refine ⟨ret_bool ?_, rfl⟩
              rw [HB.out]
              symm
              unfold okM
              exact decide_eq_false (by have := H4.out; omega)
            · have HQ := Lib.hid (And.intro h1 (And.intro h2 (And.intro h3 h4)))
              go_wp2
              exact ⟨⟨2, by omega, by go_num, by have := HP.out; have := HQ.out; omega, by have := HP.out; have := HQ.out; omega, by have := HP.out; have := HQ.out; omega, trivial⟩, by simp [intOf]⟩
    · have hix := trio_2 b0 b1 b2
      by_cases h1 : e2 < 0
      · have H1 := Lib.hid h1
        go_wp2
        go_ret
        refine ⟨ret_bool ?_, rfl⟩
        rw [HB.out]
        symm
        unfold okM
        exact decide_eq_false (by have := H1.out; omega)
      · by_cases h2 : b2 ≤ e2
        · have H2 := Lib.hid h2
          go_wp2
          go_ret
          refine ⟨ret_bool ?_, rfl⟩
          rw [HB.out]
          symm
          unfold okM
          exact decide_eq_false (by have := H2.out; omega)
        · by_cases h3 : b2 ≤ b1
          · have H3 := Lib.hid h3
            go_wp2
            go_ret
            refine ⟨ret_bool ?_, rfl⟩
            rw [HB.out]
            symm
            unfold okM
            exact decide_eq_false (by have := H3.out; omega)
          · by_cases h4 : e2 < e1
            · have H4 := Lib.hid h4
              go_wp2
              go_ret
              refine ⟨ret_bool ?_, rfl⟩
              rw [HB.out]
              symm
              unfold okM
              exact decide_eq_false (by have := H4.out; omega)
            · have HQ := Lib.hid (And.intro h1 (And.intro h2 (And.intro h3 h4)))
              go_wp2
              exact ⟨⟨3, by omega, by go_num, by have := HP.out; have := HQ.out; omega, by have := HP.out; have := HQ.out; omega, by have := HP.out; have := HQ.out; omega, trivial⟩, by simp [intOf]⟩
    · go_wp2
      go_ret
      refine ⟨ret_bool ?_, rfl⟩
      rw [HB.out]
      symm
      unfold okM
      exact decide_eq_true (by have := HP.out; omega)
set_option maxHeartbeats 4000000 in
set_option maxRecDepth 100000 in
theorem mk_next (b0 b1 b2 e0 e1 e2 last n : Int) (w : World) :
    Calls Try.prog 35 #[.agg #[.int .i64 b0, .int .i64 b1, .int .i64 b2, .int .i64 e0, .int .i64 e1, .int .i64 e2], .int .i64 last, .int .i64 n] w fun e w' => e = .returned (.int .i64 (nxL b0 b1 b2 e0 e1 e2 last n)) ∧ w' = w.alloc (.cells #[.int .i64 b0, .int .i64 b1, .int .i64 b2, .int .i64 e0, .int .i64 e1, .int .i64 e2] 52) := by
  obtain ⟨W, hW⟩ : ∃ W, W = w.alloc (.cells #[.int .i64 b0, .int .i64 b1, .int .i64 b2, .int .i64 e0, .int .i64 e1, .int .i64 e2] 52) := ⟨_, rfl⟩
  have o1 : Own W w.heap.size 52 [.int .i64 b0, .int .i64 b1, .int .i64 b2, .int .i64 e0, .int .i64 e1, .int .i64 e2] := by rw [hW]; exact Blk.fresh w _ _ _ rfl
  have hbl : Below w.heap.size w W := by rw [hW]; exact below_alloc w _
  have c0 := o1.cell 0 (by simp)
  have c1 := o1.cell 1 (by simp)
  have c2 := o1.cell 2 (by simp)
  have c3 := o1.cell 3 (by simp)
  have c4 := o1.cell 4 (by simp)
  have c5 := o1.cell 5 (by simp)
  simp only [List.getD_cons_succ, List.getD_cons_zero] at c0 c1 c2 c3 c4 c5
  rw [← hW]
  have HW := Lib.hid hW
  obtain ⟨R, hR⟩ : ∃ R, R = nxL b0 b1 b2 e0 e1 e2 last n := ⟨_, rfl⟩
  rw [← hR]
  have HRr := Lib.hid hR
  clear hW o1 hbl hR
  go_enter Try.func35, Try.ntmps35
  go_upto_region 1 with fail
  rw [← HW.out]
  go_wp2_with fail
  go_loopw [7, 8, 10] (fun x y i wr => ∃ k A B : Nat, k ≤ 3 ∧ x = .int .i64 (A : Int) ∧ y = .int .i64 (B : Int) ∧ i = .int .i64 k ∧ A ≤ k ∧ B ≤ k ∧ (k = 0 → A = 0 ∧ B = 0) ∧ (k = 1 → (A : Int) = (if b0 ≤ n then 1 else 0) ∧ (B : Int) = (if e0 < n then 1 else 0)) ∧ (k = 2 → (A : Int) = (if b0 ≤ n then 1 else 0) + (if b1 ≤ n then 1 else 0) ∧ (B : Int) = (if e0 < n then 1 else 0) + (if e1 < n then 1 else 0)) ∧ (k = 3 → (A : Int) = loL b0 b1 b2 n ∧ (B : Int) = hiL e0 e1 e2 n) ∧ wr = W) (fun _ _ i _ => 3 - (intOf i).toNat)
  case atStart => exact ⟨0, 0, 0, Nat.zero_le _, rfl, rfl, rfl, by omega, by omega, by omega, by omega, by omega, by omega, rfl⟩
  case round =>
    obtain ⟨k, A, B, hk, rfl, rfl, rfl, q1, q2, p0, p1, p2, p3, rfl⟩ := hrel
    have HP := Lib.hid (And.intro p0 (And.intro p1 (And.intro p2 p3)))
    have hkk : k = 0 ∨ k = 1 ∨ k = 2 ∨ k = 3 := by omega
    have wA : IntKind.i64.wrap ((A : Int) + 1) = ((A + 1 : Nat) : Int) := by rw [IntWalk.i64_in _ (by omega)]; omega
    have wB : IntKind.i64.wrap ((B : Int) + 1) = ((B + 1 : Nat) : Int) := by rw [IntWalk.i64_in _ (by omega)]; omega
    obtain ⟨A1, hA1⟩ : ∃ X, X = A + 1 := ⟨_, rfl⟩
    obtain ⟨B1, hB1⟩ : ∃ X, X = B + 1 := ⟨_, rfl⟩
    rw [← hA1] at wA
    rw [← hB1] at wB
    have HN := Lib.hid (And.intro hA1 (And.intro hB1 (And.intro q1 q2)))
    clear hk p0 p1 p2 p3 hA1 hB1 q1 q2
    rcases hkk with rfl | rfl | rfl | rfl
    · by_cases h1 : b0 ≤ n <;> by_cases h2 : e0 < n
      · have HQ := Lib.hid (And.intro h1 h2)
        go_wp2
        refine ⟨⟨1, A1, B1, by omega, by go_num, by go_num, by go_num, ?_, ?_, by omega, ?_, ?_, ?_, trivial⟩, by simp [intOf]⟩
        all_goals
          have h1 := HQ.out.1
          have h2 := HQ.out.2
          have hP := HP.out
          have hN := HN.out
          skip
          clear HQ HP HN
          skip
          first | omega | (intro _; unfold loL hiL; omega)
      · have HQ := Lib.hid (And.intro h1 h2)
        go_wp2
        refine ⟨⟨1, A1, B, by omega, by go_num, by go_num, by go_num, ?_, ?_, by omega, ?_, ?_, ?_, trivial⟩, by simp [intOf]⟩
        all_goals
          have h1 := HQ.out.1
          have h2 := HQ.out.2
          have hP := HP.out
          have hN := HN.out
          skip
          clear HQ HP HN
          skip
          first | omega | (intro _; unfold loL hiL; omega)
      · have HQ := Lib.hid (And.intro h1 h2)
        go_wp2
        refine ⟨⟨1, A, B1, by omega, by go_num, by go_num, by go_num, ?_, ?_, by omega, ?_, ?_, ?_, trivial⟩, by simp [intOf]⟩
        all_goals
          have h1 := HQ.out.1
          have h2 := HQ.out.2
          have hP := HP.out
          have hN := HN.out
          skip
          clear HQ HP HN
          skip
          first | omega | (intro _; unfold loL hiL; omega)
      · have HQ := Lib.hid (And.intro h1 h2)
        go_wp2
        refine ⟨⟨1, A, B, by omega, by go_num, by go_num, by go_num, ?_, ?_, by omega, ?_, ?_, ?_, trivial⟩, by simp [intOf]⟩
        all_goals
          have h1 := HQ.out.1
          have h2 := HQ.out.2
          have hP := HP.out
          have hN := HN.out
          skip
          clear HQ HP HN
          skip
          first | omega | (intro _; unfold loL hiL; omega)
    · by_cases h1 : b1 ≤ n <;> by_cases h2 : e1 < n
      · have HQ := Lib.hid (And.intro h1 h2)
        go_wp2
        refine ⟨⟨2, A1, B1, by omega, by go_num, by go_num, by go_num, ?_, ?_, by omega, ?_, ?_, ?_, trivial⟩, by simp [intOf]⟩
        all_goals
          have h1 := HQ.out.1
          have h2 := HQ.out.2
          have hP := HP.out
          have hN := HN.out
          skip
          clear HQ HP HN
          skip
          first | omega | (intro _; unfold loL hiL; omega)
      · have HQ := Lib.hid (And.intro h1 h2)
        go_wp2
        refine ⟨⟨2, A1, B, by omega, by go_num, by go_num, by go_num, ?_, ?_, by omega, ?_, ?_, ?_, trivial⟩, by simp [intOf]⟩
        all_goals
          have h1 := HQ.out.1
          have h2 := HQ.out.2
          have hP := HP.out
          have hN := HN.out
          skip
          clear HQ HP HN
          skip
          first | omega | (intro _; unfold loL hiL; omega)
      · have HQ := Lib.hid (And.intro h1 h2)
        go_wp2
        refine ⟨⟨2, A, B1, by omega, by go_num, by go_num, by go_num, ?_, ?_, by omega, ?_, ?_, ?_, trivial⟩, by simp [intOf]⟩
        all_goals
          have h1 := HQ.out.1
          have h2 := HQ.out.2
          have hP := HP.out
          have hN := HN.out
          skip
          clear HQ HP HN
          skip
          first | omega | (intro _; unfold loL hiL; omega)
      · have HQ := Lib.hid (And.intro h1 h2)
        go_wp2
        refine ⟨⟨2, A, B, by omega, by go_num, by go_num, by go_num, ?_, ?_, by omega, ?_, ?_, ?_, trivial⟩, by simp [intOf]⟩
        all_goals
          have h1 := HQ.out.1
          have h2 := HQ.out.2
          have hP := HP.out
          have hN := HN.out
          skip
          clear HQ HP HN
          skip
          first | omega | (intro _; unfold loL hiL; omega)
    · by_cases h1 : b2 ≤ n <;> by_cases h2 : e2 < n
      · have HQ := Lib.hid (And.intro h1 h2)
        go_wp2
        refine ⟨⟨3, A1, B1, by omega, by go_num, by go_num, by go_num, ?_, ?_, by omega, ?_, ?_, ?_, trivial⟩, by simp [intOf]⟩
        all_goals
          have h1 := HQ.out.1
          have h2 := HQ.out.2
          have hP := HP.out
          have hN := HN.out
          skip
          clear HQ HP HN
          skip
          first | omega | (intro _; unfold loL hiL; omega)
      · have HQ := Lib.hid (And.intro h1 h2)
        go_wp2
        refine ⟨⟨3, A1, B, by omega, by go_num, by go_num, by go_num, ?_, ?_, by omega, ?_, ?_, ?_, trivial⟩, by simp [intOf]⟩
        all_goals
          have h1 := HQ.out.1
          have h2 := HQ.out.2
          have hP := HP.out
          have hN := HN.out
          skip
          clear HQ HP HN
          skip
          first | omega | (intro _; unfold loL hiL; omega)
      · have HQ := Lib.hid (And.intro h1 h2)
        go_wp2
        refine ⟨⟨3, A, B1, by omega, by go_num, by go_num, by go_num, ?_, ?_, by omega, ?_, ?_, ?_, trivial⟩, by simp [intOf]⟩
        all_goals
          have h1 := HQ.out.1
          have h2 := HQ.out.2
          have hP := HP.out
          have hN := HN.out
          skip
          clear HQ HP HN
          skip
          first | omega | (intro _; unfold loL hiL; omega)
      · have HQ := Lib.hid (And.intro h1 h2)
        go_wp2
        refine ⟨⟨3, A, B, by omega, by go_num, by go_num, by go_num, ?_, ?_, by omega, ?_, ?_, ?_, trivial⟩, by simp [intOf]⟩
        all_goals
          have h1 := HQ.out.1
          have h2 := HQ.out.2
          have hP := HP.out
          have hN := HN.out
          skip
          clear HQ HP HN
          skip
          first | omega | (intro _; unfold loL hiL; omega)
    · obtain ⟨M, hM⟩ : ∃ M : Int, M = min last (B : Int) := ⟨_, rfl⟩
      have hr : max (A : Int) M = R := by rw [HRr.out, hM, nxL, (HP.out.2.2.2 rfl).1, (HP.out.2.2.2 rfl).2]
      have HH := Lib.hid (And.intro hr hM)
      clear hr hM
      go_wp2
      all_goals
        go_ret
        refine ⟨ret_int ?_, rfl⟩
        have := HH.out
        clear HP HRr HH HN
        omega
set_option maxHeartbeats 4000000 in
set_option maxRecDepth 100000 in
theorem fl_level (b0 b1 b2 e0 e1 e2 last n : Int) (w : World) :
    Calls Try.prog 25 #[.agg #[.int .i64 b0, .int .i64 b1, .int .i64 b2, .int .i64 e0, .int .i64 e1, .int .i64 e2], .int .i64 last, .int .i64 n] w fun e w' => e = .returned (if okM b0 b1 b2 e0 e1 e2 = true ∧ 0 ≤ last ∧ last ≤ 3 ∧ 0 ≤ n then .tuple #[.int .i64 (nxL b0 b1 b2 e0 e1 e2 last n), .int .i64 0] else .tuple #[.int .i64 0, .int .i64 1]) ∧ Below w.heap.size w w' := by
  obtain ⟨W, hW⟩ : ∃ W, W = w.alloc (.cells #[.int .i64 b0, .int .i64 b1, .int .i64 b2, .int .i64 e0, .int .i64 e1, .int .i64 e2] 52) := ⟨_, rfl⟩
  have o1 : Own W w.heap.size 52 [.int .i64 b0, .int .i64 b1, .int .i64 b2, .int .i64 e0, .int .i64 e1, .int .i64 e2] := by rw [hW]; exact Blk.fresh w _ _ _ rfl
  have hbl : Below w.heap.size w W := by rw [hW]; exact below_alloc w _
  have c0 := o1.cell 0 (by simp)
  have c1 := o1.cell 1 (by simp)
  have c2 := o1.cell 2 (by simp)
  have c3 := o1.cell 3 (by simp)
  have c4 := o1.cell 4 (by simp)
  have c5 := o1.cell 5 (by simp)
  simp only [List.getD_cons_succ, List.getD_cons_zero] at c0 c1 c2 c3 c4 c5
  have hs1 : W.heap.size = w.heap.size + 1 := by rw [hW]; simp
  obtain ⟨W2, hW2⟩ : ∃ X, X = W.alloc (.cells #[.int .i64 b0, .int .i64 b1, .int .i64 b2, .int .i64 e0, .int .i64 e1, .int .i64 e2] 52) := ⟨_, rfl⟩
  have hv := mk_areValid b0 b1 b2 e0 e1 e2 W
  rw [← hW2] at hv
  have o2 : Own W2 w.heap.size 52 [.int .i64 b0, .int .i64 b1, .int .i64 b2, .int .i64 e0, .int .i64 e1, .int .i64 e2] := by rw [hW2]; exact o1.below (below_alloc W _) (by omega)
  have hb2 : Below w.heap.size w W2 := by rw [hW2]; exact hbl.alloc (by omega) _
  have d0 := o2.cell 0 (by simp)
  have d1 := o2.cell 1 (by simp)
  have d2 := o2.cell 2 (by simp)
  have d3 := o2.cell 3 (by simp)
  have d4 := o2.cell 4 (by simp)
  have d5 := o2.cell 5 (by simp)
  simp only [List.getD_cons_succ, List.getD_cons_zero] at d0 d1 d2 d3 d4 d5
  have HN := Lib.hid (mk_next b0 b1 b2 e0 e1 e2 last n W2)
  have HV := Lib.hid hv
  have HW := Lib.hid hW
  have HB2 := Lib.hid hb2
  clear hv hW hW2 o1 o2 hbl hs1 hb2
  by_cases hok : okM b0 b1 b2 e0 e1 e2 = true
  · rw [hok] at HV
    by_cases h1 : last < 0
    · rw [if_neg (by omega)]
      clear hok
      go_enter Try.func25, Try.ntmps25
      go_upto_region 1 with fail
      rw [← HW.out]
      go_wp2_with fail
      with_reducible refine HV.out.mono ?_
      rintro e w2 ⟨rfl, rfl⟩
      go_wp2
      go_ret2
      exact ⟨rfl, HB2.out⟩
    · by_cases h2 : 3 < last
      · rw [if_neg (by omega)]
        clear hok
        go_enter Try.func25, Try.ntmps25
        go_upto_region 1 with fail
        rw [← HW.out]
        go_wp2_with fail
        with_reducible refine HV.out.mono ?_
        rintro e w2 ⟨rfl, rfl⟩
        go_wp2
        go_ret2
        exact ⟨rfl, HB2.out⟩
      · by_cases h3 : n < 0
        · rw [if_neg (by omega)]
          clear hok
          go_enter Try.func25, Try.ntmps25
          go_upto_region 1 with fail
          rw [← HW.out]
          go_wp2_with fail
          with_reducible refine HV.out.mono ?_
          rintro e w2 ⟨rfl, rfl⟩
          go_wp2
          go_ret2
          exact ⟨rfl, HB2.out⟩
        · rw [if_pos ⟨hok, by omega, by omega, by omega⟩]
          clear hok
          go_enter Try.func25, Try.ntmps25
          go_upto_region 1 with fail
          rw [← HW.out]
          go_wp2_with fail
          with_reducible refine HV.out.mono ?_
          rintro e w2 ⟨rfl, rfl⟩
          go_wp2_with fail
          with_reducible refine HN.out.mono ?_
          rintro e w3 ⟨rfl, rfl⟩
          go_wp2
          go_ret2
          exact ⟨rfl, HB2.out.alloc HB2.out.size _⟩
  · rw [if_neg (fun h => hok h.1)]
    rw [Bool.not_eq_true] at hok
    rw [hok] at HV
    clear hok
    go_enter Try.func25, Try.ntmps25
    go_upto_region 1 with fail
    rw [← HW.out]
    go_wp2_with fail
    with_reducible refine HV.out.mono ?_
    rintro e w2 ⟨rfl, rfl⟩
    go_wp2
    go_ret2
    exact ⟨rfl, HB2.out⟩
end Go.Proofs.Ytmjgagbmpcbjmaa
