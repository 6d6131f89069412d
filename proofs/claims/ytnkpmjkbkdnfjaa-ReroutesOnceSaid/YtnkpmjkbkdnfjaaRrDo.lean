/- Layer 17: what the statements' model does at an act. -/
import Derived.Test.YtnkpmjkbkdnfjaaRrMd
namespace Go.Proofs.Ytnkpmjkbkdnfjaa
open Go.RowKit

/-- What the model hands out: numbers and an error; and what it is then. -/
def MdOut (w : World) (mb : Nat) (g : Option Nat) (s' : Pn) (out : List Nat) (er : Int) (e : Ending) (w' : World) : Prop :=
  ∃ a2 c2 g' a' c', e = .returned (.tuple #[.slice a2 out.length c2, .int .i64 er]) ∧ Row .i64 w' a2 out.length c2 (ints out) ∧ (∀ z, a2 = some z → (g = some z.block ∨ w.heap.size ≤ z.block) ∧ z.block ≠ mb ∧ z.block < w'.heap.size) ∧ MdAt w' mb s' g' a' c' ∧
    Exc (fun k => k = mb) w w' ∧ (∀ k, g' = some k → g = some k ∨ w.heap.size ≤ k)
theorem ints_wf {l : List Nat} (h : ∀ n ∈ l, n ≤ 60000) : ∀ x ∈ ints l, (Lit.int .i64 x).wf = true := by
  intro x hx
  obtain ⟨n, hn, rfl⟩ := List.mem_map.1 hx
  have := h n hn
  exact wf_i64.2 (by omega)
/-- An act: the box of the act and the way lie behind. -/
structure DoIn (w W : World) (mb : Nat) (s : Pn) (g : Option Nat) (a : Option Addr) (c : Nat) (A B C z0 z1 : Int) (px pw : Nat) : Prop where
  md : MdAt W mb s g a c
  box : Own W px 38 [.int .u8 A, .int .u8 B, .int .u8 C]
  way : Own W pw 34 [.int .u16 z0, .int .u16 0, .int .u16 z0, .int .u8 z1]
  wz : wayN B = ⟨z0, 0, z0, z1⟩
  bel : Below w.heap.size w W
  ne1 : w.heap.size ≤ px
  ne2 : w.heap.size ≤ pw
  mlt : mb < w.heap.size
set_option maxHeartbeats 4000000 in
set_option maxRecDepth 100000 in
theorem do_offer0 (w : World) (mb : Nat) (s : Pn) (g : Option Nat) (a : Option Addr) (c : Nat) (A B C now : Int) (n : Nat) (h : MdAt w mb s g a c) (hA : 0 ≤ A ∧ A ≤ 255) (hB : 0 ≤ B ∧ B ≤ 255) (hq : A % 8 = 0) (hf : s.ns.length < 60000) (hn : n ≤ 60000) (hl : ∀ k ∈ s.ns, k ≤ 60000) :
    Calls Try.prog 11 #[.pointer (some ⟨mb, 0, none⟩), .agg #[.int .u8 A, .int .u8 B, .int .u8 C], .int .i64 now, .int .i64 (n : Int)] w fun e w' => MdOut w mb g (s.offer n) [] 0 e w' := by
  have hb0 := below_alloc w (.cells #[.int .u8 A, .int .u8 B, .int .u8 C] 38)
  have ho0 := own_lit w 38 #[.int .u8 A, .int .u8 B, .int .u8 C] _ rfl
  have hmod : A.tmod 8 = 0 := (Int.tmod_eq_emod_of_nonneg hA.1).trans hq
  obtain ⟨c0, c1, c2⟩ : _ ∧ _ ∧ _ := ⟨ho0.cell 0 (by simp), ho0.cell 1 (by simp), ho0.cell 2 (by simp)⟩
  have H := Lib.hid h
  have HO := Lib.hid (And.intro ho0 hb0)
  have HBw := Lib.hid hB
  have HAw := Lib.hid hA
  clear ho0 hb0 hq hA hB
  simp only [List.getD_cons_zero, List.getD_cons_succ] at c0 c1 c2
  go_enter Try.func11, Try.ntmps11
  go_wp2_with fail
  refine (wayN_any B _ HBw.out.1 HBw.out.2).mono ?_
  rintro e w1 ⟨rfl, hb1⟩
  obtain ⟨px, hpx⟩ : ∃ p, p = w.heap.size := ⟨_, rfl⟩
  have ho1 := HO.out.1.below hb1 HO.out.1.lt
  rw [← hpx] at ho1 ⊢
  have hb01 := HO.out.2.trans (hb1.mono HO.out.2.size)
  have hDo : DoIn w (w1.alloc (.cells #[.int .u16 (1 + B % 3), .int .u16 0, .int .u16 (1 + B % 3), .int .u8 (B / 3 % 2)] 34)) mb s g a c A B C (1 + B % 3) (B / 3 % 2) px w1.heap.size :=
    ⟨(H.out.later hb01).later (below_alloc w1 _), ho1.below (below_alloc w1 _) ho1.lt, own_lit w1 _ _ _ rfl, rfl, hb01.trans ((below_alloc w1 _).mono hb01.size), Nat.le_of_eq hpx.symm, hb01.size, H.out.own.lt⟩
  obtain ⟨z0, hz0⟩ : ∃ z, z = 1 + B % 3 := ⟨_, rfl⟩
  obtain ⟨z1, hz1⟩ : ∃ z, z = B / 3 % 2 := ⟨_, rfl⟩
  rw [← hz0, ← hz1] at hDo
  rw [← hz0, ← hz1]
  have HD0 := Lib.hid hDo
  have HZ := Lib.hid (And.intro hz0 hz1)
  clear c0 c1 c2 hb1 hb01 ho1 hpx hDo hz0 hz1
  go_upto_region 3 with fail
  generalize w1.alloc (.cells #[.int .u16 z0, .int .u16 0, .int .u16 z0, .int .u8 z1] 34) = W at HD0 ⊢
  obtain ⟨pw, hpw⟩ : ∃ p, p = w1.heap.size := ⟨_, rfl⟩
  have hDo := HD0.out
  rw [← hpw] at hDo ⊢
  have HD := Lib.hid hDo
  obtain ⟨q0, q1, q2, q3, q4, q5, q6, q7, q8, q9⟩ := hDo.md.cells
  have k0 := hDo.box.cell 0 (by simp)
  simp only [List.getD_cons_zero] at k0
  have m0 := hDo.md.own.frozen 0
  have m1 := hDo.md.own.frozen 1
  have m2 := hDo.md.own.frozen 2
  have m3 := hDo.md.own.frozen 3
  have m4 := hDo.md.own.frozen 4
  have m5 := hDo.md.own.frozen 5
  have m6 := hDo.md.own.frozen 6
  have m7 := hDo.md.own.frozen 7
  have m8 := hDo.md.own.frozen 8
  have m9 := hDo.md.own.frozen 9
  clear hDo hpw HD0 HO
  obtain ⟨i0, hi, hi1, hi2, hi3⟩ := info_parts info64
  have HI := Lib.hid (And.intro hi (And.intro hi1 (And.intro hi2 hi3)))
  clear hi hi1 hi2 hi3
  obtain ⟨M, hM⟩ : ∃ M, M = s.ns.length := ⟨_, rfl⟩
  have hrow : Row .i64 W a M c (ints s.ns) := by rw [hM]; exact HD.out.md.buf.row (ints_wf hl)
  rw [← hM] at q1 hf
  have hsrc := hrow.src (P := Try.prog) (tx := 28) Try.underlying28
  have hnn : 0 + M ≤ maxLen := by unfold maxLen; omega
  have hbb : (0 + M) * 8 ≤ 140737488355328 := by omega
  have hnn2 : M + 1 ≤ maxLen := by unfold maxLen; omega
  have hbb2 : (M + 1) * 8 ≤ 140737488355328 := by omega
  have HN := Lib.hid (And.intro (And.intro hnn hbb) (And.intro hnn2 hbb2))
  have HS := Lib.hid hsrc
  have HM := Lib.hid hM
  have HL := Lib.hid (And.intro hl hn)
  clear hnn hbb hnn2 hbb2 hsrc hM hrow hl
  go_wp2_with (refine wpList_append_buf rfl _ _ 28 28 rfl 3 i0 (.int .i64 0) 1 8 Try.underlying28 HI.out.1 HI.out.2.1 HI.out.2.2.1 HI.out.2.2.2 rfl (by decide) none none 0 0 [] rfl (Buf.nil _ _ _) (.slice a M c) M (nums .i64 (ints s.ns)) rfl HS.out HN.out.1.1 HN.out.1.2 ?_)
  intro g5 a5 c5 w5 r1 r2 r3
  have hmb : mb < W.heap.size := HD.out.md.own.lt
  have hx5 : Below W.heap.size W w5 := r2.below (Nat.le_refl _) (fun i _ hi => (by cases hi))
  have hb56 := below_alloc w5 (.cells #[.int .i64 (n : Int)] 3)
  have hr6 := row_lit .i64 w5 3 [(n : Int)] 1 rfl (by decide) (fun x hx => by simp only [List.mem_cons, List.not_mem_nil, or_false] at hx; subst hx; exact wf_i64.2 (by omega))
  have hsrc := hr6.src (P := Try.prog) (tx := 28) Try.underlying28
  have ho6 := (HD.out.md.own.below hx5 hmb).below hb56 (Nat.lt_of_lt_of_le hmb hx5.size)
  have HB5 := Lib.hid (r1.later hb56)
  have HS5 := Lib.hid hsrc
  have h3 := r3
  have HX5 := Lib.hid (And.intro hx5 (And.intro hb56 (And.intro h3 (And.intro ho6 hmb))))
  clear r1 r2 r3 hx5 hb56 hr6 hsrc h3 ho6
  go_wp2_with (refine wpList_append_buf rfl _ _ 28 28 rfl 3 i0 (.int .i64 0) 1 8 Try.underlying28 HI.out.1 HI.out.2.1 HI.out.2.2.1 HI.out.2.2.2 rfl (by decide) g5 a5 M c5 (nums .i64 (ints s.ns)) rfl HB5.out (.slice (some ⟨w5.heap.size, 0, none⟩) 1 1) 1 (nums .i64 [(n : Int)]) rfl HS5.out HN.out.2.1 HN.out.2.2 ?_)
  intro g7 a7 c7 w7 r1 r2 r3
  obtain ⟨hx5, hb56, h3, ho6, hmb⟩ := HX5.out
  have hng5 : ¬ g5 = some mb := fun hh => by have := h3 mb hh; omega
  have ho7 := ho6.exc r2 hng5
  have hs56 := hb56.size
  have hs5 := hx5.size
  have hs7 := r2.size
  have hg7 : ∀ k, g7 = some k → W.heap.size ≤ k := fun k hk => by
    rcases r3 k hk with h | h
    · exact h3 k h
    · omega
  have t1 := ho7.cell 1 (by simp [mdCells])
  have f1 := ho7.frozen 1
  simp only [mdCells, List.getD_cons_zero, List.getD_cons_succ] at t1
  have hxW : Below W.heap.size W w7 := (hx5.trans (hb56.mono hs5)).trans (r2.below (by omega) fun i _ hi => h3 i hi)
  have HO7 := Lib.hid (And.intro ho7 (And.intro hg7 (And.intro hxW r1)))
  clear r1 r2 r3 hx5 hb56 h3 ho6 hng5 ho7 hs56 hs5 hs7 hg7 hxW HX5 HS5 HB5
  go_wp2
  go_ret2
  obtain ⟨ho7, hg7, hxW, r1⟩ := HO7.out
  have hbel := HD.out.bel
  have hbs := hbel.size
  have hmw := HD.out.mlt
  have hx8 : Exc (fun k => k = mb) w7 (w7.setCell ⟨mb, 1, none⟩ (.slice a7 (M + 1) c7)) := Blk.exc mb 1 _ w7
  have hlen : (s.ns ++ [n]).length = M + 1 := by rw [List.length_append, List.length_singleton, HM.out]
  refine ⟨none, 0, g7, a7, c7, rfl, Row.of_nil _ _, fun z hz => (by cases hz), ⟨?_, ?_, fun hh => by have := hg7 mb hh; omega⟩, ?_, fun k hk => ?_⟩
  · have h5 := ho7.set 1 (.slice a7 (M + 1) c7)
    unfold mdCells Pn.offer
    simp only [hlen]
    exact h5
  · show Buf _ _ 1 g7 a7 (s.ns ++ [n]).length c7 (nums .i64 (ints (s.ns ++ [n])))
    rw [hlen]
    have e : nums .i64 (ints (s.ns ++ [n])) = nums .i64 (ints s.ns) ++ nums .i64 [(n : Int)] := by simp [nums, ints]
    rw [e]
    exact r1.exc hx8 (fun k hk => by have := hg7 k hk; omega)
  · exact (Exc.of_below (hbel.trans (hxW.mono hbs))).trans hx8 (fun _ _ hh => hh)
  · have := hg7 k hk
    exact .inr (by omega)
set_option maxHeartbeats 4000000 in
set_option maxRecDepth 100000 in
theorem do_offer1 (w : World) (mb : Nat) (s : Pn) (g : Option Nat) (a : Option Addr) (c : Nat) (A B C now : Int) (n : Nat) (h : MdAt w mb s g a c) (hA : 0 ≤ A ∧ A ≤ 255) (hB : 0 ≤ B ∧ B ≤ 255) (hq : A % 8 = 1) (hf : s.ns.length < 60000) (hn : n ≤ 60000) (hl : ∀ k ∈ s.ns, k ≤ 60000) :
    Calls Try.prog 11 #[.pointer (some ⟨mb, 0, none⟩), .agg #[.int .u8 A, .int .u8 B, .int .u8 C], .int .i64 now, .int .i64 (n : Int)] w fun e w' => MdOut w mb g (s.offer n) [] 0 e w' := by
  have hb0 := below_alloc w (.cells #[.int .u8 A, .int .u8 B, .int .u8 C] 38)
  have ho0 := own_lit w 38 #[.int .u8 A, .int .u8 B, .int .u8 C] _ rfl
  have hmod : A.tmod 8 = 1 := (Int.tmod_eq_emod_of_nonneg hA.1).trans hq
  obtain ⟨c0, c1, c2⟩ : _ ∧ _ ∧ _ := ⟨ho0.cell 0 (by simp), ho0.cell 1 (by simp), ho0.cell 2 (by simp)⟩
  have H := Lib.hid h
  have HO := Lib.hid (And.intro ho0 hb0)
  have HBw := Lib.hid hB
  have HAw := Lib.hid hA
  clear ho0 hb0 hq hA hB
  simp only [List.getD_cons_zero, List.getD_cons_succ] at c0 c1 c2
  go_enter Try.func11, Try.ntmps11
  go_wp2_with fail
  refine (wayN_any B _ HBw.out.1 HBw.out.2).mono ?_
  rintro e w1 ⟨rfl, hb1⟩
  obtain ⟨px, hpx⟩ : ∃ p, p = w.heap.size := ⟨_, rfl⟩
  have ho1 := HO.out.1.below hb1 HO.out.1.lt
  rw [← hpx] at ho1 ⊢
  have hb01 := HO.out.2.trans (hb1.mono HO.out.2.size)
  have hDo : DoIn w (w1.alloc (.cells #[.int .u16 (1 + B % 3), .int .u16 0, .int .u16 (1 + B % 3), .int .u8 (B / 3 % 2)] 34)) mb s g a c A B C (1 + B % 3) (B / 3 % 2) px w1.heap.size :=
    ⟨(H.out.later hb01).later (below_alloc w1 _), ho1.below (below_alloc w1 _) ho1.lt, own_lit w1 _ _ _ rfl, rfl, hb01.trans ((below_alloc w1 _).mono hb01.size), Nat.le_of_eq hpx.symm, hb01.size, H.out.own.lt⟩
  obtain ⟨z0, hz0⟩ : ∃ z, z = 1 + B % 3 := ⟨_, rfl⟩
  obtain ⟨z1, hz1⟩ : ∃ z, z = B / 3 % 2 := ⟨_, rfl⟩
  rw [← hz0, ← hz1] at hDo
  rw [← hz0, ← hz1]
  have HD0 := Lib.hid hDo
  have HZ := Lib.hid (And.intro hz0 hz1)
  clear c0 c1 c2 hb1 hb01 ho1 hpx hDo hz0 hz1
  go_upto_region 3 with fail
  generalize w1.alloc (.cells #[.int .u16 z0, .int .u16 0, .int .u16 z0, .int .u8 z1] 34) = W at HD0 ⊢
  obtain ⟨pw, hpw⟩ : ∃ p, p = w1.heap.size := ⟨_, rfl⟩
  have hDo := HD0.out
  rw [← hpw] at hDo ⊢
  have HD := Lib.hid hDo
  obtain ⟨q0, q1, q2, q3, q4, q5, q6, q7, q8, q9⟩ := hDo.md.cells
  have k0 := hDo.box.cell 0 (by simp)
  simp only [List.getD_cons_zero] at k0
  have m0 := hDo.md.own.frozen 0
  have m1 := hDo.md.own.frozen 1
  have m2 := hDo.md.own.frozen 2
  have m3 := hDo.md.own.frozen 3
  have m4 := hDo.md.own.frozen 4
  have m5 := hDo.md.own.frozen 5
  have m6 := hDo.md.own.frozen 6
  have m7 := hDo.md.own.frozen 7
  have m8 := hDo.md.own.frozen 8
  have m9 := hDo.md.own.frozen 9
  clear hDo hpw HD0 HO
  obtain ⟨i0, hi, hi1, hi2, hi3⟩ := info_parts info64
  have HI := Lib.hid (And.intro hi (And.intro hi1 (And.intro hi2 hi3)))
  clear hi hi1 hi2 hi3
  obtain ⟨M, hM⟩ : ∃ M, M = s.ns.length := ⟨_, rfl⟩
  have hrow : Row .i64 W a M c (ints s.ns) := by rw [hM]; exact HD.out.md.buf.row (ints_wf hl)
  rw [← hM] at q1 hf
  have hsrc := hrow.src (P := Try.prog) (tx := 28) Try.underlying28
  have hnn : 0 + M ≤ maxLen := by unfold maxLen; omega
  have hbb : (0 + M) * 8 ≤ 140737488355328 := by omega
  have hnn2 : M + 1 ≤ maxLen := by unfold maxLen; omega
  have hbb2 : (M + 1) * 8 ≤ 140737488355328 := by omega
  have HN := Lib.hid (And.intro (And.intro hnn hbb) (And.intro hnn2 hbb2))
  have HS := Lib.hid hsrc
  have HM := Lib.hid hM
  have HL := Lib.hid (And.intro hl hn)
  clear hnn hbb hnn2 hbb2 hsrc hM hrow hl
  go_wp2_with (refine wpList_append_buf rfl _ _ 28 28 rfl 3 i0 (.int .i64 0) 1 8 Try.underlying28 HI.out.1 HI.out.2.1 HI.out.2.2.1 HI.out.2.2.2 rfl (by decide) none none 0 0 [] rfl (Buf.nil _ _ _) (.slice a M c) M (nums .i64 (ints s.ns)) rfl HS.out HN.out.1.1 HN.out.1.2 ?_)
  intro g5 a5 c5 w5 r1 r2 r3
  have hmb : mb < W.heap.size := HD.out.md.own.lt
  have hx5 : Below W.heap.size W w5 := r2.below (Nat.le_refl _) (fun i _ hi => (by cases hi))
  have hb56 := below_alloc w5 (.cells #[.int .i64 (n : Int)] 3)
  have hr6 := row_lit .i64 w5 3 [(n : Int)] 1 rfl (by decide) (fun x hx => by simp only [List.mem_cons, List.not_mem_nil, or_false] at hx; subst hx; exact wf_i64.2 (by omega))
  have hsrc := hr6.src (P := Try.prog) (tx := 28) Try.underlying28
  have ho6 := (HD.out.md.own.below hx5 hmb).below hb56 (Nat.lt_of_lt_of_le hmb hx5.size)
  have HB5 := Lib.hid (r1.later hb56)
  have HS5 := Lib.hid hsrc
  have h3 := r3
  have HX5 := Lib.hid (And.intro hx5 (And.intro hb56 (And.intro h3 (And.intro ho6 hmb))))
  clear r1 r2 r3 hx5 hb56 hr6 hsrc h3 ho6
  go_wp2_with (refine wpList_append_buf rfl _ _ 28 28 rfl 3 i0 (.int .i64 0) 1 8 Try.underlying28 HI.out.1 HI.out.2.1 HI.out.2.2.1 HI.out.2.2.2 rfl (by decide) g5 a5 M c5 (nums .i64 (ints s.ns)) rfl HB5.out (.slice (some ⟨w5.heap.size, 0, none⟩) 1 1) 1 (nums .i64 [(n : Int)]) rfl HS5.out HN.out.2.1 HN.out.2.2 ?_)
  intro g7 a7 c7 w7 r1 r2 r3
  obtain ⟨hx5, hb56, h3, ho6, hmb⟩ := HX5.out
  have hng5 : ¬ g5 = some mb := fun hh => by have := h3 mb hh; omega
  have ho7 := ho6.exc r2 hng5
  have hs56 := hb56.size
  have hs5 := hx5.size
  have hs7 := r2.size
  have hg7 : ∀ k, g7 = some k → W.heap.size ≤ k := fun k hk => by
    rcases r3 k hk with h | h
    · exact h3 k h
    · omega
  have t1 := ho7.cell 1 (by simp [mdCells])
  have f1 := ho7.frozen 1
  simp only [mdCells, List.getD_cons_zero, List.getD_cons_succ] at t1
  have hxW : Below W.heap.size W w7 := (hx5.trans (hb56.mono hs5)).trans (r2.below (by omega) fun i _ hi => h3 i hi)
  have HO7 := Lib.hid (And.intro ho7 (And.intro hg7 (And.intro hxW r1)))
  clear r1 r2 r3 hx5 hb56 h3 ho6 hng5 ho7 hs56 hs5 hs7 hg7 hxW HX5 HS5 HB5
  go_wp2
  go_ret2
  obtain ⟨ho7, hg7, hxW, r1⟩ := HO7.out
  have hbel := HD.out.bel
  have hbs := hbel.size
  have hmw := HD.out.mlt
  have hx8 : Exc (fun k => k = mb) w7 (w7.setCell ⟨mb, 1, none⟩ (.slice a7 (M + 1) c7)) := Blk.exc mb 1 _ w7
  have hlen : (s.ns ++ [n]).length = M + 1 := by rw [List.length_append, List.length_singleton, HM.out]
  refine ⟨none, 0, g7, a7, c7, rfl, Row.of_nil _ _, fun z hz => (by cases hz), ⟨?_, ?_, fun hh => by have := hg7 mb hh; omega⟩, ?_, fun k hk => ?_⟩
  · have h5 := ho7.set 1 (.slice a7 (M + 1) c7)
    unfold mdCells Pn.offer
    simp only [hlen]
    exact h5
  · show Buf _ _ 1 g7 a7 (s.ns ++ [n]).length c7 (nums .i64 (ints (s.ns ++ [n])))
    rw [hlen]
    have e : nums .i64 (ints (s.ns ++ [n])) = nums .i64 (ints s.ns) ++ nums .i64 [(n : Int)] := by simp [nums, ints]
    rw [e]
    exact r1.exc hx8 (fun k hk => by have := hg7 k hk; omega)
  · exact (Exc.of_below (hbel.trans (hxW.mono hbs))).trans hx8 (fun _ _ hh => hh)
  · have := hg7 k hk
    exact .inr (by omega)
set_option maxHeartbeats 4000000 in
set_option maxRecDepth 100000 in
theorem do_offer2 (w : World) (mb : Nat) (s : Pn) (g : Option Nat) (a : Option Addr) (c : Nat) (A B C now : Int) (n : Nat) (h : MdAt w mb s g a c) (hA : 0 ≤ A ∧ A ≤ 255) (hB : 0 ≤ B ∧ B ≤ 255) (hq : A % 8 = 2) (hf : s.ns.length < 60000) (hn : n ≤ 60000) (hl : ∀ k ∈ s.ns, k ≤ 60000) :
    Calls Try.prog 11 #[.pointer (some ⟨mb, 0, none⟩), .agg #[.int .u8 A, .int .u8 B, .int .u8 C], .int .i64 now, .int .i64 (n : Int)] w fun e w' => MdOut w mb g (s.offer n) [] 0 e w' := by
  have hb0 := below_alloc w (.cells #[.int .u8 A, .int .u8 B, .int .u8 C] 38)
  have ho0 := own_lit w 38 #[.int .u8 A, .int .u8 B, .int .u8 C] _ rfl
  have hmod : A.tmod 8 = 2 := (Int.tmod_eq_emod_of_nonneg hA.1).trans hq
  obtain ⟨c0, c1, c2⟩ : _ ∧ _ ∧ _ := ⟨ho0.cell 0 (by simp), ho0.cell 1 (by simp), ho0.cell 2 (by simp)⟩
  have H := Lib.hid h
  have HO := Lib.hid (And.intro ho0 hb0)
  have HBw := Lib.hid hB
  have HAw := Lib.hid hA
  clear ho0 hb0 hq hA hB
  simp only [List.getD_cons_zero, List.getD_cons_succ] at c0 c1 c2
  go_enter Try.func11, Try.ntmps11
  go_wp2_with fail
  refine (wayN_any B _ HBw.out.1 HBw.out.2).mono ?_
  rintro e w1 ⟨rfl, hb1⟩
  obtain ⟨px, hpx⟩ : ∃ p, p = w.heap.size := ⟨_, rfl⟩
  have ho1 := HO.out.1.below hb1 HO.out.1.lt
  rw [← hpx] at ho1 ⊢
  have hb01 := HO.out.2.trans (hb1.mono HO.out.2.size)
  have hDo : DoIn w (w1.alloc (.cells #[.int .u16 (1 + B % 3), .int .u16 0, .int .u16 (1 + B % 3), .int .u8 (B / 3 % 2)] 34)) mb s g a c A B C (1 + B % 3) (B / 3 % 2) px w1.heap.size :=
    ⟨(H.out.later hb01).later (below_alloc w1 _), ho1.below (below_alloc w1 _) ho1.lt, own_lit w1 _ _ _ rfl, rfl, hb01.trans ((below_alloc w1 _).mono hb01.size), Nat.le_of_eq hpx.symm, hb01.size, H.out.own.lt⟩
  obtain ⟨z0, hz0⟩ : ∃ z, z = 1 + B % 3 := ⟨_, rfl⟩
  obtain ⟨z1, hz1⟩ : ∃ z, z = B / 3 % 2 := ⟨_, rfl⟩
  rw [← hz0, ← hz1] at hDo
  rw [← hz0, ← hz1]
  have HD0 := Lib.hid hDo
  have HZ := Lib.hid (And.intro hz0 hz1)
  clear c0 c1 c2 hb1 hb01 ho1 hpx hDo hz0 hz1
  go_upto_region 3 with fail
  generalize w1.alloc (.cells #[.int .u16 z0, .int .u16 0, .int .u16 z0, .int .u8 z1] 34) = W at HD0 ⊢
  obtain ⟨pw, hpw⟩ : ∃ p, p = w1.heap.size := ⟨_, rfl⟩
  have hDo := HD0.out
  rw [← hpw] at hDo ⊢
  have HD := Lib.hid hDo
  obtain ⟨q0, q1, q2, q3, q4, q5, q6, q7, q8, q9⟩ := hDo.md.cells
  have k0 := hDo.box.cell 0 (by simp)
  simp only [List.getD_cons_zero] at k0
  have m0 := hDo.md.own.frozen 0
  have m1 := hDo.md.own.frozen 1
  have m2 := hDo.md.own.frozen 2
  have m3 := hDo.md.own.frozen 3
  have m4 := hDo.md.own.frozen 4
  have m5 := hDo.md.own.frozen 5
  have m6 := hDo.md.own.frozen 6
  have m7 := hDo.md.own.frozen 7
  have m8 := hDo.md.own.frozen 8
  have m9 := hDo.md.own.frozen 9
  clear hDo hpw HD0 HO
  obtain ⟨i0, hi, hi1, hi2, hi3⟩ := info_parts info64
  have HI := Lib.hid (And.intro hi (And.intro hi1 (And.intro hi2 hi3)))
  clear hi hi1 hi2 hi3
  obtain ⟨M, hM⟩ : ∃ M, M = s.ns.length := ⟨_, rfl⟩
  have hrow : Row .i64 W a M c (ints s.ns) := by rw [hM]; exact HD.out.md.buf.row (ints_wf hl)
  rw [← hM] at q1 hf
  have hsrc := hrow.src (P := Try.prog) (tx := 28) Try.underlying28
  have hnn : 0 + M ≤ maxLen := by unfold maxLen; omega
  have hbb : (0 + M) * 8 ≤ 140737488355328 := by omega
  have hnn2 : M + 1 ≤ maxLen := by unfold maxLen; omega
  have hbb2 : (M + 1) * 8 ≤ 140737488355328 := by omega
  have HN := Lib.hid (And.intro (And.intro hnn hbb) (And.intro hnn2 hbb2))
  have HS := Lib.hid hsrc
  have HM := Lib.hid hM
  have HL := Lib.hid (And.intro hl hn)
  clear hnn hbb hnn2 hbb2 hsrc hM hrow hl
  go_wp2_with (refine wpList_append_buf rfl _ _ 28 28 rfl 3 i0 (.int .i64 0) 1 8 Try.underlying28 HI.out.1 HI.out.2.1 HI.out.2.2.1 HI.out.2.2.2 rfl (by decide) none none 0 0 [] rfl (Buf.nil _ _ _) (.slice a M c) M (nums .i64 (ints s.ns)) rfl HS.out HN.out.1.1 HN.out.1.2 ?_)
  intro g5 a5 c5 w5 r1 r2 r3
  have hmb : mb < W.heap.size := HD.out.md.own.lt
  have hx5 : Below W.heap.size W w5 := r2.below (Nat.le_refl _) (fun i _ hi => (by cases hi))
  have hb56 := below_alloc w5 (.cells #[.int .i64 (n : Int)] 3)
  have hr6 := row_lit .i64 w5 3 [(n : Int)] 1 rfl (by decide) (fun x hx => by simp only [List.mem_cons, List.not_mem_nil, or_false] at hx; subst hx; exact wf_i64.2 (by omega))
  have hsrc := hr6.src (P := Try.prog) (tx := 28) Try.underlying28
  have ho6 := (HD.out.md.own.below hx5 hmb).below hb56 (Nat.lt_of_lt_of_le hmb hx5.size)
  have HB5 := Lib.hid (r1.later hb56)
  have HS5 := Lib.hid hsrc
  have h3 := r3
  have HX5 := Lib.hid (And.intro hx5 (And.intro hb56 (And.intro h3 (And.intro ho6 hmb))))
  clear r1 r2 r3 hx5 hb56 hr6 hsrc h3 ho6
  go_wp2_with (refine wpList_append_buf rfl _ _ 28 28 rfl 3 i0 (.int .i64 0) 1 8 Try.underlying28 HI.out.1 HI.out.2.1 HI.out.2.2.1 HI.out.2.2.2 rfl (by decide) g5 a5 M c5 (nums .i64 (ints s.ns)) rfl HB5.out (.slice (some ⟨w5.heap.size, 0, none⟩) 1 1) 1 (nums .i64 [(n : Int)]) rfl HS5.out HN.out.2.1 HN.out.2.2 ?_)
  intro g7 a7 c7 w7 r1 r2 r3
  obtain ⟨hx5, hb56, h3, ho6, hmb⟩ := HX5.out
  have hng5 : ¬ g5 = some mb := fun hh => by have := h3 mb hh; omega
  have ho7 := ho6.exc r2 hng5
  have hs56 := hb56.size
  have hs5 := hx5.size
  have hs7 := r2.size
  have hg7 : ∀ k, g7 = some k → W.heap.size ≤ k := fun k hk => by
    rcases r3 k hk with h | h
    · exact h3 k h
    · omega
  have t1 := ho7.cell 1 (by simp [mdCells])
  have f1 := ho7.frozen 1
  simp only [mdCells, List.getD_cons_zero, List.getD_cons_succ] at t1
  have hxW : Below W.heap.size W w7 := (hx5.trans (hb56.mono hs5)).trans (r2.below (by omega) fun i _ hi => h3 i hi)
  have HO7 := Lib.hid (And.intro ho7 (And.intro hg7 (And.intro hxW r1)))
  clear r1 r2 r3 hx5 hb56 h3 ho6 hng5 ho7 hs56 hs5 hs7 hg7 hxW HX5 HS5 HB5
  go_wp2
  go_ret2
  obtain ⟨ho7, hg7, hxW, r1⟩ := HO7.out
  have hbel := HD.out.bel
  have hbs := hbel.size
  have hmw := HD.out.mlt
  have hx8 : Exc (fun k => k = mb) w7 (w7.setCell ⟨mb, 1, none⟩ (.slice a7 (M + 1) c7)) := Blk.exc mb 1 _ w7
  have hlen : (s.ns ++ [n]).length = M + 1 := by rw [List.length_append, List.length_singleton, HM.out]
  refine ⟨none, 0, g7, a7, c7, rfl, Row.of_nil _ _, fun z hz => (by cases hz), ⟨?_, ?_, fun hh => by have := hg7 mb hh; omega⟩, ?_, fun k hk => ?_⟩
  · have h5 := ho7.set 1 (.slice a7 (M + 1) c7)
    unfold mdCells Pn.offer
    simp only [hlen]
    exact h5
  · show Buf _ _ 1 g7 a7 (s.ns ++ [n]).length c7 (nums .i64 (ints (s.ns ++ [n])))
    rw [hlen]
    have e : nums .i64 (ints (s.ns ++ [n])) = nums .i64 (ints s.ns) ++ nums .i64 [(n : Int)] := by simp [nums, ints]
    rw [e]
    exact r1.exc hx8 (fun k hk => by have := hg7 k hk; omega)
  · exact (Exc.of_below (hbel.trans (hxW.mono hbs))).trans hx8 (fun _ _ hh => hh)
  · have := hg7 k hk
    exact .inr (by omega)
set_option maxHeartbeats 4000000 in
set_option maxRecDepth 100000 in
theorem do_cut_bad1 (w : World) (mb : Nat) (s : Pn) (g : Option Nat) (a : Option Addr) (c : Nat) (A B C now : Int) (n : Nat) (h : MdAt w mb s g a c) (hA : 0 ≤ A ∧ A ≤ 255) (hB : 0 ≤ B ∧ B ≤ 255) (hq : A % 8 = 5) (hp : s.ph = 1) :
    Calls Try.prog 11 #[.pointer (some ⟨mb, 0, none⟩), .agg #[.int .u8 A, .int .u8 B, .int .u8 C], .int .i64 now, .int .i64 (n : Int)] w fun e w' => MdOut w mb g s [] 6 e w' := by
  have hb0 := below_alloc w (.cells #[.int .u8 A, .int .u8 B, .int .u8 C] 38)
  have ho0 := own_lit w 38 #[.int .u8 A, .int .u8 B, .int .u8 C] _ rfl
  have hmod : A.tmod 8 = 5 := (Int.tmod_eq_emod_of_nonneg hA.1).trans hq
  obtain ⟨c0, c1, c2⟩ : _ ∧ _ ∧ _ := ⟨ho0.cell 0 (by simp), ho0.cell 1 (by simp), ho0.cell 2 (by simp)⟩
  have H := Lib.hid h
  have HO := Lib.hid (And.intro ho0 hb0)
  have HBw := Lib.hid hB
  have HAw := Lib.hid hA
  clear ho0 hb0 hq hA hB
  simp only [List.getD_cons_zero, List.getD_cons_succ] at c0 c1 c2
  go_enter Try.func11, Try.ntmps11
  go_wp2_with fail
  refine (wayN_any B _ HBw.out.1 HBw.out.2).mono ?_
  rintro e w1 ⟨rfl, hb1⟩
  obtain ⟨px, hpx⟩ : ∃ p, p = w.heap.size := ⟨_, rfl⟩
  have ho1 := HO.out.1.below hb1 HO.out.1.lt
  rw [← hpx] at ho1 ⊢
  have hb01 := HO.out.2.trans (hb1.mono HO.out.2.size)
  have hDo : DoIn w (w1.alloc (.cells #[.int .u16 (1 + B % 3), .int .u16 0, .int .u16 (1 + B % 3), .int .u8 (B / 3 % 2)] 34)) mb s g a c A B C (1 + B % 3) (B / 3 % 2) px w1.heap.size :=
    ⟨(H.out.later hb01).later (below_alloc w1 _), ho1.below (below_alloc w1 _) ho1.lt, own_lit w1 _ _ _ rfl, rfl, hb01.trans ((below_alloc w1 _).mono hb01.size), Nat.le_of_eq hpx.symm, hb01.size, H.out.own.lt⟩
  obtain ⟨z0, hz0⟩ : ∃ z, z = 1 + B % 3 := ⟨_, rfl⟩
  obtain ⟨z1, hz1⟩ : ∃ z, z = B / 3 % 2 := ⟨_, rfl⟩
  rw [← hz0, ← hz1] at hDo
  rw [← hz0, ← hz1]
  have HD0 := Lib.hid hDo
  have HZ := Lib.hid (And.intro hz0 hz1)
  clear c0 c1 c2 hb1 hb01 ho1 hpx hDo hz0 hz1
  go_upto_region 3 with fail
  generalize w1.alloc (.cells #[.int .u16 z0, .int .u16 0, .int .u16 z0, .int .u8 z1] 34) = W at HD0 ⊢
  obtain ⟨pw, hpw⟩ : ∃ p, p = w1.heap.size := ⟨_, rfl⟩
  have hDo := HD0.out
  rw [← hpw] at hDo ⊢
  have HD := Lib.hid hDo
  obtain ⟨q0, q1, q2, q3, q4, q5, q6, q7, q8, q9⟩ := hDo.md.cells
  have k0 := hDo.box.cell 0 (by simp)
  simp only [List.getD_cons_zero] at k0
  have m0 := hDo.md.own.frozen 0
  have m1 := hDo.md.own.frozen 1
  have m2 := hDo.md.own.frozen 2
  have m3 := hDo.md.own.frozen 3
  have m4 := hDo.md.own.frozen 4
  have m5 := hDo.md.own.frozen 5
  have m6 := hDo.md.own.frozen 6
  have m7 := hDo.md.own.frozen 7
  have m8 := hDo.md.own.frozen 8
  have m9 := hDo.md.own.frozen 9
  clear hDo hpw HD0 HO
  have e2 : decide (s.ph ≠ 1) = false := by simp [hp]
  rw [e2] at q2
  have e3 : decide (s.ph = 3) = false := by simp [hp]
  rw [e3] at q3
  clear hp e2 e3
  go_wp2
  go_ret2
  exact ⟨none, 0, g, a, c, rfl, Row.of_nil _ _, fun z hz => (by cases hz), HD.out.md, Exc.of_below HD.out.bel, fun k hk => .inl hk⟩
set_option maxHeartbeats 4000000 in
set_option maxRecDepth 100000 in
theorem do_cut_bad3 (w : World) (mb : Nat) (s : Pn) (g : Option Nat) (a : Option Addr) (c : Nat) (A B C now : Int) (n : Nat) (h : MdAt w mb s g a c) (hA : 0 ≤ A ∧ A ≤ 255) (hB : 0 ≤ B ∧ B ≤ 255) (hq : A % 8 = 5) (hp : s.ph = 3) :
    Calls Try.prog 11 #[.pointer (some ⟨mb, 0, none⟩), .agg #[.int .u8 A, .int .u8 B, .int .u8 C], .int .i64 now, .int .i64 (n : Int)] w fun e w' => MdOut w mb g s [] 6 e w' := by
  have hb0 := below_alloc w (.cells #[.int .u8 A, .int .u8 B, .int .u8 C] 38)
  have ho0 := own_lit w 38 #[.int .u8 A, .int .u8 B, .int .u8 C] _ rfl
  have hmod : A.tmod 8 = 5 := (Int.tmod_eq_emod_of_nonneg hA.1).trans hq
  obtain ⟨c0, c1, c2⟩ : _ ∧ _ ∧ _ := ⟨ho0.cell 0 (by simp), ho0.cell 1 (by simp), ho0.cell 2 (by simp)⟩
  have H := Lib.hid h
  have HO := Lib.hid (And.intro ho0 hb0)
  have HBw := Lib.hid hB
  have HAw := Lib.hid hA
  clear ho0 hb0 hq hA hB
  simp only [List.getD_cons_zero, List.getD_cons_succ] at c0 c1 c2
  go_enter Try.func11, Try.ntmps11
  go_wp2_with fail
  refine (wayN_any B _ HBw.out.1 HBw.out.2).mono ?_
  rintro e w1 ⟨rfl, hb1⟩
  obtain ⟨px, hpx⟩ : ∃ p, p = w.heap.size := ⟨_, rfl⟩
  have ho1 := HO.out.1.below hb1 HO.out.1.lt
  rw [← hpx] at ho1 ⊢
  have hb01 := HO.out.2.trans (hb1.mono HO.out.2.size)
  have hDo : DoIn w (w1.alloc (.cells #[.int .u16 (1 + B % 3), .int .u16 0, .int .u16 (1 + B % 3), .int .u8 (B / 3 % 2)] 34)) mb s g a c A B C (1 + B % 3) (B / 3 % 2) px w1.heap.size :=
    ⟨(H.out.later hb01).later (below_alloc w1 _), ho1.below (below_alloc w1 _) ho1.lt, own_lit w1 _ _ _ rfl, rfl, hb01.trans ((below_alloc w1 _).mono hb01.size), Nat.le_of_eq hpx.symm, hb01.size, H.out.own.lt⟩
  obtain ⟨z0, hz0⟩ : ∃ z, z = 1 + B % 3 := ⟨_, rfl⟩
  obtain ⟨z1, hz1⟩ : ∃ z, z = B / 3 % 2 := ⟨_, rfl⟩
  rw [← hz0, ← hz1] at hDo
  rw [← hz0, ← hz1]
  have HD0 := Lib.hid hDo
  have HZ := Lib.hid (And.intro hz0 hz1)
  clear c0 c1 c2 hb1 hb01 ho1 hpx hDo hz0 hz1
  go_upto_region 3 with fail
  generalize w1.alloc (.cells #[.int .u16 z0, .int .u16 0, .int .u16 z0, .int .u8 z1] 34) = W at HD0 ⊢
  obtain ⟨pw, hpw⟩ : ∃ p, p = w1.heap.size := ⟨_, rfl⟩
  have hDo := HD0.out
  rw [← hpw] at hDo ⊢
  have HD := Lib.hid hDo
  obtain ⟨q0, q1, q2, q3, q4, q5, q6, q7, q8, q9⟩ := hDo.md.cells
  have k0 := hDo.box.cell 0 (by simp)
  simp only [List.getD_cons_zero] at k0
  have m0 := hDo.md.own.frozen 0
  have m1 := hDo.md.own.frozen 1
  have m2 := hDo.md.own.frozen 2
  have m3 := hDo.md.own.frozen 3
  have m4 := hDo.md.own.frozen 4
  have m5 := hDo.md.own.frozen 5
  have m6 := hDo.md.own.frozen 6
  have m7 := hDo.md.own.frozen 7
  have m8 := hDo.md.own.frozen 8
  have m9 := hDo.md.own.frozen 9
  clear hDo hpw HD0 HO
  have e3 : decide (s.ph = 3) = true := by simp [hp]
  rw [e3] at q3
  clear hp e3
  go_wp2
  go_ret2
  exact ⟨none, 0, g, a, c, rfl, Row.of_nil _ _, fun z hz => (by cases hz), HD.out.md, Exc.of_below HD.out.bel, fun k hk => .inl hk⟩
set_option maxHeartbeats 4000000 in
set_option maxRecDepth 100000 in
theorem do_back_bad (w : World) (mb : Nat) (s : Pn) (g : Option Nat) (a : Option Addr) (c : Nat) (A B C now : Int) (n : Nat) (h : MdAt w mb s g a c) (hA : 0 ≤ A ∧ A ≤ 255) (hB : 0 ≤ B ∧ B ≤ 255) (hq : A % 8 = 6) (hp : s.ph ≠ 3) :
    Calls Try.prog 11 #[.pointer (some ⟨mb, 0, none⟩), .agg #[.int .u8 A, .int .u8 B, .int .u8 C], .int .i64 now, .int .i64 (n : Int)] w fun e w' => MdOut w mb g s [] 6 e w' := by
  have hb0 := below_alloc w (.cells #[.int .u8 A, .int .u8 B, .int .u8 C] 38)
  have ho0 := own_lit w 38 #[.int .u8 A, .int .u8 B, .int .u8 C] _ rfl
  have hmod : A.tmod 8 = 6 := (Int.tmod_eq_emod_of_nonneg hA.1).trans hq
  obtain ⟨c0, c1, c2⟩ : _ ∧ _ ∧ _ := ⟨ho0.cell 0 (by simp), ho0.cell 1 (by simp), ho0.cell 2 (by simp)⟩
  have H := Lib.hid h
  have HO := Lib.hid (And.intro ho0 hb0)
  have HBw := Lib.hid hB
  have HAw := Lib.hid hA
  clear ho0 hb0 hq hA hB
  simp only [List.getD_cons_zero, List.getD_cons_succ] at c0 c1 c2
  go_enter Try.func11, Try.ntmps11
  go_wp2_with fail
  refine (wayN_any B _ HBw.out.1 HBw.out.2).mono ?_
  rintro e w1 ⟨rfl, hb1⟩
  obtain ⟨px, hpx⟩ : ∃ p, p = w.heap.size := ⟨_, rfl⟩
  have ho1 := HO.out.1.below hb1 HO.out.1.lt
  rw [← hpx] at ho1 ⊢
  have hb01 := HO.out.2.trans (hb1.mono HO.out.2.size)
  have hDo : DoIn w (w1.alloc (.cells #[.int .u16 (1 + B % 3), .int .u16 0, .int .u16 (1 + B % 3), .int .u8 (B / 3 % 2)] 34)) mb s g a c A B C (1 + B % 3) (B / 3 % 2) px w1.heap.size :=
    ⟨(H.out.later hb01).later (below_alloc w1 _), ho1.below (below_alloc w1 _) ho1.lt, own_lit w1 _ _ _ rfl, rfl, hb01.trans ((below_alloc w1 _).mono hb01.size), Nat.le_of_eq hpx.symm, hb01.size, H.out.own.lt⟩
  obtain ⟨z0, hz0⟩ : ∃ z, z = 1 + B % 3 := ⟨_, rfl⟩
  obtain ⟨z1, hz1⟩ : ∃ z, z = B / 3 % 2 := ⟨_, rfl⟩
  rw [← hz0, ← hz1] at hDo
  rw [← hz0, ← hz1]
  have HD0 := Lib.hid hDo
  have HZ := Lib.hid (And.intro hz0 hz1)
  clear c0 c1 c2 hb1 hb01 ho1 hpx hDo hz0 hz1
  go_upto_region 3 with fail
  generalize w1.alloc (.cells #[.int .u16 z0, .int .u16 0, .int .u16 z0, .int .u8 z1] 34) = W at HD0 ⊢
  obtain ⟨pw, hpw⟩ : ∃ p, p = w1.heap.size := ⟨_, rfl⟩
  have hDo := HD0.out
  rw [← hpw] at hDo ⊢
  have HD := Lib.hid hDo
  obtain ⟨q0, q1, q2, q3, q4, q5, q6, q7, q8, q9⟩ := hDo.md.cells
  have k0 := hDo.box.cell 0 (by simp)
  simp only [List.getD_cons_zero] at k0
  have m0 := hDo.md.own.frozen 0
  have m1 := hDo.md.own.frozen 1
  have m2 := hDo.md.own.frozen 2
  have m3 := hDo.md.own.frozen 3
  have m4 := hDo.md.own.frozen 4
  have m5 := hDo.md.own.frozen 5
  have m6 := hDo.md.own.frozen 6
  have m7 := hDo.md.own.frozen 7
  have m8 := hDo.md.own.frozen 8
  have m9 := hDo.md.own.frozen 9
  clear hDo hpw HD0 HO
  have e3 : decide (s.ph = 3) = false := by simp [hp]
  rw [e3] at q3
  clear hp e3
  go_wp2
  go_ret2
  exact ⟨none, 0, g, a, c, rfl, Row.of_nil _ _, fun z hz => (by cases hz), HD.out.md, Exc.of_below HD.out.bel, fun k hk => .inl hk⟩
set_option maxHeartbeats 4000000 in
set_option maxRecDepth 100000 in
theorem do_cut_ok (w : World) (mb : Nat) (s : Pn) (g : Option Nat) (a : Option Addr) (c : Nat) (A B C now : Int) (n : Nat) (h : MdAt w mb s g a c) (hA : 0 ≤ A ∧ A ≤ 255) (hB : 0 ≤ B ∧ B ≤ 255) (hq : A % 8 = 5) (hp1 : s.ph ≠ 1) (hp3 : s.ph ≠ 3) :
    Calls Try.prog 11 #[.pointer (some ⟨mb, 0, none⟩), .agg #[.int .u8 A, .int .u8 B, .int .u8 C], .int .i64 now, .int .i64 (n : Int)] w fun e w' => MdOut w mb g s.cut [] 0 e w' := by
  have hb0 := below_alloc w (.cells #[.int .u8 A, .int .u8 B, .int .u8 C] 38)
  have ho0 := own_lit w 38 #[.int .u8 A, .int .u8 B, .int .u8 C] _ rfl
  have hmod : A.tmod 8 = 5 := (Int.tmod_eq_emod_of_nonneg hA.1).trans hq
  obtain ⟨c0, c1, c2⟩ : _ ∧ _ ∧ _ := ⟨ho0.cell 0 (by simp), ho0.cell 1 (by simp), ho0.cell 2 (by simp)⟩
  have H := Lib.hid h
  have HO := Lib.hid (And.intro ho0 hb0)
  have HBw := Lib.hid hB
  have HAw := Lib.hid hA
  clear ho0 hb0 hq hA hB
  simp only [List.getD_cons_zero, List.getD_cons_succ] at c0 c1 c2
  go_enter Try.func11, Try.ntmps11
  go_wp2_with fail
  refine (wayN_any B _ HBw.out.1 HBw.out.2).mono ?_
  rintro e w1 ⟨rfl, hb1⟩
  obtain ⟨px, hpx⟩ : ∃ p, p = w.heap.size := ⟨_, rfl⟩
  have ho1 := HO.out.1.below hb1 HO.out.1.lt
  rw [← hpx] at ho1 ⊢
  have hb01 := HO.out.2.trans (hb1.mono HO.out.2.size)
  have hDo : DoIn w (w1.alloc (.cells #[.int .u16 (1 + B % 3), .int .u16 0, .int .u16 (1 + B % 3), .int .u8 (B / 3 % 2)] 34)) mb s g a c A B C (1 + B % 3) (B / 3 % 2) px w1.heap.size :=
    ⟨(H.out.later hb01).later (below_alloc w1 _), ho1.below (below_alloc w1 _) ho1.lt, own_lit w1 _ _ _ rfl, rfl, hb01.trans ((below_alloc w1 _).mono hb01.size), Nat.le_of_eq hpx.symm, hb01.size, H.out.own.lt⟩
  obtain ⟨z0, hz0⟩ : ∃ z, z = 1 + B % 3 := ⟨_, rfl⟩
  obtain ⟨z1, hz1⟩ : ∃ z, z = B / 3 % 2 := ⟨_, rfl⟩
  rw [← hz0, ← hz1] at hDo
  rw [← hz0, ← hz1]
  have HD0 := Lib.hid hDo
  have HZ := Lib.hid (And.intro hz0 hz1)
  clear c0 c1 c2 hb1 hb01 ho1 hpx hDo hz0 hz1
  go_upto_region 3 with fail
  generalize w1.alloc (.cells #[.int .u16 z0, .int .u16 0, .int .u16 z0, .int .u8 z1] 34) = W at HD0 ⊢
  obtain ⟨pw, hpw⟩ : ∃ p, p = w1.heap.size := ⟨_, rfl⟩
  have hDo := HD0.out
  rw [← hpw] at hDo ⊢
  have HD := Lib.hid hDo
  obtain ⟨q0, q1, q2, q3, q4, q5, q6, q7, q8, q9⟩ := hDo.md.cells
  have k0 := hDo.box.cell 0 (by simp)
  simp only [List.getD_cons_zero] at k0
  have m0 := hDo.md.own.frozen 0
  have m1 := hDo.md.own.frozen 1
  have m2 := hDo.md.own.frozen 2
  have m3 := hDo.md.own.frozen 3
  have m4 := hDo.md.own.frozen 4
  have m5 := hDo.md.own.frozen 5
  have m6 := hDo.md.own.frozen 6
  have m7 := hDo.md.own.frozen 7
  have m8 := hDo.md.own.frozen 8
  have m9 := hDo.md.own.frozen 9
  clear hDo hpw HD0 HO
  have e2 : decide (s.ph ≠ 1) = true := by simp [hp1]
  have e3 : decide (s.ph = 3) = false := by simp [hp3]
  rw [e2] at q2
  rw [e3] at q3
  have HE := Lib.hid e2
  clear hp1 hp3 e2 e3
  go_wp2
  go_ret2
  have hx : Exc (fun k => k = mb) W ((W.setCell ⟨mb, 3, none⟩ (.bool true)).setCell ⟨mb, 4, none⟩ (.bool false)) := Blk.more (Blk.exc mb 3 _ W) 4 _
  have ho := (HD.out.md.own.set 3 (.bool true)).set 4 (.bool false)
  refine ⟨none, 0, g, a, c, rfl, Row.of_nil _ _, fun z hz => (by cases hz), ⟨?_, HD.out.md.buf.exc hx (fun k hk hh => HD.out.md.gb (hh ▸ hk)), HD.out.md.gb⟩, (Exc.of_below HD.out.bel).trans hx (fun _ _ hh => hh), fun k hk => .inl hk⟩
  have e : mdCells s.cut a c = ((mdCells s a c).set 3 (.bool true)).set 4 (.bool false) := by simp [mdCells, Pn.cut, HE.out]
  rw [e]
  exact ho
set_option maxHeartbeats 4000000 in
set_option maxRecDepth 100000 in
theorem do_flush (w : World) (mb : Nat) (s : Pn) (g : Option Nat) (a : Option Addr) (c : Nat) (A B C now : Int) (n : Nat) (h : MdAt w mb s g a c) (hA : 0 ≤ A ∧ A ≤ 255) (hB : 0 ≤ B ∧ B ≤ 255) (hq : A % 8 = 7) (hl : ∀ k ∈ s.ns, k ≤ 60000) :
    Calls Try.prog 11 #[.pointer (some ⟨mb, 0, none⟩), .agg #[.int .u8 A, .int .u8 B, .int .u8 C], .int .i64 now, .int .i64 (n : Int)] w fun e w' => MdOut w mb g s.flushed s.ns 0 e w' := by
  have hb0 := below_alloc w (.cells #[.int .u8 A, .int .u8 B, .int .u8 C] 38)
  have ho0 := own_lit w 38 #[.int .u8 A, .int .u8 B, .int .u8 C] _ rfl
  have hmod : A.tmod 8 = 7 := (Int.tmod_eq_emod_of_nonneg hA.1).trans hq
  obtain ⟨c0, c1, c2⟩ : _ ∧ _ ∧ _ := ⟨ho0.cell 0 (by simp), ho0.cell 1 (by simp), ho0.cell 2 (by simp)⟩
  have H := Lib.hid h
  have HO := Lib.hid (And.intro ho0 hb0)
  have HBw := Lib.hid hB
  have HAw := Lib.hid hA
  clear ho0 hb0 hq hA hB
  simp only [List.getD_cons_zero, List.getD_cons_succ] at c0 c1 c2
  go_enter Try.func11, Try.ntmps11
  go_wp2_with fail
  refine (wayN_any B _ HBw.out.1 HBw.out.2).mono ?_
  rintro e w1 ⟨rfl, hb1⟩
  obtain ⟨px, hpx⟩ : ∃ p, p = w.heap.size := ⟨_, rfl⟩
  have ho1 := HO.out.1.below hb1 HO.out.1.lt
  rw [← hpx] at ho1 ⊢
  have hb01 := HO.out.2.trans (hb1.mono HO.out.2.size)
  have hDo : DoIn w (w1.alloc (.cells #[.int .u16 (1 + B % 3), .int .u16 0, .int .u16 (1 + B % 3), .int .u8 (B / 3 % 2)] 34)) mb s g a c A B C (1 + B % 3) (B / 3 % 2) px w1.heap.size :=
    ⟨(H.out.later hb01).later (below_alloc w1 _), ho1.below (below_alloc w1 _) ho1.lt, own_lit w1 _ _ _ rfl, rfl, hb01.trans ((below_alloc w1 _).mono hb01.size), Nat.le_of_eq hpx.symm, hb01.size, H.out.own.lt⟩
  obtain ⟨z0, hz0⟩ : ∃ z, z = 1 + B % 3 := ⟨_, rfl⟩
  obtain ⟨z1, hz1⟩ : ∃ z, z = B / 3 % 2 := ⟨_, rfl⟩
  rw [← hz0, ← hz1] at hDo
  rw [← hz0, ← hz1]
  have HD0 := Lib.hid hDo
  have HZ := Lib.hid (And.intro hz0 hz1)
  clear c0 c1 c2 hb1 hb01 ho1 hpx hDo hz0 hz1
  go_upto_region 3 with fail
  generalize w1.alloc (.cells #[.int .u16 z0, .int .u16 0, .int .u16 z0, .int .u8 z1] 34) = W at HD0 ⊢
  obtain ⟨pw, hpw⟩ : ∃ p, p = w1.heap.size := ⟨_, rfl⟩
  have hDo := HD0.out
  rw [← hpw] at hDo ⊢
  have HD := Lib.hid hDo
  obtain ⟨q0, q1, q2, q3, q4, q5, q6, q7, q8, q9⟩ := hDo.md.cells
  have k0 := hDo.box.cell 0 (by simp)
  simp only [List.getD_cons_zero] at k0
  have m0 := hDo.md.own.frozen 0
  have m1 := hDo.md.own.frozen 1
  have m2 := hDo.md.own.frozen 2
  have m3 := hDo.md.own.frozen 3
  have m4 := hDo.md.own.frozen 4
  have m5 := hDo.md.own.frozen 5
  have m6 := hDo.md.own.frozen 6
  have m7 := hDo.md.own.frozen 7
  have m8 := hDo.md.own.frozen 8
  have m9 := hDo.md.own.frozen 9
  clear hDo hpw HD0 HO
  have hrow : Row .i64 W a s.ns.length c (ints s.ns) := HD.out.md.buf.row (ints_wf hl)
  have hrz : ∀ z, a = some z → (g = some z.block ∨ w.heap.size ≤ z.block) ∧ z.block ≠ mb ∧ z.block < W.heap.size := fun z hz => by
    have h1 := (HD.out.md.buf.block hz).1
    exact ⟨.inl h1, fun hh => HD.out.md.gb (by rw [h1, hh]), HD.out.md.buf.lt h1⟩
  have HR := Lib.hid (And.intro hrow hrz)
  clear hrow hrz hl
  go_wp2
  go_ret2
  have hx : Exc (fun k => k = mb) W (W.setCell ⟨mb, 1, none⟩ (.slice none 0 0)) := Blk.exc mb 1 _ W
  have hxx := (Exc.of_below HD.out.bel).trans hx (fun _ _ hh => hh)
  refine ⟨a, c, none, none, 0, rfl, ?_, ?_, ⟨?_, Buf.nil _ _ _, fun hh => (by cases hh)⟩, hxx, fun k hk => (by cases hk)⟩
  · exact (HR.out.1).exc hx (fun z hz hh => (HR.out.2 z hz).2.1 hh)
  · exact fun z hz => ⟨(HR.out.2 z hz).1, (HR.out.2 z hz).2.1, Nat.lt_of_lt_of_le (HR.out.2 z hz).2.2 hx.size⟩
  · exact HD.out.md.own.set 1 (.slice none 0 0)
set_option maxHeartbeats 4000000 in
set_option maxRecDepth 100000 in
theorem do_pass_no3 (w : World) (mb : Nat) (s : Pn) (g : Option Nat) (a : Option Addr) (c : Nat) (A B C now : Int) (n : Nat) (h : MdAt w mb s g a c) (hA : 0 ≤ A ∧ A ≤ 255) (hB : 0 ≤ B ∧ B ≤ 255) (hq : A % 8 = 3) (hh : s.hold ≤ 255 ∧ 0 ≤ s.hold ∧ s.last ≤ 1000000 ∧ 0 ≤ s.last) (hf : s.ns = [] ∨ ¬ s.free now (wayN B)) :
    Calls Try.prog 11 #[.pointer (some ⟨mb, 0, none⟩), .agg #[.int .u8 A, .int .u8 B, .int .u8 C], .int .i64 now, .int .i64 (n : Int)] w fun e w' => MdOut w mb g s [] 0 e w' := by
  have hb0 := below_alloc w (.cells #[.int .u8 A, .int .u8 B, .int .u8 C] 38)
  have ho0 := own_lit w 38 #[.int .u8 A, .int .u8 B, .int .u8 C] _ rfl
  have hmod : A.tmod 8 = 3 := (Int.tmod_eq_emod_of_nonneg hA.1).trans hq
  obtain ⟨c0, c1, c2⟩ : _ ∧ _ ∧ _ := ⟨ho0.cell 0 (by simp), ho0.cell 1 (by simp), ho0.cell 2 (by simp)⟩
  have H := Lib.hid h
  have HO := Lib.hid (And.intro ho0 hb0)
  have HBw := Lib.hid hB
  have HAw := Lib.hid hA
  clear ho0 hb0 hq hA hB
  simp only [List.getD_cons_zero, List.getD_cons_succ] at c0 c1 c2
  go_enter Try.func11, Try.ntmps11
  go_wp2_with fail
  refine (wayN_any B _ HBw.out.1 HBw.out.2).mono ?_
  rintro e w1 ⟨rfl, hb1⟩
  obtain ⟨px, hpx⟩ : ∃ p, p = w.heap.size := ⟨_, rfl⟩
  have ho1 := HO.out.1.below hb1 HO.out.1.lt
  rw [← hpx] at ho1 ⊢
  have hb01 := HO.out.2.trans (hb1.mono HO.out.2.size)
  have hDo : DoIn w (w1.alloc (.cells #[.int .u16 (1 + B % 3), .int .u16 0, .int .u16 (1 + B % 3), .int .u8 (B / 3 % 2)] 34)) mb s g a c A B C (1 + B % 3) (B / 3 % 2) px w1.heap.size :=
    ⟨(H.out.later hb01).later (below_alloc w1 _), ho1.below (below_alloc w1 _) ho1.lt, own_lit w1 _ _ _ rfl, rfl, hb01.trans ((below_alloc w1 _).mono hb01.size), Nat.le_of_eq hpx.symm, hb01.size, H.out.own.lt⟩
  obtain ⟨z0, hz0⟩ : ∃ z, z = 1 + B % 3 := ⟨_, rfl⟩
  obtain ⟨z1, hz1⟩ : ∃ z, z = B / 3 % 2 := ⟨_, rfl⟩
  rw [← hz0, ← hz1] at hDo
  rw [← hz0, ← hz1]
  have HD0 := Lib.hid hDo
  have HZ := Lib.hid (And.intro hz0 hz1)
  clear c0 c1 c2 hb1 hb01 ho1 hpx hDo hz0 hz1
  go_upto_region 3 with fail
  generalize w1.alloc (.cells #[.int .u16 z0, .int .u16 0, .int .u16 z0, .int .u8 z1] 34) = W at HD0 ⊢
  obtain ⟨pw, hpw⟩ : ∃ p, p = w1.heap.size := ⟨_, rfl⟩
  have hDo := HD0.out
  rw [← hpw] at hDo ⊢
  have HD := Lib.hid hDo
  obtain ⟨q0, q1, q2, q3, q4, q5, q6, q7, q8, q9⟩ := hDo.md.cells
  have k0 := hDo.box.cell 0 (by simp)
  simp only [List.getD_cons_zero] at k0
  have m0 := hDo.md.own.frozen 0
  have m1 := hDo.md.own.frozen 1
  have m2 := hDo.md.own.frozen 2
  have m3 := hDo.md.own.frozen 3
  have m4 := hDo.md.own.frozen 4
  have m5 := hDo.md.own.frozen 5
  have m6 := hDo.md.own.frozen 6
  have m7 := hDo.md.own.frozen 7
  have m8 := hDo.md.own.frozen 8
  have m9 := hDo.md.own.frozen 9
  clear hDo hpw HD0 HO
  by_cases hn0 : s.ns = []
  · rw [hn0] at q1
    clear hn0 hf
    go_wp2
    go_ret2
    exact ⟨none, 0, g, a, c, rfl, Row.of_nil _ _, fun z hz => (by cases hz), HD.out.md, Exc.of_below HD.out.bel, fun k hk => .inl hk⟩
  obtain ⟨M, hM⟩ : ∃ M, M = s.ns.length := ⟨_, rfl⟩
  have hm0 : 0 < M := by rw [hM]; exact List.length_pos_iff.2 hn0
  have hm1 : (0 : Int) < (M : Int) := by omega
  rw [← hM] at q1
  have hfr := hf.resolve_left hn0
  rw [HD.out.wz] at hfr
  have p0 := HD.out.way.cell 0 (by simp)
  have p1 := HD.out.way.cell 1 (by simp)
  have p2 := HD.out.way.cell 2 (by simp)
  have p3 := HD.out.way.cell 3 (by simp)
  simp only [List.getD_cons_zero, List.getD_cons_succ] at p0 p1 p2 p3
  have HF := Lib.hid (mfree_any mb s g a c now z0 0 z0 z1 W HD.out.md hh.1 hh.2.1 hh.2.2.1 hh.2.2.2)
  have e1 : decide (s.free now ⟨z0, 0, z0, z1⟩) = false := by simp only [hfr, decide_false]
  rw [e1] at HF
  clear hfr e1 hn0 hf hM
  go_wp2_with fail
  refine HF.out.mono ?_
  rintro e w2 ⟨rfl, hb2⟩
  have HB2 := Lib.hid hb2
  clear hb2 p0 p1 p2 p3
  go_wp2
  go_ret2
  exact ⟨none, 0, g, a, c, rfl, Row.of_nil _ _, fun z hz => (by cases hz), HD.out.md.later HB2.out, Exc.of_below (HD.out.bel.trans (HB2.out.mono HD.out.bel.size)), fun k hk => .inl hk⟩
set_option maxHeartbeats 4000000 in
set_option maxRecDepth 100000 in
theorem do_pass_no4 (w : World) (mb : Nat) (s : Pn) (g : Option Nat) (a : Option Addr) (c : Nat) (A B C now : Int) (n : Nat) (h : MdAt w mb s g a c) (hA : 0 ≤ A ∧ A ≤ 255) (hB : 0 ≤ B ∧ B ≤ 255) (hq : A % 8 = 4) (hh : s.hold ≤ 255 ∧ 0 ≤ s.hold ∧ s.last ≤ 1000000 ∧ 0 ≤ s.last) (hf : s.ns = [] ∨ ¬ s.free now (wayN B)) :
    Calls Try.prog 11 #[.pointer (some ⟨mb, 0, none⟩), .agg #[.int .u8 A, .int .u8 B, .int .u8 C], .int .i64 now, .int .i64 (n : Int)] w fun e w' => MdOut w mb g s [] 0 e w' := by
  have hb0 := below_alloc w (.cells #[.int .u8 A, .int .u8 B, .int .u8 C] 38)
  have ho0 := own_lit w 38 #[.int .u8 A, .int .u8 B, .int .u8 C] _ rfl
  have hmod : A.tmod 8 = 4 := (Int.tmod_eq_emod_of_nonneg hA.1).trans hq
  obtain ⟨c0, c1, c2⟩ : _ ∧ _ ∧ _ := ⟨ho0.cell 0 (by simp), ho0.cell 1 (by simp), ho0.cell 2 (by simp)⟩
  have H := Lib.hid h
  have HO := Lib.hid (And.intro ho0 hb0)
  have HBw := Lib.hid hB
  have HAw := Lib.hid hA
  clear ho0 hb0 hq hA hB
  simp only [List.getD_cons_zero, List.getD_cons_succ] at c0 c1 c2
  go_enter Try.func11, Try.ntmps11
  go_wp2_with fail
  refine (wayN_any B _ HBw.out.1 HBw.out.2).mono ?_
  rintro e w1 ⟨rfl, hb1⟩
  obtain ⟨px, hpx⟩ : ∃ p, p = w.heap.size := ⟨_, rfl⟩
  have ho1 := HO.out.1.below hb1 HO.out.1.lt
  rw [← hpx] at ho1 ⊢
  have hb01 := HO.out.2.trans (hb1.mono HO.out.2.size)
  have hDo : DoIn w (w1.alloc (.cells #[.int .u16 (1 + B % 3), .int .u16 0, .int .u16 (1 + B % 3), .int .u8 (B / 3 % 2)] 34)) mb s g a c A B C (1 + B % 3) (B / 3 % 2) px w1.heap.size :=
    ⟨(H.out.later hb01).later (below_alloc w1 _), ho1.below (below_alloc w1 _) ho1.lt, own_lit w1 _ _ _ rfl, rfl, hb01.trans ((below_alloc w1 _).mono hb01.size), Nat.le_of_eq hpx.symm, hb01.size, H.out.own.lt⟩
  obtain ⟨z0, hz0⟩ : ∃ z, z = 1 + B % 3 := ⟨_, rfl⟩
  obtain ⟨z1, hz1⟩ : ∃ z, z = B / 3 % 2 := ⟨_, rfl⟩
  rw [← hz0, ← hz1] at hDo
  rw [← hz0, ← hz1]
  have HD0 := Lib.hid hDo
  have HZ := Lib.hid (And.intro hz0 hz1)
  clear c0 c1 c2 hb1 hb01 ho1 hpx hDo hz0 hz1
  go_upto_region 3 with fail
  generalize w1.alloc (.cells #[.int .u16 z0, .int .u16 0, .int .u16 z0, .int .u8 z1] 34) = W at HD0 ⊢
  obtain ⟨pw, hpw⟩ : ∃ p, p = w1.heap.size := ⟨_, rfl⟩
  have hDo := HD0.out
  rw [← hpw] at hDo ⊢
  have HD := Lib.hid hDo
  obtain ⟨q0, q1, q2, q3, q4, q5, q6, q7, q8, q9⟩ := hDo.md.cells
  have k0 := hDo.box.cell 0 (by simp)
  simp only [List.getD_cons_zero] at k0
  have m0 := hDo.md.own.frozen 0
  have m1 := hDo.md.own.frozen 1
  have m2 := hDo.md.own.frozen 2
  have m3 := hDo.md.own.frozen 3
  have m4 := hDo.md.own.frozen 4
  have m5 := hDo.md.own.frozen 5
  have m6 := hDo.md.own.frozen 6
  have m7 := hDo.md.own.frozen 7
  have m8 := hDo.md.own.frozen 8
  have m9 := hDo.md.own.frozen 9
  clear hDo hpw HD0 HO
  by_cases hn0 : s.ns = []
  · rw [hn0] at q1
    clear hn0 hf
    go_wp2
    go_ret2
    exact ⟨none, 0, g, a, c, rfl, Row.of_nil _ _, fun z hz => (by cases hz), HD.out.md, Exc.of_below HD.out.bel, fun k hk => .inl hk⟩
  obtain ⟨M, hM⟩ : ∃ M, M = s.ns.length := ⟨_, rfl⟩
  have hm0 : 0 < M := by rw [hM]; exact List.length_pos_iff.2 hn0
  have hm1 : (0 : Int) < (M : Int) := by omega
  rw [← hM] at q1
  have hfr := hf.resolve_left hn0
  rw [HD.out.wz] at hfr
  have p0 := HD.out.way.cell 0 (by simp)
  have p1 := HD.out.way.cell 1 (by simp)
  have p2 := HD.out.way.cell 2 (by simp)
  have p3 := HD.out.way.cell 3 (by simp)
  simp only [List.getD_cons_zero, List.getD_cons_succ] at p0 p1 p2 p3
  have HF := Lib.hid (mfree_any mb s g a c now z0 0 z0 z1 W HD.out.md hh.1 hh.2.1 hh.2.2.1 hh.2.2.2)
  have e1 : decide (s.free now ⟨z0, 0, z0, z1⟩) = false := by simp only [hfr, decide_false]
  rw [e1] at HF
  clear hfr e1 hn0 hf hM
  go_wp2_with fail
  refine HF.out.mono ?_
  rintro e w2 ⟨rfl, hb2⟩
  have HB2 := Lib.hid hb2
  clear hb2 p0 p1 p2 p3
  go_wp2
  go_ret2
  exact ⟨none, 0, g, a, c, rfl, Row.of_nil _ _, fun z hz => (by cases hz), HD.out.md.later HB2.out, Exc.of_below (HD.out.bel.trans (HB2.out.mono HD.out.bel.size)), fun k hk => .inl hk⟩
set_option maxHeartbeats 4000000 in
set_option maxRecDepth 100000 in
theorem do_pass_ok3 (w : World) (mb : Nat) (s : Pn) (g : Option Nat) (a : Option Addr) (c : Nat) (A B C now : Int) (n : Nat) (h : MdAt w mb s g a c) (hA : 0 ≤ A ∧ A ≤ 255) (hB : 0 ≤ B ∧ B ≤ 255) (hq : A % 8 = 3) (hh : s.hold ≤ 255 ∧ 0 ≤ s.hold ∧ s.last ≤ 1000000 ∧ 0 ≤ s.last) (hl : ∀ k ∈ s.ns, k ≤ 60000) (hn0 : s.ns ≠ []) (hf : s.free now (wayN B)) :
    Calls Try.prog 11 #[.pointer (some ⟨mb, 0, none⟩), .agg #[.int .u8 A, .int .u8 B, .int .u8 C], .int .i64 now, .int .i64 (n : Int)] w fun e w' => MdOut w mb g (s.went now (wayN B)) s.ns 0 e w' := by
  have hb0 := below_alloc w (.cells #[.int .u8 A, .int .u8 B, .int .u8 C] 38)
  have ho0 := own_lit w 38 #[.int .u8 A, .int .u8 B, .int .u8 C] _ rfl
  have hmod : A.tmod 8 = 3 := (Int.tmod_eq_emod_of_nonneg hA.1).trans hq
  obtain ⟨c0, c1, c2⟩ : _ ∧ _ ∧ _ := ⟨ho0.cell 0 (by simp), ho0.cell 1 (by simp), ho0.cell 2 (by simp)⟩
  have H := Lib.hid h
  have HO := Lib.hid (And.intro ho0 hb0)
  have HBw := Lib.hid hB
  have HAw := Lib.hid hA
  clear ho0 hb0 hq hA hB
  simp only [List.getD_cons_zero, List.getD_cons_succ] at c0 c1 c2
  go_enter Try.func11, Try.ntmps11
  go_wp2_with fail
  refine (wayN_any B _ HBw.out.1 HBw.out.2).mono ?_
  rintro e w1 ⟨rfl, hb1⟩
  obtain ⟨px, hpx⟩ : ∃ p, p = w.heap.size := ⟨_, rfl⟩
  have ho1 := HO.out.1.below hb1 HO.out.1.lt
  rw [← hpx] at ho1 ⊢
  have hb01 := HO.out.2.trans (hb1.mono HO.out.2.size)
  have hDo : DoIn w (w1.alloc (.cells #[.int .u16 (1 + B % 3), .int .u16 0, .int .u16 (1 + B % 3), .int .u8 (B / 3 % 2)] 34)) mb s g a c A B C (1 + B % 3) (B / 3 % 2) px w1.heap.size :=
    ⟨(H.out.later hb01).later (below_alloc w1 _), ho1.below (below_alloc w1 _) ho1.lt, own_lit w1 _ _ _ rfl, rfl, hb01.trans ((below_alloc w1 _).mono hb01.size), Nat.le_of_eq hpx.symm, hb01.size, H.out.own.lt⟩
  obtain ⟨z0, hz0⟩ : ∃ z, z = 1 + B % 3 := ⟨_, rfl⟩
  obtain ⟨z1, hz1⟩ : ∃ z, z = B / 3 % 2 := ⟨_, rfl⟩
  rw [← hz0, ← hz1] at hDo
  rw [← hz0, ← hz1]
  have HD0 := Lib.hid hDo
  have HZ := Lib.hid (And.intro hz0 hz1)
  clear c0 c1 c2 hb1 hb01 ho1 hpx hDo hz0 hz1
  go_upto_region 3 with fail
  generalize w1.alloc (.cells #[.int .u16 z0, .int .u16 0, .int .u16 z0, .int .u8 z1] 34) = W at HD0 ⊢
  obtain ⟨pw, hpw⟩ : ∃ p, p = w1.heap.size := ⟨_, rfl⟩
  have hDo := HD0.out
  rw [← hpw] at hDo ⊢
  have HD := Lib.hid hDo
  obtain ⟨q0, q1, q2, q3, q4, q5, q6, q7, q8, q9⟩ := hDo.md.cells
  have k0 := hDo.box.cell 0 (by simp)
  simp only [List.getD_cons_zero] at k0
  have m0 := hDo.md.own.frozen 0
  have m1 := hDo.md.own.frozen 1
  have m2 := hDo.md.own.frozen 2
  have m3 := hDo.md.own.frozen 3
  have m4 := hDo.md.own.frozen 4
  have m5 := hDo.md.own.frozen 5
  have m6 := hDo.md.own.frozen 6
  have m7 := hDo.md.own.frozen 7
  have m8 := hDo.md.own.frozen 8
  have m9 := hDo.md.own.frozen 9
  clear hDo hpw HD0 HO
  have hrow : Row .i64 W a s.ns.length c (ints s.ns) := HD.out.md.buf.row (ints_wf hl)
  have hrz : ∀ z, a = some z → (g = some z.block ∨ w.heap.size ≤ z.block) ∧ z.block ≠ mb ∧ z.block < W.heap.size := fun z hz => by
    have h1 := (HD.out.md.buf.block hz).1
    exact ⟨.inl h1, fun hh => HD.out.md.gb (by rw [h1, hh]), HD.out.md.buf.lt h1⟩
  have HR := Lib.hid (And.intro hrow hrz)
  clear hrow hrz hl
  obtain ⟨M, hM⟩ : ∃ M, M = s.ns.length := ⟨_, rfl⟩
  have hm0 : 0 < M := by rw [hM]; exact List.length_pos_iff.2 hn0
  have hm1 : (0 : Int) < (M : Int) := by omega
  have hp3 : s.ph ≠ 3 := hf.1
  rw [← hM] at q1
  rw [HD.out.wz] at hf
  have p0 := HD.out.way.cell 0 (by simp)
  have p1 := HD.out.way.cell 1 (by simp)
  have p2 := HD.out.way.cell 2 (by simp)
  have p3 := HD.out.way.cell 3 (by simp)
  simp only [List.getD_cons_zero, List.getD_cons_succ] at p0 p1 p2 p3
  have HF := Lib.hid (mfree_any mb s g a c now z0 0 z0 z1 W HD.out.md hh.1 hh.2.1 hh.2.2.1 hh.2.2.2)
  have e1 : decide (s.free now ⟨z0, 0, z0, z1⟩) = true := by simp only [hf, decide_true]
  rw [e1] at HF
  have HP3 := Lib.hid hp3
  have HM := Lib.hid hM
  clear hf e1 hn0 hM hp3
  go_wp2_with fail
  refine HF.out.mono ?_
  rintro e w2 ⟨rfl, hb2⟩
  have HB2 := Lib.hid hb2
  have hmd := HD.out.md.later hb2
  have hwy := HD.out.way.below hb2 HD.out.way.lt
  clear q0 q1 q2 q3 q4 q5 q6 q7 q8 q9 m0 m1 m2 m3 m4 m5 m6 m7 m8 m9 p0 p1 p2 p3 k0
  obtain ⟨q0, q1, q2, q3, q4, q5, q6, q7, q8, q9⟩ := hmd.cells
  rw [← HM.out] at q1
  have m1 := hmd.own.frozen 1
  have m2 := hmd.own.frozen 2
  have m4 := hmd.own.frozen 4
  have m5 := hmd.own.frozen 5
  have m6 := hmd.own.frozen 6
  have m7 := hmd.own.frozen 7
  have m8 := hmd.own.frozen 8
  have m9 := hmd.own.frozen 9
  have p0 := hwy.cell 0 (by simp)
  have p1 := hwy.cell 1 (by simp)
  have p2 := hwy.cell 2 (by simp)
  have p3 := hwy.cell 3 (by simp)
  simp only [List.getD_cons_zero, List.getD_cons_succ] at p0 p1 p2 p3
  have n1 : ¬ pw = mb := by have h1 := HD.out.ne2; have h2 := HD.out.mlt; omega
  have n2 : ¬ mb = pw := fun hh => n1 hh.symm
  have hr2 := HR.out.1.later hb2
  have HR := Lib.hid (And.intro hr2 (fun z hz => And.intro (HR.out.2 z hz).1 (And.intro (HR.out.2 z hz).2.1 (Nat.lt_of_lt_of_le (HR.out.2 z hz).2.2 hb2.size))))
  have HMd := Lib.hid hmd
  clear hb2 hmd hwy hr2
  go_wp2
  go_ret2
  have hx : Exc (fun k => k = mb) w2 (World.setCell (World.setCell (World.setCell (World.setCell (World.setCell (World.setCell (World.setCell (World.setCell w2 ⟨mb, 1, none⟩ (.slice none 0 0)) ⟨mb, 2, none⟩ (.bool true)) ⟨mb, 4, none⟩ (.bool false)) ⟨mb, 5, none⟩ (.int .u16 z0)) ⟨mb, 6, none⟩ (.int .u16 0)) ⟨mb, 7, none⟩ (.int .u16 z0)) ⟨mb, 8, none⟩ (.int .u8 z1)) ⟨mb, 9, none⟩ (.int .i64 now)) := Blk.more (Blk.more (Blk.more (Blk.more (Blk.more (Blk.more (Blk.more (Blk.exc mb 1 _ w2) 2 _) 4 _) 5 _) 6 _) 7 _) 8 _) 9 _
  have ho := ((((((((HMd.out.own).set 1 (.slice none 0 0)).set 2 (.bool true)).set 4 (.bool false)).set 5 (.int .u16 z0)).set 6 (.int .u16 0)).set 7 (.int .u16 z0)).set 8 (.int .u8 z1)).set 9 (.int .i64 now)
  have hxx := (Exc.of_below (HD.out.bel.trans (HB2.out.mono HD.out.bel.size))).trans hx (fun _ _ hh => hh)
  rw [HM.out]
  refine ⟨a, c, none, none, 0, rfl, ?_, ?_, ⟨?_, Buf.nil _ _ _, fun hh => (by cases hh)⟩, hxx, fun k hk => (by cases hk)⟩
  · exact (HR.out.1).exc hx (fun z hz hh => (HR.out.2 z hz).2.1 hh)
  · exact fun z hz => ⟨(HR.out.2 z hz).1, (HR.out.2 z hz).2.1, Nat.lt_of_lt_of_le (HR.out.2 z hz).2.2 hx.size⟩
  · have e : mdCells (s.went now (wayN B)) none 0 = (((((((((mdCells s a c).set 1 (.slice none 0 0)).set 2 (.bool true)).set 4 (.bool false)).set 5 (.int .u16 z0)).set 6 (.int .u16 0)).set 7 (.int .u16 z0)).set 8 (.int .u8 z1)).set 9 (.int .i64 now)) := by
      have hp := HP3.out
      simp [mdCells, Pn.went, HD.out.wz, hp]
    rw [e]
    exact ho
set_option maxHeartbeats 4000000 in
set_option maxRecDepth 100000 in
theorem do_pass_ok4 (w : World) (mb : Nat) (s : Pn) (g : Option Nat) (a : Option Addr) (c : Nat) (A B C now : Int) (n : Nat) (h : MdAt w mb s g a c) (hA : 0 ≤ A ∧ A ≤ 255) (hB : 0 ≤ B ∧ B ≤ 255) (hq : A % 8 = 4) (hh : s.hold ≤ 255 ∧ 0 ≤ s.hold ∧ s.last ≤ 1000000 ∧ 0 ≤ s.last) (hl : ∀ k ∈ s.ns, k ≤ 60000) (hn0 : s.ns ≠ []) (hf : s.free now (wayN B)) :
    Calls Try.prog 11 #[.pointer (some ⟨mb, 0, none⟩), .agg #[.int .u8 A, .int .u8 B, .int .u8 C], .int .i64 now, .int .i64 (n : Int)] w fun e w' => MdOut w mb g (s.went now (wayN B)) s.ns 0 e w' := by
  have hb0 := below_alloc w (.cells #[.int .u8 A, .int .u8 B, .int .u8 C] 38)
  have ho0 := own_lit w 38 #[.int .u8 A, .int .u8 B, .int .u8 C] _ rfl
  have hmod : A.tmod 8 = 4 := (Int.tmod_eq_emod_of_nonneg hA.1).trans hq
  obtain ⟨c0, c1, c2⟩ : _ ∧ _ ∧ _ := ⟨ho0.cell 0 (by simp), ho0.cell 1 (by simp), ho0.cell 2 (by simp)⟩
  have H := Lib.hid h
  have HO := Lib.hid (And.intro ho0 hb0)
  have HBw := Lib.hid hB
  have HAw := Lib.hid hA
  clear ho0 hb0 hq hA hB
  simp only [List.getD_cons_zero, List.getD_cons_succ] at c0 c1 c2
  go_enter Try.func11, Try.ntmps11
  go_wp2_with fail
  refine (wayN_any B _ HBw.out.1 HBw.out.2).mono ?_
  rintro e w1 ⟨rfl, hb1⟩
  obtain ⟨px, hpx⟩ : ∃ p, p = w.heap.size := ⟨_, rfl⟩
  have ho1 := HO.out.1.below hb1 HO.out.1.lt
  rw [← hpx] at ho1 ⊢
  have hb01 := HO.out.2.trans (hb1.mono HO.out.2.size)
  have hDo : DoIn w (w1.alloc (.cells #[.int .u16 (1 + B % 3), .int .u16 0, .int .u16 (1 + B % 3), .int .u8 (B / 3 % 2)] 34)) mb s g a c A B C (1 + B % 3) (B / 3 % 2) px w1.heap.size :=
    ⟨(H.out.later hb01).later (below_alloc w1 _), ho1.below (below_alloc w1 _) ho1.lt, own_lit w1 _ _ _ rfl, rfl, hb01.trans ((below_alloc w1 _).mono hb01.size), Nat.le_of_eq hpx.symm, hb01.size, H.out.own.lt⟩
  obtain ⟨z0, hz0⟩ : ∃ z, z = 1 + B % 3 := ⟨_, rfl⟩
  obtain ⟨z1, hz1⟩ : ∃ z, z = B / 3 % 2 := ⟨_, rfl⟩
  rw [← hz0, ← hz1] at hDo
  rw [← hz0, ← hz1]
  have HD0 := Lib.hid hDo
  have HZ := Lib.hid (And.intro hz0 hz1)
  clear c0 c1 c2 hb1 hb01 ho1 hpx hDo hz0 hz1
  go_upto_region 3 with fail
  generalize w1.alloc (.cells #[.int .u16 z0, .int .u16 0, .int .u16 z0, .int .u8 z1] 34) = W at HD0 ⊢
  obtain ⟨pw, hpw⟩ : ∃ p, p = w1.heap.size := ⟨_, rfl⟩
  have hDo := HD0.out
  rw [← hpw] at hDo ⊢
  have HD := Lib.hid hDo
  obtain ⟨q0, q1, q2, q3, q4, q5, q6, q7, q8, q9⟩ := hDo.md.cells
  have k0 := hDo.box.cell 0 (by simp)
  simp only [List.getD_cons_zero] at k0
  have m0 := hDo.md.own.frozen 0
  have m1 := hDo.md.own.frozen 1
  have m2 := hDo.md.own.frozen 2
  have m3 := hDo.md.own.frozen 3
  have m4 := hDo.md.own.frozen 4
  have m5 := hDo.md.own.frozen 5
  have m6 := hDo.md.own.frozen 6
  have m7 := hDo.md.own.frozen 7
  have m8 := hDo.md.own.frozen 8
  have m9 := hDo.md.own.frozen 9
  clear hDo hpw HD0 HO
  have hrow : Row .i64 W a s.ns.length c (ints s.ns) := HD.out.md.buf.row (ints_wf hl)
  have hrz : ∀ z, a = some z → (g = some z.block ∨ w.heap.size ≤ z.block) ∧ z.block ≠ mb ∧ z.block < W.heap.size := fun z hz => by
    have h1 := (HD.out.md.buf.block hz).1
    exact ⟨.inl h1, fun hh => HD.out.md.gb (by rw [h1, hh]), HD.out.md.buf.lt h1⟩
  have HR := Lib.hid (And.intro hrow hrz)
  clear hrow hrz hl
  obtain ⟨M, hM⟩ : ∃ M, M = s.ns.length := ⟨_, rfl⟩
  have hm0 : 0 < M := by rw [hM]; exact List.length_pos_iff.2 hn0
  have hm1 : (0 : Int) < (M : Int) := by omega
  have hp3 : s.ph ≠ 3 := hf.1
  rw [← hM] at q1
  rw [HD.out.wz] at hf
  have p0 := HD.out.way.cell 0 (by simp)
  have p1 := HD.out.way.cell 1 (by simp)
  have p2 := HD.out.way.cell 2 (by simp)
  have p3 := HD.out.way.cell 3 (by simp)
  simp only [List.getD_cons_zero, List.getD_cons_succ] at p0 p1 p2 p3
  have HF := Lib.hid (mfree_any mb s g a c now z0 0 z0 z1 W HD.out.md hh.1 hh.2.1 hh.2.2.1 hh.2.2.2)
  have e1 : decide (s.free now ⟨z0, 0, z0, z1⟩) = true := by simp only [hf, decide_true]
  rw [e1] at HF
  have HP3 := Lib.hid hp3
  have HM := Lib.hid hM
  clear hf e1 hn0 hM hp3
  go_wp2_with fail
  refine HF.out.mono ?_
  rintro e w2 ⟨rfl, hb2⟩
  have HB2 := Lib.hid hb2
  have hmd := HD.out.md.later hb2
  have hwy := HD.out.way.below hb2 HD.out.way.lt
  clear q0 q1 q2 q3 q4 q5 q6 q7 q8 q9 m0 m1 m2 m3 m4 m5 m6 m7 m8 m9 p0 p1 p2 p3 k0
  obtain ⟨q0, q1, q2, q3, q4, q5, q6, q7, q8, q9⟩ := hmd.cells
  rw [← HM.out] at q1
  have m1 := hmd.own.frozen 1
  have m2 := hmd.own.frozen 2
  have m4 := hmd.own.frozen 4
  have m5 := hmd.own.frozen 5
  have m6 := hmd.own.frozen 6
  have m7 := hmd.own.frozen 7
  have m8 := hmd.own.frozen 8
  have m9 := hmd.own.frozen 9
  have p0 := hwy.cell 0 (by simp)
  have p1 := hwy.cell 1 (by simp)
  have p2 := hwy.cell 2 (by simp)
  have p3 := hwy.cell 3 (by simp)
  simp only [List.getD_cons_zero, List.getD_cons_succ] at p0 p1 p2 p3
  have n1 : ¬ pw = mb := by have h1 := HD.out.ne2; have h2 := HD.out.mlt; omega
  have n2 : ¬ mb = pw := fun hh => n1 hh.symm
  have hr2 := HR.out.1.later hb2
  have HR := Lib.hid (And.intro hr2 (fun z hz => And.intro (HR.out.2 z hz).1 (And.intro (HR.out.2 z hz).2.1 (Nat.lt_of_lt_of_le (HR.out.2 z hz).2.2 hb2.size))))
  have HMd := Lib.hid hmd
  clear hb2 hmd hwy hr2
  go_wp2
  go_ret2
  have hx : Exc (fun k => k = mb) w2 (World.setCell (World.setCell (World.setCell (World.setCell (World.setCell (World.setCell (World.setCell (World.setCell w2 ⟨mb, 1, none⟩ (.slice none 0 0)) ⟨mb, 2, none⟩ (.bool true)) ⟨mb, 4, none⟩ (.bool false)) ⟨mb, 5, none⟩ (.int .u16 z0)) ⟨mb, 6, none⟩ (.int .u16 0)) ⟨mb, 7, none⟩ (.int .u16 z0)) ⟨mb, 8, none⟩ (.int .u8 z1)) ⟨mb, 9, none⟩ (.int .i64 now)) := Blk.more (Blk.more (Blk.more (Blk.more (Blk.more (Blk.more (Blk.more (Blk.exc mb 1 _ w2) 2 _) 4 _) 5 _) 6 _) 7 _) 8 _) 9 _
  have ho := ((((((((HMd.out.own).set 1 (.slice none 0 0)).set 2 (.bool true)).set 4 (.bool false)).set 5 (.int .u16 z0)).set 6 (.int .u16 0)).set 7 (.int .u16 z0)).set 8 (.int .u8 z1)).set 9 (.int .i64 now)
  have hxx := (Exc.of_below (HD.out.bel.trans (HB2.out.mono HD.out.bel.size))).trans hx (fun _ _ hh => hh)
  rw [HM.out]
  refine ⟨a, c, none, none, 0, rfl, ?_, ?_, ⟨?_, Buf.nil _ _ _, fun hh => (by cases hh)⟩, hxx, fun k hk => (by cases hk)⟩
  · exact (HR.out.1).exc hx (fun z hz hh => (HR.out.2 z hz).2.1 hh)
  · exact fun z hz => ⟨(HR.out.2 z hz).1, (HR.out.2 z hz).2.1, Nat.lt_of_lt_of_le (HR.out.2 z hz).2.2 hx.size⟩
  · have e : mdCells (s.went now (wayN B)) none 0 = (((((((((mdCells s a c).set 1 (.slice none 0 0)).set 2 (.bool true)).set 4 (.bool false)).set 5 (.int .u16 z0)).set 6 (.int .u16 0)).set 7 (.int .u16 z0)).set 8 (.int .u8 z1)).set 9 (.int .i64 now)) := by
      have hp := HP3.out
      simp [mdCells, Pn.went, HD.out.wz, hp]
    rw [e]
    exact ho
set_option maxHeartbeats 4000000 in
set_option maxRecDepth 100000 in
theorem do_back_ok (w : World) (mb : Nat) (s : Pn) (g : Option Nat) (a : Option Addr) (c : Nat) (A B C now : Int) (n : Nat) (h : MdAt w mb s g a c) (hA : 0 ≤ A ∧ A ≤ 255) (hB : 0 ≤ B ∧ B ≤ 255) (hq : A % 8 = 6) (hp : s.ph = 3) (hf : s.ns.length < 60000) (hn : n ≤ 60000) (hl : ∀ k ∈ s.ns, k ≤ 60000) :
    Calls Try.prog 11 #[.pointer (some ⟨mb, 0, none⟩), .agg #[.int .u8 A, .int .u8 B, .int .u8 C], .int .i64 now, .int .i64 (n : Int)] w fun e w' => MdOut w mb g (s.back [n, n + 1]) [] 0 e w' := by
  have hb0 := below_alloc w (.cells #[.int .u8 A, .int .u8 B, .int .u8 C] 38)
  have ho0 := own_lit w 38 #[.int .u8 A, .int .u8 B, .int .u8 C] _ rfl
  have hmod : A.tmod 8 = 6 := (Int.tmod_eq_emod_of_nonneg hA.1).trans hq
  obtain ⟨c0, c1, c2⟩ : _ ∧ _ ∧ _ := ⟨ho0.cell 0 (by simp), ho0.cell 1 (by simp), ho0.cell 2 (by simp)⟩
  have H := Lib.hid h
  have HO := Lib.hid (And.intro ho0 hb0)
  have HBw := Lib.hid hB
  have HAw := Lib.hid hA
  clear ho0 hb0 hq hA hB
  simp only [List.getD_cons_zero, List.getD_cons_succ] at c0 c1 c2
  go_enter Try.func11, Try.ntmps11
  go_wp2_with fail
  refine (wayN_any B _ HBw.out.1 HBw.out.2).mono ?_
  rintro e w1 ⟨rfl, hb1⟩
  obtain ⟨px, hpx⟩ : ∃ p, p = w.heap.size := ⟨_, rfl⟩
  have ho1 := HO.out.1.below hb1 HO.out.1.lt
  rw [← hpx] at ho1 ⊢
  have hb01 := HO.out.2.trans (hb1.mono HO.out.2.size)
  have hDo : DoIn w (w1.alloc (.cells #[.int .u16 (1 + B % 3), .int .u16 0, .int .u16 (1 + B % 3), .int .u8 (B / 3 % 2)] 34)) mb s g a c A B C (1 + B % 3) (B / 3 % 2) px w1.heap.size :=
    ⟨(H.out.later hb01).later (below_alloc w1 _), ho1.below (below_alloc w1 _) ho1.lt, own_lit w1 _ _ _ rfl, rfl, hb01.trans ((below_alloc w1 _).mono hb01.size), Nat.le_of_eq hpx.symm, hb01.size, H.out.own.lt⟩
  obtain ⟨z0, hz0⟩ : ∃ z, z = 1 + B % 3 := ⟨_, rfl⟩
  obtain ⟨z1, hz1⟩ : ∃ z, z = B / 3 % 2 := ⟨_, rfl⟩
  rw [← hz0, ← hz1] at hDo
  rw [← hz0, ← hz1]
  have HD0 := Lib.hid hDo
  have HZ := Lib.hid (And.intro hz0 hz1)
  clear c0 c1 c2 hb1 hb01 ho1 hpx hDo hz0 hz1
  go_upto_region 3 with fail
  generalize w1.alloc (.cells #[.int .u16 z0, .int .u16 0, .int .u16 z0, .int .u8 z1] 34) = W at HD0 ⊢
  obtain ⟨pw, hpw⟩ : ∃ p, p = w1.heap.size := ⟨_, rfl⟩
  have hDo := HD0.out
  rw [← hpw] at hDo ⊢
  have HD := Lib.hid hDo
  obtain ⟨q0, q1, q2, q3, q4, q5, q6, q7, q8, q9⟩ := hDo.md.cells
  have k0 := hDo.box.cell 0 (by simp)
  simp only [List.getD_cons_zero] at k0
  have m0 := hDo.md.own.frozen 0
  have m1 := hDo.md.own.frozen 1
  have m2 := hDo.md.own.frozen 2
  have m3 := hDo.md.own.frozen 3
  have m4 := hDo.md.own.frozen 4
  have m5 := hDo.md.own.frozen 5
  have m6 := hDo.md.own.frozen 6
  have m7 := hDo.md.own.frozen 7
  have m8 := hDo.md.own.frozen 8
  have m9 := hDo.md.own.frozen 9
  clear hDo hpw HD0 HO
  obtain ⟨i0, hi, hi1, hi2, hi3⟩ := info_parts info64
  have HI := Lib.hid (And.intro hi (And.intro hi1 (And.intro hi2 hi3)))
  clear hi hi1 hi2 hi3
  have e3 : decide (s.ph = 3) = true := by simp [hp]
  rw [e3] at q3
  have HPh := Lib.hid hp
  have hw : IntKind.i64.wrap ((n : Int) + 1) = ((n + 1 : Nat) : Int) := by rw [IntWalk.i64_in _ (by omega)]; push_cast; rfl
  obtain ⟨n1, hn1⟩ : ∃ n1, n1 = n + 1 := ⟨_, rfl⟩
  rw [← hn1] at hw
  obtain ⟨M, hM⟩ : ∃ M, M = s.ns.length := ⟨_, rfl⟩
  have hrow : Row .i64 W a M c (ints s.ns) := by rw [hM]; exact HD.out.md.buf.row (ints_wf hl)
  rw [← hM] at q1 hf
  have hmb : mb < W.heap.size := HD.out.md.own.lt
  have hgw : ∀ k, g = some k → k < W.heap.size := fun k hk => HD.out.md.buf.lt hk
  have hx0 : Exc (fun k => k = mb) W ((W.setCell ⟨mb, 3, none⟩ (.bool false)).setCell ⟨mb, 4, none⟩ (.bool true)) := Blk.more (Blk.exc mb 3 _ W) 4 _
  have ho0 := (HD.out.md.own.set 3 (.bool false)).set 4 (.bool true)
  have hr0 : Row .i64 ((W.setCell ⟨mb, 3, none⟩ (.bool false)).setCell ⟨mb, 4, none⟩ (.bool true)) a M c (ints s.ns) := hrow.exc hx0 (fun z hz hh => by
    have h1 := (HD.out.md.buf.block hz).1
    exact HD.out.md.gb (by rw [h1, hh]))
  have HK := Lib.hid (And.intro hx0 (And.intro ho0 (And.intro hr0 (And.intro hmb hgw))))
  have HM := Lib.hid hM
  have HN1 := Lib.hid hn1
  have hnn2 : 2 + M ≤ maxLen := by unfold maxLen; omega
  have hbb2 : (2 + M) * 8 ≤ 140737488355328 := by omega
  have HN := Lib.hid (And.intro hnn2 hbb2)
  clear hx0 ho0 hr0 hmb hgw hrow hM hn1 hl e3 hp hnn2 hbb2
  go_upto_region 29 with fail
  obtain ⟨hx0, ho0, hr0, hmb, hgw⟩ := HK.out
  generalize (W.setCell ⟨mb, 3, none⟩ (.bool false)).setCell ⟨mb, 4, none⟩ (.bool true) = W4 at hx0 ho0 hr0 ⊢
  have t1 := ho0.cell 1 (by simp [mdCells])
  simp only [mdCells, List.set_cons_succ, List.set_cons_zero, List.getD_cons_zero, List.getD_cons_succ] at t1
  rw [← HM.out] at t1
  have hb45 := below_alloc W4 (.cells #[.int .i64 (n : Int), .int .i64 (n1 : Int)] 3)
  have hr5 := hr0.later hb45
  have hsrc := hr5.src (P := Try.prog) (tx := 28) Try.underlying28
  have ho5 := ho0.below hb45 ho0.lt
  have hlit := own_lit W4 3 #[.int .i64 (n : Int), .int .i64 (n1 : Int)] _ rfl
  have hbuf : Buf (W4.alloc (.cells #[.int .i64 (n : Int), .int .i64 (n1 : Int)] 3)) 3 1 (some W4.heap.size) (some ⟨W4.heap.size, 0, none⟩) 2 2 (nums .i64 [(n : Int), (n1 : Int)]) :=
    ⟨rfl, Nat.le_refl _, by unfold maxLen; omega, .inr ⟨W4.heap.size, 0, _, rfl, rfl, hlit, by simp, fun j hj => by simp [nums]⟩⟩
  have hm5 : mb < (W4.alloc (.cells #[.int .i64 (n : Int), .int .i64 (n1 : Int)] 3)).heap.size := Nat.lt_of_lt_of_le ho0.lt hb45.size
  have HQ := Lib.hid (And.intro hx0 (And.intro hb45 (And.intro ho5 hm5)))
  have HB5 := Lib.hid hbuf
  have HS5 := Lib.hid hsrc
  have hW4 := ho0.lt
  clear hx0 ho0 hr0 hmb hgw hb45 hr5 hsrc ho5 hlit hbuf hm5 HK
  go_wp2_with (refine wpList_append_buf rfl _ _ 28 28 rfl 3 i0 (.int .i64 0) 1 8 Try.underlying28 HI.out.1 HI.out.2.1 HI.out.2.2.1 HI.out.2.2.2 rfl (by decide) (some W4.heap.size) (some ⟨W4.heap.size, 0, none⟩) 2 2 (nums .i64 [(n : Int), (n1 : Int)]) rfl HB5.out (.slice a M c) M (nums .i64 (ints s.ns)) rfl HS5.out HN.out.1 HN.out.2 ?_)
  intro g7 a7 c7 w7 r1 r2 r3
  obtain ⟨hx0, hb45, ho5, hm5⟩ := HQ.out
  have ho7 := ho5.exc r2 (fun hh => by cases hh; omega)
  have hs0 := hx0.size
  have hs45 := hb45.size
  have hs7 := r2.size
  have hg7 : ∀ k, g7 = some k → W.heap.size ≤ k := fun k hk => by
    rcases r3 k hk with h | h
    · cases h; exact hs0
    · first | omega | (rw [World.size_alloc] at h; omega)
  have t1 := ho7.cell 1 (by simp [mdCells])
  have f1 := ho7.frozen 1
  simp only [mdCells, List.set_cons_succ, List.set_cons_zero, List.getD_cons_zero, List.getD_cons_succ] at t1
  have hxW : Exc (fun k => k = mb) W w7 := (hx0.trans (S' := fun _ => False) (Exc.of_below hb45) (fun _ _ hh => hh.elim)).trans r2 (fun i hi hh => by cases hh; omega)
  have HO7 := Lib.hid (And.intro ho7 (And.intro hg7 (And.intro hxW r1)))
  clear r1 r2 r3 hx0 hb45 hm5 ho5 ho7 hs45 hs0 hs7 hg7 hxW HS5 HB5 HQ
  go_wp2
  go_ret2
  obtain ⟨ho7, hg7, hxW, r1⟩ := HO7.out
  have hbel := HD.out.bel
  have hbs := hbel.size
  have hmw := HD.out.mlt
  have hmb := HD.out.md.own.lt
  have hx8 : Exc (fun k => k = mb) w7 (w7.setCell ⟨mb, 1, none⟩ (.slice a7 (2 + M) c7)) := Blk.exc mb 1 _ w7
  have hlen : ([n, n + 1] ++ s.ns).length = 2 + M := by rw [List.length_append, HM.out]; rfl
  refine ⟨none, 0, g7, a7, c7, rfl, Row.of_nil _ _, fun z hz => (by cases hz), ⟨?_, ?_, fun hh => by have := hg7 mb hh; omega⟩, ?_, fun k hk => ?_⟩
  · have h5 := ho7.set 1 (.slice a7 (2 + M) c7)
    have e2 : decide (s.ph ≠ 1) = true := by simp [HPh.out]
    have e : mdCells (s.back [n, n + 1]) a7 c7 = (((mdCells s a c).set 3 (.bool false)).set 4 (.bool true)).set 1 (.slice a7 (2 + M) c7) := by
      unfold mdCells Pn.back
      simp only [hlen, e2]
      simp
    rw [e]
    exact h5
  · show Buf _ _ 1 g7 a7 ([n, n + 1] ++ s.ns).length c7 (nums .i64 (ints ([n, n + 1] ++ s.ns)))
    rw [hlen]
    have e : nums .i64 (ints ([n, n + 1] ++ s.ns)) = nums .i64 [(n : Int), (n1 : Int)] ++ nums .i64 (ints s.ns) := by rw [HN1.out]; simp [nums, ints]
    rw [e]
    exact r1.exc hx8 (fun k hk => by have := hg7 k hk; omega)
  · exact ((Exc.of_below hbel).trans hxW (fun _ _ hh => hh)).trans hx8 (fun _ _ hh => hh)
  · have := hg7 k hk
    exact .inr (by omega)
end Go.Proofs.Ytnkpmjkbkdnfjaa
