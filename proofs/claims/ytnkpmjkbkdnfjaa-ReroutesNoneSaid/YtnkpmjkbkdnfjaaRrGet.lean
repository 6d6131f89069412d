/- Gates of layer 17: what only reads; New; nil and zero gates. -/
import Derived.Test.YtnkpmjkbkdnfjaaRrEq
import Derived.BigQuiet
namespace Go.Proofs.Ytnkpmjkbkdnfjaa
open Go.RowKit

/-- Nil, or the zero gate. -/
def NoGt (w : World) (v : Option Addr) : Prop := v = none ∨ ∃ b, v = some ⟨b, 0, none⟩ ∧ w.cell? ⟨b, 2, none⟩ = some (.int .u8 0)
theorem NoGt.later {w w' : World} {v : Option Addr} (h : NoGt w v) (hb : Below w.heap.size w w') : NoGt w' v := by
  rcases h with h | ⟨b, h1, h2⟩
  · exact .inl h
  · exact .inr ⟨b, h1, (hb.cell (World.block_lt_of_cell? w _ h2)).trans h2⟩
set_option maxHeartbeats 2000000 in
set_option maxRecDepth 100000 in
theorem isNone_no (v : Option Addr) (w : World) (h : NoGt w v) : Calls Try.prog 27 #[.pointer v] w fun e w' => e = .returned (.bool true) ∧ ∃ q, w' = w.drewN q := by
  rcases h with rfl | ⟨b, rfl, c0⟩
  · go_enter Try.func27, Try.ntmps27
    go_wp2
    go_ret
    exact ⟨rfl, 0, rfl⟩
  · go_enter Try.func27, Try.ntmps27
    go_wp2
    go_ret
    exact ⟨rfl, 0, rfl⟩
set_option maxHeartbeats 2000000 in
set_option maxRecDepth 100000 in
theorem isNone_any (b : Nat) (p : Nat) (w : World) (c0 : w.cell? ⟨b, 2, none⟩ = some (.int .u8 (p : Int))) (hp : 1 ≤ p) : Calls Try.prog 27 #[.pointer (some ⟨b, 0, none⟩)] w fun e w' => e = .returned (.bool false) ∧ ∃ q, w' = w.drewN q := by
  have h1 : ((p : Int) == 0) = false := by simp; omega
  have h2 : ¬ p = 0 := by omega
  clear hp
  go_enter Try.func27, Try.ntmps27
  go_wp2
  go_ret
  exact ⟨rfl, 0, rfl⟩
set_option maxHeartbeats 2000000 in
set_option maxRecDepth 100000 in
theorem hasPassed_no (v : Option Addr) (w : World) (h : NoGt w v) : Calls Try.prog 26 #[.pointer v] w fun e w' => e = .returned (.bool false) ∧ ∃ q, w' = w.drewN q := by
  have HC := Lib.hid (isNone_no v w h)
  clear h
  go_enter Try.func26, Try.ntmps26
  go_wp2_with fail
  refine HC.out.mono ?_
  rintro e w' ⟨rfl, q, rfl⟩
  go_wp2
  go_ret
  exact ⟨rfl, q, rfl⟩
set_option maxHeartbeats 2000000 in
set_option maxRecDepth 100000 in
theorem waits_no (v : Option Addr) (w : World) (h : NoGt w v) : Calls Try.prog 16 #[.pointer v] w fun e w' => e = .returned (.bool false) ∧ ∃ q, w' = w.drewN q := by
  have HC := Lib.hid (isNone_no v w h)
  clear h
  go_enter Try.func16, Try.ntmps16
  go_wp2_with fail
  refine HC.out.mono ?_
  rintro e w' ⟨rfl, q, rfl⟩
  go_wp2
  go_ret
  exact ⟨rfl, q, rfl⟩
set_option maxHeartbeats 2000000 in
set_option maxRecDepth 100000 in
theorem len_no (v : Option Addr) (w : World) (h : NoGt w v) : Calls Try.prog 15 #[.pointer v] w fun e w' => e = .returned (.int .i64 0) ∧ ∃ q, w' = w.drewN q := by
  have HC := Lib.hid (isNone_no v w h)
  clear h
  go_enter Try.func15, Try.ntmps15
  go_wp2_with fail
  refine HC.out.mono ?_
  rintro e w' ⟨rfl, q, rfl⟩
  go_wp2
  go_ret
  exact ⟨rfl, q, rfl⟩
set_option maxHeartbeats 2000000 in
set_option maxRecDepth 100000 in
theorem cut_no (v : Option Addr) (w : World) (h : NoGt w v) : Calls Try.prog 21 #[.pointer v] w fun e w' => e = .returned (.int .i64 2) ∧ ∃ q, w' = w.drewN q := by
  have HC := Lib.hid (isNone_no v w h)
  clear h
  go_enter Try.func21, Try.ntmps21
  go_wp2_with fail
  refine HC.out.mono ?_
  rintro e w' ⟨rfl, q, rfl⟩
  go_wp2
  go_ret
  exact ⟨rfl, q, rfl⟩
set_option maxHeartbeats 2000000 in
set_option maxRecDepth 100000 in
theorem flush_no (v : Option Addr) (w : World) (h : NoGt w v) : Calls Try.prog 23 #[.pointer v] w fun e w' => e = .returned (.slice none 0 0) ∧ ∃ q, w' = w.drewN q := by
  have HC := Lib.hid (isNone_no v w h)
  clear h
  go_enter Try.func23, Try.ntmps23
  go_wp2_with fail
  refine HC.out.mono ?_
  rintro e w' ⟨rfl, q, rfl⟩
  go_wp2
  go_ret
  exact ⟨rfl, q, rfl⟩
set_option maxHeartbeats 2000000 in
set_option maxRecDepth 100000 in
theorem return_no (v : Option Addr) (a : Option Addr) (n c : Nat) (w : World) (h : NoGt w v) : Calls Try.prog 22 #[.pointer v, .slice a n c] w fun e w' => e = .returned (.int .i64 2) ∧ ∃ q, w' = w.drewN q := by
  have HC := Lib.hid (isNone_no v w h)
  clear h
  go_enter Try.func22, Try.ntmps22
  go_wp2_with fail
  refine HC.out.mono ?_
  rintro e w' ⟨rfl, q, rfl⟩
  go_wp2
  go_ret
  exact ⟨rfl, q, rfl⟩
set_option maxHeartbeats 2000000 in
set_option maxRecDepth 100000 in
theorem hasPassed_any (b : Nat) (x : Gt) (w : World) (h : GtAt w b x) : Calls Try.prog 26 #[.pointer (some ⟨b, 0, none⟩)] w fun e w' => e = .returned (.bool (decide (x.ph ≠ 1))) ∧ ∃ q, w' = w.drewN q := by
  obtain ⟨_, _, c2, _⟩ := h.cells
  obtain ⟨p, hp⟩ : ∃ p, p = x.ph := ⟨_, rfl⟩
  have h1 := h.ph1
  rw [← hp] at c2 h1 ⊢
  have HC := Lib.hid (isNone_any b p w c2 h1)
  clear h hp
  by_cases hq : p = 1
  · subst hq
    clear h1
    go_enter Try.func26, Try.ntmps26
    go_wp2_with fail
    refine HC.out.mono ?_
    rintro e w' ⟨rfl, q, rfl⟩
    go_wp2
    go_ret
    exact ⟨rfl, q, rfl⟩
  · have h2 : ((p : Int) != 1) = true := by simp; omega
    clear h1
    go_enter Try.func26, Try.ntmps26
    go_wp2_with fail
    refine HC.out.mono ?_
    rintro e w' ⟨rfl, q, rfl⟩
    go_wp2
    go_ret
    exact ⟨ret_bool (by simp [hq]), q, rfl⟩
set_option maxHeartbeats 2000000 in
set_option maxRecDepth 100000 in
theorem waits_any (b : Nat) (x : Gt) (w : World) (h : GtAt w b x) : Calls Try.prog 16 #[.pointer (some ⟨b, 0, none⟩)] w fun e w' => e = .returned (.bool (decide (x.ph = 3))) ∧ ∃ q, w' = w.drewN q := by
  obtain ⟨_, _, c2, _⟩ := h.cells
  obtain ⟨p, hp⟩ : ∃ p, p = x.ph := ⟨_, rfl⟩
  have h1 := h.ph1
  rw [← hp] at c2 h1 ⊢
  have HC := Lib.hid (isNone_any b p w c2 h1)
  clear h hp
  by_cases hq : p = 3
  · subst hq
    clear h1
    go_enter Try.func16, Try.ntmps16
    go_wp2_with fail
    refine HC.out.mono ?_
    rintro e w' ⟨rfl, q, rfl⟩
    go_wp2
    go_ret
    exact ⟨rfl, q, rfl⟩
  · have h2 : ((p : Int) == 3) = false := by simp; omega
    clear h1
    go_enter Try.func16, Try.ntmps16
    go_wp2_with fail
    refine HC.out.mono ?_
    rintro e w' ⟨rfl, q, rfl⟩
    go_wp2
    go_ret
    exact ⟨ret_bool (by simp [hq]), q, rfl⟩
set_option maxHeartbeats 2000000 in
set_option maxRecDepth 100000 in
theorem len_any (b : Nat) (x : Gt) (w : World) (h : GtAt w b x) : Calls Try.prog 15 #[.pointer (some ⟨b, 0, none⟩)] w fun e w' => e = .returned (.int .i64 (x.its.length : Int)) ∧ ∃ q, w' = w.drewN q := by
  obtain ⟨_, c1, c2, _⟩ := h.cells
  have HC := Lib.hid (isNone_any b x.ph w c2 h.ph1)
  clear h
  go_enter Try.func15, Try.ntmps15
  go_wp2_with fail
  refine HC.out.mono ?_
  rintro e w' ⟨rfl, q, rfl⟩
  go_wp2
  go_ret
  exact ⟨rfl, q, rfl⟩
set_option maxHeartbeats 2000000 in
set_option maxRecDepth 100000 in
theorem new_any (n : Int) (w : World) (h0 : 0 ≤ n) (h1 : n ≤ 9223372036854775807) : Calls Try.prog 10 #[.int .i64 n] w fun e w' => e = .returned (.tuple #[.pointer (some ⟨w.heap.size, 0, none⟩), .int .i64 0]) ∧ GtAt w' w.heap.size (Gt.fresh n) ∧ Below w.heap.size w w' := by
  have h2 : ¬ n < 0 := by omega
  have H0 := Lib.hid (And.intro h0 h1)
  clear h0 h1
  go_enter Try.func10, Try.ntmps10
  go_wp2
  go_ret2
  refine ⟨rfl, ⟨own_lit w _ _ (gtCells (Gt.fresh n)) rfl, Buf.nil _ _ _, ItsAt.nil _ _, fun k hk => (by cases hk), by simp [Gt.fresh], by simp [Gt.fresh], by simp [Gt.fresh], H0.out, by simp [Gt.fresh]⟩, below_alloc _ _⟩
set_option maxHeartbeats 2000000 in
set_option maxRecDepth 100000 in
theorem new_bad (n : Int) (w : World) (h0 : n < 0) : Calls Try.prog 10 #[.int .i64 n] w fun e w' => e = .returned (.tuple #[.pointer none, .int .i64 1]) ∧ w = w' := by
  go_enter Try.func10, Try.ntmps10
  go_wp2
  go_ret2
  exact ⟨rfl, rfl⟩
set_option maxHeartbeats 2000000 in
set_option maxRecDepth 100000 in
theorem end_any (b : Nat) (x : Gt) (w : World) (h : GtAt w b x) : Calls Try.prog 33 #[.pointer (some ⟨b, 0, none⟩)] w fun e w' => e = .returned (.int .i64 x.due) ∧ ∃ q, w' = w.drewN q := by
  obtain ⟨c0, _, _, _, _, _, _, c7⟩ := h.cells
  obtain ⟨hh0, hh1⟩ := h.hold
  obtain ⟨hl0, hl1⟩ := h.wf
  unfold Gt.due
  generalize x.hold = H at *
  generalize x.last = L at *
  clear h
  have hs : IntKind.i64.wrap (9223372036854775807 - H) = 9223372036854775807 - H := IntWalk.i64_in _ (by omega)
  by_cases hc : 9223372036854775807 - H < L
  · have hd : (if 9223372036854775807 - H < L then (9223372036854775807 : Int) else L + H) = 9223372036854775807 := if_pos hc
    clear hd
    go_enter Try.func33, Try.ntmps33
    go_wp2_with go_quiet (fail)
    go_ret
    exact ⟨rfl, _, rfl⟩
  · have hd : (if 9223372036854775807 - H < L then (9223372036854775807 : Int) else L + H) = L + H := if_neg hc
    clear hd
    have hs2 : IntKind.i64.wrap (L + H) = L + H := IntWalk.i64_in _ (by omega)
    go_enter Try.func33, Try.ntmps33
    go_wp2_with go_quiet (fail)
    go_ret
    exact ⟨rfl, _, rfl⟩
set_option maxHeartbeats 2000000 in
set_option maxRecDepth 100000 in
theorem way_no (v : Option Addr) (w : World) (h : NoGt w v) : Calls Try.prog 13 #[.pointer v] w fun e w' => e = .returned (.tuple #[.agg #[.int .u16 0, .int .u16 0, .int .u16 0, .int .u8 0], .bool false]) ∧ Below w.heap.size w w' := by
  have HC := Lib.hid (fun o => hasPassed_no v (w.alloc o) (h.later (below_alloc w o)))
  clear h
  go_enter Try.func13, Try.ntmps13
  go_wp2_with fail
  refine (HC.out _).mono ?_
  rintro e w' ⟨rfl, q, rfl⟩
  have hb := below_drewN (below_alloc w (Obj.cells #[.int .u16 0, .int .u16 0, .int .u16 0, .int .u8 0] 34)) q
  have ho := Blk.drawn (own_lit w 34 #[.int .u16 0, .int .u16 0, .int .u16 0, .int .u8 0] _ rfl) q
  obtain ⟨p, hp⟩ : ∃ p, p = w.heap.size := ⟨_, rfl⟩
  generalize (w.alloc (Obj.cells #[.int .u16 0, .int .u16 0, .int .u16 0, .int .u8 0] 34)).drewN q = W at *
  rw [← hp] at ho ⊢
  have k0 := ho.cell 0 (by simp)
  have k1 := ho.cell 1 (by simp)
  have k2 := ho.cell 2 (by simp)
  have k3 := ho.cell 3 (by simp)
  have f0 := ho.frozen 0
  have f1 := ho.frozen 1
  have f2 := ho.frozen 2
  have f3 := ho.frozen 3
  simp only [List.getD_cons_zero, List.getD_cons_succ] at k0 k1 k2 k3
  have HB := Lib.hid (And.intro hb hp)
  clear hb ho hp
  go_wp2
  have HX := Lib.hid ((((Exc.refl (fun k => k = p) W).setCell ⟨p, 0, none⟩ (.inl rfl) (.int .u16 0)).setCell ⟨p, 1, none⟩ (.inl rfl) (.int .u16 0)).setCell ⟨p, 2, none⟩ (.inl rfl) (.int .u16 0) |>.setCell ⟨p, 3, none⟩ (.inl rfl) (.int .u8 0))
  refine bodyPost_ret (v := .tuple #[.agg #[.int .u16 0, .int .u16 0, .int .u16 0, .int .u8 0], .bool false]) (by simp [results, Try.results13, go_sem, k0, k1, k2, k3]) rfl ⟨rfl, ?_⟩
  exact HB.out.1.trans (HX.out.below HB.out.1.size fun i _ hi => by have := HB.out.2; omega)
/-- What Way hands out. -/
def wyV (x : Gt) : Value := if x.ph = 1 then .agg #[.int .u16 0, .int .u16 0, .int .u16 0, .int .u8 0] else .agg #[.int .u16 x.wy.nx, .int .u16 x.wy.la, .int .u16 x.wy.lb, .int .u8 x.wy.lc]
set_option maxHeartbeats 2000000 in
set_option maxRecDepth 100000 in
theorem way_any (b : Nat) (x : Gt) (w : World) (h : GtAt w b x) : Calls Try.prog 13 #[.pointer (some ⟨b, 0, none⟩)] w fun e w' => e = .returned (.tuple #[wyV x, .bool (decide (x.ph ≠ 1))]) ∧ Below w.heap.size w w' := by
  have HC := Lib.hid (fun o => hasPassed_any b x (w.alloc o) (h.later (below_alloc w o)))
  have H := Lib.hid h
  have hlt := h.own.lt
  clear h
  go_enter Try.func13, Try.ntmps13
  go_wp2_with fail
  refine (HC.out _).mono ?_
  rintro e w' ⟨rfl, q, rfl⟩
  have hb := below_drewN (below_alloc w (Obj.cells #[.int .u16 0, .int .u16 0, .int .u16 0, .int .u8 0] 34)) q
  have ho := Blk.drawn (own_lit w 34 #[.int .u16 0, .int .u16 0, .int .u16 0, .int .u8 0] _ rfl) q
  obtain ⟨c0, c1, c2, c3, c4, c5, c6, c7⟩ := (H.out.later hb).cells
  obtain ⟨p, hp⟩ : ∃ p, p = w.heap.size := ⟨_, rfl⟩
  generalize (w.alloc (Obj.cells #[.int .u16 0, .int .u16 0, .int .u16 0, .int .u8 0] 34)).drewN q = W at *
  rw [← hp] at ho ⊢
  have k0 := ho.cell 0 (by simp)
  have k1 := ho.cell 1 (by simp)
  have k2 := ho.cell 2 (by simp)
  have k3 := ho.cell 3 (by simp)
  have f0 := ho.frozen 0
  have f1 := ho.frozen 1
  have f2 := ho.frozen 2
  have f3 := ho.frozen 3
  simp only [List.getD_cons_zero, List.getD_cons_succ] at k0 k1 k2 k3
  have n1 : ¬ b = p := by omega
  have HB := Lib.hid (And.intro hb hp)
  clear hb ho hp c0 c1 c2 c7
  by_cases hq : x.ph = 1
  · have e1 : decide (x.ph ≠ 1) = false := by simp [hq]
    have e2 : wyV x = Value.agg #[.int .u16 0, .int .u16 0, .int .u16 0, .int .u8 0] := if_pos hq
    rw [e1]
    have HE := Lib.hid (And.intro e2 hq)
    clear hq e1 e2
    go_wp2
    have HX := Lib.hid ((((Exc.refl (fun k => k = p) W).setCell ⟨p, 0, none⟩ (.inl rfl) (.int .u16 0)).setCell ⟨p, 1, none⟩ (.inl rfl) (.int .u16 0)).setCell ⟨p, 2, none⟩ (.inl rfl) (.int .u16 0) |>.setCell ⟨p, 3, none⟩ (.inl rfl) (.int .u8 0))
    refine bodyPost_ret (v := .tuple #[.agg #[.int .u16 0, .int .u16 0, .int .u16 0, .int .u8 0], .bool false]) (by simp [results, Try.results13, go_sem, k0, k1, k2, k3]) rfl ⟨by rw [HE.out.1]; simp [HE.out.2], ?_⟩
    exact HB.out.1.trans (HX.out.below HB.out.1.size fun i _ hi => by have := HB.out.2; omega)
  · have e1 : decide (x.ph ≠ 1) = true := by simp [hq]
    have e2 : wyV x = Value.agg #[.int .u16 x.wy.nx, .int .u16 x.wy.la, .int .u16 x.wy.lb, .int .u8 x.wy.lc] := if_neg hq
    rw [e1]
    have HE := Lib.hid (And.intro e2 hq)
    clear hq e1 e2
    go_wp2
    have HX := Lib.hid ((((Exc.refl (fun k => k = p) W).setCell ⟨p, 0, none⟩ (.inl rfl) (.int .u16 x.wy.nx)).setCell ⟨p, 1, none⟩ (.inl rfl) (.int .u16 x.wy.la)).setCell ⟨p, 2, none⟩ (.inl rfl) (.int .u16 x.wy.lb) |>.setCell ⟨p, 3, none⟩ (.inl rfl) (.int .u8 x.wy.lc))
    refine bodyPost_ret (v := .tuple #[.agg #[.int .u16 x.wy.nx, .int .u16 x.wy.la, .int .u16 x.wy.lb, .int .u8 x.wy.lc], .bool true]) (by simp [results, Try.results13, go_sem, k0, k1, k2, k3]) rfl ⟨by rw [HE.out.1]; simp [HE.out.2], ?_⟩
    exact HB.out.1.trans (HX.out.below HB.out.1.size fun i _ hi => by have := HB.out.2; omega)
set_option maxHeartbeats 2000000 in
set_option maxRecDepth 100000 in
theorem isFree_any (b : Nat) (x : Gt) (now nx la lb lc : Int) (w : World) (h : GtAt w b x) : Calls Try.prog 29 #[.pointer (some ⟨b, 0, none⟩), .int .i64 now, .agg #[.int .u16 nx, .int .u16 la, .int .u16 lb, .int .u8 lc]] w fun e w' => e = .returned (.bool (decide (x.free now ⟨nx, la, lb, lc⟩))) ∧ Below w.heap.size w w' := by
  have hb := below_alloc w (.cells #[.int .u16 nx, .int .u16 la, .int .u16 lb, .int .u8 lc] 34)
  have ho := own_lit w 34 #[.int .u16 nx, .int .u16 la, .int .u16 lb, .int .u8 lc] _ rfl
  have hlt := h.own.lt
  have h2 := h.later hb
  obtain ⟨c0, c1, c2, c3, c4, c5, c6, c7⟩ := h2.cells
  have H := Lib.hid (And.intro h2 hb)
  have h1 := h.ph1
  have h4 := h.ph4
  obtain ⟨p, hp⟩ : ∃ p, p = x.ph := ⟨_, rfl⟩
  rw [← hp] at c2 h1 h4
  have HP := Lib.hid hp
  clear h h2 hb hp c0 c1 c7
  by_cases p3 : p = 3
  · have hf : decide (x.free now ⟨nx, la, lb, lc⟩) = false := by simp [Gt.free, ← HP.out, p3]
    have HF := Lib.hid hf
    clear hf
    subst p3
    clear h1 h4 ho
    go_enter Try.func29, Try.ntmps29
    go_wp2
    go_ret
    exact ⟨ret_bool HF.out.symm, H.out.2⟩
  by_cases p1 : p = 1
  · have hf : decide (x.free now ⟨nx, la, lb, lc⟩) = true := by simp [Gt.free, ← HP.out, p1]
    have HF := Lib.hid hf
    clear hf
    subst p1
    clear h1 h4 ho p3
    go_enter Try.func29, Try.ntmps29
    go_wp2
    go_ret
    exact ⟨ret_bool HF.out.symm, H.out.2⟩
  have q1 : ((p : Int) == 1) = false := by simp; omega
  have q3 : ((p : Int) == 3) = false := by simp; omega
  obtain ⟨⟨xa, xb, xc, xd⟩, hwy⟩ : ∃ y, y = x.wy := ⟨_, rfl⟩
  rw [← hwy] at c3 c4 c5 c6
  have k0 := ho.cell 0 (by simp)
  have k1 := ho.cell 1 (by simp)
  have k2 := ho.cell 2 (by simp)
  have k3 := ho.cell 3 (by simp)
  simp only [List.getD_cons_zero, List.getD_cons_succ] at k0 k1 k2 k3 c3 c4 c5 c6
  have HW := Lib.hid hwy
  clear ho hwy
  by_cases hy : (⟨nx, la, lb, lc⟩ : Wy) = ⟨xa, xb, xc, xd⟩
  · have hf : decide (x.free now ⟨nx, la, lb, lc⟩) = true := by simp [Gt.free, ← HP.out, p3, ← HW.out, hy]
    have HF := Lib.hid hf
    clear hf
    have hq := fun w => eqlWy nx la lb lc xa xb xc xd w
    simp only [hy, decide_true] at hq
    clear hy p1 p3 h1 h4
    go_enter Try.func29, Try.ntmps29
    go_wp2_with go_quiet (fail)
    go_ret
    exact ⟨ret_bool HF.out.symm, below_drewN H.out.2 _⟩
  have hq := fun w => eqlWy nx la lb lc xa xb xc xd w
  have hyd : decide ((⟨nx, la, lb, lc⟩ : Wy) = ⟨xa, xb, xc, xd⟩) = false := by simp only [hy, decide_false]
  simp only [hyd] at hq
  clear hyd
  by_cases p4 : p = 4 ∧ nx = xa
  · have hf : decide (x.free now ⟨nx, la, lb, lc⟩) = true := by simp [Gt.free, ← HP.out, ← HW.out, p4]
    have HF := Lib.hid hf
    clear hf
    obtain ⟨rfl, rfl⟩ := p4
    clear hy p1 p3 h1 h4
    go_enter Try.func29, Try.ntmps29
    go_wp2_with go_quiet (fail)
    go_ret
    exact ⟨ret_bool HF.out.symm, below_drewN (below_drewN H.out.2 _) _⟩
  have HE := Lib.hid (fun n => end_any b x _ (H.out.1.later (below_draw _ n)))
  obtain ⟨D, hD⟩ : ∃ D, D = x.due := ⟨_, rfl⟩
  have hf : decide (x.free now ⟨nx, la, lb, lc⟩) = decide (D ≤ now) := by
    rw [decide_eq_decide, hD]
    unfold Gt.free
    rw [← HW.out, ← HP.out]
    constructor
    · rintro ⟨_, h | h | h | h⟩
      · exact absurd h p1
      · exact absurd h hy
      · exact absurd h p4
      · exact h
    · exact fun h => ⟨p3, .inr (.inr (.inr h))⟩
  have HF := Lib.hid hf
  rw [← hD] at HE
  have q4 : p = 4 → (nx == xa) = false := fun h => by simp; exact fun h2 => p4 ⟨h, h2⟩
  clear hf hD hy p1 p3 h1
  by_cases p44 : p = 4
  · have q5 := q4 p44
    subst p44
    clear q4 p4 h4
    go_enter Try.func29, Try.ntmps29
    go_wp2_with go_quiet (fail)
    refine (HE.out _).mono ?_
    rintro e w' ⟨rfl, q, rfl⟩
    by_cases hd : D ≤ now
    · go_wp2
      go_ret
      exact ⟨ret_bool (HF.out.trans (by simp [hd])).symm, below_drewN H.out.2 _⟩
    · go_wp2
      go_ret
      exact ⟨ret_bool (HF.out.trans (by simp [hd])).symm, below_drewN H.out.2 _⟩
  · have q5 : ((p : Int) == 4) = false := by simp; omega
    clear q4 p4 h4 p44
    go_enter Try.func29, Try.ntmps29
    go_wp2_with go_quiet (fail)
    refine (HE.out _).mono ?_
    rintro e w' ⟨rfl, q, rfl⟩
    by_cases hd : D ≤ now
    · go_wp2
      go_ret
      exact ⟨ret_bool (HF.out.trans (by simp [hd])).symm, below_drewN H.out.2 _⟩
    · go_wp2
      go_ret
      exact ⟨ret_bool (HF.out.trans (by simp [hd])).symm, below_drewN H.out.2 _⟩
end Go.Proofs.Ytnkpmjkbkdnfjaa
