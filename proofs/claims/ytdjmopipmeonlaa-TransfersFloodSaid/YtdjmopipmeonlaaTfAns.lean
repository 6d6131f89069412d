import Derived.Test.YtdjmopipmeonlaaBlk
import Derived.Deep.RegionHeld3
/- A table's Answer. -/
namespace Go.Proofs.Ytdjmopipmeonlaa
set_option linter.unusedVariables false
open Go.RowKit Go.Maps

def noNote : Ending := .returned (.tuple #[.agg #[.int .u16 0, .int .u16 0, .int .u8 0], .bool false])
theorem isEmpty_nulq (a : Option Addr) (w : World) (h : Nul w a) : Calls Try.prog 35 #[.pointer a] w fun e w' => e = .returned (.bool true) ∧ w' = w := (isEmpty_nul a w h).mono fun _ _ h => ⟨h.1, h.2.symm⟩
theorem keepA {v W : World} {o : Obj} (h : Below v.heap.size v W) : Below v.heap.size v (W.alloc o) := h.alloc h.size o
theorem keepD {v W : World} {o : Obj} (h : Below v.heap.size v W) : Below v.heap.size v (W.alloc o).drew := (h.alloc h.size o).drew
theorem own_rec {w w' : World} {b t bs : Nat} {cs : List Value} {T : Int → Int → Int} (h : Own w b t cs) (hr : RecAt w bs T) (hx : Exc (fun k => k = bs) w w') : Own w' b t cs := by
  obtain ⟨es, clock, hm⟩ := hr.map
  unfold Own
  rw [hx.block b h.lt (fun hh => by subst hh; exact own_map h hm)]
  exact h
theorem size_alloc1 (w : World) (o : Obj) : (w.alloc o).heap.size = w.heap.size + 1 := by simp
theorem Own.draw {w : World} {b t : Nat} {cs : List Value} (h : Own w b t cs) (q : Nat) : Own (w.drewN q) b t cs := h
set_option maxRecDepth 100000 in
set_option maxHeartbeats 1000000 in
theorem answer_nul (a : Option Addr) (n d s : Int) (w : World) (h : Nul w a) : Calls Try.prog 23 #[.pointer a, noteV n d s] w fun e w' => e = noNote ∧ Below w.heap.size w w' := by
  obtain ⟨W, hW⟩ : ∃ W, W = (w.alloc (.cells #[.int .u16 n, .int .u16 d, .int .u8 s] 54)).alloc (.cells #[.int .u16 0, .int .u16 0, .int .u8 0] 54) := ⟨_, rfl⟩
  have hb : Below w.heap.size w W := by rw [hW]; exact (below_alloc w _).alloc (by simp) _
  obtain ⟨nb, hnb⟩ : ∃ nb, nb = w.heap.size := ⟨_, rfl⟩
  have ho : Own W nb 54 [.int .u16 n, .int .u16 d, .int .u8 s] := by rw [hW, hnb]; exact (show Own (w.alloc _) w.heap.size _ _ from heap_alloc_new w _).below (below_alloc _ _) (by simp)
  have ho2 : Own W (nb + 1) 54 [.int .u16 0, .int .u16 0, .int .u8 0] := by rw [hW, hnb]; have h := heap_alloc_new (w.alloc (.cells #[.int .u16 n, .int .u16 d, .int .u8 s] 54)) (.cells #[.int .u16 0, .int .u16 0, .int .u8 0] 54); rw [size_alloc1] at h; exact h
  have HB := Lib.hid hb
  have HO := Lib.hid ho
  have HO2 := Lib.hid ho2
  have HE := Lib.hid (fun q => isEmpty_nulq a (W.drewN q) (h.later (hb.trans ((below_draw W q).mono hb.size))))
  clear h
  unfold noteV
  go_enter Try.func23, Try.ntmps23
  go_upto_region 1 with (fail)
  show Code.wp _ _ _ _ ((w.alloc (.cells #[.int .u16 n, .int .u16 d, .int .u8 s] 54)).alloc (.cells #[.int .u16 0, .int .u16 0, .int .u8 0] 54))
  rw [← hW, ← hnb]
  have HNb := Lib.hid hnb
  clear hW hnb
  have n0 := ho.cell 0 (by simp)
  have n1 := ho.cell 1 (by simp)
  have n2 := ho.cell 2 (by simp)
  simp only [List.getD_cons_zero, List.getD_cons_succ] at n0 n1 n2
  clear ho ho2 hb
  go_quiet ((go_at_call 35; exact Calls.quiet_of_same (HE.out _)))
  obtain ⟨W2, hW2⟩ : ∃ W2, W2 = W.drewN nq := ⟨_, rfl⟩
  rw [← hW2]
  have hbd : Below W.heap.size W W2 := by rw [hW2]; exact below_draw _ _
  have hoz := HO2.out.below hbd HO2.out.lt
  have HB2 := Lib.hid (HB.out.trans (hbd.mono HB.out.size))
  clear n0 n1 n2 hW2 hbd
  have z0 := hoz.cell 0 (by simp)
  have z1 := hoz.cell 1 (by simp)
  have z2 := hoz.cell 2 (by simp)
  have f0 := hoz.frozen 0
  have f1 := hoz.frozen 1
  have f2 := hoz.frozen 2
  simp only [List.getD_cons_zero, List.getD_cons_succ] at z0 z1 z2
  clear hoz
  go_wp2
  refine bodyPost_ret (v := .tuple #[.agg #[.int .u16 0, .int .u16 0, .int .u8 0], .bool false]) (by simp [results, Try.results23, go_sem, z0, z1, z2]) rfl ⟨rfl, ?_⟩
  have HS2 : Hid (w.heap.size ≤ nb + 1) := Lib.hid (by have := HNb.out; omega)
  exact ((HB2.out.setCell HS2.out _).setCell HS2.out _).setCell HS2.out _

set_option maxRecDepth 100000 in
set_option maxHeartbeats 1000000 in
theorem answer_end {y : Tl} {T : Tb} (n d s : Int) (w : World) (h : TbAt w y T) (_hn : (Lit.int .u16 n).wf = true) (_hd : (Lit.int .u16 d).wf = true) (ht : T.tr = false) : Calls Try.prog 23 #[.pointer (some ⟨y.tb, 0, none⟩), noteV n d s] w fun e w' => e = noNote ∧ Below w.heap.size w w' := by
  obtain ⟨W, hW⟩ : ∃ W, W = (w.alloc (.cells #[.int .u16 n, .int .u16 d, .int .u8 s] 54)).alloc (.cells #[.int .u16 0, .int .u16 0, .int .u8 0] 54) := ⟨_, rfl⟩
  have hb : Below w.heap.size w W := by rw [hW]; exact (below_alloc w _).alloc (by simp) _
  obtain ⟨nb, hnb⟩ : ∃ nb, nb = w.heap.size := ⟨_, rfl⟩
  have ho : Own W nb 54 [.int .u16 n, .int .u16 d, .int .u8 s] := by rw [hW, hnb]; exact (show Own (w.alloc _) w.heap.size _ _ from heap_alloc_new w _).below (below_alloc _ _) (by simp)
  have ho2 : Own W (nb + 1) 54 [.int .u16 0, .int .u16 0, .int .u8 0] := by rw [hW, hnb]; have h := heap_alloc_new (w.alloc (.cells #[.int .u16 n, .int .u16 d, .int .u8 s] 54)) (.cells #[.int .u16 0, .int .u16 0, .int .u8 0] 54); rw [size_alloc1] at h; exact h
  have HB := Lib.hid hb
  have HO := Lib.hid ho
  have HO2 := Lib.hid ho2
  have hA := h.below hb
  have HA := Lib.hid hA
  have HE := Lib.hid (fun q => isEmpty_q (W.drewN q) (hA.below (below_draw W q)))
  obtain ⟨g0, g1, g2, g3, g4, g5, g6, g7⟩ := hA.cells
  rw [ht] at g1
  clear ht
  clear h hA _hn _hd
  unfold noteV
  go_enter Try.func23, Try.ntmps23
  go_upto_region 1 with (fail)
  show Code.wp _ _ _ _ ((w.alloc (.cells #[.int .u16 n, .int .u16 d, .int .u8 s] 54)).alloc (.cells #[.int .u16 0, .int .u16 0, .int .u8 0] 54))
  rw [← hW, ← hnb]
  have HNb := Lib.hid hnb
  clear hW hnb
  have n0 := ho.cell 0 (by simp)
  have n1 := ho.cell 1 (by simp)
  have n2 := ho.cell 2 (by simp)
  simp only [List.getD_cons_zero, List.getD_cons_succ] at n0 n1 n2
  clear ho ho2 hb
  go_quiet ((go_at_call 35; exact Calls.quiet_of_same (HE.out _)))
  clear g0 g1 g2 g3 g4 g5 g6 g7
  obtain ⟨W2, hW2⟩ : ∃ W2, W2 = W.drewN nq := ⟨_, rfl⟩
  rw [← hW2]
  have hbd : Below W.heap.size W W2 := by rw [hW2]; exact below_draw _ _
  have hoz := HO2.out.below hbd HO2.out.lt
  have HB2 := Lib.hid (HB.out.trans (hbd.mono HB.out.size))
  clear n0 n1 n2 hW2 hbd
  have z0 := hoz.cell 0 (by simp)
  have z1 := hoz.cell 1 (by simp)
  have z2 := hoz.cell 2 (by simp)
  have f0 := hoz.frozen 0
  have f1 := hoz.frozen 1
  have f2 := hoz.frozen 2
  simp only [List.getD_cons_zero, List.getD_cons_succ] at z0 z1 z2
  clear hoz
  go_wp2
  refine bodyPost_ret (v := .tuple #[.agg #[.int .u16 0, .int .u16 0, .int .u8 0], .bool false]) (by simp [results, Try.results23, go_sem, z0, z1, z2]) rfl ⟨rfl, ?_⟩
  have HS2 : Hid (w.heap.size ≤ nb + 1) := Lib.hid (by have := HNb.out; omega)
  exact ((HB2.out.setCell HS2.out _).setCell HS2.out _).setCell HS2.out _

set_option maxRecDepth 100000 in
set_option maxHeartbeats 1000000 in
theorem answer_down {y : Tl} {T : Tb} (n d s : Int) (w : World) (h : TbAt w y T) (_hn : (Lit.int .u16 n).wf = true) (_hd : (Lit.int .u16 d).wf = true) (ht : T.tr = true) (hu : T.isUp n = false) : Calls Try.prog 23 #[.pointer (some ⟨y.tb, 0, none⟩), noteV n d s] w fun e w' => e = noNote ∧ Below w.heap.size w w' := by
  obtain ⟨W, hW⟩ : ∃ W, W = (w.alloc (.cells #[.int .u16 n, .int .u16 d, .int .u8 s] 54)).alloc (.cells #[.int .u16 0, .int .u16 0, .int .u8 0] 54) := ⟨_, rfl⟩
  have hb : Below w.heap.size w W := by rw [hW]; exact (below_alloc w _).alloc (by simp) _
  obtain ⟨nb, hnb⟩ : ∃ nb, nb = w.heap.size := ⟨_, rfl⟩
  have ho : Own W nb 54 [.int .u16 n, .int .u16 d, .int .u8 s] := by rw [hW, hnb]; exact (show Own (w.alloc _) w.heap.size _ _ from heap_alloc_new w _).below (below_alloc _ _) (by simp)
  have ho2 : Own W (nb + 1) 54 [.int .u16 0, .int .u16 0, .int .u8 0] := by rw [hW, hnb]; have h := heap_alloc_new (w.alloc (.cells #[.int .u16 n, .int .u16 d, .int .u8 s] 54)) (.cells #[.int .u16 0, .int .u16 0, .int .u8 0] 54); rw [size_alloc1] at h; exact h
  have HB := Lib.hid hb
  have HO := Lib.hid ho
  have HO2 := Lib.hid ho2
  have hA := h.below hb
  have HA := Lib.hid hA
  have HE := Lib.hid (fun q => isEmpty_q (W.drewN q) (hA.below (below_draw W q)))
  obtain ⟨g0, g1, g2, g3, g4, g5, g6, g7⟩ := hA.cells
  rw [ht] at g1
  have hlk : ∀ q, (Instr.lookup 82 (.map (some y.bu)) (.int .u16 n) false).run Try.prog (W.drewN q) = .ok (.bool false) (W.drewN q) := fun q => by
    have := (hA.below (below_draw W q)).ups.run _hn
    rw [show (decide (n ∈ T.N) && T.up n) = false from hu] at this
    exact this
  clear ht hu
  clear h hA _hn _hd
  unfold noteV
  go_enter Try.func23, Try.ntmps23
  go_upto_region 1 with (fail)
  show Code.wp _ _ _ _ ((w.alloc (.cells #[.int .u16 n, .int .u16 d, .int .u8 s] 54)).alloc (.cells #[.int .u16 0, .int .u16 0, .int .u8 0] 54))
  rw [← hW, ← hnb]
  have HNb := Lib.hid hnb
  clear hW hnb
  have n0 := ho.cell 0 (by simp)
  have n1 := ho.cell 1 (by simp)
  have n2 := ho.cell 2 (by simp)
  simp only [List.getD_cons_zero, List.getD_cons_succ] at n0 n1 n2
  clear ho ho2 hb
  go_quiet ((go_at_call 35; exact Calls.quiet_of_same (HE.out _)))
  clear g0 g1 g2 g3 g4 g5 g6 g7
  obtain ⟨W2, hW2⟩ : ∃ W2, W2 = W.drewN nq := ⟨_, rfl⟩
  rw [← hW2]
  have hbd : Below W.heap.size W W2 := by rw [hW2]; exact below_draw _ _
  have hoz := HO2.out.below hbd HO2.out.lt
  have HB2 := Lib.hid (HB.out.trans (hbd.mono HB.out.size))
  clear n0 n1 n2 hW2 hbd
  have z0 := hoz.cell 0 (by simp)
  have z1 := hoz.cell 1 (by simp)
  have z2 := hoz.cell 2 (by simp)
  have f0 := hoz.frozen 0
  have f1 := hoz.frozen 1
  have f2 := hoz.frozen 2
  simp only [List.getD_cons_zero, List.getD_cons_succ] at z0 z1 z2
  clear hoz
  go_wp2
  refine bodyPost_ret (v := .tuple #[.agg #[.int .u16 0, .int .u16 0, .int .u8 0], .bool false]) (by simp [results, Try.results23, go_sem, z0, z1, z2]) rfl ⟨rfl, ?_⟩
  have HS2 : Hid (w.heap.size ≤ nb + 1) := Lib.hid (by have := HNb.out; omega)
  exact ((HB2.out.setCell HS2.out _).setCell HS2.out _).setCell HS2.out _

set_option maxRecDepth 100000 in
set_option maxHeartbeats 1000000 in
theorem answer_none {y : Tl} {T : Tb} (n d s : Int) (w : World) (h : TbAt w y T) (_hn : (Lit.int .u16 n).wf = true) (_hd : (Lit.int .u16 d).wf = true) (ht : T.tr = true) (hu : T.isUp n = true) (hD : d ∉ T.D) : Calls Try.prog 23 #[.pointer (some ⟨y.tb, 0, none⟩), noteV n d s] w fun e w' => e = noNote ∧ Below w.heap.size w w' := by
  obtain ⟨W, hW⟩ : ∃ W, W = (w.alloc (.cells #[.int .u16 n, .int .u16 d, .int .u8 s] 54)).alloc (.cells #[.int .u16 0, .int .u16 0, .int .u8 0] 54) := ⟨_, rfl⟩
  have hb : Below w.heap.size w W := by rw [hW]; exact (below_alloc w _).alloc (by simp) _
  obtain ⟨nb, hnb⟩ : ∃ nb, nb = w.heap.size := ⟨_, rfl⟩
  have ho : Own W nb 54 [.int .u16 n, .int .u16 d, .int .u8 s] := by rw [hW, hnb]; exact (show Own (w.alloc _) w.heap.size _ _ from heap_alloc_new w _).below (below_alloc _ _) (by simp)
  have ho2 : Own W (nb + 1) 54 [.int .u16 0, .int .u16 0, .int .u8 0] := by rw [hW, hnb]; have h := heap_alloc_new (w.alloc (.cells #[.int .u16 n, .int .u16 d, .int .u8 s] 54)) (.cells #[.int .u16 0, .int .u16 0, .int .u8 0] 54); rw [size_alloc1] at h; exact h
  have HB := Lib.hid hb
  have HO := Lib.hid ho
  have HO2 := Lib.hid ho2
  have hA := h.below hb
  have HA := Lib.hid hA
  have HE := Lib.hid (fun q => isEmpty_q (W.drewN q) (hA.below (below_draw W q)))
  obtain ⟨g0, g1, g2, g3, g4, g5, g6, g7⟩ := hA.cells
  rw [ht] at g1
  have hlk : ∀ q, (Instr.lookup 82 (.map (some y.bu)) (.int .u16 n) false).run Try.prog (W.drewN q) = .ok (.bool true) (W.drewN q) := fun q => by
    have := (hA.below (below_draw W q)).ups.run _hn
    rw [show (decide (n ∈ T.N) && T.up n) = true from hu] at this
    exact this
  have HD := Lib.hid (fun q => (isDest_q d (W.drewN q) (hA.below (below_draw W q)) _hd).mono (R' := fun e w' => e = .returned (.bool false) ∧ w' = W.drewN q) fun _ _ h => ⟨by rw [h.1, decide_eq_false hD], h.2⟩)
  clear ht hu hD
  clear h hA _hn _hd
  unfold noteV
  go_enter Try.func23, Try.ntmps23
  go_upto_region 1 with (fail)
  show Code.wp _ _ _ _ ((w.alloc (.cells #[.int .u16 n, .int .u16 d, .int .u8 s] 54)).alloc (.cells #[.int .u16 0, .int .u16 0, .int .u8 0] 54))
  rw [← hW, ← hnb]
  have HNb := Lib.hid hnb
  clear hW hnb
  have n0 := ho.cell 0 (by simp)
  have n1 := ho.cell 1 (by simp)
  have n2 := ho.cell 2 (by simp)
  simp only [List.getD_cons_zero, List.getD_cons_succ] at n0 n1 n2
  clear ho ho2 hb
  go_quiet ((first | (go_at_call 35; exact Calls.quiet_of_same (HE.out _)) | (go_at_call 36; exact Calls.quiet_of_same (HD.out _))))
  clear g0 g1 g2 g3 g4 g5 g6 g7
  obtain ⟨W2, hW2⟩ : ∃ W2, W2 = W.drewN nq := ⟨_, rfl⟩
  rw [← hW2]
  have hbd : Below W.heap.size W W2 := by rw [hW2]; exact below_draw _ _
  have hoz := HO2.out.below hbd HO2.out.lt
  have HB2 := Lib.hid (HB.out.trans (hbd.mono HB.out.size))
  clear n0 n1 n2 hW2 hbd
  have z0 := hoz.cell 0 (by simp)
  have z1 := hoz.cell 1 (by simp)
  have z2 := hoz.cell 2 (by simp)
  have f0 := hoz.frozen 0
  have f1 := hoz.frozen 1
  have f2 := hoz.frozen 2
  simp only [List.getD_cons_zero, List.getD_cons_succ] at z0 z1 z2
  clear hoz
  go_wp2
  refine bodyPost_ret (v := .tuple #[.agg #[.int .u16 0, .int .u16 0, .int .u8 0], .bool false]) (by simp [results, Try.results23, go_sem, z0, z1, z2]) rfl ⟨rfl, ?_⟩
  have HS2 : Hid (w.heap.size ≤ nb + 1) := Lib.hid (by have := HNb.out; omega)
  exact ((HB2.out.setCell HS2.out _).setCell HS2.out _).setCell HS2.out _

set_option maxRecDepth 100000 in
set_option maxHeartbeats 1000000 in
theorem answer_self {y : Tl} {T : Tb} (n d s : Int) (w : World) (h : TbAt w y T) (_hn : (Lit.int .u16 n).wf = true) (_hd : (Lit.int .u16 d).wf = true) (ht : T.tr = true) (hu : T.isUp n = true) (hD : d ∈ T.D) (he : d = n) : Calls Try.prog 23 #[.pointer (some ⟨y.tb, 0, none⟩), noteV n d s] w fun e w' => e = noNote ∧ Below w.heap.size w w' := by
  obtain ⟨W, hW⟩ : ∃ W, W = (w.alloc (.cells #[.int .u16 n, .int .u16 d, .int .u8 s] 54)).alloc (.cells #[.int .u16 0, .int .u16 0, .int .u8 0] 54) := ⟨_, rfl⟩
  have hb : Below w.heap.size w W := by rw [hW]; exact (below_alloc w _).alloc (by simp) _
  obtain ⟨nb, hnb⟩ : ∃ nb, nb = w.heap.size := ⟨_, rfl⟩
  have ho : Own W nb 54 [.int .u16 n, .int .u16 d, .int .u8 s] := by rw [hW, hnb]; exact (show Own (w.alloc _) w.heap.size _ _ from heap_alloc_new w _).below (below_alloc _ _) (by simp)
  have ho2 : Own W (nb + 1) 54 [.int .u16 0, .int .u16 0, .int .u8 0] := by rw [hW, hnb]; have h := heap_alloc_new (w.alloc (.cells #[.int .u16 n, .int .u16 d, .int .u8 s] 54)) (.cells #[.int .u16 0, .int .u16 0, .int .u8 0] 54); rw [size_alloc1] at h; exact h
  have HB := Lib.hid hb
  have HO := Lib.hid ho
  have HO2 := Lib.hid ho2
  have hA := h.below hb
  have HA := Lib.hid hA
  have HE := Lib.hid (fun q => isEmpty_q (W.drewN q) (hA.below (below_draw W q)))
  obtain ⟨g0, g1, g2, g3, g4, g5, g6, g7⟩ := hA.cells
  rw [ht] at g1
  have hlk : ∀ q, (Instr.lookup 82 (.map (some y.bu)) (.int .u16 n) false).run Try.prog (W.drewN q) = .ok (.bool true) (W.drewN q) := fun q => by
    have := (hA.below (below_draw W q)).ups.run _hn
    rw [show (decide (n ∈ T.N) && T.up n) = true from hu] at this
    exact this
  have HD := Lib.hid (fun q => (isDest_q d (W.drewN q) (hA.below (below_draw W q)) _hd).mono (R' := fun e w' => e = .returned (.bool true) ∧ w' = W.drewN q) fun _ _ h => ⟨by rw [h.1, decide_eq_true hD], h.2⟩)
  have e4 : (d == n) = true := by simpa using he
  clear ht hu hD he
  clear h hA _hn _hd
  unfold noteV
  go_enter Try.func23, Try.ntmps23
  go_upto_region 1 with (fail)
  show Code.wp _ _ _ _ ((w.alloc (.cells #[.int .u16 n, .int .u16 d, .int .u8 s] 54)).alloc (.cells #[.int .u16 0, .int .u16 0, .int .u8 0] 54))
  rw [← hW, ← hnb]
  have HNb := Lib.hid hnb
  clear hW hnb
  have n0 := ho.cell 0 (by simp)
  have n1 := ho.cell 1 (by simp)
  have n2 := ho.cell 2 (by simp)
  simp only [List.getD_cons_zero, List.getD_cons_succ] at n0 n1 n2
  clear ho ho2 hb
  go_quiet ((first | (go_at_call 35; exact Calls.quiet_of_same (HE.out _)) | (go_at_call 36; exact Calls.quiet_of_same (HD.out _))))
  clear g0 g1 g2 g3 g4 g5 g6 g7
  obtain ⟨W2, hW2⟩ : ∃ W2, W2 = W.drewN nq := ⟨_, rfl⟩
  rw [← hW2]
  have hbd : Below W.heap.size W W2 := by rw [hW2]; exact below_draw _ _
  have hoz := HO2.out.below hbd HO2.out.lt
  have HB2 := Lib.hid (HB.out.trans (hbd.mono HB.out.size))
  clear n0 n1 n2 hW2 hbd
  have z0 := hoz.cell 0 (by simp)
  have z1 := hoz.cell 1 (by simp)
  have z2 := hoz.cell 2 (by simp)
  have f0 := hoz.frozen 0
  have f1 := hoz.frozen 1
  have f2 := hoz.frozen 2
  simp only [List.getD_cons_zero, List.getD_cons_succ] at z0 z1 z2
  clear hoz
  go_wp2
  refine bodyPost_ret (v := .tuple #[.agg #[.int .u16 0, .int .u16 0, .int .u8 0], .bool false]) (by simp [results, Try.results23, go_sem, z0, z1, z2]) rfl ⟨rfl, ?_⟩
  have HS2 : Hid (w.heap.size ≤ nb + 1) := Lib.hid (by have := HNb.out; omega)
  exact ((HB2.out.setCell HS2.out _).setCell HS2.out _).setCell HS2.out _

/- PART2 -/
/-- What Answer leaves: a note and whether it is one, the table. -/
def AnsOut (y : Tl) (T : Tb) (V : Value) (b : Bool) (w : World) (e : Ending) (w' : World) : Prop := e = .returned (.tuple #[V, .bool b]) ∧ TbAt w' y T ∧ Exc (Mut y) w w'
set_option maxRecDepth 100000 in
set_option maxHeartbeats 4000000 in
theorem answer_ok {y : Tl} {T : Tb} (n d s : Int) (w : World) (h : TbAt w y T) (_hn : (Lit.int .u16 n).wf = true) (_hd : (Lit.int .u16 d).wf = true) (ht : T.tr = true) (hu : T.isUp n = true) (hD : d ∈ T.D) (he : d ≠ n) : Calls Try.prog 23 #[.pointer (some ⟨y.tb, 0, none⟩), noteV n d s] w (if T.st d = s then (fun e w' => e = noNote ∧ Below w.heap.size w w') else AnsOut y (T.says n d (T.st d)) (noteV n d (T.st d)) true w) := by
  obtain ⟨W, hW⟩ : ∃ W, W = (w.alloc (.cells #[.int .u16 n, .int .u16 d, .int .u8 s] 54)).alloc (.cells #[.int .u16 0, .int .u16 0, .int .u8 0] 54) := ⟨_, rfl⟩
  have hb : Below w.heap.size w W := by rw [hW]; exact (below_alloc w _).alloc (by simp) _
  obtain ⟨nb, hnb⟩ : ∃ nb, nb = w.heap.size := ⟨_, rfl⟩
  have ho : Own W nb 54 [.int .u16 n, .int .u16 d, .int .u8 s] := by rw [hW, hnb]; exact (show Own (w.alloc _) w.heap.size _ _ from heap_alloc_new w _).below (below_alloc _ _) (by simp)
  have ho2 : Own W (nb + 1) 54 [.int .u16 0, .int .u16 0, .int .u8 0] := by rw [hW, hnb]; have h := heap_alloc_new (w.alloc (.cells #[.int .u16 n, .int .u16 d, .int .u8 s] 54)) (.cells #[.int .u16 0, .int .u16 0, .int .u8 0] 54); rw [size_alloc1] at h; exact h
  have HB := Lib.hid hb
  have HO := Lib.hid ho
  have HO2 := Lib.hid ho2
  have hA := h.below hb
  have HA := Lib.hid hA
  have HE := Lib.hid (fun q => isEmpty_q (W.drewN q) (hA.below (below_draw W q)))
  obtain ⟨g0, g1, g2, g3, g4, g5, g6, g7⟩ := hA.cells
  rw [ht] at g1
  have hlk : ∀ q, (Instr.lookup 82 (.map (some y.bu)) (.int .u16 n) false).run Try.prog (W.drewN q) = .ok (.bool true) (W.drewN q) := fun q => by
    have := (hA.below (below_draw W q)).ups.run _hn
    rw [show (decide (n ∈ T.N) && T.up n) = true from hu] at this
    exact this
  have HD := Lib.hid (fun q => (isDest_q d (W.drewN q) (hA.below (below_draw W q)) _hd).mono (R' := fun e w' => e = .returned (.bool true) ∧ w' = W.drewN q) fun _ _ h => ⟨by rw [h.1, decide_eq_true hD], h.2⟩)
  have HHW := Lib.hid h.fix.hi
  have HDD := Lib.hid hD
  have HN := Lib.hid _hn
  have HDw := Lib.hid _hd
  have e4 : (d == n) = false := by simpa using he
  have hfor : ∀ (Q1 Q2 : Ending → World → Prop), (T.st d = s → Calls Try.prog 23 #[.pointer (some ⟨y.tb, 0, none⟩), noteV n d s] w Q1) → (T.st d ≠ s → Calls Try.prog 23 #[.pointer (some ⟨y.tb, 0, none⟩), noteV n d s] w Q2) → Calls Try.prog 23 #[.pointer (some ⟨y.tb, 0, none⟩), noteV n d s] w (if T.st d = s then Q1 else Q2) := fun Q1 Q2 h1 h2 => by
    split
    · exact h1 (by assumption)
    · exact h2 (by assumption)
  clear h hA _hn _hd ht hu hD he
  obtain ⟨sv, hsv⟩ : ∃ sv, sv = T.st d := ⟨_, rfl⟩
  have HS1 := Lib.hid hsv
  rw [← hsv] at hfor ⊢
  clear hsv
  refine hfor _ _ (fun hss => ?_) (fun hss => ?_)

  · have HSS := Lib.hid hss
    clear hfor hss
    unfold noteV
    go_enter Try.func23, Try.ntmps23
    go_upto_region 1 with (fail)
    show Code.wp _ _ _ _ ((w.alloc (.cells #[.int .u16 n, .int .u16 d, .int .u8 s] 54)).alloc (.cells #[.int .u16 0, .int .u16 0, .int .u8 0] 54))
    rw [← hW, ← hnb]
    have HNb := Lib.hid hnb
    clear hW hnb
    have n0 := ho.cell 0 (by simp)
    have n1 := ho.cell 1 (by simp)
    have n2 := ho.cell 2 (by simp)
    simp only [List.getD_cons_zero, List.getD_cons_succ] at n0 n1 n2
    clear ho ho2 hb
    go_quiet (first | (go_at_call 35; exact Calls.quiet_of_same (HE.out _)) | (go_at_call 36; exact Calls.quiet_of_same (HD.out _)))
    clear g0 g1 g2 g3 g4 g5 g6 g7
    obtain ⟨W2, hW2⟩ : ∃ W2, W2 = W.drewN nq := ⟨_, rfl⟩
    rw [← hW2]
    have hbd : Below W.heap.size W W2 := by rw [hW2]; exact below_draw _ _
    have HA2 := Lib.hid (HA.out.below hbd)
    have HB2 := Lib.hid (HB.out.trans (hbd.mono HB.out.size))
    have ho := HO.out.below hbd HO.out.lt
    have HO4 := Lib.hid ho
    have HZ4 := Lib.hid (HO2.out.below hbd HO2.out.lt)
    clear n0 n1 n2 hW2 hlk
    have n0 := ho.cell 0 (by simp)
    have n1 := ho.cell 1 (by simp)
    have n2 := ho.cell 2 (by simp)
    simp only [List.getD_cons_zero, List.getD_cons_succ] at n0 n1 n2
    clear ho hbd
    have HSo := Lib.hid (fun (V : World) (hb : Below W2.heap.size W2 V) => (statusOf_any d V (HA2.out.below hb) HDD.out).mono (R' := fun e w' => e = .returned (.int .u8 sv) ∧ Below V.heap.size V w') fun e w' h => ⟨by rw [h.1, HS1.out], h.2⟩)
    have HK := Lib.hid (fun (V : World) (hb : Below W2.heap.size W2 V) => (show Below W2.heap.size W2 V ∧ V.cell? ⟨nb, 0, none⟩ = some (.int .u16 n) ∧ V.cell? ⟨nb, 1, none⟩ = some (.int .u16 d) ∧ V.cell? ⟨nb, 2, none⟩ = some (.int .u8 s) from ⟨hb, (HO4.out.below hb HO4.out.lt).cell 0 (by simp), (HO4.out.below hb HO4.out.lt).cell 1 (by simp), (HO4.out.below hb HO4.out.lt).cell 2 (by simp)⟩))
    have hb7 : Below W2.heap.size W2 W2.drew := below_draw W2 1
    go_wp2_with fail
    go_cut [6] from 41 (fun v6 wx => ∃ p : Nat, v6 = .pointer (some ⟨p, 0, none⟩) ∧ Own wx p 54 [.int .u16 n, .int .u16 d, .int .u8 sv] ∧ W2.heap.size ≤ p ∧ Below W2.heap.size W2 wx)
    case first =>
      refine wp_region_held_drew (S := fun V => Below W2.heap.size W2 V ∧ V.cell? ⟨nb, 0, none⟩ = some (.int .u16 n) ∧ V.cell? ⟨nb, 1, none⟩ = some (.int .u16 d) ∧ V.cell? ⟨nb, 2, none⟩ = some (.int .u8 s)) (by kernel_rfl) ?_ (fun hHeld => ?_)
      · exact HK.out _ hb7
      refine wpAnyH_take (i := 0) (oi := { dst := some 41, op := Op.fieldAddr 54 (Operand.tmp 3) 0, type := 0, pos := "notes.go:68", after := #[], guard := none }) (v := ?_) rfl (by kernel_rfl) (by kernel_rfl) (by kernel_rfl) (fun _ _ _ h => h) (Or.inl ⟨by rfl, ?_⟩) (by assumption) ?_
      rotate_left 1
      · intro w hSw
        (try dsimp only at hSw)
        obtain ⟨_, q0, q1, q2⟩ := hSw
        go_simp
        try with_reducible rfl
      try simp only [Act.put, List.setIfInBounds_toArray, List.set_cons_zero, List.set_cons_succ]
      refine wpAnyH_take (i := 1) (oi := { dst := some 42, op := Op.load 40 (Operand.tmp 41), type := 40, pos := "notes.go:68", after := #[{ on := 0, ground := Ground.data }], guard := none }) (v := ?_) rfl (by kernel_rfl) (by kernel_rfl) (by kernel_rfl) (fun _ _ _ h => h) (Or.inl ⟨by rfl, ?_⟩) (by assumption) ?_
      rotate_left 1
      · intro w hSw
        (try dsimp only at hSw)
        obtain ⟨_, q0, q1, q2⟩ := hSw
        go_simp
        try with_reducible rfl
      try simp only [Act.put, List.setIfInBounds_toArray, List.set_cons_zero, List.set_cons_succ]
      refine wpAnyH_take (i := 2) (oi := { dst := some 43, op := Op.fieldAddr 54 (Operand.tmp 3) 1, type := 0, pos := "notes.go:68", after := #[], guard := none }) (v := ?_) rfl (by kernel_rfl) (by kernel_rfl) (by kernel_rfl) (fun _ _ _ h => h) (Or.inl ⟨by rfl, ?_⟩) (by assumption) ?_
      rotate_left 1
      · intro w hSw
        (try dsimp only at hSw)
        obtain ⟨_, q0, q1, q2⟩ := hSw
        go_simp
        try with_reducible rfl
      try simp only [Act.put, List.setIfInBounds_toArray, List.set_cons_zero, List.set_cons_succ]
      refine wpAnyH_take (i := 3) (oi := { dst := some 44, op := Op.load 40 (Operand.tmp 43), type := 40, pos := "notes.go:68", after := #[{ on := 2, ground := Ground.data }], guard := none }) (v := ?_) rfl (by kernel_rfl) (by kernel_rfl) (by kernel_rfl) (fun _ _ _ h => h) (Or.inl ⟨by rfl, ?_⟩) (by assumption) ?_
      rotate_left 1
      · intro w hSw
        (try dsimp only at hSw)
        obtain ⟨_, q0, q1, q2⟩ := hSw
        go_simp
        try with_reducible rfl
      try simp only [Act.put, List.setIfInBounds_toArray, List.set_cons_zero, List.set_cons_succ]
      refine wpAnyH_take (i := 4) (oi := { dst := some 45, op := Op.move (Operand.tmp 0), type := 35, pos := "notes.go:68", after := #[], guard := none }) (v := ?_) rfl (by kernel_rfl) (by kernel_rfl) (by kernel_rfl) (fun _ _ _ h => h) (Or.inl ⟨by rfl, ?_⟩) (by assumption) ?_
      rotate_left 1
      · intro w hSw
        (try dsimp only at hSw)
        obtain ⟨_, q0, q1, q2⟩ := hSw
        go_simp
        try with_reducible rfl
      try simp only [Act.put, List.setIfInBounds_toArray, List.set_cons_zero, List.set_cons_succ]
      refine wpAnyH_take (i := 5) (oi := { dst := some 46, op := Op.fieldAddr 54 (Operand.tmp 3) 1, type := 0, pos := "notes.go:68", after := #[], guard := none }) (v := ?_) rfl (by kernel_rfl) (by kernel_rfl) (by kernel_rfl) (fun _ _ _ h => h) (Or.inl ⟨by rfl, ?_⟩) (by assumption) ?_
      rotate_left 1
      · intro w hSw
        (try dsimp only at hSw)
        obtain ⟨_, q0, q1, q2⟩ := hSw
        go_simp
        try with_reducible rfl
      try simp only [Act.put, List.setIfInBounds_toArray, List.set_cons_zero, List.set_cons_succ]
      refine wpAnyH_take (i := 6) (oi := { dst := some 47, op := Op.load 40 (Operand.tmp 46), type := 40, pos := "notes.go:68", after := #[{ on := 5, ground := Ground.data }], guard := none }) (v := ?_) rfl (by kernel_rfl) (by kernel_rfl) (by kernel_rfl) (fun _ _ _ h => h) (Or.inl ⟨by rfl, ?_⟩) (by assumption) ?_
      rotate_left 1
      · intro w hSw
        (try dsimp only at hSw)
        obtain ⟨_, q0, q1, q2⟩ := hSw
        go_simp
        try with_reducible rfl
      try simp only [Act.put, List.setIfInBounds_toArray, List.set_cons_zero, List.set_cons_succ]
      obtain ⟨X0, hX0⟩ : ∃ X, X = W2.drew := ⟨_, rfl⟩
      rw [← hX0] at hHeld ⊢
      clear hX0 hb7 n0 n1 n2
      refine wpAnyH_ready (rs := [7, 9]) (by kernel_rfl) (by simp) ?_
      refine AllReadyH.cons (o := { dst := some 48, op := Op.call { callee := Callee.value (Operand.func 37), args := #[Operand.tmp 45, Operand.tmp 47], argTypes := #[35, 40] }, type := 52, pos := "notes.go:68", after := #[{ on := 4, ground := Ground.data }, { on := 6, ground := Ground.data }], guard := none }) rfl (fun K hK => ?_) ?_
      · skip
        go_simp
        with_reducible refine (HSo.out _ hHeld.1).mono ?_
        rintro e X1 ⟨rfl, hb⟩
        go_wp2_with fail
        have hy := HK.out _ (hHeld.1.trans (hb.mono hHeld.1.size))
        refine hK.out _ _ hy (fun hHeld => ?_)
        clear hK K hb hy
        try simp only [Act.put, List.setIfInBounds_toArray, List.set_cons_zero, List.set_cons_succ]
        refine wpAnyH_take (i := 8) (oi := { dst := some 49, op := Op.build 54 #[(0, Operand.tmp 42), (1, Operand.tmp 44), (2, Operand.tmp 48)], type := 54, pos := "notes.go:68", after := #[{ on := 1, ground := Ground.data }, { on := 3, ground := Ground.data }, { on := 7, ground := Ground.data }], guard := none }) (v := ?_) rfl (by kernel_rfl) (by kernel_rfl) (by kernel_rfl) (fun _ _ _ h => h) (Or.inl ⟨by rfl, ?_⟩) (by assumption) ?_
        rotate_left 1
        · intro w hSw
          (try dsimp only at hSw)
          obtain ⟨_, q0, q1, q2⟩ := hSw
          go_simp
          try with_reducible rfl
        try simp only [Act.put, List.setIfInBounds_toArray, List.set_cons_zero, List.set_cons_succ]
        refine wpAnyH_ready (rs := [9]) (by kernel_rfl) (by simp) ?_
        refine AllReadyH.cons (o := { dst := some 6, op := Op.alloc 54, type := 0, pos := "notes.go:68", after := #[], guard := none }) rfl (fun K hK => ?_) AllReadyH.nil
        go_simp
        obtain ⟨p, hpe⟩ : ∃ p, p = X1.heap.size := ⟨_, rfl⟩
        obtain ⟨X2, hn⟩ : ∃ Y, Y = X1.alloc (.cells #[.int .u16 0, .int .u16 0, .int .u8 0] 54) := ⟨_, rfl⟩
        have hnb9 : Below X1.heap.size X1 X2 := by rw [hn]; exact below_alloc _ _
        have hp1 : Own X2 p 54 [.int .u16 0, .int .u16 0, .int .u8 0] := by rw [hn, hpe]; exact Blk.fresh _ _ _ _ rfl
        have hpl : W2.heap.size ≤ p := by have := hHeld.1.size; omega
        have hy := HK.out _ (hHeld.1.trans (hnb9.mono hHeld.1.size))
        rw [← hn, ← hpe]
        clear hn hpe hnb9
        refine hK.out _ _ hy (fun hHeld => ?_)
        clear hK K hy
        try simp only [Act.put, List.setIfInBounds_toArray, List.set_cons_zero, List.set_cons_succ]
        refine wpAnyH_ready (rs := [10]) (by kernel_rfl) (by simp) ?_
        refine AllReadyH.cons (o := { dst := none, op := Op.store 54 (Operand.tmp 6) (Operand.tmp 49), type := 0, pos := "notes.go:68", after := #[{ on := 9, ground := Ground.data }, { on := 8, ground := Ground.data }, { on := 7, ground := Ground.chain }, { on := 0, ground := Ground.phase }, { on := 1, ground := Ground.phase }, { on := 2, ground := Ground.phase }, { on := 3, ground := Ground.phase }, { on := 4, ground := Ground.phase }, { on := 5, ground := Ground.phase }, { on := 6, ground := Ground.phase }, { on := 7, ground := Ground.phase }, { on := 8, ground := Ground.phase }, { on := 9, ground := Ground.phase }], guard := none }) rfl (fun K hK => ?_) AllReadyH.nil
        rw [if_pos (by rfl)]
        with_reducible refine wp_store_mid 54 (Operand.tmp 6) (Operand.tmp 49) ?ho p 0 #[.int .u16 n, .int .u16 d, .int .u8 sv] ?hx ?hy ?ht ?hi ?h1 ?_
        case ho => rfl
        case hx => rfl
        case hy => rfl
        case ht => exact (show World.there X2 p 0 3 from Blk.there hp1)
        case hi => kernel_rfl
        case h1 => simp [Value.oneCell']
        have s1 : Own (X2.setCells p 0 (#[.int .u16 n, .int .u16 d, .int .u8 sv] : Array Value).toList) p 54 [.int .u16 n, .int .u16 d, .int .u8 sv] := Blk.own_put _ 0 _ _ hp1
        have x1 : Exc (fun k => k = p) X2 (X2.setCells p 0 (#[.int .u16 n, .int .u16 d, .int .u8 sv] : Array Value).toList) := Blk.exc_put _ 0 _ (Exc.refl _ _)
        obtain ⟨Y1, hY1⟩ : ∃ Y, Y = X2.setCells p 0 (#[.int .u16 n, .int .u16 d, .int .u8 sv] : Array Value).toList := ⟨_, rfl⟩
        rw [← hY1] at s1 x1 ⊢
        clear hY1
        have y1 : Below W2.heap.size W2 Y1 := hHeld.1.trans (x1.below hHeld.1.size (fun i _ e => by omega))
        have hy := HK.out _ y1
        refine hK.out _ _ hy (fun hHeld => ?_)
        clear hK K x1 hy
        try simp only [Act.put]
        refine wpAnyH_done (by kernel_rfl) ?_ _
        go_wp2_with fail
        go_meet
        exact ⟨p, rfl, s1, hpl, y1⟩
      refine AllReadyH.cons (o := { dst := some 6, op := Op.alloc 54, type := 0, pos := "notes.go:68", after := #[], guard := none }) rfl (fun K hK => ?_) AllReadyH.nil
      go_simp
      obtain ⟨p, hpe⟩ : ∃ p, p = X0.heap.size := ⟨_, rfl⟩
      obtain ⟨X1, hn⟩ : ∃ Y, Y = X0.alloc (.cells #[.int .u16 0, .int .u16 0, .int .u8 0] 54) := ⟨_, rfl⟩
      have hnb9 : Below X0.heap.size X0 X1 := by rw [hn]; exact below_alloc _ _
      have hp1 : Own X1 p 54 [.int .u16 0, .int .u16 0, .int .u8 0] := by rw [hn, hpe]; exact Blk.fresh _ _ _ _ rfl
      have hpl : W2.heap.size ≤ p := by have := hHeld.1.size; omega
      have hy := HK.out _ (hHeld.1.trans (hnb9.mono hHeld.1.size))
      rw [← hn, ← hpe]
      clear hn hpe hnb9
      refine hK.out _ _ hy (fun hHeld => ?_)
      clear hK K hy
      try simp only [Act.put, List.setIfInBounds_toArray, List.set_cons_zero, List.set_cons_succ]
      refine wpAnyH_ready (rs := [7]) (by kernel_rfl) (by simp) ?_
      refine AllReadyH.cons (o := { dst := some 48, op := Op.call { callee := Callee.value (Operand.func 37), args := #[Operand.tmp 45, Operand.tmp 47], argTypes := #[35, 40] }, type := 52, pos := "notes.go:68", after := #[{ on := 4, ground := Ground.data }, { on := 6, ground := Ground.data }], guard := none }) rfl (fun K hK => ?_) AllReadyH.nil
      go_simp
      with_reducible refine (HSo.out _ hHeld.1).mono ?_
      rintro e X2 ⟨rfl, hb⟩
      go_wp2_with fail
      have hp2 := hp1.below hb hp1.lt
      have hy := HK.out _ (hHeld.1.trans (hb.mono hHeld.1.size))
      refine hK.out _ _ hy (fun hHeld => ?_)
      clear hK K hb hy
      try simp only [Act.put, List.setIfInBounds_toArray, List.set_cons_zero, List.set_cons_succ]
      refine wpAnyH_take (i := 8) (oi := { dst := some 49, op := Op.build 54 #[(0, Operand.tmp 42), (1, Operand.tmp 44), (2, Operand.tmp 48)], type := 54, pos := "notes.go:68", after := #[{ on := 1, ground := Ground.data }, { on := 3, ground := Ground.data }, { on := 7, ground := Ground.data }], guard := none }) (v := ?_) rfl (by kernel_rfl) (by kernel_rfl) (by kernel_rfl) (fun _ _ _ h => h) (Or.inl ⟨by rfl, ?_⟩) (by assumption) ?_
      rotate_left 1
      · intro w hSw
        (try dsimp only at hSw)
        obtain ⟨_, q0, q1, q2⟩ := hSw
        go_simp
        try with_reducible rfl
      try simp only [Act.put, List.setIfInBounds_toArray, List.set_cons_zero, List.set_cons_succ]
      refine wpAnyH_ready (rs := [10]) (by kernel_rfl) (by simp) ?_
      refine AllReadyH.cons (o := { dst := none, op := Op.store 54 (Operand.tmp 6) (Operand.tmp 49), type := 0, pos := "notes.go:68", after := #[{ on := 9, ground := Ground.data }, { on := 8, ground := Ground.data }, { on := 7, ground := Ground.chain }, { on := 0, ground := Ground.phase }, { on := 1, ground := Ground.phase }, { on := 2, ground := Ground.phase }, { on := 3, ground := Ground.phase }, { on := 4, ground := Ground.phase }, { on := 5, ground := Ground.phase }, { on := 6, ground := Ground.phase }, { on := 7, ground := Ground.phase }, { on := 8, ground := Ground.phase }, { on := 9, ground := Ground.phase }], guard := none }) rfl (fun K hK => ?_) AllReadyH.nil
      rw [if_pos (by rfl)]
      with_reducible refine wp_store_mid 54 (Operand.tmp 6) (Operand.tmp 49) ?ho p 0 #[.int .u16 n, .int .u16 d, .int .u8 sv] ?hx ?hy ?ht ?hi ?h1 ?_
      case ho => rfl
      case hx => rfl
      case hy => rfl
      case ht => exact (show World.there X2 p 0 3 from Blk.there hp2)
      case hi => kernel_rfl
      case h1 => simp [Value.oneCell']
      have s1 : Own (X2.setCells p 0 (#[.int .u16 n, .int .u16 d, .int .u8 sv] : Array Value).toList) p 54 [.int .u16 n, .int .u16 d, .int .u8 sv] := Blk.own_put _ 0 _ _ hp2
      have x1 : Exc (fun k => k = p) X2 (X2.setCells p 0 (#[.int .u16 n, .int .u16 d, .int .u8 sv] : Array Value).toList) := Blk.exc_put _ 0 _ (Exc.refl _ _)
      obtain ⟨Y1, hY1⟩ : ∃ Y, Y = X2.setCells p 0 (#[.int .u16 n, .int .u16 d, .int .u8 sv] : Array Value).toList := ⟨_, rfl⟩
      rw [← hY1] at s1 x1 ⊢
      clear hY1
      have y1 : Below W2.heap.size W2 Y1 := hHeld.1.trans (x1.below hHeld.1.size (fun i _ e => by omega))
      have hy := HK.out _ y1
      refine hK.out _ _ hy (fun hHeld => ?_)
      clear hK K x1 hy
      try simp only [Act.put]
      refine wpAnyH_done (by kernel_rfl) ?_ _
      go_wp2_with fail
      go_meet
      exact ⟨p, rfl, s1, hpl, y1⟩
    case rest =>
      obtain ⟨p, rfl, op, hpl, hbx⟩ := hcut
      have hz := HZ4.out.below hbx HZ4.out.lt
      have HB5 := Lib.hid (HB2.out.trans (hbx.mono HB2.out.size))
      have HA5 := Lib.hid (HA2.out.below hbx)
      have ho5 := HO4.out.below hbx HO4.out.lt
      clear n0 n1 n2 hb7
      have n0 := ho5.cell 2 (by simp)
      have p0 := op.cell 2 (by simp)
      have z0 := hz.cell 0 (by simp)
      have z1 := hz.cell 1 (by simp)
      have z2 := hz.cell 2 (by simp)
      have f0 := hz.frozen 0
      have f1 := hz.frozen 1
      have f2 := hz.frozen 2
      simp only [List.getD_cons_zero, List.getD_cons_succ] at n0 p0 z0 z1 z2
      have e5 : (sv == s) = true := by simpa using HSS.out
      have HS2 : Hid (w.heap.size ≤ nb + 1) := Lib.hid (by have := HNb.out; omega)
      clear hz ho5 op hbx
      go_wp2
      refine bodyPost_ret (v := .tuple #[.agg #[.int .u16 0, .int .u16 0, .int .u8 0], .bool false]) (by simp [results, Try.results23, go_sem, z0, z1, z2]) rfl ⟨rfl, ?_⟩
      exact ((HB5.out.setCell HS2.out _).setCell HS2.out _).setCell HS2.out _

  · have HSS := Lib.hid hss
    clear hfor hss
    unfold noteV
    go_enter Try.func23, Try.ntmps23
    go_upto_region 1 with (fail)
    show Code.wp _ _ _ _ ((w.alloc (.cells #[.int .u16 n, .int .u16 d, .int .u8 s] 54)).alloc (.cells #[.int .u16 0, .int .u16 0, .int .u8 0] 54))
    rw [← hW, ← hnb]
    have HNb := Lib.hid hnb
    clear hW hnb
    have n0 := ho.cell 0 (by simp)
    have n1 := ho.cell 1 (by simp)
    have n2 := ho.cell 2 (by simp)
    simp only [List.getD_cons_zero, List.getD_cons_succ] at n0 n1 n2
    clear ho ho2 hb
    go_quiet (first | (go_at_call 35; exact Calls.quiet_of_same (HE.out _)) | (go_at_call 36; exact Calls.quiet_of_same (HD.out _)))
    clear g0 g1 g2 g3 g4 g5 g6 g7
    obtain ⟨W2, hW2⟩ : ∃ W2, W2 = W.drewN nq := ⟨_, rfl⟩
    rw [← hW2]
    have hbd : Below W.heap.size W W2 := by rw [hW2]; exact below_draw _ _
    have HA2 := Lib.hid (HA.out.below hbd)
    have HB2 := Lib.hid (HB.out.trans (hbd.mono HB.out.size))
    have ho := HO.out.below hbd HO.out.lt
    have HO4 := Lib.hid ho
    have HZ4 := Lib.hid (HO2.out.below hbd HO2.out.lt)
    clear n0 n1 n2 hW2 hlk
    have n0 := ho.cell 0 (by simp)
    have n1 := ho.cell 1 (by simp)
    have n2 := ho.cell 2 (by simp)
    simp only [List.getD_cons_zero, List.getD_cons_succ] at n0 n1 n2
    clear ho hbd
    have HSo := Lib.hid (fun (V : World) (hb : Below W2.heap.size W2 V) => (statusOf_any d V (HA2.out.below hb) HDD.out).mono (R' := fun e w' => e = .returned (.int .u8 sv) ∧ Below V.heap.size V w') fun e w' h => ⟨by rw [h.1, HS1.out], h.2⟩)
    have HK := Lib.hid (fun (V : World) (hb : Below W2.heap.size W2 V) => (show Below W2.heap.size W2 V ∧ V.cell? ⟨nb, 0, none⟩ = some (.int .u16 n) ∧ V.cell? ⟨nb, 1, none⟩ = some (.int .u16 d) ∧ V.cell? ⟨nb, 2, none⟩ = some (.int .u8 s) from ⟨hb, (HO4.out.below hb HO4.out.lt).cell 0 (by simp), (HO4.out.below hb HO4.out.lt).cell 1 (by simp), (HO4.out.below hb HO4.out.lt).cell 2 (by simp)⟩))
    have hb7 : Below W2.heap.size W2 W2.drew := below_draw W2 1
    go_wp2_with fail
    go_cut [6] from 41 (fun v6 wx => ∃ p : Nat, v6 = .pointer (some ⟨p, 0, none⟩) ∧ Own wx p 54 [.int .u16 n, .int .u16 d, .int .u8 sv] ∧ W2.heap.size ≤ p ∧ Below W2.heap.size W2 wx)
    case first =>
      refine wp_region_held_drew (S := fun V => Below W2.heap.size W2 V ∧ V.cell? ⟨nb, 0, none⟩ = some (.int .u16 n) ∧ V.cell? ⟨nb, 1, none⟩ = some (.int .u16 d) ∧ V.cell? ⟨nb, 2, none⟩ = some (.int .u8 s)) (by kernel_rfl) ?_ (fun hHeld => ?_)
      · exact HK.out _ hb7
      refine wpAnyH_take (i := 0) (oi := { dst := some 41, op := Op.fieldAddr 54 (Operand.tmp 3) 0, type := 0, pos := "notes.go:68", after := #[], guard := none }) (v := ?_) rfl (by kernel_rfl) (by kernel_rfl) (by kernel_rfl) (fun _ _ _ h => h) (Or.inl ⟨by rfl, ?_⟩) (by assumption) ?_
      rotate_left 1
      · intro w hSw
        (try dsimp only at hSw)
        obtain ⟨_, q0, q1, q2⟩ := hSw
        go_simp
        try with_reducible rfl
      try simp only [Act.put, List.setIfInBounds_toArray, List.set_cons_zero, List.set_cons_succ]
      refine wpAnyH_take (i := 1) (oi := { dst := some 42, op := Op.load 40 (Operand.tmp 41), type := 40, pos := "notes.go:68", after := #[{ on := 0, ground := Ground.data }], guard := none }) (v := ?_) rfl (by kernel_rfl) (by kernel_rfl) (by kernel_rfl) (fun _ _ _ h => h) (Or.inl ⟨by rfl, ?_⟩) (by assumption) ?_
      rotate_left 1
      · intro w hSw
        (try dsimp only at hSw)
        obtain ⟨_, q0, q1, q2⟩ := hSw
        go_simp
        try with_reducible rfl
      try simp only [Act.put, List.setIfInBounds_toArray, List.set_cons_zero, List.set_cons_succ]
      refine wpAnyH_take (i := 2) (oi := { dst := some 43, op := Op.fieldAddr 54 (Operand.tmp 3) 1, type := 0, pos := "notes.go:68", after := #[], guard := none }) (v := ?_) rfl (by kernel_rfl) (by kernel_rfl) (by kernel_rfl) (fun _ _ _ h => h) (Or.inl ⟨by rfl, ?_⟩) (by assumption) ?_
      rotate_left 1
      · intro w hSw
        (try dsimp only at hSw)
        obtain ⟨_, q0, q1, q2⟩ := hSw
        go_simp
        try with_reducible rfl
      try simp only [Act.put, List.setIfInBounds_toArray, List.set_cons_zero, List.set_cons_succ]
      refine wpAnyH_take (i := 3) (oi := { dst := some 44, op := Op.load 40 (Operand.tmp 43), type := 40, pos := "notes.go:68", after := #[{ on := 2, ground := Ground.data }], guard := none }) (v := ?_) rfl (by kernel_rfl) (by kernel_rfl) (by kernel_rfl) (fun _ _ _ h => h) (Or.inl ⟨by rfl, ?_⟩) (by assumption) ?_
      rotate_left 1
      · intro w hSw
        (try dsimp only at hSw)
        obtain ⟨_, q0, q1, q2⟩ := hSw
        go_simp
        try with_reducible rfl
      try simp only [Act.put, List.setIfInBounds_toArray, List.set_cons_zero, List.set_cons_succ]
      refine wpAnyH_take (i := 4) (oi := { dst := some 45, op := Op.move (Operand.tmp 0), type := 35, pos := "notes.go:68", after := #[], guard := none }) (v := ?_) rfl (by kernel_rfl) (by kernel_rfl) (by kernel_rfl) (fun _ _ _ h => h) (Or.inl ⟨by rfl, ?_⟩) (by assumption) ?_
      rotate_left 1
      · intro w hSw
        (try dsimp only at hSw)
        obtain ⟨_, q0, q1, q2⟩ := hSw
        go_simp
        try with_reducible rfl
      try simp only [Act.put, List.setIfInBounds_toArray, List.set_cons_zero, List.set_cons_succ]
      refine wpAnyH_take (i := 5) (oi := { dst := some 46, op := Op.fieldAddr 54 (Operand.tmp 3) 1, type := 0, pos := "notes.go:68", after := #[], guard := none }) (v := ?_) rfl (by kernel_rfl) (by kernel_rfl) (by kernel_rfl) (fun _ _ _ h => h) (Or.inl ⟨by rfl, ?_⟩) (by assumption) ?_
      rotate_left 1
      · intro w hSw
        (try dsimp only at hSw)
        obtain ⟨_, q0, q1, q2⟩ := hSw
        go_simp
        try with_reducible rfl
      try simp only [Act.put, List.setIfInBounds_toArray, List.set_cons_zero, List.set_cons_succ]
      refine wpAnyH_take (i := 6) (oi := { dst := some 47, op := Op.load 40 (Operand.tmp 46), type := 40, pos := "notes.go:68", after := #[{ on := 5, ground := Ground.data }], guard := none }) (v := ?_) rfl (by kernel_rfl) (by kernel_rfl) (by kernel_rfl) (fun _ _ _ h => h) (Or.inl ⟨by rfl, ?_⟩) (by assumption) ?_
      rotate_left 1
      · intro w hSw
        (try dsimp only at hSw)
        obtain ⟨_, q0, q1, q2⟩ := hSw
        go_simp
        try with_reducible rfl
      try simp only [Act.put, List.setIfInBounds_toArray, List.set_cons_zero, List.set_cons_succ]
      obtain ⟨X0, hX0⟩ : ∃ X, X = W2.drew := ⟨_, rfl⟩
      rw [← hX0] at hHeld ⊢
      clear hX0 hb7 n0 n1 n2
      refine wpAnyH_ready (rs := [7, 9]) (by kernel_rfl) (by simp) ?_
      refine AllReadyH.cons (o := { dst := some 48, op := Op.call { callee := Callee.value (Operand.func 37), args := #[Operand.tmp 45, Operand.tmp 47], argTypes := #[35, 40] }, type := 52, pos := "notes.go:68", after := #[{ on := 4, ground := Ground.data }, { on := 6, ground := Ground.data }], guard := none }) rfl (fun K hK => ?_) ?_
      · skip
        go_simp
        with_reducible refine (HSo.out _ hHeld.1).mono ?_
        rintro e X1 ⟨rfl, hb⟩
        go_wp2_with fail
        have hy := HK.out _ (hHeld.1.trans (hb.mono hHeld.1.size))
        refine hK.out _ _ hy (fun hHeld => ?_)
        clear hK K hb hy
        try simp only [Act.put, List.setIfInBounds_toArray, List.set_cons_zero, List.set_cons_succ]
        refine wpAnyH_take (i := 8) (oi := { dst := some 49, op := Op.build 54 #[(0, Operand.tmp 42), (1, Operand.tmp 44), (2, Operand.tmp 48)], type := 54, pos := "notes.go:68", after := #[{ on := 1, ground := Ground.data }, { on := 3, ground := Ground.data }, { on := 7, ground := Ground.data }], guard := none }) (v := ?_) rfl (by kernel_rfl) (by kernel_rfl) (by kernel_rfl) (fun _ _ _ h => h) (Or.inl ⟨by rfl, ?_⟩) (by assumption) ?_
        rotate_left 1
        · intro w hSw
          (try dsimp only at hSw)
          obtain ⟨_, q0, q1, q2⟩ := hSw
          go_simp
          try with_reducible rfl
        try simp only [Act.put, List.setIfInBounds_toArray, List.set_cons_zero, List.set_cons_succ]
        refine wpAnyH_ready (rs := [9]) (by kernel_rfl) (by simp) ?_
        refine AllReadyH.cons (o := { dst := some 6, op := Op.alloc 54, type := 0, pos := "notes.go:68", after := #[], guard := none }) rfl (fun K hK => ?_) AllReadyH.nil
        go_simp
        obtain ⟨p, hpe⟩ : ∃ p, p = X1.heap.size := ⟨_, rfl⟩
        obtain ⟨X2, hn⟩ : ∃ Y, Y = X1.alloc (.cells #[.int .u16 0, .int .u16 0, .int .u8 0] 54) := ⟨_, rfl⟩
        have hnb9 : Below X1.heap.size X1 X2 := by rw [hn]; exact below_alloc _ _
        have hp1 : Own X2 p 54 [.int .u16 0, .int .u16 0, .int .u8 0] := by rw [hn, hpe]; exact Blk.fresh _ _ _ _ rfl
        have hpl : W2.heap.size ≤ p := by have := hHeld.1.size; omega
        have hy := HK.out _ (hHeld.1.trans (hnb9.mono hHeld.1.size))
        rw [← hn, ← hpe]
        clear hn hpe hnb9
        refine hK.out _ _ hy (fun hHeld => ?_)
        clear hK K hy
        try simp only [Act.put, List.setIfInBounds_toArray, List.set_cons_zero, List.set_cons_succ]
        refine wpAnyH_ready (rs := [10]) (by kernel_rfl) (by simp) ?_
        refine AllReadyH.cons (o := { dst := none, op := Op.store 54 (Operand.tmp 6) (Operand.tmp 49), type := 0, pos := "notes.go:68", after := #[{ on := 9, ground := Ground.data }, { on := 8, ground := Ground.data }, { on := 7, ground := Ground.chain }, { on := 0, ground := Ground.phase }, { on := 1, ground := Ground.phase }, { on := 2, ground := Ground.phase }, { on := 3, ground := Ground.phase }, { on := 4, ground := Ground.phase }, { on := 5, ground := Ground.phase }, { on := 6, ground := Ground.phase }, { on := 7, ground := Ground.phase }, { on := 8, ground := Ground.phase }, { on := 9, ground := Ground.phase }], guard := none }) rfl (fun K hK => ?_) AllReadyH.nil
        rw [if_pos (by rfl)]
        with_reducible refine wp_store_mid 54 (Operand.tmp 6) (Operand.tmp 49) ?ho p 0 #[.int .u16 n, .int .u16 d, .int .u8 sv] ?hx ?hy ?ht ?hi ?h1 ?_
        case ho => rfl
        case hx => rfl
        case hy => rfl
        case ht => exact (show World.there X2 p 0 3 from Blk.there hp1)
        case hi => kernel_rfl
        case h1 => simp [Value.oneCell']
        have s1 : Own (X2.setCells p 0 (#[.int .u16 n, .int .u16 d, .int .u8 sv] : Array Value).toList) p 54 [.int .u16 n, .int .u16 d, .int .u8 sv] := Blk.own_put _ 0 _ _ hp1
        have x1 : Exc (fun k => k = p) X2 (X2.setCells p 0 (#[.int .u16 n, .int .u16 d, .int .u8 sv] : Array Value).toList) := Blk.exc_put _ 0 _ (Exc.refl _ _)
        obtain ⟨Y1, hY1⟩ : ∃ Y, Y = X2.setCells p 0 (#[.int .u16 n, .int .u16 d, .int .u8 sv] : Array Value).toList := ⟨_, rfl⟩
        rw [← hY1] at s1 x1 ⊢
        clear hY1
        have y1 : Below W2.heap.size W2 Y1 := hHeld.1.trans (x1.below hHeld.1.size (fun i _ e => by omega))
        have hy := HK.out _ y1
        refine hK.out _ _ hy (fun hHeld => ?_)
        clear hK K x1 hy
        try simp only [Act.put]
        refine wpAnyH_done (by kernel_rfl) ?_ _
        go_wp2_with fail
        go_meet
        exact ⟨p, rfl, s1, hpl, y1⟩
      refine AllReadyH.cons (o := { dst := some 6, op := Op.alloc 54, type := 0, pos := "notes.go:68", after := #[], guard := none }) rfl (fun K hK => ?_) AllReadyH.nil
      go_simp
      obtain ⟨p, hpe⟩ : ∃ p, p = X0.heap.size := ⟨_, rfl⟩
      obtain ⟨X1, hn⟩ : ∃ Y, Y = X0.alloc (.cells #[.int .u16 0, .int .u16 0, .int .u8 0] 54) := ⟨_, rfl⟩
      have hnb9 : Below X0.heap.size X0 X1 := by rw [hn]; exact below_alloc _ _
      have hp1 : Own X1 p 54 [.int .u16 0, .int .u16 0, .int .u8 0] := by rw [hn, hpe]; exact Blk.fresh _ _ _ _ rfl
      have hpl : W2.heap.size ≤ p := by have := hHeld.1.size; omega
      have hy := HK.out _ (hHeld.1.trans (hnb9.mono hHeld.1.size))
      rw [← hn, ← hpe]
      clear hn hpe hnb9
      refine hK.out _ _ hy (fun hHeld => ?_)
      clear hK K hy
      try simp only [Act.put, List.setIfInBounds_toArray, List.set_cons_zero, List.set_cons_succ]
      refine wpAnyH_ready (rs := [7]) (by kernel_rfl) (by simp) ?_
      refine AllReadyH.cons (o := { dst := some 48, op := Op.call { callee := Callee.value (Operand.func 37), args := #[Operand.tmp 45, Operand.tmp 47], argTypes := #[35, 40] }, type := 52, pos := "notes.go:68", after := #[{ on := 4, ground := Ground.data }, { on := 6, ground := Ground.data }], guard := none }) rfl (fun K hK => ?_) AllReadyH.nil
      go_simp
      with_reducible refine (HSo.out _ hHeld.1).mono ?_
      rintro e X2 ⟨rfl, hb⟩
      go_wp2_with fail
      have hp2 := hp1.below hb hp1.lt
      have hy := HK.out _ (hHeld.1.trans (hb.mono hHeld.1.size))
      refine hK.out _ _ hy (fun hHeld => ?_)
      clear hK K hb hy
      try simp only [Act.put, List.setIfInBounds_toArray, List.set_cons_zero, List.set_cons_succ]
      refine wpAnyH_take (i := 8) (oi := { dst := some 49, op := Op.build 54 #[(0, Operand.tmp 42), (1, Operand.tmp 44), (2, Operand.tmp 48)], type := 54, pos := "notes.go:68", after := #[{ on := 1, ground := Ground.data }, { on := 3, ground := Ground.data }, { on := 7, ground := Ground.data }], guard := none }) (v := ?_) rfl (by kernel_rfl) (by kernel_rfl) (by kernel_rfl) (fun _ _ _ h => h) (Or.inl ⟨by rfl, ?_⟩) (by assumption) ?_
      rotate_left 1
      · intro w hSw
        (try dsimp only at hSw)
        obtain ⟨_, q0, q1, q2⟩ := hSw
        go_simp
        try with_reducible rfl
      try simp only [Act.put, List.setIfInBounds_toArray, List.set_cons_zero, List.set_cons_succ]
      refine wpAnyH_ready (rs := [10]) (by kernel_rfl) (by simp) ?_
      refine AllReadyH.cons (o := { dst := none, op := Op.store 54 (Operand.tmp 6) (Operand.tmp 49), type := 0, pos := "notes.go:68", after := #[{ on := 9, ground := Ground.data }, { on := 8, ground := Ground.data }, { on := 7, ground := Ground.chain }, { on := 0, ground := Ground.phase }, { on := 1, ground := Ground.phase }, { on := 2, ground := Ground.phase }, { on := 3, ground := Ground.phase }, { on := 4, ground := Ground.phase }, { on := 5, ground := Ground.phase }, { on := 6, ground := Ground.phase }, { on := 7, ground := Ground.phase }, { on := 8, ground := Ground.phase }, { on := 9, ground := Ground.phase }], guard := none }) rfl (fun K hK => ?_) AllReadyH.nil
      rw [if_pos (by rfl)]
      with_reducible refine wp_store_mid 54 (Operand.tmp 6) (Operand.tmp 49) ?ho p 0 #[.int .u16 n, .int .u16 d, .int .u8 sv] ?hx ?hy ?ht ?hi ?h1 ?_
      case ho => rfl
      case hx => rfl
      case hy => rfl
      case ht => exact (show World.there X2 p 0 3 from Blk.there hp2)
      case hi => kernel_rfl
      case h1 => simp [Value.oneCell']
      have s1 : Own (X2.setCells p 0 (#[.int .u16 n, .int .u16 d, .int .u8 sv] : Array Value).toList) p 54 [.int .u16 n, .int .u16 d, .int .u8 sv] := Blk.own_put _ 0 _ _ hp2
      have x1 : Exc (fun k => k = p) X2 (X2.setCells p 0 (#[.int .u16 n, .int .u16 d, .int .u8 sv] : Array Value).toList) := Blk.exc_put _ 0 _ (Exc.refl _ _)
      obtain ⟨Y1, hY1⟩ : ∃ Y, Y = X2.setCells p 0 (#[.int .u16 n, .int .u16 d, .int .u8 sv] : Array Value).toList := ⟨_, rfl⟩
      rw [← hY1] at s1 x1 ⊢
      clear hY1
      have y1 : Below W2.heap.size W2 Y1 := hHeld.1.trans (x1.below hHeld.1.size (fun i _ e => by omega))
      have hy := HK.out _ y1
      refine hK.out _ _ hy (fun hHeld => ?_)
      clear hK K x1 hy
      try simp only [Act.put]
      refine wpAnyH_done (by kernel_rfl) ?_ _
      go_wp2_with fail
      go_meet
      exact ⟨p, rfl, s1, hpl, y1⟩
    case rest =>
      obtain ⟨p, rfl, op, hpl, hbx⟩ := hcut
      have hz := HZ4.out.below hbx HZ4.out.lt
      have HB5 := Lib.hid (HB2.out.trans (hbx.mono HB2.out.size))
      have HA5 := Lib.hid (HA2.out.below hbx)
      have ho5 := HO4.out.below hbx HO4.out.lt
      clear n0 n1 n2 hb7
      have n0 := ho5.cell 2 (by simp)
      have p0 := op.cell 0 (by simp)
      have p1 := op.cell 1 (by simp)
      have p2 := op.cell 2 (by simp)
      simp only [List.getD_cons_zero, List.getD_cons_succ] at n0 p0 p1 p2
      have e5 : (sv == s) = false := by simpa using HSS.out
      have HS2 : Hid (w.heap.size ≤ nb + 1) := Lib.hid (by have := HNb.out; omega)
      have hA5 := HA5.out
      obtain ⟨g0, g1, g2, g3, g4, g5, g6, g7⟩ := hA5.cells
      have HP := Lib.hid op
      have HZ := Lib.hid hz
      have HSet := Lib.hid (set_any y.bs _ n d sv wc.drew hA5.drew.sai HN.out HDw.out)
      have hhi := hA5.fix.hi
      clear hz ho5 op hbx hA5
      go_wp2_with fail
      go_still_tail 5, (by kernel_rfl)
      repeat still_step
      change wpList _ _ _ _ _ wc.drew
      go_wp2_with fail
      with_reducible refine HSet.out.mono ?_
      rintro e w5 ⟨rfl, hR, hx5⟩
      have op6 := own_rec (HP.out.draw 1) HA5.out.drew.sai hx5
      have oz6 := own_rec (HZ.out.draw 1) HA5.out.drew.sai hx5
      have HA6 := Lib.hid ((HA5.out.drew).newSai hx5 hR)
      have HX6 := Lib.hid (((Exc.of_below (S := Mut y) HB5.out).drawN 1).trans (excMut hx5 (.inr (.inr rfl))) (fun _ _ h => h))
      have HHi : Hid (y.hi ≤ nb + 1) := Lib.hid (by have h1 := HA.out.fix.hi; have h2 := HO.out.lt; have h3 := HNb.out; have h4 := HHW.out; omega)
      clear g0 g1 g2 g3 g4 g5 g6 g7 n0 p0 p1 p2 hR hx5 HSet hhi
      have p0 := op6.cell 0 (by simp)
      have p1 := op6.cell 1 (by simp)
      have p2 := op6.cell 2 (by simp)
      have z0 := oz6.cell 0 (by simp)
      have z1 := oz6.cell 1 (by simp)
      have z2 := oz6.cell 2 (by simp)
      have f0 := oz6.frozen 0
      have f1 := oz6.frozen 1
      have f2 := oz6.frozen 2
      simp only [List.getD_cons_zero, List.getD_cons_succ] at p0 p1 p2 z0 z1 z2
      clear op6 oz6
      have hx9 : Exc (fun k => k = nb + 1) w5 (((w5.setCell ⟨nb + 1, 0, none⟩ (.int .u16 n)).setCell ⟨nb + 1, 1, none⟩ (.int .u16 d)).setCell ⟨nb + 1, 2, none⟩ (.int .u8 sv)) := (((Exc.refl (fun k => k = nb + 1) w5).setCell ⟨nb + 1, 0, none⟩ (.inl rfl) (.int .u16 n)).setCell ⟨nb + 1, 1, none⟩ (.inl rfl) (.int .u16 d)).setCell ⟨nb + 1, 2, none⟩ (.inl rfl) (.int .u8 sv)
      have hA9 : TbAt (((w5.setCell ⟨nb + 1, 0, none⟩ (.int .u16 n)).setCell ⟨nb + 1, 1, none⟩ (.int .u16 d)).setCell ⟨nb + 1, 2, none⟩ (.int .u8 sv)) y (T.says n d sv) := HA6.out.exc hx9 (fun k hk _ => .inl (by rw [hk]; exact HHi.out))
      have hX9 : Exc (Mut y) w (((w5.setCell ⟨nb + 1, 0, none⟩ (.int .u16 n)).setCell ⟨nb + 1, 1, none⟩ (.int .u16 d)).setCell ⟨nb + 1, 2, none⟩ (.int .u8 sv)) := HX6.out.trans hx9 (fun i hi hh => by subst hh; have := HS2.out; omega)
      have HA9 := Lib.hid hA9
      have HX9 := Lib.hid hX9
      clear hx9 hA9 hX9
      go_wp2
      exact bodyPost_ret (v := .tuple #[.agg #[.int .u16 n, .int .u16 d, .int .u8 sv], .bool true]) (by simp [results, Try.results23, go_sem, z0, z1, z2]) rfl ⟨rfl, HA9.out, HX9.out⟩

end Go.Proofs.Ytdjmopipmeonlaa
