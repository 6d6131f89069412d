import Derived.Test.YthlckipcgogogaaGreatDoorPlSt
import Derived.Test.YthlckipcgogogaaGreatDoorUnMath
import Derived.Test.YthlckipcgogogaaGreatDoorPrNum
import Derived.Test.YthlckipcgogogaaGreatDoorPrRa
import Derived.Test.YthlckipcgogogaaGreatDoorPrText
import Derived.Test.YthlckipcgogogaaGreatDoorPrSame
import Derived.Deep.Cut
import Derived.Deep.MidRow
import Derived.Deep.CutBlock
import Derived.BigQuiet
import Derived.Deep.RegionHeld3
import Derived.Deep.RegionLaw
import Derived.BigRegion
import Derived.IntWalk
/- The walk of LAW. -/
namespace Go.Proofs.YthlckipcgogogaaGreatDoor
set_option linter.unusedVariables false
open Go.RowKit

/-- Reading the text of a valid plan. -/
theorem read_good (p : Pn) (w : World) (hf : FineP p) (hv : ValidPl p) : Calls Tryz.prog 8 #[.string (bs (partText p 4))] w fun e w' => ∃ aP aL, e = .returned (.tuple #[planV aP p.P.length p.P.length aL p.L.length p.L.length p, .agg #[.int .i64 0, .int .i64 0]]) ∧ PRow w' aP p.P.length p.P.length p.P ∧ LRow w' aL p.L.length p.L.length p.L ∧ Below w.heap.size w w' := by
  refine (Read_any (partText p 4) (by have := text_len hv; omega) w).mono fun e w' h => ?_
  obtain ⟨hb, h⟩ := h
  have hr := read_back_len hf
  rcases h with ⟨n, h1, _⟩ | ⟨q, h1, h2, _⟩ | ⟨q, aP, aL, h1, h2, he, hP, hL⟩
  · rw [hr] at h1; cases h1
  · rw [hr] at h1
    injection h1 with h1
    subst h1
    exact absurd (chkPl_zero.2 hv) h2
  · rw [hr] at h1
    injection h1 with h1
    subst h1
    exact ⟨aP, aL, he, hP, hL, hb⟩
theorem str_eq (T : ByteArray) : (T.toList == T.toList) = true := by simp
theorem str_ne (T : ByteArray) : (T.toList != T.toList) = false := by simp
set_option maxRecDepth 100000 in
set_option maxHeartbeats 4000000 in
theorem text_walk (x : Nn) (s : Option Addr) (c : Nat) (z : ByteArray) (w : World) (hx : NnAt w x s c) (hflag : PowOk w) : Calls Tryz.prog 3 #[nnV x s c, .string z] w fun e w' => e = .returned (.bool true) ∧ Below w.heap.size w w' := by
  obtain ⟨zl, hzl⟩ : ∃ l, z = bs l := ⟨z.data.toList, bs_lit rfl⟩
  have hzs : z.size = zl.length := by rw [hzl, bs_len]
  have HZ := Lib.hid hzl
  have HZs := Lib.hid hzs
  have HFl := Lib.hid hflag
  clear hzl hzs hflag
  have hOf := fun (W : World) (h : NnAt W x s c) => of_any x s c W h
  obtain ⟨p0, hp0⟩ : ∃ p, p = x.codes.getD 0 0 := ⟨_, rfl⟩
  obtain ⟨p1, hp1⟩ : ∃ p, p = x.codes.getD 1 0 := ⟨_, rfl⟩
  obtain ⟨p2, hp2⟩ : ∃ p, p = x.codes.getD 2 0 := ⟨_, rfl⟩
  obtain ⟨p3, hp3⟩ : ∃ p, p = x.codes.getD 3 0 := ⟨_, rfl⟩
  obtain ⟨p4, hp4⟩ : ∃ p, p = x.codes.getD 4 0 := ⟨_, rfl⟩
  obtain ⟨p5, hp5⟩ : ∃ p, p = x.codes.getD 5 0 := ⟨_, rfl⟩
  obtain ⟨t0, ht0⟩ : ∃ p, p = x.tree.getD 0 0 := ⟨_, rfl⟩
  obtain ⟨t1, ht1⟩ : ∃ p, p = x.tree.getD 1 0 := ⟨_, rfl⟩
  obtain ⟨t2, ht2⟩ : ∃ p, p = x.tree.getD 2 0 := ⟨_, rfl⟩
  obtain ⟨t3, ht3⟩ : ∃ p, p = x.tree.getD 3 0 := ⟨_, rfl⟩
  obtain ⟨t4, ht4⟩ : ∃ p, p = x.tree.getD 4 0 := ⟨_, rfl⟩
  obtain ⟨t5, ht5⟩ : ∃ p, p = x.tree.getD 5 0 := ⟨_, rfl⟩
  obtain ⟨m, hm⟩ : ∃ m, m = x.extra.length := ⟨_, rfl⟩
  have HCs : Hid (nnCells x s m c = [.int .u8 (x.many : Nat), .int .u8 (p0 : Nat), .int .u8 (p1 : Nat), .int .u8 (p2 : Nat), .int .u8 (p3 : Nat), .int .u8 (p4 : Nat), .int .u8 (p5 : Nat), .int .u8 (x.ends : Nat), .int .u8 (t0 : Nat), .int .u8 (t1 : Nat), .int .u8 (t2 : Nat), .int .u8 (t3 : Nat), .int .u8 (t4 : Nat), .int .u8 (t5 : Nat), .slice s m c, .int .u8 (x.rate : Nat), .int .u8 (x.room : Nat), .int .u8 (x.k0 : Nat), .int .u8 (x.k1 : Nat)]) := Lib.hid (by unfold nnCells; rw [hp0, hp1, hp2, hp3, hp4, hp5, ht0, ht1, ht2, ht3, ht4, ht5])
  unfold nnV at hOf ⊢
  rw [← hm, HCs.out] at hOf
  rw [← hm, HCs.out]
  have HOf := Lib.hid hOf
  have HXn := Lib.hid hx
  have HL := Lib.hid lives_any
  clear hOf hx hm hp0 hp1 hp2 hp3 hp4 hp5 ht0 ht1 ht2 ht3 ht4 ht5
  go_enter Tryz.func3, Tryz.ntmps3
  go_upto_region 1 with (fail)
  obtain ⟨W0, hW0⟩ : ∃ W0, W0 = w.alloc (.cells #[.int .u8 (x.many : Nat), .int .u8 (p0 : Nat), .int .u8 (p1 : Nat), .int .u8 (p2 : Nat), .int .u8 (p3 : Nat), .int .u8 (p4 : Nat), .int .u8 (p5 : Nat), .int .u8 (x.ends : Nat), .int .u8 (t0 : Nat), .int .u8 (t1 : Nat), .int .u8 (t2 : Nat), .int .u8 (t3 : Nat), .int .u8 (t4 : Nat), .int .u8 (t5 : Nat), .slice s m c, .int .u8 (x.rate : Nat), .int .u8 (x.room : Nat), .int .u8 (x.k0 : Nat), .int .u8 (x.k1 : Nat)] 26) := ⟨_, rfl⟩
  have hB0 : Below w.heap.size w W0 := by rw [hW0]; exact below_alloc w _
  have ho0 : Own W0 w.heap.size 26 [.int .u8 (x.many : Nat), .int .u8 (p0 : Nat), .int .u8 (p1 : Nat), .int .u8 (p2 : Nat), .int .u8 (p3 : Nat), .int .u8 (p4 : Nat), .int .u8 (p5 : Nat), .int .u8 (x.ends : Nat), .int .u8 (t0 : Nat), .int .u8 (t1 : Nat), .int .u8 (t2 : Nat), .int .u8 (t3 : Nat), .int .u8 (t4 : Nat), .int .u8 (t5 : Nat), .slice s m c, .int .u8 (x.rate : Nat), .int .u8 (x.room : Nat), .int .u8 (x.k0 : Nat), .int .u8 (x.k1 : Nat)] := by rw [hW0]; exact heap_alloc_new w _
  rw [← hW0]
  have HRa := Lib.hid (range_own ho0)
  have HB0 := Lib.hid hB0
  clear hW0 ho0 hB0
  iterate 2 go_step
  refine wp_load_mid 26 (.tmp 2) (by rfl) w.heap.size 0 (by rfl) [.int .u8 (x.many : Nat), .int .u8 (p0 : Nat), .int .u8 (p1 : Nat), .int .u8 (p2 : Nat), .int .u8 (p3 : Nat), .int .u8 (p4 : Nat), .int .u8 (p5 : Nat), .int .u8 (x.ends : Nat), .int .u8 (t0 : Nat), .int .u8 (t1 : Nat), .int .u8 (t2 : Nat), .int .u8 (t3 : Nat), .int .u8 (t4 : Nat), .int .u8 (t5 : Nat), .slice s m c, .int .u8 (x.rate : Nat), .int .u8 (x.room : Nat), .int .u8 (x.k0 : Nat), .int .u8 (x.k1 : Nat)] _ HRa.out Tryz.underlying26 (by rfl) (by kernel_rfl) ?_
  go_wp2_with fail
  refine (HOf.out _ (HXn.out.later HB0.out)).mono ?_
  rintro e w1 ⟨p, aP, n, cP, aL, m2, cL, hPF, rfl, hP, hL, hb⟩
  have hb0 : Below w.heap.size w w1 := HB0.out.trans (hb.mono HB0.out.size)
  obtain ⟨b, hbz⟩ : ∃ b, b = w1.heap.size := ⟨_, rfl⟩
  have hn2 := hPF.n2
  have hn6 := hPF.n6
  have hcap := hP.le
  have hcap2 := hP.max
  have hcap3 := hL.le
  have hcap4 := hL.max
  unfold maxLen at hcap2 hcap4
  have HPF := Lib.hid hPF
  clear HOf
  go_upto_region 2 with (fail)
  obtain ⟨W, hW⟩ : ∃ W, W = w1.alloc (.cells #[.slice aP n cP, .slice aL m2 cL, .int .i64 p.rate, .int .i64 p.room, .int .i64 p.m0, .int .i64 p.m1, .int .i64 p.m2] 31) := ⟨_, rfl⟩
  have hst : St w p b aP n cP aL m2 cL W := by rw [hW, hbz]; exact St.new hP hL hb0
  rw [← hW, ← hbz]
  obtain ⟨g0, g1, g2, g3, g4, g5, g6⟩ := hst.box.cells
  have HS := Lib.hid hst
  clear hP hL hb hb0 hW hbz hPF
  have hPoW := HFl.out.later HS.out.bel
  have hfine := valid_fine HS.out.row HS.out.lrow HPF.out.valid
  have hWt := write_text p aP n cP aL m2 cL W HS.out.row HS.out.lrow HPF.out.valid hPoW
  have hTx := fun (X : World) (hX : St w p b aP n cP aL m2 cL X) => ltext_any p aP n cP aL m2 cL X hX.row hX.lrow HPF.out.valid (HFl.out.later hX.bel)
  have hRd := fun (X : World) => read_good p X hfine HPF.out.valid
  have hlenP := HPF.out.len
  have hlenL := HPF.out.llen
  rw [hlenP, hlenL] at hRd
  unfold WtOut at hWt
  unfold TxOut at hTx
  unfold planV at hWt hTx hRd
  obtain ⟨T, hT⟩ : ∃ T, T = bs (partText p 4) := ⟨_, rfl⟩
  rw [← hT] at hWt hTx hRd
  have HWt := Lib.hid hWt
  have HTx := Lib.hid hTx
  have HRd := Lib.hid hRd
  have HSy := Lib.hid (fun (a : Option Addr) (a' : Option Addr) (X : World) (h : St w p b aP n cP aL m2 cL X) (h1 : PRow X a n n p.P) (h2 : LRow X a' m2 m2 p.L) => same_yes p aP n cP aL m2 cL a n a' m2 X h.row h.lrow h1 h2)
  have HSm := Lib.hid (fun (a : Option Addr) (a' : Option Addr) (X : World) (h : St w p b aP n cP aL m2 cL X) (h1 : PRow X a n n p.P) (h2 : LRow X a' m2 m2 p.L) => Same_yes p aP n cP aL m2 cL a n a' m2 X h.row h.lrow h1 h2)
  have hst1 := str_ne T
  have HLn := Lib.hid (And.intro hlenP hlenL)
  clear hWt hTx hRd hT hfine hPoW hlenP hlenL
  go_wp2_with fail
  with_reducible refine HWt.out.mono ?_
  rintro e w2 ⟨rfl, hb⟩
  have HS2 := Lib.hid (HS.out.later hb)
  clear hb g0 g1 g2 g3 g4 g5 g6
  go_wp2_with fail
  with_reducible refine (HRd.out w2).mono ?_
  rintro e w3 ⟨aQ, aR, rfl, hQ, hR, hb⟩
  have HS3 := Lib.hid (HS2.out.later hb)
  have HQ := Lib.hid (And.intro hQ hR)
  clear hb hQ hR
  go_upto_region 4 with (fail)
  obtain ⟨W4, hW4⟩ : ∃ X, X = (w3.alloc (.cells #[.slice aQ n n, .slice aR m2 m2, .int .i64 p.rate, .int .i64 p.room, .int .i64 p.m0, .int .i64 p.m1, .int .i64 p.m2] 31)).alloc (.cells #[.int .i64 0, .int .i64 0] 37) := ⟨_, rfl⟩
  have x4 := below_alloc w3 (.cells #[.slice aQ n n, .slice aR m2 m2, .int .i64 p.rate, .int .i64 p.room, .int .i64 p.m0, .int .i64 p.m1, .int .i64 p.m2] 31)
  have o4 : Own (w3.alloc (.cells #[.slice aQ n n, .slice aR m2 m2, .int .i64 p.rate, .int .i64 p.room, .int .i64 p.m0, .int .i64 p.m1, .int .i64 p.m2] 31)) w3.heap.size 31 [.slice aQ n n, .slice aR m2 m2, .int .i64 p.rate, .int .i64 p.room, .int .i64 p.m0, .int .i64 p.m1, .int .i64 p.m2] := heap_alloc_new w3 _
  have s4 := World.size_alloc w3 (.cells #[.slice aQ n n, .slice aR m2 m2, .int .i64 p.rate, .int .i64 p.room, .int .i64 p.m0, .int .i64 p.m1, .int .i64 p.m2] 31)
  have x5 : Below (w3.alloc (.cells #[.slice aQ n n, .slice aR m2 m2, .int .i64 p.rate, .int .i64 p.room, .int .i64 p.m0, .int .i64 p.m1, .int .i64 p.m2] 31)).heap.size (w3.alloc (.cells #[.slice aQ n n, .slice aR m2 m2, .int .i64 p.rate, .int .i64 p.room, .int .i64 p.m0, .int .i64 p.m1, .int .i64 p.m2] 31)) W4 := by rw [hW4]; exact below_alloc _ _
  have o5 : Own W4 (w3.heap.size + 1) 37 [.int .i64 0, .int .i64 0] := by rw [hW4]; rw [← s4]; exact heap_alloc_new _ _
  have oq : Own W4 w3.heap.size 31 _ := o4.below x5 o4.lt
  have x6 : Below w3.heap.size w3 W4 := x4.trans (x5.mono x4.size)
  obtain ⟨qb, hqb⟩ : ∃ x, x = w3.heap.size := ⟨_, rfl⟩
  obtain ⟨fb, hfb⟩ : ∃ x, x = w3.heap.size + 1 := ⟨_, rfl⟩
  rw [← hW4, ← hfb, ← hqb]
  rw [← hfb] at o5
  rw [← hqb] at oq
  have HS4 := Lib.hid (HS3.out.later x6)
  have HQ4 := Lib.hid (And.intro (HQ.out.1.later x6) (HQ.out.2.later x6))
  have HOq := Lib.hid oq
  have HOf5 := Lib.hid o5
  obtain ⟨g0, g1, g2, g3, g4, g5, g6⟩ := HS4.out.box.cells
  obtain ⟨e0, e1, e2, e3, e4, e5, e6⟩ : _ ∧ _ ∧ _ ∧ _ ∧ _ ∧ _ ∧ _ := ⟨oq.cell 0 (by simp), oq.cell 1 (by simp), oq.cell 2 (by simp), oq.cell 3 (by simp), oq.cell 4 (by simp), oq.cell 5 (by simp), oq.cell 6 (by simp)⟩
  obtain ⟨f0, f1⟩ : _ ∧ _ := ⟨o5.cell 0 (by simp), o5.cell 1 (by simp)⟩
  simp only [List.getD_cons_zero, List.getD_cons_succ] at e0 e1 e2 e3 e4 e5 e6 f0 f1
  have hft : ∀ X, (binOp .neq 37 (.agg #[.int .i64 0, .int .i64 0]) (.agg #[.int .i64 0, .int .i64 0])).run Tryz.prog X = .ok (.bool false) X := fun X => neqFt 0 0 0 0 X
  clear hW4 x4 o4 s4 x5 o5 oq x6 hqb hfb
  go_wp2_with fail
  with_reducible refine (HTx.out W4 HS4.out).mono ?_
  rintro e w5 ⟨rfl, hb⟩
  have HS5 := Lib.hid (HS4.out.later hb)
  have HQ5 := Lib.hid (And.intro (HQ4.out.1.later hb) (HQ4.out.2.later hb))
  have HOq5 := Lib.hid (HOq.out.below hb HOq.out.lt)
  have HOf6 := Lib.hid (HOf5.out.below hb HOf5.out.lt)
  clear g0 g1 g2 g3 g4 g5 g6 e0 e1 e2 e3 e4 e5 e6 f0 f1 hb
  obtain ⟨g0, g1, g2, g3, g4, g5, g6⟩ := HS5.out.box.cells
  obtain ⟨e0, e1, e2, e3, e4, e5, e6⟩ : _ ∧ _ ∧ _ ∧ _ ∧ _ ∧ _ ∧ _ := ⟨HOq5.out.cell 0 (by simp), HOq5.out.cell 1 (by simp), HOq5.out.cell 2 (by simp), HOq5.out.cell 3 (by simp), HOq5.out.cell 4 (by simp), HOq5.out.cell 5 (by simp), HOq5.out.cell 6 (by simp)⟩
  obtain ⟨f0, f1⟩ : _ ∧ _ := ⟨HOf6.out.cell 0 (by simp), HOf6.out.cell 1 (by simp)⟩
  simp only [List.getD_cons_zero, List.getD_cons_succ] at e0 e1 e2 e3 e4 e5 e6 f0 f1
  go_wp2_with fail
  have HSy5 := Lib.hid (HSy.out aQ aR w5 HS5.out HQ5.out.1 HQ5.out.2)
  have hSy5 := HSy5.out
  unfold planV at hSy5
  refine hSy5.mono ?_
  rintro e w6 ⟨rfl, hb⟩
  have HS6 := Lib.hid (HS5.out.later hb)
  have HQ6 := Lib.hid (And.intro (HQ5.out.1.later hb) (HQ5.out.2.later hb))
  have HOq6 := Lib.hid (HOq5.out.below hb HOq5.out.lt)
  clear g0 g1 g2 g3 g4 g5 g6 e0 e1 e2 e3 e4 e5 e6 f0 f1 hb hSy5
  obtain ⟨g0, g1, g2, g3, g4, g5, g6⟩ := HS6.out.box.cells
  obtain ⟨e0, e1, e2, e3, e4, e5, e6⟩ : _ ∧ _ ∧ _ ∧ _ ∧ _ ∧ _ ∧ _ := ⟨HOq6.out.cell 0 (by simp), HOq6.out.cell 1 (by simp), HOq6.out.cell 2 (by simp), HOq6.out.cell 3 (by simp), HOq6.out.cell 4 (by simp), HOq6.out.cell 5 (by simp), HOq6.out.cell 6 (by simp)⟩
  simp only [List.getD_cons_zero, List.getD_cons_succ] at e0 e1 e2 e3 e4 e5 e6
  go_wp2_with fail
  have hSm6 := HSm.out aQ aR w6 HS6.out HQ6.out.1 HQ6.out.2
  unfold planV at hSm6
  refine hSm6.mono ?_
  rintro e w7 ⟨rfl, hb⟩
  have HX7 := Lib.hid ((HS6.out.later hb).bel)
  have HOq7 := Lib.hid (HOq6.out.below hb HOq6.out.lt)
  clear g0 g1 g2 g3 g4 g5 g6 e0 e1 e2 e3 e4 e5 e6 hb hSm6
  obtain ⟨e0, e1⟩ : _ ∧ _ := ⟨HOq7.out.cell 0 (by simp), HOq7.out.cell 1 (by simp)⟩
  simp only [List.getD_cons_zero, List.getD_cons_succ] at e0 e1
  have hnn : ((n : Int) != (n : Int)) = false := by simp
  have hmm : ((m2 : Int) != (m2 : Int)) = false := by simp
  clear HS HS2 HS3 HS4 HS5 HS6 HQ HQ4 HQ5 HQ6 HOq HOq5 HOq6 HOf5 HOf6 HWt HTx HRd HSy HSm HSy5
  by_cases hbig : (2000 : Int) < (z.size : Int)
  · go_wp2_with fail
    refine (HL.out w7).mono ?_
    rintro e w8 ⟨rfl, hb⟩
    have HB8 := Lib.hid (HX7.out.trans (hb.mono HX7.out.size))
    clear hb
    go_wp2
    go_ret
    exact ⟨rfl, HB8.out⟩
  · have HSz := Lib.hid (show zl.length ≤ 2000 by have := HZs.out; omega)
    have hRz := Read_any zl (by have := HSz.out; omega) w7
    rw [← HZ.out] at hRz
    have HRz := Lib.hid hRz
    clear hRz
    go_wp2_with fail
    refine HRz.out.mono ?_
    rintro e w8 ⟨hb, h⟩
    have HX8 := Lib.hid (HX7.out.trans (hb.mono HX7.out.size))
    clear hb e0 e1
    have hcnt := count_any zl
    rw [← HZ.out] at hcnt
    have HCt := Lib.hid hcnt
    have hcl : zl.count 10 ≤ zl.length := List.count_le_length
    obtain ⟨cn, hcn⟩ : ∃ c, c = zl.count 10 := ⟨_, rfl⟩
    rw [← hcn] at HCt hcl
    have hcw : IntKind.i64.wrap (1 + (cn : Int)) = 1 + (cn : Int) := IntWalk.i64_in _ (by have := HSz.out; omega)
    have HEz := Lib.hid (fun (X : World) => same_yes emptyPn none 0 0 none 0 0 none 0 none 0 X (PRow.of_nil X) (LRow.of_nil X) (PRow.of_nil X) (LRow.of_nil X))
    clear hcnt
    have hcase : (∃ E k : Int, E ≠ 0 ∧ 0 ≤ k ∧ k ≤ 1 + (cn : Int) ∧ e = .returned (.tuple #[zeroPl, .agg #[.int .i64 E, .int .i64 k]])) ∨ (∃ q aP aL, e = .returned (.tuple #[planV aP q.P.length q.P.length aL q.L.length q.L.length q, .agg #[.int .i64 0, .int .i64 0]]) ∧ PRow w8 aP q.P.length q.P.length q.P ∧ LRow w8 aL q.L.length q.L.length q.L ∧ ValidPl q ∧ partText q 4 = zl) := by
      rcases h with ⟨k, h1, h2⟩ | ⟨q, h1, h2, h3⟩ | ⟨q, aP, aL, h1, h2, he, hP, hL⟩
      · have h3 := fault_count _ _ _ _ _ _ h1
        exact .inl ⟨4, k, by decide, by omega, by omega, h2⟩
      · exact .inl ⟨chkPl q, 0, h2, by omega, by omega, h3⟩
      · have hvq := chkPl_zero.1 h2
        exact .inr ⟨q, aP, aL, he, hP, hL, hvq, read_is h1 hvq⟩
    clear h
    rcases hcase with ⟨E, k, hE, hk0, hk1, rfl⟩ | ⟨q, aP', aL', rfl, hP8, hL8, hvq, hzt⟩
    · have hE1 : (E != 0) = true := by simpa using hE
      unfold zeroPl
      clear hE hcn hcl
      go_upto_region 9 with (fail)
      obtain ⟨W9, hW9⟩ : ∃ X, X = (w8.alloc (.cells #[.slice none 0 0, .slice none 0 0, .int .i64 0, .int .i64 0, .int .i64 0, .int .i64 0, .int .i64 0] 31)).alloc (.cells #[.int .i64 E, .int .i64 k] 37) := ⟨_, rfl⟩
      have x4 := below_alloc w8 (.cells #[.slice none 0 0, .slice none 0 0, .int .i64 0, .int .i64 0, .int .i64 0, .int .i64 0, .int .i64 0] 31)
      have o4 : Own (w8.alloc (.cells #[.slice none 0 0, .slice none 0 0, .int .i64 0, .int .i64 0, .int .i64 0, .int .i64 0, .int .i64 0] 31)) w8.heap.size 31 [.slice none 0 0, .slice none 0 0, .int .i64 0, .int .i64 0, .int .i64 0, .int .i64 0, .int .i64 0] := heap_alloc_new w8 _
      have s4 := World.size_alloc w8 (.cells #[.slice none 0 0, .slice none 0 0, .int .i64 0, .int .i64 0, .int .i64 0, .int .i64 0, .int .i64 0] 31)
      have x5 : Below (w8.alloc (.cells #[.slice none 0 0, .slice none 0 0, .int .i64 0, .int .i64 0, .int .i64 0, .int .i64 0, .int .i64 0] 31)).heap.size (w8.alloc (.cells #[.slice none 0 0, .slice none 0 0, .int .i64 0, .int .i64 0, .int .i64 0, .int .i64 0, .int .i64 0] 31)) W9 := by rw [hW9]; exact below_alloc _ _
      have o5 : Own W9 (w8.heap.size + 1) 37 [.int .i64 E, .int .i64 k] := by rw [hW9]; rw [← s4]; exact heap_alloc_new _ _
      have oq : Own W9 w8.heap.size 31 _ := o4.below x5 o4.lt
      have x6 : Below w8.heap.size w8 W9 := x4.trans (x5.mono x4.size)
      obtain ⟨qb9, hqb⟩ : ∃ x, x = w8.heap.size := ⟨_, rfl⟩
      obtain ⟨fb9, hfb⟩ : ∃ x, x = w8.heap.size + 1 := ⟨_, rfl⟩
      rw [← hW9, ← hfb, ← hqb]
      rw [← hfb] at o5
      rw [← hqb] at oq
      have HX9 := Lib.hid (HX8.out.trans (x6.mono HX8.out.size))
      have HOf9 := Lib.hid o5
      obtain ⟨e0, e1, e2, e3, e4, e5, e6⟩ : _ ∧ _ ∧ _ ∧ _ ∧ _ ∧ _ ∧ _ := ⟨oq.cell 0 (by simp), oq.cell 1 (by simp), oq.cell 2 (by simp), oq.cell 3 (by simp), oq.cell 4 (by simp), oq.cell 5 (by simp), oq.cell 6 (by simp)⟩
      obtain ⟨f0, f1⟩ : _ ∧ _ := ⟨o5.cell 0 (by simp), o5.cell 1 (by simp)⟩
      simp only [List.getD_cons_zero, List.getD_cons_succ] at e0 e1 e2 e3 e4 e5 e6 f0 f1
      have hE9 := HEz.out W9.drew
      unfold planV emptyPn at hE9
      have HE9 := Lib.hid hE9
      have HSk := Lib.hid (fun (X : World) (hX : Below W9.heap.size W9 X) => show X.cell? ⟨qb9, 0, none⟩ = some (.slice none 0 0) ∧ X.cell? ⟨qb9, 1, none⟩ = some (.slice none 0 0) ∧ X.cell? ⟨qb9, 2, none⟩ = some (.int .i64 0) ∧ X.cell? ⟨qb9, 3, none⟩ = some (.int .i64 0) ∧ X.cell? ⟨qb9, 4, none⟩ = some (.int .i64 0) ∧ X.cell? ⟨qb9, 5, none⟩ = some (.int .i64 0) ∧ X.cell? ⟨qb9, 6, none⟩ = some (.int .i64 0) ∧ X.cell? ⟨fb9, 1, none⟩ = some (.int .i64 k) from by
        have hq := oq.below hX oq.lt
        have hf := o5.below hX o5.lt
        exact ⟨hq.cell 0 (by simp), hq.cell 1 (by simp), hq.cell 2 (by simp), hq.cell 3 (by simp), hq.cell 4 (by simp), hq.cell 5 (by simp), hq.cell 6 (by simp), hf.cell 1 (by simp)⟩)
      have HC01 := Lib.hid (HSk.out W9 (Below.refl _ _))
      clear hW9 x4 o4 s4 x5 o5 oq x6 hqb hfb hE9
      go_upto_region 10 with (fail)
      go_region_held3 (fun X => X.cell? ⟨qb9, 0, none⟩ = some (.slice none 0 0) ∧ X.cell? ⟨qb9, 1, none⟩ = some (.slice none 0 0) ∧ X.cell? ⟨qb9, 2, none⟩ = some (.int .i64 0) ∧ X.cell? ⟨qb9, 3, none⟩ = some (.int .i64 0) ∧ X.cell? ⟨qb9, 4, none⟩ = some (.int .i64 0) ∧ X.cell? ⟨qb9, 5, none⟩ = some (.int .i64 0) ∧ X.cell? ⟨qb9, 6, none⟩ = some (.int .i64 0) ∧ X.cell? ⟨fb9, 1, none⟩ = some (.int .i64 k)) (exact HC01.out)
        (first
          | ((with_reducible refine HE9.out.mono ?_); rintro e w10 ⟨rfl, hb⟩; have HB10 := Lib.hid ((below_drewN (Below.refl _ W9) 1).trans hb); have HC01 := Lib.hid (HSk.out _ HB10.out); clear hb)
          | ((with_reducible refine (HCt.out _).mono ?_); rintro e w11 ⟨rfl, rfl⟩)
          | ((with_reducible refine (HL.out _).mono ?_); rintro e w12 ⟨rfl, hb⟩; have HB12 := Lib.hid (HB10.out.trans (hb.mono HB10.out.size)); have HC01 := Lib.hid (HSk.out _ HB12.out); clear hb)
          | fail)
      all_goals
        go_wp2
        go_ret
        exact ⟨rfl, HX9.out.trans (HB12.out.mono HX9.out.size)⟩
    · have hWq := fun (X : World) (hX : Below w8.heap.size w8 X) => write_text q aP' q.P.length q.P.length aL' q.L.length q.L.length X (hP8.later hX) (hL8.later hX) hvq (HFl.out.later (HX8.out.trans (hX.mono HX8.out.size)))
      unfold WtOut at hWq
      rw [hzt, ← HZ.out] at hWq
      have hCq := fun (X : World) (hX : Below w8.heap.size w8 X) => ccheck_any q aP' q.P.length q.P.length aL' q.L.length q.L.length X (hP8.later hX) (hL8.later hX)
      rw [chkPl_zero.2 hvq] at hCq
      unfold planV at hWq hCq ⊢
      obtain ⟨n8, hn8⟩ : ∃ x, x = q.P.length := ⟨_, rfl⟩
      obtain ⟨m8, hm8⟩ : ∃ x, x = q.L.length := ⟨_, rfl⟩
      rw [← hn8, ← hm8] at hWq hCq ⊢
      have HWq := Lib.hid hWq
      have HCq := Lib.hid hCq
      have hzz := str_eq z
      clear hWq hCq hn8 hm8 hP8 hL8 hvq hzt hcn hcl hcw
      go_upto_region 9 with (fail)
      obtain ⟨W9, hW9⟩ : ∃ X, X = (w8.alloc (.cells #[.slice aP' n8 n8, .slice aL' m8 m8, .int .i64 q.rate, .int .i64 q.room, .int .i64 q.m0, .int .i64 q.m1, .int .i64 q.m2] 31)).alloc (.cells #[.int .i64 0, .int .i64 0] 37) := ⟨_, rfl⟩
      have x4 := below_alloc w8 (.cells #[.slice aP' n8 n8, .slice aL' m8 m8, .int .i64 q.rate, .int .i64 q.room, .int .i64 q.m0, .int .i64 q.m1, .int .i64 q.m2] 31)
      have o4 : Own (w8.alloc (.cells #[.slice aP' n8 n8, .slice aL' m8 m8, .int .i64 q.rate, .int .i64 q.room, .int .i64 q.m0, .int .i64 q.m1, .int .i64 q.m2] 31)) w8.heap.size 31 [.slice aP' n8 n8, .slice aL' m8 m8, .int .i64 q.rate, .int .i64 q.room, .int .i64 q.m0, .int .i64 q.m1, .int .i64 q.m2] := heap_alloc_new w8 _
      have s4 := World.size_alloc w8 (.cells #[.slice aP' n8 n8, .slice aL' m8 m8, .int .i64 q.rate, .int .i64 q.room, .int .i64 q.m0, .int .i64 q.m1, .int .i64 q.m2] 31)
      have x5 : Below (w8.alloc (.cells #[.slice aP' n8 n8, .slice aL' m8 m8, .int .i64 q.rate, .int .i64 q.room, .int .i64 q.m0, .int .i64 q.m1, .int .i64 q.m2] 31)).heap.size (w8.alloc (.cells #[.slice aP' n8 n8, .slice aL' m8 m8, .int .i64 q.rate, .int .i64 q.room, .int .i64 q.m0, .int .i64 q.m1, .int .i64 q.m2] 31)) W9 := by rw [hW9]; exact below_alloc _ _
      have o5 : Own W9 (w8.heap.size + 1) 37 [.int .i64 0, .int .i64 0] := by rw [hW9]; rw [← s4]; exact heap_alloc_new _ _
      have oq : Own W9 w8.heap.size 31 _ := o4.below x5 o4.lt
      have x6 : Below w8.heap.size w8 W9 := x4.trans (x5.mono x4.size)
      obtain ⟨qb9, hqb⟩ : ∃ x, x = w8.heap.size := ⟨_, rfl⟩
      obtain ⟨fb9, hfb⟩ : ∃ x, x = w8.heap.size + 1 := ⟨_, rfl⟩
      rw [← hW9, ← hfb, ← hqb]
      rw [← hfb] at o5
      rw [← hqb] at oq
      have HX9 := Lib.hid (HX8.out.trans (x6.mono HX8.out.size))
      have HOf9 := Lib.hid o5
      have HOq9 := Lib.hid oq
      have HX89 := Lib.hid x6
      obtain ⟨e0, e1, e2, e3, e4, e5, e6⟩ : _ ∧ _ ∧ _ ∧ _ ∧ _ ∧ _ ∧ _ := ⟨oq.cell 0 (by simp), oq.cell 1 (by simp), oq.cell 2 (by simp), oq.cell 3 (by simp), oq.cell 4 (by simp), oq.cell 5 (by simp), oq.cell 6 (by simp)⟩
      obtain ⟨f0, f1⟩ : _ ∧ _ := ⟨o5.cell 0 (by simp), o5.cell 1 (by simp)⟩
      simp only [List.getD_cons_zero, List.getD_cons_succ] at e0 e1 e2 e3 e4 e5 e6 f0 f1
      clear hW9 x4 o4 s4 x5 o5 oq x6 hqb hfb
      go_wp2_with fail
      with_reducible refine (HWq.out W9 HX89.out).mono ?_
      rintro e w10 ⟨rfl, hb⟩
      have HX10 := Lib.hid (HX9.out.trans (hb.mono HX9.out.size))
      have HX80 := Lib.hid (HX89.out.trans (hb.mono HX89.out.size))
      have HOf10 := Lib.hid (HOf9.out.below hb HOf9.out.lt)
      have HOq10 := Lib.hid (HOq9.out.below hb HOq9.out.lt)
      clear e0 e1 e2 e3 e4 e5 e6 f0 f1 hb
      obtain ⟨e0, e1, e2, e3, e4, e5, e6⟩ : _ ∧ _ ∧ _ ∧ _ ∧ _ ∧ _ ∧ _ := ⟨HOq10.out.cell 0 (by simp), HOq10.out.cell 1 (by simp), HOq10.out.cell 2 (by simp), HOq10.out.cell 3 (by simp), HOq10.out.cell 4 (by simp), HOq10.out.cell 5 (by simp), HOq10.out.cell 6 (by simp)⟩
      obtain ⟨f0, f1⟩ : _ ∧ _ := ⟨HOf10.out.cell 0 (by simp), HOf10.out.cell 1 (by simp)⟩
      simp only [List.getD_cons_zero, List.getD_cons_succ] at e0 e1 e2 e3 e4 e5 e6 f0 f1
      go_wp2_with fail
      with_reducible refine (HCq.out w10 HX80.out).mono ?_
      rintro e w11 ⟨rfl, hb⟩
      have HX11 := Lib.hid (HX10.out.trans (hb.mono HX10.out.size))
      clear hb
      go_wp2_with fail
      refine (HL.out w11).mono ?_
      rintro e w12 ⟨rfl, hb⟩
      have HX12 := Lib.hid (HX11.out.trans (hb.mono HX11.out.size))
      clear hb
      go_wp2
      go_ret
      exact ⟨rfl, HX12.out⟩
theorem text_all (x : Nn) (s : Option Addr) (c : Nat) (z : ByteArray) (w : World) (hp : PowOk w) (hx : NnAt w x s c) (_ : z.size ≤ maxLen) :
    Calls Tryz.prog 3 #[nnV x s c, .string z] w fun e w' => e = .returned (.bool true) ∧ Below w.heap.size w w' := text_walk x s c z w hx hp
end Go.Proofs.YthlckipcgogogaaGreatDoor
