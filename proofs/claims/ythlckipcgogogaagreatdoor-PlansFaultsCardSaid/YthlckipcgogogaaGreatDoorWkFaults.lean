/- Joined: WkF6 WkF7 WkF8 WkF9 WkF10 WkF11 WkFaults. -/
import Derived.Test.YthlckipcgogogaaGreatDoorPfTail
import Derived.Deep.Cut
import Derived.Deep.MidRow
import Derived.Deep.CutBlock
import Derived.BigQuiet
import Derived.Deep.RegionHeld3
import Derived.Deep.RegionLaw
import Derived.BigRegion
import Derived.IntWalk
import Derived.Test.YthlckipcgogogaaGreatDoorPlCells
import Derived.Test.YthlckipcgogogaaGreatDoorWkF5
/- The walk of PlansFaults, case 6. -/
namespace Go.Proofs.YthlckipcgogogaaGreatDoor
set_option linter.unusedVariables false
open Go.RowKit

set_option maxRecDepth 100000 in
set_option maxHeartbeats 4000000 in
theorem faults_walk6 (x : Nn) (s : Option Addr) (c : Nat) (u v : Int) (w : World) (hx : NnAt w x s c) (hflag : PowOk w) (hv0 : 0 ≤ v) (hv1 : v ≤ 255) (hu : u.tmod 12 = 6) : Calls Tryz.prog 4 #[nnV x s c, .int .u8 u, .int .u8 v] w fun e w' => e = .returned (.bool true) ∧ Below w.heap.size w w' := by
  have HFl := Lib.hid hflag
  clear hflag
  have hOf := fun (W : World) (h : NnAt W x s c) => of_any x s c W h
  obtain ⟨p0, hp0⟩ : ∃ p, p = x.codes.getD 0 0 := ⟨_, rfl⟩
  obtain ⟨p1, hp1⟩ : ∃ p, p = x.codes.getD 1 0 := ⟨_, rfl⟩
  obtain ⟨p2, hp2⟩ : ∃ p, p = x.codes.getD 2 0 := ⟨_, rfl⟩
  obtain ⟨p3, hp3⟩ : ∃ p, p = x.codes.getD 3 0 := ⟨_, rfl⟩
  obtain ⟨p4, hp4⟩ : ∃ p, p = x.codes.getD 4 0 := ⟨_, rfl⟩
  obtain ⟨p5, hp5⟩ : ∃ p, p = x.codes.getD 5 0 := ⟨_, rfl⟩
  obtain ⟨t0, ht0⟩ : ∃ p, p = x.tree.getD 0 0 := ⟨_, rfl⟩
  obtain ⟨t1, ht1⟩ : ∃ p, p = x.tree.getD 1 0 := ⟨_, rfl⟩
  obtain ⟨t2, ht2⟩ : ∃ p, p = x.tree.getD 2 0 := ⟨_, rfl⟩
  obtain ⟨t3, ht3⟩ : ∃ p, p = x.tree.getD 3 0 := ⟨_, rfl⟩
  obtain ⟨t4, ht4⟩ : ∃ p, p = x.tree.getD 4 0 := ⟨_, rfl⟩
  obtain ⟨t5, ht5⟩ : ∃ p, p = x.tree.getD 5 0 := ⟨_, rfl⟩
  obtain ⟨m, hm⟩ : ∃ m, m = x.extra.length := ⟨_, rfl⟩
  have HCs : Hid (nnCells x s m c = [.int .u8 (x.many : Nat), .int .u8 (p0 : Nat), .int .u8 (p1 : Nat), .int .u8 (p2 : Nat), .int .u8 (p3 : Nat), .int .u8 (p4 : Nat), .int .u8 (p5 : Nat), .int .u8 (x.ends : Nat), .int .u8 (t0 : Nat), .int .u8 (t1 : Nat), .int .u8 (t2 : Nat), .int .u8 (t3 : Nat), .int .u8 (t4 : Nat), .int .u8 (t5 : Nat), .slice s m c, .int .u8 (x.rate : Nat), .int .u8 (x.room : Nat), .int .u8 (x.k0 : Nat), .int .u8 (x.k1 : Nat)]) := Lib.hid (by unfold nnCells; rw [hp0, hp1, hp2, hp3, hp4, hp5, ht0, ht1, ht2, ht3, ht4, ht5])
  unfold nnV at hOf ⊢
  rw [← hm, HCs.out] at hOf
  rw [← hm, HCs.out]
  have HOf := Lib.hid hOf
  have HXn := Lib.hid hx
  have HL := Lib.hid lives_any
  clear hOf hx hm hp0 hp1 hp2 hp3 hp4 hp5 ht0 ht1 ht2 ht3 ht4 ht5
  go_enter Tryz.func4, Tryz.ntmps4
  go_upto_region 1 with (fail)
  obtain ⟨W0, hW0⟩ : ∃ W0, W0 = w.alloc (.cells #[.int .u8 (x.many : Nat), .int .u8 (p0 : Nat), .int .u8 (p1 : Nat), .int .u8 (p2 : Nat), .int .u8 (p3 : Nat), .int .u8 (p4 : Nat), .int .u8 (p5 : Nat), .int .u8 (x.ends : Nat), .int .u8 (t0 : Nat), .int .u8 (t1 : Nat), .int .u8 (t2 : Nat), .int .u8 (t3 : Nat), .int .u8 (t4 : Nat), .int .u8 (t5 : Nat), .slice s m c, .int .u8 (x.rate : Nat), .int .u8 (x.room : Nat), .int .u8 (x.k0 : Nat), .int .u8 (x.k1 : Nat)] 26) := ⟨_, rfl⟩
  have hB0 : Below w.heap.size w W0 := by rw [hW0]; exact below_alloc w _
  have ho0 : Own W0 w.heap.size 26 [.int .u8 (x.many : Nat), .int .u8 (p0 : Nat), .int .u8 (p1 : Nat), .int .u8 (p2 : Nat), .int .u8 (p3 : Nat), .int .u8 (p4 : Nat), .int .u8 (p5 : Nat), .int .u8 (x.ends : Nat), .int .u8 (t0 : Nat), .int .u8 (t1 : Nat), .int .u8 (t2 : Nat), .int .u8 (t3 : Nat), .int .u8 (t4 : Nat), .int .u8 (t5 : Nat), .slice s m c, .int .u8 (x.rate : Nat), .int .u8 (x.room : Nat), .int .u8 (x.k0 : Nat), .int .u8 (x.k1 : Nat)] := by rw [hW0]; exact heap_alloc_new w _
  rw [← hW0]
  have HRa := Lib.hid (range_own ho0)
  have HB0 := Lib.hid hB0
  clear hW0 ho0 hB0
  iterate 2 go_step
  refine wp_load_mid 26 (.tmp 3) (by rfl) w.heap.size 0 (by rfl) [.int .u8 (x.many : Nat), .int .u8 (p0 : Nat), .int .u8 (p1 : Nat), .int .u8 (p2 : Nat), .int .u8 (p3 : Nat), .int .u8 (p4 : Nat), .int .u8 (p5 : Nat), .int .u8 (x.ends : Nat), .int .u8 (t0 : Nat), .int .u8 (t1 : Nat), .int .u8 (t2 : Nat), .int .u8 (t3 : Nat), .int .u8 (t4 : Nat), .int .u8 (t5 : Nat), .slice s m c, .int .u8 (x.rate : Nat), .int .u8 (x.room : Nat), .int .u8 (x.k0 : Nat), .int .u8 (x.k1 : Nat)] _ HRa.out Tryz.underlying26 (by rfl) (by kernel_rfl) ?_
  go_wp2_with fail
  refine (HOf.out _ (HXn.out.later HB0.out)).mono ?_
  rintro e w1 ⟨p, aP, n, cP, aL, m2, cL, hPF, rfl, hP, hL, hb⟩
  have hb0 : Below w.heap.size w w1 := HB0.out.trans (hb.mono HB0.out.size)
  obtain ⟨b, hbz⟩ : ∃ b, b = w1.heap.size := ⟨_, rfl⟩
  have hn2 := hPF.n2
  have hn6 := hPF.n6
  have hcap := hP.le
  have hcap2 := hP.max
  have hcap3 := hL.le
  have hcap4 := hL.max
  unfold maxLen at hcap2 hcap4
  have HPF := Lib.hid hPF
  clear HOf
  have hfine := valid_fine hP hL hPF.valid
  have hTx := ltext_any p aP n cP aL m2 cL w1 hP hL hPF.valid (HFl.out.later hb0)
  unfold TxOut at hTx
  unfold planV at hTx
  obtain ⟨Ls, hLs⟩ : ∃ Ls, Ls = linesP p := ⟨_, rfl⟩
  have hN := linesP_len p
  have hHd := headL_len p
  have hnn : Ls ≠ [] := by rw [hLs]; intro h; rw [h] at hN; simp at hN
  have hshort := short_text (p := p) (by have := hPF.len; have := hPF.n6; omega) (by have := hPF.llen; have := hPF.m11; omega)
  have hnds : nds (unn Ls) = Ls := nds_unn Ls hnn (by rw [hLs]; exact lines_noN hfine)
  have htx : partText p 4 = unn Ls ++ [10] := by rw [text_nl, unn_nl Ls hnn, hLs]
  rw [← hLs] at hN hshort
  have hul : (unn Ls).length ≤ 2000 := by rw [← unn_nl Ls hnn] at hshort; simp only [List.length_append] at hshort; omega
  rw [htx] at hTx
  have hTr := fun (X : World) => trim_any (unn Ls) X (by omega)
  have hSp := fun (X : World) => linesN_any (unn Ls) X (by omega)
  rw [hnds] at hSp
  obtain ⟨N, hNN⟩ : ∃ N, N = Ls.length := ⟨_, rfl⟩
  rw [← hNN] at hSp hN
  obtain ⟨T1, hT1⟩ : ∃ T, T = bs (unn Ls ++ [10]) := ⟨_, rfl⟩
  obtain ⟨T2, hT2⟩ : ∃ T, T = bs (unn Ls) := ⟨_, rfl⟩
  rw [← hT1] at hTx hTr
  rw [← hT2] at hTr hSp
  have HTx := Lib.hid hTx
  have HTr := Lib.hid hTr
  have HSp := Lib.hid hSp
  have HFi := Lib.hid (And.intro hfine hPF.valid)
  have HLs := Lib.hid (And.intro hLs hNN)
  have HSh := Lib.hid hshort
  have hN5 : 5 ≤ N := by have := hPF.n2; have := hPF.len; omega
  have hN20 : N ≤ 20 := by have := hPF.n6; have := hPF.len; have := hPF.llen; have := hPF.m11; omega
  have HNl := Lib.hid (show N = p.P.length + p.L.length + 3 by omega)
  have HLp := Lib.hid (show 0 < p.L.length by rw [hPF.eq]; exact lines_pos x)
  have HB1 := Lib.hid hb0
  clear hTx hTr hSp hfine hP hL hb hb0 hcap hcap2 hcap3 hcap4 hN hHd hnn hshort hnds htx hul hT1 hT2 hLs hNN hbz b
  go_wp2_with fail
  with_reducible refine HTx.out.mono ?_
  rintro e w2 ⟨rfl, hb⟩
  have HB2 := Lib.hid (HB1.out.trans (hb.mono HB1.out.size))
  clear hb HTx
  go_wp2_with fail
  with_reducible refine (HTr.out w2).mono ?_
  rintro e w3 ⟨rfl, rfl⟩
  go_wp2_with fail
  with_reducible refine (HSp.out w3).mono ?_
  rintro e w4 ⟨rfl, hw4⟩
  have hb4 : Below w3.heap.size w3 w4 := by rw [hw4]; exact below_alloc _ _
  have ho4 : Own w4 w3.heap.size 9 (strC Ls) := by rw [hw4]; exact heap_alloc_new _ _
  obtain ⟨b0, hb0⟩ : ∃ b, b = w3.heap.size := ⟨_, rfl⟩
  rw [← hb0] at ho4 ⊢
  have HB4 := Lib.hid (HB2.out.trans (hb4.mono HB2.out.size))
  have HW0 := Lib.hid (show w.heap.size ≤ b0 by rw [hb0]; exact HB2.out.size)
  have HO4 := Lib.hid ho4
  obtain ⟨i, hi⟩ : ∃ i, i = v.toNat % N := ⟨_, rfl⟩
  have hrem : v.tmod (N : Int) = (i : Int) := by
    rw [Int.tmod_eq_emod_of_nonneg hv0, hi, Int.natCast_emod, Int.toNat_of_nonneg hv0]
  have hiN : i < N := by rw [hi]; exact Nat.mod_lt _ (by omega)
  have hN0 : ((N : Int) == 0) = false := by simp; omega
  clear hw4 hb4 ho4 hb0 hi HTr HSp
  go_upto_region 4 with (fail)
  obtain ⟨W5, hW5⟩ : ∃ X, X = w4.alloc (.cells #[.int .i64 4, .int .i64 ((i : Int) + 1)] 37) := ⟨_, rfl⟩
  have hb5 : Below w4.heap.size w4 W5 := by rw [hW5]; exact below_alloc _ _
  have hf5 : Own W5 w4.heap.size 37 [.int .i64 4, .int .i64 ((i : Int) + 1)] := by rw [hW5]; exact heap_alloc_new _ _
  have ho5 := HO4.out.below hb5 HO4.out.lt
  obtain ⟨wb, hwb⟩ : ∃ b, b = w4.heap.size := ⟨_, rfl⟩
  rw [← hW5, ← hwb]
  rw [← hwb] at hf5
  have hne : b0 ≠ wb := by have := HO4.out.lt; omega
  have HS := Lib.hid (show FS w b0 wb Ls 4 ((i : Int) + 1) W5 from ⟨HB4.out.trans (hb5.mono HB4.out.size), ho5, hf5, hne, HW0.out, by have := HB4.out.size; omega⟩)
  clear hW5 hb5 hf5 ho5 hwb HO4 hne HW0 HB4 HB2 HB1
  have hqN : N - 1 < N := by omega
  obtain ⟨hc0, hz0⟩ := HS.out.elem (N - 1) (by rw [← HLs.out.2]; exact hqN)
  go_upto_region 28 with (fail)
  obtain ⟨W6, hW6⟩ : ∃ X, X = W5.setCell ⟨b0, N - 1, none⟩ (.string ⟨#[109, 97, 114, 107, 115, 32, 49, 32, 50, 32, 49, 50, 51, 52, 53, 54, 55]⟩) := ⟨_, rfl⟩
  have hHS6 : FS w b0 wb (Ls.set (N - 1) marks7) 4 ((i : Int) + 1) W6 := by rw [hW6]; exact (HS.out.line (N - 1) marks7)
  have hgoal := hW6
  rw [← hW6]
  have HS6 := Lib.hid hHS6
  clear hW6 hHS6 hgoal
  obtain ⟨hc1, hc2, hz1, hz2⟩ := HS6.out.cells
  clear hc0 hz0 HS
  go_upto_region 41 with (fail)
  obtain ⟨W7, hW7⟩ : ∃ X, X = W6.setCell ⟨wb, 1, none⟩ (.int .i64 (N : Int)) := ⟨_, rfl⟩
  have hHS7 : FS w b0 wb (Ls.set (N - 1) marks7) 4 (N : Int) W7 := by rw [hW7]; exact (HS6.out.num (N : Int))
  have hgoal := hW7
  rw [← hW7]
  have HS7 := Lib.hid hHS7
  clear hW7 hHS7 hgoal
  clear hc1 hc2 hz1 hz2 HS6 hqN
  have hlen : (Ls.set (N - 1) marks7).length = N := by rw [List.length_set, HLs.out.2]
  have hnl : (nlT (Ls.set (N - 1) marks7)).length ≤ 3000 := Nat.le_trans (nlT_set _ _ _) (by have := HSh.out; have : marks7.length ≤ 20 := (by decide); omega)
  have hres : ResF (nlT (Ls.set (N - 1) marks7)) 4 N := by rw [HLs.out.2, HLs.out.1]; exact res6 HFi.out.1
  have hkk : ((N : Nat) : Int) = (N : Int) := by omega
  have hJ0 := fun (Lf : List (List UInt8)) (e : Lf = Ls.set (N - 1) marks7) (h3 : (Lib.join Lf [10]).length ≤ 1048576) => joinB_any b0 N N (strC Lf) Lf 10 W7 HS7.out.row.lt rfl (by rw [e]; exact hlen) (Nat.le_refl _) (fun i hi => by rw [e]; exact HS7.out.row.cell i (by rw [strC_length, hlen]; exact hi)) (by omega) h3
  have HSf := Lib.hid HS7.out.fw
  clear HS7
  obtain ⟨Lf, hLf⟩ : ∃ l, l = Ls.set (N - 1) marks7 := ⟨_, rfl⟩
  rw [← hLf] at hlen hnl hres
  have hLf0 : Lf ≠ [] := by intro h; rw [h] at hlen; simp at hlen; omega
  have hun := unn_nl Lf hLf0
  have hul : (unn Lf).length ≤ 5000 := by have := congrArg List.length hun; rw [List.length_append] at this; omega
  have hJ := hJ0 Lf hLf (by rw [join_unn]; omega)
  rw [join_unn] at hJ
  obtain ⟨S1, hS1⟩ : ∃ S, S = bs (unn Lf) := ⟨_, rfl⟩
  have hS1z : S1.size = (unn Lf).length := by rw [hS1, bs_len]
  rw [← hS1] at hJ
  obtain ⟨S2, eS2, zS2, bS2, oS2⟩ := cat_str S1 ⟨#[10]⟩ (by rw [hS1z]; show _ + 1 ≤ _; omega)
  have hS2 : S2 = bs (nlT Lf) := by rw [← hun, eS2, hS1]; exact bs_of (by simp [bs])
  have hRd := fun (X : World) => read_resK hres (by omega) hkk hS2 X
  have HJ := Lib.hid hJ
  have HRd := Lib.hid hRd
  have HZs := Lib.hid (And.intro hS1z hul)
  clear hJ0 hLf hlen hnl hres hkk hLf0 hun hul hJ hS1 hS1z hS2 eS2 zS2 hRd 
  go_wp2_with fail
  with_reducible refine HJ.out.mono ?_
  rintro e w8 ⟨rfl, hb⟩
  have HS8 := Lib.hid (HSf.out.later hb)
  clear hb HJ HSf
  go_wp2_with fail
  with_reducible refine (HRd.out w8).mono ?_
  rintro e w9 ⟨rfl, hb⟩
  have HS9 := Lib.hid (HS8.out.later hb)
  clear hb HRd HS8
  go_upto_region 45 with (fail)
  obtain ⟨W9, hW9⟩ : ∃ X, X = (w9.alloc (.cells #[.slice none 0 0, .slice none 0 0, .int .i64 0, .int .i64 0, .int .i64 0, .int .i64 0, .int .i64 0] 31)).alloc (.cells #[.int .i64 4, .int .i64 (N : Int)] 37) := ⟨_, rfl⟩
  have x4 := below_alloc w9 (.cells #[.slice none 0 0, .slice none 0 0, .int .i64 0, .int .i64 0, .int .i64 0, .int .i64 0, .int .i64 0] 31)
  have o4 : Own (w9.alloc (.cells #[.slice none 0 0, .slice none 0 0, .int .i64 0, .int .i64 0, .int .i64 0, .int .i64 0, .int .i64 0] 31)) w9.heap.size 31 [.slice none 0 0, .slice none 0 0, .int .i64 0, .int .i64 0, .int .i64 0, .int .i64 0, .int .i64 0] := heap_alloc_new w9 _
  have s4 := World.size_alloc w9 (.cells #[.slice none 0 0, .slice none 0 0, .int .i64 0, .int .i64 0, .int .i64 0, .int .i64 0, .int .i64 0] 31)
  have x5 : Below (w9.alloc (.cells #[.slice none 0 0, .slice none 0 0, .int .i64 0, .int .i64 0, .int .i64 0, .int .i64 0, .int .i64 0] 31)).heap.size (w9.alloc (.cells #[.slice none 0 0, .slice none 0 0, .int .i64 0, .int .i64 0, .int .i64 0, .int .i64 0, .int .i64 0] 31)) W9 := by rw [hW9]; exact below_alloc _ _
  have o5 : Own W9 (w9.heap.size + 1) 37 [.int .i64 4, .int .i64 (N : Int)] := by rw [hW9]; rw [← s4]; exact heap_alloc_new _ _
  have oq : Own W9 w9.heap.size 31 _ := o4.below x5 o4.lt
  have x6 : Below w9.heap.size w9 W9 := x4.trans (x5.mono x4.size)
  obtain ⟨qb9, hqb⟩ : ∃ x, x = w9.heap.size := ⟨_, rfl⟩
  obtain ⟨fb9, hfb⟩ : ∃ x, x = w9.heap.size + 1 := ⟨_, rfl⟩
  rw [← hW9, ← hfb, ← hqb]
  rw [← hfb] at o5
  rw [← hqb] at oq
  have HS10 := Lib.hid (HS9.out.later x6)
  obtain ⟨e0, e1, e2, e3, e4, e5, e6⟩ : _ ∧ _ ∧ _ ∧ _ ∧ _ ∧ _ ∧ _ := ⟨oq.cell 0 (by simp), oq.cell 1 (by simp), oq.cell 2 (by simp), oq.cell 3 (by simp), oq.cell 4 (by simp), oq.cell 5 (by simp), oq.cell 6 (by simp)⟩
  obtain ⟨f0, f1⟩ : _ ∧ _ := ⟨o5.cell 0 (by simp), o5.cell 1 (by simp)⟩
  simp only [List.getD_cons_zero, List.getD_cons_succ] at e0 e1 e2 e3 e4 e5 e6 f0 f1
  obtain ⟨hc1, hc2, hz1, hz2⟩ := HS10.out.cells
  have hE9 := same_yes emptyPn none 0 0 none 0 0 none 0 none 0 W9 (PRow.of_nil W9) (LRow.of_nil W9) (PRow.of_nil W9) (LRow.of_nil W9)
  unfold planV emptyPn at hE9
  have HE9 := Lib.hid hE9
  have heq : ∀ X, (binOp .eql 37 (.agg #[.int .i64 4, .int .i64 (N : Int)]) (.agg #[.int .i64 4, .int .i64 (N : Int)])).run Tryz.prog X = .ok (.bool true) X := fun X => by rw [eqlFt]; simp
  clear hW9 x4 o4 s4 x5 o5 oq x6 hqb hfb hE9 HS9 hz1 hz2
  go_wp2_with fail
  with_reducible refine HE9.out.mono ?_
  rintro e w10 ⟨rfl, hb⟩
  have HS11 := Lib.hid (HS10.out.later hb)
  clear hb e0 e1 e2 e3 e4 e5 e6 f0 f1 hc1 hc2
  go_wp2_with fail
  with_reducible refine (HL.out w10).mono ?_
  rintro e w11 ⟨rfl, hb⟩
  have HS12 := Lib.hid (HS11.out.later hb)
  clear hb
  go_wp2
  go_ret
  exact ⟨rfl, HS12.out.bel⟩
end Go.Proofs.YthlckipcgogogaaGreatDoor
/- The walk of PlansFaults, case 7. -/
namespace Go.Proofs.YthlckipcgogogaaGreatDoor
set_option linter.unusedVariables false
open Go.RowKit

set_option maxRecDepth 100000 in
set_option maxHeartbeats 4000000 in
theorem faults_walk7 (x : Nn) (s : Option Addr) (c : Nat) (u v : Int) (w : World) (hx : NnAt w x s c) (hflag : PowOk w) (hv0 : 0 ≤ v) (hv1 : v ≤ 255) (hu : u.tmod 12 = 7) : Calls Tryz.prog 4 #[nnV x s c, .int .u8 u, .int .u8 v] w fun e w' => e = .returned (.bool true) ∧ Below w.heap.size w w' := by
  have HFl := Lib.hid hflag
  clear hflag
  have hOf := fun (W : World) (h : NnAt W x s c) => of_any x s c W h
  obtain ⟨p0, hp0⟩ : ∃ p, p = x.codes.getD 0 0 := ⟨_, rfl⟩
  obtain ⟨p1, hp1⟩ : ∃ p, p = x.codes.getD 1 0 := ⟨_, rfl⟩
  obtain ⟨p2, hp2⟩ : ∃ p, p = x.codes.getD 2 0 := ⟨_, rfl⟩
  obtain ⟨p3, hp3⟩ : ∃ p, p = x.codes.getD 3 0 := ⟨_, rfl⟩
  obtain ⟨p4, hp4⟩ : ∃ p, p = x.codes.getD 4 0 := ⟨_, rfl⟩
  obtain ⟨p5, hp5⟩ : ∃ p, p = x.codes.getD 5 0 := ⟨_, rfl⟩
  obtain ⟨t0, ht0⟩ : ∃ p, p = x.tree.getD 0 0 := ⟨_, rfl⟩
  obtain ⟨t1, ht1⟩ : ∃ p, p = x.tree.getD 1 0 := ⟨_, rfl⟩
  obtain ⟨t2, ht2⟩ : ∃ p, p = x.tree.getD 2 0 := ⟨_, rfl⟩
  obtain ⟨t3, ht3⟩ : ∃ p, p = x.tree.getD 3 0 := ⟨_, rfl⟩
  obtain ⟨t4, ht4⟩ : ∃ p, p = x.tree.getD 4 0 := ⟨_, rfl⟩
  obtain ⟨t5, ht5⟩ : ∃ p, p = x.tree.getD 5 0 := ⟨_, rfl⟩
  obtain ⟨m, hm⟩ : ∃ m, m = x.extra.length := ⟨_, rfl⟩
  have HCs : Hid (nnCells x s m c = [.int .u8 (x.many : Nat), .int .u8 (p0 : Nat), .int .u8 (p1 : Nat), .int .u8 (p2 : Nat), .int .u8 (p3 : Nat), .int .u8 (p4 : Nat), .int .u8 (p5 : Nat), .int .u8 (x.ends : Nat), .int .u8 (t0 : Nat), .int .u8 (t1 : Nat), .int .u8 (t2 : Nat), .int .u8 (t3 : Nat), .int .u8 (t4 : Nat), .int .u8 (t5 : Nat), .slice s m c, .int .u8 (x.rate : Nat), .int .u8 (x.room : Nat), .int .u8 (x.k0 : Nat), .int .u8 (x.k1 : Nat)]) := Lib.hid (by unfold nnCells; rw [hp0, hp1, hp2, hp3, hp4, hp5, ht0, ht1, ht2, ht3, ht4, ht5])
  unfold nnV at hOf ⊢
  rw [← hm, HCs.out] at hOf
  rw [← hm, HCs.out]
  have HOf := Lib.hid hOf
  have HXn := Lib.hid hx
  have HL := Lib.hid lives_any
  clear hOf hx hm hp0 hp1 hp2 hp3 hp4 hp5 ht0 ht1 ht2 ht3 ht4 ht5
  go_enter Tryz.func4, Tryz.ntmps4
  go_upto_region 1 with (fail)
  obtain ⟨W0, hW0⟩ : ∃ W0, W0 = w.alloc (.cells #[.int .u8 (x.many : Nat), .int .u8 (p0 : Nat), .int .u8 (p1 : Nat), .int .u8 (p2 : Nat), .int .u8 (p3 : Nat), .int .u8 (p4 : Nat), .int .u8 (p5 : Nat), .int .u8 (x.ends : Nat), .int .u8 (t0 : Nat), .int .u8 (t1 : Nat), .int .u8 (t2 : Nat), .int .u8 (t3 : Nat), .int .u8 (t4 : Nat), .int .u8 (t5 : Nat), .slice s m c, .int .u8 (x.rate : Nat), .int .u8 (x.room : Nat), .int .u8 (x.k0 : Nat), .int .u8 (x.k1 : Nat)] 26) := ⟨_, rfl⟩
  have hB0 : Below w.heap.size w W0 := by rw [hW0]; exact below_alloc w _
  have ho0 : Own W0 w.heap.size 26 [.int .u8 (x.many : Nat), .int .u8 (p0 : Nat), .int .u8 (p1 : Nat), .int .u8 (p2 : Nat), .int .u8 (p3 : Nat), .int .u8 (p4 : Nat), .int .u8 (p5 : Nat), .int .u8 (x.ends : Nat), .int .u8 (t0 : Nat), .int .u8 (t1 : Nat), .int .u8 (t2 : Nat), .int .u8 (t3 : Nat), .int .u8 (t4 : Nat), .int .u8 (t5 : Nat), .slice s m c, .int .u8 (x.rate : Nat), .int .u8 (x.room : Nat), .int .u8 (x.k0 : Nat), .int .u8 (x.k1 : Nat)] := by rw [hW0]; exact heap_alloc_new w _
  rw [← hW0]
  have HRa := Lib.hid (range_own ho0)
  have HB0 := Lib.hid hB0
  clear hW0 ho0 hB0
  iterate 2 go_step
  refine wp_load_mid 26 (.tmp 3) (by rfl) w.heap.size 0 (by rfl) [.int .u8 (x.many : Nat), .int .u8 (p0 : Nat), .int .u8 (p1 : Nat), .int .u8 (p2 : Nat), .int .u8 (p3 : Nat), .int .u8 (p4 : Nat), .int .u8 (p5 : Nat), .int .u8 (x.ends : Nat), .int .u8 (t0 : Nat), .int .u8 (t1 : Nat), .int .u8 (t2 : Nat), .int .u8 (t3 : Nat), .int .u8 (t4 : Nat), .int .u8 (t5 : Nat), .slice s m c, .int .u8 (x.rate : Nat), .int .u8 (x.room : Nat), .int .u8 (x.k0 : Nat), .int .u8 (x.k1 : Nat)] _ HRa.out Tryz.underlying26 (by rfl) (by kernel_rfl) ?_
  go_wp2_with fail
  refine (HOf.out _ (HXn.out.later HB0.out)).mono ?_
  rintro e w1 ⟨p, aP, n, cP, aL, m2, cL, hPF, rfl, hP, hL, hb⟩
  have hb0 : Below w.heap.size w w1 := HB0.out.trans (hb.mono HB0.out.size)
  obtain ⟨b, hbz⟩ : ∃ b, b = w1.heap.size := ⟨_, rfl⟩
  have hn2 := hPF.n2
  have hn6 := hPF.n6
  have hcap := hP.le
  have hcap2 := hP.max
  have hcap3 := hL.le
  have hcap4 := hL.max
  unfold maxLen at hcap2 hcap4
  have HPF := Lib.hid hPF
  clear HOf
  have hfine := valid_fine hP hL hPF.valid
  have hTx := ltext_any p aP n cP aL m2 cL w1 hP hL hPF.valid (HFl.out.later hb0)
  unfold TxOut at hTx
  unfold planV at hTx
  obtain ⟨Ls, hLs⟩ : ∃ Ls, Ls = linesP p := ⟨_, rfl⟩
  have hN := linesP_len p
  have hHd := headL_len p
  have hnn : Ls ≠ [] := by rw [hLs]; intro h; rw [h] at hN; simp at hN
  have hshort := short_text (p := p) (by have := hPF.len; have := hPF.n6; omega) (by have := hPF.llen; have := hPF.m11; omega)
  have hnds : nds (unn Ls) = Ls := nds_unn Ls hnn (by rw [hLs]; exact lines_noN hfine)
  have htx : partText p 4 = unn Ls ++ [10] := by rw [text_nl, unn_nl Ls hnn, hLs]
  rw [← hLs] at hN hshort
  have hul : (unn Ls).length ≤ 2000 := by rw [← unn_nl Ls hnn] at hshort; simp only [List.length_append] at hshort; omega
  rw [htx] at hTx
  have hTr := fun (X : World) => trim_any (unn Ls) X (by omega)
  have hSp := fun (X : World) => linesN_any (unn Ls) X (by omega)
  rw [hnds] at hSp
  obtain ⟨N, hNN⟩ : ∃ N, N = Ls.length := ⟨_, rfl⟩
  rw [← hNN] at hSp hN
  obtain ⟨T1, hT1⟩ : ∃ T, T = bs (unn Ls ++ [10]) := ⟨_, rfl⟩
  obtain ⟨T2, hT2⟩ : ∃ T, T = bs (unn Ls) := ⟨_, rfl⟩
  rw [← hT1] at hTx hTr
  rw [← hT2] at hTr hSp
  have HTx := Lib.hid hTx
  have HTr := Lib.hid hTr
  have HSp := Lib.hid hSp
  have HFi := Lib.hid (And.intro hfine hPF.valid)
  have HLs := Lib.hid (And.intro hLs hNN)
  have HSh := Lib.hid hshort
  have hN5 : 5 ≤ N := by have := hPF.n2; have := hPF.len; omega
  have hN20 : N ≤ 20 := by have := hPF.n6; have := hPF.len; have := hPF.llen; have := hPF.m11; omega
  have HNl := Lib.hid (show N = p.P.length + p.L.length + 3 by omega)
  have HLp := Lib.hid (show 0 < p.L.length by rw [hPF.eq]; exact lines_pos x)
  have HB1 := Lib.hid hb0
  clear hTx hTr hSp hfine hP hL hb hb0 hcap hcap2 hcap3 hcap4 hN hHd hnn hshort hnds htx hul hT1 hT2 hLs hNN hbz b
  go_wp2_with fail
  with_reducible refine HTx.out.mono ?_
  rintro e w2 ⟨rfl, hb⟩
  have HB2 := Lib.hid (HB1.out.trans (hb.mono HB1.out.size))
  clear hb HTx
  go_wp2_with fail
  with_reducible refine (HTr.out w2).mono ?_
  rintro e w3 ⟨rfl, rfl⟩
  go_wp2_with fail
  with_reducible refine (HSp.out w3).mono ?_
  rintro e w4 ⟨rfl, hw4⟩
  have hb4 : Below w3.heap.size w3 w4 := by rw [hw4]; exact below_alloc _ _
  have ho4 : Own w4 w3.heap.size 9 (strC Ls) := by rw [hw4]; exact heap_alloc_new _ _
  obtain ⟨b0, hb0⟩ : ∃ b, b = w3.heap.size := ⟨_, rfl⟩
  rw [← hb0] at ho4 ⊢
  have HB4 := Lib.hid (HB2.out.trans (hb4.mono HB2.out.size))
  have HW0 := Lib.hid (show w.heap.size ≤ b0 by rw [hb0]; exact HB2.out.size)
  have HO4 := Lib.hid ho4
  obtain ⟨i, hi⟩ : ∃ i, i = v.toNat % N := ⟨_, rfl⟩
  have hrem : v.tmod (N : Int) = (i : Int) := by
    rw [Int.tmod_eq_emod_of_nonneg hv0, hi, Int.natCast_emod, Int.toNat_of_nonneg hv0]
  have hiN : i < N := by rw [hi]; exact Nat.mod_lt _ (by omega)
  have hN0 : ((N : Int) == 0) = false := by simp; omega
  clear hw4 hb4 ho4 hb0 hi HTr HSp
  go_upto_region 4 with (fail)
  obtain ⟨W5, hW5⟩ : ∃ X, X = w4.alloc (.cells #[.int .i64 4, .int .i64 ((i : Int) + 1)] 37) := ⟨_, rfl⟩
  have hb5 : Below w4.heap.size w4 W5 := by rw [hW5]; exact below_alloc _ _
  have hf5 : Own W5 w4.heap.size 37 [.int .i64 4, .int .i64 ((i : Int) + 1)] := by rw [hW5]; exact heap_alloc_new _ _
  have ho5 := HO4.out.below hb5 HO4.out.lt
  obtain ⟨wb, hwb⟩ : ∃ b, b = w4.heap.size := ⟨_, rfl⟩
  rw [← hW5, ← hwb]
  rw [← hwb] at hf5
  have hne : b0 ≠ wb := by have := HO4.out.lt; omega
  have HS := Lib.hid (show FS w b0 wb Ls 4 ((i : Int) + 1) W5 from ⟨HB4.out.trans (hb5.mono HB4.out.size), ho5, hf5, hne, HW0.out, by have := HB4.out.size; omega⟩)
  clear hW5 hb5 hf5 ho5 hwb HO4 hne HW0 HB4 HB2 HB1
  have hqN : N - 1 < N := by omega
  obtain ⟨hc0, hz0⟩ := HS.out.elem (N - 1) (by rw [← HLs.out.2]; exact hqN)
  go_upto_region 31 with (fail)
  obtain ⟨W6, hW6⟩ : ∃ X, X = W5.setCell ⟨b0, N - 1, none⟩ (.string ⟨#[109, 97, 114, 107, 115, 32, 51, 32, 50, 32, 49]⟩) := ⟨_, rfl⟩
  have hHS6 : FS w b0 wb (Ls.set (N - 1) marks3) 4 ((i : Int) + 1) W6 := by rw [hW6]; exact (HS.out.line (N - 1) marks3)
  have hgoal := hW6
  rw [← hW6]
  have HS6 := Lib.hid hHS6
  clear hW6 hHS6 hgoal
  obtain ⟨hc1, hc2, hz1, hz2⟩ := HS6.out.cells
  clear hc0 hz0 HS
  go_upto_region 41 with (fail)
  obtain ⟨W7, hW7⟩ : ∃ X, X = (W6.setCell ⟨wb, 0, none⟩ (.int .i64 1)).setCell ⟨wb, 1, none⟩ (.int .i64 0) := ⟨_, rfl⟩
  have hHS7 : FS w b0 wb (Ls.set (N - 1) marks3) 1 0 W7 := by rw [hW7]; exact ((HS6.out.err 1).num 0)
  have hgoal := hW7
  rw [← hW7]
  have HS7 := Lib.hid hHS7
  clear hW7 hHS7 hgoal
  clear hc1 hc2 hz1 hz2 HS6 hqN
  have hlen : (Ls.set (N - 1) marks3).length = N := by rw [List.length_set, HLs.out.2]
  have hnl : (nlT (Ls.set (N - 1) marks3)).length ≤ 3000 := Nat.le_trans (nlT_set _ _ _) (by have := HSh.out; have : marks3.length ≤ 20 := (by decide); omega)
  have hres : ResF (nlT (Ls.set (N - 1) marks3)) 1 0 := by rw [HLs.out.2, HLs.out.1]; exact res7 HFi.out.1 HFi.out.2
  have hkk : ((0 : Nat) : Int) = 0 := by omega
  have hJ0 := fun (Lf : List (List UInt8)) (e : Lf = Ls.set (N - 1) marks3) (h3 : (Lib.join Lf [10]).length ≤ 1048576) => joinB_any b0 N N (strC Lf) Lf 10 W7 HS7.out.row.lt rfl (by rw [e]; exact hlen) (Nat.le_refl _) (fun i hi => by rw [e]; exact HS7.out.row.cell i (by rw [strC_length, hlen]; exact hi)) (by omega) h3
  have HSf := Lib.hid HS7.out.fw
  clear HS7
  obtain ⟨Lf, hLf⟩ : ∃ l, l = Ls.set (N - 1) marks3 := ⟨_, rfl⟩
  rw [← hLf] at hlen hnl hres
  have hLf0 : Lf ≠ [] := by intro h; rw [h] at hlen; simp at hlen; omega
  have hun := unn_nl Lf hLf0
  have hul : (unn Lf).length ≤ 5000 := by have := congrArg List.length hun; rw [List.length_append] at this; omega
  have hJ := hJ0 Lf hLf (by rw [join_unn]; omega)
  rw [join_unn] at hJ
  obtain ⟨S1, hS1⟩ : ∃ S, S = bs (unn Lf) := ⟨_, rfl⟩
  have hS1z : S1.size = (unn Lf).length := by rw [hS1, bs_len]
  rw [← hS1] at hJ
  obtain ⟨S2, eS2, zS2, bS2, oS2⟩ := cat_str S1 ⟨#[10]⟩ (by rw [hS1z]; show _ + 1 ≤ _; omega)
  have hS2 : S2 = bs (nlT Lf) := by rw [← hun, eS2, hS1]; exact bs_of (by simp [bs])
  have hRd := fun (X : World) => read_resK hres (by omega) hkk hS2 X
  have HJ := Lib.hid hJ
  have HRd := Lib.hid hRd
  have HZs := Lib.hid (And.intro hS1z hul)
  clear hJ0 hLf hlen hnl hres hkk hLf0 hun hul hJ hS1 hS1z hS2 eS2 zS2 hRd 
  go_wp2_with fail
  with_reducible refine HJ.out.mono ?_
  rintro e w8 ⟨rfl, hb⟩
  have HS8 := Lib.hid (HSf.out.later hb)
  clear hb HJ HSf
  go_wp2_with fail
  with_reducible refine (HRd.out w8).mono ?_
  rintro e w9 ⟨rfl, hb⟩
  have HS9 := Lib.hid (HS8.out.later hb)
  clear hb HRd HS8
  go_upto_region 45 with (fail)
  obtain ⟨W9, hW9⟩ : ∃ X, X = (w9.alloc (.cells #[.slice none 0 0, .slice none 0 0, .int .i64 0, .int .i64 0, .int .i64 0, .int .i64 0, .int .i64 0] 31)).alloc (.cells #[.int .i64 1, .int .i64 0] 37) := ⟨_, rfl⟩
  have x4 := below_alloc w9 (.cells #[.slice none 0 0, .slice none 0 0, .int .i64 0, .int .i64 0, .int .i64 0, .int .i64 0, .int .i64 0] 31)
  have o4 : Own (w9.alloc (.cells #[.slice none 0 0, .slice none 0 0, .int .i64 0, .int .i64 0, .int .i64 0, .int .i64 0, .int .i64 0] 31)) w9.heap.size 31 [.slice none 0 0, .slice none 0 0, .int .i64 0, .int .i64 0, .int .i64 0, .int .i64 0, .int .i64 0] := heap_alloc_new w9 _
  have s4 := World.size_alloc w9 (.cells #[.slice none 0 0, .slice none 0 0, .int .i64 0, .int .i64 0, .int .i64 0, .int .i64 0, .int .i64 0] 31)
  have x5 : Below (w9.alloc (.cells #[.slice none 0 0, .slice none 0 0, .int .i64 0, .int .i64 0, .int .i64 0, .int .i64 0, .int .i64 0] 31)).heap.size (w9.alloc (.cells #[.slice none 0 0, .slice none 0 0, .int .i64 0, .int .i64 0, .int .i64 0, .int .i64 0, .int .i64 0] 31)) W9 := by rw [hW9]; exact below_alloc _ _
  have o5 : Own W9 (w9.heap.size + 1) 37 [.int .i64 1, .int .i64 0] := by rw [hW9]; rw [← s4]; exact heap_alloc_new _ _
  have oq : Own W9 w9.heap.size 31 _ := o4.below x5 o4.lt
  have x6 : Below w9.heap.size w9 W9 := x4.trans (x5.mono x4.size)
  obtain ⟨qb9, hqb⟩ : ∃ x, x = w9.heap.size := ⟨_, rfl⟩
  obtain ⟨fb9, hfb⟩ : ∃ x, x = w9.heap.size + 1 := ⟨_, rfl⟩
  rw [← hW9, ← hfb, ← hqb]
  rw [← hfb] at o5
  rw [← hqb] at oq
  have HS10 := Lib.hid (HS9.out.later x6)
  obtain ⟨e0, e1, e2, e3, e4, e5, e6⟩ : _ ∧ _ ∧ _ ∧ _ ∧ _ ∧ _ ∧ _ := ⟨oq.cell 0 (by simp), oq.cell 1 (by simp), oq.cell 2 (by simp), oq.cell 3 (by simp), oq.cell 4 (by simp), oq.cell 5 (by simp), oq.cell 6 (by simp)⟩
  obtain ⟨f0, f1⟩ : _ ∧ _ := ⟨o5.cell 0 (by simp), o5.cell 1 (by simp)⟩
  simp only [List.getD_cons_zero, List.getD_cons_succ] at e0 e1 e2 e3 e4 e5 e6 f0 f1
  obtain ⟨hc1, hc2, hz1, hz2⟩ := HS10.out.cells
  have hE9 := same_yes emptyPn none 0 0 none 0 0 none 0 none 0 W9 (PRow.of_nil W9) (LRow.of_nil W9) (PRow.of_nil W9) (LRow.of_nil W9)
  unfold planV emptyPn at hE9
  have HE9 := Lib.hid hE9
  have heq : ∀ X, (binOp .eql 37 (.agg #[.int .i64 1, .int .i64 0]) (.agg #[.int .i64 1, .int .i64 0])).run Tryz.prog X = .ok (.bool true) X := fun X => by rw [eqlFt]; simp
  clear hW9 x4 o4 s4 x5 o5 oq x6 hqb hfb hE9 HS9 hz1 hz2
  go_wp2_with fail
  with_reducible refine HE9.out.mono ?_
  rintro e w10 ⟨rfl, hb⟩
  have HS11 := Lib.hid (HS10.out.later hb)
  clear hb e0 e1 e2 e3 e4 e5 e6 f0 f1 hc1 hc2
  go_wp2_with fail
  with_reducible refine (HL.out w10).mono ?_
  rintro e w11 ⟨rfl, hb⟩
  have HS12 := Lib.hid (HS11.out.later hb)
  clear hb
  go_wp2
  go_ret
  exact ⟨rfl, HS12.out.bel⟩
end Go.Proofs.YthlckipcgogogaaGreatDoor
/- The walk of PlansFaults, case 8. -/
namespace Go.Proofs.YthlckipcgogogaaGreatDoor
set_option linter.unusedVariables false
open Go.RowKit

set_option maxRecDepth 100000 in
set_option maxHeartbeats 4000000 in
theorem faults_walk8 (x : Nn) (s : Option Addr) (c : Nat) (u v : Int) (w : World) (hx : NnAt w x s c) (hflag : PowOk w) (hv0 : 0 ≤ v) (hv1 : v ≤ 255) (hu : u.tmod 12 = 8) : Calls Tryz.prog 4 #[nnV x s c, .int .u8 u, .int .u8 v] w fun e w' => e = .returned (.bool true) ∧ Below w.heap.size w w' := by
  have HFl := Lib.hid hflag
  clear hflag
  have hOf := fun (W : World) (h : NnAt W x s c) => of_any x s c W h
  obtain ⟨p0, hp0⟩ : ∃ p, p = x.codes.getD 0 0 := ⟨_, rfl⟩
  obtain ⟨p1, hp1⟩ : ∃ p, p = x.codes.getD 1 0 := ⟨_, rfl⟩
  obtain ⟨p2, hp2⟩ : ∃ p, p = x.codes.getD 2 0 := ⟨_, rfl⟩
  obtain ⟨p3, hp3⟩ : ∃ p, p = x.codes.getD 3 0 := ⟨_, rfl⟩
  obtain ⟨p4, hp4⟩ : ∃ p, p = x.codes.getD 4 0 := ⟨_, rfl⟩
  obtain ⟨p5, hp5⟩ : ∃ p, p = x.codes.getD 5 0 := ⟨_, rfl⟩
  obtain ⟨t0, ht0⟩ : ∃ p, p = x.tree.getD 0 0 := ⟨_, rfl⟩
  obtain ⟨t1, ht1⟩ : ∃ p, p = x.tree.getD 1 0 := ⟨_, rfl⟩
  obtain ⟨t2, ht2⟩ : ∃ p, p = x.tree.getD 2 0 := ⟨_, rfl⟩
  obtain ⟨t3, ht3⟩ : ∃ p, p = x.tree.getD 3 0 := ⟨_, rfl⟩
  obtain ⟨t4, ht4⟩ : ∃ p, p = x.tree.getD 4 0 := ⟨_, rfl⟩
  obtain ⟨t5, ht5⟩ : ∃ p, p = x.tree.getD 5 0 := ⟨_, rfl⟩
  obtain ⟨m, hm⟩ : ∃ m, m = x.extra.length := ⟨_, rfl⟩
  have HCs : Hid (nnCells x s m c = [.int .u8 (x.many : Nat), .int .u8 (p0 : Nat), .int .u8 (p1 : Nat), .int .u8 (p2 : Nat), .int .u8 (p3 : Nat), .int .u8 (p4 : Nat), .int .u8 (p5 : Nat), .int .u8 (x.ends : Nat), .int .u8 (t0 : Nat), .int .u8 (t1 : Nat), .int .u8 (t2 : Nat), .int .u8 (t3 : Nat), .int .u8 (t4 : Nat), .int .u8 (t5 : Nat), .slice s m c, .int .u8 (x.rate : Nat), .int .u8 (x.room : Nat), .int .u8 (x.k0 : Nat), .int .u8 (x.k1 : Nat)]) := Lib.hid (by unfold nnCells; rw [hp0, hp1, hp2, hp3, hp4, hp5, ht0, ht1, ht2, ht3, ht4, ht5])
  unfold nnV at hOf ⊢
  rw [← hm, HCs.out] at hOf
  rw [← hm, HCs.out]
  have HOf := Lib.hid hOf
  have HXn := Lib.hid hx
  have HL := Lib.hid lives_any
  clear hOf hx hm hp0 hp1 hp2 hp3 hp4 hp5 ht0 ht1 ht2 ht3 ht4 ht5
  go_enter Tryz.func4, Tryz.ntmps4
  go_upto_region 1 with (fail)
  obtain ⟨W0, hW0⟩ : ∃ W0, W0 = w.alloc (.cells #[.int .u8 (x.many : Nat), .int .u8 (p0 : Nat), .int .u8 (p1 : Nat), .int .u8 (p2 : Nat), .int .u8 (p3 : Nat), .int .u8 (p4 : Nat), .int .u8 (p5 : Nat), .int .u8 (x.ends : Nat), .int .u8 (t0 : Nat), .int .u8 (t1 : Nat), .int .u8 (t2 : Nat), .int .u8 (t3 : Nat), .int .u8 (t4 : Nat), .int .u8 (t5 : Nat), .slice s m c, .int .u8 (x.rate : Nat), .int .u8 (x.room : Nat), .int .u8 (x.k0 : Nat), .int .u8 (x.k1 : Nat)] 26) := ⟨_, rfl⟩
  have hB0 : Below w.heap.size w W0 := by rw [hW0]; exact below_alloc w _
  have ho0 : Own W0 w.heap.size 26 [.int .u8 (x.many : Nat), .int .u8 (p0 : Nat), .int .u8 (p1 : Nat), .int .u8 (p2 : Nat), .int .u8 (p3 : Nat), .int .u8 (p4 : Nat), .int .u8 (p5 : Nat), .int .u8 (x.ends : Nat), .int .u8 (t0 : Nat), .int .u8 (t1 : Nat), .int .u8 (t2 : Nat), .int .u8 (t3 : Nat), .int .u8 (t4 : Nat), .int .u8 (t5 : Nat), .slice s m c, .int .u8 (x.rate : Nat), .int .u8 (x.room : Nat), .int .u8 (x.k0 : Nat), .int .u8 (x.k1 : Nat)] := by rw [hW0]; exact heap_alloc_new w _
  rw [← hW0]
  have HRa := Lib.hid (range_own ho0)
  have HB0 := Lib.hid hB0
  clear hW0 ho0 hB0
  iterate 2 go_step
  refine wp_load_mid 26 (.tmp 3) (by rfl) w.heap.size 0 (by rfl) [.int .u8 (x.many : Nat), .int .u8 (p0 : Nat), .int .u8 (p1 : Nat), .int .u8 (p2 : Nat), .int .u8 (p3 : Nat), .int .u8 (p4 : Nat), .int .u8 (p5 : Nat), .int .u8 (x.ends : Nat), .int .u8 (t0 : Nat), .int .u8 (t1 : Nat), .int .u8 (t2 : Nat), .int .u8 (t3 : Nat), .int .u8 (t4 : Nat), .int .u8 (t5 : Nat), .slice s m c, .int .u8 (x.rate : Nat), .int .u8 (x.room : Nat), .int .u8 (x.k0 : Nat), .int .u8 (x.k1 : Nat)] _ HRa.out Tryz.underlying26 (by rfl) (by kernel_rfl) ?_
  go_wp2_with fail
  refine (HOf.out _ (HXn.out.later HB0.out)).mono ?_
  rintro e w1 ⟨p, aP, n, cP, aL, m2, cL, hPF, rfl, hP, hL, hb⟩
  have hb0 : Below w.heap.size w w1 := HB0.out.trans (hb.mono HB0.out.size)
  obtain ⟨b, hbz⟩ : ∃ b, b = w1.heap.size := ⟨_, rfl⟩
  have hn2 := hPF.n2
  have hn6 := hPF.n6
  have hcap := hP.le
  have hcap2 := hP.max
  have hcap3 := hL.le
  have hcap4 := hL.max
  unfold maxLen at hcap2 hcap4
  have HPF := Lib.hid hPF
  clear HOf
  have hfine := valid_fine hP hL hPF.valid
  have hTx := ltext_any p aP n cP aL m2 cL w1 hP hL hPF.valid (HFl.out.later hb0)
  unfold TxOut at hTx
  unfold planV at hTx
  obtain ⟨Ls, hLs⟩ : ∃ Ls, Ls = linesP p := ⟨_, rfl⟩
  have hN := linesP_len p
  have hHd := headL_len p
  have hnn : Ls ≠ [] := by rw [hLs]; intro h; rw [h] at hN; simp at hN
  have hshort := short_text (p := p) (by have := hPF.len; have := hPF.n6; omega) (by have := hPF.llen; have := hPF.m11; omega)
  have hnds : nds (unn Ls) = Ls := nds_unn Ls hnn (by rw [hLs]; exact lines_noN hfine)
  have htx : partText p 4 = unn Ls ++ [10] := by rw [text_nl, unn_nl Ls hnn, hLs]
  rw [← hLs] at hN hshort
  have hul : (unn Ls).length ≤ 2000 := by rw [← unn_nl Ls hnn] at hshort; simp only [List.length_append] at hshort; omega
  rw [htx] at hTx
  have hTr := fun (X : World) => trim_any (unn Ls) X (by omega)
  have hSp := fun (X : World) => linesN_any (unn Ls) X (by omega)
  rw [hnds] at hSp
  obtain ⟨N, hNN⟩ : ∃ N, N = Ls.length := ⟨_, rfl⟩
  rw [← hNN] at hSp hN
  obtain ⟨T1, hT1⟩ : ∃ T, T = bs (unn Ls ++ [10]) := ⟨_, rfl⟩
  obtain ⟨T2, hT2⟩ : ∃ T, T = bs (unn Ls) := ⟨_, rfl⟩
  rw [← hT1] at hTx hTr
  rw [← hT2] at hTr hSp
  have HTx := Lib.hid hTx
  have HTr := Lib.hid hTr
  have HSp := Lib.hid hSp
  have HFi := Lib.hid (And.intro hfine hPF.valid)
  have HLs := Lib.hid (And.intro hLs hNN)
  have HSh := Lib.hid hshort
  have hN5 : 5 ≤ N := by have := hPF.n2; have := hPF.len; omega
  have hN20 : N ≤ 20 := by have := hPF.n6; have := hPF.len; have := hPF.llen; have := hPF.m11; omega
  have HNl := Lib.hid (show N = p.P.length + p.L.length + 3 by omega)
  have HLp := Lib.hid (show 0 < p.L.length by rw [hPF.eq]; exact lines_pos x)
  have HB1 := Lib.hid hb0
  clear hTx hTr hSp hfine hP hL hb hb0 hcap hcap2 hcap3 hcap4 hN hHd hnn hshort hnds htx hul hT1 hT2 hLs hNN hbz b
  go_wp2_with fail
  with_reducible refine HTx.out.mono ?_
  rintro e w2 ⟨rfl, hb⟩
  have HB2 := Lib.hid (HB1.out.trans (hb.mono HB1.out.size))
  clear hb HTx
  go_wp2_with fail
  with_reducible refine (HTr.out w2).mono ?_
  rintro e w3 ⟨rfl, rfl⟩
  go_wp2_with fail
  with_reducible refine (HSp.out w3).mono ?_
  rintro e w4 ⟨rfl, hw4⟩
  have hb4 : Below w3.heap.size w3 w4 := by rw [hw4]; exact below_alloc _ _
  have ho4 : Own w4 w3.heap.size 9 (strC Ls) := by rw [hw4]; exact heap_alloc_new _ _
  obtain ⟨b0, hb0⟩ : ∃ b, b = w3.heap.size := ⟨_, rfl⟩
  rw [← hb0] at ho4 ⊢
  have HB4 := Lib.hid (HB2.out.trans (hb4.mono HB2.out.size))
  have HW0 := Lib.hid (show w.heap.size ≤ b0 by rw [hb0]; exact HB2.out.size)
  have HO4 := Lib.hid ho4
  obtain ⟨i, hi⟩ : ∃ i, i = v.toNat % N := ⟨_, rfl⟩
  have hrem : v.tmod (N : Int) = (i : Int) := by
    rw [Int.tmod_eq_emod_of_nonneg hv0, hi, Int.natCast_emod, Int.toNat_of_nonneg hv0]
  have hiN : i < N := by rw [hi]; exact Nat.mod_lt _ (by omega)
  have hN0 : ((N : Int) == 0) = false := by simp; omega
  clear hw4 hb4 ho4 hb0 hi HTr HSp
  go_upto_region 4 with (fail)
  obtain ⟨W5, hW5⟩ : ∃ X, X = w4.alloc (.cells #[.int .i64 4, .int .i64 ((i : Int) + 1)] 37) := ⟨_, rfl⟩
  have hb5 : Below w4.heap.size w4 W5 := by rw [hW5]; exact below_alloc _ _
  have hf5 : Own W5 w4.heap.size 37 [.int .i64 4, .int .i64 ((i : Int) + 1)] := by rw [hW5]; exact heap_alloc_new _ _
  have ho5 := HO4.out.below hb5 HO4.out.lt
  obtain ⟨wb, hwb⟩ : ∃ b, b = w4.heap.size := ⟨_, rfl⟩
  rw [← hW5, ← hwb]
  rw [← hwb] at hf5
  have hne : b0 ≠ wb := by have := HO4.out.lt; omega
  have HS := Lib.hid (show FS w b0 wb Ls 4 ((i : Int) + 1) W5 from ⟨HB4.out.trans (hb5.mono HB4.out.size), ho5, hf5, hne, HW0.out, by have := HB4.out.size; omega⟩)
  clear hW5 hb5 hf5 ho5 hwb HO4 hne HW0 HB4 HB2 HB1
  have hqN : N - 3 < N := by omega
  obtain ⟨hc0, hz0⟩ := HS.out.elem (N - 3) (by rw [← HLs.out.2]; exact hqN)
  go_upto_region 34 with (fail)
  obtain ⟨W6, hW6⟩ : ∃ X, X = W5.setCell ⟨b0, N - 3, none⟩ (.string ⟨#[114, 97, 116, 101, 32, 48]⟩) := ⟨_, rfl⟩
  have hHS6 : FS w b0 wb (Ls.set (N - 3) rate0) 4 ((i : Int) + 1) W6 := by rw [hW6]; exact (HS.out.line (N - 3) rate0)
  have hgoal := hW6
  rw [← hW6]
  have HS6 := Lib.hid hHS6
  clear hW6 hHS6 hgoal
  obtain ⟨hc1, hc2, hz1, hz2⟩ := HS6.out.cells
  clear hc0 hz0 HS
  go_upto_region 41 with (fail)
  obtain ⟨W7, hW7⟩ : ∃ X, X = (W6.setCell ⟨wb, 0, none⟩ (.int .i64 1)).setCell ⟨wb, 1, none⟩ (.int .i64 0) := ⟨_, rfl⟩
  have hHS7 : FS w b0 wb (Ls.set (N - 3) rate0) 1 0 W7 := by rw [hW7]; exact ((HS6.out.err 1).num 0)
  have hgoal := hW7
  rw [← hW7]
  have HS7 := Lib.hid hHS7
  clear hW7 hHS7 hgoal
  clear hc1 hc2 hz1 hz2 HS6 hqN
  have hlen : (Ls.set (N - 3) rate0).length = N := by rw [List.length_set, HLs.out.2]
  have hnl : (nlT (Ls.set (N - 3) rate0)).length ≤ 3000 := Nat.le_trans (nlT_set _ _ _) (by have := HSh.out; have : rate0.length ≤ 20 := (by decide); omega)
  have hres : ResF (nlT (Ls.set (N - 3) rate0)) 1 0 := by rw [HLs.out.2, HLs.out.1]; exact res8 HFi.out.1 HFi.out.2
  have hkk : ((0 : Nat) : Int) = 0 := by omega
  have hJ0 := fun (Lf : List (List UInt8)) (e : Lf = Ls.set (N - 3) rate0) (h3 : (Lib.join Lf [10]).length ≤ 1048576) => joinB_any b0 N N (strC Lf) Lf 10 W7 HS7.out.row.lt rfl (by rw [e]; exact hlen) (Nat.le_refl _) (fun i hi => by rw [e]; exact HS7.out.row.cell i (by rw [strC_length, hlen]; exact hi)) (by omega) h3
  have HSf := Lib.hid HS7.out.fw
  clear HS7
  obtain ⟨Lf, hLf⟩ : ∃ l, l = Ls.set (N - 3) rate0 := ⟨_, rfl⟩
  rw [← hLf] at hlen hnl hres
  have hLf0 : Lf ≠ [] := by intro h; rw [h] at hlen; simp at hlen; omega
  have hun := unn_nl Lf hLf0
  have hul : (unn Lf).length ≤ 5000 := by have := congrArg List.length hun; rw [List.length_append] at this; omega
  have hJ := hJ0 Lf hLf (by rw [join_unn]; omega)
  rw [join_unn] at hJ
  obtain ⟨S1, hS1⟩ : ∃ S, S = bs (unn Lf) := ⟨_, rfl⟩
  have hS1z : S1.size = (unn Lf).length := by rw [hS1, bs_len]
  rw [← hS1] at hJ
  obtain ⟨S2, eS2, zS2, bS2, oS2⟩ := cat_str S1 ⟨#[10]⟩ (by rw [hS1z]; show _ + 1 ≤ _; omega)
  have hS2 : S2 = bs (nlT Lf) := by rw [← hun, eS2, hS1]; exact bs_of (by simp [bs])
  have hRd := fun (X : World) => read_resK hres (by omega) hkk hS2 X
  have HJ := Lib.hid hJ
  have HRd := Lib.hid hRd
  have HZs := Lib.hid (And.intro hS1z hul)
  clear hJ0 hLf hlen hnl hres hkk hLf0 hun hul hJ hS1 hS1z hS2 eS2 zS2 hRd 
  go_wp2_with fail
  with_reducible refine HJ.out.mono ?_
  rintro e w8 ⟨rfl, hb⟩
  have HS8 := Lib.hid (HSf.out.later hb)
  clear hb HJ HSf
  go_wp2_with fail
  with_reducible refine (HRd.out w8).mono ?_
  rintro e w9 ⟨rfl, hb⟩
  have HS9 := Lib.hid (HS8.out.later hb)
  clear hb HRd HS8
  go_upto_region 45 with (fail)
  obtain ⟨W9, hW9⟩ : ∃ X, X = (w9.alloc (.cells #[.slice none 0 0, .slice none 0 0, .int .i64 0, .int .i64 0, .int .i64 0, .int .i64 0, .int .i64 0] 31)).alloc (.cells #[.int .i64 1, .int .i64 0] 37) := ⟨_, rfl⟩
  have x4 := below_alloc w9 (.cells #[.slice none 0 0, .slice none 0 0, .int .i64 0, .int .i64 0, .int .i64 0, .int .i64 0, .int .i64 0] 31)
  have o4 : Own (w9.alloc (.cells #[.slice none 0 0, .slice none 0 0, .int .i64 0, .int .i64 0, .int .i64 0, .int .i64 0, .int .i64 0] 31)) w9.heap.size 31 [.slice none 0 0, .slice none 0 0, .int .i64 0, .int .i64 0, .int .i64 0, .int .i64 0, .int .i64 0] := heap_alloc_new w9 _
  have s4 := World.size_alloc w9 (.cells #[.slice none 0 0, .slice none 0 0, .int .i64 0, .int .i64 0, .int .i64 0, .int .i64 0, .int .i64 0] 31)
  have x5 : Below (w9.alloc (.cells #[.slice none 0 0, .slice none 0 0, .int .i64 0, .int .i64 0, .int .i64 0, .int .i64 0, .int .i64 0] 31)).heap.size (w9.alloc (.cells #[.slice none 0 0, .slice none 0 0, .int .i64 0, .int .i64 0, .int .i64 0, .int .i64 0, .int .i64 0] 31)) W9 := by rw [hW9]; exact below_alloc _ _
  have o5 : Own W9 (w9.heap.size + 1) 37 [.int .i64 1, .int .i64 0] := by rw [hW9]; rw [← s4]; exact heap_alloc_new _ _
  have oq : Own W9 w9.heap.size 31 _ := o4.below x5 o4.lt
  have x6 : Below w9.heap.size w9 W9 := x4.trans (x5.mono x4.size)
  obtain ⟨qb9, hqb⟩ : ∃ x, x = w9.heap.size := ⟨_, rfl⟩
  obtain ⟨fb9, hfb⟩ : ∃ x, x = w9.heap.size + 1 := ⟨_, rfl⟩
  rw [← hW9, ← hfb, ← hqb]
  rw [← hfb] at o5
  rw [← hqb] at oq
  have HS10 := Lib.hid (HS9.out.later x6)
  obtain ⟨e0, e1, e2, e3, e4, e5, e6⟩ : _ ∧ _ ∧ _ ∧ _ ∧ _ ∧ _ ∧ _ := ⟨oq.cell 0 (by simp), oq.cell 1 (by simp), oq.cell 2 (by simp), oq.cell 3 (by simp), oq.cell 4 (by simp), oq.cell 5 (by simp), oq.cell 6 (by simp)⟩
  obtain ⟨f0, f1⟩ : _ ∧ _ := ⟨o5.cell 0 (by simp), o5.cell 1 (by simp)⟩
  simp only [List.getD_cons_zero, List.getD_cons_succ] at e0 e1 e2 e3 e4 e5 e6 f0 f1
  obtain ⟨hc1, hc2, hz1, hz2⟩ := HS10.out.cells
  have hE9 := same_yes emptyPn none 0 0 none 0 0 none 0 none 0 W9 (PRow.of_nil W9) (LRow.of_nil W9) (PRow.of_nil W9) (LRow.of_nil W9)
  unfold planV emptyPn at hE9
  have HE9 := Lib.hid hE9
  have heq : ∀ X, (binOp .eql 37 (.agg #[.int .i64 1, .int .i64 0]) (.agg #[.int .i64 1, .int .i64 0])).run Tryz.prog X = .ok (.bool true) X := fun X => by rw [eqlFt]; simp
  clear hW9 x4 o4 s4 x5 o5 oq x6 hqb hfb hE9 HS9 hz1 hz2
  go_wp2_with fail
  with_reducible refine HE9.out.mono ?_
  rintro e w10 ⟨rfl, hb⟩
  have HS11 := Lib.hid (HS10.out.later hb)
  clear hb e0 e1 e2 e3 e4 e5 e6 f0 f1 hc1 hc2
  go_wp2_with fail
  with_reducible refine (HL.out w10).mono ?_
  rintro e w11 ⟨rfl, hb⟩
  have HS12 := Lib.hid (HS11.out.later hb)
  clear hb
  go_wp2
  go_ret
  exact ⟨rfl, HS12.out.bel⟩
end Go.Proofs.YthlckipcgogogaaGreatDoor
/- The walk of PlansFaults, case 9. -/
namespace Go.Proofs.YthlckipcgogogaaGreatDoor
set_option linter.unusedVariables false
open Go.RowKit

set_option maxRecDepth 100000 in
set_option maxHeartbeats 4000000 in
theorem faults_walk9 (x : Nn) (s : Option Addr) (c : Nat) (u v : Int) (w : World) (hx : NnAt w x s c) (hflag : PowOk w) (hv0 : 0 ≤ v) (hv1 : v ≤ 255) (hu : u.tmod 12 = 9) : Calls Tryz.prog 4 #[nnV x s c, .int .u8 u, .int .u8 v] w fun e w' => e = .returned (.bool true) ∧ Below w.heap.size w w' := by
  have HFl := Lib.hid hflag
  clear hflag
  have hOf := fun (W : World) (h : NnAt W x s c) => of_any x s c W h
  obtain ⟨p0, hp0⟩ : ∃ p, p = x.codes.getD 0 0 := ⟨_, rfl⟩
  obtain ⟨p1, hp1⟩ : ∃ p, p = x.codes.getD 1 0 := ⟨_, rfl⟩
  obtain ⟨p2, hp2⟩ : ∃ p, p = x.codes.getD 2 0 := ⟨_, rfl⟩
  obtain ⟨p3, hp3⟩ : ∃ p, p = x.codes.getD 3 0 := ⟨_, rfl⟩
  obtain ⟨p4, hp4⟩ : ∃ p, p = x.codes.getD 4 0 := ⟨_, rfl⟩
  obtain ⟨p5, hp5⟩ : ∃ p, p = x.codes.getD 5 0 := ⟨_, rfl⟩
  obtain ⟨t0, ht0⟩ : ∃ p, p = x.tree.getD 0 0 := ⟨_, rfl⟩
  obtain ⟨t1, ht1⟩ : ∃ p, p = x.tree.getD 1 0 := ⟨_, rfl⟩
  obtain ⟨t2, ht2⟩ : ∃ p, p = x.tree.getD 2 0 := ⟨_, rfl⟩
  obtain ⟨t3, ht3⟩ : ∃ p, p = x.tree.getD 3 0 := ⟨_, rfl⟩
  obtain ⟨t4, ht4⟩ : ∃ p, p = x.tree.getD 4 0 := ⟨_, rfl⟩
  obtain ⟨t5, ht5⟩ : ∃ p, p = x.tree.getD 5 0 := ⟨_, rfl⟩
  obtain ⟨m, hm⟩ : ∃ m, m = x.extra.length := ⟨_, rfl⟩
  have HCs : Hid (nnCells x s m c = [.int .u8 (x.many : Nat), .int .u8 (p0 : Nat), .int .u8 (p1 : Nat), .int .u8 (p2 : Nat), .int .u8 (p3 : Nat), .int .u8 (p4 : Nat), .int .u8 (p5 : Nat), .int .u8 (x.ends : Nat), .int .u8 (t0 : Nat), .int .u8 (t1 : Nat), .int .u8 (t2 : Nat), .int .u8 (t3 : Nat), .int .u8 (t4 : Nat), .int .u8 (t5 : Nat), .slice s m c, .int .u8 (x.rate : Nat), .int .u8 (x.room : Nat), .int .u8 (x.k0 : Nat), .int .u8 (x.k1 : Nat)]) := Lib.hid (by unfold nnCells; rw [hp0, hp1, hp2, hp3, hp4, hp5, ht0, ht1, ht2, ht3, ht4, ht5])
  unfold nnV at hOf ⊢
  rw [← hm, HCs.out] at hOf
  rw [← hm, HCs.out]
  have HOf := Lib.hid hOf
  have HXn := Lib.hid hx
  have HL := Lib.hid lives_any
  clear hOf hx hm hp0 hp1 hp2 hp3 hp4 hp5 ht0 ht1 ht2 ht3 ht4 ht5
  go_enter Tryz.func4, Tryz.ntmps4
  go_upto_region 1 with (fail)
  obtain ⟨W0, hW0⟩ : ∃ W0, W0 = w.alloc (.cells #[.int .u8 (x.many : Nat), .int .u8 (p0 : Nat), .int .u8 (p1 : Nat), .int .u8 (p2 : Nat), .int .u8 (p3 : Nat), .int .u8 (p4 : Nat), .int .u8 (p5 : Nat), .int .u8 (x.ends : Nat), .int .u8 (t0 : Nat), .int .u8 (t1 : Nat), .int .u8 (t2 : Nat), .int .u8 (t3 : Nat), .int .u8 (t4 : Nat), .int .u8 (t5 : Nat), .slice s m c, .int .u8 (x.rate : Nat), .int .u8 (x.room : Nat), .int .u8 (x.k0 : Nat), .int .u8 (x.k1 : Nat)] 26) := ⟨_, rfl⟩
  have hB0 : Below w.heap.size w W0 := by rw [hW0]; exact below_alloc w _
  have ho0 : Own W0 w.heap.size 26 [.int .u8 (x.many : Nat), .int .u8 (p0 : Nat), .int .u8 (p1 : Nat), .int .u8 (p2 : Nat), .int .u8 (p3 : Nat), .int .u8 (p4 : Nat), .int .u8 (p5 : Nat), .int .u8 (x.ends : Nat), .int .u8 (t0 : Nat), .int .u8 (t1 : Nat), .int .u8 (t2 : Nat), .int .u8 (t3 : Nat), .int .u8 (t4 : Nat), .int .u8 (t5 : Nat), .slice s m c, .int .u8 (x.rate : Nat), .int .u8 (x.room : Nat), .int .u8 (x.k0 : Nat), .int .u8 (x.k1 : Nat)] := by rw [hW0]; exact heap_alloc_new w _
  rw [← hW0]
  have HRa := Lib.hid (range_own ho0)
  have HB0 := Lib.hid hB0
  clear hW0 ho0 hB0
  iterate 2 go_step
  refine wp_load_mid 26 (.tmp 3) (by rfl) w.heap.size 0 (by rfl) [.int .u8 (x.many : Nat), .int .u8 (p0 : Nat), .int .u8 (p1 : Nat), .int .u8 (p2 : Nat), .int .u8 (p3 : Nat), .int .u8 (p4 : Nat), .int .u8 (p5 : Nat), .int .u8 (x.ends : Nat), .int .u8 (t0 : Nat), .int .u8 (t1 : Nat), .int .u8 (t2 : Nat), .int .u8 (t3 : Nat), .int .u8 (t4 : Nat), .int .u8 (t5 : Nat), .slice s m c, .int .u8 (x.rate : Nat), .int .u8 (x.room : Nat), .int .u8 (x.k0 : Nat), .int .u8 (x.k1 : Nat)] _ HRa.out Tryz.underlying26 (by rfl) (by kernel_rfl) ?_
  go_wp2_with fail
  refine (HOf.out _ (HXn.out.later HB0.out)).mono ?_
  rintro e w1 ⟨p, aP, n, cP, aL, m2, cL, hPF, rfl, hP, hL, hb⟩
  have hb0 : Below w.heap.size w w1 := HB0.out.trans (hb.mono HB0.out.size)
  obtain ⟨b, hbz⟩ : ∃ b, b = w1.heap.size := ⟨_, rfl⟩
  have hn2 := hPF.n2
  have hn6 := hPF.n6
  have hcap := hP.le
  have hcap2 := hP.max
  have hcap3 := hL.le
  have hcap4 := hL.max
  unfold maxLen at hcap2 hcap4
  have HPF := Lib.hid hPF
  clear HOf
  have hfine := valid_fine hP hL hPF.valid
  have hTx := ltext_any p aP n cP aL m2 cL w1 hP hL hPF.valid (HFl.out.later hb0)
  unfold TxOut at hTx
  unfold planV at hTx
  obtain ⟨Ls, hLs⟩ : ∃ Ls, Ls = linesP p := ⟨_, rfl⟩
  have hN := linesP_len p
  have hHd := headL_len p
  have hnn : Ls ≠ [] := by rw [hLs]; intro h; rw [h] at hN; simp at hN
  have hshort := short_text (p := p) (by have := hPF.len; have := hPF.n6; omega) (by have := hPF.llen; have := hPF.m11; omega)
  have hnds : nds (unn Ls) = Ls := nds_unn Ls hnn (by rw [hLs]; exact lines_noN hfine)
  have htx : partText p 4 = unn Ls ++ [10] := by rw [text_nl, unn_nl Ls hnn, hLs]
  rw [← hLs] at hN hshort
  have hul : (unn Ls).length ≤ 2000 := by rw [← unn_nl Ls hnn] at hshort; simp only [List.length_append] at hshort; omega
  rw [htx] at hTx
  have hTr := fun (X : World) => trim_any (unn Ls) X (by omega)
  have hSp := fun (X : World) => linesN_any (unn Ls) X (by omega)
  rw [hnds] at hSp
  obtain ⟨N, hNN⟩ : ∃ N, N = Ls.length := ⟨_, rfl⟩
  rw [← hNN] at hSp hN
  obtain ⟨T1, hT1⟩ : ∃ T, T = bs (unn Ls ++ [10]) := ⟨_, rfl⟩
  obtain ⟨T2, hT2⟩ : ∃ T, T = bs (unn Ls) := ⟨_, rfl⟩
  rw [← hT1] at hTx hTr
  rw [← hT2] at hTr hSp
  have HTx := Lib.hid hTx
  have HTr := Lib.hid hTr
  have HSp := Lib.hid hSp
  have HFi := Lib.hid (And.intro hfine hPF.valid)
  have HLs := Lib.hid (And.intro hLs hNN)
  have HSh := Lib.hid hshort
  have hN5 : 5 ≤ N := by have := hPF.n2; have := hPF.len; omega
  have hN20 : N ≤ 20 := by have := hPF.n6; have := hPF.len; have := hPF.llen; have := hPF.m11; omega
  have HNl := Lib.hid (show N = p.P.length + p.L.length + 3 by omega)
  have HLp := Lib.hid (show 0 < p.L.length by rw [hPF.eq]; exact lines_pos x)
  have HB1 := Lib.hid hb0
  clear hTx hTr hSp hfine hP hL hb hb0 hcap hcap2 hcap3 hcap4 hN hHd hnn hshort hnds htx hul hT1 hT2 hLs hNN hbz b
  go_wp2_with fail
  with_reducible refine HTx.out.mono ?_
  rintro e w2 ⟨rfl, hb⟩
  have HB2 := Lib.hid (HB1.out.trans (hb.mono HB1.out.size))
  clear hb HTx
  go_wp2_with fail
  with_reducible refine (HTr.out w2).mono ?_
  rintro e w3 ⟨rfl, rfl⟩
  go_wp2_with fail
  with_reducible refine (HSp.out w3).mono ?_
  rintro e w4 ⟨rfl, hw4⟩
  have hb4 : Below w3.heap.size w3 w4 := by rw [hw4]; exact below_alloc _ _
  have ho4 : Own w4 w3.heap.size 9 (strC Ls) := by rw [hw4]; exact heap_alloc_new _ _
  obtain ⟨b0, hb0⟩ : ∃ b, b = w3.heap.size := ⟨_, rfl⟩
  rw [← hb0] at ho4 ⊢
  have HB4 := Lib.hid (HB2.out.trans (hb4.mono HB2.out.size))
  have HW0 := Lib.hid (show w.heap.size ≤ b0 by rw [hb0]; exact HB2.out.size)
  have HO4 := Lib.hid ho4
  obtain ⟨i, hi⟩ : ∃ i, i = v.toNat % N := ⟨_, rfl⟩
  have hrem : v.tmod (N : Int) = (i : Int) := by
    rw [Int.tmod_eq_emod_of_nonneg hv0, hi, Int.natCast_emod, Int.toNat_of_nonneg hv0]
  have hiN : i < N := by rw [hi]; exact Nat.mod_lt _ (by omega)
  have hN0 : ((N : Int) == 0) = false := by simp; omega
  clear hw4 hb4 ho4 hb0 hi HTr HSp
  go_upto_region 4 with (fail)
  obtain ⟨W5, hW5⟩ : ∃ X, X = w4.alloc (.cells #[.int .i64 4, .int .i64 ((i : Int) + 1)] 37) := ⟨_, rfl⟩
  have hb5 : Below w4.heap.size w4 W5 := by rw [hW5]; exact below_alloc _ _
  have hf5 : Own W5 w4.heap.size 37 [.int .i64 4, .int .i64 ((i : Int) + 1)] := by rw [hW5]; exact heap_alloc_new _ _
  have ho5 := HO4.out.below hb5 HO4.out.lt
  obtain ⟨wb, hwb⟩ : ∃ b, b = w4.heap.size := ⟨_, rfl⟩
  rw [← hW5, ← hwb]
  rw [← hwb] at hf5
  have hne : b0 ≠ wb := by have := HO4.out.lt; omega
  have HS := Lib.hid (show FS w b0 wb Ls 4 ((i : Int) + 1) W5 from ⟨HB4.out.trans (hb5.mono HB4.out.size), ho5, hf5, hne, HW0.out, by have := HB4.out.size; omega⟩)
  clear hW5 hb5 hf5 ho5 hwb HO4 hne HW0 HB4 HB2 HB1
  obtain ⟨hc0, hz0⟩ := HS.out.elem (N - 1) (by rw [← HLs.out.2]; omega)
  obtain ⟨T3, hT3⟩ : ∃ T, T = bs (Ls.getD (N - 1) []) := ⟨_, rfl⟩
  rw [← hT3] at hc0
  have hpre := HS.out.pre (N - 2) (by have := HLs.out.2; omega) (by have := HLs.out.2; omega)
  rw [← HLs.out.2] at hpre
  have hbs : w.heap.size ≤ W5.heap.size := HS.out.bel.size
  have b4 := below_alloc W5 (.cells #[.string T3] 9)
  have HWa := Lib.hid (ownsK_below hpre b4)
  have HWb := Lib.hid (ownsK_below hpre b4.drew)
  have HGa := Lib.hid (show Own (W5.alloc (.cells #[.string T3] 9)) W5.heap.size 9 [.string T3] from heap_alloc_new W5 _)
  have HGb := Lib.hid (show Own (W5.alloc (.cells #[.string T3] 9)).drew W5.heap.size 9 [.string T3] from heap_alloc_new W5 _)
  have HSa := Lib.hid (HS.out.later b4)
  have HSb := Lib.hid (HS.out.later b4.drew)
  have hnm : N - 2 + 1 ≤ 1099511627776 := by omega
  have HOne := Lib.hid (show ∀ u ∈ ([.string T3] : List Value), u.oneCell' = true from fun u hu => by simp at hu; subst hu; rfl)
  have HT3 := Lib.hid hT3
  have hN2a : N - 2 ≤ N := by omega
  have hN1a : N - 1 < N := by omega
  have hw2 : IntKind.i64.wrap ((N : Int) - 2) = ((N - 2 : Nat) : Int) := by rw [IntWalk.i64_in _ (by omega)]; omega
  have hw1 : IntKind.i64.wrap ((N : Int) - 1) = ((N - 1 : Nat) : Int) := by rw [IntWalk.i64_in _ (by omega)]; omega
  clear hpre b4 hT3
  go_upto_region 36 with (fail)
  go_region_law
    (first
      | (refine step_append_agg Tryz.underlying46 infoSt rfl (by decide) (by decide) (by rfl) _ _ (by rfl) w.heap.size (.slice (some ⟨b0, 0, none⟩) (N - 2) N) (N - 2) (strC (Ls.take (N - 2))) [.string T3] (by rfl) HOne.out (by rfl) (by first | exact HWa.out | exact HWb.out) W5.heap.size (by rfl) (by first | exact HGa.out | exact HGb.out) hnm (by first | exact HSa.out.bel.size | exact HSb.out.bel.size) ?_; intro v4 w4 h4 g4; have hf4 := (by first | exact HSa.out.grown g4 | exact HSb.out.grown g4 : FW w wb 4 ((i : Int) + 1) w4); have hl4 := (by first | exact (fun j hj e => by rcases g4.lies j hj with h | h; (simp only [Value.ownBlock, Option.some.injEq] at h; have := HSa.out.ne; omega); (have := HSa.out.want.lt; omega)) | exact (fun j hj e => by rcases g4.lies j hj with h | h; (simp only [Value.ownBlock, Option.some.injEq] at h; have := HSb.out.ne; omega); (have := HSb.out.want.lt; omega)) : ∀ j, v4.ownBlock = some j → ¬ j = wb); have HL4 := Lib.hid hl4; have HF4 := Lib.hid hf4; have H4 := Lib.hid h4; obtain ⟨b1, c1, hv1, _⟩ := ownsK_cells h4 (Nat.succ_pos _); subst hv1; clear hl4 hf4 h4 g4)
      | fail)
  all_goals
    obtain ⟨hc1, hc2, hz1, hz2⟩ := HF4.out.cells
    clear hc0 hz0 HS HSa HSb HWa HWb HGa HGb HOne
    go_upto_region 41 with (fail)
    obtain ⟨W7, hW7⟩ : ∃ X, X = w4.setCell ⟨wb, 1, none⟩ (.int .i64 (((N - 2 : Nat) : Int) + 1)) := ⟨_, rfl⟩
    have hx7 : Exc (fun q => q = wb) w4 W7 := by rw [hW7]; exact Exc.setCell (S := fun q => q = wb) (Exc.refl _ w4) ⟨wb, 1, none⟩ (.inl rfl) _
    have hf7 : FW w wb 4 (((N - 2 : Nat) : Int) + 1) W7 := by rw [hW7]; exact HF4.out.num _
    have h1 := ownsK_exc H4.out hx7 HL4.out
    rw [← hW7]
    have HR := Lib.hid h1
    have HSf := Lib.hid hf7
    clear hW7 hx7 hf7 h1 HF4 H4 HL4 hc1 hc2 hz1 hz2
    obtain ⟨M, hM⟩ : ∃ M, M = N - 2 + 1 := ⟨_, rfl⟩
    have hM4 : 4 ≤ M := by omega
    have hM20 : M ≤ 1000 := by omega
    have hM0 : 0 < M := by omega
    have hlen : (Ls.take (N - 2) ++ [Ls.getD (N - 1) []]).length = M := by rw [List.length_append, List.length_take, ← HLs.out.2]; simp; omega
    have hnl : (nlT (Ls.take (N - 2) ++ [Ls.getD (N - 1) []])).length ≤ 5000 := by
      have h1 := HSh.out
      have h2 := nlT_take Ls (N - 2)
      have h3 := nlT_get Ls (N - 1)
      rw [nlT_append, List.length_append]
      simp only [nlT, List.flatMap_cons, List.flatMap_nil, List.append_nil, List.length_append, List.length_cons, List.length_nil] at h1 h2 h3 ⊢
      omega
    have hres : ResF (nlT (Ls.take (N - 2) ++ [Ls.getD (N - 1) []])) 4 (N - 1) := by rw [HLs.out.2, HLs.out.1]; exact res9 HFi.out.1
    have hkk : ((N - 1 : Nat) : Int) = (((N - 2 : Nat) : Int) + 1) := by omega
    rw [← hM]
    have HR2 : Hid (W7.ownsRow w.heap.size 9 1 (.slice (some ⟨b1, 0, none⟩) M c1) M (strC (Ls.take (N - 2)) ++ [.string T3])) := Lib.hid (by rw [hM]; exact HR.out)
    have hJ0 := fun (Lf : List (List UInt8)) (e : Lf = Ls.take (N - 2) ++ [Ls.getD (N - 1) []]) (h3 : (Lib.join Lf [10]).length ≤ 1048576) => show Calls Tryz.prog 18 #[.slice (some ⟨b1, 0, none⟩) M c1, .string ⟨#[10]⟩] W7 fun e w' => e = .returned (.string (bs (Lib.join Lf [10]))) ∧ Below W7.heap.size W7 w' from by
      have hxs : strC (Ls.take (N - 2)) ++ [.string T3] = strC Lf := by rw [e, strC_append, HT3.out]; rfl
      exact join_row2 HR2.out hxs hM0 hM20 h3
    clear HR hM
    obtain ⟨Lf, hLf⟩ : ∃ l, l = Ls.take (N - 2) ++ [Ls.getD (N - 1) []] := ⟨_, rfl⟩
    rw [← hLf] at hlen hnl hres
    have hLf0 : Lf ≠ [] := by intro h; rw [h] at hlen; simp at hlen; omega
    have hun := unn_nl Lf hLf0
    have hul : (unn Lf).length ≤ 5000 := by have := congrArg List.length hun; rw [List.length_append] at this; omega
    have hJ := hJ0 Lf hLf (by rw [join_unn]; omega)
    rw [join_unn] at hJ
    obtain ⟨S1, hS1⟩ : ∃ S, S = bs (unn Lf) := ⟨_, rfl⟩
    have hS1z : S1.size = (unn Lf).length := by rw [hS1, bs_len]
    rw [← hS1] at hJ
    obtain ⟨S2, eS2, zS2, bS2, oS2⟩ := cat_str S1 ⟨#[10]⟩ (by rw [hS1z]; show _ + 1 ≤ _; omega)
    have hS2 : S2 = bs (nlT Lf) := by rw [← hun, eS2, hS1]; exact bs_of (by simp [bs])
    have hRd := fun (X : World) => read_resK hres (by omega) hkk hS2 X
    have HJ := Lib.hid hJ
    have HRd := Lib.hid hRd
    have HZs := Lib.hid (And.intro hS1z hul)
    clear hJ0 hLf hlen hnl hres hkk hLf0 hun hul hJ hS1 hS1z hS2 eS2 zS2 hRd 
    go_wp2_with fail
    with_reducible refine HJ.out.mono ?_
    rintro e w8 ⟨rfl, hb⟩
    have HS8 := Lib.hid (HSf.out.later hb)
    clear hb HJ HSf
    go_wp2_with fail
    with_reducible refine (HRd.out w8).mono ?_
    rintro e w9 ⟨rfl, hb⟩
    have HS9 := Lib.hid (HS8.out.later hb)
    clear hb HRd HS8
    go_upto_region 45 with (fail)
    obtain ⟨W9, hW9⟩ : ∃ X, X = (w9.alloc (.cells #[.slice none 0 0, .slice none 0 0, .int .i64 0, .int .i64 0, .int .i64 0, .int .i64 0, .int .i64 0] 31)).alloc (.cells #[.int .i64 4, .int .i64 (((N - 2 : Nat) : Int) + 1)] 37) := ⟨_, rfl⟩
    have x4 := below_alloc w9 (.cells #[.slice none 0 0, .slice none 0 0, .int .i64 0, .int .i64 0, .int .i64 0, .int .i64 0, .int .i64 0] 31)
    have o4 : Own (w9.alloc (.cells #[.slice none 0 0, .slice none 0 0, .int .i64 0, .int .i64 0, .int .i64 0, .int .i64 0, .int .i64 0] 31)) w9.heap.size 31 [.slice none 0 0, .slice none 0 0, .int .i64 0, .int .i64 0, .int .i64 0, .int .i64 0, .int .i64 0] := heap_alloc_new w9 _
    have s4 := World.size_alloc w9 (.cells #[.slice none 0 0, .slice none 0 0, .int .i64 0, .int .i64 0, .int .i64 0, .int .i64 0, .int .i64 0] 31)
    have x5 : Below (w9.alloc (.cells #[.slice none 0 0, .slice none 0 0, .int .i64 0, .int .i64 0, .int .i64 0, .int .i64 0, .int .i64 0] 31)).heap.size (w9.alloc (.cells #[.slice none 0 0, .slice none 0 0, .int .i64 0, .int .i64 0, .int .i64 0, .int .i64 0, .int .i64 0] 31)) W9 := by rw [hW9]; exact below_alloc _ _
    have o5 : Own W9 (w9.heap.size + 1) 37 [.int .i64 4, .int .i64 (((N - 2 : Nat) : Int) + 1)] := by rw [hW9]; rw [← s4]; exact heap_alloc_new _ _
    have oq : Own W9 w9.heap.size 31 _ := o4.below x5 o4.lt
    have x6 : Below w9.heap.size w9 W9 := x4.trans (x5.mono x4.size)
    obtain ⟨qb9, hqb⟩ : ∃ x, x = w9.heap.size := ⟨_, rfl⟩
    obtain ⟨fb9, hfb⟩ : ∃ x, x = w9.heap.size + 1 := ⟨_, rfl⟩
    rw [← hW9, ← hfb, ← hqb]
    rw [← hfb] at o5
    rw [← hqb] at oq
    have HS10 := Lib.hid (HS9.out.later x6)
    obtain ⟨e0, e1, e2, e3, e4, e5, e6⟩ : _ ∧ _ ∧ _ ∧ _ ∧ _ ∧ _ ∧ _ := ⟨oq.cell 0 (by simp), oq.cell 1 (by simp), oq.cell 2 (by simp), oq.cell 3 (by simp), oq.cell 4 (by simp), oq.cell 5 (by simp), oq.cell 6 (by simp)⟩
    obtain ⟨f0, f1⟩ : _ ∧ _ := ⟨o5.cell 0 (by simp), o5.cell 1 (by simp)⟩
    simp only [List.getD_cons_zero, List.getD_cons_succ] at e0 e1 e2 e3 e4 e5 e6 f0 f1
    obtain ⟨hc1, hc2, hz1, hz2⟩ := HS10.out.cells
    have hE9 := same_yes emptyPn none 0 0 none 0 0 none 0 none 0 W9 (PRow.of_nil W9) (LRow.of_nil W9) (PRow.of_nil W9) (LRow.of_nil W9)
    unfold planV emptyPn at hE9
    have HE9 := Lib.hid hE9
    have heq : ∀ X, (binOp .eql 37 (.agg #[.int .i64 4, .int .i64 (((N - 2 : Nat) : Int) + 1)]) (.agg #[.int .i64 4, .int .i64 (((N - 2 : Nat) : Int) + 1)])).run Tryz.prog X = .ok (.bool true) X := fun X => by rw [eqlFt]; simp
    clear hW9 x4 o4 s4 x5 o5 oq x6 hqb hfb hE9 HS9 hz1 hz2
    go_wp2_with fail
    with_reducible refine HE9.out.mono ?_
    rintro e w10 ⟨rfl, hb⟩
    have HS11 := Lib.hid (HS10.out.later hb)
    clear hb e0 e1 e2 e3 e4 e5 e6 f0 f1 hc1 hc2
    go_wp2_with fail
    with_reducible refine (HL.out w10).mono ?_
    rintro e w11 ⟨rfl, hb⟩
    have HS12 := Lib.hid (HS11.out.later hb)
    clear hb
    go_wp2
    go_ret
    exact ⟨rfl, HS12.out.bel⟩
end Go.Proofs.YthlckipcgogogaaGreatDoor
/- The walk of PlansFaults, case 10. -/
namespace Go.Proofs.YthlckipcgogogaaGreatDoor
set_option linter.unusedVariables false
open Go.RowKit

set_option maxRecDepth 100000 in
set_option maxHeartbeats 4000000 in
theorem faults_walk10 (x : Nn) (s : Option Addr) (c : Nat) (u v : Int) (w : World) (hx : NnAt w x s c) (hflag : PowOk w) (hv0 : 0 ≤ v) (hv1 : v ≤ 255) (hu : u.tmod 12 = 10) : Calls Tryz.prog 4 #[nnV x s c, .int .u8 u, .int .u8 v] w fun e w' => e = .returned (.bool true) ∧ Below w.heap.size w w' := by
  have HFl := Lib.hid hflag
  clear hflag
  have hOf := fun (W : World) (h : NnAt W x s c) => of_any x s c W h
  obtain ⟨p0, hp0⟩ : ∃ p, p = x.codes.getD 0 0 := ⟨_, rfl⟩
  obtain ⟨p1, hp1⟩ : ∃ p, p = x.codes.getD 1 0 := ⟨_, rfl⟩
  obtain ⟨p2, hp2⟩ : ∃ p, p = x.codes.getD 2 0 := ⟨_, rfl⟩
  obtain ⟨p3, hp3⟩ : ∃ p, p = x.codes.getD 3 0 := ⟨_, rfl⟩
  obtain ⟨p4, hp4⟩ : ∃ p, p = x.codes.getD 4 0 := ⟨_, rfl⟩
  obtain ⟨p5, hp5⟩ : ∃ p, p = x.codes.getD 5 0 := ⟨_, rfl⟩
  obtain ⟨t0, ht0⟩ : ∃ p, p = x.tree.getD 0 0 := ⟨_, rfl⟩
  obtain ⟨t1, ht1⟩ : ∃ p, p = x.tree.getD 1 0 := ⟨_, rfl⟩
  obtain ⟨t2, ht2⟩ : ∃ p, p = x.tree.getD 2 0 := ⟨_, rfl⟩
  obtain ⟨t3, ht3⟩ : ∃ p, p = x.tree.getD 3 0 := ⟨_, rfl⟩
  obtain ⟨t4, ht4⟩ : ∃ p, p = x.tree.getD 4 0 := ⟨_, rfl⟩
  obtain ⟨t5, ht5⟩ : ∃ p, p = x.tree.getD 5 0 := ⟨_, rfl⟩
  obtain ⟨m, hm⟩ : ∃ m, m = x.extra.length := ⟨_, rfl⟩
  have HCs : Hid (nnCells x s m c = [.int .u8 (x.many : Nat), .int .u8 (p0 : Nat), .int .u8 (p1 : Nat), .int .u8 (p2 : Nat), .int .u8 (p3 : Nat), .int .u8 (p4 : Nat), .int .u8 (p5 : Nat), .int .u8 (x.ends : Nat), .int .u8 (t0 : Nat), .int .u8 (t1 : Nat), .int .u8 (t2 : Nat), .int .u8 (t3 : Nat), .int .u8 (t4 : Nat), .int .u8 (t5 : Nat), .slice s m c, .int .u8 (x.rate : Nat), .int .u8 (x.room : Nat), .int .u8 (x.k0 : Nat), .int .u8 (x.k1 : Nat)]) := Lib.hid (by unfold nnCells; rw [hp0, hp1, hp2, hp3, hp4, hp5, ht0, ht1, ht2, ht3, ht4, ht5])
  unfold nnV at hOf ⊢
  rw [← hm, HCs.out] at hOf
  rw [← hm, HCs.out]
  have HOf := Lib.hid hOf
  have HXn := Lib.hid hx
  have HL := Lib.hid lives_any
  clear hOf hx hm hp0 hp1 hp2 hp3 hp4 hp5 ht0 ht1 ht2 ht3 ht4 ht5
  go_enter Tryz.func4, Tryz.ntmps4
  go_upto_region 1 with (fail)
  obtain ⟨W0, hW0⟩ : ∃ W0, W0 = w.alloc (.cells #[.int .u8 (x.many : Nat), .int .u8 (p0 : Nat), .int .u8 (p1 : Nat), .int .u8 (p2 : Nat), .int .u8 (p3 : Nat), .int .u8 (p4 : Nat), .int .u8 (p5 : Nat), .int .u8 (x.ends : Nat), .int .u8 (t0 : Nat), .int .u8 (t1 : Nat), .int .u8 (t2 : Nat), .int .u8 (t3 : Nat), .int .u8 (t4 : Nat), .int .u8 (t5 : Nat), .slice s m c, .int .u8 (x.rate : Nat), .int .u8 (x.room : Nat), .int .u8 (x.k0 : Nat), .int .u8 (x.k1 : Nat)] 26) := ⟨_, rfl⟩
  have hB0 : Below w.heap.size w W0 := by rw [hW0]; exact below_alloc w _
  have ho0 : Own W0 w.heap.size 26 [.int .u8 (x.many : Nat), .int .u8 (p0 : Nat), .int .u8 (p1 : Nat), .int .u8 (p2 : Nat), .int .u8 (p3 : Nat), .int .u8 (p4 : Nat), .int .u8 (p5 : Nat), .int .u8 (x.ends : Nat), .int .u8 (t0 : Nat), .int .u8 (t1 : Nat), .int .u8 (t2 : Nat), .int .u8 (t3 : Nat), .int .u8 (t4 : Nat), .int .u8 (t5 : Nat), .slice s m c, .int .u8 (x.rate : Nat), .int .u8 (x.room : Nat), .int .u8 (x.k0 : Nat), .int .u8 (x.k1 : Nat)] := by rw [hW0]; exact heap_alloc_new w _
  rw [← hW0]
  have HRa := Lib.hid (range_own ho0)
  have HB0 := Lib.hid hB0
  clear hW0 ho0 hB0
  iterate 2 go_step
  refine wp_load_mid 26 (.tmp 3) (by rfl) w.heap.size 0 (by rfl) [.int .u8 (x.many : Nat), .int .u8 (p0 : Nat), .int .u8 (p1 : Nat), .int .u8 (p2 : Nat), .int .u8 (p3 : Nat), .int .u8 (p4 : Nat), .int .u8 (p5 : Nat), .int .u8 (x.ends : Nat), .int .u8 (t0 : Nat), .int .u8 (t1 : Nat), .int .u8 (t2 : Nat), .int .u8 (t3 : Nat), .int .u8 (t4 : Nat), .int .u8 (t5 : Nat), .slice s m c, .int .u8 (x.rate : Nat), .int .u8 (x.room : Nat), .int .u8 (x.k0 : Nat), .int .u8 (x.k1 : Nat)] _ HRa.out Tryz.underlying26 (by rfl) (by kernel_rfl) ?_
  go_wp2_with fail
  refine (HOf.out _ (HXn.out.later HB0.out)).mono ?_
  rintro e w1 ⟨p, aP, n, cP, aL, m2, cL, hPF, rfl, hP, hL, hb⟩
  have hb0 : Below w.heap.size w w1 := HB0.out.trans (hb.mono HB0.out.size)
  obtain ⟨b, hbz⟩ : ∃ b, b = w1.heap.size := ⟨_, rfl⟩
  have hn2 := hPF.n2
  have hn6 := hPF.n6
  have hcap := hP.le
  have hcap2 := hP.max
  have hcap3 := hL.le
  have hcap4 := hL.max
  unfold maxLen at hcap2 hcap4
  have HPF := Lib.hid hPF
  clear HOf
  have hfine := valid_fine hP hL hPF.valid
  have hTx := ltext_any p aP n cP aL m2 cL w1 hP hL hPF.valid (HFl.out.later hb0)
  unfold TxOut at hTx
  unfold planV at hTx
  obtain ⟨Ls, hLs⟩ : ∃ Ls, Ls = linesP p := ⟨_, rfl⟩
  have hN := linesP_len p
  have hHd := headL_len p
  have hnn : Ls ≠ [] := by rw [hLs]; intro h; rw [h] at hN; simp at hN
  have hshort := short_text (p := p) (by have := hPF.len; have := hPF.n6; omega) (by have := hPF.llen; have := hPF.m11; omega)
  have hnds : nds (unn Ls) = Ls := nds_unn Ls hnn (by rw [hLs]; exact lines_noN hfine)
  have htx : partText p 4 = unn Ls ++ [10] := by rw [text_nl, unn_nl Ls hnn, hLs]
  rw [← hLs] at hN hshort
  have hul : (unn Ls).length ≤ 2000 := by rw [← unn_nl Ls hnn] at hshort; simp only [List.length_append] at hshort; omega
  rw [htx] at hTx
  have hTr := fun (X : World) => trim_any (unn Ls) X (by omega)
  have hSp := fun (X : World) => linesN_any (unn Ls) X (by omega)
  rw [hnds] at hSp
  obtain ⟨N, hNN⟩ : ∃ N, N = Ls.length := ⟨_, rfl⟩
  rw [← hNN] at hSp hN
  obtain ⟨T1, hT1⟩ : ∃ T, T = bs (unn Ls ++ [10]) := ⟨_, rfl⟩
  obtain ⟨T2, hT2⟩ : ∃ T, T = bs (unn Ls) := ⟨_, rfl⟩
  rw [← hT1] at hTx hTr
  rw [← hT2] at hTr hSp
  have HTx := Lib.hid hTx
  have HTr := Lib.hid hTr
  have HSp := Lib.hid hSp
  have HFi := Lib.hid (And.intro hfine hPF.valid)
  have HLs := Lib.hid (And.intro hLs hNN)
  have HSh := Lib.hid hshort
  have hN5 : 5 ≤ N := by have := hPF.n2; have := hPF.len; omega
  have hN20 : N ≤ 20 := by have := hPF.n6; have := hPF.len; have := hPF.llen; have := hPF.m11; omega
  have HNl := Lib.hid (show N = p.P.length + p.L.length + 3 by omega)
  have HLp := Lib.hid (show 0 < p.L.length by rw [hPF.eq]; exact lines_pos x)
  have HB1 := Lib.hid hb0
  clear hTx hTr hSp hfine hP hL hb hb0 hcap hcap2 hcap3 hcap4 hN hHd hnn hshort hnds htx hul hT1 hT2 hLs hNN hbz b
  go_wp2_with fail
  with_reducible refine HTx.out.mono ?_
  rintro e w2 ⟨rfl, hb⟩
  have HB2 := Lib.hid (HB1.out.trans (hb.mono HB1.out.size))
  clear hb HTx
  go_wp2_with fail
  with_reducible refine (HTr.out w2).mono ?_
  rintro e w3 ⟨rfl, rfl⟩
  go_wp2_with fail
  with_reducible refine (HSp.out w3).mono ?_
  rintro e w4 ⟨rfl, hw4⟩
  have hb4 : Below w3.heap.size w3 w4 := by rw [hw4]; exact below_alloc _ _
  have ho4 : Own w4 w3.heap.size 9 (strC Ls) := by rw [hw4]; exact heap_alloc_new _ _
  obtain ⟨b0, hb0⟩ : ∃ b, b = w3.heap.size := ⟨_, rfl⟩
  rw [← hb0] at ho4 ⊢
  have HB4 := Lib.hid (HB2.out.trans (hb4.mono HB2.out.size))
  have HW0 := Lib.hid (show w.heap.size ≤ b0 by rw [hb0]; exact HB2.out.size)
  have HO4 := Lib.hid ho4
  obtain ⟨i, hi⟩ : ∃ i, i = v.toNat % N := ⟨_, rfl⟩
  have hrem : v.tmod (N : Int) = (i : Int) := by
    rw [Int.tmod_eq_emod_of_nonneg hv0, hi, Int.natCast_emod, Int.toNat_of_nonneg hv0]
  have hiN : i < N := by rw [hi]; exact Nat.mod_lt _ (by omega)
  have hN0 : ((N : Int) == 0) = false := by simp; omega
  clear hw4 hb4 ho4 hb0 hi HTr HSp
  go_upto_region 4 with (fail)
  obtain ⟨W5, hW5⟩ : ∃ X, X = w4.alloc (.cells #[.int .i64 4, .int .i64 ((i : Int) + 1)] 37) := ⟨_, rfl⟩
  have hb5 : Below w4.heap.size w4 W5 := by rw [hW5]; exact below_alloc _ _
  have hf5 : Own W5 w4.heap.size 37 [.int .i64 4, .int .i64 ((i : Int) + 1)] := by rw [hW5]; exact heap_alloc_new _ _
  have ho5 := HO4.out.below hb5 HO4.out.lt
  obtain ⟨wb, hwb⟩ : ∃ b, b = w4.heap.size := ⟨_, rfl⟩
  rw [← hW5, ← hwb]
  rw [← hwb] at hf5
  have hne : b0 ≠ wb := by have := HO4.out.lt; omega
  have HS := Lib.hid (show FS w b0 wb Ls 4 ((i : Int) + 1) W5 from ⟨HB4.out.trans (hb5.mono HB4.out.size), ho5, hf5, hne, HW0.out, by have := HB4.out.size; omega⟩)
  clear hW5 hb5 hf5 ho5 hwb HO4 hne HW0 HB4 HB2 HB1
  have hqN : N - 2 < N := by omega
  obtain ⟨hc0, hz0⟩ := HS.out.elem (N - 2) (by rw [← HLs.out.2]; exact hqN)
  go_upto_region 40 with (fail)
  obtain ⟨W6, hW6⟩ : ∃ X, X = W5.setCell ⟨b0, N - 2, none⟩ (.string ⟨#[114, 97, 116, 101, 32, 49]⟩) := ⟨_, rfl⟩
  have hHS6 : FS w b0 wb (Ls.set (N - 2) rate1) 4 ((i : Int) + 1) W6 := by rw [hW6]; exact (HS.out.line (N - 2) rate1)
  have hgoal := hW6
  rw [← hW6]
  have HS6 := Lib.hid hHS6
  clear hW6 hHS6 hgoal
  obtain ⟨hc1, hc2, hz1, hz2⟩ := HS6.out.cells
  clear hc0 hz0 HS
  go_upto_region 41 with (fail)
  obtain ⟨W7, hW7⟩ : ∃ X, X = W6.setCell ⟨wb, 1, none⟩ (.int .i64 ((N : Int) - 1)) := ⟨_, rfl⟩
  have hHS7 : FS w b0 wb (Ls.set (N - 2) rate1) 4 ((N : Int) - 1) W7 := by rw [hW7]; exact (HS6.out.num ((N : Int) - 1))
  have hgoal := hW7
  rw [← hW7]
  have HS7 := Lib.hid hHS7
  clear hW7 hHS7 hgoal
  clear hc1 hc2 hz1 hz2 HS6 hqN
  have hlen : (Ls.set (N - 2) rate1).length = N := by rw [List.length_set, HLs.out.2]
  have hnl : (nlT (Ls.set (N - 2) rate1)).length ≤ 3000 := Nat.le_trans (nlT_set _ _ _) (by have := HSh.out; have : rate1.length ≤ 20 := (by decide); omega)
  have hres : ResF (nlT (Ls.set (N - 2) rate1)) 4 (N - 1) := by rw [HLs.out.2, HLs.out.1]; exact res10 HFi.out.1
  have hkk : ((N - 1 : Nat) : Int) = ((N : Int) - 1) := by omega
  have hJ0 := fun (Lf : List (List UInt8)) (e : Lf = Ls.set (N - 2) rate1) (h3 : (Lib.join Lf [10]).length ≤ 1048576) => joinB_any b0 N N (strC Lf) Lf 10 W7 HS7.out.row.lt rfl (by rw [e]; exact hlen) (Nat.le_refl _) (fun i hi => by rw [e]; exact HS7.out.row.cell i (by rw [strC_length, hlen]; exact hi)) (by omega) h3
  have HSf := Lib.hid HS7.out.fw
  clear HS7
  obtain ⟨Lf, hLf⟩ : ∃ l, l = Ls.set (N - 2) rate1 := ⟨_, rfl⟩
  rw [← hLf] at hlen hnl hres
  have hLf0 : Lf ≠ [] := by intro h; rw [h] at hlen; simp at hlen; omega
  have hun := unn_nl Lf hLf0
  have hul : (unn Lf).length ≤ 5000 := by have := congrArg List.length hun; rw [List.length_append] at this; omega
  have hJ := hJ0 Lf hLf (by rw [join_unn]; omega)
  rw [join_unn] at hJ
  obtain ⟨S1, hS1⟩ : ∃ S, S = bs (unn Lf) := ⟨_, rfl⟩
  have hS1z : S1.size = (unn Lf).length := by rw [hS1, bs_len]
  rw [← hS1] at hJ
  obtain ⟨S2, eS2, zS2, bS2, oS2⟩ := cat_str S1 ⟨#[10]⟩ (by rw [hS1z]; show _ + 1 ≤ _; omega)
  have hS2 : S2 = bs (nlT Lf) := by rw [← hun, eS2, hS1]; exact bs_of (by simp [bs])
  have hRd := fun (X : World) => read_resK hres (by omega) hkk hS2 X
  have HJ := Lib.hid hJ
  have HRd := Lib.hid hRd
  have HZs := Lib.hid (And.intro hS1z hul)
  clear hJ0 hLf hlen hnl hres hkk hLf0 hun hul hJ hS1 hS1z hS2 eS2 zS2 hRd 
  go_wp2_with fail
  with_reducible refine HJ.out.mono ?_
  rintro e w8 ⟨rfl, hb⟩
  have HS8 := Lib.hid (HSf.out.later hb)
  clear hb HJ HSf
  go_wp2_with fail
  with_reducible refine (HRd.out w8).mono ?_
  rintro e w9 ⟨rfl, hb⟩
  have HS9 := Lib.hid (HS8.out.later hb)
  clear hb HRd HS8
  go_upto_region 45 with (fail)
  obtain ⟨W9, hW9⟩ : ∃ X, X = (w9.alloc (.cells #[.slice none 0 0, .slice none 0 0, .int .i64 0, .int .i64 0, .int .i64 0, .int .i64 0, .int .i64 0] 31)).alloc (.cells #[.int .i64 4, .int .i64 ((N : Int) - 1)] 37) := ⟨_, rfl⟩
  have x4 := below_alloc w9 (.cells #[.slice none 0 0, .slice none 0 0, .int .i64 0, .int .i64 0, .int .i64 0, .int .i64 0, .int .i64 0] 31)
  have o4 : Own (w9.alloc (.cells #[.slice none 0 0, .slice none 0 0, .int .i64 0, .int .i64 0, .int .i64 0, .int .i64 0, .int .i64 0] 31)) w9.heap.size 31 [.slice none 0 0, .slice none 0 0, .int .i64 0, .int .i64 0, .int .i64 0, .int .i64 0, .int .i64 0] := heap_alloc_new w9 _
  have s4 := World.size_alloc w9 (.cells #[.slice none 0 0, .slice none 0 0, .int .i64 0, .int .i64 0, .int .i64 0, .int .i64 0, .int .i64 0] 31)
  have x5 : Below (w9.alloc (.cells #[.slice none 0 0, .slice none 0 0, .int .i64 0, .int .i64 0, .int .i64 0, .int .i64 0, .int .i64 0] 31)).heap.size (w9.alloc (.cells #[.slice none 0 0, .slice none 0 0, .int .i64 0, .int .i64 0, .int .i64 0, .int .i64 0, .int .i64 0] 31)) W9 := by rw [hW9]; exact below_alloc _ _
  have o5 : Own W9 (w9.heap.size + 1) 37 [.int .i64 4, .int .i64 ((N : Int) - 1)] := by rw [hW9]; rw [← s4]; exact heap_alloc_new _ _
  have oq : Own W9 w9.heap.size 31 _ := o4.below x5 o4.lt
  have x6 : Below w9.heap.size w9 W9 := x4.trans (x5.mono x4.size)
  obtain ⟨qb9, hqb⟩ : ∃ x, x = w9.heap.size := ⟨_, rfl⟩
  obtain ⟨fb9, hfb⟩ : ∃ x, x = w9.heap.size + 1 := ⟨_, rfl⟩
  rw [← hW9, ← hfb, ← hqb]
  rw [← hfb] at o5
  rw [← hqb] at oq
  have HS10 := Lib.hid (HS9.out.later x6)
  obtain ⟨e0, e1, e2, e3, e4, e5, e6⟩ : _ ∧ _ ∧ _ ∧ _ ∧ _ ∧ _ ∧ _ := ⟨oq.cell 0 (by simp), oq.cell 1 (by simp), oq.cell 2 (by simp), oq.cell 3 (by simp), oq.cell 4 (by simp), oq.cell 5 (by simp), oq.cell 6 (by simp)⟩
  obtain ⟨f0, f1⟩ : _ ∧ _ := ⟨o5.cell 0 (by simp), o5.cell 1 (by simp)⟩
  simp only [List.getD_cons_zero, List.getD_cons_succ] at e0 e1 e2 e3 e4 e5 e6 f0 f1
  obtain ⟨hc1, hc2, hz1, hz2⟩ := HS10.out.cells
  have hE9 := same_yes emptyPn none 0 0 none 0 0 none 0 none 0 W9 (PRow.of_nil W9) (LRow.of_nil W9) (PRow.of_nil W9) (LRow.of_nil W9)
  unfold planV emptyPn at hE9
  have HE9 := Lib.hid hE9
  have heq : ∀ X, (binOp .eql 37 (.agg #[.int .i64 4, .int .i64 ((N : Int) - 1)]) (.agg #[.int .i64 4, .int .i64 ((N : Int) - 1)])).run Tryz.prog X = .ok (.bool true) X := fun X => by rw [eqlFt]; simp
  clear hW9 x4 o4 s4 x5 o5 oq x6 hqb hfb hE9 HS9 hz1 hz2
  go_wp2_with fail
  with_reducible refine HE9.out.mono ?_
  rintro e w10 ⟨rfl, hb⟩
  have HS11 := Lib.hid (HS10.out.later hb)
  clear hb e0 e1 e2 e3 e4 e5 e6 f0 f1 hc1 hc2
  go_wp2_with fail
  with_reducible refine (HL.out w10).mono ?_
  rintro e w11 ⟨rfl, hb⟩
  have HS12 := Lib.hid (HS11.out.later hb)
  clear hb
  go_wp2
  go_ret
  exact ⟨rfl, HS12.out.bel⟩
end Go.Proofs.YthlckipcgogogaaGreatDoor
/- The walk of PlansFaults, case 11. -/
namespace Go.Proofs.YthlckipcgogogaaGreatDoor
set_option linter.unusedVariables false
open Go.RowKit

set_option maxRecDepth 100000 in
set_option maxHeartbeats 4000000 in
theorem faults_walk11 (x : Nn) (s : Option Addr) (c : Nat) (u v : Int) (w : World) (hx : NnAt w x s c) (hflag : PowOk w) (hv0 : 0 ≤ v) (hv1 : v ≤ 255) (hu : u.tmod 12 = 11) : Calls Tryz.prog 4 #[nnV x s c, .int .u8 u, .int .u8 v] w fun e w' => e = .returned (.bool true) ∧ Below w.heap.size w w' := by
  have HFl := Lib.hid hflag
  clear hflag
  have hOf := fun (W : World) (h : NnAt W x s c) => of_any x s c W h
  obtain ⟨p0, hp0⟩ : ∃ p, p = x.codes.getD 0 0 := ⟨_, rfl⟩
  obtain ⟨p1, hp1⟩ : ∃ p, p = x.codes.getD 1 0 := ⟨_, rfl⟩
  obtain ⟨p2, hp2⟩ : ∃ p, p = x.codes.getD 2 0 := ⟨_, rfl⟩
  obtain ⟨p3, hp3⟩ : ∃ p, p = x.codes.getD 3 0 := ⟨_, rfl⟩
  obtain ⟨p4, hp4⟩ : ∃ p, p = x.codes.getD 4 0 := ⟨_, rfl⟩
  obtain ⟨p5, hp5⟩ : ∃ p, p = x.codes.getD 5 0 := ⟨_, rfl⟩
  obtain ⟨t0, ht0⟩ : ∃ p, p = x.tree.getD 0 0 := ⟨_, rfl⟩
  obtain ⟨t1, ht1⟩ : ∃ p, p = x.tree.getD 1 0 := ⟨_, rfl⟩
  obtain ⟨t2, ht2⟩ : ∃ p, p = x.tree.getD 2 0 := ⟨_, rfl⟩
  obtain ⟨t3, ht3⟩ : ∃ p, p = x.tree.getD 3 0 := ⟨_, rfl⟩
  obtain ⟨t4, ht4⟩ : ∃ p, p = x.tree.getD 4 0 := ⟨_, rfl⟩
  obtain ⟨t5, ht5⟩ : ∃ p, p = x.tree.getD 5 0 := ⟨_, rfl⟩
  obtain ⟨m, hm⟩ : ∃ m, m = x.extra.length := ⟨_, rfl⟩
  have HCs : Hid (nnCells x s m c = [.int .u8 (x.many : Nat), .int .u8 (p0 : Nat), .int .u8 (p1 : Nat), .int .u8 (p2 : Nat), .int .u8 (p3 : Nat), .int .u8 (p4 : Nat), .int .u8 (p5 : Nat), .int .u8 (x.ends : Nat), .int .u8 (t0 : Nat), .int .u8 (t1 : Nat), .int .u8 (t2 : Nat), .int .u8 (t3 : Nat), .int .u8 (t4 : Nat), .int .u8 (t5 : Nat), .slice s m c, .int .u8 (x.rate : Nat), .int .u8 (x.room : Nat), .int .u8 (x.k0 : Nat), .int .u8 (x.k1 : Nat)]) := Lib.hid (by unfold nnCells; rw [hp0, hp1, hp2, hp3, hp4, hp5, ht0, ht1, ht2, ht3, ht4, ht5])
  unfold nnV at hOf ⊢
  rw [← hm, HCs.out] at hOf
  rw [← hm, HCs.out]
  have HOf := Lib.hid hOf
  have HXn := Lib.hid hx
  have HL := Lib.hid lives_any
  clear hOf hx hm hp0 hp1 hp2 hp3 hp4 hp5 ht0 ht1 ht2 ht3 ht4 ht5
  go_enter Tryz.func4, Tryz.ntmps4
  go_upto_region 1 with (fail)
  obtain ⟨W0, hW0⟩ : ∃ W0, W0 = w.alloc (.cells #[.int .u8 (x.many : Nat), .int .u8 (p0 : Nat), .int .u8 (p1 : Nat), .int .u8 (p2 : Nat), .int .u8 (p3 : Nat), .int .u8 (p4 : Nat), .int .u8 (p5 : Nat), .int .u8 (x.ends : Nat), .int .u8 (t0 : Nat), .int .u8 (t1 : Nat), .int .u8 (t2 : Nat), .int .u8 (t3 : Nat), .int .u8 (t4 : Nat), .int .u8 (t5 : Nat), .slice s m c, .int .u8 (x.rate : Nat), .int .u8 (x.room : Nat), .int .u8 (x.k0 : Nat), .int .u8 (x.k1 : Nat)] 26) := ⟨_, rfl⟩
  have hB0 : Below w.heap.size w W0 := by rw [hW0]; exact below_alloc w _
  have ho0 : Own W0 w.heap.size 26 [.int .u8 (x.many : Nat), .int .u8 (p0 : Nat), .int .u8 (p1 : Nat), .int .u8 (p2 : Nat), .int .u8 (p3 : Nat), .int .u8 (p4 : Nat), .int .u8 (p5 : Nat), .int .u8 (x.ends : Nat), .int .u8 (t0 : Nat), .int .u8 (t1 : Nat), .int .u8 (t2 : Nat), .int .u8 (t3 : Nat), .int .u8 (t4 : Nat), .int .u8 (t5 : Nat), .slice s m c, .int .u8 (x.rate : Nat), .int .u8 (x.room : Nat), .int .u8 (x.k0 : Nat), .int .u8 (x.k1 : Nat)] := by rw [hW0]; exact heap_alloc_new w _
  rw [← hW0]
  have HRa := Lib.hid (range_own ho0)
  have HB0 := Lib.hid hB0
  clear hW0 ho0 hB0
  iterate 2 go_step
  refine wp_load_mid 26 (.tmp 3) (by rfl) w.heap.size 0 (by rfl) [.int .u8 (x.many : Nat), .int .u8 (p0 : Nat), .int .u8 (p1 : Nat), .int .u8 (p2 : Nat), .int .u8 (p3 : Nat), .int .u8 (p4 : Nat), .int .u8 (p5 : Nat), .int .u8 (x.ends : Nat), .int .u8 (t0 : Nat), .int .u8 (t1 : Nat), .int .u8 (t2 : Nat), .int .u8 (t3 : Nat), .int .u8 (t4 : Nat), .int .u8 (t5 : Nat), .slice s m c, .int .u8 (x.rate : Nat), .int .u8 (x.room : Nat), .int .u8 (x.k0 : Nat), .int .u8 (x.k1 : Nat)] _ HRa.out Tryz.underlying26 (by rfl) (by kernel_rfl) ?_
  go_wp2_with fail
  refine (HOf.out _ (HXn.out.later HB0.out)).mono ?_
  rintro e w1 ⟨p, aP, n, cP, aL, m2, cL, hPF, rfl, hP, hL, hb⟩
  have hb0 : Below w.heap.size w w1 := HB0.out.trans (hb.mono HB0.out.size)
  obtain ⟨b, hbz⟩ : ∃ b, b = w1.heap.size := ⟨_, rfl⟩
  have hn2 := hPF.n2
  have hn6 := hPF.n6
  have hcap := hP.le
  have hcap2 := hP.max
  have hcap3 := hL.le
  have hcap4 := hL.max
  unfold maxLen at hcap2 hcap4
  have HPF := Lib.hid hPF
  clear HOf
  have hfine := valid_fine hP hL hPF.valid
  have hTx := ltext_any p aP n cP aL m2 cL w1 hP hL hPF.valid (HFl.out.later hb0)
  unfold TxOut at hTx
  unfold planV at hTx
  obtain ⟨Ls, hLs⟩ : ∃ Ls, Ls = linesP p := ⟨_, rfl⟩
  have hN := linesP_len p
  have hHd := headL_len p
  have hnn : Ls ≠ [] := by rw [hLs]; intro h; rw [h] at hN; simp at hN
  have hshort := short_text (p := p) (by have := hPF.len; have := hPF.n6; omega) (by have := hPF.llen; have := hPF.m11; omega)
  have hnds : nds (unn Ls) = Ls := nds_unn Ls hnn (by rw [hLs]; exact lines_noN hfine)
  have htx : partText p 4 = unn Ls ++ [10] := by rw [text_nl, unn_nl Ls hnn, hLs]
  rw [← hLs] at hN hshort
  have hul : (unn Ls).length ≤ 2000 := by rw [← unn_nl Ls hnn] at hshort; simp only [List.length_append] at hshort; omega
  rw [htx] at hTx
  have hTr := fun (X : World) => trim_any (unn Ls) X (by omega)
  have hSp := fun (X : World) => linesN_any (unn Ls) X (by omega)
  rw [hnds] at hSp
  obtain ⟨N, hNN⟩ : ∃ N, N = Ls.length := ⟨_, rfl⟩
  rw [← hNN] at hSp hN
  obtain ⟨T1, hT1⟩ : ∃ T, T = bs (unn Ls ++ [10]) := ⟨_, rfl⟩
  obtain ⟨T2, hT2⟩ : ∃ T, T = bs (unn Ls) := ⟨_, rfl⟩
  rw [← hT1] at hTx hTr
  rw [← hT2] at hTr hSp
  have HTx := Lib.hid hTx
  have HTr := Lib.hid hTr
  have HSp := Lib.hid hSp
  have HFi := Lib.hid (And.intro hfine hPF.valid)
  have HLs := Lib.hid (And.intro hLs hNN)
  have HSh := Lib.hid hshort
  have hN5 : 5 ≤ N := by have := hPF.n2; have := hPF.len; omega
  have hN20 : N ≤ 20 := by have := hPF.n6; have := hPF.len; have := hPF.llen; have := hPF.m11; omega
  have HNl := Lib.hid (show N = p.P.length + p.L.length + 3 by omega)
  have HLp := Lib.hid (show 0 < p.L.length by rw [hPF.eq]; exact lines_pos x)
  have HB1 := Lib.hid hb0
  clear hTx hTr hSp hfine hP hL hb hb0 hcap hcap2 hcap3 hcap4 hN hHd hnn hshort hnds htx hul hT1 hT2 hLs hNN hbz b
  go_wp2_with fail
  with_reducible refine HTx.out.mono ?_
  rintro e w2 ⟨rfl, hb⟩
  have HB2 := Lib.hid (HB1.out.trans (hb.mono HB1.out.size))
  clear hb HTx
  go_wp2_with fail
  with_reducible refine (HTr.out w2).mono ?_
  rintro e w3 ⟨rfl, rfl⟩
  go_wp2_with fail
  with_reducible refine (HSp.out w3).mono ?_
  rintro e w4 ⟨rfl, hw4⟩
  have hb4 : Below w3.heap.size w3 w4 := by rw [hw4]; exact below_alloc _ _
  have ho4 : Own w4 w3.heap.size 9 (strC Ls) := by rw [hw4]; exact heap_alloc_new _ _
  obtain ⟨b0, hb0⟩ : ∃ b, b = w3.heap.size := ⟨_, rfl⟩
  rw [← hb0] at ho4 ⊢
  have HB4 := Lib.hid (HB2.out.trans (hb4.mono HB2.out.size))
  have HW0 := Lib.hid (show w.heap.size ≤ b0 by rw [hb0]; exact HB2.out.size)
  have HO4 := Lib.hid ho4
  obtain ⟨i, hi⟩ : ∃ i, i = v.toNat % N := ⟨_, rfl⟩
  have hrem : v.tmod (N : Int) = (i : Int) := by
    rw [Int.tmod_eq_emod_of_nonneg hv0, hi, Int.natCast_emod, Int.toNat_of_nonneg hv0]
  have hiN : i < N := by rw [hi]; exact Nat.mod_lt _ (by omega)
  have hN0 : ((N : Int) == 0) = false := by simp; omega
  clear hw4 hb4 ho4 hb0 hi HTr HSp
  go_upto_region 4 with (fail)
  obtain ⟨W5, hW5⟩ : ∃ X, X = w4.alloc (.cells #[.int .i64 4, .int .i64 ((i : Int) + 1)] 37) := ⟨_, rfl⟩
  have hb5 : Below w4.heap.size w4 W5 := by rw [hW5]; exact below_alloc _ _
  have hf5 : Own W5 w4.heap.size 37 [.int .i64 4, .int .i64 ((i : Int) + 1)] := by rw [hW5]; exact heap_alloc_new _ _
  have ho5 := HO4.out.below hb5 HO4.out.lt
  obtain ⟨wb, hwb⟩ : ∃ b, b = w4.heap.size := ⟨_, rfl⟩
  rw [← hW5, ← hwb]
  rw [← hwb] at hf5
  have hne : b0 ≠ wb := by have := HO4.out.lt; omega
  have HS := Lib.hid (show FS w b0 wb Ls 4 ((i : Int) + 1) W5 from ⟨HB4.out.trans (hb5.mono HB4.out.size), ho5, hf5, hne, HW0.out, by have := HB4.out.size; omega⟩)
  clear hW5 hb5 hf5 ho5 hwb HO4 hne HW0 HB4 HB2 HB1
  have hqN : N - 4 < N := by omega
  obtain ⟨hc0, hz0⟩ := HS.out.elem (N - 4) (by rw [← HLs.out.2]; exact hqN)
  obtain ⟨xl, hxl, hline⟩ := last_line HLp.out
  have hg := nlT_get Ls (N - 4)
  have hsh := HSh.out
  rw [← HLs.out.1, ← HLs.out.2] at hline
  have hfl := HFi.out.1.ln xl hxl
  have hps : ∀ y ∈ [lineW, pcL xl.A.toNat, pcL xl.B.toNat, numL xl.C.toNat, numL xl.D.toNat], noS y = true := fun y hy => by
    simp only [List.mem_cons, List.not_mem_nil, or_false] at hy
    rcases hy with rfl | rfl | rfl | rfl | rfl
    · rfl
    · exact (pc_S (by omega)).1
    · exact (pc_S (by omega)).1
    · exact (num_S (by omega)).1
    · exact (num_S (by omega)).1
  have hwd : wds (Ls.getD (N - 4) []) = [lineW, pcL xl.A.toNat, pcL xl.B.toNat, numL xl.C.toNat, numL xl.D.toNat] := by rw [hline]; exact wds_unw _ (by simp) hps
  have hSp := fun (X : World) => words_any (Ls.getD (N - 4) []) X (by omega)
  rw [hwd] at hSp
  obtain ⟨T3, hT3⟩ : ∃ T, T = bs (Ls.getD (N - 4) []) := ⟨_, rfl⟩
  rw [← hT3] at hSp hc0
  obtain ⟨WW, hWW⟩ : ∃ W, W = [lineW, pcL xl.A.toNat, pcL xl.B.toNat, numL xl.C.toNat, numL xl.D.toNat] := ⟨_, rfl⟩
  have hW5l : WW.length = 5 := by rw [hWW]; rfl
  have hWs : WW.set 3 n256 = [lineW, pcL xl.A.toNat, pcL xl.B.toNat, n256, numL xl.D.toNat] := by rw [hWW]; rfl
  have hul : (unw [lineW, pcL xl.A.toNat, pcL xl.B.toNat, n256, numL xl.D.toNat]).length ≤ 100 := by
    have h1 := pcL_len xl.A.toNat
    have h2 := pcL_len xl.B.toNat
    have h3 := numL_3 xl.D.toNat
    simp only [unw, lineW, n256, List.length_append, List.length_cons, List.length_nil]
    omega
  rw [← hWW, hW5l] at hSp
  have HSp := Lib.hid hSp
  have HWs := Lib.hid (And.intro hW5l hWs)
  have HXl := Lib.hid hxl
  have HUl := Lib.hid hul
  clear hT3 hWW hwd hSp hps hfl hline hxl hg hsh hW5l hWs hul
  go_wp2_with fail
  with_reducible refine (HSp.out W5).mono ?_
  rintro e w6 ⟨rfl, hw6⟩
  have hb6 : Below W5.heap.size W5 w6 := by rw [hw6]; exact below_alloc _ _
  have ho6 : Own w6 W5.heap.size 9 (strC WW) := by rw [hw6]; exact heap_alloc_new _ _
  obtain ⟨b2, hb2⟩ : ∃ b, b = W5.heap.size := ⟨_, rfl⟩
  rw [← hb2] at ho6 ⊢
  have HS6 := Lib.hid (HS.out.later hb6)
  have HO6 := Lib.hid ho6
  have hB2 : W5.heap.size ≤ b2 := by omega
  have HB2 := Lib.hid (And.intro (show b0 ≠ b2 by have := HS.out.row.lt; omega) (And.intro (show wb ≠ b2 by have := HS.out.want.lt; omega) (show w.heap.size ≤ b2 by have := HS.out.bel.size; omega)))
  have hc3 := HO6.out.cell 3 (by rw [strC_length, HWs.out.1]; decide)
  have hz3 : w6.frozen? ⟨b2, 3, none⟩ = false := frozen_of_row _ _ _ _ _ HO6.out
  clear hc0 hz0 hw6 hb6 ho6 hb2 hB2 HS HSp
  go_upto_region 10 with (fail)
  obtain ⟨W7, hW7⟩ : ∃ X, X = w6.setCell ⟨b2, 3, none⟩ (.string ⟨#[50, 53, 54]⟩) := ⟨_, rfl⟩
  have ho7 : Own W7 b2 9 (strC [lineW, pcL xl.A.toNat, pcL xl.B.toNat, n256, numL xl.D.toNat]) := by rw [hW7, ← HWs.out.2, ← strC_set]; exact HO6.out.set 3 _
  have hs7 : FS w b0 wb Ls 4 ((i : Int) + 1) W7 := by
    rw [hW7]
    exact ⟨HS6.out.bel.setCell (p := ⟨b2, 3, none⟩) HB2.out.2.2 _, HS6.out.row.other ⟨b2, 3, none⟩ HB2.out.1 _, HS6.out.want.other ⟨b2, 3, none⟩ HB2.out.2.1 _, HS6.out.ne, HS6.out.h0, HS6.out.h1⟩
  have hJw := joinB_any b2 5 5 (strC [lineW, pcL xl.A.toNat, pcL xl.B.toNat, n256, numL xl.D.toNat]) [lineW, pcL xl.A.toNat, pcL xl.B.toNat, n256, numL xl.D.toNat] 32 W7 ho7.lt rfl rfl (Nat.le_refl _) (fun j hj => ho7.cell j (by rw [strC_length]; exact hj)) (by decide) (by rw [join_unw]; have := HUl.out; omega)
  rw [join_unw] at hJw
  obtain ⟨T4, hT4⟩ : ∃ T, T = bs (unw [lineW, pcL xl.A.toNat, pcL xl.B.toNat, n256, numL xl.D.toNat]) := ⟨_, rfl⟩
  rw [← hT4] at hJw
  rw [← hW7]
  have HS7 := Lib.hid hs7
  have HJw := Lib.hid hJw
  have HT4 := Lib.hid hT4
  clear hW7 ho7 hs7 hJw hT4 hc3 hz3 HS6 HO6 HB2 HWs
  go_wp2_with fail
  with_reducible refine HJw.out.mono ?_
  rintro e w8 ⟨rfl, hb⟩
  have HS8 := Lib.hid (HS7.out.later hb)
  clear hb HJw HS7
  obtain ⟨hc0, hz0⟩ := HS8.out.elem (N - 4) (by rw [← HLs.out.2]; exact hqN)
  go_upto_region 11 with (fail)
  obtain ⟨W9, hW9⟩ : ∃ X, X = w8.setCell ⟨b0, N - 4, none⟩ (.string T4) := ⟨_, rfl⟩
  have hHS9 : FS w b0 wb (Ls.set (N - 4) (unw [lineW, pcL xl.A.toNat, pcL xl.B.toNat, n256, numL xl.D.toNat])) 4 ((i : Int) + 1) W9 := by rw [hW9]; exact (by rw [HT4.out]; exact HS8.out.line (N - 4) _)
  have hgoal := hW9
  rw [← hW9]
  have HS9 := Lib.hid hHS9
  clear hW9 hHS9 hgoal
  obtain ⟨hc1, hc2, hz1, hz2⟩ := HS9.out.cells
  clear hc0 hz0 HS8
  go_upto_region 41 with (fail)
  obtain ⟨Wa, hWa⟩ : ∃ X, X = W9.setCell ⟨wb, 1, none⟩ (.int .i64 ((N : Int) - 4 + 1)) := ⟨_, rfl⟩
  have hHSa : FS w b0 wb (Ls.set (N - 4) (unw [lineW, pcL xl.A.toNat, pcL xl.B.toNat, n256, numL xl.D.toNat])) 4 ((N : Int) - 4 + 1) Wa := by rw [hWa]; exact (HS9.out.num ((N : Int) - 4 + 1))
  have hgoal := hWa
  rw [← hWa]
  have HSa := Lib.hid hHSa
  clear hWa hHSa hgoal
  clear hc1 hc2 hz1 hz2 HS9 hqN
  have hlen : (Ls.set (N - 4) (unw [lineW, pcL xl.A.toNat, pcL xl.B.toNat, n256, numL xl.D.toNat])).length = N := by rw [List.length_set, HLs.out.2]
  have hnl : (nlT (Ls.set (N - 4) (unw [lineW, pcL xl.A.toNat, pcL xl.B.toNat, n256, numL xl.D.toNat]))).length ≤ 5000 := Nat.le_trans (nlT_set _ _ _) (by have := HSh.out; have := HUl.out; omega)
  have hres : ResF (nlT (Ls.set (N - 4) (unw [lineW, pcL xl.A.toNat, pcL xl.B.toNat, n256, numL xl.D.toNat]))) 4 (N - 4 + 1) := by rw [HLs.out.2, HLs.out.1]; exact res11 HFi.out.1 HXl.out HLp.out
  have hkk : ((N - 4 + 1 : Nat) : Int) = ((N : Int) - 4 + 1) := by omega
  have hJ0 := fun (Lf : List (List UInt8)) (e : Lf = Ls.set (N - 4) (unw [lineW, pcL xl.A.toNat, pcL xl.B.toNat, n256, numL xl.D.toNat])) (h3 : (Lib.join Lf [10]).length ≤ 1048576) => joinB_any b0 N N (strC Lf) Lf 10 Wa HSa.out.row.lt rfl (by rw [e]; exact hlen) (Nat.le_refl _) (fun i hi => by rw [e]; exact HSa.out.row.cell i (by rw [strC_length, hlen]; exact hi)) (by omega) h3
  have HSf := Lib.hid HSa.out.fw
  clear HSa
  obtain ⟨Lf, hLf⟩ : ∃ l, l = Ls.set (N - 4) (unw [lineW, pcL xl.A.toNat, pcL xl.B.toNat, n256, numL xl.D.toNat]) := ⟨_, rfl⟩
  rw [← hLf] at hlen hnl hres
  have hLf0 : Lf ≠ [] := by intro h; rw [h] at hlen; simp at hlen; omega
  have hun := unn_nl Lf hLf0
  have hul : (unn Lf).length ≤ 5000 := by have := congrArg List.length hun; rw [List.length_append] at this; omega
  have hJ := hJ0 Lf hLf (by rw [join_unn]; omega)
  rw [join_unn] at hJ
  obtain ⟨S1, hS1⟩ : ∃ S, S = bs (unn Lf) := ⟨_, rfl⟩
  have hS1z : S1.size = (unn Lf).length := by rw [hS1, bs_len]
  rw [← hS1] at hJ
  obtain ⟨S2, eS2, zS2, bS2, oS2⟩ := cat_str S1 ⟨#[10]⟩ (by rw [hS1z]; show _ + 1 ≤ _; omega)
  have hS2 : S2 = bs (nlT Lf) := by rw [← hun, eS2, hS1]; exact bs_of (by simp [bs])
  have hRd := fun (X : World) => read_resK hres (by omega) hkk hS2 X
  have HJ := Lib.hid hJ
  have HRd := Lib.hid hRd
  have HZs := Lib.hid (And.intro hS1z hul)
  clear hJ0 hLf hlen hnl hres hkk hLf0 hun hul hJ hS1 hS1z hS2 eS2 zS2 hRd 
  go_wp2_with fail
  with_reducible refine HJ.out.mono ?_
  rintro e w8 ⟨rfl, hb⟩
  have HS8 := Lib.hid (HSf.out.later hb)
  clear hb HJ HSf
  go_wp2_with fail
  with_reducible refine (HRd.out w8).mono ?_
  rintro e w9 ⟨rfl, hb⟩
  have HS9 := Lib.hid (HS8.out.later hb)
  clear hb HRd HS8
  go_upto_region 45 with (fail)
  obtain ⟨W9, hW9⟩ : ∃ X, X = (w9.alloc (.cells #[.slice none 0 0, .slice none 0 0, .int .i64 0, .int .i64 0, .int .i64 0, .int .i64 0, .int .i64 0] 31)).alloc (.cells #[.int .i64 4, .int .i64 ((N : Int) - 4 + 1)] 37) := ⟨_, rfl⟩
  have x4 := below_alloc w9 (.cells #[.slice none 0 0, .slice none 0 0, .int .i64 0, .int .i64 0, .int .i64 0, .int .i64 0, .int .i64 0] 31)
  have o4 : Own (w9.alloc (.cells #[.slice none 0 0, .slice none 0 0, .int .i64 0, .int .i64 0, .int .i64 0, .int .i64 0, .int .i64 0] 31)) w9.heap.size 31 [.slice none 0 0, .slice none 0 0, .int .i64 0, .int .i64 0, .int .i64 0, .int .i64 0, .int .i64 0] := heap_alloc_new w9 _
  have s4 := World.size_alloc w9 (.cells #[.slice none 0 0, .slice none 0 0, .int .i64 0, .int .i64 0, .int .i64 0, .int .i64 0, .int .i64 0] 31)
  have x5 : Below (w9.alloc (.cells #[.slice none 0 0, .slice none 0 0, .int .i64 0, .int .i64 0, .int .i64 0, .int .i64 0, .int .i64 0] 31)).heap.size (w9.alloc (.cells #[.slice none 0 0, .slice none 0 0, .int .i64 0, .int .i64 0, .int .i64 0, .int .i64 0, .int .i64 0] 31)) W9 := by rw [hW9]; exact below_alloc _ _
  have o5 : Own W9 (w9.heap.size + 1) 37 [.int .i64 4, .int .i64 ((N : Int) - 4 + 1)] := by rw [hW9]; rw [← s4]; exact heap_alloc_new _ _
  have oq : Own W9 w9.heap.size 31 _ := o4.below x5 o4.lt
  have x6 : Below w9.heap.size w9 W9 := x4.trans (x5.mono x4.size)
  obtain ⟨qb9, hqb⟩ : ∃ x, x = w9.heap.size := ⟨_, rfl⟩
  obtain ⟨fb9, hfb⟩ : ∃ x, x = w9.heap.size + 1 := ⟨_, rfl⟩
  rw [← hW9, ← hfb, ← hqb]
  rw [← hfb] at o5
  rw [← hqb] at oq
  have HS10 := Lib.hid (HS9.out.later x6)
  obtain ⟨e0, e1, e2, e3, e4, e5, e6⟩ : _ ∧ _ ∧ _ ∧ _ ∧ _ ∧ _ ∧ _ := ⟨oq.cell 0 (by simp), oq.cell 1 (by simp), oq.cell 2 (by simp), oq.cell 3 (by simp), oq.cell 4 (by simp), oq.cell 5 (by simp), oq.cell 6 (by simp)⟩
  obtain ⟨f0, f1⟩ : _ ∧ _ := ⟨o5.cell 0 (by simp), o5.cell 1 (by simp)⟩
  simp only [List.getD_cons_zero, List.getD_cons_succ] at e0 e1 e2 e3 e4 e5 e6 f0 f1
  obtain ⟨hc1, hc2, hz1, hz2⟩ := HS10.out.cells
  have hE9 := same_yes emptyPn none 0 0 none 0 0 none 0 none 0 W9 (PRow.of_nil W9) (LRow.of_nil W9) (PRow.of_nil W9) (LRow.of_nil W9)
  unfold planV emptyPn at hE9
  have HE9 := Lib.hid hE9
  have heq : ∀ X, (binOp .eql 37 (.agg #[.int .i64 4, .int .i64 ((N : Int) - 4 + 1)]) (.agg #[.int .i64 4, .int .i64 ((N : Int) - 4 + 1)])).run Tryz.prog X = .ok (.bool true) X := fun X => by rw [eqlFt]; simp
  clear hW9 x4 o4 s4 x5 o5 oq x6 hqb hfb hE9 HS9 hz1 hz2
  go_wp2_with fail
  with_reducible refine HE9.out.mono ?_
  rintro e w10 ⟨rfl, hb⟩
  have HS11 := Lib.hid (HS10.out.later hb)
  clear hb e0 e1 e2 e3 e4 e5 e6 f0 f1 hc1 hc2
  go_wp2_with fail
  with_reducible refine (HL.out w10).mono ?_
  rintro e w11 ⟨rfl, hb⟩
  have HS12 := Lib.hid (HS11.out.later hb)
  clear hb
  go_wp2
  go_ret
  exact ⟨rfl, HS12.out.bel⟩
end Go.Proofs.YthlckipcgogogaaGreatDoor
/- The walk of PlansFaults: the twelve cases of its switch. -/
namespace Go.Proofs.YthlckipcgogogaaGreatDoor
set_option linter.unusedVariables false
open Go.RowKit

theorem faults_all (x : Nn) (s : Option Addr) (c : Nat) (u v : Int) (w : World) (hp : PowOk w) (hx : NnAt w x s c) (hu : (Lit.int .u8 u).wf = true) (hv : (Lit.int .u8 v).wf = true) :
    Calls Tryz.prog 4 #[nnV x s c, .int .u8 u, .int .u8 v] w fun e w' => e = .returned (.bool true) ∧ Below w.heap.size w w' := by
  have hu2 := wf_u8.1 hu
  have hv2 := wf_u8.1 hv
  obtain ⟨k, hk⟩ : ∃ k, k = u.tmod 12 := ⟨_, rfl⟩
  have hk0 : 0 ≤ k ∧ k < 12 := by rw [hk, Int.tmod_eq_emod_of_nonneg hu2.1]; omega
  have h : k = 0 ∨ k = 1 ∨ k = 2 ∨ k = 3 ∨ k = 4 ∨ k = 5 ∨ k = 6 ∨ k = 7 ∨ k = 8 ∨ k = 9 ∨ k = 10 ∨ k = 11 := by omega
  rcases h with h | h | h | h | h | h | h | h | h | h | h | h
  · exact faults_walk0 x s c u v w hx hp hv2.1 hv2.2 (hk.symm.trans h)
  · exact faults_walk1 x s c u v w hx hp hv2.1 hv2.2 (hk.symm.trans h)
  · exact faults_walk2 x s c u v w hx hp hv2.1 hv2.2 (hk.symm.trans h)
  · exact faults_walk3 x s c u v w hx hp hv2.1 hv2.2 (hk.symm.trans h)
  · exact faults_walk4 x s c u v w hx hp hv2.1 hv2.2 (hk.symm.trans h)
  · exact faults_walk5 x s c u v w hx hp hv2.1 hv2.2 (hk.symm.trans h)
  · exact faults_walk6 x s c u v w hx hp hv2.1 hv2.2 (hk.symm.trans h)
  · exact faults_walk7 x s c u v w hx hp hv2.1 hv2.2 (hk.symm.trans h)
  · exact faults_walk8 x s c u v w hx hp hv2.1 hv2.2 (hk.symm.trans h)
  · exact faults_walk9 x s c u v w hx hp hv2.1 hv2.2 (hk.symm.trans h)
  · exact faults_walk10 x s c u v w hx hp hv2.1 hv2.2 (hk.symm.trans h)
  · exact faults_walk11 x s c u v w hx hp hv2.1 hv2.2 (hk.symm.trans h)
end Go.Proofs.YthlckipcgogogaaGreatDoor
