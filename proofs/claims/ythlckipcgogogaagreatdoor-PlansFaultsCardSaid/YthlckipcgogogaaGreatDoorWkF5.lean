/- Joined: WkF0 WkF1 WkF2 WkF3 WkF4 WkF5. -/
import Derived.Test.YthlckipcgogogaaGreatDoorPfTail
import Derived.Deep.Cut
import Derived.Deep.MidRow
import Derived.Deep.CutBlock
import Derived.BigQuiet
import Derived.Deep.RegionHeld3
import Derived.Deep.RegionLaw
import Derived.BigRegion
import Derived.IntWalk
import Derived.Test.YthlckipcgogogaaGreatDoorPlCells
/- The walk of PlansFaults, case 0. -/
namespace Go.Proofs.YthlckipcgogogaaGreatDoor
set_option linter.unusedVariables false
open Go.RowKit

set_option maxRecDepth 100000 in
set_option maxHeartbeats 4000000 in
theorem faults_walk0 (x : Nn) (s : Option Addr) (c : Nat) (u v : Int) (w : World) (hx : NnAt w x s c) (hflag : PowOk w) (hv0 : 0 ≤ v) (hv1 : v ≤ 255) (hu : u.tmod 12 = 0) : Calls Tryz.prog 4 #[nnV x s c, .int .u8 u, .int .u8 v] w fun e w' => e = .returned (.bool true) ∧ Below w.heap.size w w' := by
  have HFl := Lib.hid hflag
  clear hflag
  have hOf := fun (W : World) (h : NnAt W x s c) => of_any x s c W h
  obtain ⟨p0, hp0⟩ : ∃ p, p = x.codes.getD 0 0 := ⟨_, rfl⟩
  obtain ⟨p1, hp1⟩ : ∃ p, p = x.codes.getD 1 0 := ⟨_, rfl⟩
  obtain ⟨p2, hp2⟩ : ∃ p, p = x.codes.getD 2 0 := ⟨_, rfl⟩
  obtain ⟨p3, hp3⟩ : ∃ p, p = x.codes.getD 3 0 := ⟨_, rfl⟩
  obtain ⟨p4, hp4⟩ : ∃ p, p = x.codes.getD 4 0 := ⟨_, rfl⟩
  obtain ⟨p5, hp5⟩ : ∃ p, p = x.codes.getD 5 0 := ⟨_, rfl⟩
  obtain ⟨t0, ht0⟩ : ∃ p, p = x.tree.getD 0 0 := ⟨_, rfl⟩
  obtain ⟨t1, ht1⟩ : ∃ p, p = x.tree.getD 1 0 := ⟨_, rfl⟩
  obtain ⟨t2, ht2⟩ : ∃ p, p = x.tree.getD 2 0 := ⟨_, rfl⟩
  obtain ⟨t3, ht3⟩ : ∃ p, p = x.tree.getD 3 0 := ⟨_, rfl⟩
  obtain ⟨t4, ht4⟩ : ∃ p, p = x.tree.getD 4 0 := ⟨_, rfl⟩
  obtain ⟨t5, ht5⟩ : ∃ p, p = x.tree.getD 5 0 := ⟨_, rfl⟩
  obtain ⟨m, hm⟩ : ∃ m, m = x.extra.length := ⟨_, rfl⟩
  have HCs : Hid (nnCells x s m c = [.int .u8 (x.many : Nat), .int .u8 (p0 : Nat), .int .u8 (p1 : Nat), .int .u8 (p2 : Nat), .int .u8 (p3 : Nat), .int .u8 (p4 : Nat), .int .u8 (p5 : Nat), .int .u8 (x.ends : Nat), .int .u8 (t0 : Nat), .int .u8 (t1 : Nat), .int .u8 (t2 : Nat), .int .u8 (t3 : Nat), .int .u8 (t4 : Nat), .int .u8 (t5 : Nat), .slice s m c, .int .u8 (x.rate : Nat), .int .u8 (x.room : Nat), .int .u8 (x.k0 : Nat), .int .u8 (x.k1 : Nat)]) := Lib.hid (by unfold nnCells; rw [hp0, hp1, hp2, hp3, hp4, hp5, ht0, ht1, ht2, ht3, ht4, ht5])
  unfold nnV at hOf ⊢
  rw [← hm, HCs.out] at hOf
  rw [← hm, HCs.out]
  have HOf := Lib.hid hOf
  have HXn := Lib.hid hx
  have HL := Lib.hid lives_any
  clear hOf hx hm hp0 hp1 hp2 hp3 hp4 hp5 ht0 ht1 ht2 ht3 ht4 ht5
  go_enter Tryz.func4, Tryz.ntmps4
  go_upto_region 1 with (fail)
  obtain ⟨W0, hW0⟩ : ∃ W0, W0 = w.alloc (.cells #[.int .u8 (x.many : Nat), .int .u8 (p0 : Nat), .int .u8 (p1 : Nat), .int .u8 (p2 : Nat), .int .u8 (p3 : Nat), .int .u8 (p4 : Nat), .int .u8 (p5 : Nat), .int .u8 (x.ends : Nat), .int .u8 (t0 : Nat), .int .u8 (t1 : Nat), .int .u8 (t2 : Nat), .int .u8 (t3 : Nat), .int .u8 (t4 : Nat), .int .u8 (t5 : Nat), .slice s m c, .int .u8 (x.rate : Nat), .int .u8 (x.room : Nat), .int .u8 (x.k0 : Nat), .int .u8 (x.k1 : Nat)] 26) := ⟨_, rfl⟩
  have hB0 : Below w.heap.size w W0 := by rw [hW0]; exact below_alloc w _
  have ho0 : Own W0 w.heap.size 26 [.int .u8 (x.many : Nat), .int .u8 (p0 : Nat), .int .u8 (p1 : Nat), .int .u8 (p2 : Nat), .int .u8 (p3 : Nat), .int .u8 (p4 : Nat), .int .u8 (p5 : Nat), .int .u8 (x.ends : Nat), .int .u8 (t0 : Nat), .int .u8 (t1 : Nat), .int .u8 (t2 : Nat), .int .u8 (t3 : Nat), .int .u8 (t4 : Nat), .int .u8 (t5 : Nat), .slice s m c, .int .u8 (x.rate : Nat), .int .u8 (x.room : Nat), .int .u8 (x.k0 : Nat), .int .u8 (x.k1 : Nat)] := by rw [hW0]; exact heap_alloc_new w _
  rw [← hW0]
  have HRa := Lib.hid (range_own ho0)
  have HB0 := Lib.hid hB0
  clear hW0 ho0 hB0
  iterate 2 go_step
  refine wp_load_mid 26 (.tmp 3) (by rfl) w.heap.size 0 (by rfl) [.int .u8 (x.many : Nat), .int .u8 (p0 : Nat), .int .u8 (p1 : Nat), .int .u8 (p2 : Nat), .int .u8 (p3 : Nat), .int .u8 (p4 : Nat), .int .u8 (p5 : Nat), .int .u8 (x.ends : Nat), .int .u8 (t0 : Nat), .int .u8 (t1 : Nat), .int .u8 (t2 : Nat), .int .u8 (t3 : Nat), .int .u8 (t4 : Nat), .int .u8 (t5 : Nat), .slice s m c, .int .u8 (x.rate : Nat), .int .u8 (x.room : Nat), .int .u8 (x.k0 : Nat), .int .u8 (x.k1 : Nat)] _ HRa.out Tryz.underlying26 (by rfl) (by kernel_rfl) ?_
  go_wp2_with fail
  refine (HOf.out _ (HXn.out.later HB0.out)).mono ?_
  rintro e w1 ⟨p, aP, n, cP, aL, m2, cL, hPF, rfl, hP, hL, hb⟩
  have hb0 : Below w.heap.size w w1 := HB0.out.trans (hb.mono HB0.out.size)
  obtain ⟨b, hbz⟩ : ∃ b, b = w1.heap.size := ⟨_, rfl⟩
  have hn2 := hPF.n2
  have hn6 := hPF.n6
  have hcap := hP.le
  have hcap2 := hP.max
  have hcap3 := hL.le
  have hcap4 := hL.max
  unfold maxLen at hcap2 hcap4
  have HPF := Lib.hid hPF
  clear HOf
  have hfine := valid_fine hP hL hPF.valid
  have hTx := ltext_any p aP n cP aL m2 cL w1 hP hL hPF.valid (HFl.out.later hb0)
  unfold TxOut at hTx
  unfold planV at hTx
  obtain ⟨Ls, hLs⟩ : ∃ Ls, Ls = linesP p := ⟨_, rfl⟩
  have hN := linesP_len p
  have hHd := headL_len p
  have hnn : Ls ≠ [] := by rw [hLs]; intro h; rw [h] at hN; simp at hN
  have hshort := short_text (p := p) (by have := hPF.len; have := hPF.n6; omega) (by have := hPF.llen; have := hPF.m11; omega)
  have hnds : nds (unn Ls) = Ls := nds_unn Ls hnn (by rw [hLs]; exact lines_noN hfine)
  have htx : partText p 4 = unn Ls ++ [10] := by rw [text_nl, unn_nl Ls hnn, hLs]
  rw [← hLs] at hN hshort
  have hul : (unn Ls).length ≤ 2000 := by rw [← unn_nl Ls hnn] at hshort; simp only [List.length_append] at hshort; omega
  rw [htx] at hTx
  have hTr := fun (X : World) => trim_any (unn Ls) X (by omega)
  have hSp := fun (X : World) => linesN_any (unn Ls) X (by omega)
  rw [hnds] at hSp
  obtain ⟨N, hNN⟩ : ∃ N, N = Ls.length := ⟨_, rfl⟩
  rw [← hNN] at hSp hN
  obtain ⟨T1, hT1⟩ : ∃ T, T = bs (unn Ls ++ [10]) := ⟨_, rfl⟩
  obtain ⟨T2, hT2⟩ : ∃ T, T = bs (unn Ls) := ⟨_, rfl⟩
  rw [← hT1] at hTx hTr
  rw [← hT2] at hTr hSp
  have HTx := Lib.hid hTx
  have HTr := Lib.hid hTr
  have HSp := Lib.hid hSp
  have HFi := Lib.hid (And.intro hfine hPF.valid)
  have HLs := Lib.hid (And.intro hLs hNN)
  have HSh := Lib.hid hshort
  have hN5 : 5 ≤ N := by have := hPF.n2; have := hPF.len; omega
  have hN20 : N ≤ 20 := by have := hPF.n6; have := hPF.len; have := hPF.llen; have := hPF.m11; omega
  have HNl := Lib.hid (show N = p.P.length + p.L.length + 3 by omega)
  have HLp := Lib.hid (show 0 < p.L.length by rw [hPF.eq]; exact lines_pos x)
  have HB1 := Lib.hid hb0
  clear hTx hTr hSp hfine hP hL hb hb0 hcap hcap2 hcap3 hcap4 hN hHd hnn hshort hnds htx hul hT1 hT2 hLs hNN hbz b
  go_wp2_with fail
  with_reducible refine HTx.out.mono ?_
  rintro e w2 ⟨rfl, hb⟩
  have HB2 := Lib.hid (HB1.out.trans (hb.mono HB1.out.size))
  clear hb HTx
  go_wp2_with fail
  with_reducible refine (HTr.out w2).mono ?_
  rintro e w3 ⟨rfl, rfl⟩
  go_wp2_with fail
  with_reducible refine (HSp.out w3).mono ?_
  rintro e w4 ⟨rfl, hw4⟩
  have hb4 : Below w3.heap.size w3 w4 := by rw [hw4]; exact below_alloc _ _
  have ho4 : Own w4 w3.heap.size 9 (strC Ls) := by rw [hw4]; exact heap_alloc_new _ _
  obtain ⟨b0, hb0⟩ : ∃ b, b = w3.heap.size := ⟨_, rfl⟩
  rw [← hb0] at ho4 ⊢
  have HB4 := Lib.hid (HB2.out.trans (hb4.mono HB2.out.size))
  have HW0 := Lib.hid (show w.heap.size ≤ b0 by rw [hb0]; exact HB2.out.size)
  have HO4 := Lib.hid ho4
  obtain ⟨i, hi⟩ : ∃ i, i = v.toNat % N := ⟨_, rfl⟩
  have hrem : v.tmod (N : Int) = (i : Int) := by
    rw [Int.tmod_eq_emod_of_nonneg hv0, hi, Int.natCast_emod, Int.toNat_of_nonneg hv0]
  have hiN : i < N := by rw [hi]; exact Nat.mod_lt _ (by omega)
  have hN0 : ((N : Int) == 0) = false := by simp; omega
  clear hw4 hb4 ho4 hb0 hi HTr HSp
  go_upto_region 4 with (fail)
  obtain ⟨W5, hW5⟩ : ∃ X, X = w4.alloc (.cells #[.int .i64 4, .int .i64 ((i : Int) + 1)] 37) := ⟨_, rfl⟩
  have hb5 : Below w4.heap.size w4 W5 := by rw [hW5]; exact below_alloc _ _
  have hf5 : Own W5 w4.heap.size 37 [.int .i64 4, .int .i64 ((i : Int) + 1)] := by rw [hW5]; exact heap_alloc_new _ _
  have ho5 := HO4.out.below hb5 HO4.out.lt
  obtain ⟨wb, hwb⟩ : ∃ b, b = w4.heap.size := ⟨_, rfl⟩
  rw [← hW5, ← hwb]
  rw [← hwb] at hf5
  have hne : b0 ≠ wb := by have := HO4.out.lt; omega
  have HS := Lib.hid (show FS w b0 wb Ls 4 ((i : Int) + 1) W5 from ⟨HB4.out.trans (hb5.mono HB4.out.size), ho5, hf5, hne, HW0.out, by have := HB4.out.size; omega⟩)
  clear hW5 hb5 hf5 ho5 hwb HO4 hne HW0 HB4 HB2 HB1
  obtain ⟨hc0, hz0⟩ := HS.out.elem i (by rw [← HLs.out.2]; exact hiN)
  obtain ⟨T3, hT3⟩ : ∃ T, T = bs (Ls.getD i []) := ⟨_, rfl⟩
  have hg := nlT_get Ls i
  have hT3z : T3.size = (Ls.getD i []).length := by rw [hT3, bs_len]
  have hsh := HSh.out
  rw [← hT3] at hc0
  obtain ⟨T4, eT4, zT4, bT4, oT4⟩ := cat_str T3 ⟨#[32]⟩ (by rw [hT3z]; show _ + 1 ≤ _; omega)
  have hT4 : T4 = bs (Ls.getD i [] ++ [32]) := by rw [eT4, hT3]; exact bs_of (by simp [bs])
  have HT4 := Lib.hid hT4
  clear hT3 hT3z eT4 hT4
  go_upto_region 41 with (fail)
  obtain ⟨W7, hW7⟩ : ∃ X, X = W5.setCell ⟨b0, i, none⟩ (.string T4) := ⟨_, rfl⟩
  have hHS7 : FS w b0 wb (Ls.set i (Ls.getD i [] ++ [32])) 4 ((i : Int) + 1) W7 := by rw [hW7]; exact (by rw [HT4.out]; exact HS.out.line i _)
  have hgoal := hW7
  rw [← hW7]
  have HS7 := Lib.hid hHS7
  clear hW7 hHS7 hgoal
  have hdl : (Ls.getD i [] ++ [32]).length ≤ 2100 := by simp only [List.length_append, List.length_cons, List.length_nil]; omega
  have hlen : (Ls.set i (Ls.getD i [] ++ [32])).length = N := by rw [List.length_set, HLs.out.2]
  have hnl : (nlT (Ls.set i (Ls.getD i [] ++ [32]))).length ≤ 5000 := Nat.le_trans (nlT_set _ _ _) (by have := HSh.out; omega)
  have hres : ResF (nlT (Ls.set i (Ls.getD i [] ++ [32]))) 4 (i + 1) := by rw [HLs.out.1]; exact res0 HFi.out.1 (by rw [← HLs.out.1, ← HLs.out.2]; exact hiN)
  have hkk : ((i + 1 : Nat) : Int) = ((i : Int) + 1) := by omega
  clear hdl hg hsh hc0 hz0
  have hJ0 := fun (Lf : List (List UInt8)) (e : Lf = Ls.set i (Ls.getD i [] ++ [32])) (h3 : (Lib.join Lf [10]).length ≤ 1048576) => joinB_any b0 N N (strC Lf) Lf 10 W7 HS7.out.row.lt rfl (by rw [e]; exact hlen) (Nat.le_refl _) (fun i hi => by rw [e]; exact HS7.out.row.cell i (by rw [strC_length, hlen]; exact hi)) (by omega) h3
  have HSf := Lib.hid HS7.out.fw
  clear HS7
  obtain ⟨Lf, hLf⟩ : ∃ l, l = Ls.set i (Ls.getD i [] ++ [32]) := ⟨_, rfl⟩
  rw [← hLf] at hlen hnl hres
  have hLf0 : Lf ≠ [] := by intro h; rw [h] at hlen; simp at hlen; omega
  have hun := unn_nl Lf hLf0
  have hul : (unn Lf).length ≤ 5000 := by have := congrArg List.length hun; rw [List.length_append] at this; omega
  have hJ := hJ0 Lf hLf (by rw [join_unn]; omega)
  rw [join_unn] at hJ
  obtain ⟨S1, hS1⟩ : ∃ S, S = bs (unn Lf) := ⟨_, rfl⟩
  have hS1z : S1.size = (unn Lf).length := by rw [hS1, bs_len]
  rw [← hS1] at hJ
  obtain ⟨S2, eS2, zS2, bS2, oS2⟩ := cat_str S1 ⟨#[10]⟩ (by rw [hS1z]; show _ + 1 ≤ _; omega)
  have hS2 : S2 = bs (nlT Lf) := by rw [← hun, eS2, hS1]; exact bs_of (by simp [bs])
  have hRd := fun (X : World) => read_resK hres (by omega) hkk hS2 X
  have HJ := Lib.hid hJ
  have HRd := Lib.hid hRd
  have HZs := Lib.hid (And.intro hS1z hul)
  clear hJ0 hLf hlen hnl hres hkk hLf0 hun hul hJ hS1 hS1z hS2 eS2 zS2 hRd 
  go_wp2_with fail
  with_reducible refine HJ.out.mono ?_
  rintro e w8 ⟨rfl, hb⟩
  have HS8 := Lib.hid (HSf.out.later hb)
  clear hb HJ HSf
  go_wp2_with fail
  with_reducible refine (HRd.out w8).mono ?_
  rintro e w9 ⟨rfl, hb⟩
  have HS9 := Lib.hid (HS8.out.later hb)
  clear hb HRd HS8
  go_upto_region 45 with (fail)
  obtain ⟨W9, hW9⟩ : ∃ X, X = (w9.alloc (.cells #[.slice none 0 0, .slice none 0 0, .int .i64 0, .int .i64 0, .int .i64 0, .int .i64 0, .int .i64 0] 31)).alloc (.cells #[.int .i64 4, .int .i64 ((i : Int) + 1)] 37) := ⟨_, rfl⟩
  have x4 := below_alloc w9 (.cells #[.slice none 0 0, .slice none 0 0, .int .i64 0, .int .i64 0, .int .i64 0, .int .i64 0, .int .i64 0] 31)
  have o4 : Own (w9.alloc (.cells #[.slice none 0 0, .slice none 0 0, .int .i64 0, .int .i64 0, .int .i64 0, .int .i64 0, .int .i64 0] 31)) w9.heap.size 31 [.slice none 0 0, .slice none 0 0, .int .i64 0, .int .i64 0, .int .i64 0, .int .i64 0, .int .i64 0] := heap_alloc_new w9 _
  have s4 := World.size_alloc w9 (.cells #[.slice none 0 0, .slice none 0 0, .int .i64 0, .int .i64 0, .int .i64 0, .int .i64 0, .int .i64 0] 31)
  have x5 : Below (w9.alloc (.cells #[.slice none 0 0, .slice none 0 0, .int .i64 0, .int .i64 0, .int .i64 0, .int .i64 0, .int .i64 0] 31)).heap.size (w9.alloc (.cells #[.slice none 0 0, .slice none 0 0, .int .i64 0, .int .i64 0, .int .i64 0, .int .i64 0, .int .i64 0] 31)) W9 := by rw [hW9]; exact below_alloc _ _
  have o5 : Own W9 (w9.heap.size + 1) 37 [.int .i64 4, .int .i64 ((i : Int) + 1)] := by rw [hW9]; rw [← s4]; exact heap_alloc_new _ _
  have oq : Own W9 w9.heap.size 31 _ := o4.below x5 o4.lt
  have x6 : Below w9.heap.size w9 W9 := x4.trans (x5.mono x4.size)
  obtain ⟨qb9, hqb⟩ : ∃ x, x = w9.heap.size := ⟨_, rfl⟩
  obtain ⟨fb9, hfb⟩ : ∃ x, x = w9.heap.size + 1 := ⟨_, rfl⟩
  rw [← hW9, ← hfb, ← hqb]
  rw [← hfb] at o5
  rw [← hqb] at oq
  have HS10 := Lib.hid (HS9.out.later x6)
  obtain ⟨e0, e1, e2, e3, e4, e5, e6⟩ : _ ∧ _ ∧ _ ∧ _ ∧ _ ∧ _ ∧ _ := ⟨oq.cell 0 (by simp), oq.cell 1 (by simp), oq.cell 2 (by simp), oq.cell 3 (by simp), oq.cell 4 (by simp), oq.cell 5 (by simp), oq.cell 6 (by simp)⟩
  obtain ⟨f0, f1⟩ : _ ∧ _ := ⟨o5.cell 0 (by simp), o5.cell 1 (by simp)⟩
  simp only [List.getD_cons_zero, List.getD_cons_succ] at e0 e1 e2 e3 e4 e5 e6 f0 f1
  obtain ⟨hc1, hc2, hz1, hz2⟩ := HS10.out.cells
  have hE9 := same_yes emptyPn none 0 0 none 0 0 none 0 none 0 W9 (PRow.of_nil W9) (LRow.of_nil W9) (PRow.of_nil W9) (LRow.of_nil W9)
  unfold planV emptyPn at hE9
  have HE9 := Lib.hid hE9
  have heq : ∀ X, (binOp .eql 37 (.agg #[.int .i64 4, .int .i64 ((i : Int) + 1)]) (.agg #[.int .i64 4, .int .i64 ((i : Int) + 1)])).run Tryz.prog X = .ok (.bool true) X := fun X => by rw [eqlFt]; simp
  clear hW9 x4 o4 s4 x5 o5 oq x6 hqb hfb hE9 HS9 hz1 hz2
  go_wp2_with fail
  with_reducible refine HE9.out.mono ?_
  rintro e w10 ⟨rfl, hb⟩
  have HS11 := Lib.hid (HS10.out.later hb)
  clear hb e0 e1 e2 e3 e4 e5 e6 f0 f1 hc1 hc2
  go_wp2_with fail
  with_reducible refine (HL.out w10).mono ?_
  rintro e w11 ⟨rfl, hb⟩
  have HS12 := Lib.hid (HS11.out.later hb)
  clear hb
  go_wp2
  go_ret
  exact ⟨rfl, HS12.out.bel⟩
end Go.Proofs.YthlckipcgogogaaGreatDoor
/- The walk of PlansFaults, case 1. -/
namespace Go.Proofs.YthlckipcgogogaaGreatDoor
set_option linter.unusedVariables false
open Go.RowKit

set_option maxRecDepth 100000 in
set_option maxHeartbeats 4000000 in
theorem faults_walk1 (x : Nn) (s : Option Addr) (c : Nat) (u v : Int) (w : World) (hx : NnAt w x s c) (hflag : PowOk w) (hv0 : 0 ≤ v) (hv1 : v ≤ 255) (hu : u.tmod 12 = 1) : Calls Tryz.prog 4 #[nnV x s c, .int .u8 u, .int .u8 v] w fun e w' => e = .returned (.bool true) ∧ Below w.heap.size w w' := by
  have HFl := Lib.hid hflag
  clear hflag
  have hOf := fun (W : World) (h : NnAt W x s c) => of_any x s c W h
  obtain ⟨p0, hp0⟩ : ∃ p, p = x.codes.getD 0 0 := ⟨_, rfl⟩
  obtain ⟨p1, hp1⟩ : ∃ p, p = x.codes.getD 1 0 := ⟨_, rfl⟩
  obtain ⟨p2, hp2⟩ : ∃ p, p = x.codes.getD 2 0 := ⟨_, rfl⟩
  obtain ⟨p3, hp3⟩ : ∃ p, p = x.codes.getD 3 0 := ⟨_, rfl⟩
  obtain ⟨p4, hp4⟩ : ∃ p, p = x.codes.getD 4 0 := ⟨_, rfl⟩
  obtain ⟨p5, hp5⟩ : ∃ p, p = x.codes.getD 5 0 := ⟨_, rfl⟩
  obtain ⟨t0, ht0⟩ : ∃ p, p = x.tree.getD 0 0 := ⟨_, rfl⟩
  obtain ⟨t1, ht1⟩ : ∃ p, p = x.tree.getD 1 0 := ⟨_, rfl⟩
  obtain ⟨t2, ht2⟩ : ∃ p, p = x.tree.getD 2 0 := ⟨_, rfl⟩
  obtain ⟨t3, ht3⟩ : ∃ p, p = x.tree.getD 3 0 := ⟨_, rfl⟩
  obtain ⟨t4, ht4⟩ : ∃ p, p = x.tree.getD 4 0 := ⟨_, rfl⟩
  obtain ⟨t5, ht5⟩ : ∃ p, p = x.tree.getD 5 0 := ⟨_, rfl⟩
  obtain ⟨m, hm⟩ : ∃ m, m = x.extra.length := ⟨_, rfl⟩
  have HCs : Hid (nnCells x s m c = [.int .u8 (x.many : Nat), .int .u8 (p0 : Nat), .int .u8 (p1 : Nat), .int .u8 (p2 : Nat), .int .u8 (p3 : Nat), .int .u8 (p4 : Nat), .int .u8 (p5 : Nat), .int .u8 (x.ends : Nat), .int .u8 (t0 : Nat), .int .u8 (t1 : Nat), .int .u8 (t2 : Nat), .int .u8 (t3 : Nat), .int .u8 (t4 : Nat), .int .u8 (t5 : Nat), .slice s m c, .int .u8 (x.rate : Nat), .int .u8 (x.room : Nat), .int .u8 (x.k0 : Nat), .int .u8 (x.k1 : Nat)]) := Lib.hid (by unfold nnCells; rw [hp0, hp1, hp2, hp3, hp4, hp5, ht0, ht1, ht2, ht3, ht4, ht5])
  unfold nnV at hOf ⊢
  rw [← hm, HCs.out] at hOf
  rw [← hm, HCs.out]
  have HOf := Lib.hid hOf
  have HXn := Lib.hid hx
  have HL := Lib.hid lives_any
  clear hOf hx hm hp0 hp1 hp2 hp3 hp4 hp5 ht0 ht1 ht2 ht3 ht4 ht5
  go_enter Tryz.func4, Tryz.ntmps4
  go_upto_region 1 with (fail)
  obtain ⟨W0, hW0⟩ : ∃ W0, W0 = w.alloc (.cells #[.int .u8 (x.many : Nat), .int .u8 (p0 : Nat), .int .u8 (p1 : Nat), .int .u8 (p2 : Nat), .int .u8 (p3 : Nat), .int .u8 (p4 : Nat), .int .u8 (p5 : Nat), .int .u8 (x.ends : Nat), .int .u8 (t0 : Nat), .int .u8 (t1 : Nat), .int .u8 (t2 : Nat), .int .u8 (t3 : Nat), .int .u8 (t4 : Nat), .int .u8 (t5 : Nat), .slice s m c, .int .u8 (x.rate : Nat), .int .u8 (x.room : Nat), .int .u8 (x.k0 : Nat), .int .u8 (x.k1 : Nat)] 26) := ⟨_, rfl⟩
  have hB0 : Below w.heap.size w W0 := by rw [hW0]; exact below_alloc w _
  have ho0 : Own W0 w.heap.size 26 [.int .u8 (x.many : Nat), .int .u8 (p0 : Nat), .int .u8 (p1 : Nat), .int .u8 (p2 : Nat), .int .u8 (p3 : Nat), .int .u8 (p4 : Nat), .int .u8 (p5 : Nat), .int .u8 (x.ends : Nat), .int .u8 (t0 : Nat), .int .u8 (t1 : Nat), .int .u8 (t2 : Nat), .int .u8 (t3 : Nat), .int .u8 (t4 : Nat), .int .u8 (t5 : Nat), .slice s m c, .int .u8 (x.rate : Nat), .int .u8 (x.room : Nat), .int .u8 (x.k0 : Nat), .int .u8 (x.k1 : Nat)] := by rw [hW0]; exact heap_alloc_new w _
  rw [← hW0]
  have HRa := Lib.hid (range_own ho0)
  have HB0 := Lib.hid hB0
  clear hW0 ho0 hB0
  iterate 2 go_step
  refine wp_load_mid 26 (.tmp 3) (by rfl) w.heap.size 0 (by rfl) [.int .u8 (x.many : Nat), .int .u8 (p0 : Nat), .int .u8 (p1 : Nat), .int .u8 (p2 : Nat), .int .u8 (p3 : Nat), .int .u8 (p4 : Nat), .int .u8 (p5 : Nat), .int .u8 (x.ends : Nat), .int .u8 (t0 : Nat), .int .u8 (t1 : Nat), .int .u8 (t2 : Nat), .int .u8 (t3 : Nat), .int .u8 (t4 : Nat), .int .u8 (t5 : Nat), .slice s m c, .int .u8 (x.rate : Nat), .int .u8 (x.room : Nat), .int .u8 (x.k0 : Nat), .int .u8 (x.k1 : Nat)] _ HRa.out Tryz.underlying26 (by rfl) (by kernel_rfl) ?_
  go_wp2_with fail
  refine (HOf.out _ (HXn.out.later HB0.out)).mono ?_
  rintro e w1 ⟨p, aP, n, cP, aL, m2, cL, hPF, rfl, hP, hL, hb⟩
  have hb0 : Below w.heap.size w w1 := HB0.out.trans (hb.mono HB0.out.size)
  obtain ⟨b, hbz⟩ : ∃ b, b = w1.heap.size := ⟨_, rfl⟩
  have hn2 := hPF.n2
  have hn6 := hPF.n6
  have hcap := hP.le
  have hcap2 := hP.max
  have hcap3 := hL.le
  have hcap4 := hL.max
  unfold maxLen at hcap2 hcap4
  have HPF := Lib.hid hPF
  clear HOf
  have hfine := valid_fine hP hL hPF.valid
  have hTx := ltext_any p aP n cP aL m2 cL w1 hP hL hPF.valid (HFl.out.later hb0)
  unfold TxOut at hTx
  unfold planV at hTx
  obtain ⟨Ls, hLs⟩ : ∃ Ls, Ls = linesP p := ⟨_, rfl⟩
  have hN := linesP_len p
  have hHd := headL_len p
  have hnn : Ls ≠ [] := by rw [hLs]; intro h; rw [h] at hN; simp at hN
  have hshort := short_text (p := p) (by have := hPF.len; have := hPF.n6; omega) (by have := hPF.llen; have := hPF.m11; omega)
  have hnds : nds (unn Ls) = Ls := nds_unn Ls hnn (by rw [hLs]; exact lines_noN hfine)
  have htx : partText p 4 = unn Ls ++ [10] := by rw [text_nl, unn_nl Ls hnn, hLs]
  rw [← hLs] at hN hshort
  have hul : (unn Ls).length ≤ 2000 := by rw [← unn_nl Ls hnn] at hshort; simp only [List.length_append] at hshort; omega
  rw [htx] at hTx
  have hTr := fun (X : World) => trim_any (unn Ls) X (by omega)
  have hSp := fun (X : World) => linesN_any (unn Ls) X (by omega)
  rw [hnds] at hSp
  obtain ⟨N, hNN⟩ : ∃ N, N = Ls.length := ⟨_, rfl⟩
  rw [← hNN] at hSp hN
  obtain ⟨T1, hT1⟩ : ∃ T, T = bs (unn Ls ++ [10]) := ⟨_, rfl⟩
  obtain ⟨T2, hT2⟩ : ∃ T, T = bs (unn Ls) := ⟨_, rfl⟩
  rw [← hT1] at hTx hTr
  rw [← hT2] at hTr hSp
  have HTx := Lib.hid hTx
  have HTr := Lib.hid hTr
  have HSp := Lib.hid hSp
  have HFi := Lib.hid (And.intro hfine hPF.valid)
  have HLs := Lib.hid (And.intro hLs hNN)
  have HSh := Lib.hid hshort
  have hN5 : 5 ≤ N := by have := hPF.n2; have := hPF.len; omega
  have hN20 : N ≤ 20 := by have := hPF.n6; have := hPF.len; have := hPF.llen; have := hPF.m11; omega
  have HNl := Lib.hid (show N = p.P.length + p.L.length + 3 by omega)
  have HLp := Lib.hid (show 0 < p.L.length by rw [hPF.eq]; exact lines_pos x)
  have HB1 := Lib.hid hb0
  clear hTx hTr hSp hfine hP hL hb hb0 hcap hcap2 hcap3 hcap4 hN hHd hnn hshort hnds htx hul hT1 hT2 hLs hNN hbz b
  go_wp2_with fail
  with_reducible refine HTx.out.mono ?_
  rintro e w2 ⟨rfl, hb⟩
  have HB2 := Lib.hid (HB1.out.trans (hb.mono HB1.out.size))
  clear hb HTx
  go_wp2_with fail
  with_reducible refine (HTr.out w2).mono ?_
  rintro e w3 ⟨rfl, rfl⟩
  go_wp2_with fail
  with_reducible refine (HSp.out w3).mono ?_
  rintro e w4 ⟨rfl, hw4⟩
  have hb4 : Below w3.heap.size w3 w4 := by rw [hw4]; exact below_alloc _ _
  have ho4 : Own w4 w3.heap.size 9 (strC Ls) := by rw [hw4]; exact heap_alloc_new _ _
  obtain ⟨b0, hb0⟩ : ∃ b, b = w3.heap.size := ⟨_, rfl⟩
  rw [← hb0] at ho4 ⊢
  have HB4 := Lib.hid (HB2.out.trans (hb4.mono HB2.out.size))
  have HW0 := Lib.hid (show w.heap.size ≤ b0 by rw [hb0]; exact HB2.out.size)
  have HO4 := Lib.hid ho4
  obtain ⟨i, hi⟩ : ∃ i, i = v.toNat % N := ⟨_, rfl⟩
  have hrem : v.tmod (N : Int) = (i : Int) := by
    rw [Int.tmod_eq_emod_of_nonneg hv0, hi, Int.natCast_emod, Int.toNat_of_nonneg hv0]
  have hiN : i < N := by rw [hi]; exact Nat.mod_lt _ (by omega)
  have hN0 : ((N : Int) == 0) = false := by simp; omega
  clear hw4 hb4 ho4 hb0 hi HTr HSp
  go_upto_region 4 with (fail)
  obtain ⟨W5, hW5⟩ : ∃ X, X = w4.alloc (.cells #[.int .i64 4, .int .i64 ((i : Int) + 1)] 37) := ⟨_, rfl⟩
  have hb5 : Below w4.heap.size w4 W5 := by rw [hW5]; exact below_alloc _ _
  have hf5 : Own W5 w4.heap.size 37 [.int .i64 4, .int .i64 ((i : Int) + 1)] := by rw [hW5]; exact heap_alloc_new _ _
  have ho5 := HO4.out.below hb5 HO4.out.lt
  obtain ⟨wb, hwb⟩ : ∃ b, b = w4.heap.size := ⟨_, rfl⟩
  rw [← hW5, ← hwb]
  rw [← hwb] at hf5
  have hne : b0 ≠ wb := by have := HO4.out.lt; omega
  have HS := Lib.hid (show FS w b0 wb Ls 4 ((i : Int) + 1) W5 from ⟨HB4.out.trans (hb5.mono HB4.out.size), ho5, hf5, hne, HW0.out, by have := HB4.out.size; omega⟩)
  clear hW5 hb5 hf5 ho5 hwb HO4 hne HW0 HB4 HB2 HB1
  obtain ⟨hc0, hz0⟩ := HS.out.elem i (by rw [← HLs.out.2]; exact hiN)
  obtain ⟨T3, hT3⟩ : ∃ T, T = bs (Ls.getD i []) := ⟨_, rfl⟩
  have hg := nlT_get Ls i
  have hT3z : T3.size = (Ls.getD i []).length := by rw [hT3, bs_len]
  have hsh := HSh.out
  rw [← hT3] at hc0
  obtain ⟨T4, eT4, zT4, bT4, oT4⟩ := cat_str ⟨#[32]⟩ T3 (by rw [hT3z]; show 1 + _ ≤ _; omega)
  have hT4 : T4 = bs (32 :: Ls.getD i []) := by rw [eT4, hT3]; exact bs_of (by simp [bs])
  have HT4 := Lib.hid hT4
  clear hT3 hT3z eT4 hT4
  go_upto_region 41 with (fail)
  obtain ⟨W7, hW7⟩ : ∃ X, X = W5.setCell ⟨b0, i, none⟩ (.string T4) := ⟨_, rfl⟩
  have hHS7 : FS w b0 wb (Ls.set i (32 :: Ls.getD i [])) 4 ((i : Int) + 1) W7 := by rw [hW7]; exact (by rw [HT4.out]; exact HS.out.line i _)
  have hgoal := hW7
  rw [← hW7]
  have HS7 := Lib.hid hHS7
  clear hW7 hHS7 hgoal
  have hdl : (32 :: Ls.getD i []).length ≤ 2100 := by simp only [List.length_cons]; omega
  have hlen : (Ls.set i (32 :: Ls.getD i [])).length = N := by rw [List.length_set, HLs.out.2]
  have hnl : (nlT (Ls.set i (32 :: Ls.getD i []))).length ≤ 5000 := Nat.le_trans (nlT_set _ _ _) (by have := HSh.out; omega)
  have hres : ResF (nlT (Ls.set i (32 :: Ls.getD i []))) 4 (i + 1) := by rw [HLs.out.1]; exact res1 HFi.out.1 (by rw [← HLs.out.1, ← HLs.out.2]; exact hiN)
  have hkk : ((i + 1 : Nat) : Int) = ((i : Int) + 1) := by omega
  clear hdl hg hsh hc0 hz0
  have hJ0 := fun (Lf : List (List UInt8)) (e : Lf = Ls.set i (32 :: Ls.getD i [])) (h3 : (Lib.join Lf [10]).length ≤ 1048576) => joinB_any b0 N N (strC Lf) Lf 10 W7 HS7.out.row.lt rfl (by rw [e]; exact hlen) (Nat.le_refl _) (fun i hi => by rw [e]; exact HS7.out.row.cell i (by rw [strC_length, hlen]; exact hi)) (by omega) h3
  have HSf := Lib.hid HS7.out.fw
  clear HS7
  obtain ⟨Lf, hLf⟩ : ∃ l, l = Ls.set i (32 :: Ls.getD i []) := ⟨_, rfl⟩
  rw [← hLf] at hlen hnl hres
  have hLf0 : Lf ≠ [] := by intro h; rw [h] at hlen; simp at hlen; omega
  have hun := unn_nl Lf hLf0
  have hul : (unn Lf).length ≤ 5000 := by have := congrArg List.length hun; rw [List.length_append] at this; omega
  have hJ := hJ0 Lf hLf (by rw [join_unn]; omega)
  rw [join_unn] at hJ
  obtain ⟨S1, hS1⟩ : ∃ S, S = bs (unn Lf) := ⟨_, rfl⟩
  have hS1z : S1.size = (unn Lf).length := by rw [hS1, bs_len]
  rw [← hS1] at hJ
  obtain ⟨S2, eS2, zS2, bS2, oS2⟩ := cat_str S1 ⟨#[10]⟩ (by rw [hS1z]; show _ + 1 ≤ _; omega)
  have hS2 : S2 = bs (nlT Lf) := by rw [← hun, eS2, hS1]; exact bs_of (by simp [bs])
  have hRd := fun (X : World) => read_resK hres (by omega) hkk hS2 X
  have HJ := Lib.hid hJ
  have HRd := Lib.hid hRd
  have HZs := Lib.hid (And.intro hS1z hul)
  clear hJ0 hLf hlen hnl hres hkk hLf0 hun hul hJ hS1 hS1z hS2 eS2 zS2 hRd 
  go_wp2_with fail
  with_reducible refine HJ.out.mono ?_
  rintro e w8 ⟨rfl, hb⟩
  have HS8 := Lib.hid (HSf.out.later hb)
  clear hb HJ HSf
  go_wp2_with fail
  with_reducible refine (HRd.out w8).mono ?_
  rintro e w9 ⟨rfl, hb⟩
  have HS9 := Lib.hid (HS8.out.later hb)
  clear hb HRd HS8
  go_upto_region 45 with (fail)
  obtain ⟨W9, hW9⟩ : ∃ X, X = (w9.alloc (.cells #[.slice none 0 0, .slice none 0 0, .int .i64 0, .int .i64 0, .int .i64 0, .int .i64 0, .int .i64 0] 31)).alloc (.cells #[.int .i64 4, .int .i64 ((i : Int) + 1)] 37) := ⟨_, rfl⟩
  have x4 := below_alloc w9 (.cells #[.slice none 0 0, .slice none 0 0, .int .i64 0, .int .i64 0, .int .i64 0, .int .i64 0, .int .i64 0] 31)
  have o4 : Own (w9.alloc (.cells #[.slice none 0 0, .slice none 0 0, .int .i64 0, .int .i64 0, .int .i64 0, .int .i64 0, .int .i64 0] 31)) w9.heap.size 31 [.slice none 0 0, .slice none 0 0, .int .i64 0, .int .i64 0, .int .i64 0, .int .i64 0, .int .i64 0] := heap_alloc_new w9 _
  have s4 := World.size_alloc w9 (.cells #[.slice none 0 0, .slice none 0 0, .int .i64 0, .int .i64 0, .int .i64 0, .int .i64 0, .int .i64 0] 31)
  have x5 : Below (w9.alloc (.cells #[.slice none 0 0, .slice none 0 0, .int .i64 0, .int .i64 0, .int .i64 0, .int .i64 0, .int .i64 0] 31)).heap.size (w9.alloc (.cells #[.slice none 0 0, .slice none 0 0, .int .i64 0, .int .i64 0, .int .i64 0, .int .i64 0, .int .i64 0] 31)) W9 := by rw [hW9]; exact below_alloc _ _
  have o5 : Own W9 (w9.heap.size + 1) 37 [.int .i64 4, .int .i64 ((i : Int) + 1)] := by rw [hW9]; rw [← s4]; exact heap_alloc_new _ _
  have oq : Own W9 w9.heap.size 31 _ := o4.below x5 o4.lt
  have x6 : Below w9.heap.size w9 W9 := x4.trans (x5.mono x4.size)
  obtain ⟨qb9, hqb⟩ : ∃ x, x = w9.heap.size := ⟨_, rfl⟩
  obtain ⟨fb9, hfb⟩ : ∃ x, x = w9.heap.size + 1 := ⟨_, rfl⟩
  rw [← hW9, ← hfb, ← hqb]
  rw [← hfb] at o5
  rw [← hqb] at oq
  have HS10 := Lib.hid (HS9.out.later x6)
  obtain ⟨e0, e1, e2, e3, e4, e5, e6⟩ : _ ∧ _ ∧ _ ∧ _ ∧ _ ∧ _ ∧ _ := ⟨oq.cell 0 (by simp), oq.cell 1 (by simp), oq.cell 2 (by simp), oq.cell 3 (by simp), oq.cell 4 (by simp), oq.cell 5 (by simp), oq.cell 6 (by simp)⟩
  obtain ⟨f0, f1⟩ : _ ∧ _ := ⟨o5.cell 0 (by simp), o5.cell 1 (by simp)⟩
  simp only [List.getD_cons_zero, List.getD_cons_succ] at e0 e1 e2 e3 e4 e5 e6 f0 f1
  obtain ⟨hc1, hc2, hz1, hz2⟩ := HS10.out.cells
  have hE9 := same_yes emptyPn none 0 0 none 0 0 none 0 none 0 W9 (PRow.of_nil W9) (LRow.of_nil W9) (PRow.of_nil W9) (LRow.of_nil W9)
  unfold planV emptyPn at hE9
  have HE9 := Lib.hid hE9
  have heq : ∀ X, (binOp .eql 37 (.agg #[.int .i64 4, .int .i64 ((i : Int) + 1)]) (.agg #[.int .i64 4, .int .i64 ((i : Int) + 1)])).run Tryz.prog X = .ok (.bool true) X := fun X => by rw [eqlFt]; simp
  clear hW9 x4 o4 s4 x5 o5 oq x6 hqb hfb hE9 HS9 hz1 hz2
  go_wp2_with fail
  with_reducible refine HE9.out.mono ?_
  rintro e w10 ⟨rfl, hb⟩
  have HS11 := Lib.hid (HS10.out.later hb)
  clear hb e0 e1 e2 e3 e4 e5 e6 f0 f1 hc1 hc2
  go_wp2_with fail
  with_reducible refine (HL.out w10).mono ?_
  rintro e w11 ⟨rfl, hb⟩
  have HS12 := Lib.hid (HS11.out.later hb)
  clear hb
  go_wp2
  go_ret
  exact ⟨rfl, HS12.out.bel⟩
end Go.Proofs.YthlckipcgogogaaGreatDoor
/- The walk of PlansFaults, case 2. -/
namespace Go.Proofs.YthlckipcgogogaaGreatDoor
set_option linter.unusedVariables false
open Go.RowKit

set_option maxRecDepth 100000 in
set_option maxHeartbeats 4000000 in
theorem faults_walk2 (x : Nn) (s : Option Addr) (c : Nat) (u v : Int) (w : World) (hx : NnAt w x s c) (hflag : PowOk w) (hv0 : 0 ≤ v) (hv1 : v ≤ 255) (hu : u.tmod 12 = 2) : Calls Tryz.prog 4 #[nnV x s c, .int .u8 u, .int .u8 v] w fun e w' => e = .returned (.bool true) ∧ Below w.heap.size w w' := by
  have HFl := Lib.hid hflag
  clear hflag
  have hOf := fun (W : World) (h : NnAt W x s c) => of_any x s c W h
  obtain ⟨p0, hp0⟩ : ∃ p, p = x.codes.getD 0 0 := ⟨_, rfl⟩
  obtain ⟨p1, hp1⟩ : ∃ p, p = x.codes.getD 1 0 := ⟨_, rfl⟩
  obtain ⟨p2, hp2⟩ : ∃ p, p = x.codes.getD 2 0 := ⟨_, rfl⟩
  obtain ⟨p3, hp3⟩ : ∃ p, p = x.codes.getD 3 0 := ⟨_, rfl⟩
  obtain ⟨p4, hp4⟩ : ∃ p, p = x.codes.getD 4 0 := ⟨_, rfl⟩
  obtain ⟨p5, hp5⟩ : ∃ p, p = x.codes.getD 5 0 := ⟨_, rfl⟩
  obtain ⟨t0, ht0⟩ : ∃ p, p = x.tree.getD 0 0 := ⟨_, rfl⟩
  obtain ⟨t1, ht1⟩ : ∃ p, p = x.tree.getD 1 0 := ⟨_, rfl⟩
  obtain ⟨t2, ht2⟩ : ∃ p, p = x.tree.getD 2 0 := ⟨_, rfl⟩
  obtain ⟨t3, ht3⟩ : ∃ p, p = x.tree.getD 3 0 := ⟨_, rfl⟩
  obtain ⟨t4, ht4⟩ : ∃ p, p = x.tree.getD 4 0 := ⟨_, rfl⟩
  obtain ⟨t5, ht5⟩ : ∃ p, p = x.tree.getD 5 0 := ⟨_, rfl⟩
  obtain ⟨m, hm⟩ : ∃ m, m = x.extra.length := ⟨_, rfl⟩
  have HCs : Hid (nnCells x s m c = [.int .u8 (x.many : Nat), .int .u8 (p0 : Nat), .int .u8 (p1 : Nat), .int .u8 (p2 : Nat), .int .u8 (p3 : Nat), .int .u8 (p4 : Nat), .int .u8 (p5 : Nat), .int .u8 (x.ends : Nat), .int .u8 (t0 : Nat), .int .u8 (t1 : Nat), .int .u8 (t2 : Nat), .int .u8 (t3 : Nat), .int .u8 (t4 : Nat), .int .u8 (t5 : Nat), .slice s m c, .int .u8 (x.rate : Nat), .int .u8 (x.room : Nat), .int .u8 (x.k0 : Nat), .int .u8 (x.k1 : Nat)]) := Lib.hid (by unfold nnCells; rw [hp0, hp1, hp2, hp3, hp4, hp5, ht0, ht1, ht2, ht3, ht4, ht5])
  unfold nnV at hOf ⊢
  rw [← hm, HCs.out] at hOf
  rw [← hm, HCs.out]
  have HOf := Lib.hid hOf
  have HXn := Lib.hid hx
  have HL := Lib.hid lives_any
  clear hOf hx hm hp0 hp1 hp2 hp3 hp4 hp5 ht0 ht1 ht2 ht3 ht4 ht5
  go_enter Tryz.func4, Tryz.ntmps4
  go_upto_region 1 with (fail)
  obtain ⟨W0, hW0⟩ : ∃ W0, W0 = w.alloc (.cells #[.int .u8 (x.many : Nat), .int .u8 (p0 : Nat), .int .u8 (p1 : Nat), .int .u8 (p2 : Nat), .int .u8 (p3 : Nat), .int .u8 (p4 : Nat), .int .u8 (p5 : Nat), .int .u8 (x.ends : Nat), .int .u8 (t0 : Nat), .int .u8 (t1 : Nat), .int .u8 (t2 : Nat), .int .u8 (t3 : Nat), .int .u8 (t4 : Nat), .int .u8 (t5 : Nat), .slice s m c, .int .u8 (x.rate : Nat), .int .u8 (x.room : Nat), .int .u8 (x.k0 : Nat), .int .u8 (x.k1 : Nat)] 26) := ⟨_, rfl⟩
  have hB0 : Below w.heap.size w W0 := by rw [hW0]; exact below_alloc w _
  have ho0 : Own W0 w.heap.size 26 [.int .u8 (x.many : Nat), .int .u8 (p0 : Nat), .int .u8 (p1 : Nat), .int .u8 (p2 : Nat), .int .u8 (p3 : Nat), .int .u8 (p4 : Nat), .int .u8 (p5 : Nat), .int .u8 (x.ends : Nat), .int .u8 (t0 : Nat), .int .u8 (t1 : Nat), .int .u8 (t2 : Nat), .int .u8 (t3 : Nat), .int .u8 (t4 : Nat), .int .u8 (t5 : Nat), .slice s m c, .int .u8 (x.rate : Nat), .int .u8 (x.room : Nat), .int .u8 (x.k0 : Nat), .int .u8 (x.k1 : Nat)] := by rw [hW0]; exact heap_alloc_new w _
  rw [← hW0]
  have HRa := Lib.hid (range_own ho0)
  have HB0 := Lib.hid hB0
  clear hW0 ho0 hB0
  iterate 2 go_step
  refine wp_load_mid 26 (.tmp 3) (by rfl) w.heap.size 0 (by rfl) [.int .u8 (x.many : Nat), .int .u8 (p0 : Nat), .int .u8 (p1 : Nat), .int .u8 (p2 : Nat), .int .u8 (p3 : Nat), .int .u8 (p4 : Nat), .int .u8 (p5 : Nat), .int .u8 (x.ends : Nat), .int .u8 (t0 : Nat), .int .u8 (t1 : Nat), .int .u8 (t2 : Nat), .int .u8 (t3 : Nat), .int .u8 (t4 : Nat), .int .u8 (t5 : Nat), .slice s m c, .int .u8 (x.rate : Nat), .int .u8 (x.room : Nat), .int .u8 (x.k0 : Nat), .int .u8 (x.k1 : Nat)] _ HRa.out Tryz.underlying26 (by rfl) (by kernel_rfl) ?_
  go_wp2_with fail
  refine (HOf.out _ (HXn.out.later HB0.out)).mono ?_
  rintro e w1 ⟨p, aP, n, cP, aL, m2, cL, hPF, rfl, hP, hL, hb⟩
  have hb0 : Below w.heap.size w w1 := HB0.out.trans (hb.mono HB0.out.size)
  obtain ⟨b, hbz⟩ : ∃ b, b = w1.heap.size := ⟨_, rfl⟩
  have hn2 := hPF.n2
  have hn6 := hPF.n6
  have hcap := hP.le
  have hcap2 := hP.max
  have hcap3 := hL.le
  have hcap4 := hL.max
  unfold maxLen at hcap2 hcap4
  have HPF := Lib.hid hPF
  clear HOf
  have hfine := valid_fine hP hL hPF.valid
  have hTx := ltext_any p aP n cP aL m2 cL w1 hP hL hPF.valid (HFl.out.later hb0)
  unfold TxOut at hTx
  unfold planV at hTx
  obtain ⟨Ls, hLs⟩ : ∃ Ls, Ls = linesP p := ⟨_, rfl⟩
  have hN := linesP_len p
  have hHd := headL_len p
  have hnn : Ls ≠ [] := by rw [hLs]; intro h; rw [h] at hN; simp at hN
  have hshort := short_text (p := p) (by have := hPF.len; have := hPF.n6; omega) (by have := hPF.llen; have := hPF.m11; omega)
  have hnds : nds (unn Ls) = Ls := nds_unn Ls hnn (by rw [hLs]; exact lines_noN hfine)
  have htx : partText p 4 = unn Ls ++ [10] := by rw [text_nl, unn_nl Ls hnn, hLs]
  rw [← hLs] at hN hshort
  have hul : (unn Ls).length ≤ 2000 := by rw [← unn_nl Ls hnn] at hshort; simp only [List.length_append] at hshort; omega
  rw [htx] at hTx
  have hTr := fun (X : World) => trim_any (unn Ls) X (by omega)
  have hSp := fun (X : World) => linesN_any (unn Ls) X (by omega)
  rw [hnds] at hSp
  obtain ⟨N, hNN⟩ : ∃ N, N = Ls.length := ⟨_, rfl⟩
  rw [← hNN] at hSp hN
  obtain ⟨T1, hT1⟩ : ∃ T, T = bs (unn Ls ++ [10]) := ⟨_, rfl⟩
  obtain ⟨T2, hT2⟩ : ∃ T, T = bs (unn Ls) := ⟨_, rfl⟩
  rw [← hT1] at hTx hTr
  rw [← hT2] at hTr hSp
  have HTx := Lib.hid hTx
  have HTr := Lib.hid hTr
  have HSp := Lib.hid hSp
  have HFi := Lib.hid (And.intro hfine hPF.valid)
  have HLs := Lib.hid (And.intro hLs hNN)
  have HSh := Lib.hid hshort
  have hN5 : 5 ≤ N := by have := hPF.n2; have := hPF.len; omega
  have hN20 : N ≤ 20 := by have := hPF.n6; have := hPF.len; have := hPF.llen; have := hPF.m11; omega
  have HNl := Lib.hid (show N = p.P.length + p.L.length + 3 by omega)
  have HLp := Lib.hid (show 0 < p.L.length by rw [hPF.eq]; exact lines_pos x)
  have HB1 := Lib.hid hb0
  clear hTx hTr hSp hfine hP hL hb hb0 hcap hcap2 hcap3 hcap4 hN hHd hnn hshort hnds htx hul hT1 hT2 hLs hNN hbz b
  go_wp2_with fail
  with_reducible refine HTx.out.mono ?_
  rintro e w2 ⟨rfl, hb⟩
  have HB2 := Lib.hid (HB1.out.trans (hb.mono HB1.out.size))
  clear hb HTx
  go_wp2_with fail
  with_reducible refine (HTr.out w2).mono ?_
  rintro e w3 ⟨rfl, rfl⟩
  go_wp2_with fail
  with_reducible refine (HSp.out w3).mono ?_
  rintro e w4 ⟨rfl, hw4⟩
  have hb4 : Below w3.heap.size w3 w4 := by rw [hw4]; exact below_alloc _ _
  have ho4 : Own w4 w3.heap.size 9 (strC Ls) := by rw [hw4]; exact heap_alloc_new _ _
  obtain ⟨b0, hb0⟩ : ∃ b, b = w3.heap.size := ⟨_, rfl⟩
  rw [← hb0] at ho4 ⊢
  have HB4 := Lib.hid (HB2.out.trans (hb4.mono HB2.out.size))
  have HW0 := Lib.hid (show w.heap.size ≤ b0 by rw [hb0]; exact HB2.out.size)
  have HO4 := Lib.hid ho4
  obtain ⟨i, hi⟩ : ∃ i, i = v.toNat % N := ⟨_, rfl⟩
  have hrem : v.tmod (N : Int) = (i : Int) := by
    rw [Int.tmod_eq_emod_of_nonneg hv0, hi, Int.natCast_emod, Int.toNat_of_nonneg hv0]
  have hiN : i < N := by rw [hi]; exact Nat.mod_lt _ (by omega)
  have hN0 : ((N : Int) == 0) = false := by simp; omega
  clear hw4 hb4 ho4 hb0 hi HTr HSp
  go_upto_region 4 with (fail)
  obtain ⟨W5, hW5⟩ : ∃ X, X = w4.alloc (.cells #[.int .i64 4, .int .i64 ((i : Int) + 1)] 37) := ⟨_, rfl⟩
  have hb5 : Below w4.heap.size w4 W5 := by rw [hW5]; exact below_alloc _ _
  have hf5 : Own W5 w4.heap.size 37 [.int .i64 4, .int .i64 ((i : Int) + 1)] := by rw [hW5]; exact heap_alloc_new _ _
  have ho5 := HO4.out.below hb5 HO4.out.lt
  obtain ⟨wb, hwb⟩ : ∃ b, b = w4.heap.size := ⟨_, rfl⟩
  rw [← hW5, ← hwb]
  rw [← hwb] at hf5
  have hne : b0 ≠ wb := by have := HO4.out.lt; omega
  have HS := Lib.hid (show FS w b0 wb Ls 4 ((i : Int) + 1) W5 from ⟨HB4.out.trans (hb5.mono HB4.out.size), ho5, hf5, hne, HW0.out, by have := HB4.out.size; omega⟩)
  clear hW5 hb5 hf5 ho5 hwb HO4 hne HW0 HB4 HB2 HB1
  obtain ⟨hc0, hz0⟩ := HS.out.elem i (by rw [← HLs.out.2]; exact hiN)
  obtain ⟨T3, hT3⟩ : ∃ T, T = bs (Ls.getD i []) := ⟨_, rfl⟩
  have hg := nlT_get Ls i
  have hT3z : T3.size = (Ls.getD i []).length := by rw [hT3, bs_len]
  have hsh := HSh.out
  rw [← hT3] at hc0
  obtain ⟨T4, eT4, zT4, bT4, oT4⟩ := cat_str ⟨#[120]⟩ T3 (by rw [hT3z]; show 1 + _ ≤ _; omega)
  have hT4 : T4 = bs (120 :: Ls.getD i []) := by rw [eT4, hT3]; exact bs_of (by simp [bs])
  have HT4 := Lib.hid hT4
  clear hT3 hT3z eT4 hT4
  go_upto_region 41 with (fail)
  obtain ⟨W7, hW7⟩ : ∃ X, X = W5.setCell ⟨b0, i, none⟩ (.string T4) := ⟨_, rfl⟩
  have hHS7 : FS w b0 wb (Ls.set i (120 :: Ls.getD i [])) 4 ((i : Int) + 1) W7 := by rw [hW7]; exact (by rw [HT4.out]; exact HS.out.line i _)
  have hgoal := hW7
  rw [← hW7]
  have HS7 := Lib.hid hHS7
  clear hW7 hHS7 hgoal
  have hdl : (120 :: Ls.getD i []).length ≤ 2100 := by simp only [List.length_cons]; omega
  have hlen : (Ls.set i (120 :: Ls.getD i [])).length = N := by rw [List.length_set, HLs.out.2]
  have hnl : (nlT (Ls.set i (120 :: Ls.getD i []))).length ≤ 5000 := Nat.le_trans (nlT_set _ _ _) (by have := HSh.out; omega)
  have hres : ResF (nlT (Ls.set i (120 :: Ls.getD i []))) 4 (i + 1) := by rw [HLs.out.1]; exact res2 HFi.out.1 (by rw [← HLs.out.1, ← HLs.out.2]; exact hiN)
  have hkk : ((i + 1 : Nat) : Int) = ((i : Int) + 1) := by omega
  clear hdl hg hsh hc0 hz0
  have hJ0 := fun (Lf : List (List UInt8)) (e : Lf = Ls.set i (120 :: Ls.getD i [])) (h3 : (Lib.join Lf [10]).length ≤ 1048576) => joinB_any b0 N N (strC Lf) Lf 10 W7 HS7.out.row.lt rfl (by rw [e]; exact hlen) (Nat.le_refl _) (fun i hi => by rw [e]; exact HS7.out.row.cell i (by rw [strC_length, hlen]; exact hi)) (by omega) h3
  have HSf := Lib.hid HS7.out.fw
  clear HS7
  obtain ⟨Lf, hLf⟩ : ∃ l, l = Ls.set i (120 :: Ls.getD i []) := ⟨_, rfl⟩
  rw [← hLf] at hlen hnl hres
  have hLf0 : Lf ≠ [] := by intro h; rw [h] at hlen; simp at hlen; omega
  have hun := unn_nl Lf hLf0
  have hul : (unn Lf).length ≤ 5000 := by have := congrArg List.length hun; rw [List.length_append] at this; omega
  have hJ := hJ0 Lf hLf (by rw [join_unn]; omega)
  rw [join_unn] at hJ
  obtain ⟨S1, hS1⟩ : ∃ S, S = bs (unn Lf) := ⟨_, rfl⟩
  have hS1z : S1.size = (unn Lf).length := by rw [hS1, bs_len]
  rw [← hS1] at hJ
  obtain ⟨S2, eS2, zS2, bS2, oS2⟩ := cat_str S1 ⟨#[10]⟩ (by rw [hS1z]; show _ + 1 ≤ _; omega)
  have hS2 : S2 = bs (nlT Lf) := by rw [← hun, eS2, hS1]; exact bs_of (by simp [bs])
  have hRd := fun (X : World) => read_resK hres (by omega) hkk hS2 X
  have HJ := Lib.hid hJ
  have HRd := Lib.hid hRd
  have HZs := Lib.hid (And.intro hS1z hul)
  clear hJ0 hLf hlen hnl hres hkk hLf0 hun hul hJ hS1 hS1z hS2 eS2 zS2 hRd 
  go_wp2_with fail
  with_reducible refine HJ.out.mono ?_
  rintro e w8 ⟨rfl, hb⟩
  have HS8 := Lib.hid (HSf.out.later hb)
  clear hb HJ HSf
  go_wp2_with fail
  with_reducible refine (HRd.out w8).mono ?_
  rintro e w9 ⟨rfl, hb⟩
  have HS9 := Lib.hid (HS8.out.later hb)
  clear hb HRd HS8
  go_upto_region 45 with (fail)
  obtain ⟨W9, hW9⟩ : ∃ X, X = (w9.alloc (.cells #[.slice none 0 0, .slice none 0 0, .int .i64 0, .int .i64 0, .int .i64 0, .int .i64 0, .int .i64 0] 31)).alloc (.cells #[.int .i64 4, .int .i64 ((i : Int) + 1)] 37) := ⟨_, rfl⟩
  have x4 := below_alloc w9 (.cells #[.slice none 0 0, .slice none 0 0, .int .i64 0, .int .i64 0, .int .i64 0, .int .i64 0, .int .i64 0] 31)
  have o4 : Own (w9.alloc (.cells #[.slice none 0 0, .slice none 0 0, .int .i64 0, .int .i64 0, .int .i64 0, .int .i64 0, .int .i64 0] 31)) w9.heap.size 31 [.slice none 0 0, .slice none 0 0, .int .i64 0, .int .i64 0, .int .i64 0, .int .i64 0, .int .i64 0] := heap_alloc_new w9 _
  have s4 := World.size_alloc w9 (.cells #[.slice none 0 0, .slice none 0 0, .int .i64 0, .int .i64 0, .int .i64 0, .int .i64 0, .int .i64 0] 31)
  have x5 : Below (w9.alloc (.cells #[.slice none 0 0, .slice none 0 0, .int .i64 0, .int .i64 0, .int .i64 0, .int .i64 0, .int .i64 0] 31)).heap.size (w9.alloc (.cells #[.slice none 0 0, .slice none 0 0, .int .i64 0, .int .i64 0, .int .i64 0, .int .i64 0, .int .i64 0] 31)) W9 := by rw [hW9]; exact below_alloc _ _
  have o5 : Own W9 (w9.heap.size + 1) 37 [.int .i64 4, .int .i64 ((i : Int) + 1)] := by rw [hW9]; rw [← s4]; exact heap_alloc_new _ _
  have oq : Own W9 w9.heap.size 31 _ := o4.below x5 o4.lt
  have x6 : Below w9.heap.size w9 W9 := x4.trans (x5.mono x4.size)
  obtain ⟨qb9, hqb⟩ : ∃ x, x = w9.heap.size := ⟨_, rfl⟩
  obtain ⟨fb9, hfb⟩ : ∃ x, x = w9.heap.size + 1 := ⟨_, rfl⟩
  rw [← hW9, ← hfb, ← hqb]
  rw [← hfb] at o5
  rw [← hqb] at oq
  have HS10 := Lib.hid (HS9.out.later x6)
  obtain ⟨e0, e1, e2, e3, e4, e5, e6⟩ : _ ∧ _ ∧ _ ∧ _ ∧ _ ∧ _ ∧ _ := ⟨oq.cell 0 (by simp), oq.cell 1 (by simp), oq.cell 2 (by simp), oq.cell 3 (by simp), oq.cell 4 (by simp), oq.cell 5 (by simp), oq.cell 6 (by simp)⟩
  obtain ⟨f0, f1⟩ : _ ∧ _ := ⟨o5.cell 0 (by simp), o5.cell 1 (by simp)⟩
  simp only [List.getD_cons_zero, List.getD_cons_succ] at e0 e1 e2 e3 e4 e5 e6 f0 f1
  obtain ⟨hc1, hc2, hz1, hz2⟩ := HS10.out.cells
  have hE9 := same_yes emptyPn none 0 0 none 0 0 none 0 none 0 W9 (PRow.of_nil W9) (LRow.of_nil W9) (PRow.of_nil W9) (LRow.of_nil W9)
  unfold planV emptyPn at hE9
  have HE9 := Lib.hid hE9
  have heq : ∀ X, (binOp .eql 37 (.agg #[.int .i64 4, .int .i64 ((i : Int) + 1)]) (.agg #[.int .i64 4, .int .i64 ((i : Int) + 1)])).run Tryz.prog X = .ok (.bool true) X := fun X => by rw [eqlFt]; simp
  clear hW9 x4 o4 s4 x5 o5 oq x6 hqb hfb hE9 HS9 hz1 hz2
  go_wp2_with fail
  with_reducible refine HE9.out.mono ?_
  rintro e w10 ⟨rfl, hb⟩
  have HS11 := Lib.hid (HS10.out.later hb)
  clear hb e0 e1 e2 e3 e4 e5 e6 f0 f1 hc1 hc2
  go_wp2_with fail
  with_reducible refine (HL.out w10).mono ?_
  rintro e w11 ⟨rfl, hb⟩
  have HS12 := Lib.hid (HS11.out.later hb)
  clear hb
  go_wp2
  go_ret
  exact ⟨rfl, HS12.out.bel⟩
end Go.Proofs.YthlckipcgogogaaGreatDoor
/- The walk of PlansFaults, case 3. -/
namespace Go.Proofs.YthlckipcgogogaaGreatDoor
set_option linter.unusedVariables false
open Go.RowKit

set_option maxRecDepth 100000 in
set_option maxHeartbeats 4000000 in
theorem faults_walk3 (x : Nn) (s : Option Addr) (c : Nat) (u v : Int) (w : World) (hx : NnAt w x s c) (hflag : PowOk w) (hv0 : 0 ≤ v) (hv1 : v ≤ 255) (hu : u.tmod 12 = 3) : Calls Tryz.prog 4 #[nnV x s c, .int .u8 u, .int .u8 v] w fun e w' => e = .returned (.bool true) ∧ Below w.heap.size w w' := by
  have HFl := Lib.hid hflag
  clear hflag
  have hOf := fun (W : World) (h : NnAt W x s c) => of_any x s c W h
  obtain ⟨p0, hp0⟩ : ∃ p, p = x.codes.getD 0 0 := ⟨_, rfl⟩
  obtain ⟨p1, hp1⟩ : ∃ p, p = x.codes.getD 1 0 := ⟨_, rfl⟩
  obtain ⟨p2, hp2⟩ : ∃ p, p = x.codes.getD 2 0 := ⟨_, rfl⟩
  obtain ⟨p3, hp3⟩ : ∃ p, p = x.codes.getD 3 0 := ⟨_, rfl⟩
  obtain ⟨p4, hp4⟩ : ∃ p, p = x.codes.getD 4 0 := ⟨_, rfl⟩
  obtain ⟨p5, hp5⟩ : ∃ p, p = x.codes.getD 5 0 := ⟨_, rfl⟩
  obtain ⟨t0, ht0⟩ : ∃ p, p = x.tree.getD 0 0 := ⟨_, rfl⟩
  obtain ⟨t1, ht1⟩ : ∃ p, p = x.tree.getD 1 0 := ⟨_, rfl⟩
  obtain ⟨t2, ht2⟩ : ∃ p, p = x.tree.getD 2 0 := ⟨_, rfl⟩
  obtain ⟨t3, ht3⟩ : ∃ p, p = x.tree.getD 3 0 := ⟨_, rfl⟩
  obtain ⟨t4, ht4⟩ : ∃ p, p = x.tree.getD 4 0 := ⟨_, rfl⟩
  obtain ⟨t5, ht5⟩ : ∃ p, p = x.tree.getD 5 0 := ⟨_, rfl⟩
  obtain ⟨m, hm⟩ : ∃ m, m = x.extra.length := ⟨_, rfl⟩
  have HCs : Hid (nnCells x s m c = [.int .u8 (x.many : Nat), .int .u8 (p0 : Nat), .int .u8 (p1 : Nat), .int .u8 (p2 : Nat), .int .u8 (p3 : Nat), .int .u8 (p4 : Nat), .int .u8 (p5 : Nat), .int .u8 (x.ends : Nat), .int .u8 (t0 : Nat), .int .u8 (t1 : Nat), .int .u8 (t2 : Nat), .int .u8 (t3 : Nat), .int .u8 (t4 : Nat), .int .u8 (t5 : Nat), .slice s m c, .int .u8 (x.rate : Nat), .int .u8 (x.room : Nat), .int .u8 (x.k0 : Nat), .int .u8 (x.k1 : Nat)]) := Lib.hid (by unfold nnCells; rw [hp0, hp1, hp2, hp3, hp4, hp5, ht0, ht1, ht2, ht3, ht4, ht5])
  unfold nnV at hOf ⊢
  rw [← hm, HCs.out] at hOf
  rw [← hm, HCs.out]
  have HOf := Lib.hid hOf
  have HXn := Lib.hid hx
  have HL := Lib.hid lives_any
  clear hOf hx hm hp0 hp1 hp2 hp3 hp4 hp5 ht0 ht1 ht2 ht3 ht4 ht5
  go_enter Tryz.func4, Tryz.ntmps4
  go_upto_region 1 with (fail)
  obtain ⟨W0, hW0⟩ : ∃ W0, W0 = w.alloc (.cells #[.int .u8 (x.many : Nat), .int .u8 (p0 : Nat), .int .u8 (p1 : Nat), .int .u8 (p2 : Nat), .int .u8 (p3 : Nat), .int .u8 (p4 : Nat), .int .u8 (p5 : Nat), .int .u8 (x.ends : Nat), .int .u8 (t0 : Nat), .int .u8 (t1 : Nat), .int .u8 (t2 : Nat), .int .u8 (t3 : Nat), .int .u8 (t4 : Nat), .int .u8 (t5 : Nat), .slice s m c, .int .u8 (x.rate : Nat), .int .u8 (x.room : Nat), .int .u8 (x.k0 : Nat), .int .u8 (x.k1 : Nat)] 26) := ⟨_, rfl⟩
  have hB0 : Below w.heap.size w W0 := by rw [hW0]; exact below_alloc w _
  have ho0 : Own W0 w.heap.size 26 [.int .u8 (x.many : Nat), .int .u8 (p0 : Nat), .int .u8 (p1 : Nat), .int .u8 (p2 : Nat), .int .u8 (p3 : Nat), .int .u8 (p4 : Nat), .int .u8 (p5 : Nat), .int .u8 (x.ends : Nat), .int .u8 (t0 : Nat), .int .u8 (t1 : Nat), .int .u8 (t2 : Nat), .int .u8 (t3 : Nat), .int .u8 (t4 : Nat), .int .u8 (t5 : Nat), .slice s m c, .int .u8 (x.rate : Nat), .int .u8 (x.room : Nat), .int .u8 (x.k0 : Nat), .int .u8 (x.k1 : Nat)] := by rw [hW0]; exact heap_alloc_new w _
  rw [← hW0]
  have HRa := Lib.hid (range_own ho0)
  have HB0 := Lib.hid hB0
  clear hW0 ho0 hB0
  iterate 2 go_step
  refine wp_load_mid 26 (.tmp 3) (by rfl) w.heap.size 0 (by rfl) [.int .u8 (x.many : Nat), .int .u8 (p0 : Nat), .int .u8 (p1 : Nat), .int .u8 (p2 : Nat), .int .u8 (p3 : Nat), .int .u8 (p4 : Nat), .int .u8 (p5 : Nat), .int .u8 (x.ends : Nat), .int .u8 (t0 : Nat), .int .u8 (t1 : Nat), .int .u8 (t2 : Nat), .int .u8 (t3 : Nat), .int .u8 (t4 : Nat), .int .u8 (t5 : Nat), .slice s m c, .int .u8 (x.rate : Nat), .int .u8 (x.room : Nat), .int .u8 (x.k0 : Nat), .int .u8 (x.k1 : Nat)] _ HRa.out Tryz.underlying26 (by rfl) (by kernel_rfl) ?_
  go_wp2_with fail
  refine (HOf.out _ (HXn.out.later HB0.out)).mono ?_
  rintro e w1 ⟨p, aP, n, cP, aL, m2, cL, hPF, rfl, hP, hL, hb⟩
  have hb0 : Below w.heap.size w w1 := HB0.out.trans (hb.mono HB0.out.size)
  obtain ⟨b, hbz⟩ : ∃ b, b = w1.heap.size := ⟨_, rfl⟩
  have hn2 := hPF.n2
  have hn6 := hPF.n6
  have hcap := hP.le
  have hcap2 := hP.max
  have hcap3 := hL.le
  have hcap4 := hL.max
  unfold maxLen at hcap2 hcap4
  have HPF := Lib.hid hPF
  clear HOf
  have hfine := valid_fine hP hL hPF.valid
  have hTx := ltext_any p aP n cP aL m2 cL w1 hP hL hPF.valid (HFl.out.later hb0)
  unfold TxOut at hTx
  unfold planV at hTx
  obtain ⟨Ls, hLs⟩ : ∃ Ls, Ls = linesP p := ⟨_, rfl⟩
  have hN := linesP_len p
  have hHd := headL_len p
  have hnn : Ls ≠ [] := by rw [hLs]; intro h; rw [h] at hN; simp at hN
  have hshort := short_text (p := p) (by have := hPF.len; have := hPF.n6; omega) (by have := hPF.llen; have := hPF.m11; omega)
  have hnds : nds (unn Ls) = Ls := nds_unn Ls hnn (by rw [hLs]; exact lines_noN hfine)
  have htx : partText p 4 = unn Ls ++ [10] := by rw [text_nl, unn_nl Ls hnn, hLs]
  rw [← hLs] at hN hshort
  have hul : (unn Ls).length ≤ 2000 := by rw [← unn_nl Ls hnn] at hshort; simp only [List.length_append] at hshort; omega
  rw [htx] at hTx
  have hTr := fun (X : World) => trim_any (unn Ls) X (by omega)
  have hSp := fun (X : World) => linesN_any (unn Ls) X (by omega)
  rw [hnds] at hSp
  obtain ⟨N, hNN⟩ : ∃ N, N = Ls.length := ⟨_, rfl⟩
  rw [← hNN] at hSp hN
  obtain ⟨T1, hT1⟩ : ∃ T, T = bs (unn Ls ++ [10]) := ⟨_, rfl⟩
  obtain ⟨T2, hT2⟩ : ∃ T, T = bs (unn Ls) := ⟨_, rfl⟩
  rw [← hT1] at hTx hTr
  rw [← hT2] at hTr hSp
  have HTx := Lib.hid hTx
  have HTr := Lib.hid hTr
  have HSp := Lib.hid hSp
  have HFi := Lib.hid (And.intro hfine hPF.valid)
  have HLs := Lib.hid (And.intro hLs hNN)
  have HSh := Lib.hid hshort
  have hN5 : 5 ≤ N := by have := hPF.n2; have := hPF.len; omega
  have hN20 : N ≤ 20 := by have := hPF.n6; have := hPF.len; have := hPF.llen; have := hPF.m11; omega
  have HNl := Lib.hid (show N = p.P.length + p.L.length + 3 by omega)
  have HLp := Lib.hid (show 0 < p.L.length by rw [hPF.eq]; exact lines_pos x)
  have HB1 := Lib.hid hb0
  clear hTx hTr hSp hfine hP hL hb hb0 hcap hcap2 hcap3 hcap4 hN hHd hnn hshort hnds htx hul hT1 hT2 hLs hNN hbz b
  go_wp2_with fail
  with_reducible refine HTx.out.mono ?_
  rintro e w2 ⟨rfl, hb⟩
  have HB2 := Lib.hid (HB1.out.trans (hb.mono HB1.out.size))
  clear hb HTx
  go_wp2_with fail
  with_reducible refine (HTr.out w2).mono ?_
  rintro e w3 ⟨rfl, rfl⟩
  go_wp2_with fail
  with_reducible refine (HSp.out w3).mono ?_
  rintro e w4 ⟨rfl, hw4⟩
  have hb4 : Below w3.heap.size w3 w4 := by rw [hw4]; exact below_alloc _ _
  have ho4 : Own w4 w3.heap.size 9 (strC Ls) := by rw [hw4]; exact heap_alloc_new _ _
  obtain ⟨b0, hb0⟩ : ∃ b, b = w3.heap.size := ⟨_, rfl⟩
  rw [← hb0] at ho4 ⊢
  have HB4 := Lib.hid (HB2.out.trans (hb4.mono HB2.out.size))
  have HW0 := Lib.hid (show w.heap.size ≤ b0 by rw [hb0]; exact HB2.out.size)
  have HO4 := Lib.hid ho4
  obtain ⟨i, hi⟩ : ∃ i, i = v.toNat % N := ⟨_, rfl⟩
  have hrem : v.tmod (N : Int) = (i : Int) := by
    rw [Int.tmod_eq_emod_of_nonneg hv0, hi, Int.natCast_emod, Int.toNat_of_nonneg hv0]
  have hiN : i < N := by rw [hi]; exact Nat.mod_lt _ (by omega)
  have hN0 : ((N : Int) == 0) = false := by simp; omega
  clear hw4 hb4 ho4 hb0 hi HTr HSp
  go_upto_region 4 with (fail)
  obtain ⟨W5, hW5⟩ : ∃ X, X = w4.alloc (.cells #[.int .i64 4, .int .i64 ((i : Int) + 1)] 37) := ⟨_, rfl⟩
  have hb5 : Below w4.heap.size w4 W5 := by rw [hW5]; exact below_alloc _ _
  have hf5 : Own W5 w4.heap.size 37 [.int .i64 4, .int .i64 ((i : Int) + 1)] := by rw [hW5]; exact heap_alloc_new _ _
  have ho5 := HO4.out.below hb5 HO4.out.lt
  obtain ⟨wb, hwb⟩ : ∃ b, b = w4.heap.size := ⟨_, rfl⟩
  rw [← hW5, ← hwb]
  rw [← hwb] at hf5
  have hne : b0 ≠ wb := by have := HO4.out.lt; omega
  have HS := Lib.hid (show FS w b0 wb Ls 4 ((i : Int) + 1) W5 from ⟨HB4.out.trans (hb5.mono HB4.out.size), ho5, hf5, hne, HW0.out, by have := HB4.out.size; omega⟩)
  clear hW5 hb5 hf5 ho5 hwb HO4 hne HW0 HB4 HB2 HB1
  obtain ⟨hc0, hz0⟩ := HS.out.elem i (by rw [← HLs.out.2]; exact hiN)
  obtain ⟨T3, hT3⟩ : ∃ T, T = bs (Ls.getD i []) := ⟨_, rfl⟩
  have hg := nlT_get Ls i
  have hT3z : T3.size = (Ls.getD i []).length := by rw [hT3, bs_len]
  have hsh := HSh.out
  rw [← hT3] at hc0
  obtain ⟨xa, xb, hxa, hxe, hxd⟩ := line_cut HFi.out.1 (j := i) (by rw [← HLs.out.1, ← HLs.out.2]; exact hiN)
  rw [← HLs.out.1] at hxe hxd
  have hRp := fun (X : World) => replace_any xa xb X hxa (by have := congrArg List.length hxe; simp only [List.length_append, List.length_cons] at this; omega)
  rw [← hxe, ← hxd, ← hT3] at hRp
  obtain ⟨T4, hT4⟩ : ∃ T, T = bs (dblS (Ls.getD i [])) := ⟨_, rfl⟩
  rw [← hT4] at hRp
  have HRp := Lib.hid hRp
  have hdl : (dblS (Ls.getD i [])).length ≤ 2100 := by rw [hxd]; rw [hxe] at hg; simp only [List.length_append, List.length_cons] at hg ⊢; omega
  have HT4 := Lib.hid hT4
  clear hRp hxa hxe hxd hT3 hT3z hT4
  go_wp2_with fail
  with_reducible refine (HRp.out W5).mono ?_
  rintro e w6 ⟨rfl, hb⟩
  have HS6 := Lib.hid (HS.out.later hb)
  clear hb hc0 hz0 HS HRp
  obtain ⟨hc0, hz0⟩ := HS6.out.elem i (by rw [← HLs.out.2]; exact hiN)
  go_upto_region 41 with (fail)
  obtain ⟨W7, hW7⟩ : ∃ X, X = w6.setCell ⟨b0, i, none⟩ (.string T4) := ⟨_, rfl⟩
  have hHS7 : FS w b0 wb (Ls.set i (dblS (Ls.getD i []))) 4 ((i : Int) + 1) W7 := by rw [hW7]; exact (by rw [HT4.out]; exact HS6.out.line i _)
  have hgoal := hW7
  rw [← hW7]
  have HS7 := Lib.hid hHS7
  clear hW7 hHS7 hgoal
  have hlen : (Ls.set i (dblS (Ls.getD i []))).length = N := by rw [List.length_set, HLs.out.2]
  have hnl : (nlT (Ls.set i (dblS (Ls.getD i [])))).length ≤ 5000 := Nat.le_trans (nlT_set _ _ _) (by have := HSh.out; omega)
  have hres : ResF (nlT (Ls.set i (dblS (Ls.getD i [])))) 4 (i + 1) := by rw [HLs.out.1]; exact res3 HFi.out.1 (by rw [← HLs.out.1, ← HLs.out.2]; exact hiN)
  have hkk : ((i + 1 : Nat) : Int) = ((i : Int) + 1) := by omega
  clear hdl hg hsh hc0 hz0
  have hJ0 := fun (Lf : List (List UInt8)) (e : Lf = Ls.set i (dblS (Ls.getD i []))) (h3 : (Lib.join Lf [10]).length ≤ 1048576) => joinB_any b0 N N (strC Lf) Lf 10 W7 HS7.out.row.lt rfl (by rw [e]; exact hlen) (Nat.le_refl _) (fun i hi => by rw [e]; exact HS7.out.row.cell i (by rw [strC_length, hlen]; exact hi)) (by omega) h3
  have HSf := Lib.hid HS7.out.fw
  clear HS7
  obtain ⟨Lf, hLf⟩ : ∃ l, l = Ls.set i (dblS (Ls.getD i [])) := ⟨_, rfl⟩
  rw [← hLf] at hlen hnl hres
  have hLf0 : Lf ≠ [] := by intro h; rw [h] at hlen; simp at hlen; omega
  have hun := unn_nl Lf hLf0
  have hul : (unn Lf).length ≤ 5000 := by have := congrArg List.length hun; rw [List.length_append] at this; omega
  have hJ := hJ0 Lf hLf (by rw [join_unn]; omega)
  rw [join_unn] at hJ
  obtain ⟨S1, hS1⟩ : ∃ S, S = bs (unn Lf) := ⟨_, rfl⟩
  have hS1z : S1.size = (unn Lf).length := by rw [hS1, bs_len]
  rw [← hS1] at hJ
  obtain ⟨S2, eS2, zS2, bS2, oS2⟩ := cat_str S1 ⟨#[10]⟩ (by rw [hS1z]; show _ + 1 ≤ _; omega)
  have hS2 : S2 = bs (nlT Lf) := by rw [← hun, eS2, hS1]; exact bs_of (by simp [bs])
  have hRd := fun (X : World) => read_resK hres (by omega) hkk hS2 X
  have HJ := Lib.hid hJ
  have HRd := Lib.hid hRd
  have HZs := Lib.hid (And.intro hS1z hul)
  clear hJ0 hLf hlen hnl hres hkk hLf0 hun hul hJ hS1 hS1z hS2 eS2 zS2 hRd 
  go_wp2_with fail
  with_reducible refine HJ.out.mono ?_
  rintro e w8 ⟨rfl, hb⟩
  have HS8 := Lib.hid (HSf.out.later hb)
  clear hb HJ HSf
  go_wp2_with fail
  with_reducible refine (HRd.out w8).mono ?_
  rintro e w9 ⟨rfl, hb⟩
  have HS9 := Lib.hid (HS8.out.later hb)
  clear hb HRd HS8
  go_upto_region 45 with (fail)
  obtain ⟨W9, hW9⟩ : ∃ X, X = (w9.alloc (.cells #[.slice none 0 0, .slice none 0 0, .int .i64 0, .int .i64 0, .int .i64 0, .int .i64 0, .int .i64 0] 31)).alloc (.cells #[.int .i64 4, .int .i64 ((i : Int) + 1)] 37) := ⟨_, rfl⟩
  have x4 := below_alloc w9 (.cells #[.slice none 0 0, .slice none 0 0, .int .i64 0, .int .i64 0, .int .i64 0, .int .i64 0, .int .i64 0] 31)
  have o4 : Own (w9.alloc (.cells #[.slice none 0 0, .slice none 0 0, .int .i64 0, .int .i64 0, .int .i64 0, .int .i64 0, .int .i64 0] 31)) w9.heap.size 31 [.slice none 0 0, .slice none 0 0, .int .i64 0, .int .i64 0, .int .i64 0, .int .i64 0, .int .i64 0] := heap_alloc_new w9 _
  have s4 := World.size_alloc w9 (.cells #[.slice none 0 0, .slice none 0 0, .int .i64 0, .int .i64 0, .int .i64 0, .int .i64 0, .int .i64 0] 31)
  have x5 : Below (w9.alloc (.cells #[.slice none 0 0, .slice none 0 0, .int .i64 0, .int .i64 0, .int .i64 0, .int .i64 0, .int .i64 0] 31)).heap.size (w9.alloc (.cells #[.slice none 0 0, .slice none 0 0, .int .i64 0, .int .i64 0, .int .i64 0, .int .i64 0, .int .i64 0] 31)) W9 := by rw [hW9]; exact below_alloc _ _
  have o5 : Own W9 (w9.heap.size + 1) 37 [.int .i64 4, .int .i64 ((i : Int) + 1)] := by rw [hW9]; rw [← s4]; exact heap_alloc_new _ _
  have oq : Own W9 w9.heap.size 31 _ := o4.below x5 o4.lt
  have x6 : Below w9.heap.size w9 W9 := x4.trans (x5.mono x4.size)
  obtain ⟨qb9, hqb⟩ : ∃ x, x = w9.heap.size := ⟨_, rfl⟩
  obtain ⟨fb9, hfb⟩ : ∃ x, x = w9.heap.size + 1 := ⟨_, rfl⟩
  rw [← hW9, ← hfb, ← hqb]
  rw [← hfb] at o5
  rw [← hqb] at oq
  have HS10 := Lib.hid (HS9.out.later x6)
  obtain ⟨e0, e1, e2, e3, e4, e5, e6⟩ : _ ∧ _ ∧ _ ∧ _ ∧ _ ∧ _ ∧ _ := ⟨oq.cell 0 (by simp), oq.cell 1 (by simp), oq.cell 2 (by simp), oq.cell 3 (by simp), oq.cell 4 (by simp), oq.cell 5 (by simp), oq.cell 6 (by simp)⟩
  obtain ⟨f0, f1⟩ : _ ∧ _ := ⟨o5.cell 0 (by simp), o5.cell 1 (by simp)⟩
  simp only [List.getD_cons_zero, List.getD_cons_succ] at e0 e1 e2 e3 e4 e5 e6 f0 f1
  obtain ⟨hc1, hc2, hz1, hz2⟩ := HS10.out.cells
  have hE9 := same_yes emptyPn none 0 0 none 0 0 none 0 none 0 W9 (PRow.of_nil W9) (LRow.of_nil W9) (PRow.of_nil W9) (LRow.of_nil W9)
  unfold planV emptyPn at hE9
  have HE9 := Lib.hid hE9
  have heq : ∀ X, (binOp .eql 37 (.agg #[.int .i64 4, .int .i64 ((i : Int) + 1)]) (.agg #[.int .i64 4, .int .i64 ((i : Int) + 1)])).run Tryz.prog X = .ok (.bool true) X := fun X => by rw [eqlFt]; simp
  clear hW9 x4 o4 s4 x5 o5 oq x6 hqb hfb hE9 HS9 hz1 hz2
  go_wp2_with fail
  with_reducible refine HE9.out.mono ?_
  rintro e w10 ⟨rfl, hb⟩
  have HS11 := Lib.hid (HS10.out.later hb)
  clear hb e0 e1 e2 e3 e4 e5 e6 f0 f1 hc1 hc2
  go_wp2_with fail
  with_reducible refine (HL.out w10).mono ?_
  rintro e w11 ⟨rfl, hb⟩
  have HS12 := Lib.hid (HS11.out.later hb)
  clear hb
  go_wp2
  go_ret
  exact ⟨rfl, HS12.out.bel⟩
end Go.Proofs.YthlckipcgogogaaGreatDoor
/- The walk of PlansFaults, case 4. -/
namespace Go.Proofs.YthlckipcgogogaaGreatDoor
set_option linter.unusedVariables false
open Go.RowKit

set_option maxRecDepth 100000 in
set_option maxHeartbeats 4000000 in
theorem faults_walk4 (x : Nn) (s : Option Addr) (c : Nat) (u v : Int) (w : World) (hx : NnAt w x s c) (hflag : PowOk w) (hv0 : 0 ≤ v) (hv1 : v ≤ 255) (hu : u.tmod 12 = 4) : Calls Tryz.prog 4 #[nnV x s c, .int .u8 u, .int .u8 v] w fun e w' => e = .returned (.bool true) ∧ Below w.heap.size w w' := by
  have HFl := Lib.hid hflag
  clear hflag
  have hOf := fun (W : World) (h : NnAt W x s c) => of_any x s c W h
  obtain ⟨p0, hp0⟩ : ∃ p, p = x.codes.getD 0 0 := ⟨_, rfl⟩
  obtain ⟨p1, hp1⟩ : ∃ p, p = x.codes.getD 1 0 := ⟨_, rfl⟩
  obtain ⟨p2, hp2⟩ : ∃ p, p = x.codes.getD 2 0 := ⟨_, rfl⟩
  obtain ⟨p3, hp3⟩ : ∃ p, p = x.codes.getD 3 0 := ⟨_, rfl⟩
  obtain ⟨p4, hp4⟩ : ∃ p, p = x.codes.getD 4 0 := ⟨_, rfl⟩
  obtain ⟨p5, hp5⟩ : ∃ p, p = x.codes.getD 5 0 := ⟨_, rfl⟩
  obtain ⟨t0, ht0⟩ : ∃ p, p = x.tree.getD 0 0 := ⟨_, rfl⟩
  obtain ⟨t1, ht1⟩ : ∃ p, p = x.tree.getD 1 0 := ⟨_, rfl⟩
  obtain ⟨t2, ht2⟩ : ∃ p, p = x.tree.getD 2 0 := ⟨_, rfl⟩
  obtain ⟨t3, ht3⟩ : ∃ p, p = x.tree.getD 3 0 := ⟨_, rfl⟩
  obtain ⟨t4, ht4⟩ : ∃ p, p = x.tree.getD 4 0 := ⟨_, rfl⟩
  obtain ⟨t5, ht5⟩ : ∃ p, p = x.tree.getD 5 0 := ⟨_, rfl⟩
  obtain ⟨m, hm⟩ : ∃ m, m = x.extra.length := ⟨_, rfl⟩
  have HCs : Hid (nnCells x s m c = [.int .u8 (x.many : Nat), .int .u8 (p0 : Nat), .int .u8 (p1 : Nat), .int .u8 (p2 : Nat), .int .u8 (p3 : Nat), .int .u8 (p4 : Nat), .int .u8 (p5 : Nat), .int .u8 (x.ends : Nat), .int .u8 (t0 : Nat), .int .u8 (t1 : Nat), .int .u8 (t2 : Nat), .int .u8 (t3 : Nat), .int .u8 (t4 : Nat), .int .u8 (t5 : Nat), .slice s m c, .int .u8 (x.rate : Nat), .int .u8 (x.room : Nat), .int .u8 (x.k0 : Nat), .int .u8 (x.k1 : Nat)]) := Lib.hid (by unfold nnCells; rw [hp0, hp1, hp2, hp3, hp4, hp5, ht0, ht1, ht2, ht3, ht4, ht5])
  unfold nnV at hOf ⊢
  rw [← hm, HCs.out] at hOf
  rw [← hm, HCs.out]
  have HOf := Lib.hid hOf
  have HXn := Lib.hid hx
  have HL := Lib.hid lives_any
  clear hOf hx hm hp0 hp1 hp2 hp3 hp4 hp5 ht0 ht1 ht2 ht3 ht4 ht5
  go_enter Tryz.func4, Tryz.ntmps4
  go_upto_region 1 with (fail)
  obtain ⟨W0, hW0⟩ : ∃ W0, W0 = w.alloc (.cells #[.int .u8 (x.many : Nat), .int .u8 (p0 : Nat), .int .u8 (p1 : Nat), .int .u8 (p2 : Nat), .int .u8 (p3 : Nat), .int .u8 (p4 : Nat), .int .u8 (p5 : Nat), .int .u8 (x.ends : Nat), .int .u8 (t0 : Nat), .int .u8 (t1 : Nat), .int .u8 (t2 : Nat), .int .u8 (t3 : Nat), .int .u8 (t4 : Nat), .int .u8 (t5 : Nat), .slice s m c, .int .u8 (x.rate : Nat), .int .u8 (x.room : Nat), .int .u8 (x.k0 : Nat), .int .u8 (x.k1 : Nat)] 26) := ⟨_, rfl⟩
  have hB0 : Below w.heap.size w W0 := by rw [hW0]; exact below_alloc w _
  have ho0 : Own W0 w.heap.size 26 [.int .u8 (x.many : Nat), .int .u8 (p0 : Nat), .int .u8 (p1 : Nat), .int .u8 (p2 : Nat), .int .u8 (p3 : Nat), .int .u8 (p4 : Nat), .int .u8 (p5 : Nat), .int .u8 (x.ends : Nat), .int .u8 (t0 : Nat), .int .u8 (t1 : Nat), .int .u8 (t2 : Nat), .int .u8 (t3 : Nat), .int .u8 (t4 : Nat), .int .u8 (t5 : Nat), .slice s m c, .int .u8 (x.rate : Nat), .int .u8 (x.room : Nat), .int .u8 (x.k0 : Nat), .int .u8 (x.k1 : Nat)] := by rw [hW0]; exact heap_alloc_new w _
  rw [← hW0]
  have HRa := Lib.hid (range_own ho0)
  have HB0 := Lib.hid hB0
  clear hW0 ho0 hB0
  iterate 2 go_step
  refine wp_load_mid 26 (.tmp 3) (by rfl) w.heap.size 0 (by rfl) [.int .u8 (x.many : Nat), .int .u8 (p0 : Nat), .int .u8 (p1 : Nat), .int .u8 (p2 : Nat), .int .u8 (p3 : Nat), .int .u8 (p4 : Nat), .int .u8 (p5 : Nat), .int .u8 (x.ends : Nat), .int .u8 (t0 : Nat), .int .u8 (t1 : Nat), .int .u8 (t2 : Nat), .int .u8 (t3 : Nat), .int .u8 (t4 : Nat), .int .u8 (t5 : Nat), .slice s m c, .int .u8 (x.rate : Nat), .int .u8 (x.room : Nat), .int .u8 (x.k0 : Nat), .int .u8 (x.k1 : Nat)] _ HRa.out Tryz.underlying26 (by rfl) (by kernel_rfl) ?_
  go_wp2_with fail
  refine (HOf.out _ (HXn.out.later HB0.out)).mono ?_
  rintro e w1 ⟨p, aP, n, cP, aL, m2, cL, hPF, rfl, hP, hL, hb⟩
  have hb0 : Below w.heap.size w w1 := HB0.out.trans (hb.mono HB0.out.size)
  obtain ⟨b, hbz⟩ : ∃ b, b = w1.heap.size := ⟨_, rfl⟩
  have hn2 := hPF.n2
  have hn6 := hPF.n6
  have hcap := hP.le
  have hcap2 := hP.max
  have hcap3 := hL.le
  have hcap4 := hL.max
  unfold maxLen at hcap2 hcap4
  have HPF := Lib.hid hPF
  clear HOf
  have hfine := valid_fine hP hL hPF.valid
  have hTx := ltext_any p aP n cP aL m2 cL w1 hP hL hPF.valid (HFl.out.later hb0)
  unfold TxOut at hTx
  unfold planV at hTx
  obtain ⟨Ls, hLs⟩ : ∃ Ls, Ls = linesP p := ⟨_, rfl⟩
  have hN := linesP_len p
  have hHd := headL_len p
  have hnn : Ls ≠ [] := by rw [hLs]; intro h; rw [h] at hN; simp at hN
  have hshort := short_text (p := p) (by have := hPF.len; have := hPF.n6; omega) (by have := hPF.llen; have := hPF.m11; omega)
  have hnds : nds (unn Ls) = Ls := nds_unn Ls hnn (by rw [hLs]; exact lines_noN hfine)
  have htx : partText p 4 = unn Ls ++ [10] := by rw [text_nl, unn_nl Ls hnn, hLs]
  rw [← hLs] at hN hshort
  have hul : (unn Ls).length ≤ 2000 := by rw [← unn_nl Ls hnn] at hshort; simp only [List.length_append] at hshort; omega
  rw [htx] at hTx
  have hTr := fun (X : World) => trim_any (unn Ls) X (by omega)
  have hSp := fun (X : World) => linesN_any (unn Ls) X (by omega)
  rw [hnds] at hSp
  obtain ⟨N, hNN⟩ : ∃ N, N = Ls.length := ⟨_, rfl⟩
  rw [← hNN] at hSp hN
  obtain ⟨T1, hT1⟩ : ∃ T, T = bs (unn Ls ++ [10]) := ⟨_, rfl⟩
  obtain ⟨T2, hT2⟩ : ∃ T, T = bs (unn Ls) := ⟨_, rfl⟩
  rw [← hT1] at hTx hTr
  rw [← hT2] at hTr hSp
  have HTx := Lib.hid hTx
  have HTr := Lib.hid hTr
  have HSp := Lib.hid hSp
  have HFi := Lib.hid (And.intro hfine hPF.valid)
  have HLs := Lib.hid (And.intro hLs hNN)
  have HSh := Lib.hid hshort
  have hN5 : 5 ≤ N := by have := hPF.n2; have := hPF.len; omega
  have hN20 : N ≤ 20 := by have := hPF.n6; have := hPF.len; have := hPF.llen; have := hPF.m11; omega
  have HNl := Lib.hid (show N = p.P.length + p.L.length + 3 by omega)
  have HLp := Lib.hid (show 0 < p.L.length by rw [hPF.eq]; exact lines_pos x)
  have HB1 := Lib.hid hb0
  clear hTx hTr hSp hfine hP hL hb hb0 hcap hcap2 hcap3 hcap4 hN hHd hnn hshort hnds htx hul hT1 hT2 hLs hNN hbz b
  go_wp2_with fail
  with_reducible refine HTx.out.mono ?_
  rintro e w2 ⟨rfl, hb⟩
  have HB2 := Lib.hid (HB1.out.trans (hb.mono HB1.out.size))
  clear hb HTx
  go_wp2_with fail
  with_reducible refine (HTr.out w2).mono ?_
  rintro e w3 ⟨rfl, rfl⟩
  go_wp2_with fail
  with_reducible refine (HSp.out w3).mono ?_
  rintro e w4 ⟨rfl, hw4⟩
  have hb4 : Below w3.heap.size w3 w4 := by rw [hw4]; exact below_alloc _ _
  have ho4 : Own w4 w3.heap.size 9 (strC Ls) := by rw [hw4]; exact heap_alloc_new _ _
  obtain ⟨b0, hb0⟩ : ∃ b, b = w3.heap.size := ⟨_, rfl⟩
  rw [← hb0] at ho4 ⊢
  have HB4 := Lib.hid (HB2.out.trans (hb4.mono HB2.out.size))
  have HW0 := Lib.hid (show w.heap.size ≤ b0 by rw [hb0]; exact HB2.out.size)
  have HO4 := Lib.hid ho4
  obtain ⟨i, hi⟩ : ∃ i, i = v.toNat % N := ⟨_, rfl⟩
  have hrem : v.tmod (N : Int) = (i : Int) := by
    rw [Int.tmod_eq_emod_of_nonneg hv0, hi, Int.natCast_emod, Int.toNat_of_nonneg hv0]
  have hiN : i < N := by rw [hi]; exact Nat.mod_lt _ (by omega)
  have hN0 : ((N : Int) == 0) = false := by simp; omega
  clear hw4 hb4 ho4 hb0 hi HTr HSp
  go_upto_region 4 with (fail)
  obtain ⟨W5, hW5⟩ : ∃ X, X = w4.alloc (.cells #[.int .i64 4, .int .i64 ((i : Int) + 1)] 37) := ⟨_, rfl⟩
  have hb5 : Below w4.heap.size w4 W5 := by rw [hW5]; exact below_alloc _ _
  have hf5 : Own W5 w4.heap.size 37 [.int .i64 4, .int .i64 ((i : Int) + 1)] := by rw [hW5]; exact heap_alloc_new _ _
  have ho5 := HO4.out.below hb5 HO4.out.lt
  obtain ⟨wb, hwb⟩ : ∃ b, b = w4.heap.size := ⟨_, rfl⟩
  rw [← hW5, ← hwb]
  rw [← hwb] at hf5
  have hne : b0 ≠ wb := by have := HO4.out.lt; omega
  have HS := Lib.hid (show FS w b0 wb Ls 4 ((i : Int) + 1) W5 from ⟨HB4.out.trans (hb5.mono HB4.out.size), ho5, hf5, hne, HW0.out, by have := HB4.out.size; omega⟩)
  clear hW5 hb5 hf5 ho5 hwb HO4 hne HW0 HB4 HB2 HB1
  have hpre := HS.out.pre i (by have := HLs.out.2; omega) (by have := HLs.out.2; omega)
  rw [← HLs.out.2] at hpre
  have HPre := Lib.hid hpre
  have hbs : w.heap.size ≤ W5.heap.size := HS.out.bel.size
  have hnm : i + 1 ≤ 1000000 := by omega
  clear hpre
  go_wp2_with (at_builtin; refine wpList_append_strs rfl _ _ rfl w.heap.size _ i 1 _ [.string ⟨#[]⟩] (by decide) rfl (fun u hu => by simp at hu; rcases hu with rfl <;> rfl) (by rfl) (by exact HPre.out) (by rfl) hnm hbs ?_)
  intro v1 w1 h1 h2
  have hfw := HS.out.grown h2
  obtain ⟨Lb, hLb⟩ : ∃ l, l = Ls.take i := ⟨_, rfl⟩
  have hnl : (nlT Lb).length ≤ 5000 := by have := HSh.out; rw [hLb]; have := nlT_take Ls i; omega
  have hres : ResF (nlT Lb) 4 (i + 1) := by rw [hLb, HLs.out.1]; exact res4 HFi.out.1 (by rw [← HLs.out.1, ← HLs.out.2]; exact hiN)
  have hkk : ((i + 1 : Nat) : Int) = ((i : Int) + 1) := by omega
  obtain ⟨b1, c1, hv1, hJ0⟩ := join_row h1 (Lf := Lb ++ [[]]) (by rw [hLb, strC_append]; rfl) (by omega) (by omega) (by rw [join_unn, unn_snoc]; omega)
  subst hv1
  have HSf := Lib.hid hfw
  clear h1 h2 hfw HS HPre hbs hnm
  have hJ := hJ0
  rw [join_unn, unn_snoc] at hJ
  obtain ⟨S1, hS1⟩ : ∃ S, S = bs (nlT Lb) := ⟨_, rfl⟩
  rw [← hS1] at hJ
  have hRd := fun (X : World) => read_resK hres (by omega) hkk hS1 X
  have HJ := Lib.hid hJ
  have HRd := Lib.hid hRd
  clear hJ0 hnl hres hkk hJ hS1 hRd hLb
  go_wp2_with fail
  with_reducible refine HJ.out.mono ?_
  rintro e w8 ⟨rfl, hb⟩
  have HS8 := Lib.hid (HSf.out.later hb)
  clear hb HJ HSf
  go_wp2_with fail
  with_reducible refine (HRd.out w8).mono ?_
  rintro e w9 ⟨rfl, hb⟩
  have HS9 := Lib.hid (HS8.out.later hb)
  clear hb HRd HS8
  go_upto_region 45 with (fail)
  obtain ⟨W9, hW9⟩ : ∃ X, X = (w9.alloc (.cells #[.slice none 0 0, .slice none 0 0, .int .i64 0, .int .i64 0, .int .i64 0, .int .i64 0, .int .i64 0] 31)).alloc (.cells #[.int .i64 4, .int .i64 ((i : Int) + 1)] 37) := ⟨_, rfl⟩
  have x4 := below_alloc w9 (.cells #[.slice none 0 0, .slice none 0 0, .int .i64 0, .int .i64 0, .int .i64 0, .int .i64 0, .int .i64 0] 31)
  have o4 : Own (w9.alloc (.cells #[.slice none 0 0, .slice none 0 0, .int .i64 0, .int .i64 0, .int .i64 0, .int .i64 0, .int .i64 0] 31)) w9.heap.size 31 [.slice none 0 0, .slice none 0 0, .int .i64 0, .int .i64 0, .int .i64 0, .int .i64 0, .int .i64 0] := heap_alloc_new w9 _
  have s4 := World.size_alloc w9 (.cells #[.slice none 0 0, .slice none 0 0, .int .i64 0, .int .i64 0, .int .i64 0, .int .i64 0, .int .i64 0] 31)
  have x5 : Below (w9.alloc (.cells #[.slice none 0 0, .slice none 0 0, .int .i64 0, .int .i64 0, .int .i64 0, .int .i64 0, .int .i64 0] 31)).heap.size (w9.alloc (.cells #[.slice none 0 0, .slice none 0 0, .int .i64 0, .int .i64 0, .int .i64 0, .int .i64 0, .int .i64 0] 31)) W9 := by rw [hW9]; exact below_alloc _ _
  have o5 : Own W9 (w9.heap.size + 1) 37 [.int .i64 4, .int .i64 ((i : Int) + 1)] := by rw [hW9]; rw [← s4]; exact heap_alloc_new _ _
  have oq : Own W9 w9.heap.size 31 _ := o4.below x5 o4.lt
  have x6 : Below w9.heap.size w9 W9 := x4.trans (x5.mono x4.size)
  obtain ⟨qb9, hqb⟩ : ∃ x, x = w9.heap.size := ⟨_, rfl⟩
  obtain ⟨fb9, hfb⟩ : ∃ x, x = w9.heap.size + 1 := ⟨_, rfl⟩
  rw [← hW9, ← hfb, ← hqb]
  rw [← hfb] at o5
  rw [← hqb] at oq
  have HS10 := Lib.hid (HS9.out.later x6)
  obtain ⟨e0, e1, e2, e3, e4, e5, e6⟩ : _ ∧ _ ∧ _ ∧ _ ∧ _ ∧ _ ∧ _ := ⟨oq.cell 0 (by simp), oq.cell 1 (by simp), oq.cell 2 (by simp), oq.cell 3 (by simp), oq.cell 4 (by simp), oq.cell 5 (by simp), oq.cell 6 (by simp)⟩
  obtain ⟨f0, f1⟩ : _ ∧ _ := ⟨o5.cell 0 (by simp), o5.cell 1 (by simp)⟩
  simp only [List.getD_cons_zero, List.getD_cons_succ] at e0 e1 e2 e3 e4 e5 e6 f0 f1
  obtain ⟨hc1, hc2, hz1, hz2⟩ := HS10.out.cells
  have hE9 := same_yes emptyPn none 0 0 none 0 0 none 0 none 0 W9 (PRow.of_nil W9) (LRow.of_nil W9) (PRow.of_nil W9) (LRow.of_nil W9)
  unfold planV emptyPn at hE9
  have HE9 := Lib.hid hE9
  have heq : ∀ X, (binOp .eql 37 (.agg #[.int .i64 4, .int .i64 ((i : Int) + 1)]) (.agg #[.int .i64 4, .int .i64 ((i : Int) + 1)])).run Tryz.prog X = .ok (.bool true) X := fun X => by rw [eqlFt]; simp
  clear hW9 x4 o4 s4 x5 o5 oq x6 hqb hfb hE9 HS9 hz1 hz2
  go_wp2_with fail
  with_reducible refine HE9.out.mono ?_
  rintro e w10 ⟨rfl, hb⟩
  have HS11 := Lib.hid (HS10.out.later hb)
  clear hb e0 e1 e2 e3 e4 e5 e6 f0 f1 hc1 hc2
  go_wp2_with fail
  with_reducible refine (HL.out w10).mono ?_
  rintro e w11 ⟨rfl, hb⟩
  have HS12 := Lib.hid (HS11.out.later hb)
  clear hb
  go_wp2
  go_ret
  exact ⟨rfl, HS12.out.bel⟩
end Go.Proofs.YthlckipcgogogaaGreatDoor
/- The walk of PlansFaults, case 5. -/
namespace Go.Proofs.YthlckipcgogogaaGreatDoor
set_option linter.unusedVariables false
open Go.RowKit

set_option maxRecDepth 100000 in
set_option maxHeartbeats 4000000 in
theorem faults_walk5 (x : Nn) (s : Option Addr) (c : Nat) (u v : Int) (w : World) (hx : NnAt w x s c) (hflag : PowOk w) (hv0 : 0 ≤ v) (hv1 : v ≤ 255) (hu : u.tmod 12 = 5) : Calls Tryz.prog 4 #[nnV x s c, .int .u8 u, .int .u8 v] w fun e w' => e = .returned (.bool true) ∧ Below w.heap.size w w' := by
  have HFl := Lib.hid hflag
  clear hflag
  have hOf := fun (W : World) (h : NnAt W x s c) => of_any x s c W h
  obtain ⟨p0, hp0⟩ : ∃ p, p = x.codes.getD 0 0 := ⟨_, rfl⟩
  obtain ⟨p1, hp1⟩ : ∃ p, p = x.codes.getD 1 0 := ⟨_, rfl⟩
  obtain ⟨p2, hp2⟩ : ∃ p, p = x.codes.getD 2 0 := ⟨_, rfl⟩
  obtain ⟨p3, hp3⟩ : ∃ p, p = x.codes.getD 3 0 := ⟨_, rfl⟩
  obtain ⟨p4, hp4⟩ : ∃ p, p = x.codes.getD 4 0 := ⟨_, rfl⟩
  obtain ⟨p5, hp5⟩ : ∃ p, p = x.codes.getD 5 0 := ⟨_, rfl⟩
  obtain ⟨t0, ht0⟩ : ∃ p, p = x.tree.getD 0 0 := ⟨_, rfl⟩
  obtain ⟨t1, ht1⟩ : ∃ p, p = x.tree.getD 1 0 := ⟨_, rfl⟩
  obtain ⟨t2, ht2⟩ : ∃ p, p = x.tree.getD 2 0 := ⟨_, rfl⟩
  obtain ⟨t3, ht3⟩ : ∃ p, p = x.tree.getD 3 0 := ⟨_, rfl⟩
  obtain ⟨t4, ht4⟩ : ∃ p, p = x.tree.getD 4 0 := ⟨_, rfl⟩
  obtain ⟨t5, ht5⟩ : ∃ p, p = x.tree.getD 5 0 := ⟨_, rfl⟩
  obtain ⟨m, hm⟩ : ∃ m, m = x.extra.length := ⟨_, rfl⟩
  have HCs : Hid (nnCells x s m c = [.int .u8 (x.many : Nat), .int .u8 (p0 : Nat), .int .u8 (p1 : Nat), .int .u8 (p2 : Nat), .int .u8 (p3 : Nat), .int .u8 (p4 : Nat), .int .u8 (p5 : Nat), .int .u8 (x.ends : Nat), .int .u8 (t0 : Nat), .int .u8 (t1 : Nat), .int .u8 (t2 : Nat), .int .u8 (t3 : Nat), .int .u8 (t4 : Nat), .int .u8 (t5 : Nat), .slice s m c, .int .u8 (x.rate : Nat), .int .u8 (x.room : Nat), .int .u8 (x.k0 : Nat), .int .u8 (x.k1 : Nat)]) := Lib.hid (by unfold nnCells; rw [hp0, hp1, hp2, hp3, hp4, hp5, ht0, ht1, ht2, ht3, ht4, ht5])
  unfold nnV at hOf ⊢
  rw [← hm, HCs.out] at hOf
  rw [← hm, HCs.out]
  have HOf := Lib.hid hOf
  have HXn := Lib.hid hx
  have HL := Lib.hid lives_any
  clear hOf hx hm hp0 hp1 hp2 hp3 hp4 hp5 ht0 ht1 ht2 ht3 ht4 ht5
  go_enter Tryz.func4, Tryz.ntmps4
  go_upto_region 1 with (fail)
  obtain ⟨W0, hW0⟩ : ∃ W0, W0 = w.alloc (.cells #[.int .u8 (x.many : Nat), .int .u8 (p0 : Nat), .int .u8 (p1 : Nat), .int .u8 (p2 : Nat), .int .u8 (p3 : Nat), .int .u8 (p4 : Nat), .int .u8 (p5 : Nat), .int .u8 (x.ends : Nat), .int .u8 (t0 : Nat), .int .u8 (t1 : Nat), .int .u8 (t2 : Nat), .int .u8 (t3 : Nat), .int .u8 (t4 : Nat), .int .u8 (t5 : Nat), .slice s m c, .int .u8 (x.rate : Nat), .int .u8 (x.room : Nat), .int .u8 (x.k0 : Nat), .int .u8 (x.k1 : Nat)] 26) := ⟨_, rfl⟩
  have hB0 : Below w.heap.size w W0 := by rw [hW0]; exact below_alloc w _
  have ho0 : Own W0 w.heap.size 26 [.int .u8 (x.many : Nat), .int .u8 (p0 : Nat), .int .u8 (p1 : Nat), .int .u8 (p2 : Nat), .int .u8 (p3 : Nat), .int .u8 (p4 : Nat), .int .u8 (p5 : Nat), .int .u8 (x.ends : Nat), .int .u8 (t0 : Nat), .int .u8 (t1 : Nat), .int .u8 (t2 : Nat), .int .u8 (t3 : Nat), .int .u8 (t4 : Nat), .int .u8 (t5 : Nat), .slice s m c, .int .u8 (x.rate : Nat), .int .u8 (x.room : Nat), .int .u8 (x.k0 : Nat), .int .u8 (x.k1 : Nat)] := by rw [hW0]; exact heap_alloc_new w _
  rw [← hW0]
  have HRa := Lib.hid (range_own ho0)
  have HB0 := Lib.hid hB0
  clear hW0 ho0 hB0
  iterate 2 go_step
  refine wp_load_mid 26 (.tmp 3) (by rfl) w.heap.size 0 (by rfl) [.int .u8 (x.many : Nat), .int .u8 (p0 : Nat), .int .u8 (p1 : Nat), .int .u8 (p2 : Nat), .int .u8 (p3 : Nat), .int .u8 (p4 : Nat), .int .u8 (p5 : Nat), .int .u8 (x.ends : Nat), .int .u8 (t0 : Nat), .int .u8 (t1 : Nat), .int .u8 (t2 : Nat), .int .u8 (t3 : Nat), .int .u8 (t4 : Nat), .int .u8 (t5 : Nat), .slice s m c, .int .u8 (x.rate : Nat), .int .u8 (x.room : Nat), .int .u8 (x.k0 : Nat), .int .u8 (x.k1 : Nat)] _ HRa.out Tryz.underlying26 (by rfl) (by kernel_rfl) ?_
  go_wp2_with fail
  refine (HOf.out _ (HXn.out.later HB0.out)).mono ?_
  rintro e w1 ⟨p, aP, n, cP, aL, m2, cL, hPF, rfl, hP, hL, hb⟩
  have hb0 : Below w.heap.size w w1 := HB0.out.trans (hb.mono HB0.out.size)
  obtain ⟨b, hbz⟩ : ∃ b, b = w1.heap.size := ⟨_, rfl⟩
  have hn2 := hPF.n2
  have hn6 := hPF.n6
  have hcap := hP.le
  have hcap2 := hP.max
  have hcap3 := hL.le
  have hcap4 := hL.max
  unfold maxLen at hcap2 hcap4
  have HPF := Lib.hid hPF
  clear HOf
  have hfine := valid_fine hP hL hPF.valid
  have hTx := ltext_any p aP n cP aL m2 cL w1 hP hL hPF.valid (HFl.out.later hb0)
  unfold TxOut at hTx
  unfold planV at hTx
  obtain ⟨Ls, hLs⟩ : ∃ Ls, Ls = linesP p := ⟨_, rfl⟩
  have hN := linesP_len p
  have hHd := headL_len p
  have hnn : Ls ≠ [] := by rw [hLs]; intro h; rw [h] at hN; simp at hN
  have hshort := short_text (p := p) (by have := hPF.len; have := hPF.n6; omega) (by have := hPF.llen; have := hPF.m11; omega)
  have hnds : nds (unn Ls) = Ls := nds_unn Ls hnn (by rw [hLs]; exact lines_noN hfine)
  have htx : partText p 4 = unn Ls ++ [10] := by rw [text_nl, unn_nl Ls hnn, hLs]
  rw [← hLs] at hN hshort
  have hul : (unn Ls).length ≤ 2000 := by rw [← unn_nl Ls hnn] at hshort; simp only [List.length_append] at hshort; omega
  rw [htx] at hTx
  have hTr := fun (X : World) => trim_any (unn Ls) X (by omega)
  have hSp := fun (X : World) => linesN_any (unn Ls) X (by omega)
  rw [hnds] at hSp
  obtain ⟨N, hNN⟩ : ∃ N, N = Ls.length := ⟨_, rfl⟩
  rw [← hNN] at hSp hN
  obtain ⟨T1, hT1⟩ : ∃ T, T = bs (unn Ls ++ [10]) := ⟨_, rfl⟩
  obtain ⟨T2, hT2⟩ : ∃ T, T = bs (unn Ls) := ⟨_, rfl⟩
  rw [← hT1] at hTx hTr
  rw [← hT2] at hTr hSp
  have HTx := Lib.hid hTx
  have HTr := Lib.hid hTr
  have HSp := Lib.hid hSp
  have HFi := Lib.hid (And.intro hfine hPF.valid)
  have HLs := Lib.hid (And.intro hLs hNN)
  have HSh := Lib.hid hshort
  have hN5 : 5 ≤ N := by have := hPF.n2; have := hPF.len; omega
  have hN20 : N ≤ 20 := by have := hPF.n6; have := hPF.len; have := hPF.llen; have := hPF.m11; omega
  have HNl := Lib.hid (show N = p.P.length + p.L.length + 3 by omega)
  have HLp := Lib.hid (show 0 < p.L.length by rw [hPF.eq]; exact lines_pos x)
  have HB1 := Lib.hid hb0
  clear hTx hTr hSp hfine hP hL hb hb0 hcap hcap2 hcap3 hcap4 hN hHd hnn hshort hnds htx hul hT1 hT2 hLs hNN hbz b
  go_wp2_with fail
  with_reducible refine HTx.out.mono ?_
  rintro e w2 ⟨rfl, hb⟩
  have HB2 := Lib.hid (HB1.out.trans (hb.mono HB1.out.size))
  clear hb HTx
  go_wp2_with fail
  with_reducible refine (HTr.out w2).mono ?_
  rintro e w3 ⟨rfl, rfl⟩
  go_wp2_with fail
  with_reducible refine (HSp.out w3).mono ?_
  rintro e w4 ⟨rfl, hw4⟩
  have hb4 : Below w3.heap.size w3 w4 := by rw [hw4]; exact below_alloc _ _
  have ho4 : Own w4 w3.heap.size 9 (strC Ls) := by rw [hw4]; exact heap_alloc_new _ _
  obtain ⟨b0, hb0⟩ : ∃ b, b = w3.heap.size := ⟨_, rfl⟩
  rw [← hb0] at ho4 ⊢
  have HB4 := Lib.hid (HB2.out.trans (hb4.mono HB2.out.size))
  have HW0 := Lib.hid (show w.heap.size ≤ b0 by rw [hb0]; exact HB2.out.size)
  have HO4 := Lib.hid ho4
  obtain ⟨i, hi⟩ : ∃ i, i = v.toNat % N := ⟨_, rfl⟩
  have hrem : v.tmod (N : Int) = (i : Int) := by
    rw [Int.tmod_eq_emod_of_nonneg hv0, hi, Int.natCast_emod, Int.toNat_of_nonneg hv0]
  have hiN : i < N := by rw [hi]; exact Nat.mod_lt _ (by omega)
  have hN0 : ((N : Int) == 0) = false := by simp; omega
  clear hw4 hb4 ho4 hb0 hi HTr HSp
  go_upto_region 4 with (fail)
  obtain ⟨W5, hW5⟩ : ∃ X, X = w4.alloc (.cells #[.int .i64 4, .int .i64 ((i : Int) + 1)] 37) := ⟨_, rfl⟩
  have hb5 : Below w4.heap.size w4 W5 := by rw [hW5]; exact below_alloc _ _
  have hf5 : Own W5 w4.heap.size 37 [.int .i64 4, .int .i64 ((i : Int) + 1)] := by rw [hW5]; exact heap_alloc_new _ _
  have ho5 := HO4.out.below hb5 HO4.out.lt
  obtain ⟨wb, hwb⟩ : ∃ b, b = w4.heap.size := ⟨_, rfl⟩
  rw [← hW5, ← hwb]
  rw [← hwb] at hf5
  have hne : b0 ≠ wb := by have := HO4.out.lt; omega
  have HS := Lib.hid (show FS w b0 wb Ls 4 ((i : Int) + 1) W5 from ⟨HB4.out.trans (hb5.mono HB4.out.size), ho5, hf5, hne, HW0.out, by have := HB4.out.size; omega⟩)
  clear hW5 hb5 hf5 ho5 hwb HO4 hne HW0 HB4 HB2 HB1
  have hpre := HS.out.pre Ls.length (by exact Nat.le_refl _) (by have := HLs.out.2; omega)
  rw [List.take_length] at hpre
  rw [← HLs.out.2] at hpre
  have HPre := Lib.hid hpre
  have hbs : w.heap.size ≤ W5.heap.size := HS.out.bel.size
  have hnm : N + 2 ≤ 1000000 := by omega
  clear hpre
  go_wp2_with (at_builtin; refine wpList_append_strs rfl _ _ rfl w.heap.size _ N 2 _ [.string ⟨#[114, 97, 116, 101, 32, 49]⟩, .string ⟨#[]⟩] (by decide) rfl (fun u hu => by simp at hu; rcases hu with rfl | rfl <;> rfl) (by rfl) (by exact HPre.out) (by rfl) hnm hbs ?_)
  intro v1 w1 h1 h2
  have hfw := HS.out.grown h2
  have hnw : ∀ j, v1.ownBlock = some j → ¬ j = wb := fun j hj e => by
    rcases h2.lies j hj with h | h
    · simp only [Value.ownBlock, Option.some.injEq] at h; have := HS.out.ne; omega
    · have := HS.out.want.lt; omega
  obtain ⟨hc1, hc2, hz1, hz2⟩ := hfw.cells
  obtain ⟨b1, c1, hv1, hrest⟩ := ownsK_cells h1 (by omega)
  clear hrest
  subst hv1
  have H1 := Lib.hid h1
  have Hn := Lib.hid hnw
  have HSg := Lib.hid hfw
  clear h1 h2 hfw HS HPre hbs hnm hnw
  go_upto_region 41 with (fail)
  obtain ⟨W7, hW7⟩ : ∃ X, X = w1.setCell ⟨wb, 1, none⟩ (.int .i64 ((N : Int) + 2 - 1)) := ⟨_, rfl⟩
  have hx7 : Exc (fun q => q = wb) w1 W7 := by rw [hW7]; exact Exc.setCell (S := fun q => q = wb) (Exc.refl _ w1) ⟨wb, 1, none⟩ (.inl rfl) _
  have hf7 : FW w wb 4 ((N : Int) + 2 - 1) W7 := by rw [hW7]; exact HSg.out.num _
  have h1 := ownsK_exc H1.out hx7 Hn.out
  rw [← hW7]
  obtain ⟨Lb, hLb⟩ : ∃ l, l = Ls ++ [rate1] := ⟨_, rfl⟩
  have hnl : (nlT Lb).length ≤ 5000 := by have := HSh.out; rw [hLb]; rw [nlT_append, List.length_append]; have : (nlT [rate1]).length ≤ 20 := (by decide); omega
  have hres : ResF (nlT Lb) 4 (N + 1) := by rw [hLb, HLs.out.2, HLs.out.1]; exact res5 HFi.out.1
  have hkk : ((N + 1 : Nat) : Int) = ((N : Int) + 2 - 1) := by omega
  obtain ⟨b1, c1, hv2, hJ0⟩ := join_row h1 (Lf := Lb ++ [[]]) (by rw [hLb, strC_append, strC_append, List.append_assoc]; rfl) (by omega) (by omega) (by rw [join_unn, unn_snoc]; omega)
  injection hv2 with e1 e2 e3
  injection e1 with e1
  injection e1 with e1
  subst e1
  subst e3
  have HSf := Lib.hid hf7
  clear h1 hf7 hx7 hW7 H1 Hn HSg hc1 hc2 hz1 hz2
  have hJ := hJ0
  rw [join_unn, unn_snoc] at hJ
  obtain ⟨S1, hS1⟩ : ∃ S, S = bs (nlT Lb) := ⟨_, rfl⟩
  rw [← hS1] at hJ
  have hRd := fun (X : World) => read_resK hres (by omega) hkk hS1 X
  have HJ := Lib.hid hJ
  have HRd := Lib.hid hRd
  clear hJ0 hnl hres hkk hJ hS1 hRd hLb
  go_wp2_with fail
  with_reducible refine HJ.out.mono ?_
  rintro e w8 ⟨rfl, hb⟩
  have HS8 := Lib.hid (HSf.out.later hb)
  clear hb HJ HSf
  go_wp2_with fail
  with_reducible refine (HRd.out w8).mono ?_
  rintro e w9 ⟨rfl, hb⟩
  have HS9 := Lib.hid (HS8.out.later hb)
  clear hb HRd HS8
  go_upto_region 45 with (fail)
  obtain ⟨W9, hW9⟩ : ∃ X, X = (w9.alloc (.cells #[.slice none 0 0, .slice none 0 0, .int .i64 0, .int .i64 0, .int .i64 0, .int .i64 0, .int .i64 0] 31)).alloc (.cells #[.int .i64 4, .int .i64 ((N : Int) + 2 - 1)] 37) := ⟨_, rfl⟩
  have x4 := below_alloc w9 (.cells #[.slice none 0 0, .slice none 0 0, .int .i64 0, .int .i64 0, .int .i64 0, .int .i64 0, .int .i64 0] 31)
  have o4 : Own (w9.alloc (.cells #[.slice none 0 0, .slice none 0 0, .int .i64 0, .int .i64 0, .int .i64 0, .int .i64 0, .int .i64 0] 31)) w9.heap.size 31 [.slice none 0 0, .slice none 0 0, .int .i64 0, .int .i64 0, .int .i64 0, .int .i64 0, .int .i64 0] := heap_alloc_new w9 _
  have s4 := World.size_alloc w9 (.cells #[.slice none 0 0, .slice none 0 0, .int .i64 0, .int .i64 0, .int .i64 0, .int .i64 0, .int .i64 0] 31)
  have x5 : Below (w9.alloc (.cells #[.slice none 0 0, .slice none 0 0, .int .i64 0, .int .i64 0, .int .i64 0, .int .i64 0, .int .i64 0] 31)).heap.size (w9.alloc (.cells #[.slice none 0 0, .slice none 0 0, .int .i64 0, .int .i64 0, .int .i64 0, .int .i64 0, .int .i64 0] 31)) W9 := by rw [hW9]; exact below_alloc _ _
  have o5 : Own W9 (w9.heap.size + 1) 37 [.int .i64 4, .int .i64 ((N : Int) + 2 - 1)] := by rw [hW9]; rw [← s4]; exact heap_alloc_new _ _
  have oq : Own W9 w9.heap.size 31 _ := o4.below x5 o4.lt
  have x6 : Below w9.heap.size w9 W9 := x4.trans (x5.mono x4.size)
  obtain ⟨qb9, hqb⟩ : ∃ x, x = w9.heap.size := ⟨_, rfl⟩
  obtain ⟨fb9, hfb⟩ : ∃ x, x = w9.heap.size + 1 := ⟨_, rfl⟩
  rw [← hW9, ← hfb, ← hqb]
  rw [← hfb] at o5
  rw [← hqb] at oq
  have HS10 := Lib.hid (HS9.out.later x6)
  obtain ⟨e0, e1, e2, e3, e4, e5, e6⟩ : _ ∧ _ ∧ _ ∧ _ ∧ _ ∧ _ ∧ _ := ⟨oq.cell 0 (by simp), oq.cell 1 (by simp), oq.cell 2 (by simp), oq.cell 3 (by simp), oq.cell 4 (by simp), oq.cell 5 (by simp), oq.cell 6 (by simp)⟩
  obtain ⟨f0, f1⟩ : _ ∧ _ := ⟨o5.cell 0 (by simp), o5.cell 1 (by simp)⟩
  simp only [List.getD_cons_zero, List.getD_cons_succ] at e0 e1 e2 e3 e4 e5 e6 f0 f1
  obtain ⟨hc1, hc2, hz1, hz2⟩ := HS10.out.cells
  have hE9 := same_yes emptyPn none 0 0 none 0 0 none 0 none 0 W9 (PRow.of_nil W9) (LRow.of_nil W9) (PRow.of_nil W9) (LRow.of_nil W9)
  unfold planV emptyPn at hE9
  have HE9 := Lib.hid hE9
  have heq : ∀ X, (binOp .eql 37 (.agg #[.int .i64 4, .int .i64 ((N : Int) + 2 - 1)]) (.agg #[.int .i64 4, .int .i64 ((N : Int) + 2 - 1)])).run Tryz.prog X = .ok (.bool true) X := fun X => by rw [eqlFt]; simp
  clear hW9 x4 o4 s4 x5 o5 oq x6 hqb hfb hE9 HS9 hz1 hz2
  go_wp2_with fail
  with_reducible refine HE9.out.mono ?_
  rintro e w10 ⟨rfl, hb⟩
  have HS11 := Lib.hid (HS10.out.later hb)
  clear hb e0 e1 e2 e3 e4 e5 e6 f0 f1 hc1 hc2
  go_wp2_with fail
  with_reducible refine (HL.out w10).mono ?_
  rintro e w11 ⟨rfl, hb⟩
  have HS12 := Lib.hid (HS11.out.later hb)
  clear hb
  go_wp2
  go_ret
  exact ⟨rfl, HS12.out.bel⟩
end Go.Proofs.YthlckipcgogogaaGreatDoor
