import Derived.Test.YthlckipcgogogaaGreatDoorPlCut
import Derived.Deep.RegionHeld3
import Derived.IntWalk
import Derived.StillTailTactics
import Derived.Deep.Cut
import Derived.Deep.CutBlock
import Derived.BigQuiet
import Derived.BigRegion
/- The closure that puts a line in order (N.Of's add), its places downwards. -/
namespace Go.Proofs.YthlckipcgogogaaGreatDoor
set_option linter.unusedVariables false
open Go.RowKit

set_option maxRecDepth 20000 in
set_option maxHeartbeats 4000000 in
theorem add_dn (P : List (Int × Bool)) (L : List Ln) (a b d : Nat) (aP : Option Addr) (n c : Nat) (aL : Option Addr) (m c' : Nat) (pb : Nat) (rs : List Value) (w : World)
    (hown : Own w pb 31 (.slice aP n c :: .slice aL m c' :: rs)) (hP : PRow w aP n c P) (hL : LRow w aL m c' L) (hPb : ∀ z, aP = some z → z.block ≠ pb) (hLb : ∀ z, aL = some z → z.block ≠ pb)
    (ha : a < n) (hb : b < n) (hab : b < a) (hm : m ≤ 20) (hd : d ≤ 255) :
    Calls Tryz.prog 29 #[.int .i64 a, .int .i64 b, .int .u8 d, .pointer (some ⟨pb, 0, none⟩)] w (AddOut P L a b d aP n c m pb rs w) := by
  obtain ⟨bp, op, rfl, hc⟩ := hP.cells.resolve_left (by omega)
  obtain ⟨c0, _⟩ := hc (min a b) (by omega)
  obtain ⟨c1, _⟩ := hc (max a b) (by omega)
  clear hc
  obtain ⟨x, hx⟩ : ∃ x, x = pc P (min a b) := ⟨_, rfl⟩
  obtain ⟨y, hy⟩ : ∃ y, y = pc P (max a b) := ⟨_, rfl⟩
  have wx : 0 ≤ x ∧ x ≤ 65535 := by rw [hx]; exact prow_wf hP (by omega)
  have wy : 0 ≤ y ∧ y ≤ 65535 := by rw [hy]; exact prow_wf hP (by omega)
  rw [← hx] at c0
  rw [← hy] at c1
  have HX := Lib.hid hx
  have HY := Lib.hid hy
  have HWX := Lib.hid (And.intro wx wy)
  clear hx hy wx wy
  have e1 : min a b = b := by omega
  have e2 : max a b = a := by omega
  rw [e1] at c0
  rw [e2] at c1
  have f1 : ¬ a < b := by omega
  have f2 : ¬ (a : Int) < (b : Int) := by omega
  have f3 : (b : Int) < (a : Int) := by omega
  have m1 : min (a : Int) (b : Int) = b := by omega
  have m2 : max (a : Int) (b : Int) = a := by omega
  have s1 : pb < w.heap.size := hown.lt
  have s2 : bp < w.heap.size := World.block_lt_of_cell? w _ c0
  clear e1 e2
  have g0 := hown.cell 0 (by simp)
  have g1 := hown.cell 1 (by simp)
  simp only [List.getD_cons_zero, List.getD_cons_succ] at g0 g1
  have HO := Lib.hid hown
  have HP := Lib.hid hP
  have HL := Lib.hid hL
  have HPb := Lib.hid hPb
  have HLb := Lib.hid hLb
  have hmax := hP.max
  have hle := hP.le
  unfold maxLen at hmax
  clear hown hP hL hPb hLb
  go_enter Tryz.func29, Tryz.ntmps29
  go_wp2_with fail
  go_region
  obtain ⟨W0, hW0⟩ : ∃ W0, W0 = (w.alloc (.cells #[.int .u16 x, .int .u16 y, .int .u8 0] 74)).drew := ⟨_, rfl⟩
  rw [← hW0]
  have hb0 : Below w.heap.size w W0 := by rw [hW0]; exact (below_alloc _ _).drew
  have ho0 : Own W0 w.heap.size 74 [.int .u16 x, .int .u16 y, .int .u8 0] := by rw [hW0]; exact heap_alloc_new w _
  have HB0 := Lib.hid hb0
  have HO0 := Lib.hid ho0
  clear hW0 hb0 ho0 c0 c1 g0 g1 f1 f2 f3 m1 m2 s2
  as_aux_lemma =>
    go_wp2_with fail
    go_loopw [8, 9] (fun at' i wr => ∃ k : Nat, k ≤ m ∧ i = .int .i64 k ∧ at' = .int .i64 (atK L x y k) ∧ Own wr w.heap.size 74 [.int .u16 x, .int .u16 y, .int .u8 (cntK L x y k)] ∧ Below w.heap.size w wr) (fun _ i _ => m - (intOf i).toNat)
    case atStart => exact ⟨0, Nat.zero_le _, rfl, rfl, HO0.out, HB0.out⟩
    case round =>
      obtain ⟨k, hk, rfl, rfl, ho, hb⟩ := hrel
      have hq1 : wr.cell? ⟨pb, 1, none⟩ = some (.slice aL m c') := (hb.cell s1).trans (HO.out.cell 1 (by simp))
      have s3 : w.heap.size < wr.heap.size := ho.lt
      have s4 : pb < wr.heap.size := by omega
      obtain ⟨N, hN⟩ : ∃ N, N = cntK L x y k := ⟨_, rfl⟩
      have hNk : N ≤ k := by rw [hN]; exact cntK_le L x y k
      rw [← hN] at ho
      obtain ⟨T, hT⟩ : ∃ T, T = atK L x y k := ⟨_, rfl⟩
      have hTk : T ≤ k := by rw [hT]; exact atK_le L x y k
      rw [← hT]
      have HOr := Lib.hid ho
      have HBr := Lib.hid hb
      have HN := Lib.hid hN
      have HT := Lib.hid hT
      clear hN hT
      by_cases hkm : k < m
      · obtain ⟨b', off, rfl, hcl⟩ := (HL.out.later hb).cells.resolve_left (by omega)
        obtain ⟨c0, c1, c2, c3⟩ := hcl k hkm
        clear hcl ho hb
        obtain ⟨l, hl⟩ : ∃ l, l = lnAt L k := ⟨_, rfl⟩
        rw [← hl] at c0 c1 c2 c3
        have HXl := Lib.hid hl
        clear hl c3
        obtain ⟨A, B, C, D⟩ := l
        simp only at c0 c1 c2
        have HCs := Lib.hid (cntK_succ L x y k (by have := HL.out.len; omega))
        have s5 : b' < wr.heap.size := World.block_lt_of_cell? wr _ c0
        go_upto_region 6 with (fail)
        obtain ⟨Wy, hWy⟩ : ∃ Wy, Wy = wr.alloc (.cells #[.int .u16 A, .int .u16 B, .int .u8 C] 74) := ⟨_, rfl⟩
        rw [← hWy]
        have hby : Below wr.heap.size wr Wy := by rw [hWy]; exact below_alloc _ _
        have hoy : Own Wy wr.heap.size 74 [.int .u16 A, .int .u16 B, .int .u8 C] := by rw [hWy]; exact heap_alloc_new wr _
        have hol := HOr.out.below hby s3
        have l0 := hol.cell 0 (by simp)
        have l1 := hol.cell 1 (by simp)
        have l2 := hol.cell 2 (by simp)
        have lf := hol.frozen 2
        have y0 := hoy.cell 0 (by simp)
        have y1 := hoy.cell 1 (by simp)
        simp only [List.getD_cons_zero, List.getD_cons_succ] at l0 l1 l2 y0 y1
        have HBy := Lib.hid (HBr.out.trans (hby.mono (Nat.le_of_lt s3)))
        have HOy := Lib.hid hol
        clear hWy hby hoy hol c0 c1 c2 hq1 s5
        as_aux_lemma =>
          by_cases h1 : A = x
          · by_cases h2 : B = y
            · have f2 : (A == x) = true := by simpa using h1
              have f3 : (B == y) = true := by simpa using h2
              have f4 : ¬ A < x := by omega
              have f5 : B ≤ y := by omega
              have f6 : (N : Int) + 1 ≤ 255 := by omega
              have HP1 := Lib.hid (pair_one HXl.out.symm (show pairB x y ⟨A, B, C, D⟩ = true by simp [pairB]; omega))
              have HL1 := Lib.hid (atK_one HXl.out.symm (show le2 x y ⟨A, B, C, D⟩ = true by simp [le2]; omega))
              go_wp2_with fail
              have e2 : cntK L x y (k + 1) = N + 1 := by rw [HCs.out, HP1.out, ← HN.out]; simp
              have e3 : atK L x y (k + 1) = k + 1 := by rw [HL1.out]; simp
              have hz8 : Below w.heap.size w (Wy.setCell ⟨w.heap.size, 2, none⟩ (.int .u8 ((N : Int) + 1))) := HBy.out.trans (((Exc.refl (fun q => q = w.heap.size) Wy).setCell ⟨w.heap.size, 2, none⟩ (.inl rfl) _).below HBy.out.size (fun i _ hi => by omega))
              have ho8 := HOy.out.set 2 (.int .u8 ((N : Int) + 1))
              refine ⟨⟨k + 1, by omega, ?_, ?_, ?_, hz8⟩, by simp [intOf]; omega⟩
              · go_num
              · rw [e3]; go_num
              · rw [e2]; simpa using ho8
            · have f2 : (A == x) = true := by simpa using h1
              have f3 : (B == y) = false := by simpa using h2
              have f4 : ¬ A < x := by omega
              have HP1 := Lib.hid (pair_one HXl.out.symm (show pairB x y ⟨A, B, C, D⟩ = false by simp [pairB]; omega))
              by_cases h3 : B ≤ y
              · have HL1 := Lib.hid (atK_one HXl.out.symm (show le2 x y ⟨A, B, C, D⟩ = true by simp [le2]; omega))
                go_wp2_with fail
                have e2 : cntK L x y (k + 1) = N := by rw [HCs.out, HP1.out, ← HN.out]; simp
                have e3 : atK L x y (k + 1) = k + 1 := by rw [HL1.out]; simp
                refine ⟨⟨k + 1, by omega, ?_, ?_, ?_, HBy.out⟩, by simp [intOf]; omega⟩
                · go_num
                · rw [e3]; go_num
                · rw [e2]; exact HOy.out
              · have HL1 := Lib.hid (atK_one HXl.out.symm (show le2 x y ⟨A, B, C, D⟩ = false by simp [le2]; omega))
                go_wp2_with fail
                have e2 : cntK L x y (k + 1) = N := by rw [HCs.out, HP1.out, ← HN.out]; simp
                have e3 : atK L x y (k + 1) = T := by rw [HL1.out]; simp [HT.out]
                refine ⟨⟨k + 1, by omega, ?_, ?_, ?_, HBy.out⟩, by simp [intOf]; omega⟩
                · go_num
                · rw [e3]
                · rw [e2]; exact HOy.out
          · have f1 : (A == x) = false := by simpa using h1
            have HP1 := Lib.hid (pair_one HXl.out.symm (show pairB x y ⟨A, B, C, D⟩ = false by simp [pairB]; omega))
            by_cases h3 : A < x
            · have HL1 := Lib.hid (atK_one HXl.out.symm (show le2 x y ⟨A, B, C, D⟩ = true by simp [le2]; omega))
              go_wp2_with fail
              have e2 : cntK L x y (k + 1) = N := by rw [HCs.out, HP1.out, ← HN.out]; simp
              have e3 : atK L x y (k + 1) = k + 1 := by rw [HL1.out]; simp
              refine ⟨⟨k + 1, by omega, ?_, ?_, ?_, HBy.out⟩, by simp [intOf]; omega⟩
              · go_num
              · rw [e3]; go_num
              · rw [e2]; exact HOy.out
            · have HL1 := Lib.hid (atK_one HXl.out.symm (show le2 x y ⟨A, B, C, D⟩ = false by simp [le2]; omega))
              go_wp2_with fail
              have e2 : cntK L x y (k + 1) = N := by rw [HCs.out, HP1.out, ← HN.out]; simp
              have e3 : atK L x y (k + 1) = T := by rw [HL1.out]; simp [HT.out]
              refine ⟨⟨k + 1, by omega, ?_, ?_, ?_, HBy.out⟩, by simp [intOf]; omega⟩
              · go_num
              · rw [e3]
              · rw [e2]; exact HOy.out
      · as_aux_lemma =>
          obtain rfl : m = k := by omega
          have k1 : ¬ (m : Int) < (m : Int) := by omega
          have lb0 := HOr.out.cell 0 (by simp)
          have lb1 := HOr.out.cell 1 (by simp)
          have lb2 := HOr.out.cell 2 (by simp)
          simp only [List.getD_cons_zero, List.getD_cons_succ] at lb0 lb1 lb2
          obtain ⟨e, he⟩ : ∃ e, e = d % 3 := ⟨_, rfl⟩
          have he2 : e ≤ 2 := by omega
          have i2 : (0 : Int) ≤ 1 + (e : Int) ∧ 1 + (e : Int) ≤ 3 := by omega
          have hq1' := hq1
          have hrow := HL.out.later hb
          have htc : m ≤ c' := hrow.le
          obtain ⟨A1, q1, q2, q3⟩ := cut_back aL m c' T hTk htc
          obtain ⟨r1, r2⟩ := cut_front aL m c' T hTk htc
          obtain ⟨W8, hW8⟩ : ∃ W8, W8 = (wr.alloc (.cells #[.int .u16 x, .int .u16 y, .int .u8 (N : Int), .int .i64 (1 + (e : Int))] 76)) := ⟨_, rfl⟩
          have hblk : Below wr.heap.size wr W8.drew := by rw [hW8]; exact (below_alloc wr _).drew
          have HLit := Lib.hid (show W8.drew.ownsRow wr.heap.size 76 4 (.slice (some ⟨wr.heap.size, 0, none⟩) 1 1) 1 (cellsL [⟨x, y, N, 1 + (e : Int)⟩]) from by rw [hW8]; exact own_drew (owns_lit wr ⟨x, y, N, 1 + (e : Int)⟩ (B := wr.heap.size) (Nat.le_refl _)))
          have HDrop := Lib.hid (q3 _ _ (hrow.later hblk))
          have HRow8 := Lib.hid (hrow.later hblk)
          have HB8 := Lib.hid hblk
          have hB8 : wr.heap.size ≤ W8.drew.heap.size := hblk.size
          have d0 : W8.drew.cell? ⟨w.heap.size, 0, none⟩ = some (.int .u16 x) := (hblk.cell s3).trans lb0
          have d1 : W8.drew.cell? ⟨w.heap.size, 1, none⟩ = some (.int .u16 y) := (hblk.cell s3).trans lb1
          have d2 : W8.drew.cell? ⟨w.heap.size, 2, none⟩ = some (.int .u8 (N : Int)) := (hblk.cell s3).trans lb2
          have d3 : W8.drew.cell? ⟨pb, 1, none⟩ = some (.slice aL m c') := (hblk.cell s4).trans hq1
          have HD := Lib.hid (And.intro d0 (And.intro d1 (And.intro d2 d3)))
          have HW8 := Lib.hid hW8
          have HQ3 := Lib.hid q3
          have HE := Lib.hid he
          have n1 : ¬ w.heap.size = wr.heap.size := by omega
          have n2 : ¬ pb = wr.heap.size := by omega
          have i0 : (0 : Int) ≤ (T : Int) := by omega
          have i1 : (T : Int) ≤ (m : Int) := by omega
          have hmT : 1 + (m - T) ≤ 1000 := by omega
          have i3 : (m : Int) ≤ (c' : Int) := by omega
          have t1 : (d : Int).tmod 3 = (e : Int) := by rw [he, Int.tmod_eq_emod_of_nonneg (by omega)]; omega
          have t2 : IntKind.i64.wrap (e : Int) = (e : Int) := IntWalk.i64_in _ (by omega)
          have t3 : IntKind.i64.wrap (1 + (e : Int)) = 1 + (e : Int) := IntWalk.i64_in _ (by omega)
          clear ho hb hblk q3 he hrow d0 d1 d2 d3 hW8 hq1'
          go_wp2_with fail
          go_region_held3 (fun w' => w'.cell? ⟨w.heap.size, 0, none⟩ = some (.int .u16 x) ∧ w'.cell? ⟨w.heap.size, 1, none⟩ = some (.int .u16 y) ∧ w'.cell? ⟨w.heap.size, 2, none⟩ = some (.int .u8 (N : Int)) ∧ w'.cell? ⟨pb, 1, none⟩ = some (.slice aL m c')) (first | go_keep | assumption)
            (first
              | (rw [← HW8.out]; refine step_append_lns (by rfl) (.tmp 85) (.tmp 89) (by rfl) wr.heap.size (.slice (some ⟨wr.heap.size, 0, none⟩) 1 1) 1 [⟨x, y, N, 1 + (e : Int)⟩] (by rfl) HLit.out A1 (m - T) (c' - T) (L.drop T) (by rfl) HDrop.out hmT hB8 ?_; intro v4 w4 hg4 hb4; have HG4 := Lib.hid hg4; have HB4 := Lib.hid hb4; have g0 := (Exc.of_grown hb4).cell HD.out.1 (fun hh => n1 (Option.some.inj hh).symm); have g1 := (Exc.of_grown hb4).cell HD.out.2.1 (fun hh => n1 (Option.some.inj hh).symm); have g2 := (Exc.of_grown hb4).cell HD.out.2.2.1 (fun hh => n1 (Option.some.inj hh).symm); have g3 := (Exc.of_grown hb4).cell HD.out.2.2.2 (fun hh => n2 (Option.some.inj hh).symm); clear hg4 hb4)
              | fail)
          obtain ⟨a4, c4, rfl, hrow4, hbig4⟩ := lrow_of_owns (n := 1 + (m - T)) (L := [⟨x, y, N, 1 + (e : Int)⟩] ++ L.drop T) HG4.out (by rw [List.length_append, List.length_drop, HL.out.len]; rfl) (fun z hz => by
            rcases List.mem_append.1 hz with hz | hz
            · simp only [List.mem_cons, List.not_mem_nil, or_false] at hz
              subst hz
              have h1 := HWX.out
              simp only
              omega
            · exact HL.out.wf z (List.mem_of_mem_drop hz))
          have hbel4 : Below wr.heap.size wr w4 := HB8.out.trans ((Exc.of_grown HB4.out).below HB8.out.size (fun i _ hi => by have h9 : wr.heap.size = i := Option.some.inj hi; omega))
          have hbw4 : Below w.heap.size w w4 := HBr.out.trans (hbel4.mono (Nat.le_of_lt s3))
          have hown4 := HO.out.below hbw4 s1
          have u1 := hown4.cell 1 (by simp)
          have f1 := hown4.frozen 1
          simp only [List.getD_cons_zero, List.getD_cons_succ] at u1
          have HRow4 := Lib.hid hrow4
          have HBig4 := Lib.hid hbig4
          have HBw4 := Lib.hid hbw4
          have HOwn4 := Lib.hid hown4
          have HF4 := Lib.hid ((HL.out.later hbw4).front T hTk)
          have HNil := Lib.hid (World.ownsRow_nil w4 w4.heap.size 76 4)
          have z1 : 0 + T ≤ 1000 := by omega
          have z2 : T + (1 + (m - T)) ≤ 1000 := by omega
          have z3 : pb < w4.heap.size := Nat.lt_of_lt_of_le s1 hbw4.size
          clear hrow4 hbig4 hbel4 hbw4 hown4 lb0 lb1 lb2 hq1 hB8 t1 t2 t3 q1 q2
          go_wp2_with (at_builtin; refine wpList_append_lns rfl _ _ rfl w4.heap.size (.slice none 0 0) 0 [] rfl (by simpa [cellsL] using HNil.out) aL T c' (L.take T) rfl HF4.out z1 (Nat.le_refl _) ?_)
          intro v5 w5 hg5 hb5
          have hB5 : w4.heap.size ≤ w5.heap.size := (Exc.of_grown hb5).size
          have hbel5 : Below w4.heap.size w4 w5 := (Exc.of_grown hb5).below (Nat.le_refl _) (fun i _ hi => by cases hi)
          have HG5 := Lib.hid hg5
          have HB5 := Lib.hid hbel5
          have HRow5 := Lib.hid (HRow4.out.later hbel5)
          have u5 := hbel5.cell (p := ⟨pb, 1, none⟩) z3
          clear hg5 hb5 hbel5
          go_wp2_with (at_builtin; (refine wpList_append_lns rfl _ _ rfl w4.heap.size v5 T (L.take T) rfl HG5.out a4 (1 + (m - T)) c4 ([⟨x, y, N, 1 + (e : Int)⟩] ++ L.drop T) rfl HRow5.out z2 hB5 ?_))
          intro v6 w6 hg6 hb6
          rw [show T + (1 + (m - T)) = m + 1 by omega] at hg6
          have hbel6 : Below w4.heap.size w4 w6 := HB5.out.trans ((Exc.of_grown hb6).below hB5 (fun i _ hi => (ownsK_lt HG5.out hi).1))
          have hown6 := HOwn4.out.below hbel6 z3
          have hbw6 : Below w.heap.size w w6 := HBw4.out.trans (hbel6.mono HBw4.out.size)
          obtain ⟨a6, c6, rfl, hrow6, hbig6⟩ := lrow_of_owns (n := m + 1) (L := L.take T ++ ([⟨x, y, N, 1 + (e : Int)⟩] ++ L.drop T)) hg6 (by rw [List.length_append, List.length_append, List.length_take, List.length_drop, HL.out.len]; simp only [List.length_cons, List.length_nil]; omega) (fun z hz => by
            rcases List.mem_append.1 hz with hz | hz
            · exact HL.out.wf z (List.mem_of_mem_take hz)
            · rcases List.mem_append.1 hz with hz | hz
              · simp only [List.mem_cons, List.not_mem_nil, or_false] at hz
                subst hz
                have h1 := HWX.out
                simp only
                omega
              · exact HL.out.wf z (List.mem_of_mem_drop hz))
          have f6 := hown6.frozen 1
          have u6 := hown6.cell 1 (by simp)
          simp only [List.getD_cons_zero, List.getD_cons_succ] at u6
          have HN6 := Lib.hid (hown6.set 1 (.slice a6 (m + 1) c6))
          have HX6 := Lib.hid ((Exc.of_below (S := fun k => k = pb) (hbw6)).trans ((Exc.refl (fun k => k = pb) w6).setCell ⟨pb, 1, none⟩ (.inl rfl) (.slice a6 (m + 1) c6)) (fun _ _ hh => hh))
          have HBig6 := Lib.hid (show ∀ z, a6 = some z → w.heap.size ≤ z.block from fun z hz => Nat.le_trans HBw4.out.size (hbig6 z hz))
          have HR6 := Lib.hid (hrow6.exc ((Exc.refl (fun k => k = pb) w6).setCell ⟨pb, 1, none⟩ (.inl rfl) (.slice a6 (m + 1) c6)) (fun z hz hh => by have h7 := hbig6 z hz; have h8 : z.block = pb := hh; omega))
          have HEq := Lib.hid (show L.take T ++ ([⟨x, y, (N : Int), 1 + (e : Int)⟩] ++ L.drop T) = putN P L a b d from by
            have hlen := HL.out.len
            unfold putN addL
            rw [← HX.out, ← HY.out, hlen, ← HT.out, ← HN.out, HE.out]
            rfl)
          clear hg6 hb6 hbel6 hown6 hbw6 hrow6 hbig6 u5
          go_wp2_with fail
          refine bodyPost_end (v := .tuple #[]) (by simp [results, Tryz.results29, go_sem]) rfl ⟨rfl, a6, c6, HN6.out, ?_, HBig6.out, HX6.out⟩
          rw [← HEq.out]
          exact HR6.out
end Go.Proofs.YthlckipcgogogaaGreatDoor
