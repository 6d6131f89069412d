/- Joined: TpBegin TpSt. -/
import Derived.Test.YtdjmopipmeonlaaTpSts
import Derived.Deep.CutBlock
/- The statements' begin: the model of a place with all neighbors up. -/
namespace Go.Proofs.Ytdjmopipmeonlaa
set_option linter.unusedVariables false
open Go.RowKit Go.Maps

theorem treeN_pos (x : Nn) : ∀ k, 2 ≤ k → 0 < (treeN x k).length
  | 0, h => by omega
  | k + 1, h => by
    unfold treeN
    rw [if_neg (by omega)]
    unfold putN
    rw [addL_length]; omega
theorem extraN_pos (x : Nn) : ∀ j, 0 < (extraN x j).length
  | 0 => treeN_pos x x.n x.n_range.1
  | j + 1 => by
    unfold extraN
    split
    · exact extraN_pos x j
    · unfold putN
      rw [addL_length]; omega
theorem PF.mpos {x : Nn} {p : Pn} {n m : Nat} (h : PF x p n m) : 0 < m := by
  have h1 := h.llen
  rw [h.eq] at h1
  have h2 : (planN x).L = linesN x := rfl
  rw [h2] at h1
  have := extraN_pos x (min x.extra.length 6)
  unfold linesN at h1
  omega
/-- The neighbors found among the first i places, and by the first k lines at the i-th. -/
def bgN (p : Pn) (at' i k : Nat) (j : Nat) : Bool :=
  decide (j < p.P.length) && (if j < i then decide (0 < nearN p.L (pc p.P at') (pc p.P j)) else if j = i then decide (0 < nearN (p.L.take k) (pc p.P at') (pc p.P j)) else false)
theorem bgN_zero (p : Pn) (at' j : Nat) : bgN p at' 0 0 j = false := by
  unfold bgN
  by_cases h : j = 0
  · simp [h, nearN]
  · simp [h]
theorem bgN_next (p : Pn) (at' i j : Nat) : bgN p at' i p.L.length j = bgN p at' (i + 1) 0 j := by
  unfold bgN
  by_cases h1 : j < i
  · rw [if_pos h1, if_pos (by omega)]
  · rw [if_neg h1]
    by_cases h2 : j = i
    · rw [if_pos h2, if_pos (show j < i + 1 by omega), List.take_of_length_le (Nat.le_refl _)]
    · rw [if_neg h2, if_neg (show ¬ j < i + 1 by omega)]
      by_cases h3 : j = i + 1
      · rw [if_pos h3]; simp [nearN]
      · rw [if_neg h3]
theorem bgN_step (p : Pn) (at' i k : Nat) (hk : k < p.L.length) (j : Nat) (hi : i < p.P.length) : bgN p at' i (k + 1) j = (if joins (lnAt p.L k) (pc p.P at') (pc p.P i) = true then updU (bgN p at' i k) i true j else bgN p at' i k j) := by
  by_cases h3 : joins (lnAt p.L k) (pc p.P at') (pc p.P i) = true
  · rw [if_pos h3]
    unfold bgN updU
    by_cases h2 : j = i
    · subst h2
      simp [hi, nearN_take p.L _ _ k hk, h3]
    · by_cases h1 : j < i <;> simp [h1, h2]
  · rw [if_neg h3]
    unfold bgN
    by_cases h2 : j = i
    · subst h2
      simp [nearN_take p.L _ _ k hk, h3]
    · by_cases h1 : j < i <;> simp [h1, h2]
theorem begin_cells (a : Option Addr) (n c : Nat) (a' : Option Addr) (m c' : Nat) (p : Pn) (at' : Nat) :
    ((((((((Try.zeroCells108.setIfInBounds 0 (.slice a n c)).setIfInBounds 1 (.slice a' m c')).setIfInBounds 2 (.int .i64 p.rate)).setIfInBounds 3 (.int .i64 p.room)).setIfInBounds 4 (.int .i64 p.m0)).setIfInBounds 5 (.int .i64 p.m1)).setIfInBounds 6 (.int .i64 p.m2)).setIfInBounds 7 (.int .i64 (at' : Int))) =
      ((List.range 92).map (mdG (planCells a n c a' m c' p) at' ⟨fun _ => false, fun _ => false, fun _ _ => 0, fun _ _ => 0⟩)).toArray := by kernel_rfl
def BgOut (mb0 : Nat) (a : Option Addr) (n c : Nat) (a' : Option Addr) (m c' : Nat) (p : Pn) (at' : Nat) (w : World) (e : Ending) (w' : World) : Prop :=
  ∃ mb, e = .returned (.pointer (some ⟨mb, 0, none⟩)) ∧ mb0 ≤ mb ∧ MdAt w' mb (planCells a n c a' m c' p) at' ⟨bgN p at' n 0, bgN p at' n 0, fun _ _ => 0, fun _ _ => 0⟩ ∧ Below w.heap.size w w'
set_option maxRecDepth 100000 in
set_option maxHeartbeats 8000000 in
theorem begin_any {x : Nn} {p : Pn} {n m at' : Nat} (hp : PF x p n m) (hat : at' < n) (a : Option Addr) (c : Nat) (a' : Option Addr) (c' : Nat) (w : World) (hrow : PRow w a n c p.P) (hlrow : LRow w a' m c' p.L) :
    Calls Try.prog 9 #[planV a n c a' m c' p, .int .i64 at'] w (BgOut w.heap.size a n c a' m c' p at' w) := by
  obtain ⟨W, hW⟩ : ∃ W, W = w.alloc (.cells (planCells a n c a' m c' p).toArray 33) := ⟨_, rfl⟩
  have hB : Below w.heap.size w W := by rw [hW]; exact below_alloc _ _
  have hA : PlanAt W w.heap.size a n c a' m c' p := by rw [hW]; exact PlanAt.new _ _ _ _ _ _ _ _
  unfold planV at *
  obtain ⟨g0, g1, g2, g3, g4, g5, g6⟩ := hA.cells
  have HB := Lib.hid hB
  have HA := Lib.hid hA
  have HR := Lib.hid (hrow.later hB)
  have HL := Lib.hid (hlrow.later hB)
  clear hrow hlrow hB hA
  go_enter Try.func9, Try.ntmps9
  go_upto_region 1 with (fail)
  show Code.wp _ _ _ _ (w.alloc (.cells (planCells a n c a' m c' p).toArray 33))
  rw [← hW]
  clear hW
  go_upto_region 2 with (fail)
  rw [begin_cells]
  obtain ⟨W1, hW1⟩ : ∃ W1, W1 = W.alloc (.cells ((List.range 92).map (mdG (planCells a n c a' m c' p) at' ⟨fun _ => false, fun _ => false, fun _ _ => 0, fun _ _ => 0⟩)).toArray 108) := ⟨_, rfl⟩
  obtain ⟨mb, hmb⟩ : ∃ mb, mb = W.heap.size := ⟨_, rfl⟩
  have hB1 : Below W.heap.size W W1 := by rw [hW1]; exact below_alloc _ _
  have hM1 : MdAt W1 mb (planCells a n c a' m c' p) at' ⟨bgN p at' 0 0, bgN p at' 0 0, fun _ _ => 0, fun _ _ => 0⟩ := by
    have h9 : MdAt W1 mb (planCells a n c a' m c' p) at' ⟨fun _ => false, fun _ => false, fun _ _ => 0, fun _ _ => 0⟩ := by rw [hW1, hmb]; exact own_lit W _ _ _ rfl
    exact h9.congr (fun i _ => bgN_zero p at' i) (fun i _ => bgN_zero p at' i) (fun _ _ _ _ => rfl) (fun _ _ _ _ => rfl)
  rw [← hW1, ← hmb]
  generalize ((List.range 92).map (mdG (planCells a n c a' m c' p) at' ⟨fun _ => false, fun _ => false, fun _ _ => 0, fun _ _ => 0⟩)).toArray = BL
  have HM1 := Lib.hid hM1
  have HB1 := Lib.hid hB1
  have HB01 := Lib.hid (HB.out.trans (hB1.mono HB.out.size))
  have HPb := Lib.hid (HA.out.later hB1)
  have HR1 := Lib.hid (HR.out.later hB1)
  have HL1 := Lib.hid (HL.out.later hB1)
  obtain ⟨pb, hpb⟩ : ∃ pb, pb = w.heap.size := ⟨_, rfl⟩
  rw [← hpb] at HPb ⊢
  have HMb := Lib.hid (show w.heap.size ≤ mb ∧ pb < mb ∧ mb < W1.heap.size by
    have h1 := HB.out.size
    have h2 := Own.lt HA.out
    have h3 := Own.lt hM1
    omega)
  have HLn := Lib.hid hp.len
  have HLl := Lib.hid hp.llen
  have hn6 := hp.n6
  have hm11 := hp.m11
  have HVal := Lib.hid hp.valid
  have HAsc := Lib.hid (fun (i j : Nat) (hi : i < n) (hj : j < n) => hp.asc.inj (i := i) (j := j) (by rw [hp.len]; exact hi) (by rw [hp.len]; exact hj))
  obtain ⟨br, off, hbr, _⟩ := HR1.out.cells.resolve_left (by omega)
  obtain ⟨bl, offl, hbl, _⟩ := HL1.out.cells.resolve_left (by have := hp.mpos; omega)
  have hrb : br < mb := by
    obtain ⟨b9, o9, e9, h9⟩ := HR.out.cells.resolve_left (by omega)
    rw [hbr] at e9; cases e9
    have := World.block_lt_of_cell? _ _ (h9 0 (by omega)).1
    rw [hmb]; exact this
  have hlb : bl < mb := by
    have hm0 := hp.mpos
    obtain ⟨b9, o9, e9, h9⟩ := HL.out.cells.resolve_left (by omega)
    rw [hbl] at e9; cases e9
    have := World.block_lt_of_cell? _ _ (h9 0 hm0).1
    rw [hmb]; exact this
  subst hbr hbl
  have HK : Hid (∀ wr, Exc (fun q => q = mb) W1 wr → PRow wr (some ⟨br, off, none⟩) n c p.P ∧ LRow wr (some ⟨bl, offl, none⟩) m c' p.L ∧ PlanAt wr pb (some ⟨br, off, none⟩) n c (some ⟨bl, offl, none⟩) m c' p) := Lib.hid (fun wr hx => ⟨HR1.out.exc hx (fun z hz hk => by cases hz; simp only at hk; omega), HL1.out.exc hx (fun z hz hk => by cases hz; simp only at hk; omega), own_exc HPb.out hx (fun hk => by have := HMb.out; omega)⟩)
  have HSt := Lib.hid (fun (i k : Nat) (hi : i < n) (hk : k < m) (j : Nat) => bgN_step p at' i k (by rw [hp.llen]; exact hk) j (by rw [hp.len]; exact hi))
  clear hM1 hB1 hW1 hmb hpb g0 g1 g2 g3 g4 g5 g6 HA HR HL
  go_wp2_with fail
  go_loopw [6] (fun v wr => ∃ i : Nat, i ≤ n ∧ v = .int .i64 i ∧ Exc (fun q => q = mb) W1 wr ∧ MdAt wr mb (planCells (some ⟨br, off, none⟩) n c (some ⟨bl, offl, none⟩) m c' p) at' ⟨bgN p at' i 0, bgN p at' i 0, fun _ _ => 0, fun _ _ => 0⟩) (fun v _ => n - (intOf v).toNat)
  case atStart => exact ⟨0, Nat.zero_le _, rfl, Exc.refl _ _, HM1.out⟩
  case round =>
    obtain ⟨i, hi, rfl, hx, hm⟩ := hrel
    clear HM1
    obtain ⟨hr, hl, hpl⟩ := HK.out wr hx
    obtain ⟨g0, g1, g2, g3, g4, g5, g6⟩ := hpl.cells
    have HX := Lib.hid hx
    have HM := Lib.hid hm
    clear hx hm hr hl hpl
    by_cases hin : i < n
    · have i0 : (0 : Int) ≤ (i : Int) := by omega
      have i1 : (i : Int) < (n : Int) := by omega
      go_wp2_with fail
      clear g0 g1 g2 g3 g4 g5 g6
      go_loopw [7] (fun v wr => ∃ k : Nat, k ≤ m ∧ v = .int .i64 k ∧ Exc (fun q => q = mb) W1 wr ∧ MdAt wr mb (planCells (some ⟨br, off, none⟩) n c (some ⟨bl, offl, none⟩) m c' p) at' ⟨bgN p at' i k, bgN p at' i k, fun _ _ => 0, fun _ _ => 0⟩) (fun v _ => m - (intOf v).toNat)
      case atStart => exact ⟨0, Nat.zero_le _, rfl, HX.out, HM.out⟩
      case round =>
        obtain ⟨k, hk, rfl, hx, hm⟩ := hrel
        clear HM
        obtain ⟨hr, hl, hpl⟩ := HK.out wr hx
        obtain ⟨g0, g1, g2, g3, g4, g5, g6⟩ := hpl.cells
        obtain ⟨b9, o9, e9, hcs⟩ := hr.cells.resolve_left (by omega)
        cases e9
        obtain ⟨b8, o8, e8, hls⟩ := hl.cells.resolve_left (by have := hp.mpos; omega)
        cases e8
        have HX2 := Lib.hid hx
        have HM2 := Lib.hid hm
        by_cases hkm : k < m
        · have k0 : (0 : Int) ≤ (k : Int) := by omega
          have k1 : (k : Int) < (m : Int) := by omega
          have a0 : (0 : Int) ≤ (at' : Int) := by omega
          have a1 : (at' : Int) < (n : Int) := by omega
          obtain ⟨l0, l1, l2, l3⟩ := hls k hkm
          have v0 := (hcs i hin).1
          have v1 := (hcs at' hat).1
          have hself : i = at' → joins (lnAt p.L k) (pc p.P at') (pc p.P i) = false := fun e => by
            have h9 := near_self HVal.out (pc p.P at')
            unfold nearB nearN at h9
            rw [decide_eq_false_iff_not, Nat.not_lt, Nat.le_zero, List.countP_eq_zero] at h9
            have h8 := h9 (lnAt p.L k) (by
              unfold lnAt
              rw [List.getD_eq_getElem?_getD, List.getElem?_eq_getElem (by rw [HLl.out]; exact hkm)]
              exact List.getElem_mem _)
            rw [e]
            simpa using h8
          have hab : pc p.P at' = pc p.P i → i = at' := fun e => (HAsc.out at' i hat hin e).symm
          have hst := HSt.out i k hin hkm
          have hj : joins (lnAt p.L k) (pc p.P at') (pc p.P i) = (decide ((lnAt p.L k).A = pc p.P at') && decide ((lnAt p.L k).B = pc p.P i) || decide ((lnAt p.L k).A = pc p.P i) && decide ((lnAt p.L k).B = pc p.P at')) := rfl
          obtain ⟨A, hA⟩ : ∃ A, A = pc p.P at' := ⟨_, rfl⟩
          obtain ⟨B, hB⟩ : ∃ B, B = pc p.P i := ⟨_, rfl⟩
          obtain ⟨LA, hLA⟩ : ∃ L, L = (lnAt p.L k).A := ⟨_, rfl⟩
          obtain ⟨LB, hLB⟩ : ∃ L, L = (lnAt p.L k).B := ⟨_, rfl⟩
          obtain ⟨LC, hLC⟩ : ∃ L, L = (lnAt p.L k).C := ⟨_, rfl⟩
          rw [← hB] at v0 hself hab hst hj
          rw [← hA] at v1 hself hab hst hj
          rw [← hLA] at l0 hj
          rw [← hLB] at l1 hj
          rw [← hLC] at l2
          obtain ⟨J, hJ⟩ : ∃ J, J = joins (lnAt p.L k) A B := ⟨_, rfl⟩
          rw [← hJ] at hself hst hj
          have HSf := Lib.hid (And.intro hself hab)
          have HSt2 := Lib.hid hst
          have HJ := Lib.hid hj
          have HAB := Lib.hid (And.intro hA hB)
          clear hself hab hst hj hA hB hLA hLB hLC hJ hr hl hpl hls hcs l3 hm hx
          go_upto_region 9 with (fail)
          have hbx : Below wr.heap.size wr (wr.alloc (.cells #[.int .u16 LA, .int .u16 LB, .int .u8 LC] 97)) := below_alloc _ _
          have hox := own_lit wr 97 #[.int .u16 LA, .int .u16 LB, .int .u8 LC] _ rfl
          clear g0 g1 g2 g3 g4 g5 g6 l0 l1 l2 v0 v1
          generalize wr.alloc (.cells #[.int .u16 LA, .int .u16 LB, .int .u8 LC] 97) = W5 at hbx hox ⊢
          obtain ⟨lb, hlb9⟩ : ∃ lb, lb = wr.heap.size := ⟨_, rfl⟩
          rw [← hlb9] at hox ⊢
          have hx5 := HX2.out.trans (Exc.of_below (S := fun q => q = mb) hbx) (fun _ _ h => h)
          have hm5 := HM2.out.below hbx
          obtain ⟨hr, hl, hpl⟩ := HK.out W5 hx5
          obtain ⟨g0, g1, g2, g3, g4, g5, g6⟩ := hpl.cells
          obtain ⟨b9, o9, e9, hcs⟩ := hr.cells.resolve_left (by omega)
          cases e9
          have v0 := (hcs i hin).1
          have v1 := (hcs at' hat).1
          rw [← HAB.out.2] at v0
          rw [← HAB.out.1] at v1
          have w0 := hox.cell 0 (by simp)
          have w1 := hox.cell 1 (by simp)
          simp only [List.getD_cons_zero, List.getD_cons_succ] at w0 w1
          have u0 := hm5.cUp (i := i) (by omega)
          have u1 := hm5.cNear (i := i) (by omega)
          have f0 := hm5.frozen (8 + i)
          have f1 := hm5.frozen (14 + i)
          have HX5 := Lib.hid hx5
          have HM5 := Lib.hid hm5
          have hmlb : ¬ lb = mb := by have h1 := Own.lt HM2.out; omega
          have i6 : (i : Int) < 6 := by omega
          clear hr hl hpl hcs hx5 hm5 hox hbx hlb9
          go_upto_region 11 with (fail)
          have HEndT : Hid (J = true → ∀ W', MdAt W' mb (planCells (some ⟨br, off, none⟩) n c (some ⟨bl, offl, none⟩) m c' p) at' ⟨updU (bgN p at' i k) i true, updU (bgN p at' i k) i true, fun _ _ => 0, fun _ _ => 0⟩ → MdAt W' mb (planCells (some ⟨br, off, none⟩) n c (some ⟨bl, offl, none⟩) m c' p) at' ⟨bgN p at' i (k + 1), bgN p at' i (k + 1), fun _ _ => 0, fun _ _ => 0⟩) := Lib.hid (fun hJ W' h9 => h9.congr (fun j _ => by have := HSt2.out j; rw [if_pos hJ] at this; exact this) (fun j _ => by have := HSt2.out j; rw [if_pos hJ] at this; exact this) (fun _ _ _ _ => rfl) (fun _ _ _ _ => rfl))
          have HEndF : Hid (J = false → MdAt W5 mb (planCells (some ⟨br, off, none⟩) n c (some ⟨bl, offl, none⟩) m c' p) at' ⟨bgN p at' i (k + 1), bgN p at' i (k + 1), fun _ _ => 0, fun _ _ => 0⟩) := Lib.hid (fun hJ => HM5.out.congr (fun j _ => by have := HSt2.out j; rw [if_neg (by rw [hJ]; decide)] at this; exact this) (fun j _ => by have := HSt2.out j; rw [if_neg (by rw [hJ]; decide)] at this; exact this) (fun _ _ _ _ => rfl) (fun _ _ _ _ => rfl))
          by_cases c0 : A = B
          · have hJf : J = false := HSf.out.1 (HSf.out.2 c0)
            have e0 : (A != B) = false := by simpa using c0
            clear c0
            go_wp2
            exact ⟨⟨k + 1, by omega, by go_num, HX5.out, HEndF.out hJf⟩, by simp [intOf]; omega⟩
          · have e0 : (A != B) = true := by simpa using c0
            by_cases c1 : LA = A
            · have e1 : (LA == A) = true := by simpa using c1
              have e3 : (LA == B) = false := by rw [c1]; simpa using c0
              by_cases c2 : LB = B
              · have hJt : J = true := by rw [HJ.out]; simp [c1, c2]
                have e2 : (LB == B) = true := by simpa using c2
                subst c1 c2
                clear e1 e2 e3 c0
                have e1 : (LA == LA) = true := by simp
                have e2 : (LB == LB) = true := by simp
                go_wp2
                refine ⟨⟨k + 1, by omega, by go_num, ?_, HEndT.out hJt _ ((HM5.out.sNear (a := i) (by omega) true).sUp (a := i) (by omega) true)⟩, by simp [intOf]; omega⟩
                exact Exc.setCell (S := fun q => q = mb) (Exc.setCell (S := fun q => q = mb) HX5.out _ (.inl rfl) _) _ (.inl rfl) _
              · have hJf : J = false := by rw [HJ.out]; simp [c1, c2]; exact fun h => absurd h c0
                have e2 : (LB == B) = false := by simpa using c2
                subst c1
                clear e1 c0 c2
                have e1 : (LA == LA) = true := by simp
                go_wp2
                exact ⟨⟨k + 1, by omega, by go_num, HX5.out, HEndF.out hJf⟩, by simp [intOf]; omega⟩
            · have e1 : (LA == A) = false := by simpa using c1
              by_cases c2 : LA = B
              · by_cases c3 : LB = A
                · have hJt : J = true := by rw [HJ.out]; simp [c2, c3]
                  subst c2 c3
                  clear c0 c1
                  have e2 : (LA == LA) = true := by simp
                  have e3 : (LB == LB) = true := by simp
                  go_wp2
                  refine ⟨⟨k + 1, by omega, by go_num, ?_, HEndT.out hJt _ ((HM5.out.sNear (a := i) (by omega) true).sUp (a := i) (by omega) true)⟩, by simp [intOf]; omega⟩
                  exact Exc.setCell (S := fun q => q = mb) (Exc.setCell (S := fun q => q = mb) HX5.out _ (.inl rfl) _) _ (.inl rfl) _
                · have hJf : J = false := by rw [HJ.out]; simp [c1, c3]
                  have e3 : (LB == A) = false := by simpa using c3
                  subst c2
                  clear c0 c1 c3
                  have e2 : (LA == LA) = true := by simp
                  go_wp2
                  exact ⟨⟨k + 1, by omega, by go_num, HX5.out, HEndF.out hJf⟩, by simp [intOf]; omega⟩
              · have hJf : J = false := by rw [HJ.out]; simp [c1, c2]
                have e2 : (LA == B) = false := by simpa using c2
                clear c0 c1 c2
                go_wp2
                exact ⟨⟨k + 1, by omega, by go_num, HX5.out, HEndF.out hJf⟩, by simp [intOf]; omega⟩
        · obtain rfl : k = m := by omega
          have hk9 : ¬ (k : Int) < (k : Int) := by omega
          have HM3 := Lib.hid (hm.congr (M' := ⟨bgN p at' (i + 1) 0, bgN p at' (i + 1) 0, fun _ _ => 0, fun _ _ => 0⟩) (fun j _ => by show bgN p at' (i + 1) 0 j = bgN p at' i k j; rw [← bgN_next, hp.llen]) (fun j _ => by show bgN p at' (i + 1) 0 j = bgN p at' i k j; rw [← bgN_next, hp.llen]) (fun _ _ _ _ => rfl) (fun _ _ _ _ => rfl))
          clear hr hl hpl hls hcs hm hx
          go_wp2
          exact ⟨⟨i + 1, by omega, by go_num, HX2.out, HM3.out⟩, by simp [intOf]; omega⟩
    · obtain rfl : i = n := by omega
      go_wp2
      go_ret
      exact ⟨mb, rfl, HMb.out.1, HM.out, HB01.out.trans (HX.out.below HB01.out.size fun j _ hj => by have := HMb.out.1; omega)⟩
end Go.Proofs.Ytdjmopipmeonlaa
/- The model's status. -/
namespace Go.Proofs.Ytdjmopipmeonlaa
set_option linter.unusedVariables false
open Go.RowKit Go.Maps

theorem sts_length (T : Tb) (d : Int) : (T.sts d).length = (T.C d).length := by unfold Tb.sts; rw [List.length_map]
theorem sts_getD {T : Tb} {d : Int} {k : Nat} (hk : k < (T.C d).length) : (T.sts d).getD k 0 = T.byN ((T.C d).getD k (0, 0)).1 d := by
  unfold Tb.sts; simp [List.getD_eq_getElem?_getD, hk]
set_option maxRecDepth 100000 in
theorem mstatus_me {x : Nn} {p : Pn} {n m at' : Nat} {T : Tb} (_hp : PF x p n m) (mb : Nat) (a : Option Addr) (c : Nat) (a' : Option Addr) (c' : Nat) (w : World) (h : MW w mb a n c a' m c' p at' T) :
    Calls Try.prog 14 #[.pointer (some ⟨mb, 0, none⟩), .int .i64 at'] w fun e w' => e = .returned (.int .u8 0) ∧ Below w.heap.size w w' := by
  have g7 := h.md.cAt
  have e1 : ((at' : Int) == (at' : Int)) = true := by simp
  clear h
  go_enter Try.func14, Try.ntmps14
  go_wp2
  go_ret
  exact ⟨rfl, Below.refl _ _⟩
set_option maxRecDepth 100000 in
set_option maxHeartbeats 8000000 in
theorem mstatus_ok {x : Nn} {p : Pn} {n m at' : Nat} {T : Tb} (hp : PF x p n m) (hI : Inv p at' T) (hat : at' < n) (mb : Nat) (a : Option Addr) (c : Nat) (a' : Option Addr) (c' : Nat) (dk : Nat) (hto : dk < n) (hne : dk ≠ at') (w : World) (h : MW w mb a n c a' m c' p at' T) :
    Calls Try.prog 14 #[.pointer (some ⟨mb, 0, none⟩), .int .i64 dk] w fun e w' => e = .returned (.int .u8 (T.st (pc p.P dk))) ∧ Below w.heap.size w w' := by
  have HMs := Lib.hid (mstatuses_any hp hI hat mb a c a' c' dk hto hne w h)
  have g7 := h.md.cAt
  have e1 : ((dk : Int) == (at' : Int)) = false := by rw [beq_eq_false_iff_ne]; omega
  obtain ⟨d, hd⟩ : ∃ d, d = pc p.P dk := ⟨_, rfl⟩
  rw [← hd] at HMs ⊢
  have hst : T.st d = Tb.stF ((T.C d).getD 0 (0, 0)).2 2 (prs T d) := rfl
  obtain ⟨r0, hr0⟩ : ∃ r0, r0 = ((T.C d).getD 0 (0, 0)).2 := ⟨_, rfl⟩
  obtain ⟨N, hN⟩ : ∃ N, N = (T.C d).length := ⟨_, rfl⟩
  unfold MsOut at HMs
  rw [sts_length, ← hN] at HMs
  rw [← hr0] at hst
  have HSt := Lib.hid hst
  have HN := Lib.hid hN
  have HR0 := Lib.hid hr0
  have HPr : Hid ((prs T d).length = N) := Lib.hid (by unfold prs; rw [List.length_map, hN])
  clear hst hr0 hN hd hne h hp hI
  go_enter Try.func14, Try.ntmps14
  go_wp2_with fail
  with_reducible refine HMs.out.mono ?_
  rintro e w0 ⟨a3, c3, a4, rfl, hr3, hr4, hb⟩
  have HB0 := Lib.hid hb
  have H3 := Lib.hid hr3
  have H4 := Lib.hid hr4
  have hle3 := hr3.le
  have hm3 := hr3.max
  unfold maxLen at hm3
  clear hb hr3 hr4 g7 HMs e1
  go_wp2_with fail
  go_loopw [7, 8] (fun sv kv wr => ∃ k : Nat, k ≤ N ∧ kv = .int .i64 k ∧ sv = .int .u8 (Tb.stF r0 2 ((prs T d).take k)) ∧ (∀ x ∈ (prs T d).take k, ¬ (x.1 = 0 ∧ x.2 = r0)) ∧ Below w0.heap.size w0 wr) (fun _ kv _ => N - (intOf kv).toNat)
  case atStart => exact ⟨0, Nat.zero_le _, rfl, by simp [Tb.stF], by simp, Below.refl _ _⟩
  case round =>
    obtain ⟨k, hk, rfl, rfl, hno, hb⟩ := hrel
    obtain ⟨acc, hacc⟩ : ∃ acc, acc = Tb.stF r0 2 ((prs T d).take k) := ⟨_, rfl⟩
    rw [← hacc]
    have HB := Lib.hid hb
    have HNo := Lib.hid hno
    have HAcc := Lib.hid hacc
    have hr3 := H3.out.later hb
    have hr4 := H4.out.later hb
    clear hb hno hacc
    by_cases hkn : k < N
    · have hkl : k < (T.C d).length := by rw [← HN.out]; exact hkn
      obtain ⟨b3, o3, rfl, hc3⟩ := hr3.cells.resolve_left (by omega)
      obtain ⟨b4, o4, rfl, hc4⟩ := hr4.cells.resolve_left (by omega)
      have c3 := hc3 k hkn
      have c4 := (hc4 k hkn).2
      have c0 := (hc4 0 (by omega)).2
      rw [sts_getD hkl] at c3
      rw [← HR0.out] at c0
      have HStep := Lib.hid (prs_step hkl r0 HNo.out)
      have HHit := Lib.hid (prs_hit hkl r0)
      obtain ⟨s, hs⟩ : ∃ s, s = T.byN ((T.C d).getD k (0, 0)).1 d := ⟨_, rfl⟩
      obtain ⟨q2, hq⟩ : ∃ q, q = ((T.C d).getD k (0, 0)).2 := ⟨_, rfl⟩
      rw [← hs] at c3 HStep HHit
      rw [← hq] at c4 HStep HHit
      have k1 : (k : Int) < (N : Int) := by omega
      have k2 : (0 : Int) ≤ (k : Int) := by omega
      have k3 : (0 : Int) < (N : Int) := by omega
      have k4 : 0 < N := by omega
      simp only [Nat.zero_mul, Nat.add_zero] at c0
      clear hs hq hc3 hc4 hr3 hr4
      by_cases h0 : s = 0
      · have e0 : (s == 0) = true := by simpa using h0
        have e2 : (s != 2) = true := by simp [h0]
        by_cases h1 : q2 = r0
        · have e1 : (q2 == r0) = true := by simpa using h1
          have HRes := Lib.hid (HHit.out h0 h1)
          clear h0 h1 e2
          go_wp2_with fail
          go_quiet (fail)
          go_wp2
          go_ret
          exact ⟨ret_int (by rw [HSt.out, HRes.out]), HB0.out.trans ((HB.out.trans ((below_draw _ _).mono HB.out.size)).mono HB0.out.size)⟩
        · have e1 : (q2 == r0) = false := by simpa using h1
          have HRes := Lib.hid (HStep.out fun h => h1 h.2)
          have HS2 := Lib.hid (show ¬ s = 2 by omega)
          clear h0 h1
          go_wp2_with fail
          go_quiet (fail)
          go_wp2
          refine ⟨⟨k + 1, by omega, by go_num, ?_, HRes.out.1, HB.out.trans ((below_draw _ _).mono HB.out.size)⟩, by simp [intOf]; omega⟩
          rw [HRes.out.2, if_neg HS2.out]
      · have e0 : (s == 0) = false := by simpa using h0
        have HRes := Lib.hid (HStep.out fun h => h0 h.1)
        by_cases h2 : s = 2
        · have e2 : (s != 2) = false := by simpa using h2
          have HS2 := Lib.hid h2
          clear h0 h2
          go_wp2_with fail
          go_quiet (fail)
          go_wp2
          refine ⟨⟨k + 1, by omega, by go_num, ?_, HRes.out.1, HB.out.trans ((below_draw _ _).mono HB.out.size)⟩, by simp [intOf]; omega⟩
          rw [HRes.out.2, if_pos HS2.out, ← HAcc.out]
        · have e2 : (s != 2) = true := by simpa using h2
          have HS2 := Lib.hid h2
          clear h0 h2
          go_wp2_with fail
          go_quiet (fail)
          go_wp2
          refine ⟨⟨k + 1, by omega, by go_num, ?_, HRes.out.1, HB.out.trans ((below_draw _ _).mono HB.out.size)⟩, by simp [intOf]; omega⟩
          rw [HRes.out.2, if_neg HS2.out]
    · obtain rfl : k = N := by omega
      have HRes : Hid (T.st d = acc) := Lib.hid (by rw [HSt.out, HAcc.out, List.take_of_length_le (by rw [HPr.out]; exact Nat.le_refl _)])
      clear hr3 hr4
      go_wp2
      go_ret
      exact ⟨ret_int HRes.out.symm, HB0.out.trans (HB.out.mono HB0.out.size)⟩
/-- The note of two places. -/
def NoteOut (n d s : Int) (w : World) (e : Ending) (w' : World) : Prop := e = .returned (.agg #[.int .u16 n, .int .u16 d, .int .u8 s]) ∧ Below w.heap.size w w'
set_option maxRecDepth 100000 in
set_option maxHeartbeats 8000000 in
theorem mnote_any {x : Nn} {p : Pn} {n m at' : Nat} {T : Tb} (hp : PF x p n m) (mb : Nat) (a : Option Addr) (c : Nat) (a' : Option Addr) (c' : Nat) (i j : Nat) (hi : i < n) (hj : j < n) (s : Int) (w : World) (h : MW w mb a n c a' m c' p at' T) :
    Calls Try.prog 34 #[.pointer (some ⟨mb, 0, none⟩), .int .i64 i, .int .i64 j, .int .u8 s] w (NoteOut (pc p.P i) (pc p.P j) s w) := by
  have hlen := hp.len
  have hn2 := hp.n2
  obtain ⟨W, hW⟩ : ∃ W, W = w.alloc (.cells #[.int .u16 0, .int .u16 0, .int .u8 0] 54) := ⟨_, rfl⟩
  obtain ⟨zb, hzb⟩ : ∃ zb, zb = w.heap.size := ⟨_, rfl⟩
  have hb : Below w.heap.size w W := by rw [hW]; exact below_alloc w _
  have ho : Own W zb 54 [.int .u16 0, .int .u16 0, .int .u8 0] := by rw [hW, hzb]; exact heap_alloc_new w _
  have hM := h.below hb
  obtain ⟨b, off, rfl, hc⟩ := hM.row.cells.resolve_left (by omega)
  have d0 := (hc i hi).1
  have d1 := (hc j hj).1
  obtain ⟨g0, g1, g2, g3, g4, g5, g6⟩ := hM.md.plan
  have hcn := hM.row.le
  obtain ⟨u, hu⟩ : ∃ u, u = pc p.P i := ⟨_, rfl⟩
  obtain ⟨v, hv⟩ : ∃ v, v = pc p.P j := ⟨_, rfl⟩
  rw [← hu] at d0 ⊢
  rw [← hv] at d1 ⊢
  have i0 : (0 : Int) ≤ (i : Int) := by omega
  have i1 : (i : Int) < (n : Int) := by omega
  have i2 : (0 : Int) ≤ (j : Int) := by omega
  have i3 : (j : Int) < (n : Int) := by omega
  have z0 := ho.cell 0 (by simp)
  have z1 := ho.cell 1 (by simp)
  have z2 := ho.cell 2 (by simp)
  have f0 := ho.frozen 0
  have f1 := ho.frozen 1
  have f2 := ho.frozen 2
  simp only [List.getD_cons_zero, List.getD_cons_succ] at z0 z1 z2
  have HB := Lib.hid hb
  have HZb : Hid (w.heap.size ≤ zb) := Lib.hid (by rw [hzb]; exact Nat.le_refl _)
  clear hM hc h hp hu hv ho hb hlen g2 g3 g4 g5 g6
  go_enter Try.func34, Try.ntmps34
  go_upto_region 1 with (fail)
  show Code.wp _ _ _ _ (w.alloc (.cells #[.int .u16 0, .int .u16 0, .int .u8 0] 54))
  rw [← hW, ← hzb]
  clear hW hzb
  go_region
  all_goals go_wp2
  all_goals exact bodyPost_ret (v := .agg #[.int .u16 u, .int .u16 v, .int .u8 s]) (by simp [results, Try.results34, go_sem, z0, z1, z2]) rfl ⟨rfl, (((HB.out.drew).setCell HZb.out _).setCell HZb.out _).setCell HZb.out _⟩
end Go.Proofs.Ytdjmopipmeonlaa
