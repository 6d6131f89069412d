/- Joined: PlCells PlRing PlInts PlLives -/
import Derived.Test.YtgklapjjofclcaaGreatDoorPlAt
import Derived.Test.YtgklapjjofclcaaGreatDoorAggRow
import Derived.Test.YtgklapjjofclcaaGreatDoorPcSmall
import Derived.Deep.Cut
import Derived.Deep.CutBlock
import Derived.Test.YtgklapjjofclcaaGreatDoorBaseEx
import Derived.BigQuiet
import Derived.IntWalk
import Derived.Deep.RegionHeld3
/- The cells of lines; a row of lines that a call owns. -/
namespace Go.Proofs.YtgklapjjofclcaaGreatDoor
open Go.RowKit

def encLn (l : Ln) : List Value := [.int .u16 l.A, .int .u16 l.B, .int .u8 l.C, .int .i64 l.D]
def cellsL (L : List Ln) : List Value := L.flatMap encLn
theorem cellsL_getD (L : List Ln) {i : Nat} (hi : i < L.length) : (cellsL L).getD (i * 4) undef = .int .u16 (lnAt L i).A ∧ (cellsL L).getD (i * 4 + 1) undef = .int .u16 (lnAt L i).B ∧ (cellsL L).getD (i * 4 + 2) undef = .int .u8 (lnAt L i).C ∧ (cellsL L).getD (i * 4 + 3) undef = .int .i64 (lnAt L i).D := by
  induction L generalizing i with
  | nil => cases hi
  | cons x L ih =>
    cases i with
    | zero => simp [cellsL, encLn, lnAt]
    | succ i =>
      have h := ih (i := i) (by simpa using hi)
      have e : cellsL (x :: L) = .int .u16 x.A :: .int .u16 x.B :: .int .u8 x.C :: .int .i64 x.D :: cellsL L := rfl
      rw [e, show (i + 1) * 4 = i * 4 + 1 + 1 + 1 + 1 by omega]
      simp only [List.getD_cons_succ]
      have e2 : lnAt (x :: L) (i + 1) = lnAt L i := by simp [lnAt]
      rw [e2]
      exact h
theorem cellsL_length (L : List Ln) : (cellsL L).length = L.length * 4 := by
  induction L with
  | nil => rfl
  | cons x L ih => simp only [cellsL, List.flatMap_cons, List.length_append, encLn, List.length_cons, List.length_nil] at *; omega
theorem infoLn : (Tryz.prog.info? 76).map (fun i => (i.zero, i.size, i.bytes)) = some (some (.agg #[.int .u16 0, .int .u16 0, .int .u8 0, .int .i64 0]), 4, 16) := by kernel_rfl
theorem lrow_of_owns {w : World} {B e n : Nat} {v : Value} {L : List Ln} (h : w.ownsRow B e 4 v n (cellsL L)) (hn : L.length = n) (hw : ∀ x ∈ L, (0 ≤ x.A ∧ x.A ≤ 65535) ∧ (0 ≤ x.B ∧ x.B ≤ 65535) ∧ (0 ≤ x.C ∧ x.C ≤ 255) ∧ (-9223372036854775808 ≤ x.D ∧ x.D ≤ 9223372036854775807)) : ∃ a c, v = .slice a n c ∧ LRow w a n c L ∧ ∀ z, a = some z → B ≤ z.block := by
  by_cases h0 : 0 < n
  · obtain ⟨b, c, rfl, h1, h2, hb, _, hc⟩ := ownsK_cells h h0
    refine ⟨_, c, rfl, ⟨hn, h1, h2, hw, .inr ⟨b, 0, rfl, fun i hi => ?_⟩, by simp⟩, fun z hz => by cases hz; exact hb⟩
    obtain ⟨q0, q1, q2, q3⟩ := cellsL_getD L (i := i) (by omega)
    simp only [Nat.zero_add]
    exact ⟨by rw [(hc _ (by omega)).1, q0], by rw [(hc _ (by omega)).1, q1], by rw [(hc _ (by omega)).1, q2], by rw [(hc _ (by omega)).1, q3]⟩
  · rcases h.2 with ⟨rfl, h9⟩ | ⟨g, cap, cur, rfl, hb, hg, hle, hc, hs, ht⟩
    · subst h9
      have hL : L = [] := List.eq_nil_of_length_eq_zero hn
      subst hL
      exact ⟨none, 0, rfl, LRow.of_nil _, fun z hz => by cases hz⟩
    · exact ⟨_, cap, rfl, ⟨hn, hle, hc, hw, .inl (by omega), by simp⟩, fun z hz => by cases hz; exact hb⟩
end Go.Proofs.YtgklapjjofclcaaGreatDoor
/- The plan of the chapter's example. -/
namespace Go.Proofs.YtgklapjjofclcaaGreatDoor
open Go.RowKit

def ringP : Pn := ⟨[(1, false), (2, true), (3, true), (4, false)], [⟨1, 2, 0, 1⟩, ⟨1, 3, 0, 1⟩, ⟨2, 3, 0, 1⟩, ⟨2, 4, 0, 1⟩, ⟨3, 4, 0, 1⟩], 1, 4, 1, 2, 3⟩
theorem ringP_valid : ValidPl ringP := chkPl_zero.1 (by decide)
def RingOut (w : World) (e : Ending) (w' : World) : Prop := ∃ a c a' c', e = .returned (planV a 4 c a' 5 c' ringP) ∧ PRow w' a 4 c ringP.P ∧ LRow w' a' 5 c' ringP.L ∧ Below w.heap.size w w'
set_option maxRecDepth 20000 in
set_option maxHeartbeats 2000000 in
theorem ring_any (w : World) : Calls Tryz.prog 45 #[] w (RingOut w) := by
  go_enter Tryz.func45, Tryz.ntmps45
  go_wp2_with fail
  obtain ⟨z, hz⟩ : ∃ z, z = w.heap.size := ⟨_, rfl⟩
  obtain ⟨W4, hW4⟩ : ∃ W4, W4 = (((w.alloc (.cells #[.slice none 0 0, .slice none 0 0, .int .i64 0, .int .i64 0, .int .i64 0, .int .i64 0, .int .i64 0] 31)).alloc
      (.cells #[.int .u16 1, .bool false, .int .u16 2, .bool true, .int .u16 3, .bool true, .int .u16 4, .bool false] 72)).alloc
      (.cells #[.slice (some ⟨w.heap.size + 1, 0, none⟩) 4 4, .slice none 0 0, .int .i64 1, .int .i64 4, .int .i64 1, .int .i64 2, .int .i64 3] 31)).alloc
      (.cells #[.int .u16 1, .int .u16 2, .int .u16 1, .int .u16 3, .int .u16 2, .int .u16 3, .int .u16 2, .int .u16 4, .int .u16 3, .int .u16 4] 137) := ⟨_, rfl⟩
  rw [← hW4]
  have hsz : W4.heap.size = z + 4 := by rw [hW4, hz]; simp
  have hbl : Below w.heap.size w W4 := by
    rw [hW4]
    exact ((((Below.refl _ w).alloc (Nat.le_refl _) _).alloc (by simp) _).alloc (by simp; omega) _).alloc (by simp; omega) _
  have o0 : Own W4 z 31 [.slice none 0 0, .slice none 0 0, .int .i64 0, .int .i64 0, .int .i64 0, .int .i64 0, .int .i64 0] := by
    rw [hW4, hz]
    exact (((own_alloc w _ _).below (below_alloc _ _) (by simp)).below (below_alloc _ _) (by simp; omega)).below (below_alloc _ _) (by simp; omega)
  have o1 : Own W4 (z + 1) 72 [.int .u16 1, .bool false, .int .u16 2, .bool true, .int .u16 3, .bool true, .int .u16 4, .bool false] := by
    rw [hW4, hz]
    have h := own_alloc (w.alloc (.cells #[.slice none 0 0, .slice none 0 0, .int .i64 0, .int .i64 0, .int .i64 0, .int .i64 0, .int .i64 0] 31)) [.int .u16 1, .bool false, .int .u16 2, .bool true, .int .u16 3, .bool true, .int .u16 4, .bool false] 72
    rw [World.size_alloc] at h
    exact (h.below (below_alloc _ _) (by simp)).below (below_alloc _ _) (by simp)
  have o2 : Own W4 (z + 1 + 1) 31 [.slice (some ⟨z + 1, 0, none⟩) 4 4, .slice none 0 0, .int .i64 1, .int .i64 4, .int .i64 1, .int .i64 2, .int .i64 3] := by
    rw [hW4, hz]
    have h := own_alloc ((w.alloc (.cells #[.slice none 0 0, .slice none 0 0, .int .i64 0, .int .i64 0, .int .i64 0, .int .i64 0, .int .i64 0] 31)).alloc (.cells #[.int .u16 1, .bool false, .int .u16 2, .bool true, .int .u16 3, .bool true, .int .u16 4, .bool false] 72)) [.slice (some ⟨w.heap.size + 1, 0, none⟩) 4 4, .slice none 0 0, .int .i64 1, .int .i64 4, .int .i64 1, .int .i64 2, .int .i64 3] 31
    rw [World.size_alloc, World.size_alloc] at h
    exact h.below (below_alloc _ _) (by simp)
  have o3 : Own W4 (z + 1 + 1 + 1) 137 [.int .u16 1, .int .u16 2, .int .u16 1, .int .u16 3, .int .u16 2, .int .u16 3, .int .u16 2, .int .u16 4, .int .u16 3, .int .u16 4] := by
    rw [hW4, hz]
    have h := own_alloc (((w.alloc (.cells #[.slice none 0 0, .slice none 0 0, .int .i64 0, .int .i64 0, .int .i64 0, .int .i64 0, .int .i64 0] 31)).alloc (.cells #[.int .u16 1, .bool false, .int .u16 2, .bool true, .int .u16 3, .bool true, .int .u16 4, .bool false] 72)).alloc (.cells #[.slice (some ⟨w.heap.size + 1, 0, none⟩) 4 4, .slice none 0 0, .int .i64 1, .int .i64 4, .int .i64 1, .int .i64 2, .int .i64 3] 31)) [.int .u16 1, .int .u16 2, .int .u16 1, .int .u16 3, .int .u16 2, .int .u16 3, .int .u16 2, .int .u16 4, .int .u16 3, .int .u16 4] 137
    rw [World.size_alloc, World.size_alloc, World.size_alloc] at h
    exact h
  rw [← hz]
  have HZ := Lib.hid hz
  have HSz := Lib.hid hsz
  have HBl := Lib.hid hbl
  have HO0 := Lib.hid o0
  have HO1 := Lib.hid o1
  have HO2 := Lib.hid o2
  have HO3 := Lib.hid o3
  clear hW4 o0 o1 o2 o3 hz hbl hsz
  go_loopw [18] (fun iv wr => ∃ (k : Nat) (v : Value), k ≤ 5 ∧ iv = .int .i64 k ∧ Own wr (z + 1 + 1) 31 [.slice (some ⟨z + 1, 0, none⟩) 4 4, v, .int .i64 1, .int .i64 4, .int .i64 1, .int .i64 2, .int .i64 3] ∧ wr.ownsRow (z + 4) 76 4 v k (cellsL (ringP.L.take k)) ∧ Exc (fun q => q = z + 1 + 1) W4 wr) (fun iv _ => 5 - (intOf iv).toNat)
  case atStart => exact ⟨0, .slice none 0 0, by decide, rfl, HO2.out, by simpa [cellsL] using World.ownsRow_nil W4 (z + 4) 76 4, Exc.refl _ _⟩
  case round =>
    obtain ⟨k, v, hk, rfl, ho, hown, hx⟩ := hrel
    have hsz : z + 4 ≤ wr.heap.size := by have h1 := hx.size; have h2 := HSz.out; omega
    have p1 := ho.cell 1 (by simp)
    simp only [List.getD_cons_succ, List.getD_cons_zero] at p1
    have HOr := Lib.hid ho
    have HW := Lib.hid hown
    have HX := Lib.hid hx
    by_cases hk5 : k < 5
    · have q0 := hx.cell (HO3.out.cell (k * 2) (by simp; omega)) (by show ¬ z + 1 + 1 + 1 = z + 1 + 1; omega)
      have q1 := hx.cell (HO3.out.cell (k * 2 + 1) (by simp; omega)) (by show ¬ z + 1 + 1 + 1 = z + 1 + 1; omega)
      have hAB : ∀ j, j < 5 → ([.int .u16 1, .int .u16 2, .int .u16 1, .int .u16 3, .int .u16 2, .int .u16 3, .int .u16 2, .int .u16 4, .int .u16 3, .int .u16 4] : List Value).getD (j * 2) undef = .int .u16 (lnAt ringP.L j).A ∧ ([.int .u16 1, .int .u16 2, .int .u16 1, .int .u16 3, .int .u16 2, .int .u16 3, .int .u16 2, .int .u16 4, .int .u16 3, .int .u16 4] : List Value).getD (j * 2 + 1) undef = .int .u16 (lnAt ringP.L j).B ∧ lnAt ringP.L j = ⟨(lnAt ringP.L j).A, (lnAt ringP.L j).B, 0, 1⟩ := fun j hj => by
        match j, hj with
        | 0, _ => exact ⟨rfl, rfl, rfl⟩
        | 1, _ => exact ⟨rfl, rfl, rfl⟩
        | 2, _ => exact ⟨rfl, rfl, rfl⟩
        | 3, _ => exact ⟨rfl, rfl, rfl⟩
        | 4, _ => exact ⟨rfl, rfl, rfl⟩
      obtain ⟨e1, e2, e3⟩ := hAB k hk5
      rw [e1] at q0
      rw [e2] at q1
      obtain ⟨A, hA⟩ : ∃ A, A = (lnAt ringP.L k).A := ⟨_, rfl⟩
      obtain ⟨B, hB⟩ : ∃ B, B = (lnAt ringP.L k).B := ⟨_, rfl⟩
      rw [← hA] at q0
      rw [← hB] at q1
      rw [← hA, ← hB] at e3
      have HT := Lib.hid (show cellsL (ringP.L.take (k + 1)) = cellsL (ringP.L.take k) ++ [.int .u16 A, .int .u16 B, .int .u8 0, .int .i64 1] by
        have hk9 : k < ringP.L.length := hk5
        rw [List.take_succ_eq_append_getElem hk9]
        have : ringP.L[k] = lnAt ringP.L k := by simp [lnAt, List.getD_eq_getElem?_getD, hk9]
        rw [this, e3]
        simp [cellsL, encLn])
      have k1 : (k : Int) < 5 := by omega
      have k2 : (0 : Int) ≤ (k : Int) := by omega
      have hz3 : z + 1 + 1 + 1 < wr.heap.size := by omega
      have hz2 : z + 1 + 1 < wr.heap.size := by omega
      clear e1 e2 e3 hA hB hAB ho hown hx
      go_upto_region 5 with (fail)
      have hb8 := below_alloc wr (.cells #[.int .u16 A, .int .u16 B] 137)
      have hq0 := (own_alloc wr [.int .u16 A, .int .u16 B] 137).cell 0 (by simp)
      have hq1 := (own_alloc wr [.int .u16 A, .int .u16 B] 137).cell 1 (by simp)
      obtain ⟨wl, hwl⟩ : ∃ wl, wl = wr.alloc (.cells #[.int .u16 A, .int .u16 B] 137) := ⟨_, rfl⟩
      have r0 : wl.cell? ⟨wr.heap.size, 0, none⟩ = some (.int .u16 A) := by rw [hwl]; exact hq0
      have r1 : wl.cell? ⟨wr.heap.size, 1, none⟩ = some (.int .u16 B) := by rw [hwl]; exact hq1
      rw [← hwl] at hb8 ⊢
      have p1l : wl.cell? ⟨z + 1 + 1, 1, none⟩ = some v := (hb8.cell hz2).trans p1
      have HWl := Lib.hid (ownsK_below HW.out hb8)
      have HOl := Lib.hid (HOr.out.below hb8 HOr.out.lt)
      have HXl := Lib.hid (HX.out.trans (S' := fun _ => False) (Exc.of_below hb8) (fun _ _ hh => hh.elim))
      have hszl : z + 4 ≤ wl.heap.size := Nat.le_trans hsz hb8.size
      have hz2l : z + 1 + 1 < wl.heap.size := Nat.lt_of_lt_of_le hz2 hb8.size
      clear hwl hq0 hq1 q0 q1 p1 hb8
      go_wp2_with (at_builtin; refine wpList_append_agg Tryz.underlying28 infoLn rfl (by decide) (by decide) rfl _ _ rfl (z + 4) _ _ _ [.int .u16 A, .int .u16 B, .int .u8 0, .int .i64 1] rfl (fun u hu => by simp at hu; rcases hu with rfl | rfl | rfl | rfl <;> rfl) rfl (by exact HWl.out) rfl (by omega) hszl ?_)
      intro v1 w2 h1 h2 gx cx hv1
      subst hv1
      have ho2 : Own w2 (z + 1 + 1) 31 [.slice (some ⟨z + 1, 0, none⟩) 4 4, v, .int .i64 1, .int .i64 4, .int .i64 1, .int .i64 2, .int .i64 3] := by
        unfold Own
        rw [h2.exc.block (z + 1 + 1) hz2l (fun e => by have := (ownsK_lt HWl.out e).1; omega)]; exact HOl.out
      have s1 := ho2.cell 1 (by simp)
      have f1 := ho2.frozen 1
      simp only [List.getD_cons_succ, List.getD_cons_zero] at s1
      have HN1 := Lib.hid (ho2.set 1 (.slice (some ⟨gx, 0, none⟩) (k + 1) cx))
      have HE1 := Lib.hid ((Exc.refl (fun q => q = z + 1 + 1) w2).setCell ⟨z + 1 + 1, 1, none⟩ (.inl rfl) (.slice (some ⟨gx, 0, none⟩) (k + 1) cx))
      have HN2 := Lib.hid (ownsK_exc h1 HE1.out (fun j hj e => by have := (ownsK_lt h1 hj).1; omega))
      have HE2 := Lib.hid (show Exc (fun q => q = z + 1 + 1) W4 (w2.setCell ⟨z + 1 + 1, 1, none⟩ (.slice (some ⟨gx, 0, none⟩) (k + 1) cx)) from by
        have hg : Exc (fun q => q = z + 1 + 1) W4 w2 := HXl.out.trans h2.exc (fun i hi e => by have h3 := (ownsK_lt HWl.out e).1; have h4 := HSz.out; omega)
        exact hg.trans HE1.out (fun _ _ h => h))
      clear h1 h2 ho2 r0 r1 p1l
      go_wp2
      refine ⟨⟨k + 1, _, by omega, by go_num, HN1.out, ?_, HE2.out⟩, by simp [intOf]; omega⟩
      rw [HT.out]
      exact HN2.out
    · obtain rfl : k = 5 := by omega
      obtain ⟨aL, cL, rfl, hrow, hbig⟩ := lrow_of_owns (n := 5) (L := ringP.L) (by have := hown; rwa [show ringP.L.take 5 = ringP.L from rfl] at this) rfl (by decide)
      have g0 := ho.cell 0 (by simp)
      have g1 := ho.cell 1 (by simp)
      have g2 := ho.cell 2 (by simp)
      have g3 := ho.cell 3 (by simp)
      have g4 := ho.cell 4 (by simp)
      have g5 := ho.cell 5 (by simp)
      have g6 := ho.cell 6 (by simp)
      simp only [List.getD_cons_succ, List.getD_cons_zero] at g0 g1 g2 g3 g4 g5 g6
      have HRow := Lib.hid hrow
      have HBig := Lib.hid hbig
      clear hbig
      clear ho hown hx p1 hrow HW
      have hoz : Own wr z 31 [.slice none 0 0, .slice none 0 0, .int .i64 0, .int .i64 0, .int .i64 0, .int .i64 0, .int .i64 0] := by
        unfold Own
        rw [HX.out.block z HO0.out.lt (by show ¬ z = z + 1 + 1; omega)]; exact HO0.out
      have t0 := hoz.cell 0 (by simp)
      have t1 := hoz.cell 1 (by simp)
      have t2 := hoz.cell 2 (by simp)
      have t3 := hoz.cell 3 (by simp)
      have t4 := hoz.cell 4 (by simp)
      have t5 := hoz.cell 5 (by simp)
      have t6 := hoz.cell 6 (by simp)
      simp only [List.getD_cons_succ, List.getD_cons_zero] at t0 t1 t2 t3 t4 t5 t6
      have f0 := hoz.frozen 0
      have f1 := hoz.frozen 1
      have f2 := hoz.frozen 2
      have f3 := hoz.frozen 3
      have f4 := hoz.frozen 4
      have f5 := hoz.frozen 5
      have f6 := hoz.frozen 6
      have HOz := Lib.hid hoz
      clear hoz
      go_wp2_with fail
      obtain ⟨W9, hW9⟩ : ∃ W9, W9 = ((((((wr.setCell ⟨z, 0, none⟩ (.slice (some ⟨z + 1, 0, none⟩) 4 4)).setCell ⟨z, 1, none⟩ (.slice aL 5 cL)).setCell ⟨z, 2, none⟩ (.int .i64 1)).setCell ⟨z, 3, none⟩ (.int .i64 4)).setCell ⟨z, 4, none⟩ (.int .i64 1)).setCell ⟨z, 5, none⟩ (.int .i64 2)).setCell ⟨z, 6, none⟩ (.int .i64 3) := ⟨_, rfl⟩
      have ho9 : Own W9 z 31 [.slice (some ⟨z + 1, 0, none⟩) 4 4, .slice aL 5 cL, .int .i64 1, .int .i64 4, .int .i64 1, .int .i64 2, .int .i64 3] := by
        rw [hW9]
        exact ((((((HOz.out.set 0 (.slice (some ⟨z + 1, 0, none⟩) 4 4)).set 1 (.slice aL 5 cL)).set 2 (.int .i64 1)).set 3 (.int .i64 4)).set 4 (.int .i64 1)).set 5 (.int .i64 2)).set 6 (.int .i64 3)
      have hx9 : Exc (fun q => q = z) wr W9 := by
        rw [hW9]
        exact (((((((Exc.refl (fun q => q = z) wr).setCell ⟨z, 0, none⟩ (.inl rfl) _).setCell ⟨z, 1, none⟩ (.inl rfl) _).setCell ⟨z, 2, none⟩ (.inl rfl) _).setCell ⟨z, 3, none⟩ (.inl rfl) _).setCell ⟨z, 4, none⟩ (.inl rfl) _).setCell ⟨z, 5, none⟩ (.inl rfl) _).setCell ⟨z, 6, none⟩ (.inl rfl) _
      rw [← hW9]
      clear hW9 t0 t1 t2 t3 t4 t5 t6 f0 f1 f2 f3 f4 f5 f6 g0 g1 g2 g3 g4 g5 g6
      have u0 := ho9.cell 0 (by simp)
      have u1 := ho9.cell 1 (by simp)
      have u2 := ho9.cell 2 (by simp)
      have u3 := ho9.cell 3 (by simp)
      have u4 := ho9.cell 4 (by simp)
      have u5 := ho9.cell 5 (by simp)
      have u6 := ho9.cell 6 (by simp)
      simp only [List.getD_cons_succ, List.getD_cons_zero] at u0 u1 u2 u3 u4 u5 u6
      have ho1 : Own W9 (z + 1) 72 [.int .u16 1, .bool false, .int .u16 2, .bool true, .int .u16 3, .bool true, .int .u16 4, .bool false] := by
        unfold Own
        rw [hx9.block (z + 1) (by omega) (by show ¬ z + 1 = z; omega), HX.out.block (z + 1) HO1.out.lt (by show ¬ z + 1 = z + 1 + 1; omega)]; exact HO1.out
      have hb8 : Below w.heap.size w wr := HBl.out.trans (HX.out.below HBl.out.size (fun i _ hi => by have := HZ.out; omega))
      have hb9 : Below w.heap.size w W9 := hb8.trans (hx9.below hb8.size (fun i _ hi => by have := HZ.out; omega))
      refine bodyPost_ret (v := planV (some ⟨z + 1, 0, none⟩) 4 4 aL 5 cL ringP) (by simp [results, Tryz.results45, go_sem, u0, u1, u2, u3, u4, u5, u6, planV, ringP]) rfl ?_
      refine ⟨_, _, _, _, rfl, ⟨rfl, Nat.le_refl _, by unfold maxLen; decide, by decide, .inr ⟨z + 1, 0, rfl, fun i hi => ?_⟩, by simp⟩, HRow.out.exc hx9 (fun x hx => by have := HBig.out x hx; show ¬ x.block = z; omega), hb9⟩
      have c := fun j (hj : j < 8) => ho1.cell j (by simpa using hj)
      match i, hi with
      | 0, _ => exact ⟨c 0 (by decide), c 1 (by decide)⟩
      | 1, _ => exact ⟨c 2 (by decide), c 3 (by decide)⟩
      | 2, _ => exact ⟨c 4 (by decide), c 5 (by decide)⟩
      | 3, _ => exact ⟨c 6 (by decide), c 7 (by decide)⟩
end Go.Proofs.YtgklapjjofclcaaGreatDoor
/- The statements' own function ints, at equal numbers. -/
namespace Go.Proofs.YtgklapjjofclcaaGreatDoor
open Go.RowKit

set_option maxHeartbeats 1000000 in
theorem ints_yes (a b : Option Addr) (n m : Nat) (xs : List Int) (w : World) (ha : Row .i64 w a n n xs) (hb : Row .i64 w b n m xs) :
    Calls Tryz.prog 46 #[.slice a n n, .slice b n m] w fun e w' => e = .returned (.bool true) ∧ ∃ q, w' = w.drewN q := by
  have hmax := ha.max
  unfold maxLen at hmax
  have HA := Lib.hid ha
  have HB := Lib.hid hb
  clear ha hb
  go_enter Tryz.func46, Tryz.ntmps46
  go_wp2_with fail
  go_loopw [5] (fun i wr => ∃ k q : Nat, k ≤ n ∧ i = .int .i64 k ∧ wr = w.drewN q) (fun i _ => n - (intOf i).toNat)
  case atStart => exact ⟨0, 0, Nat.zero_le _, rfl, rfl⟩
  case round =>
    obtain ⟨k, q, hk, rfl, rfl⟩ := hrel
    by_cases hkn : k < n
    · obtain ⟨b1, o1, rfl, hc1⟩ := HA.out.cells.resolve_left (by omega)
      obtain ⟨b2, o2, rfl, hc2⟩ := HB.out.cells.resolve_left (by omega)
      have c1 : (w.drewN q).cell? ⟨b1, o1 + k, none⟩ = some (.int .i64 (xs.getD k 0)) := hc1 k hkn
      have c2 : (w.drewN q).cell? ⟨b2, o2 + k, none⟩ = some (.int .i64 (xs.getD k 0)) := hc2 k hkn
      have k1 : (k : Int) < (n : Int) := by omega
      have k2 : (0 : Int) ≤ (k : Int) := by omega
      have HQ := Lib.hid (fun q2 => show (w.drewN q).drewN q2 = w.drewN (q + q2) by simp [World.drewN, Nat.add_assoc])
      generalize w.drewN q = W at *
      generalize xs.getD k 0 = x at c1 c2
      clear hc1 hc2
      go_wp2_with fail
      go_quiet (fail)
      go_wp2
      exact ⟨⟨k + 1, _, by omega, by go_num, HQ.out _⟩, by simp [intOf]; omega⟩
    · obtain rfl : k = n := by omega
      go_wp2
      go_ret
      exact ⟨rfl, q, rfl⟩
end Go.Proofs.YtgklapjjofclcaaGreatDoor
/- The statements' own function lives: the chapter's example. -/
namespace Go.Proofs.YtgklapjjofclcaaGreatDoor
open Go.RowKit

def ringL : List Int := [2, 1, 1, 0]
theorem ring_ok : DisOk ringP 4 ringL := by
  have low : ∀ i, i < 4 → ∀ k, k < 4 → stepB ringP.P ringP.L 4 i k = true → d99 (ringL.getD i 0) ≤ d99 (ringL.getD k 0) + 1 := by decide +kernel
  refine ⟨rfl, ⟨?_, ?_, fun i k hi hk => low i hi k hk, ?_, ?_⟩, ?_⟩ <;> decide +kernel
theorem ring_l {l : List Int} (h : DisOk ringP 4 l) : l = ringL := disOk_uniq h ring_ok
theorem ring_h {hh : List Int} (hl : hh.length = 4) (h : HsOk 4 ringL hh) : hh = [3, 1, 2, 0] := by
  have key : ∀ i, i < 4 → htI 4 ringL i = ([3, 1, 2, 0] : List Int).getD i 0 := by decide +kernel
  exact list_eq_of_getD (by rw [hl]; rfl) fun i hi => by rw [h i (by omega), key i (by omega)]
theorem ring_c3 : chC ringP 4 ringL 2 = [(4, 0), (2, 1)] := by decide +kernel
theorem ring_c2 : chC ringP 4 ringL 1 = [(4, 0)] := by decide +kernel
theorem ring_hold : holdE ringP (htI 4 ringL 0) = .returned (.tuple #[.int .i64 384, .int .i64 0]) := by
  have h : htI 4 ringL 0 = 3 := by decide +kernel
  rw [h]; unfold holdE; rw [if_neg (by decide)]; rfl
theorem ints_four (a : Option Addr) (x0 x1 x2 x3 : Int) (w : World) (ha : Row .i64 w a 4 4 [x0, x1, x2, x3]) :
    Calls Tryz.prog 46 #[.slice a 4 4, .slice (some ⟨w.heap.size, 0, none⟩) 4 4] (w.alloc (.cells #[.int .i64 x0, .int .i64 x1, .int .i64 x2, .int .i64 x3] 3)) fun e w' => e = .returned (.bool true) ∧ Below w.heap.size w w' :=
  (ints_yes a _ 4 4 [x0, x1, x2, x3] _ (ha.later (below_alloc _ _)) (row_lit .i64 w 3 [x0, x1, x2, x3] 4 rfl (by decide) ha.wf)).mono fun e w' h => ⟨h.1, by obtain ⟨q, rfl⟩ := h.2; exact (below_alloc _ _).trans ((below_draw _ q).mono (below_alloc _ _).size)⟩
theorem ints_four_d (a : Option Addr) (x0 x1 x2 x3 : Int) (w : World) (ha : Row .i64 w a 4 4 [x0, x1, x2, x3]) :
    Calls Tryz.prog 46 #[.slice a 4 4, .slice (some ⟨w.heap.size, 0, none⟩) 4 4] ((w.alloc (.cells #[.int .i64 x0, .int .i64 x1, .int .i64 x2, .int .i64 x3] 3)).drew) fun e w' => e = .returned (.bool true) ∧ Below w.heap.size w w' := by
  have h := ints_four a x0 x1 x2 x3 w.drew (ha.later (below_draw w 1))
  exact h.mono fun e w' h => ⟨h.1, (below_draw w 1).trans h.2⟩
theorem keepA {v W : World} {o : Obj} (h : Below v.heap.size v W) : Below v.heap.size v (W.alloc o) := h.alloc h.size o
theorem keepD {v W : World} {o : Obj} (h : Below v.heap.size v W) : Below v.heap.size v (W.alloc o).drew := (h.alloc h.size o).drew
set_option maxRecDepth 100000 in
set_option maxHeartbeats 8000000 in
theorem lives_any (w : World) : Calls Tryz.prog 12 #[] w fun e w' => e = .returned (.bool true) ∧ Below w.heap.size w w' := by
  have HR := Lib.hid (ring_any w)
  go_enter Tryz.func12, Tryz.ntmps12
  go_wp2_with fail
  with_reducible refine HR.out.mono ?_
  rintro e w1 ⟨a, c, a', c', rfl, hP, hL, hb⟩
  have hD := fun (W : World) (hp : PRow W a 4 c ringP.P) (hl : LRow W a' 5 c' ringP.L) => distances_ok ringP a 4 c a' 5 c' 4 W hp hl (by decide) 3 (by decide) ringP_valid
  have hH := fun (W : World) (hp : PRow W a 4 c ringP.P) (hl : LRow W a' 5 c' ringP.L) => heights_few ringP a 4 c a' 5 c' 4 W hp hl (by decide) 3 (by decide) ringP_valid (by decide)
  have hC3 := fun (W : World) (hp : PRow W a 4 c ringP.P) (hl : LRow W a' 5 c' ringP.L) => choices_few ringP a 4 c a' 5 c' 3 4 W hp hl (by decide) (by decide) 2 3 (by decide) (by decide) ringP_valid (by decide)
  have hC2 := fun (W : World) (hp : PRow W a 4 c ringP.P) (hl : LRow W a' 5 c' ringP.L) => choices_few ringP a 4 c a' 5 c' 2 4 W hp hl (by decide) (by decide) 1 3 (by decide) (by decide) ringP_valid (by decide)
  have hBa := fun (W : World) (hp : PRow W a 4 c ringP.P) (hl : LRow W a' 5 c' ringP.L) => base_ok ringP a 4 c a' 5 c' W hp hl (by decide) ringP_valid
  have hHo := fun (W : World) (hp : PRow W a 4 c ringP.P) (hl : LRow W a' 5 c' ringP.L) => hold_few ringP a 4 c a' 5 c' 1 4 W hp hl (by decide) 0 3 (by decide) (by decide) ringP_valid (by decide)
  have hGa := fun (W : World) (hp : PRow W a 4 c ringP.P) (hl : LRow W a' 5 c' ringP.L) => gap_ok ringP a 4 c a' 5 c' W hp hl (by decide) ringP_valid
  unfold planV at *
  rw [show baseI ringP = 96 by decide +kernel] at hBa hGa
  rw [show ((ringP.P.length : Int) + 2) * 96 = 576 by decide +kernel] at hGa
  rw [show ringP.rate = 1 from rfl, show ringP.room = 4 from rfl, show ringP.m0 = 1 from rfl, show ringP.m1 = 2 from rfl, show ringP.m2 = 3 from rfl] at *
  have HD := Lib.hid hD
  have HH := Lib.hid hH
  have HC3 := Lib.hid hC3
  have HC2 := Lib.hid hC2
  have HBa := Lib.hid hBa
  have HHo := Lib.hid hHo
  have HGa := Lib.hid hGa
  clear hD hH hC3 hC2 hBa hHo hGa HR
  obtain ⟨W, hW⟩ : ∃ W, W = w1.alloc (.cells #[.slice a 4 c, .slice a' 5 c', .int .i64 1, .int .i64 4, .int .i64 1, .int .i64 2, .int .i64 3] 31) := ⟨_, rfl⟩
  have hB1 : Below w1.heap.size w1 W := by rw [hW]; exact below_alloc _ _
  have hbx : PlanAt W w1.heap.size a 4 c a' 5 c' ringP := by rw [hW]; exact PlanAt.new w1 a 4 c a' 5 c' ringP
  have HP := Lib.hid (hP.later hB1)
  have HL := Lib.hid (hL.later hB1)
  have HB := Lib.hid (hb.trans (hB1.mono hb.size))
  have HX := Lib.hid hbx
  obtain ⟨g0, g1, g2, g3, g4, g5, g6⟩ := hbx.cells
  rw [show ringP.rate = 1 from rfl] at g2
  rw [show ringP.room = 4 from rfl] at g3
  rw [show ringP.m0 = 1 from rfl] at g4
  rw [show ringP.m1 = 2 from rfl] at g5
  rw [show ringP.m2 = 3 from rfl] at g6
  clear hP hL hb hB1 hbx
  go_wp2_with fail
  show Calls _ _ _ (w1.alloc (.cells #[.slice a 4 c, .slice a' 5 c', .int .i64 1, .int .i64 4, .int .i64 1, .int .i64 2, .int .i64 3] 31)) _
  rw [← hW]
  clear hW
  have HS0 := Lib.hid (Below.refl W.heap.size W)
  with_reducible refine (HD.out _ (HP.out.later HS0.out) (HL.out.later HS0.out)).mono ?_
  rintro e v1 ⟨gd, l, n9, hn9, hok, rfl, ho, _, hb⟩
  have HS1 := Lib.hid (HS0.out.trans (hb.mono HS0.out.size))
  have HB0 := Lib.hid hb
  have hl := ring_l hok
  subst hl
  have hn4 : n9 = 4 := hn9.symm
  subst hn4
  have HDr := Lib.hid (ho.row0 4 4 rfl (Nat.le_refl _) (by unfold maxLen; decide) (by decide))
  clear ho hok hn9
  clear hb g0 g1 g2 g3 g4 g5 g6
  obtain ⟨g0, g1, g2, g3, g4, g5, g6⟩ := (HX.out.later HS1.out).cells
  rw [show ringP.rate = 1 from rfl] at g2
  rw [show ringP.room = 4 from rfl] at g3
  rw [show ringP.m0 = 1 from rfl] at g4
  rw [show ringP.m1 = 2 from rfl] at g5
  rw [show ringP.m2 = 3 from rfl] at g6
  go_wp2_with fail
  with_reducible refine (HH.out _ (HP.out.later HS1.out) (HL.out.later HS1.out)).mono ?_
  rintro e v2 ⟨gh, l, hh, n9, hn9, hok, hhs, rfl, hr, hb⟩
  have HS2 := Lib.hid (HS1.out.trans (hb.mono HS1.out.size))
  have HB1 := Lib.hid hb
  have hl := ring_l hok
  subst hl
  have hn4 : n9 = 4 := hn9.symm
  subst hn4
  have hhe := ring_h hr.len hhs
  subst hhe
  have HHr := Lib.hid hr
  clear hr hok hn9 hhs
  clear hb g0 g1 g2 g3 g4 g5 g6
  obtain ⟨g0, g1, g2, g3, g4, g5, g6⟩ := (HX.out.later HS2.out).cells
  rw [show ringP.rate = 1 from rfl] at g2
  rw [show ringP.room = 4 from rfl] at g3
  rw [show ringP.m0 = 1 from rfl] at g4
  rw [show ringP.m1 = 2 from rfl] at g5
  rw [show ringP.m2 = 3 from rfl] at g6
  go_wp2_with fail
  with_reducible refine (HC3.out _ (HP.out.later HS2.out) (HL.out.later HS2.out)).mono ?_
  rintro e v3 ⟨l, s2, hok, rfl, hr, hb⟩
  have HS3 := Lib.hid (HS2.out.trans (hb.mono HS2.out.size))
  have HB2 := Lib.hid hb
  have hl := ring_l hok
  subst hl
  rw [ring_c3] at hr ⊢
  have HCa := Lib.hid hr
  clear hr hok
  clear hb g0 g1 g2 g3 g4 g5 g6
  obtain ⟨g0, g1, g2, g3, g4, g5, g6⟩ := (HX.out.later HS3.out).cells
  rw [show ringP.rate = 1 from rfl] at g2
  rw [show ringP.room = 4 from rfl] at g3
  rw [show ringP.m0 = 1 from rfl] at g4
  rw [show ringP.m1 = 2 from rfl] at g5
  rw [show ringP.m2 = 3 from rfl] at g6
  go_wp2_with fail
  with_reducible refine (HC2.out _ (HP.out.later HS3.out) (HL.out.later HS3.out)).mono ?_
  rintro e v4 ⟨l, s3, hok, rfl, hr, hb⟩
  have HS4 := Lib.hid (HS3.out.trans (hb.mono HS3.out.size))
  have HB3 := Lib.hid hb
  have hl := ring_l hok
  subst hl
  rw [ring_c2] at hr ⊢
  have HCb := Lib.hid hr
  clear hr hok
  clear hb g0 g1 g2 g3 g4 g5 g6
  obtain ⟨g0, g1, g2, g3, g4, g5, g6⟩ := (HX.out.later HS4.out).cells
  rw [show ringP.rate = 1 from rfl] at g2
  rw [show ringP.room = 4 from rfl] at g3
  rw [show ringP.m0 = 1 from rfl] at g4
  rw [show ringP.m1 = 2 from rfl] at g5
  rw [show ringP.m2 = 3 from rfl] at g6
  go_wp2_with fail
  with_reducible refine (HBa.out _ (HP.out.later HS4.out) (HL.out.later HS4.out)).mono ?_
  rintro e v5 ⟨rfl, hb⟩
  have HS5 := Lib.hid (HS4.out.trans (hb.mono HS4.out.size))
  have HB4 := Lib.hid hb
  clear hb g0 g1 g2 g3 g4 g5 g6
  obtain ⟨g0, g1, g2, g3, g4, g5, g6⟩ := (HX.out.later HS5.out).cells
  rw [show ringP.rate = 1 from rfl] at g2
  rw [show ringP.room = 4 from rfl] at g3
  rw [show ringP.m0 = 1 from rfl] at g4
  rw [show ringP.m1 = 2 from rfl] at g5
  rw [show ringP.m2 = 3 from rfl] at g6
  go_wp2_with fail
  with_reducible refine (HHo.out _ (HP.out.later HS5.out) (HL.out.later HS5.out)).mono ?_
  rintro e v6 ⟨l, hok, rfl, hb⟩
  have HS6 := Lib.hid (HS5.out.trans (hb.mono HS5.out.size))
  have HB5 := Lib.hid hb
  have hl := ring_l hok
  subst hl
  rw [show ringP.P.length = 4 from rfl, ring_hold]
  clear hok
  clear hb g0 g1 g2 g3 g4 g5 g6
  obtain ⟨g0, g1, g2, g3, g4, g5, g6⟩ := (HX.out.later HS6.out).cells
  rw [show ringP.rate = 1 from rfl] at g2
  rw [show ringP.room = 4 from rfl] at g3
  rw [show ringP.m0 = 1 from rfl] at g4
  rw [show ringP.m1 = 2 from rfl] at g5
  rw [show ringP.m2 = 3 from rfl] at g6
  go_wp2_with fail
  with_reducible refine (HGa.out _ (HP.out.later HS6.out) (HL.out.later HS6.out)).mono ?_
  rintro e v7 ⟨rfl, hb⟩
  have HS7 := Lib.hid (HS6.out.trans (hb.mono HS6.out.size))
  have HB6 := Lib.hid hb
  clear hb g0 g1 g2 g3 g4 g5 g6
  obtain ⟨g0, g1, g2, g3, g4, g5, g6⟩ := (HX.out.later HS7.out).cells
  rw [show ringP.rate = 1 from rfl] at g2
  rw [show ringP.room = 4 from rfl] at g3
  rw [show ringP.m0 = 1 from rfl] at g4
  rw [show ringP.m1 = 2 from rfl] at g5
  rw [show ringP.m2 = 3 from rfl] at g6
  go_wp2_with fail
  clear g0 g1 g2 g3 g4 g5 g6
  have HD7 := Lib.hid (((((((HDr.out.later HB1.out).later HB2.out).later HB3.out).later HB4.out).later HB5.out).later HB6.out))
  have HH7 := Lib.hid ((((((HHr.out.later HB2.out).later HB3.out).later HB4.out).later HB5.out).later HB6.out))
  have hCa := ((((HCa.out.later HB3.out).later HB4.out).later HB5.out).later HB6.out)
  have hCb := (((HCb.out.later HB4.out).later HB5.out).later HB6.out)
  obtain ⟨bl, ol, rfl, hcl⟩ := hCa.cells.resolve_left (by decide)
  obtain ⟨bm, om, rfl, hcm⟩ := hCb.cells.resolve_left (by decide)
  obtain ⟨l0, l1⟩ := hcl 0 (by decide)
  obtain ⟨l2, l3⟩ := hcl 1 (by decide)
  obtain ⟨m0, m1⟩ := hcm 0 (by decide)
  simp only [Nat.zero_mul, Nat.add_zero, Nat.one_mul, List.getD_cons_zero, List.getD_cons_succ] at l0 l1 l2 l3 m0 m1
  have hbl := World.block_lt_of_cell? v7 _ l0
  have hbm := World.block_lt_of_cell? v7 _ m0
  have keep : ∀ W', Below v7.heap.size v7 W' → W'.cell? ⟨bl, ol, none⟩ = some (.int .u16 4) ∧ W'.cell? ⟨bl, ol + 1, none⟩ = some (.int .i64 0) ∧ W'.cell? ⟨bl, ol + 2, none⟩ = some (.int .u16 2) ∧ W'.cell? ⟨bl, ol + 2 + 1, none⟩ = some (.int .i64 1) ∧ W'.cell? ⟨bm, om, none⟩ = some (.int .u16 4) ∧ W'.cell? ⟨bm, om + 1, none⟩ = some (.int .i64 0) := fun W' hb => ⟨(hb.cell (p := ⟨bl, ol, none⟩) hbl).trans l0, (hb.cell (p := ⟨bl, ol + 1, none⟩) hbl).trans l1, (hb.cell (p := ⟨bl, ol + 2, none⟩) hbl).trans l2, (hb.cell (p := ⟨bl, ol + 2 + 1, none⟩) hbl).trans l3, (hb.cell (p := ⟨bm, om, none⟩) hbm).trans m0, (hb.cell (p := ⟨bm, om + 1, none⟩) hbm).trans m1⟩
  have HI1 := Lib.hid (fun (W' : World) (hb : Below v7.heap.size v7 W') => (ints_four_d _ 2 1 1 0 W' (HD7.out.later hb)).mono (R' := fun e w' => e = .returned (.bool true) ∧ Below v7.heap.size v7 w' ∧ (fun W' => W'.cell? ⟨bl, ol, none⟩ = some (.int .u16 4) ∧ W'.cell? ⟨bl, ol + 1, none⟩ = some (.int .i64 0) ∧ W'.cell? ⟨bl, ol + 2, none⟩ = some (.int .u16 2) ∧ W'.cell? ⟨bl, ol + 2 + 1, none⟩ = some (.int .i64 1) ∧ W'.cell? ⟨bm, om, none⟩ = some (.int .u16 4) ∧ W'.cell? ⟨bm, om + 1, none⟩ = some (.int .i64 0)) w') fun e w' h => ⟨h.1, hb.trans (h.2.mono hb.size), keep _ (hb.trans (h.2.mono hb.size))⟩)
  have HI2 := Lib.hid (fun (W' : World) (hb : Below v7.heap.size v7 W') => (ints_four _ 3 1 2 0 W' (HH7.out.later hb)).mono (R' := fun e w' => e = .returned (.bool true) ∧ Below v7.heap.size v7 w' ∧ (fun W' => W'.cell? ⟨bl, ol, none⟩ = some (.int .u16 4) ∧ W'.cell? ⟨bl, ol + 1, none⟩ = some (.int .i64 0) ∧ W'.cell? ⟨bl, ol + 2, none⟩ = some (.int .u16 2) ∧ W'.cell? ⟨bl, ol + 2 + 1, none⟩ = some (.int .i64 1) ∧ W'.cell? ⟨bm, om, none⟩ = some (.int .u16 4) ∧ W'.cell? ⟨bm, om + 1, none⟩ = some (.int .i64 0)) w') fun e w' h => ⟨h.1, hb.trans (h.2.mono hb.size), keep _ (hb.trans (h.2.mono hb.size))⟩)
  have hb7 : Below v7.heap.size v7 v7 := Below.refl _ _
  have hb7d : Below v7.heap.size v7 v7.drew := below_draw v7 1
  have HK := Lib.hid (fun (W' : World) (hb : Below v7.heap.size v7 W') => And.intro hb (keep W' hb))
  clear hCa hCb hcl hcm keep hbl hbm
  go_region_held3 (fun W' => Below v7.heap.size v7 W' ∧ W'.cell? ⟨bl, ol, none⟩ = some (.int .u16 4) ∧ W'.cell? ⟨bl, ol + 1, none⟩ = some (.int .i64 0) ∧ W'.cell? ⟨bl, ol + 2, none⟩ = some (.int .u16 2) ∧ W'.cell? ⟨bl, ol + 2 + 1, none⟩ = some (.int .i64 1) ∧ W'.cell? ⟨bm, om, none⟩ = some (.int .u16 4) ∧ W'.cell? ⟨bm, om + 1, none⟩ = some (.int .i64 0)) (first | exact HK.out _ hb7d | exact HK.out _ (keepD hb7) | exact HK.out _ (keepA k0) | exact HK.out _ (keepD k0) | exact HK.out _ k0 | exact HK.out _ j0 | assumption | go_keep)
    (first
      | (go_at_call 46; ((with_reducible refine (HI1.out _ hb7).mono ?_); rintro e u1 ⟨rfl, k0, k1, k2, k3, k4, k5, k6⟩))
      | (go_at_call 46; ((with_reducible refine (HI2.out _ k0).mono ?_); rintro e u2 ⟨rfl, j0, j1, j2, j3, j4, j5, j6⟩))
      | fail)
  go_wp2
  go_ret
  have hA := HB.out.trans (HS7.out.mono HB.out.size)
  exact ⟨rfl, hA.trans (j0.mono hA.size)⟩
end Go.Proofs.YtgklapjjofclcaaGreatDoor
