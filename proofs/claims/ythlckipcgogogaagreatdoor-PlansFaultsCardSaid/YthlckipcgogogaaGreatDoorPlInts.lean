/- Joined: PlRing PlInts. -/
import Derived.Test.YthlckipcgogogaaGreatDoorPcSmall
import Derived.Test.YthlckipcgogogaaGreatDoorPlCells
import Derived.Deep.Cut
import Derived.Deep.CutBlock
import Derived.BigQuiet
import Derived.IntWalk
/- The plan of the chapter's example. -/
namespace Go.Proofs.YthlckipcgogogaaGreatDoor
set_option linter.unusedVariables false
open Go.RowKit

def ringP : Pn := ⟨[(1, false), (2, true), (3, true), (4, false)], [⟨1, 2, 0, 1⟩, ⟨1, 3, 0, 1⟩, ⟨2, 3, 0, 1⟩, ⟨2, 4, 0, 1⟩, ⟨3, 4, 0, 1⟩], 1, 4, 1, 2, 3⟩
theorem ringP_valid : ValidPl ringP := chkPl_zero.1 (by decide)
def RingOut (w : World) (e : Ending) (w' : World) : Prop := ∃ a c a' c', e = .returned (planV a 4 c a' 5 c' ringP) ∧ PRow w' a 4 c ringP.P ∧ LRow w' a' 5 c' ringP.L ∧ Below w.heap.size w w'
set_option maxRecDepth 20000 in
set_option maxHeartbeats 2000000 in
theorem ring_any (w : World) : Calls Tryz.prog 45 #[] w (RingOut w) := by
  go_enter Tryz.func45, Tryz.ntmps45
  go_wp2_with fail
  obtain ⟨z, hz⟩ : ∃ z, z = w.heap.size := ⟨_, rfl⟩
  obtain ⟨W4, hW4⟩ : ∃ W4, W4 = (((w.alloc (.cells #[.slice none 0 0, .slice none 0 0, .int .i64 0, .int .i64 0, .int .i64 0, .int .i64 0, .int .i64 0] 31)).alloc
      (.cells #[.int .u16 1, .bool false, .int .u16 2, .bool true, .int .u16 3, .bool true, .int .u16 4, .bool false] 72)).alloc
      (.cells #[.slice (some ⟨w.heap.size + 1, 0, none⟩) 4 4, .slice none 0 0, .int .i64 1, .int .i64 4, .int .i64 1, .int .i64 2, .int .i64 3] 31)).alloc
      (.cells #[.int .u16 1, .int .u16 2, .int .u16 1, .int .u16 3, .int .u16 2, .int .u16 3, .int .u16 2, .int .u16 4, .int .u16 3, .int .u16 4] 137) := ⟨_, rfl⟩
  rw [← hW4]
  have hsz : W4.heap.size = z + 4 := by rw [hW4, hz]; simp
  have hbl : Below w.heap.size w W4 := by
    rw [hW4]
    exact ((((Below.refl _ w).alloc (Nat.le_refl _) _).alloc (by simp) _).alloc (by simp; omega) _).alloc (by simp; omega) _
  have o0 : Own W4 z 31 [.slice none 0 0, .slice none 0 0, .int .i64 0, .int .i64 0, .int .i64 0, .int .i64 0, .int .i64 0] := by
    rw [hW4, hz]
    exact (((own_alloc w _ _).below (below_alloc _ _) (by simp)).below (below_alloc _ _) (by simp; omega)).below (below_alloc _ _) (by simp; omega)
  have o1 : Own W4 (z + 1) 72 [.int .u16 1, .bool false, .int .u16 2, .bool true, .int .u16 3, .bool true, .int .u16 4, .bool false] := by
    rw [hW4, hz]
    have h := own_alloc (w.alloc (.cells #[.slice none 0 0, .slice none 0 0, .int .i64 0, .int .i64 0, .int .i64 0, .int .i64 0, .int .i64 0] 31)) [.int .u16 1, .bool false, .int .u16 2, .bool true, .int .u16 3, .bool true, .int .u16 4, .bool false] 72
    rw [World.size_alloc] at h
    exact (h.below (below_alloc _ _) (by simp)).below (below_alloc _ _) (by simp)
  have o2 : Own W4 (z + 1 + 1) 31 [.slice (some ⟨z + 1, 0, none⟩) 4 4, .slice none 0 0, .int .i64 1, .int .i64 4, .int .i64 1, .int .i64 2, .int .i64 3] := by
    rw [hW4, hz]
    have h := own_alloc ((w.alloc (.cells #[.slice none 0 0, .slice none 0 0, .int .i64 0, .int .i64 0, .int .i64 0, .int .i64 0, .int .i64 0] 31)).alloc (.cells #[.int .u16 1, .bool false, .int .u16 2, .bool true, .int .u16 3, .bool true, .int .u16 4, .bool false] 72)) [.slice (some ⟨w.heap.size + 1, 0, none⟩) 4 4, .slice none 0 0, .int .i64 1, .int .i64 4, .int .i64 1, .int .i64 2, .int .i64 3] 31
    rw [World.size_alloc, World.size_alloc] at h
    exact h.below (below_alloc _ _) (by simp)
  have o3 : Own W4 (z + 1 + 1 + 1) 137 [.int .u16 1, .int .u16 2, .int .u16 1, .int .u16 3, .int .u16 2, .int .u16 3, .int .u16 2, .int .u16 4, .int .u16 3, .int .u16 4] := by
    rw [hW4, hz]
    have h := own_alloc (((w.alloc (.cells #[.slice none 0 0, .slice none 0 0, .int .i64 0, .int .i64 0, .int .i64 0, .int .i64 0, .int .i64 0] 31)).alloc (.cells #[.int .u16 1, .bool false, .int .u16 2, .bool true, .int .u16 3, .bool true, .int .u16 4, .bool false] 72)).alloc (.cells #[.slice (some ⟨w.heap.size + 1, 0, none⟩) 4 4, .slice none 0 0, .int .i64 1, .int .i64 4, .int .i64 1, .int .i64 2, .int .i64 3] 31)) [.int .u16 1, .int .u16 2, .int .u16 1, .int .u16 3, .int .u16 2, .int .u16 3, .int .u16 2, .int .u16 4, .int .u16 3, .int .u16 4] 137
    rw [World.size_alloc, World.size_alloc, World.size_alloc] at h
    exact h
  rw [← hz]
  have HZ := Lib.hid hz
  have HSz := Lib.hid hsz
  have HBl := Lib.hid hbl
  have HO0 := Lib.hid o0
  have HO1 := Lib.hid o1
  have HO2 := Lib.hid o2
  have HO3 := Lib.hid o3
  clear hW4 o0 o1 o2 o3 hz hbl hsz
  go_loopw [18] (fun iv wr => ∃ (k : Nat) (v : Value), k ≤ 5 ∧ iv = .int .i64 k ∧ Own wr (z + 1 + 1) 31 [.slice (some ⟨z + 1, 0, none⟩) 4 4, v, .int .i64 1, .int .i64 4, .int .i64 1, .int .i64 2, .int .i64 3] ∧ wr.ownsRow (z + 4) 76 4 v k (cellsL (ringP.L.take k)) ∧ Exc (fun q => q = z + 1 + 1) W4 wr) (fun iv _ => 5 - (intOf iv).toNat)
  case atStart => exact ⟨0, .slice none 0 0, by decide, rfl, HO2.out, by simpa [cellsL] using World.ownsRow_nil W4 (z + 4) 76 4, Exc.refl _ _⟩
  case round =>
    obtain ⟨k, v, hk, rfl, ho, hown, hx⟩ := hrel
    have hsz : z + 4 ≤ wr.heap.size := by have h1 := hx.size; have h2 := HSz.out; omega
    have p1 := ho.cell 1 (by simp)
    simp only [List.getD_cons_succ, List.getD_cons_zero] at p1
    have HOr := Lib.hid ho
    have HW := Lib.hid hown
    have HX := Lib.hid hx
    by_cases hk5 : k < 5
    · have q0 := hx.cell (HO3.out.cell (k * 2) (by simp; omega)) (by show ¬ z + 1 + 1 + 1 = z + 1 + 1; omega)
      have q1 := hx.cell (HO3.out.cell (k * 2 + 1) (by simp; omega)) (by show ¬ z + 1 + 1 + 1 = z + 1 + 1; omega)
      have hAB : ∀ j, j < 5 → ([.int .u16 1, .int .u16 2, .int .u16 1, .int .u16 3, .int .u16 2, .int .u16 3, .int .u16 2, .int .u16 4, .int .u16 3, .int .u16 4] : List Value).getD (j * 2) undef = .int .u16 (lnAt ringP.L j).A ∧ ([.int .u16 1, .int .u16 2, .int .u16 1, .int .u16 3, .int .u16 2, .int .u16 3, .int .u16 2, .int .u16 4, .int .u16 3, .int .u16 4] : List Value).getD (j * 2 + 1) undef = .int .u16 (lnAt ringP.L j).B ∧ lnAt ringP.L j = ⟨(lnAt ringP.L j).A, (lnAt ringP.L j).B, 0, 1⟩ := fun j hj => by
        match j, hj with
        | 0, _ => exact ⟨rfl, rfl, rfl⟩
        | 1, _ => exact ⟨rfl, rfl, rfl⟩
        | 2, _ => exact ⟨rfl, rfl, rfl⟩
        | 3, _ => exact ⟨rfl, rfl, rfl⟩
        | 4, _ => exact ⟨rfl, rfl, rfl⟩
      obtain ⟨e1, e2, e3⟩ := hAB k hk5
      rw [e1] at q0
      rw [e2] at q1
      obtain ⟨A, hA⟩ : ∃ A, A = (lnAt ringP.L k).A := ⟨_, rfl⟩
      obtain ⟨B, hB⟩ : ∃ B, B = (lnAt ringP.L k).B := ⟨_, rfl⟩
      rw [← hA] at q0
      rw [← hB] at q1
      rw [← hA, ← hB] at e3
      have HT := Lib.hid (show cellsL (ringP.L.take (k + 1)) = cellsL (ringP.L.take k) ++ [.int .u16 A, .int .u16 B, .int .u8 0, .int .i64 1] by
        have hk9 : k < ringP.L.length := hk5
        rw [List.take_succ_eq_append_getElem hk9]
        have : ringP.L[k] = lnAt ringP.L k := by simp [lnAt, List.getD_eq_getElem?_getD, hk9]
        rw [this, e3]
        simp [cellsL, encLn])
      have k1 : (k : Int) < 5 := by omega
      have k2 : (0 : Int) ≤ (k : Int) := by omega
      have hz3 : z + 1 + 1 + 1 < wr.heap.size := by omega
      have hz2 : z + 1 + 1 < wr.heap.size := by omega
      clear e1 e2 e3 hA hB hAB ho hown hx
      go_upto_region 5 with (fail)
      have hb8 := below_alloc wr (.cells #[.int .u16 A, .int .u16 B] 137)
      have hq0 := (own_alloc wr [.int .u16 A, .int .u16 B] 137).cell 0 (by simp)
      have hq1 := (own_alloc wr [.int .u16 A, .int .u16 B] 137).cell 1 (by simp)
      obtain ⟨wl, hwl⟩ : ∃ wl, wl = wr.alloc (.cells #[.int .u16 A, .int .u16 B] 137) := ⟨_, rfl⟩
      have r0 : wl.cell? ⟨wr.heap.size, 0, none⟩ = some (.int .u16 A) := by rw [hwl]; exact hq0
      have r1 : wl.cell? ⟨wr.heap.size, 1, none⟩ = some (.int .u16 B) := by rw [hwl]; exact hq1
      rw [← hwl] at hb8 ⊢
      have p1l : wl.cell? ⟨z + 1 + 1, 1, none⟩ = some v := (hb8.cell hz2).trans p1
      have HWl := Lib.hid (ownsK_below HW.out hb8)
      have HOl := Lib.hid (HOr.out.below hb8 HOr.out.lt)
      have HXl := Lib.hid (HX.out.trans (S' := fun _ => False) (Exc.of_below hb8) (fun _ _ hh => hh.elim))
      have hszl : z + 4 ≤ wl.heap.size := Nat.le_trans hsz hb8.size
      have hz2l : z + 1 + 1 < wl.heap.size := Nat.lt_of_lt_of_le hz2 hb8.size
      clear hwl hq0 hq1 q0 q1 p1 hb8
      go_wp2_with (at_builtin; refine wpList_append_agg Tryz.underlying28 infoLn rfl (by decide) (by decide) rfl _ _ rfl (z + 4) _ _ _ [.int .u16 A, .int .u16 B, .int .u8 0, .int .i64 1] rfl (fun u hu => by simp at hu; rcases hu with rfl | rfl | rfl | rfl <;> rfl) rfl (by exact HWl.out) rfl (by omega) hszl ?_)
      intro v1 w2 h1 h2 gx cx hv1
      subst hv1
      have ho2 : Own w2 (z + 1 + 1) 31 [.slice (some ⟨z + 1, 0, none⟩) 4 4, v, .int .i64 1, .int .i64 4, .int .i64 1, .int .i64 2, .int .i64 3] := by
        unfold Own
        rw [h2.exc.block (z + 1 + 1) hz2l (fun e => by have := (ownsK_lt HWl.out e).1; omega)]; exact HOl.out
      have s1 := ho2.cell 1 (by simp)
      have f1 := ho2.frozen 1
      simp only [List.getD_cons_succ, List.getD_cons_zero] at s1
      have HN1 := Lib.hid (ho2.set 1 (.slice (some ⟨gx, 0, none⟩) (k + 1) cx))
      have HE1 := Lib.hid ((Exc.refl (fun q => q = z + 1 + 1) w2).setCell ⟨z + 1 + 1, 1, none⟩ (.inl rfl) (.slice (some ⟨gx, 0, none⟩) (k + 1) cx))
      have HN2 := Lib.hid (ownsK_exc h1 HE1.out (fun j hj e => by have := (ownsK_lt h1 hj).1; omega))
      have HE2 := Lib.hid (show Exc (fun q => q = z + 1 + 1) W4 (w2.setCell ⟨z + 1 + 1, 1, none⟩ (.slice (some ⟨gx, 0, none⟩) (k + 1) cx)) from by
        have hg : Exc (fun q => q = z + 1 + 1) W4 w2 := HXl.out.trans h2.exc (fun i hi e => by have h3 := (ownsK_lt HWl.out e).1; have h4 := HSz.out; omega)
        exact hg.trans HE1.out (fun _ _ h => h))
      clear h1 h2 ho2 r0 r1 p1l
      go_wp2
      refine ⟨⟨k + 1, _, by omega, by go_num, HN1.out, ?_, HE2.out⟩, by simp [intOf]; omega⟩
      rw [HT.out]
      exact HN2.out
    · obtain rfl : k = 5 := by omega
      obtain ⟨aL, cL, rfl, hrow, hbig⟩ := lrow_of_owns (n := 5) (L := ringP.L) (by have := hown; rwa [show ringP.L.take 5 = ringP.L from rfl] at this) rfl (by decide)
      have g0 := ho.cell 0 (by simp)
      have g1 := ho.cell 1 (by simp)
      have g2 := ho.cell 2 (by simp)
      have g3 := ho.cell 3 (by simp)
      have g4 := ho.cell 4 (by simp)
      have g5 := ho.cell 5 (by simp)
      have g6 := ho.cell 6 (by simp)
      simp only [List.getD_cons_succ, List.getD_cons_zero] at g0 g1 g2 g3 g4 g5 g6
      have HRow := Lib.hid hrow
      have HBig := Lib.hid hbig
      clear hbig
      clear ho hown hx p1 hrow HW
      have hoz : Own wr z 31 [.slice none 0 0, .slice none 0 0, .int .i64 0, .int .i64 0, .int .i64 0, .int .i64 0, .int .i64 0] := by
        unfold Own
        rw [HX.out.block z HO0.out.lt (by show ¬ z = z + 1 + 1; omega)]; exact HO0.out
      have t0 := hoz.cell 0 (by simp)
      have t1 := hoz.cell 1 (by simp)
      have t2 := hoz.cell 2 (by simp)
      have t3 := hoz.cell 3 (by simp)
      have t4 := hoz.cell 4 (by simp)
      have t5 := hoz.cell 5 (by simp)
      have t6 := hoz.cell 6 (by simp)
      simp only [List.getD_cons_succ, List.getD_cons_zero] at t0 t1 t2 t3 t4 t5 t6
      have f0 := hoz.frozen 0
      have f1 := hoz.frozen 1
      have f2 := hoz.frozen 2
      have f3 := hoz.frozen 3
      have f4 := hoz.frozen 4
      have f5 := hoz.frozen 5
      have f6 := hoz.frozen 6
      have HOz := Lib.hid hoz
      clear hoz
      go_wp2_with fail
      obtain ⟨W9, hW9⟩ : ∃ W9, W9 = ((((((wr.setCell ⟨z, 0, none⟩ (.slice (some ⟨z + 1, 0, none⟩) 4 4)).setCell ⟨z, 1, none⟩ (.slice aL 5 cL)).setCell ⟨z, 2, none⟩ (.int .i64 1)).setCell ⟨z, 3, none⟩ (.int .i64 4)).setCell ⟨z, 4, none⟩ (.int .i64 1)).setCell ⟨z, 5, none⟩ (.int .i64 2)).setCell ⟨z, 6, none⟩ (.int .i64 3) := ⟨_, rfl⟩
      have ho9 : Own W9 z 31 [.slice (some ⟨z + 1, 0, none⟩) 4 4, .slice aL 5 cL, .int .i64 1, .int .i64 4, .int .i64 1, .int .i64 2, .int .i64 3] := by
        rw [hW9]
        exact ((((((HOz.out.set 0 (.slice (some ⟨z + 1, 0, none⟩) 4 4)).set 1 (.slice aL 5 cL)).set 2 (.int .i64 1)).set 3 (.int .i64 4)).set 4 (.int .i64 1)).set 5 (.int .i64 2)).set 6 (.int .i64 3)
      have hx9 : Exc (fun q => q = z) wr W9 := by
        rw [hW9]
        exact (((((((Exc.refl (fun q => q = z) wr).setCell ⟨z, 0, none⟩ (.inl rfl) _).setCell ⟨z, 1, none⟩ (.inl rfl) _).setCell ⟨z, 2, none⟩ (.inl rfl) _).setCell ⟨z, 3, none⟩ (.inl rfl) _).setCell ⟨z, 4, none⟩ (.inl rfl) _).setCell ⟨z, 5, none⟩ (.inl rfl) _).setCell ⟨z, 6, none⟩ (.inl rfl) _
      rw [← hW9]
      clear hW9 t0 t1 t2 t3 t4 t5 t6 f0 f1 f2 f3 f4 f5 f6 g0 g1 g2 g3 g4 g5 g6
      have u0 := ho9.cell 0 (by simp)
      have u1 := ho9.cell 1 (by simp)
      have u2 := ho9.cell 2 (by simp)
      have u3 := ho9.cell 3 (by simp)
      have u4 := ho9.cell 4 (by simp)
      have u5 := ho9.cell 5 (by simp)
      have u6 := ho9.cell 6 (by simp)
      simp only [List.getD_cons_succ, List.getD_cons_zero] at u0 u1 u2 u3 u4 u5 u6
      have ho1 : Own W9 (z + 1) 72 [.int .u16 1, .bool false, .int .u16 2, .bool true, .int .u16 3, .bool true, .int .u16 4, .bool false] := by
        unfold Own
        rw [hx9.block (z + 1) (by omega) (by show ¬ z + 1 = z; omega), HX.out.block (z + 1) HO1.out.lt (by show ¬ z + 1 = z + 1 + 1; omega)]; exact HO1.out
      have hb8 : Below w.heap.size w wr := HBl.out.trans (HX.out.below HBl.out.size (fun i _ hi => by have := HZ.out; omega))
      have hb9 : Below w.heap.size w W9 := hb8.trans (hx9.below hb8.size (fun i _ hi => by have := HZ.out; omega))
      refine bodyPost_ret (v := planV (some ⟨z + 1, 0, none⟩) 4 4 aL 5 cL ringP) (by simp [results, Tryz.results45, go_sem, u0, u1, u2, u3, u4, u5, u6, planV, ringP]) rfl ?_
      refine ⟨_, _, _, _, rfl, ⟨rfl, Nat.le_refl _, by unfold maxLen; decide, by decide, .inr ⟨z + 1, 0, rfl, fun i hi => ?_⟩, by simp⟩, HRow.out.exc hx9 (fun x hx => by have := HBig.out x hx; show ¬ x.block = z; omega), hb9⟩
      have c := fun j (hj : j < 8) => ho1.cell j (by simpa using hj)
      match i, hi with
      | 0, _ => exact ⟨c 0 (by decide), c 1 (by decide)⟩
      | 1, _ => exact ⟨c 2 (by decide), c 3 (by decide)⟩
      | 2, _ => exact ⟨c 4 (by decide), c 5 (by decide)⟩
      | 3, _ => exact ⟨c 6 (by decide), c 7 (by decide)⟩
end Go.Proofs.YthlckipcgogogaaGreatDoor
/- The statements' own function ints, at equal numbers. -/
namespace Go.Proofs.YthlckipcgogogaaGreatDoor
set_option linter.unusedVariables false
open Go.RowKit

set_option maxHeartbeats 1000000 in
theorem ints_yes (a b : Option Addr) (n m : Nat) (xs : List Int) (w : World) (ha : Row .i64 w a n n xs) (hb : Row .i64 w b n m xs) :
    Calls Tryz.prog 46 #[.slice a n n, .slice b n m] w fun e w' => e = .returned (.bool true) ∧ ∃ q, w' = w.drewN q := by
  have hmax := ha.max
  unfold maxLen at hmax
  have HA := Lib.hid ha
  have HB := Lib.hid hb
  clear ha hb
  go_enter Tryz.func46, Tryz.ntmps46
  go_wp2_with fail
  go_loopw [5] (fun i wr => ∃ k q : Nat, k ≤ n ∧ i = .int .i64 k ∧ wr = w.drewN q) (fun i _ => n - (intOf i).toNat)
  case atStart => exact ⟨0, 0, Nat.zero_le _, rfl, rfl⟩
  case round =>
    obtain ⟨k, q, hk, rfl, rfl⟩ := hrel
    by_cases hkn : k < n
    · obtain ⟨b1, o1, rfl, hc1⟩ := HA.out.cells.resolve_left (by omega)
      obtain ⟨b2, o2, rfl, hc2⟩ := HB.out.cells.resolve_left (by omega)
      have c1 : (w.drewN q).cell? ⟨b1, o1 + k, none⟩ = some (.int .i64 (xs.getD k 0)) := hc1 k hkn
      have c2 : (w.drewN q).cell? ⟨b2, o2 + k, none⟩ = some (.int .i64 (xs.getD k 0)) := hc2 k hkn
      have k1 : (k : Int) < (n : Int) := by omega
      have k2 : (0 : Int) ≤ (k : Int) := by omega
      have HQ := Lib.hid (fun q2 => show (w.drewN q).drewN q2 = w.drewN (q + q2) by simp [World.drewN, Nat.add_assoc])
      generalize w.drewN q = W at *
      generalize xs.getD k 0 = x at c1 c2
      clear hc1 hc2
      go_wp2_with fail
      go_quiet (fail)
      go_wp2
      exact ⟨⟨k + 1, _, by omega, by go_num, HQ.out _⟩, by simp [intOf]; omega⟩
    · obtain rfl : k = n := by omega
      go_wp2
      go_ret
      exact ⟨rfl, q, rfl⟩
end Go.Proofs.YthlckipcgogogaaGreatDoor
