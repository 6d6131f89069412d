import Derived.Test.YthlckipcgogogaaGreatDoorPlLayB
import Derived.Test.YthlckipcgogogaaGreatDoorPcSort
import Derived.Test.YthlckipcgogogaaGreatDoorLbCmp
import Derived.Test.YthlckipcgogogaaGreatDoorPlCells
import Derived.StillTailTactics
/- The order of choices: the closure, the library's sort. -/
namespace Go.Proofs.YthlckipcgogogaaGreatDoor
set_option linter.unusedVariables false
open Go.RowKit Go.Sort Go.Lib

def or2L (x y : Int) : Int := if x ≠ 0 then x else y
theorem or2_any (g : Nat) (x y : Int) (w : World) (h : Own w g 3 [.int .i64 x, .int .i64 y]) :
    Calls Tryz.prog 67 #[.slice (some ⟨g, 0, none⟩) 2 2] w fun e w' => e = .returned (.int .i64 (or2L x y)) ∧ w = w' := by
  have c0 := h.cell 0 (by simp)
  have c1 := h.cell 1 (by simp)
  simp at c0 c1
  clear h
  go_enter Tryz.func67, Tryz.ntmps67
  go_wp2
  go_loop [8] (fun i => i = .int .i64 0 ∨ (i = .int .i64 1 ∧ x = 0) ∨ (i = .int .i64 2 ∧ x = 0 ∧ y = 0)) (fun i => 2 - (intOf i).toNat)
  case atStart => exact .inl rfl
  case round =>
    rcases hrel with rfl | ⟨rfl, rfl⟩ | ⟨rfl, rfl, rfl⟩
    · by_cases hx : x = 0
      · subst hx
        go_wp2
        go_round
        case rel => simp
        case measure => simp [intOf]
      · have hb : (x != 0) = true := by simpa using hx
        have HE := Lib.hid (show or2L x y = x from by simp [or2L, hx])
        go_wp2
        go_ret
        exact ⟨ret_int HE.out.symm, rfl⟩
    · by_cases hx : y = 0
      · subst hx
        go_wp2
        go_round
        case rel => simp
        case measure => simp [intOf]
      · have hb : (y != 0) = true := by simpa using hx
        have HE := Lib.hid (show or2L 0 y = y from by simp [or2L])
        go_wp2
        go_ret
        exact ⟨ret_int HE.out.symm, rfl⟩
    · go_wp2
      go_ret
      exact ⟨rfl, rfl⟩
/-- The order of choices (next, rank). -/
def cfC (x y : Int × Int) : Int := or2L (cmpL x.2 y.2) (cmpL x.1 y.1)
theorem ltOf_cfC (x y : Int × Int) : ltOf cfC x y = true ↔ ltC x y := by
  unfold ltOf cfC or2L ltC
  rcases cmpL_cases x.2 y.2 with ⟨e, h⟩ | ⟨e, h⟩ | ⟨e, h⟩ <;> rw [e]
  · simp; omega
  · simp; omega
  · rcases cmpL_cases x.1 y.1 with ⟨e2, h2⟩ | ⟨e2, h2⟩ | ⟨e2, h2⟩ <;> rw [e2] <;> simp <;> omega
theorem swoC : SWO (ltOf cfC) := by
  have hf : ∀ x y, ltOf cfC x y = false ↔ ¬ ltC x y := fun x y => by rw [← ltOf_cfC, Bool.not_eq_true]
  constructor
  · intro x; rw [hf]; unfold ltC; omega
  · intro x y z h g; rw [ltOf_cfC] at *; unfold ltC at *; omega
  · intro x y z h g; rw [hf] at *; unfold ltC at *; omega
def encC (x : Int × Int) : List Value := [.int .u16 x.1, .int .i64 x.2]
theorem grow_three (W : World) (a b c : Obj) : (((W.alloc a).alloc b).drew).alloc c = grow (W.drewN 1) #[a, b, c] := by
  unfold World.alloc World.drew World.drewN grow
  simp only [World.mk.injEq, and_true]
  apply Array.ext'
  simp
set_option maxRecDepth 100000 in
set_option maxHeartbeats 1000000 in
theorem closureC_any (x y : Int × Int) (w : World) :
    Calls Tryz.prog 66 #[.agg (encC x).toArray, .agg (encC y).toArray] w fun e w' => e = .returned (.int .i64 (cfC x y)) ∧ ∃ q os, w' = grow (w.drewN q) os := by
  unfold encC cfC
  obtain ⟨a1, a2⟩ := x
  obtain ⟨b1, b2⟩ := y
  simp only
  have H1 := Lib.hid (fun W => cmpI_any a2 b2 W)
  have H2 := Lib.hid (fun W => show Calls Tryz.prog 69 #[.int .u16 a1, .int .u16 b1] W fun e w' => e = .returned (.int .i64 (cmpL a1 b1)) ∧ w' = W from (cmp16_any a1 b1 W).mono fun _ _ h => ⟨h.1, h.2.symm⟩)
  have HO := Lib.hid (fun g W => or2_any g (cmpL a2 b2) (cmpL a1 b1) W)
  generalize cmpL a2 b2 = u at H1 HO ⊢
  generalize cmpL a1 b1 = v at H2 HO ⊢
  go_enter Tryz.func66, Tryz.ntmps66
  go_wp2_with fail
  have c0 := (own_lit w 106 #[.int .u16 a1, .int .i64 a2] _ rfl).below (below_alloc _ (.cells #[.int .u16 b1, .int .i64 b2] 106)) (by simp)
  have d0 := own_lit (w.alloc (.cells #[.int .u16 a1, .int .i64 a2] 106)) 106 #[.int .u16 b1, .int .i64 b2] _ rfl
  rw [World.size_alloc] at d0
  obtain ⟨W, hW⟩ : ∃ W, W = (w.alloc (.cells #[.int .u16 a1, .int .i64 a2] 106)).alloc (.cells #[.int .u16 b1, .int .i64 b2] 106) := ⟨_, rfl⟩
  have c00 : W.cell? ⟨w.heap.size, 0, none⟩ = some (.int .u16 a1) := by rw [hW]; exact c0.cell 0 (by simp)
  have c01 : W.cell? ⟨w.heap.size, 1, none⟩ = some (.int .i64 a2) := by rw [hW]; exact c0.cell 1 (by simp)
  have d00 : W.cell? ⟨w.heap.size + 1, 0, none⟩ = some (.int .u16 b1) := by rw [hW]; exact d0.cell 0 (by simp)
  have d01 : W.cell? ⟨w.heap.size + 1, 1, none⟩ = some (.int .i64 b2) := by rw [hW]; exact d0.cell 1 (by simp)
  clear c0 d0
  rw [← hW]
  have HW := Lib.hid hW
  clear hW
  go_still_tail 10, (by kernel_rfl)
  repeat still_step
  still_call (H1.out _)
  repeat still_step
  still_call (H2.out _)
  repeat still_step
  refine wpStill_nil ?_
  change wpList _ _ _ _ _ W.drew
  go_wp2_with fail
  refine (HO.out _ _ (own_lit W.drew 3 _ _ rfl)).mono ?_
  rintro e w' ⟨rfl, rfl⟩
  clear c00 c01 d00 d01
  go_wp2
  go_ret
  exact ⟨rfl, 1, _, by rw [HW.out]; exact grow_three _ _ _ _⟩
theorem laysC_any (blk size : Nat) (w : World) : CmpLays Tryz.prog 66 #[] encC 2 cfC blk 0 size w := fun _ _ _ _ x y => closureC_any x y _
/-- The cells of choices. -/
def cellsC (X : List (Int × Int)) : List Value := X.flatMap encC
theorem cellsC_length (X : List (Int × Int)) : (cellsC X).length = X.length * 2 := by
  induction X with
  | nil => rfl
  | cons x X ih => simp only [cellsC, List.flatMap_cons, List.length_append, encC, List.length_cons, List.length_nil] at *; omega
theorem cellsC_getD (X : List (Int × Int)) {i : Nat} (hi : i < X.length) : (cellsC X).getD (i * 2) undef = .int .u16 (X.getD i (0, 0)).1 ∧ (cellsC X).getD (i * 2 + 1) undef = .int .i64 (X.getD i (0, 0)).2 := by
  induction X generalizing i with
  | nil => cases hi
  | cons x X ih =>
    cases i with
    | zero => simp [cellsC, encC]
    | succ i =>
      have h := ih (i := i) (by simpa using hi)
      have e : cellsC (x :: X) = .int .u16 x.1 :: .int .i64 x.2 :: cellsC X := rfl
      rw [e, show (i + 1) * 2 = i * 2 + 1 + 1 by omega]
      simp only [List.getD_cons_succ]
      exact h
/-- A slice value reads in w as the choices X. -/
structure CRow (w : World) (a : Option Addr) (n c : Nat) (X : List (Int × Int)) : Prop where
  len : X.length = n
  le : n ≤ c
  max : c ≤ maxLen
  cells : n = 0 ∨ ∃ b off, a = some ⟨b, off, none⟩ ∧ ∀ i, i < n → w.cell? ⟨b, off + i * 2, none⟩ = some (.int .u16 (X.getD i (0, 0)).1) ∧ w.cell? ⟨b, off + i * 2 + 1, none⟩ = some (.int .i64 (X.getD i (0, 0)).2)
theorem CRow.exc {S : Nat → Prop} {w w' : World} {a : Option Addr} {n c : Nat} {X : List (Int × Int)} (h : CRow w a n c X) (hx : Exc S w w') (hn : ∀ x, a = some x → ¬ S x.block) : CRow w' a n c X := by
  refine ⟨h.len, h.le, h.max, ?_⟩
  rcases h.cells with h0 | ⟨b, off, ha, hc⟩
  · exact .inl h0
  · have hb : ¬ S b := hn _ ha
    exact .inr ⟨b, off, ha, fun i hi => ⟨hx.cell (hc i hi).1 hb, hx.cell (hc i hi).2 hb⟩⟩
theorem CRow.later {w w' : World} {a : Option Addr} {n c : Nat} {X : List (Int × Int)} (h : CRow w a n c X) (hb : Below w.heap.size w w') : CRow w' a n c X :=
  h.exc (S := fun _ => False) (Exc.of_below hb) (fun _ _ h => h)
theorem sortK_exc {α : Type} [Inhabited α] (enc : α → List Value) (k : Nat) (w : World) (blk off m : Nat) (dk : Array α) (os : Array Obj) : Exc (fun k => k = blk) w (sortWorldK enc k w blk off m dk os) := sort_exc id w blk off m (flatK enc k dk) os
theorem encC_len (x : Int × Int) : (encC x).length = 2 := rfl
theorem encC_one (x : Int × Int) : ∀ v ∈ encC x, v.oneCell' = true := by
  intro v hv
  simp [encC] at hv
  rcases hv with rfl | rfl <;> rfl
/-- What SortFunc leaves of a row of the call's own. -/
def SoOut (B : Nat) (v : Value) (X : List (Int × Int)) (w : World) (e : Ending) (w' : World) : Prop := e = .returned (.tuple #[]) ∧ Exc (fun k => B ≤ k) w w' ∧ ∃ a c Y, v = .slice a X.length c ∧ Y.Perm X ∧ Y.Pairwise (fun x y => ltOf cfC y x = false) ∧ CRow w' a X.length c Y ∧ (∀ z, a = some z → B ≤ z.block)
set_option maxHeartbeats 2000000 in
theorem sortC_any (B : Nat) (v : Value) (X : List (Int × Int)) (n : Nat) (w : World) (hn : X.length = n) (hX : X.length ≤ 1000000) (hown : w.ownsRow B 106 2 v n (cellsC X)) :
    Calls Tryz.prog 65 #[v, .func (.func 66) #[] #[]] w (SoOut B v X w) := by
  subst hn
  rcases hown.2 with ⟨rfl, h0⟩ | ⟨g, cap, cur, rfl, hb, hg, hle, hc, hs, ht⟩
  · have hX : X = [] := List.eq_nil_of_length_eq_zero h0
    subst hX
    have hcon := AnyF.slices_SortFunc_none laySort none 0 (.func (.func 66) #[] #[]) w
    change Calls Tryz.prog 65 _ _ _ at hcon
    refine hcon.mono ?_
    rintro e w' ⟨rfl, rfl⟩
    exact ⟨rfl, Exc.refl _ _, none, 0, [], rfl, List.Perm.refl _, List.Pairwise.nil, ⟨rfl, Nat.le_refl _, Nat.zero_le _, .inl rfl⟩, fun z hz => by cases hz⟩
  · have hcells : ∀ i, i < X.length * 2 → w.cell? ⟨g, i, none⟩ = some ((cellsC X).getD i undef) ∧ w.frozen? ⟨g, i, none⟩ = false := by
      by_cases h0 : 0 < X.length
      · obtain ⟨b, c, e, _, _, _, _, h⟩ := ownsK_cells hown h0
        cases e; exact h
      · intro i hi; omega
    have hgl : g < w.heap.size := (Array.getElem?_eq_some_iff.1 hg).1
    have hH : HoldsK encC 2 w g 0 X.toArray := fun j hj => by
      rw [size_flatK] at hj
      have hj' : j < X.length * 2 := by simpa using hj
      rw [get_flatK _ _ _ _ hj, Nat.zero_add]
      have h := hcells j hj'
      refine ⟨?_, h.2⟩
      rw [h.1]
      have hq : j / 2 < X.length := by omega
      have e1 : X.toArray[j / 2]! = X.getD (j / 2) (0, 0) := by simp [List.getD_eq_getElem?_getD, hq]
      obtain ⟨r1, r2⟩ := cellsC_getD X hq
      rw [e1]
      rcases Nat.mod_two_eq_zero_or_one j with m | m
      · rw [m, show j = j / 2 * 2 by omega, r1, show j / 2 * 2 / 2 = j / 2 by omega]; rfl
      · rw [m, show j = j / 2 * 2 + 1 by omega, r2, show (j / 2 * 2 + 1) / 2 = j / 2 by omega]; rfl
    have eg : ∀ args w, (callFunc 66 args).run Tryz.prog w = .ok (.enter 66 args) w := enters_of Tryz.func66 (by kernel_rfl) rfl
    have hcon := AnyQ.slices_SortFunc laySort 2 Tryz.isAgg106 Tryz.sizeOf106 encC encC_len encC_one cfC swoC 66 #[] g 0 cap X.toArray w eg (laysC_any g X.toArray.size w) hH hgl (by simp; omega)
    have hxs : X.toArray.size = X.length := by simp
    rw [hxs] at hcon
    change Calls Tryz.prog 65 _ _ _ at hcon
    refine hcon.mono ?_
    rintro e w' ⟨rfl, d', n, os, hp, hso, rfl⟩
    have hds : d'.size = X.length := by rw [hp.1]; simp
    have e1 : d'.extract 0 X.length = d' := by rw [← hds]; simp
    have hperm : d'.toList.Perm X := by
      have h := hp.2.2
      rw [e1] at h
      simpa using h
    refine ⟨rfl, (sortK_exc _ _ _ _ _ _ _ _).weak (fun i _ hi => by subst hi; exact hb), some ⟨g, 0, none⟩, cap, d'.toList, rfl, hperm, ?_, ⟨by simpa using hds, hle, hc, .inr ⟨g, 0, rfl, fun i hi => ?_⟩⟩, fun z hz => by cases hz; exact hb⟩
    · rw [List.pairwise_iff_getElem]
      intro i j hi hj hij
      have := hso i j (Nat.zero_le _) hij (by simp at hj; omega)
      have bi : d'[i]! = d'.toList[i] := by simp at hi; simp [hi]
      have bj : d'[j]! = d'.toList[j] := by simp at hj; simp [hj]
      rwa [bi, bj] at this
    · have hh := holdsK_sortWorldK_c encC 2 w g 0 X.toArray d' n os hH hgl (by rw [hds]; simp)
      have h0 := (HoldsK.cell hh (i := i) (c := 0) (by omega) (by decide)).1
      have h1 := (HoldsK.cell hh (i := i) (c := 1) (by omega) (by decide)).1
      have bi : d'[i]! = d'.toList.getD i (0, 0) := by simp [List.getD_eq_getElem?_getD, show i < d'.size by omega]
      rw [bi] at h0 h1
      exact ⟨h0, h1⟩
end Go.Proofs.YthlckipcgogogaaGreatDoor
