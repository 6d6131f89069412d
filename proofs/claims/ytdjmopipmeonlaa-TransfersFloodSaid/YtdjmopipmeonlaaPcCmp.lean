/- Joined: PlCs PlLayB PcCmp. -/
import Derived.Test.YtdjmopipmeonlaaPcSort
import Derived.Test.YtdjmopipmeonlaaBase
import Derived.Shelf.SlSortCmp.WholeK
import Derived.Shelf.SlSortCmp.NoneTotal
import Derived.Shelf.SlGeneric
import Derived.Test.YtdjmopipmeonlaaLbCmp
import Derived.Test.YtdjmopipmeonlaaPcCr
import Derived.StillTailTactics
/- Choices by the code's search and order: mathematics. -/
namespace Go.Proofs.Ytdjmopipmeonlaa
set_option linter.unusedVariables false

/-- The order of choices (next, rank): by rank, then by code. -/
def ltC (x y : Int × Int) : Prop := x.2 < y.2 ∨ x.2 = y.2 ∧ x.1 < y.1
/-- A neighbor c is a choice at the place own, by distances l and heights h. -/
def candO (P : List (Int × Bool)) (t : Int) (l h : List Int) (own : Nat) (c : Int) : Option (Int × Int) :=
  match fnd P c with
  | some i => if (h.getD i 0 ≠ -1 ∧ h.getD i 0 < h.getD own 0) ∧ (pt P i = true ∨ c = t) then some (c, l.getD i 0) else none
  | none => none
def candL (P : List (Int × Bool)) (t : Int) (l h : List Int) (own : Nat) (cs : List Int) : List (Int × Int) := cs.filterMap (candO P t l h own)
theorem candL_take (P : List (Int × Bool)) (t : Int) (l h : List Int) (own : Nat) (cs : List Int) (k : Nat) (hk : k < cs.length) : candL P t l h own (cs.take (k + 1)) = candL P t l h own (cs.take k) ++ (candO P t l h own (cs.getD k 0)).toList := by
  unfold candL
  rw [List.take_succ_eq_append_getElem hk, List.filterMap_append]
  simp only [List.getD_eq_getElem?_getD, List.getElem?_eq_getElem hk, Option.getD_some, List.filterMap_cons, List.filterMap_nil]
  cases candO P t l h own cs[k] <;> rfl
theorem candL_le (P : List (Int × Bool)) (t : Int) (l h : List Int) (own : Nat) (cs : List Int) : (candL P t l h own cs).length ≤ cs.length := by unfold candL; exact List.length_filterMap_le ..
/-- The choices in order, as codes and ranks. -/
def chC (p : Pn) (t : Int) (l : List Int) (own : Nat) : List (Int × Int) := (chL p.P p.L t (fun i => d99 (l.getD i 0)) own 99).map fun x => (pc p.P x.2, (x.1 : Int))
theorem chC_asc {p : Pn} (hA : Asc p.P) (t : Int) (l : List Int) (own : Nat) : (chC p t l own).Pairwise ltC := by
  unfold chC chL
  rw [List.pairwise_map, List.pairwise_flatMap]
  refine ⟨fun r _ => ?_, ?_⟩
  · rw [List.pairwise_map]
    refine List.Pairwise.imp_of_mem (fun {a b} _ hb hab => ?_) (List.Pairwise.filter _ List.pairwise_lt_range)
    have := List.mem_range.1 (List.mem_filter.1 hb).1
    exact .inr ⟨rfl, hA a b hab this⟩
  · refine List.pairwise_lt_range.imp fun {a b} hab x hx y hy => ?_
    obtain ⟨_, _, rfl⟩ := List.mem_map.1 hx
    obtain ⟨_, _, rfl⟩ := List.mem_map.1 hy
    exact .inl (by show (a : Int) < (b : Int); omega)
theorem low_iff {p : Pn} {t : Int} {l : List Int} (hD : Dist p.P p.L t (fun i => d99 (l.getD i 0))) (hn : p.P.length ≤ 64) (hlo : ∀ i, i < p.P.length → l.getD i 0 < 99) {own k : Nat} (ho : own < p.P.length) (hk : k < p.P.length) (hs : stepB p.P p.L t own k = true) :
    (htI p.P.length l k ≠ -1 ∧ htI p.P.length l k < htI p.P.length l own) ↔ (lowerB (fun i => d99 (l.getD i 0)) k own = true ∧ l.getD k 0 ≠ -1) := by
  have n9 : ∀ i, l.getD i 0 ≠ -1 → d99 (l.getD i 0) = l.getD i 0 := fun i e => by unfold d99; rw [if_neg e]
  have y9 : ∀ i, l.getD i 0 = -1 → d99 (l.getD i 0) = 99 := fun i e => by unfold d99; rw [if_pos e]
  have hpos : ∀ i, l.getD i 0 ≠ -1 → htI p.P.length l i = (htN p.P.length (fun k => d99 (l.getD k 0)) i : Int) := fun i e => by unfold htI; rw [if_neg e]
  have hneg : ∀ i, l.getD i 0 = -1 → htI p.P.length l i = -1 := fun i e => by unfold htI; rw [if_pos e]
  have hstep := hD.step (by omega) ho hk hs
  by_cases ek : l.getD k 0 = -1
  · constructor
    · rintro ⟨h1, _⟩; exact absurd (hneg k ek) h1
    · rintro ⟨_, h2⟩; exact absurd ek h2
  · by_cases e : l.getD own 0 = -1
    · constructor
      · rintro ⟨h1, h2⟩
        rw [hneg own e, hpos k ek] at h2; omega
      · rintro ⟨_, _⟩
        have h3 := hlo k hk
        rw [n9 k ek, y9 own e] at hstep
        have := (hstep (by omega)).1; omega
    · rw [hpos k ek, hpos own e]
      have h3 := htN_lt_iff (n := p.P.length) (D := fun i => d99 (l.getD i 0)) hk ho
      constructor
      · rintro ⟨_, h2⟩; exact ⟨h3.1 (by omega), ek⟩
      · rintro ⟨h1, _⟩
        have := h3.2 h1
        exact ⟨by omega, by omega⟩
theorem mem_candL {p : Pn} (hv : ValidPl p) (hA : Asc p.P) {t : Int} {l h : List Int} (hD : Dist p.P p.L t (fun i => d99 (l.getD i 0))) (hlo : ∀ i, i < p.P.length → l.getD i 0 < 99) (hh : ∀ i, i < p.P.length → h.getD i 0 = htI p.P.length l i)
    {own : Nat} (ho : own < p.P.length) {x : Int × Int} : x ∈ candL p.P t l h own (nbrs p (pc p.P own)) ↔ x ∈ chC p t l own := by
  have hn := hv.np
  have e9 : ∀ i, i < p.P.length → l.getD i 0 ≠ -1 → d99 (l.getD i 0) = l.getD i 0 := fun i _ e => by unfold d99; rw [if_neg e]
  unfold candL chC
  rw [List.mem_filterMap, List.mem_map]
  constructor
  · rintro ⟨c, hc, hx⟩
    obtain ⟨i, hi, e, hf⟩ := nbrs_place hv hc
    have hnear := (mem_nbrs hv).1 hc
    unfold candO at hx
    rw [hf] at hx
    simp only at hx
    split at hx
    · rename_i hcond
      simp only [Option.some.injEq] at hx
      subst hx
      obtain ⟨⟨c1, c2⟩, c3⟩ := hcond
      have hst : stepB p.P p.L t own i = true := by
        unfold stepB
        rw [e]
        simp only [Bool.and_eq_true, Bool.or_eq_true, decide_eq_true_eq]
        exact ⟨hnear, c3⟩
      rw [hh i hi] at c1 c2
      rw [hh own ho] at c2
      obtain ⟨q1, q2⟩ := (low_iff hD hn hlo ho hi hst).1 ⟨c1, c2⟩
      have q3 := e9 i hi q2
      have q4 := hD.nonneg hi
      have q5 := hlo i hi
      simp only [q3] at q4
      refine ⟨((l.getD i 0).toNat, i), mem_chL.2 ⟨by show (l.getD i 0).toNat < 99; omega, hi, ?_⟩, ?_⟩
      · simp only [isCh, Bool.and_eq_true, decide_eq_true_eq]
        exact ⟨⟨by rw [q3]; omega, q1⟩, hst⟩
      · show (pc p.P i, (((l.getD i 0).toNat : Nat) : Int)) = (c, l.getD i 0)
        rw [e, Int.toNat_of_nonneg q4]
    · cases hx
  · rintro ⟨⟨r, i⟩, hm, rfl⟩
    obtain ⟨h1, h2, h3⟩ := mem_chL.1 hm
    simp only at h1 h2 h3 ⊢
    simp only [isCh, Bool.and_eq_true, decide_eq_true_eq] at h3
    obtain ⟨⟨h4, h5⟩, h6⟩ := h3
    have hne : l.getD i 0 ≠ -1 := fun q => by unfold d99 at h4; rw [if_pos q] at h4; omega
    obtain ⟨q1, q2⟩ := (low_iff hD hn hlo ho h2 h6).2 ⟨h5, hne⟩
    unfold stepB at h6
    simp only [Bool.and_eq_true, Bool.or_eq_true, decide_eq_true_eq] at h6
    refine ⟨pc p.P i, (mem_nbrs hv).2 h6.1, ?_⟩
    unfold candO
    rw [hA.fnd h2]
    simp only
    rw [if_pos ⟨⟨by rw [hh i h2]; exact q1, by rw [hh i h2, hh own ho]; exact q2⟩, h6.2⟩]
    rw [← h4, e9 i h2 hne]
theorem cand_eq {p : Pn} (hv : ValidPl p) (hA : Asc p.P) {t : Int} {l h : List Int} (hD : Dist p.P p.L t (fun i => d99 (l.getD i 0))) (hlo : ∀ i, i < p.P.length → l.getD i 0 < 99) (hh : ∀ i, i < p.P.length → h.getD i 0 = htI p.P.length l i)
    {own : Nat} (ho : own < p.P.length) {X : List (Int × Int)} (hp : X.Perm (candL p.P t l h own (nbrs p (pc p.P own)))) (hs : X.Pairwise ltC) : X = chC p t l own :=
  sorted_ext (r := ltC) (fun x y a b => by unfold ltC at a b; omega) hs (chC_asc hA t l own) fun x => by rw [hp.mem_iff]; exact mem_candL hv hA hD hlo hh ho
end Go.Proofs.Ytdjmopipmeonlaa
/- The library's SortFunc of choices, as this program bears it (the shelf's laying, in plain words). -/
namespace Go.Proofs.Ytdjmopipmeonlaa
set_option linter.unusedVariables false
open Go.Shelf
def laySort_ren : Go.Shelf.Ren := ⟨fun | 6 => 49 | 15 => 67 | 14 => 66 | 28 => 86 | 29 => 87 | 20 => 78 | 21 => 79 | 22 => 80 | 23 => 81 | 24 => 82 | 25 => 83 | 26 => 84 | 27 => 85 | 46 => 94 | 47 => 95 | 48 => 96 | 49 => 97 | 50 => 98 | 57 => 101 | n => n, fun | 22 => 61 | 24 => 114 | 25 => 134 | 3 => 3 | 39 => 146 | 0 => 0 | 53 => 164 | 55 => 166 | 4 => 4 | 46 => 158 | 45 => 157 | 50 => 93 | 5 => 5 | 9 => 9 | 66 => 175 | 70 => 179 | 76 => 182 | 77 => 183 | n => n, fun n => n⟩
theorem laySort : Go.Proofs.SlLaysF0.n6 Try.prog laySort_ren := {
  mixed := by kernel_rfl
  f6 := ⟨Try.f49.name, by decide, Try.func49.trans (congrArg some (by kernel_rfl))⟩
  f14 := ⟨Try.f66.name, by decide, Try.func66.trans (congrArg some (by kernel_rfl))⟩
  f15 := Try.func67.trans (congrArg some (by kernel_rfl))
  f20 := ⟨Try.f78.name, by decide, Try.func78.trans (congrArg some (by kernel_rfl))⟩
  f21 := ⟨Try.f79.name, by decide, Try.func79.trans (congrArg some (by kernel_rfl))⟩
  f22 := ⟨Try.f80.name, by decide, Try.func80.trans (congrArg some (by kernel_rfl))⟩
  f23 := ⟨Try.f81.name, by decide, Try.func81.trans (congrArg some (by kernel_rfl))⟩
  f24 := ⟨Try.f82.name, by decide, Try.func82.trans (congrArg some (by kernel_rfl))⟩
  f25 := ⟨Try.f83.name, by decide, Try.func83.trans (congrArg some (by kernel_rfl))⟩
  f26 := ⟨Try.f84.name, by decide, Try.func84.trans (congrArg some (by kernel_rfl))⟩
  f27 := ⟨Try.f85.name, by decide, Try.func85.trans (congrArg some (by kernel_rfl))⟩
  f28 := Try.func86.trans (congrArg some (by kernel_rfl))
  f29 := Try.func87.trans (congrArg some (by kernel_rfl))
  f46 := ⟨Try.f94.name, by decide, Try.func94.trans (congrArg some (by kernel_rfl))⟩
  f47 := Try.func95.trans (congrArg some (by kernel_rfl))
  f48 := Try.func96.trans (congrArg some (by kernel_rfl))
  f49 := ⟨Try.f97.name, by decide, Try.func97.trans (congrArg some (by kernel_rfl))⟩
  f50 := ⟨Try.f98.name, by decide, Try.func98.trans (congrArg some (by kernel_rfl))⟩
  f57 := ⟨Try.f101.name, by decide, Try.func101.trans (congrArg some (by kernel_rfl))⟩
  t0 := Try.underlying0
  a0 := Try.isAgg0
  z0 := Try.sizeOf0
  v0 := Try.zeroValue0
  t3 := Try.underlying3
  a3 := Try.isAgg3
  z3 := Try.sizeOf3
  v3 := Try.zeroValue3
  t4 := Try.underlying4
  a4 := Try.isAgg4
  z4 := Try.sizeOf4
  v4 := Try.zeroValue4
  t5 := Try.underlying5
  a5 := Try.isAgg5
  z5 := Try.sizeOf5
  v5 := Try.zeroValue5
  t9 := Try.underlying9
  a9 := Try.isAgg9
  z9 := Try.sizeOf9
  v9 := Try.zeroValue9
  t22 := Try.underlying61
  a22 := Try.isAgg61
  z22 := Try.sizeOf61
  v22 := Try.zeroValue61
  t25 := Try.underlying134
  a25 := Try.isAgg134
  z25 := Try.sizeOf134
  v25 := Try.zeroValue134
  t39 := Try.underlying146
  a39 := Try.isAgg146
  z39 := Try.sizeOf146
  v39 := Try.zeroValue146
  t45 := Try.underlying157
  a45 := Try.isAgg157
  z45 := Try.sizeOf157
  v45 := Try.zeroValue157
  t46 := Try.underlying158
  a46 := Try.isAgg158
  z46 := Try.sizeOf158
  v46 := Try.zeroValue158
  t50 := Try.underlying93
  a50 := Try.isAgg93
  z50 := Try.sizeOf93
  v50 := Try.zeroValue93
  t53 := Try.underlying164
  a53 := Try.isAgg164
  z53 := Try.sizeOf164
  v53 := Try.zeroValue164
  t55 := Try.underlying166
  a55 := Try.isAgg166
  z55 := Try.sizeOf166
  v55 := Try.zeroValue166
  t66 := Try.underlying175
  a66 := Try.isAgg175
  z66 := Try.sizeOf175
  v66 := Try.zeroValue175
  t70 := Try.underlying179
  a70 := Try.isAgg179
  z70 := Try.sizeOf179
  v70 := Try.zeroValue179
  t76 := Try.underlying182
  a76 := Try.isAgg182
  z76 := Try.sizeOf182
  v76 := Try.zeroValue182
  t77 := Try.underlying183
  a77 := Try.isAgg183
  z77 := Try.sizeOf183
  v77 := Try.zeroValue183 }
end Go.Proofs.Ytdjmopipmeonlaa
/- The order of choices: the closure, the library's sort. -/
namespace Go.Proofs.Ytdjmopipmeonlaa
set_option linter.unusedVariables false
open Go.RowKit Go.Sort Go.Lib

def or2L (x y : Int) : Int := if x ≠ 0 then x else y
theorem or2_any (g : Nat) (x y : Int) (w : World) (h : Own w g 3 [.int .i64 x, .int .i64 y]) :
    Calls Try.prog 51 #[.slice (some ⟨g, 0, none⟩) 2 2] w fun e w' => e = .returned (.int .i64 (or2L x y)) ∧ w = w' := by
  have c0 := h.cell 0 (by simp)
  have c1 := h.cell 1 (by simp)
  simp at c0 c1
  clear h
  go_enter Try.func51, Try.ntmps51
  go_wp2
  go_loop [8] (fun i => i = .int .i64 0 ∨ (i = .int .i64 1 ∧ x = 0) ∨ (i = .int .i64 2 ∧ x = 0 ∧ y = 0)) (fun i => 2 - (intOf i).toNat)
  case atStart => exact .inl rfl
  case round =>
    rcases hrel with rfl | ⟨rfl, rfl⟩ | ⟨rfl, rfl, rfl⟩
    · by_cases hx : x = 0
      · subst hx
        go_wp2
        go_round
        case rel => simp
        case measure => simp [intOf]
      · have hb : (x != 0) = true := by simpa using hx
        have HE := Lib.hid (show or2L x y = x from by simp [or2L, hx])
        go_wp2
        go_ret
        exact ⟨ret_int HE.out.symm, rfl⟩
    · by_cases hx : y = 0
      · subst hx
        go_wp2
        go_round
        case rel => simp
        case measure => simp [intOf]
      · have hb : (y != 0) = true := by simpa using hx
        have HE := Lib.hid (show or2L 0 y = y from by simp [or2L])
        go_wp2
        go_ret
        exact ⟨ret_int HE.out.symm, rfl⟩
    · go_wp2
      go_ret
      exact ⟨rfl, rfl⟩
/-- The order of choices (next, rank). -/
def cfC (x y : Int × Int) : Int := or2L (cmpL x.2 y.2) (cmpL x.1 y.1)
theorem ltOf_cfC (x y : Int × Int) : ltOf cfC x y = true ↔ ltC x y := by
  unfold ltOf cfC or2L ltC
  rcases cmpL_cases x.2 y.2 with ⟨e, h⟩ | ⟨e, h⟩ | ⟨e, h⟩ <;> rw [e]
  · simp; omega
  · simp; omega
  · rcases cmpL_cases x.1 y.1 with ⟨e2, h2⟩ | ⟨e2, h2⟩ | ⟨e2, h2⟩ <;> rw [e2] <;> simp <;> omega
theorem swoC : SWO (ltOf cfC) := by
  have hf : ∀ x y, ltOf cfC x y = false ↔ ¬ ltC x y := fun x y => by rw [← ltOf_cfC, Bool.not_eq_true]
  constructor
  · intro x; rw [hf]; unfold ltC; omega
  · intro x y z h g; rw [ltOf_cfC] at *; unfold ltC at *; omega
  · intro x y z h g; rw [hf] at *; unfold ltC at *; omega
theorem grow_three (W : World) (a b c : Obj) : (((W.alloc a).alloc b).drew).alloc c = grow (W.drewN 1) #[a, b, c] := by
  unfold World.alloc World.drew World.drewN grow
  simp only [World.mk.injEq, and_true]
  apply Array.ext'
  simp
set_option maxRecDepth 100000 in
set_option maxHeartbeats 1000000 in
theorem closureC_any (x y : Int × Int) (w : World) :
    Calls Try.prog 50 #[.agg (encC x).toArray, .agg (encC y).toArray] w fun e w' => e = .returned (.int .i64 (cfC x y)) ∧ ∃ q os, w' = grow (w.drewN q) os := by
  unfold encC cfC
  obtain ⟨a1, a2⟩ := x
  obtain ⟨b1, b2⟩ := y
  simp only
  have H1 := Lib.hid (fun W => cmpI_any a2 b2 W)
  have H2 := Lib.hid (fun W => show Calls Try.prog 53 #[.int .u16 a1, .int .u16 b1] W fun e w' => e = .returned (.int .i64 (cmpL a1 b1)) ∧ w' = W from (cmp16_any a1 b1 W).mono fun _ _ h => ⟨h.1, h.2.symm⟩)
  have HO := Lib.hid (fun g W => or2_any g (cmpL a2 b2) (cmpL a1 b1) W)
  generalize cmpL a2 b2 = u at H1 HO ⊢
  generalize cmpL a1 b1 = v at H2 HO ⊢
  go_enter Try.func50, Try.ntmps50
  go_wp2_with fail
  have c0 := (own_lit w 114 #[.int .u16 a1, .int .i64 a2] _ rfl).below (below_alloc _ (.cells #[.int .u16 b1, .int .i64 b2] 114)) (by simp)
  have d0 := own_lit (w.alloc (.cells #[.int .u16 a1, .int .i64 a2] 114)) 114 #[.int .u16 b1, .int .i64 b2] _ rfl
  rw [World.size_alloc] at d0
  obtain ⟨W, hW⟩ : ∃ W, W = (w.alloc (.cells #[.int .u16 a1, .int .i64 a2] 114)).alloc (.cells #[.int .u16 b1, .int .i64 b2] 114) := ⟨_, rfl⟩
  have c00 : W.cell? ⟨w.heap.size, 0, none⟩ = some (.int .u16 a1) := by rw [hW]; exact c0.cell 0 (by simp)
  have c01 : W.cell? ⟨w.heap.size, 1, none⟩ = some (.int .i64 a2) := by rw [hW]; exact c0.cell 1 (by simp)
  have d00 : W.cell? ⟨w.heap.size + 1, 0, none⟩ = some (.int .u16 b1) := by rw [hW]; exact d0.cell 0 (by simp)
  have d01 : W.cell? ⟨w.heap.size + 1, 1, none⟩ = some (.int .i64 b2) := by rw [hW]; exact d0.cell 1 (by simp)
  clear c0 d0
  rw [← hW]
  have HW := Lib.hid hW
  clear hW
  go_still_tail 10, (by kernel_rfl)
  repeat still_step
  still_call (H1.out _)
  repeat still_step
  still_call (H2.out _)
  repeat still_step
  refine wpStill_nil ?_
  change wpList _ _ _ _ _ W.drew
  go_wp2_with fail
  refine (HO.out _ _ (own_lit W.drew 3 _ _ rfl)).mono ?_
  rintro e w' ⟨rfl, rfl⟩
  clear c00 c01 d00 d01
  go_wp2
  go_ret
  exact ⟨rfl, 1, _, by rw [HW.out]; exact grow_three _ _ _ _⟩
theorem laysC_any (blk size : Nat) (w : World) : CmpLays Try.prog 50 #[] encC 2 cfC blk 0 size w := fun _ _ _ _ x y => closureC_any x y _
theorem sortK_exc {α : Type} [Inhabited α] (enc : α → List Value) (k : Nat) (w : World) (blk off m : Nat) (dk : Array α) (os : Array Obj) : Exc (fun k => k = blk) w (sortWorldK enc k w blk off m dk os) := sort_exc id w blk off m (flatK enc k dk) os
theorem encC_len (x : Int × Int) : (encC x).length = 2 := rfl
theorem encC_one (x : Int × Int) : ∀ v ∈ encC x, v.oneCell' = true := by
  intro v hv
  simp [encC] at hv
  rcases hv with rfl | rfl <;> rfl
/-- What SortFunc leaves of a row of the call's own. -/
def SoOut (B : Nat) (v : Value) (X : List (Int × Int)) (w : World) (e : Ending) (w' : World) : Prop := e = .returned (.tuple #[]) ∧ Exc (fun k => B ≤ k) w w' ∧ ∃ a c Y, v = .slice a X.length c ∧ Y.Perm X ∧ Y.Pairwise (fun x y => ltOf cfC y x = false) ∧ CRow w' a X.length c Y ∧ (∀ z, a = some z → B ≤ z.block)
set_option maxHeartbeats 2000000 in
theorem sortC_any (B : Nat) (v : Value) (X : List (Int × Int)) (n : Nat) (w : World) (hn : X.length = n) (hX : X.length ≤ 1000000) (hown : w.ownsRow B 114 2 v n (cellsC X)) :
    Calls Try.prog 49 #[v, .func (.func 50) #[] #[]] w (SoOut B v X w) := by
  subst hn
  rcases hown.2 with ⟨rfl, h0⟩ | ⟨g, cap, cur, rfl, hb, hg, hle, hc, hs, ht⟩
  · have hX : X = [] := List.eq_nil_of_length_eq_zero h0
    subst hX
    have hcon := AnyF.slices_SortFunc_none laySort none 0 (.func (.func 50) #[] #[]) w
    change Calls Try.prog 49 _ _ _ at hcon
    refine hcon.mono ?_
    rintro e w' ⟨rfl, rfl⟩
    exact ⟨rfl, Exc.refl _ _, none, 0, [], rfl, List.Perm.refl _, List.Pairwise.nil, ⟨rfl, Nat.le_refl _, Nat.zero_le _, .inl rfl⟩, fun z hz => by cases hz⟩
  · have hcells : ∀ i, i < X.length * 2 → w.cell? ⟨g, i, none⟩ = some ((cellsC X).getD i undef) ∧ w.frozen? ⟨g, i, none⟩ = false := by
      by_cases h0 : 0 < X.length
      · obtain ⟨b, c, e, _, _, _, _, h⟩ := ownsK_cells hown h0
        cases e; exact h
      · intro i hi; omega
    have hgl : g < w.heap.size := (Array.getElem?_eq_some_iff.1 hg).1
    have hH : HoldsK encC 2 w g 0 X.toArray := fun j hj => by
      rw [size_flatK] at hj
      have hj' : j < X.length * 2 := by simpa using hj
      rw [get_flatK _ _ _ _ hj, Nat.zero_add]
      have h := hcells j hj'
      refine ⟨?_, h.2⟩
      rw [h.1]
      have hq : j / 2 < X.length := by omega
      have e1 : X.toArray[j / 2]! = X.getD (j / 2) (0, 0) := by simp [List.getD_eq_getElem?_getD, hq]
      obtain ⟨r1, r2⟩ := cellsC_getD X hq
      rw [e1]
      rcases Nat.mod_two_eq_zero_or_one j with m | m
      · rw [m, show j = j / 2 * 2 by omega, r1, show j / 2 * 2 / 2 = j / 2 by omega]; rfl
      · rw [m, show j = j / 2 * 2 + 1 by omega, r2, show (j / 2 * 2 + 1) / 2 = j / 2 by omega]; rfl
    have eg : ∀ args w, (callFunc 50 args).run Try.prog w = .ok (.enter 50 args) w := enters_of Try.func50 (by kernel_rfl) rfl
    have hcon := AnyQ.slices_SortFunc laySort 2 Try.isAgg114 Try.sizeOf114 encC encC_len encC_one cfC swoC 50 #[] g 0 cap X.toArray w eg (laysC_any g X.toArray.size w) hH hgl (by simp; omega)
    have hxs : X.toArray.size = X.length := by simp
    rw [hxs] at hcon
    change Calls Try.prog 49 _ _ _ at hcon
    refine hcon.mono ?_
    rintro e w' ⟨rfl, d', n, os, hp, hso, rfl⟩
    have hds : d'.size = X.length := by rw [hp.1]; simp
    have e1 : d'.extract 0 X.length = d' := by rw [← hds]; simp
    have hperm : d'.toList.Perm X := by
      have h := hp.2.2
      rw [e1] at h
      simpa using h
    refine ⟨rfl, (sortK_exc _ _ _ _ _ _ _ _).weak (fun i _ hi => by subst hi; exact hb), some ⟨g, 0, none⟩, cap, d'.toList, rfl, hperm, ?_, ⟨by simpa using hds, hle, hc, .inr ⟨g, 0, rfl, fun i hi => ?_⟩⟩, fun z hz => by cases hz; exact hb⟩
    · rw [List.pairwise_iff_getElem]
      intro i j hi hj hij
      have := hso i j (Nat.zero_le _) hij (by simp at hj; omega)
      have bi : d'[i]! = d'.toList[i] := by simp at hi; simp [hi]
      have bj : d'[j]! = d'.toList[j] := by simp at hj; simp [hj]
      rwa [bi, bj] at this
    · have hh := holdsK_sortWorldK_c encC 2 w g 0 X.toArray d' n os hH hgl (by rw [hds]; simp)
      have h0 := (HoldsK.cell hh (i := i) (c := 0) (by omega) (by decide)).1
      have h1 := (HoldsK.cell hh (i := i) (c := 1) (by omega) (by decide)).1
      have bi : d'[i]! = d'.toList.getD i (0, 0) := by simp [List.getD_eq_getElem?_getD, show i < d'.size by omega]
      rw [bi] at h0 h1
      exact ⟨h0, h1⟩
end Go.Proofs.Ytdjmopipmeonlaa
