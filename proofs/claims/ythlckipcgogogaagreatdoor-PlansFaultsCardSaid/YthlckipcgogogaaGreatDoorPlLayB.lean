/- Joined: PlCs PlLayB. -/
import Derived.Test.YthlckipcgogogaaGreatDoorPcSort
import Derived.Test.YthlckipcgogogaaGreatDoorBase
import Derived.Shelf.SlSortCmp.WholeK
import Derived.Shelf.SlSortCmp.NoneTotal
import Derived.Shelf.SlGeneric
/- Choices by the code's search and order: mathematics. -/
namespace Go.Proofs.YthlckipcgogogaaGreatDoor
set_option linter.unusedVariables false

/-- The order of choices (next, rank): by rank, then by code. -/
def ltC (x y : Int × Int) : Prop := x.2 < y.2 ∨ x.2 = y.2 ∧ x.1 < y.1
/-- A neighbor c is a choice at the place own, by distances l and heights h. -/
def candO (P : List (Int × Bool)) (t : Int) (l h : List Int) (own : Nat) (c : Int) : Option (Int × Int) :=
  match fnd P c with
  | some i => if (h.getD i 0 ≠ -1 ∧ h.getD i 0 < h.getD own 0) ∧ (pt P i = true ∨ c = t) then some (c, l.getD i 0) else none
  | none => none
def candL (P : List (Int × Bool)) (t : Int) (l h : List Int) (own : Nat) (cs : List Int) : List (Int × Int) := cs.filterMap (candO P t l h own)
theorem candL_take (P : List (Int × Bool)) (t : Int) (l h : List Int) (own : Nat) (cs : List Int) (k : Nat) (hk : k < cs.length) : candL P t l h own (cs.take (k + 1)) = candL P t l h own (cs.take k) ++ (candO P t l h own (cs.getD k 0)).toList := by
  unfold candL
  rw [List.take_succ_eq_append_getElem hk, List.filterMap_append]
  simp only [List.getD_eq_getElem?_getD, List.getElem?_eq_getElem hk, Option.getD_some, List.filterMap_cons, List.filterMap_nil]
  cases candO P t l h own cs[k] <;> rfl
theorem candL_le (P : List (Int × Bool)) (t : Int) (l h : List Int) (own : Nat) (cs : List Int) : (candL P t l h own cs).length ≤ cs.length := by unfold candL; exact List.length_filterMap_le ..
/-- The choices in order, as codes and ranks. -/
def chC (p : Pn) (t : Int) (l : List Int) (own : Nat) : List (Int × Int) := (chL p.P p.L t (fun i => d99 (l.getD i 0)) own 99).map fun x => (pc p.P x.2, (x.1 : Int))
theorem chC_asc {p : Pn} (hA : Asc p.P) (t : Int) (l : List Int) (own : Nat) : (chC p t l own).Pairwise ltC := by
  unfold chC chL
  rw [List.pairwise_map, List.pairwise_flatMap]
  refine ⟨fun r _ => ?_, ?_⟩
  · rw [List.pairwise_map]
    refine List.Pairwise.imp_of_mem (fun {a b} _ hb hab => ?_) (List.Pairwise.filter _ List.pairwise_lt_range)
    have := List.mem_range.1 (List.mem_filter.1 hb).1
    exact .inr ⟨rfl, hA a b hab this⟩
  · refine List.pairwise_lt_range.imp fun {a b} hab x hx y hy => ?_
    obtain ⟨_, _, rfl⟩ := List.mem_map.1 hx
    obtain ⟨_, _, rfl⟩ := List.mem_map.1 hy
    exact .inl (by show (a : Int) < (b : Int); omega)
theorem low_iff {p : Pn} {t : Int} {l : List Int} (hD : Dist p.P p.L t (fun i => d99 (l.getD i 0))) (hn : p.P.length ≤ 64) (hlo : ∀ i, i < p.P.length → l.getD i 0 < 99) {own k : Nat} (ho : own < p.P.length) (hk : k < p.P.length) (hs : stepB p.P p.L t own k = true) :
    (htI p.P.length l k ≠ -1 ∧ htI p.P.length l k < htI p.P.length l own) ↔ (lowerB (fun i => d99 (l.getD i 0)) k own = true ∧ l.getD k 0 ≠ -1) := by
  have n9 : ∀ i, l.getD i 0 ≠ -1 → d99 (l.getD i 0) = l.getD i 0 := fun i e => by unfold d99; rw [if_neg e]
  have y9 : ∀ i, l.getD i 0 = -1 → d99 (l.getD i 0) = 99 := fun i e => by unfold d99; rw [if_pos e]
  have hpos : ∀ i, l.getD i 0 ≠ -1 → htI p.P.length l i = (htN p.P.length (fun k => d99 (l.getD k 0)) i : Int) := fun i e => by unfold htI; rw [if_neg e]
  have hneg : ∀ i, l.getD i 0 = -1 → htI p.P.length l i = -1 := fun i e => by unfold htI; rw [if_pos e]
  have hstep := hD.step (by omega) ho hk hs
  by_cases ek : l.getD k 0 = -1
  · constructor
    · rintro ⟨h1, _⟩; exact absurd (hneg k ek) h1
    · rintro ⟨_, h2⟩; exact absurd ek h2
  · by_cases e : l.getD own 0 = -1
    · constructor
      · rintro ⟨h1, h2⟩
        rw [hneg own e, hpos k ek] at h2; omega
      · rintro ⟨_, _⟩
        have h3 := hlo k hk
        rw [n9 k ek, y9 own e] at hstep
        have := (hstep (by omega)).1; omega
    · rw [hpos k ek, hpos own e]
      have h3 := htN_lt_iff (n := p.P.length) (D := fun i => d99 (l.getD i 0)) hk ho
      constructor
      · rintro ⟨_, h2⟩; exact ⟨h3.1 (by omega), ek⟩
      · rintro ⟨h1, _⟩
        have := h3.2 h1
        exact ⟨by omega, by omega⟩
theorem mem_candL {p : Pn} (hv : ValidPl p) (hA : Asc p.P) {t : Int} {l h : List Int} (hD : Dist p.P p.L t (fun i => d99 (l.getD i 0))) (hlo : ∀ i, i < p.P.length → l.getD i 0 < 99) (hh : ∀ i, i < p.P.length → h.getD i 0 = htI p.P.length l i)
    {own : Nat} (ho : own < p.P.length) {x : Int × Int} : x ∈ candL p.P t l h own (nbrs p (pc p.P own)) ↔ x ∈ chC p t l own := by
  have hn := hv.np
  have e9 : ∀ i, i < p.P.length → l.getD i 0 ≠ -1 → d99 (l.getD i 0) = l.getD i 0 := fun i _ e => by unfold d99; rw [if_neg e]
  unfold candL chC
  rw [List.mem_filterMap, List.mem_map]
  constructor
  · rintro ⟨c, hc, hx⟩
    obtain ⟨i, hi, e, hf⟩ := nbrs_place hv hc
    have hnear := (mem_nbrs hv).1 hc
    unfold candO at hx
    rw [hf] at hx
    simp only at hx
    split at hx
    · rename_i hcond
      simp only [Option.some.injEq] at hx
      subst hx
      obtain ⟨⟨c1, c2⟩, c3⟩ := hcond
      have hst : stepB p.P p.L t own i = true := by
        unfold stepB
        rw [e]
        simp only [Bool.and_eq_true, Bool.or_eq_true, decide_eq_true_eq]
        exact ⟨hnear, c3⟩
      rw [hh i hi] at c1 c2
      rw [hh own ho] at c2
      obtain ⟨q1, q2⟩ := (low_iff hD hn hlo ho hi hst).1 ⟨c1, c2⟩
      have q3 := e9 i hi q2
      have q4 := hD.nonneg hi
      have q5 := hlo i hi
      simp only [q3] at q4
      refine ⟨((l.getD i 0).toNat, i), mem_chL.2 ⟨by show (l.getD i 0).toNat < 99; omega, hi, ?_⟩, ?_⟩
      · simp only [isCh, Bool.and_eq_true, decide_eq_true_eq]
        exact ⟨⟨by rw [q3]; omega, q1⟩, hst⟩
      · show (pc p.P i, (((l.getD i 0).toNat : Nat) : Int)) = (c, l.getD i 0)
        rw [e, Int.toNat_of_nonneg q4]
    · cases hx
  · rintro ⟨⟨r, i⟩, hm, rfl⟩
    obtain ⟨h1, h2, h3⟩ := mem_chL.1 hm
    simp only at h1 h2 h3 ⊢
    simp only [isCh, Bool.and_eq_true, decide_eq_true_eq] at h3
    obtain ⟨⟨h4, h5⟩, h6⟩ := h3
    have hne : l.getD i 0 ≠ -1 := fun q => by unfold d99 at h4; rw [if_pos q] at h4; omega
    obtain ⟨q1, q2⟩ := (low_iff hD hn hlo ho h2 h6).2 ⟨h5, hne⟩
    unfold stepB at h6
    simp only [Bool.and_eq_true, Bool.or_eq_true, decide_eq_true_eq] at h6
    refine ⟨pc p.P i, (mem_nbrs hv).2 h6.1, ?_⟩
    unfold candO
    rw [hA.fnd h2]
    simp only
    rw [if_pos ⟨⟨by rw [hh i h2]; exact q1, by rw [hh i h2, hh own ho]; exact q2⟩, h6.2⟩]
    rw [← h4, e9 i h2 hne]
theorem cand_eq {p : Pn} (hv : ValidPl p) (hA : Asc p.P) {t : Int} {l h : List Int} (hD : Dist p.P p.L t (fun i => d99 (l.getD i 0))) (hlo : ∀ i, i < p.P.length → l.getD i 0 < 99) (hh : ∀ i, i < p.P.length → h.getD i 0 = htI p.P.length l i)
    {own : Nat} (ho : own < p.P.length) {X : List (Int × Int)} (hp : X.Perm (candL p.P t l h own (nbrs p (pc p.P own)))) (hs : X.Pairwise ltC) : X = chC p t l own :=
  sorted_ext (r := ltC) (fun x y a b => by unfold ltC at a b; omega) hs (chC_asc hA t l own) fun x => by rw [hp.mem_iff]; exact mem_candL hv hA hD hlo hh ho
end Go.Proofs.YthlckipcgogogaaGreatDoor
/- The library's SortFunc of choices, as this program bears it (the shelf's laying, in plain words). -/
namespace Go.Proofs.YthlckipcgogogaaGreatDoor
set_option linter.unusedVariables false
open Go.Shelf
def laySort_ren : Go.Shelf.Ren := ⟨fun | 6 => 65 | 15 => 96 | 14 => 95 | 28 => 121 | 29 => 122 | 20 => 113 | 21 => 114 | 22 => 115 | 23 => 116 | 24 => 117 | 25 => 118 | 26 => 119 | 27 => 120 | 46 => 136 | 47 => 137 | 48 => 138 | 49 => 139 | 50 => 140 | 57 => 148 | n => n, fun | 22 => 66 | 24 => 106 | 25 => 128 | 3 => 3 | 39 => 130 | 0 => 0 | 53 => 177 | 55 => 179 | 4 => 4 | 46 => 171 | 45 => 170 | 50 => 122 | 5 => 5 | 9 => 9 | 66 => 195 | 70 => 135 | 76 => 206 | 77 => 207 | n => n, fun n => n⟩
theorem laySort : Go.Proofs.SlLaysF0.n6 Tryz.prog laySort_ren := {
  mixed := by kernel_rfl
  f6 := ⟨Tryz.f65.name, by decide, Tryz.func65.trans (congrArg some (by kernel_rfl))⟩
  f14 := ⟨Tryz.f95.name, by decide, Tryz.func95.trans (congrArg some (by kernel_rfl))⟩
  f15 := Tryz.func96.trans (congrArg some (by kernel_rfl))
  f20 := ⟨Tryz.f113.name, by decide, Tryz.func113.trans (congrArg some (by kernel_rfl))⟩
  f21 := ⟨Tryz.f114.name, by decide, Tryz.func114.trans (congrArg some (by kernel_rfl))⟩
  f22 := ⟨Tryz.f115.name, by decide, Tryz.func115.trans (congrArg some (by kernel_rfl))⟩
  f23 := ⟨Tryz.f116.name, by decide, Tryz.func116.trans (congrArg some (by kernel_rfl))⟩
  f24 := ⟨Tryz.f117.name, by decide, Tryz.func117.trans (congrArg some (by kernel_rfl))⟩
  f25 := ⟨Tryz.f118.name, by decide, Tryz.func118.trans (congrArg some (by kernel_rfl))⟩
  f26 := ⟨Tryz.f119.name, by decide, Tryz.func119.trans (congrArg some (by kernel_rfl))⟩
  f27 := ⟨Tryz.f120.name, by decide, Tryz.func120.trans (congrArg some (by kernel_rfl))⟩
  f28 := Tryz.func121.trans (congrArg some (by kernel_rfl))
  f29 := Tryz.func122.trans (congrArg some (by kernel_rfl))
  f46 := ⟨Tryz.f136.name, by decide, Tryz.func136.trans (congrArg some (by kernel_rfl))⟩
  f47 := Tryz.func137.trans (congrArg some (by kernel_rfl))
  f48 := Tryz.func138.trans (congrArg some (by kernel_rfl))
  f49 := ⟨Tryz.f139.name, by decide, Tryz.func139.trans (congrArg some (by kernel_rfl))⟩
  f50 := ⟨Tryz.f140.name, by decide, Tryz.func140.trans (congrArg some (by kernel_rfl))⟩
  f57 := ⟨Tryz.f148.name, by decide, Tryz.func148.trans (congrArg some (by kernel_rfl))⟩
  t0 := Tryz.underlying0
  a0 := Tryz.isAgg0
  z0 := Tryz.sizeOf0
  v0 := Tryz.zeroValue0
  t3 := Tryz.underlying3
  a3 := Tryz.isAgg3
  z3 := Tryz.sizeOf3
  v3 := Tryz.zeroValue3
  t4 := Tryz.underlying4
  a4 := Tryz.isAgg4
  z4 := Tryz.sizeOf4
  v4 := Tryz.zeroValue4
  t5 := Tryz.underlying5
  a5 := Tryz.isAgg5
  z5 := Tryz.sizeOf5
  v5 := Tryz.zeroValue5
  t9 := Tryz.underlying9
  a9 := Tryz.isAgg9
  z9 := Tryz.sizeOf9
  v9 := Tryz.zeroValue9
  t22 := Tryz.underlying66
  a22 := Tryz.isAgg66
  z22 := Tryz.sizeOf66
  v22 := Tryz.zeroValue66
  t25 := Tryz.underlying128
  a25 := Tryz.isAgg128
  z25 := Tryz.sizeOf128
  v25 := Tryz.zeroValue128
  t39 := Tryz.underlying130
  a39 := Tryz.isAgg130
  z39 := Tryz.sizeOf130
  v39 := Tryz.zeroValue130
  t45 := Tryz.underlying170
  a45 := Tryz.isAgg170
  z45 := Tryz.sizeOf170
  v45 := Tryz.zeroValue170
  t46 := Tryz.underlying171
  a46 := Tryz.isAgg171
  z46 := Tryz.sizeOf171
  v46 := Tryz.zeroValue171
  t50 := Tryz.underlying122
  a50 := Tryz.isAgg122
  z50 := Tryz.sizeOf122
  v50 := Tryz.zeroValue122
  t53 := Tryz.underlying177
  a53 := Tryz.isAgg177
  z53 := Tryz.sizeOf177
  v53 := Tryz.zeroValue177
  t55 := Tryz.underlying179
  a55 := Tryz.isAgg179
  z55 := Tryz.sizeOf179
  v55 := Tryz.zeroValue179
  t66 := Tryz.underlying195
  a66 := Tryz.isAgg195
  z66 := Tryz.sizeOf195
  v66 := Tryz.zeroValue195
  t70 := Tryz.underlying135
  a70 := Tryz.isAgg135
  z70 := Tryz.sizeOf135
  v70 := Tryz.zeroValue135
  t76 := Tryz.underlying206
  a76 := Tryz.isAgg206
  z76 := Tryz.sizeOf206
  v76 := Tryz.zeroValue206
  t77 := Tryz.underlying207
  a77 := Tryz.isAgg207
  z77 := Tryz.sizeOf207
  v77 := Tryz.zeroValue207 }
end Go.Proofs.YthlckipcgogogaaGreatDoor
