/- The choices of a place lead to lower places. -/
import Derived.Test.YtekaedmhdoijeaaPlSt
namespace Go.Proofs.Ytekaedmhdoijeaa
open Go.RowKit

/-- The choices of a place: none without a way; else lower places, the first of the rank one less. -/
theorem fall_none {p : Pn} {t : Int} {l : List Int} (hok : DisOk p t l) (hn : p.P.length ≤ 6) {a : Nat} (ha : a < p.P.length) (hl : l.getD a 0 = -1) : (chC p t l a).length = 0 := by
  rw [chC_length, chL_none hok.dist (by omega) ha (by simp only [hl]; rfl) 99 (Nat.le_refl _)]
  rfl
theorem fall_some {p : Pn} {t : Int} {l : List Int} (hok : DisOk p t l) (hn : p.P.length ≤ 6) {a : Nat} (ha : a < p.P.length) (hl : l.getD a 0 ≠ -1) (ht : pc p.P a ≠ t) : 0 < (chC p t l a).length ∧ ((chC p t l a).getD 0 (0, 0)).2 = l.getD a 0 - 1 := by
  have hs := hok.small a ha
  have hd : d99 (l.getD a 0) = l.getD a 0 := by unfold d99; rw [if_neg hl]
  obtain ⟨x, z, h1, h2⟩ := chL_some hok.dist (by omega) ha (by simp only [hd]; omega) ht 99 (by omega)
  simp only [hd] at h2
  unfold chC
  rw [h1]
  exact ⟨by simp, by simpa using h2⟩
theorem fall_lower {p : Pn} {t : Int} {l : List Int} (_hok : DisOk p t l) (_hn : p.P.length ≤ 6) {a : Nat} (_ha : a < p.P.length) {k : Nat} (hk : k < (chC p t l a).length) :
    ∃ b r, b < p.P.length ∧ (chC p t l a).getD k (0, 0) = (pc p.P b, r) ∧ lowerB (fun y => d99 (l.getD y 0)) b a = true ∧ l.getD b 0 ≠ -1 := by
  have hk' := hk
  rw [chC_length] at hk'
  obtain ⟨y, hy⟩ : ∃ y, y = (chL p.P p.L t (fun i => d99 (l.getD i 0)) a 99)[k] := ⟨_, rfl⟩
  have hm : y ∈ chL p.P p.L t (fun i => d99 (l.getD i 0)) a 99 := by rw [hy]; exact List.getElem_mem _
  obtain ⟨h1, h2, h3⟩ := mem_chL.1 hm
  simp only [isCh, Bool.and_eq_true, decide_eq_true_eq] at h3
  refine ⟨y.2, y.1, h2, ?_, h3.1.2, fun e => ?_⟩
  · unfold chC
    rw [List.getD_eq_getElem?_getD, List.getElem?_map, List.getElem?_eq_getElem hk', ← hy]
    rfl
  · have h4 := h3.1.1
    rw [e] at h4
    have h5 : d99 (-1) = 99 := rfl
    omega
theorem htI_some {n : Nat} {l : List Int} {a : Nat} (h : l.getD a 0 ≠ -1) : htI n l a = (htN n (fun y => d99 (l.getD y 0)) a : Int) := by unfold htI; rw [if_neg h]
theorem htI_none {n : Nat} {l : List Int} {a : Nat} (h : l.getD a 0 = -1) : htI n l a = -1 := by unfold htI; rw [if_pos h]
end Go.Proofs.Ytekaedmhdoijeaa
