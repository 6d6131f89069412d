/- One part of a pair has turned. -/
import Derived.Test.YtdjnflfcolpccaaBaPair
namespace Go.Proofs.Ytdjnflfcolpccaa
open Go.RowKit

/-- WayAt has turned. -/
theorem PairAt.way0 {I : EndFace} {w w' : World} {p : Nat} {st : PSt} {L : PLay} {g' : Option Nat} {a' : Option Addr} {c' : Nat} {us : List Un} (h : PairAt I w p st L) (hx : Exc (fun k => L.g0 = some k ∨ k = p) w w')
    (ho : Own w' p 69 (pairCells { st with f0 := us } { L with g0 := g', a0 := a', c0 := c', col := recol L.col w.heap.size (fun k => g' = some k) 3 }))
    (hw : WayAt w' (recol L.col w.heap.size (fun k => g' = some k) 3) g' a' c' us) (hl : ∀ k, g' = some k → L.g0 = some k ∨ w.heap.size ≤ k) :
    PairAt I w' p { st with f0 := us } { L with g0 := g', a0 := a', c0 := c', col := recol L.col w.heap.size (fun k => g' = some k) 3 } := by
  have hp := h.own.lt
  have hold : ∀ k, k < w.heap.size → recol L.col w.heap.size (fun k => g' = some k) 3 k = L.col k := fun k hk => recol_old hk
  have h7 : ∀ k, k < w.heap.size → L.col k = 7 → ¬ (L.g0 = some k ∨ k = p) := fun k _ hc hs => by
    rcases hs with hs | hs
    · rw [h.cg0 k hs] at hc; omega
    · rw [hs, h.cp] at hc; omega
  have hne : ∀ k c, L.col k = c → c ≠ 0 → c ≠ 3 → ¬ (L.g0 = some k ∨ k = p) := fun k c hk hc hc2 hs => by
    rcases hs with hs | hs
    · rw [h.cg0 k hs] at hk; omega
    · rw [hs, h.cp] at hk; omega
  refine ⟨ho, I.exc h.e0 hx (fun k hk => hne k 1 (h.s0 k hk) (by decide) (by decide)), I.exc h.e1 hx (fun k hk => hne k 2 (h.s1 k hk) (by decide) (by decide)),
    hw, h.w1.move hx (fun k hk => hne k 4 (h.cg1 k hk) (by decide) (by decide)) h7 hold,
    h.k0.move hx (fun k hk => hne k 5 (h.ch0 k hk) (by decide) (by decide)) h7 hold, h.k1.move hx (fun k hk => hne k 6 (h.ch1 k hk) (by decide) (by decide)) h7 hold,
    (hold p hp).trans h.cp, fun k hk => (hold k (I.lt h.e0 k hk)).trans (h.s0 k hk), fun k hk => (hold k (I.lt h.e1 k hk)).trans (h.s1 k hk), fun k hk => ?_, fun k hk => ?_, fun k hk => ?_, fun k hk => ?_, fun k hk => (hold k (Nat.lt_of_lt_of_le hk h.lowB)).trans (h.low k hk), Nat.le_trans h.lowB hx.size⟩
  · rcases hl k hk with h1 | h1
    · exact (hold k (h.w0_lt h1)).trans (h.cg0 k h1)
    · exact recol_in (S := fun k => g' = some k) (Nat.not_lt.2 h1) hk
  · exact (hold k (h.w1_lt hk)).trans (h.cg1 k hk)
  · exact (hold k (h.k0_lt hk)).trans (h.ch0 k hk)
  · exact (hold k (h.k1_lt hk)).trans (h.ch1 k hk)

/-- WayAt has turned. -/
theorem PairAt.way1 {I : EndFace} {w w' : World} {p : Nat} {st : PSt} {L : PLay} {g' : Option Nat} {a' : Option Addr} {c' : Nat} {us : List Un} (h : PairAt I w p st L) (hx : Exc (fun k => L.g1 = some k ∨ k = p) w w')
    (ho : Own w' p 69 (pairCells { st with f1 := us } { L with g1 := g', a1 := a', c1 := c', col := recol L.col w.heap.size (fun k => g' = some k) 4 }))
    (hw : WayAt w' (recol L.col w.heap.size (fun k => g' = some k) 4) g' a' c' us) (hl : ∀ k, g' = some k → L.g1 = some k ∨ w.heap.size ≤ k) :
    PairAt I w' p { st with f1 := us } { L with g1 := g', a1 := a', c1 := c', col := recol L.col w.heap.size (fun k => g' = some k) 4 } := by
  have hp := h.own.lt
  have hold : ∀ k, k < w.heap.size → recol L.col w.heap.size (fun k => g' = some k) 4 k = L.col k := fun k hk => recol_old hk
  have h7 : ∀ k, k < w.heap.size → L.col k = 7 → ¬ (L.g1 = some k ∨ k = p) := fun k _ hc hs => by
    rcases hs with hs | hs
    · rw [h.cg1 k hs] at hc; omega
    · rw [hs, h.cp] at hc; omega
  have hne : ∀ k c, L.col k = c → c ≠ 0 → c ≠ 4 → ¬ (L.g1 = some k ∨ k = p) := fun k c hk hc hc2 hs => by
    rcases hs with hs | hs
    · rw [h.cg1 k hs] at hk; omega
    · rw [hs, h.cp] at hk; omega
  refine ⟨ho, I.exc h.e0 hx (fun k hk => hne k 1 (h.s0 k hk) (by decide) (by decide)), I.exc h.e1 hx (fun k hk => hne k 2 (h.s1 k hk) (by decide) (by decide)),
    h.w0.move hx (fun k hk => hne k 3 (h.cg0 k hk) (by decide) (by decide)) h7 hold, hw,
    h.k0.move hx (fun k hk => hne k 5 (h.ch0 k hk) (by decide) (by decide)) h7 hold, h.k1.move hx (fun k hk => hne k 6 (h.ch1 k hk) (by decide) (by decide)) h7 hold,
    (hold p hp).trans h.cp, fun k hk => (hold k (I.lt h.e0 k hk)).trans (h.s0 k hk), fun k hk => (hold k (I.lt h.e1 k hk)).trans (h.s1 k hk), fun k hk => ?_, fun k hk => ?_, fun k hk => ?_, fun k hk => ?_, fun k hk => (hold k (Nat.lt_of_lt_of_le hk h.lowB)).trans (h.low k hk), Nat.le_trans h.lowB hx.size⟩
  · exact (hold k (h.w0_lt hk)).trans (h.cg0 k hk)
  · rcases hl k hk with h1 | h1
    · exact (hold k (h.w1_lt h1)).trans (h.cg1 k h1)
    · exact recol_in (S := fun k => g' = some k) (Nat.not_lt.2 h1) hk
  · exact (hold k (h.k0_lt hk)).trans (h.ch0 k hk)
  · exact (hold k (h.k1_lt hk)).trans (h.ch1 k hk)

/-- TakAt has turned. -/
theorem PairAt.tak0 {I : EndFace} {w w' : World} {p : Nat} {st : PSt} {L : PLay} {g' : Option Nat} {a' : Option Addr} {c' : Nat} {us : List (List Int)} (h : PairAt I w p st L) (hx : Exc (fun k => L.h0 = some k ∨ k = p) w w')
    (ho : Own w' p 69 (pairCells { st with t0 := us } { L with h0 := g', d0 := a', q0 := c', col := recol L.col w.heap.size (fun k => g' = some k) 5 }))
    (hw : TakAt w' (recol L.col w.heap.size (fun k => g' = some k) 5) g' a' c' us) (hl : ∀ k, g' = some k → L.h0 = some k ∨ w.heap.size ≤ k) :
    PairAt I w' p { st with t0 := us } { L with h0 := g', d0 := a', q0 := c', col := recol L.col w.heap.size (fun k => g' = some k) 5 } := by
  have hp := h.own.lt
  have hold : ∀ k, k < w.heap.size → recol L.col w.heap.size (fun k => g' = some k) 5 k = L.col k := fun k hk => recol_old hk
  have h7 : ∀ k, k < w.heap.size → L.col k = 7 → ¬ (L.h0 = some k ∨ k = p) := fun k _ hc hs => by
    rcases hs with hs | hs
    · rw [h.ch0 k hs] at hc; omega
    · rw [hs, h.cp] at hc; omega
  have hne : ∀ k c, L.col k = c → c ≠ 0 → c ≠ 5 → ¬ (L.h0 = some k ∨ k = p) := fun k c hk hc hc2 hs => by
    rcases hs with hs | hs
    · rw [h.ch0 k hs] at hk; omega
    · rw [hs, h.cp] at hk; omega
  refine ⟨ho, I.exc h.e0 hx (fun k hk => hne k 1 (h.s0 k hk) (by decide) (by decide)), I.exc h.e1 hx (fun k hk => hne k 2 (h.s1 k hk) (by decide) (by decide)),
    h.w0.move hx (fun k hk => hne k 3 (h.cg0 k hk) (by decide) (by decide)) h7 hold, h.w1.move hx (fun k hk => hne k 4 (h.cg1 k hk) (by decide) (by decide)) h7 hold,
    hw, h.k1.move hx (fun k hk => hne k 6 (h.ch1 k hk) (by decide) (by decide)) h7 hold,
    (hold p hp).trans h.cp, fun k hk => (hold k (I.lt h.e0 k hk)).trans (h.s0 k hk), fun k hk => (hold k (I.lt h.e1 k hk)).trans (h.s1 k hk), fun k hk => ?_, fun k hk => ?_, fun k hk => ?_, fun k hk => ?_, fun k hk => (hold k (Nat.lt_of_lt_of_le hk h.lowB)).trans (h.low k hk), Nat.le_trans h.lowB hx.size⟩
  · exact (hold k (h.w0_lt hk)).trans (h.cg0 k hk)
  · exact (hold k (h.w1_lt hk)).trans (h.cg1 k hk)
  · rcases hl k hk with h1 | h1
    · exact (hold k (h.k0_lt h1)).trans (h.ch0 k h1)
    · exact recol_in (S := fun k => g' = some k) (Nat.not_lt.2 h1) hk
  · exact (hold k (h.k1_lt hk)).trans (h.ch1 k hk)

/-- TakAt has turned. -/
theorem PairAt.tak1 {I : EndFace} {w w' : World} {p : Nat} {st : PSt} {L : PLay} {g' : Option Nat} {a' : Option Addr} {c' : Nat} {us : List (List Int)} (h : PairAt I w p st L) (hx : Exc (fun k => L.h1 = some k ∨ k = p) w w')
    (ho : Own w' p 69 (pairCells { st with t1 := us } { L with h1 := g', d1 := a', q1 := c', col := recol L.col w.heap.size (fun k => g' = some k) 6 }))
    (hw : TakAt w' (recol L.col w.heap.size (fun k => g' = some k) 6) g' a' c' us) (hl : ∀ k, g' = some k → L.h1 = some k ∨ w.heap.size ≤ k) :
    PairAt I w' p { st with t1 := us } { L with h1 := g', d1 := a', q1 := c', col := recol L.col w.heap.size (fun k => g' = some k) 6 } := by
  have hp := h.own.lt
  have hold : ∀ k, k < w.heap.size → recol L.col w.heap.size (fun k => g' = some k) 6 k = L.col k := fun k hk => recol_old hk
  have h7 : ∀ k, k < w.heap.size → L.col k = 7 → ¬ (L.h1 = some k ∨ k = p) := fun k _ hc hs => by
    rcases hs with hs | hs
    · rw [h.ch1 k hs] at hc; omega
    · rw [hs, h.cp] at hc; omega
  have hne : ∀ k c, L.col k = c → c ≠ 0 → c ≠ 6 → ¬ (L.h1 = some k ∨ k = p) := fun k c hk hc hc2 hs => by
    rcases hs with hs | hs
    · rw [h.ch1 k hs] at hk; omega
    · rw [hs, h.cp] at hk; omega
  refine ⟨ho, I.exc h.e0 hx (fun k hk => hne k 1 (h.s0 k hk) (by decide) (by decide)), I.exc h.e1 hx (fun k hk => hne k 2 (h.s1 k hk) (by decide) (by decide)),
    h.w0.move hx (fun k hk => hne k 3 (h.cg0 k hk) (by decide) (by decide)) h7 hold, h.w1.move hx (fun k hk => hne k 4 (h.cg1 k hk) (by decide) (by decide)) h7 hold,
    h.k0.move hx (fun k hk => hne k 5 (h.ch0 k hk) (by decide) (by decide)) h7 hold, hw,
    (hold p hp).trans h.cp, fun k hk => (hold k (I.lt h.e0 k hk)).trans (h.s0 k hk), fun k hk => (hold k (I.lt h.e1 k hk)).trans (h.s1 k hk), fun k hk => ?_, fun k hk => ?_, fun k hk => ?_, fun k hk => ?_, fun k hk => (hold k (Nat.lt_of_lt_of_le hk h.lowB)).trans (h.low k hk), Nat.le_trans h.lowB hx.size⟩
  · exact (hold k (h.w0_lt hk)).trans (h.cg0 k hk)
  · exact (hold k (h.w1_lt hk)).trans (h.cg1 k hk)
  · exact (hold k (h.k0_lt hk)).trans (h.ch0 k hk)
  · rcases hl k hk with h1 | h1
    · exact (hold k (h.k1_lt h1)).trans (h.ch1 k h1)
    · exact recol_in (S := fun k => g' = some k) (Nat.not_lt.2 h1) hk

theorem PairAt.below {I : EndFace} {w w' : World} {p : Nat} {st : PSt} {L : PLay} {S : Nat → Prop} (h : PairAt I w p st L) (hx : Exc S w w') (hs : ∀ k, k < w.heap.size → S k → L.col k ≠ 8) : Below L.B w w' :=
  hx.below h.lowB fun i hi hsi => by
    rcases Nat.lt_or_ge i L.B with hlt | hge
    · exact absurd (h.low i hlt) (hs i hi hsi)
    · exact hge
theorem getElem_snoc {α : Type} {l : List α} {x y : α} {i : Nat} (h : (l ++ [x])[i]? = some y) : l[i]? = some y ∨ (i = l.length ∧ x = y) := by
  by_cases hi : i < l.length
  · rw [List.getElem?_append_left hi] at h; exact .inl h
  · rw [List.getElem?_append_right (by omega)] at h
    have h0 : i - l.length = 0 := by
      have := (List.getElem?_eq_some_iff.1 h).1
      simp at this; exact this
    rw [h0] at h
    simp at h
    exact .inr ⟨by omega, h⟩
/-- One more unit under way. -/
theorem WayAt.add {T : Nat → Prop} {w w' : World} {col col' : Nat → Nat} {g' : Option Nat} {a' : Option Addr} {c' : Nat} {us : List Un} {u : Un} {s : Option Addr} {cs : List Value}
    (hu : ∀ i u, us[i]? = some u → ∃ s, (∀ j, j < 7 → cs.getD (i * 7 + j) undef = (unCells u s u.load.length u.load.length).getD j undef) ∧ Row .u8 w s u.load.length u.load.length u.load ∧ ∀ z, s = some z → Load w col z.block)
    (hcs : cs.length = us.length * 7) (hx : Exc T w w') (hl : ∀ k, k < w.heap.size → col k = 7 → ¬ T k) (hc : ∀ k, k < w.heap.size → col' k = col k)
    (hb : Buf w' 45 7 g' a' (us.length + 1) c' (cs ++ unCells u s u.load.length u.load.length)) (hr : Row .u8 w' s u.load.length u.load.length u.load) (hz : ∀ z, s = some z → Load w' col' z.block) :
    WayAt w' col' g' a' c' (us ++ [u]) := by
  refine ⟨_, by rw [List.length_append]; exact hb, fun i v hi => ?_⟩
  rcases getElem_snoc hi with h1 | ⟨h1, rfl⟩
  · have hlt : i < us.length := (List.getElem?_eq_some_iff.1 h1).1
    obtain ⟨s', e1, e2, e3⟩ := hu i v h1
    refine ⟨s', fun j hj => ?_, e2.exc hx (fun z hz => hl _ (e3 z hz).2 (e3 z hz).1), fun z hz => ⟨by rw [hc _ (e3 z hz).2]; exact (e3 z hz).1, Nat.lt_of_lt_of_le (e3 z hz).2 hx.size⟩⟩
    rw [getD_append_left (by rw [hcs]; omega)]
    exact e1 j hj
  · refine ⟨s, fun j hj => ?_, hr, hz⟩
    rw [getD_append_right (by rw [hcs]; omega), hcs]
    congr 1; omega
/-- More is taken. -/
theorem TakAt.add {T : Nat → Prop} {w w' : World} {col col' : Nat → Nat} {g' : Option Nat} {a' : Option Addr} {c' : Nat} {ls ms : List (List Int)} {vs us : List Value}
    (hu : ∀ i l, ls[i]? = some l → RowV w (Load w col) true (vs.getD i undef) l)
    (hvs : vs.length = ls.length) (hx : Exc T w w') (hl : ∀ k, k < w.heap.size → col k = 7 → ¬ T k) (hc : ∀ k, k < w.heap.size → col' k = col k)
    (hb : Buf w' 36 1 g' a' (ls.length + ms.length) c' (vs ++ us)) (hr : ∀ i l, ms[i]? = some l → RowV w' (Load w' col') true (us.getD i undef) l) :
    TakAt w' col' g' a' c' (ls ++ ms) := by
  refine ⟨_, by rw [List.length_append]; exact hb, fun i l hi => ?_⟩
  by_cases hlt : i < ls.length
  · rw [List.getElem?_append_left hlt] at hi
    rw [getD_append_left (by omega)]
    exact ((hu i l hi).exc hx (fun k hk => hl _ hk.2 hk.1)).mono (fun _ _ hk => ⟨by rw [hc _ hk.2]; exact hk.1, Nat.lt_of_lt_of_le hk.2 hx.size⟩) (.inr fun _ hk => ⟨by rw [hc _ hk.2]; exact hk.1, Nat.lt_of_lt_of_le hk.2 hx.size⟩)
  · rw [List.getElem?_append_right (by omega)] at hi
    rw [getD_append_right (by omega), hvs]
    exact hr _ _ hi
end Go.Proofs.Ytdjnflfcolpccaa
