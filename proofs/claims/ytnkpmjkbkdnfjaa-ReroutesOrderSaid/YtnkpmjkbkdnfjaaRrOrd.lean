/- Layer 17: what keeps the order: the numbers that went and those that are held ascend. -/
import Derived.Test.YtnkpmjkbkdnfjaaRrInv
import Derived.Laws.MakeOwn
namespace Go.Proofs.Ytnkpmjkbkdnfjaa
open Go.RowKit

/-- The numbers W went; the next one is nx; the last place and tick. -/
structure Pn.Ord (s : Pn) (H : Int) (W : List Nat) (nx : Nat) (lv at0 N : Int) : Prop where
  hold : s.hold = H
  asc : (W ++ s.ns).Pairwise (· < ·)
  rng : ∀ j ∈ W ++ s.ns, 1 ≤ j ∧ j < nx
  few : (W ++ s.ns).length + 1 ≤ nx
  ph : s.ph = 1 ∨ s.ph = 2 ∨ s.ph = 4
  one : s.ph = 1 → W = [] ∧ lv = 0
  more : s.ph ≠ 1 → lv = s.wy.nx ∧ at0 = s.last
  l0 : 0 ≤ s.last
  l1 : s.last ≤ N
theorem Pn.Ord.fresh (H : Int) : (Pn.fresh H).Ord H [] 1 0 0 0 := ⟨rfl, List.Pairwise.nil, fun j hj => (by cases hj), Nat.le_refl _, .inl rfl, fun _ => ⟨rfl, rfl⟩, fun h => absurd rfl h, Int.le_refl _, Int.le_refl _⟩
theorem Pn.Ord.keep {s : Pn} {H : Int} {W : List Nat} {nx : Nat} {lv at0 N N' : Int} (h : s.Ord H W nx lv at0 N) (hN : N ≤ N') : s.Ord H W nx lv at0 N' := ⟨h.hold, h.asc, h.rng, h.few, h.ph, h.one, h.more, h.l0, Int.le_trans h.l1 hN⟩
theorem Pn.Ord.offer {s : Pn} {H : Int} {W : List Nat} {nx : Nat} {lv at0 N : Int} (h : s.Ord H W nx lv at0 N) (h1 : 1 ≤ nx) : (s.offer nx).Ord H W (nx + 1) lv at0 N := by
  have e : W ++ (s.offer nx).ns = (W ++ s.ns) ++ [nx] := by show W ++ (s.ns ++ [nx]) = _; rw [List.append_assoc]
  refine ⟨h.hold, ?_, fun j hj => ?_, ?_, h.ph, h.one, h.more, h.l0, h.l1⟩
  · rw [e, List.pairwise_append]
    exact ⟨h.asc, List.pairwise_singleton _ _, fun a ha b hb => by rw [List.mem_singleton.1 hb]; exact (h.rng a ha).2⟩
  · rw [e] at hj
    rcases List.mem_append.1 hj with hm | hm
    · have := h.rng j hm; omega
    · have := List.mem_singleton.1 hm; omega
  · rw [e, List.length_append, List.length_singleton]
    have := h.few; omega
theorem Pn.Ord.went {s : Pn} {H : Int} {W : List Nat} {nx : Nat} {lv at0 N N' : Int} {y : Wy} (h : s.Ord H W nx lv at0 N) (h0 : 0 ≤ N') : (s.went N' y).Ord H (W ++ s.ns) nx y.nx N' N' := by
  have e : (W ++ s.ns) ++ (s.went N' y).ns = W ++ s.ns := List.append_nil _
  refine ⟨h.hold, by rw [e]; exact h.asc, by rw [e]; exact h.rng, by rw [e]; exact h.few, .inr (.inl rfl), fun hp => (by cases hp), fun _ => ⟨rfl, rfl⟩, h0, Int.le_refl _⟩
/-- A way that is free leads to the last place, or the hold time is over. -/
theorem Pn.Ord.tell {s : Pn} {H : Int} {W : List Nat} {nx : Nat} {lv at0 N N' : Int} {y : Wy} (h : s.Ord H W nx lv at0 N) (hf : s.free N' y) (_hH : 0 ≤ H) (hN : N + H ≤ 1000000) : lv = 0 ∨ lv = y.nx ∨ at0 + H ≤ N' := by
  by_cases hp : s.ph = 1
  · exact .inl (h.one hp).2
  · obtain ⟨e1, e2⟩ := h.more hp
    have hl := h.l1
    have hd : s.due = s.last + s.hold := by
      unfold Pn.due
      rw [if_neg (by rw [h.hold]; omega)]
    rcases hf.2 with h1 | h1 | h1 | h1
    · exact absurd h1 hp
    · exact .inr (.inl (by rw [e1, ← h1]))
    · exact .inr (.inl (by rw [e1, h1.2]))
    · refine .inr (.inr ?_)
      rw [hd, h.hold] at h1
      rw [e2]; exact h1
theorem Pn.Ord.back {s : Pn} {H : Int} {W : List Nat} {nx : Nat} {lv at0 N : Int} (h : s.Ord H W nx lv at0 N) (hp : s.ph ≠ 1) (E : Nat) : (s.cut.back (W.drop E)).Ord H (W.take E) nx lv at0 N := by
  have e : W.take E ++ (s.cut.back (W.drop E)).ns = W ++ s.ns := by
    show W.take E ++ (W.drop E ++ s.ns) = _
    rw [← List.append_assoc, List.take_append_drop]
  exact ⟨h.hold, by rw [e]; exact h.asc, by rw [e]; exact h.rng, by rw [e]; exact h.few, .inr (.inr rfl), fun hp => (by cases hp), fun _ => h.more hp, h.l0, h.l1⟩
/-- In an ascending list the next one is greater. -/
theorem asc_next {F : List Nat} (h : F.Pairwise (· < ·)) {i : Nat} (h0 : 0 < i) (hi : i < F.length) : F.getD (i - 1) 0 < F.getD i 0 := by
  simp only [List.getD_eq_getElem?_getD, List.getElem?_eq_getElem hi, List.getElem?_eq_getElem (show i - 1 < F.length by omega), Option.getD_some]
  exact List.pairwise_iff_getElem.1 h (i - 1) i (by omega) hi (by omega)
theorem undI : Try.prog.underlying 28 = some (.slice (Try.prog.elem 28)) := by
  have e : Try.prog.elem 28 = 3 := by kernel_rfl
  rw [e]; exact Try.underlying28
theorem sizeI_run (w : World) : (sizeOf 3).run Try.prog w = .ok 1 w := by
  obtain ⟨i, hi, _, hs, _⟩ := info_parts info64
  simp [sizeOf, typeInfo, hi, hs]
/-- v[:k], whatever address v has. -/
theorem cut_front (a : Option Addr) (n c k : Nat) (hk : k ≤ n) (hle : n ≤ c) :
    (∀ W, (Instr.slice 28 (.slice a n c) none (some (.int .i64 (k : Int))) none).run Try.prog W = .ok (.slice a k c) W) ∧
      (∀ W, (Instr.sliceAt 28 (.slice a n c) none (some (.int .i64 (k : Int))) none).run Try.prog W = .ok (.slice a k c) W) := by
  have key : ∀ W, (Instr.slice 28 (.slice a n c) none (some (.int .i64 (k : Int))) none).run Try.prog W = .ok (.slice a k c) W := by
    intro W
    have e : Try.prog.elem 28 = 3 := by kernel_rfl
    rw [run_slice_h W 28 a n c undI .i64 (k : Int) (by omega) (by omega), e, sizeI_run]
    simp [sliced, Result.andThen]
    intro _
    rcases a with _ | ⟨b, o, s⟩ <;> simp [Addr.add]
  exact ⟨key, fun W => by rw [run_sliceAt_slice _ _ _ _ _ _ undI]; exact key W⟩
theorem Buf.take {w : World} {t : Nat} {g : Option Nat} {a : Option Addr} {n c : Nat} {cs : List Value} (h : Buf w t 1 g a n c cs) {k : Nat} (hk : k ≤ n) : Buf w t 1 g a k c (cs.take k) := by
  have hl := h.len
  refine ⟨by rw [List.length_take]; omega, Nat.le_trans hk h.le, h.max, ?_⟩
  rcases h.lies with h1 | ⟨b, o, rs, h1, h2, h3, h4, h5⟩
  · exact .inl h1
  · refine .inr ⟨b, o, rs, h1, h2, h3, h4, fun j hj => ?_⟩
    rw [h5 j (by omega)]
    simp only [List.getD_eq_getElem?_getD]
    rw [List.getElem?_take_of_lt (by omega)]
/-- What has been copied, as an argument. -/
theorem RetIn.arg {w0 wr : World} {L : List It} {k : Nat} {g : Option Nat} {a : Option Addr} {c : Nat} {C : List It} (h : RetIn w0 wr L k g a c C) (hf : ∀ i, i < k → (C.getD i It.none).dat.length ≤ 1000000) : ArgIts wr a k C (fun i => (C.getD i It.none).dat.length) := by
  have hl := h.len
  refine ⟨hl, ?_, fun i hi => ?_, hf⟩
  · by_cases h0 : k = 0
    · exact .inl h0
    · obtain ⟨b, o, ha, _, hc⟩ := h.buf.cell (by omega)
      refine .inr ⟨b, o, ha, fun i hi => ?_⟩
      have key : ∀ j, j < 8 → wr.cell? ⟨b, o + i * 8 + j, none⟩ = some ((encIt (C.getD i It.none)).getD j undef) := fun j hj => by
        rw [Nat.add_assoc, hc (i * 8 + j) (by omega), cellsIt_getD C It.none (by omega) hj]
      exact ⟨key 0 (by decide), key 1 (by decide), key 2 (by decide), key 3 (by decide), key 4 (by decide), key 5 (by decide), key 6 (by decide), key 7 (by decide)⟩
  · have hm : C.getD i It.none ∈ C := by rw [List.getD_eq_getElem?_getD, List.getElem?_eq_getElem (by omega)]; exact List.getElem_mem _
    exact h.its.row _ hm
theorem RetIn.none (w : World) (L : List It) : RetIn w w L 0 Option.none Option.none 0 [] := ⟨rfl, by simp, Buf.nil _ _ _, fun j hj => (by cases hj), ItsAt.nil _ _, by simp, Below.refl _ _⟩
end Go.Proofs.Ytnkpmjkbkdnfjaa
