/- Units under way: the first one goes; rows as a source of append. -/
import Derived.Test.YtdjnflfcolpccaaBaPairL
namespace Go.Proofs.Ytdjnflfcolpccaa
open Go.RowKit

theorem elemU : Try.prog.elem 64 = 45 := by kernel_rfl
theorem undU : Try.prog.underlying 64 = some (.slice (Try.prog.elem 64)) := by rw [elemU]; exact Try.underlying64
theorem sizeU_run (w : World) : (sizeOf 45).run Try.prog w = .ok 7 w := by
  obtain ⟨i, hi, _, hs, _⟩ := info_parts infoUnit
  simp [sizeOf, typeInfo, hi, hs]
/-- v[1:] of a slice of units. -/
theorem unit_cut {w : World} {g a : _} {n c : Nat} {cs : List Value} (h : Buf w 45 7 g a (n + 1) c cs) :
    ∃ A : Option Addr, (∀ W, (Instr.slice 64 (.slice a (n + 1) c) (some (.int .i64 1)) none none).run Try.prog W = .ok (.slice A n (c - 1)) W) ∧
      (∀ W, (Instr.sliceAt 64 (.slice a (n + 1) c) (some (.int .i64 1)) none none).run Try.prog W = .ok (.slice A n (c - 1)) W) ∧ Buf w 45 7 g A n (c - 1) (cs.drop 7) := by
  have hle := h.le
  have key : ∀ W, (Instr.slice 64 (.slice a (n + 1) c) (some (.int .i64 1)) none none).run Try.prog W = .ok (.slice (if c = 1 then a else a.map (·.add (1 * 7))) n (c - 1)) W := by
    intro W
    have := run_slice_l W 64 a (n + 1) c undU .i64 (1 : Int) (by omega) (by omega)
    rw [this, elemU, sizeU_run]
    simp [sliced, Result.andThen]
  refine ⟨_, key, fun W => by rw [run_sliceAt_slice _ _ _ _ _ _ undU]; exact key W, ?_⟩
  have hc := h.cut 1 (by omega) (if c = 1 then a else a.map (·.add (1 * 7))) (fun hlt b o ha => by rw [if_neg (by omega), ha]; simp [Addr.add]) (fun he => by rw [if_pos he.symm])
  simpa using hc
/-- The first unit under way, and the others. -/
theorem WayAt.first {w : World} {col : Nat → Nat} {g : Option Nat} {a : Option Addr} {c : Nat} {u : Un} {us : List Un} (h : WayAt w col g a c (u :: us)) :
    ∃ k o s, a = some ⟨k, o, none⟩ ∧ g = some k ∧ (∀ j, j < 7 → w.cell? ⟨k, o + j, none⟩ = some ((unCells u s u.load.length u.load.length).getD j undef)) ∧ Row .u8 w s u.load.length u.load.length u.load ∧ ∀ z, s = some z → Load w col z.block := by
  obtain ⟨cs, hb, hu⟩ := h
  obtain ⟨k, o, ha, hg, hc⟩ := hb.cell (by simp)
  obtain ⟨s, e1, e2, e3⟩ := hu 0 u rfl
  refine ⟨k, o, s, ha, hg, fun j hj => ?_, e2, e3⟩
  rw [hc j (by simp; omega)]
  have := e1 j hj
  rw [Nat.zero_mul, Nat.zero_add] at this
  rw [this]
theorem WayAt.tail {w : World} {col : Nat → Nat} {g : Option Nat} {A : Option Addr} {c' : Nat} {u : Un} {us : List Un} {cs : List Value} (hb : Buf w 45 7 g A us.length c' (cs.drop 7))
    (hu : ∀ i v, (u :: us)[i]? = some v → ∃ s, (∀ j, j < 7 → cs.getD (i * 7 + j) undef = (unCells v s v.load.length v.load.length).getD j undef) ∧ Row .u8 w s v.load.length v.load.length v.load ∧ ∀ z, s = some z → Load w col z.block) :
    WayAt w col g A c' us := by
  refine ⟨_, hb, fun i v hi => ?_⟩
  obtain ⟨s, e1, e2, e3⟩ := hu (i + 1) v (by simpa using hi)
  refine ⟨s, fun j hj => ?_, e2, e3⟩
  rw [← e1 j hj]
  simp only [List.getD_eq_getElem?_getD, List.getElem?_drop]
  congr 2; omega
/-- A slice of rows as a source, behind draws too. -/
theorem Mat.src {w : World} {P : Nat → Prop} {T : Bool} {a : Option Addr} {n c : Nat} {M : List (List Int)} (h : Mat w P T a n c M) :
    ∃ us : List Value, (∀ q, Src Try.prog 1 52 (.slice a n c) n us (w.drewN q)) ∧ ∀ i l, M[i]? = some l → RowV w P T (us.getD i undef) l := by
  rcases h.cells with h0 | ⟨b, off, rfl, hp, hc⟩
  · subst h0
    have hM : M = [] := List.eq_nil_of_length_eq_zero h.len
    subst hM
    refine ⟨[], fun q => ?_, fun i l hi => by simp at hi⟩
    rcases a with _ | ad
    · exact Src.ofNil _ Try.underlying52 c
    · exact Src.ofSlice _ Try.underlying52 ad 0 c [] rfl (fun j u hj => by simp at hj) (fun u hu => by simp at hu)
  · refine ⟨(List.range n).map fun i => (w.cell? ⟨b, off + i, none⟩).getD undef, fun q => Src.ofSlice _ Try.underlying52 ⟨b, off, none⟩ n c _ (by simp) (fun j u hj => ?_) (fun u hu => ?_), fun i l hi => ?_⟩
    · have hjn : j < n := by have := (List.getElem?_eq_some_iff.1 hj).1; simpa using this
      obtain ⟨v, hv, hr⟩ := hc j hjn
      rw [Addr.add_lit]
      show w.cell? _ = _
      rw [hv]
      simp [hjn, hv] at hj
      rw [hj]
    · obtain ⟨i, hi, rfl⟩ := List.mem_map.1 hu
      obtain ⟨v, hv, ra, rc, rfl, _⟩ := hc i (List.mem_range.1 hi)
      rw [hv]; rfl
    · have hin : i < n := by have := (List.getElem?_eq_some_iff.1 hi).1; rw [h.len] at this; exact this
      obtain ⟨v, hv, hr⟩ := hc i hin
      have e1 : ((List.range n).map fun i => (w.cell? ⟨b, off + i, none⟩).getD undef).getD i undef = v := by simp [List.getD_eq_getElem?_getD, hin, hv]
      have e2 : M.getD i [] = l := by simp [List.getD_eq_getElem?_getD, hi]
      rw [e1, ← e2]; exact hr
end Go.Proofs.Ytdjnflfcolpccaa
