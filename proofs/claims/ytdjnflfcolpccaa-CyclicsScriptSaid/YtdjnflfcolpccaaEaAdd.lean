/- The code's end of a link: what lies where behind an append. -/
import Derived.Test.YtdjnflfcolpccaaEaSmall
import Derived.Test.YtdjnflfcolpccaaBaCut
import Derived.Deep.RegionLaw
namespace Go.Proofs.Ytdjnflfcolpccaa
open Go.RowKit

/-- One load behind the queue: it lies in block N. -/
theorem EndL.addq {w w' : World} {b : Nat} {x : En} {L : ELay} {g' : Option Nat} {a' : Option Addr} {c' N : Nat} {l : List Int} {vs : List Value} (h : EndL w b x L) (hx : Exc (fun k => L.gq = some k ∨ k = b) w w') (hvs : vs.length = x.que.length)
    (hu : ∀ i l, x.que[i]? = some l → RowV w L.P true (vs.getD i undef) l) (hb : Buf w' 36 1 g' a' (x.que.length + 1) c' (vs ++ [.slice (some ⟨N, 0, none⟩) l.length l.length])) (hN : w.heap.size ≤ N) (hNl : N < w'.heap.size)
    (hr : Row .u8 w' (some ⟨N, 0, none⟩) l.length l.length l) (hl : ∀ k, g' = some k → L.gq = some k ∨ N < k) (ho : Own w' b 79 (endCells (x.accept l) { L with gq := g', aq := a', cq := c', P := fun k => L.P k ∨ k = N })) (h64 : x.que.length < 64) (hw : 2 ≤ l.length ∧ l.length ≤ 273) :
    EndL w' b (x.accept l) { L with gq := g', aq := a', cq := c', P := fun k => L.P k ∨ k = N } ∧ Turn (L.S b) w (({ L with gq := g', aq := a', cq := c', P := fun k => L.P k ∨ k = N } : ELay).S b) w' := by
  have hbs := h.own.lt
  have hP : ∀ k, L.P k → ¬ (L.gq = some k ∨ k = b) := fun k hk hh => by
    rcases hh with hh | hh
    · exact (h.bq k hh).2.1 hk
    · exact h.bP (hh ▸ hk)
  refine ⟨⟨ho, RowsAt.add (T := fun k => L.gq = some k ∨ k = b) (w := w) rfl hvs hu hx hP (fun k hk => .inl hk) hb ⟨_, _, rfl, hr, fun _ => rfl, fun z hz => by cases hz; exact .inr rfl⟩, ?_, ?_, fun k hk => ?_, fun k hk => ?_, fun k hk => ?_, ?_, fun k hk => ?_⟩, hx.weak (fun k _ hk => ?_), fun k hk => ?_⟩
  · refine (h.o.exc hx (fun k hk hh => ?_) hP).weak (fun k hk => .inl hk)
    rcases hh with hh | hh
    · exact (h.bq k hh).2.2 hk
    · exact (h.bo k hk).1 hh
  · rintro (hk | hk)
    · exact h.bP hk
    · omega
  · rcases hl k hk with h1 | h1
    · refine ⟨(h.bq k h1).1, ?_, (h.bq k h1).2.2⟩
      rintro (h2 | h2)
      · exact (h.bq k h1).2.1 h2
      · have := h.q.lt h1; omega
    · refine ⟨by omega, ?_, fun h2 => by have := h.o.lt h2; omega⟩
      rintro (h2 | h2)
      · have := h.lt k h2; omega
      · omega
  · refine ⟨(h.bo k hk).1, ?_⟩
    rintro (h2 | h2)
    · exact (h.bo k hk).2 h2
    · have := h.o.lt hk; omega
  · rcases hk with hk | hk
    · exact Nat.lt_of_lt_of_le (h.lt k hk) hx.size
    · omega
  · have hf := h.fit
    exact ⟨by show (x.que ++ [l]).length ≤ 64; rw [List.length_append, List.length_singleton]; omega, hf.una, hf.plc, hf.lm1, hf.lm2, hf.lo1, hf.lo2, hf.sent, hf.acc⟩
  · rcases hk with hk | hk
    · rcases List.mem_append.1 hk with hk | hk
      · exact h.wide k (.inl hk)
      · rw [List.mem_singleton.1 hk]; exact hw
    · exact h.wide k (.inr hk)
  · rcases hk with hk | hk
    · exact .inr (.inl hk)
    · exact .inl hk
  · rcases hk with hk | hk | hk | hk
    · exact .inl (.inl hk)
    · rcases hl k hk with h1 | h1
      · exact .inl (.inr (.inl h1))
      · exact .inr (by omega)
    · exact .inl (.inr (.inr (.inl hk)))
    · rcases hk with hk | hk
      · exact .inl (.inr (.inr (.inr hk)))
      · exact .inr (by omega)
/-- One load behind the open ones; it lies where it lay. -/
theorem EndL.addo {w w' : World} {b : Nat} {x x' : En} {L : ELay} {g' : Option Nat} {a' : Option Addr} {c' : Nat} {l : List Int} {vs : List Value} {v : Value} (h : EndL w b x L) (hx : Exc (fun k => L.go = some k ∨ k = b) w w') (hvs : vs.length = x.una.length)
    (hu : ∀ i l, x.una[i]? = some l → RowV w L.P true (vs.getD i undef) l) (hb : Buf w' 36 1 g' a' (x.una.length + 1) c' (vs ++ [v]))
    (hr : RowV w' L.P true v l) (hl : ∀ k, g' = some k → L.go = some k ∨ w.heap.size ≤ k) (he : x' = { x with una := x.una ++ [l] }) (ho : Own w' b 79 (endCells x' { L with go := g', ao := a', co := c' })) (h127 : x.una.length < 127) (hw : 2 ≤ l.length ∧ l.length ≤ 273) :
    EndL w' b x' { L with go := g', ao := a', co := c' } ∧ Turn (L.S b) w (({ L with go := g', ao := a', co := c' } : ELay).S b) w' := by
  have hbs := h.own.lt
  have hP : ∀ k, L.P k → ¬ (L.go = some k ∨ k = b) := fun k hk hh => by
    rcases hh with hh | hh
    · exact (h.bo k hh).2 hk
    · exact h.bP (hh ▸ hk)
  subst he
  refine ⟨⟨ho, ?_, RowsAt.add (T := fun k => L.go = some k ∨ k = b) (w := w) rfl hvs hu hx hP (fun k hk => hk) hb hr, h.bP, fun k hk => ?_, fun k hk => ?_, fun k hk => Nat.lt_of_lt_of_le (h.lt k hk) hx.size, ?_, fun k hk => ?_⟩, hx.weak (fun k _ hk => ?_), fun k hk => ?_⟩
  · refine h.q.exc hx (fun k hk hh => ?_) hP
    rcases hh with hh | hh
    · exact (h.bq k hk).2.2 hh
    · exact (h.bq k hk).1 hh
  · refine ⟨(h.bq k hk).1, (h.bq k hk).2.1, fun h2 => ?_⟩
    rcases hl k h2 with h1 | h1
    · exact (h.bq k hk).2.2 h1
    · have := h.q.lt hk; omega
  · rcases hl k hk with h1 | h1
    · exact h.bo k h1
    · exact ⟨by omega, fun h2 => by have := h.lt k h2; omega⟩
  · have hf := h.fit
    exact ⟨hf.que, by show (x.una ++ [l]).length ≤ 127; rw [List.length_append, List.length_singleton]; omega, by show x.plc ≤ (x.una ++ [l]).length; rw [List.length_append]; have := hf.plc; omega, hf.lm1, hf.lm2, hf.lo1, hf.lo2, hf.sent, hf.acc⟩
  · rcases hk with hk | hk
    · exact h.wide k (.inl hk)
    · rcases List.mem_append.1 hk with hk | hk
      · exact h.wide k (.inr hk)
      · rw [List.mem_singleton.1 hk]; exact hw
  · rcases hk with hk | hk
    · exact .inr (.inr (.inl hk))
    · exact .inl hk
  · rcases hk with hk | hk | hk | hk
    · exact .inl (.inl hk)
    · exact .inl (.inr (.inl hk))
    · rcases hl k hk with h1 | h1
      · exact .inl (.inr (.inr (.inl h1)))
      · exact .inr h1
    · exact .inl (.inr (.inr (.inr hk)))
/-- The queue goes on behind its first elements. -/
theorem EndL.cutq {w w' : World} {b : Nat} {x x' : En} {L : ELay} {a' : Option Addr} {c' p : Nat} (h : EndL w b x L) (hx : Exc (fun k => k = b) w w') (hr : RowsAt w L.P L.gq a' c' (x.que.drop p)) (he : x' = { x with que := x.que.drop p })
    (ho : Own w' b 79 (endCells x' { L with aq := a', cq := c' })) : EndL w' b x' { L with aq := a', cq := c' } := by
  have hP : ∀ k, L.P k → ¬ (k = b) := fun k hk hh => h.bP (hh ▸ hk)
  subst he
  have hf := h.fit
  refine ⟨ho, hr.exc hx (fun k hk => (h.bq k hk).1) hP, h.o.exc hx (fun k hk => (h.bo k hk).1) hP, h.bP, h.bq, h.bo, fun k hk => Nat.lt_of_lt_of_le (h.lt k hk) hx.size, ⟨by show (x.que.drop p).length ≤ 64; rw [List.length_drop]; have := hf.que; omega, hf.una, hf.plc, hf.lm1, hf.lm2, hf.lo1, hf.lo2, hf.sent, hf.acc⟩, fun k hk => ?_⟩
  rcases hk with hk | hk
  · exact h.wide k (.inl (List.mem_of_mem_drop hk))
  · exact h.wide k (.inr hk)
/-- The open ones go on behind their first elements. -/
theorem EndL.cuto {w w' : World} {b : Nat} {x x' : En} {L : ELay} {a' : Option Addr} {c' p : Nat} (h : EndL w b x L) (hx : Exc (fun k => k = b) w w') (hr : RowsAt w L.P L.go a' c' (x.una.drop p)) (hq : x'.que = x.que) (hu : x'.una = x.una.drop p) (hf : x'.Fit)
    (ho : Own w' b 79 (endCells x' { L with ao := a', co := c' })) : EndL w' b x' { L with ao := a', co := c' } := by
  have hP : ∀ k, L.P k → ¬ (k = b) := fun k hk hh => h.bP (hh ▸ hk)
  refine ⟨ho, by rw [hq]; exact h.q.exc hx (fun k hk => (h.bq k hk).1) hP, by rw [hu]; exact hr.exc hx (fun k hk => (h.bo k hk).1) hP, h.bP, h.bq, h.bo, fun k hk => Nat.lt_of_lt_of_le (h.lt k hk) hx.size, hf, fun k hk => ?_⟩
  rw [hq, hu] at hk
  rcases hk with hk | hk
  · exact h.wide k (.inl hk)
  · exact h.wide k (.inr (List.mem_of_mem_drop hk))
/-- One row as a source. -/
theorem src_row1 {w : World} {e0 : Nat} {v : Value} (h : Own w e0 36 [v]) (hv : v.oneCell' = true) : Src Try.prog 1 52 (.slice (some ⟨e0, 0, none⟩) 1 1) 1 [v] w :=
  Src.ofSlice w Try.underlying52 ⟨e0, 0, none⟩ 1 1 _ rfl (fun j x hj => by
    have hlt : j < [v].length := (List.getElem?_eq_some_iff.1 hj).1
    rw [Addr.add_lit, Nat.zero_add, h.cell j hlt]
    simp [List.getD_eq_getElem?_getD, hj]) (fun x hx => by
    simp only [List.mem_singleton] at hx
    rw [hx]; exact hv)
theorem elemR : Try.prog.elem 52 = 36 := by kernel_rfl
theorem undR : Try.prog.underlying 52 = some (.slice (Try.prog.elem 52)) := by rw [elemR]; exact Try.underlying52
theorem sizeR_run (w : World) : (sizeOf 36).run Try.prog w = .ok 1 w := by
  obtain ⟨i, hi, _, hs, _⟩ := info_parts infoRow
  simp [sizeOf, typeInfo, hi, hs]
/-- v[p:] of loads: one equation of the run, one reading. -/
theorem rows_cut {w : World} {P : Nat → Prop} {g : Option Nat} {a : Option Addr} {c : Nat} {ls : List (List Int)} (h : RowsAt w P g a c ls) (p : Nat) (hp : p ≤ ls.length) (_hs : ls.length ≤ 1000) :
    ∃ A : Option Addr, (∀ W, (Instr.slice 52 (.slice a ls.length c) (some (.int .i64 (p : Int))) none none).run Try.prog W = .ok (.slice A (ls.length - p) (c - p)) W) ∧
      (∀ W, (Instr.sliceAt 52 (.slice a ls.length c) (some (.int .i64 (p : Int))) none none).run Try.prog W = .ok (.slice A (ls.length - p) (c - p)) W) ∧ RowsAt w P g A (c - p) (ls.drop p) := by
  have hle := h.le.1
  have key : ∀ W, (Instr.slice 52 (.slice a ls.length c) (some (.int .i64 (p : Int))) none none).run Try.prog W = .ok (.slice (if c = p then a else a.map (·.add (p * 1))) (ls.length - p) (c - p)) W := by
    intro W
    rw [run_slice_l W 52 a ls.length c undR .i64 (p : Int) (by omega) (by omega), elemR, sizeR_run]
    simp [sliced, Result.andThen]
  refine ⟨_, key, fun W => by rw [run_sliceAt_slice _ _ _ _ _ _ undR]; exact key W, ?_⟩
  exact h.cut p hp (if c = p then a else a.map (·.add (p * 1))) (fun hlt b o ha => by rw [if_neg (by omega), ha]; simp [Addr.add]) (fun he => by rw [if_pos he.symm])
end Go.Proofs.Ytdjnflfcolpccaa
