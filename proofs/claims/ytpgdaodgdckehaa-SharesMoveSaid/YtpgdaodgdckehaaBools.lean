/- Slices of bools: their words, append of one bool. -/
import Derived.Test.YtpgdaodgdckehaaBaseEx
namespace Go.Proofs.Ytpgdaodgdckehaa
open Go.RowKit

def bools (l : List Bool) : List Value := l.map Value.bool
theorem bools_length (l : List Bool) : (bools l).length = l.length := by simp [bools]
theorem bools_getD (l : List Bool) (j : Nat) (hj : j < l.length) : (bools l).getD j undef = .bool (l.getD j true) := by simp [bools, hj]
theorem bools_set (l : List Bool) (j : Nat) (x : Bool) : (bools l).set j (.bool x) = bools (l.set j x) := by simp [bools, List.map_set]
/-- A slice value reads in w as the bools l. -/
structure BRow (w : World) (a : Option Addr) (n c : Nat) (l : List Bool) : Prop where
  len : l.length = n
  le : n ≤ c
  max : c ≤ maxLen
  cells : n = 0 ∨ ∃ b off, a = some ⟨b, off, none⟩ ∧ ∀ i, i < n → w.cell? ⟨b, off + i, none⟩ = some (.bool (l.getD i true))
theorem BRow.of_nil (w : World) : BRow w none 0 0 [] := ⟨rfl, Nat.le_refl _, Nat.zero_le _, .inl rfl⟩
theorem BRow.later {w w' : World} {a : Option Addr} {n c : Nat} {l : List Bool} (h : BRow w a n c l) (hb : Below w.heap.size w w') : BRow w' a n c l := by
  refine ⟨h.len, h.le, h.max, ?_⟩
  rcases h.cells with h0 | ⟨b, off, ha, hc⟩
  · exact .inl h0
  · refine .inr ⟨b, off, ha, fun i hi => ?_⟩
    have := hc i hi
    rw [hb.cell (p := ⟨b, off + i, none⟩) (by exact World.block_lt_of_cell? w _ this)]
    exact this
theorem BRow.exc {S : Nat → Prop} {w w' : World} {a : Option Addr} {n c : Nat} {l : List Bool} (h : BRow w a n c l) (hx : Exc S w w') (hn : ∀ x, a = some x → ¬ S x.block) : BRow w' a n c l := by
  refine ⟨h.len, h.le, h.max, ?_⟩
  rcases h.cells with h0 | ⟨b, off, ha, hc⟩
  · exact .inl h0
  · exact .inr ⟨b, off, ha, fun i hi => hx.cell (hc i hi) (by have := hn _ ha; exact this)⟩
theorem BRow.front {w : World} {a : Option Addr} {n c : Nat} {l : List Bool} (h : BRow w a n c l) (m : Nat) (hm : m ≤ n) : BRow w a m c (l.take m) := by
  obtain ⟨hl, hle, hmx, hc⟩ := h
  refine ⟨by rw [List.length_take]; omega, by omega, hmx, ?_⟩
  rcases hc with h0 | ⟨b, o, ha, hc⟩
  · exact .inl (by omega)
  · refine .inr ⟨b, o, ha, fun i hi => ?_⟩
    rw [hc i (by omega)]
    simp [List.getD_eq_getElem?_getD, hi]
theorem BRow.at {w : World} {a : Option Addr} {n c : Nat} {l : List Bool} (h : BRow w a n c l) (hn : 0 < n) : ∃ b off, a = some ⟨b, off, none⟩ ∧ ∀ i, i < n → w.cell? ⟨b, off + i, none⟩ = some (.bool (l.getD i true)) := by
  rcases h.cells with h0 | h
  · omega
  · exact h
theorem Own.brow {w : World} {b t : Nat} {l : List Bool} {rest : List Value} (h : Own w b t (bools l ++ rest)) (n c : Nat) (hn : n = l.length) (hc : n ≤ c) (hm : c ≤ maxLen) : BRow w (some ⟨b, 0, none⟩) n c l := by
  refine ⟨hn.symm, hc, hm, .inr ⟨b, 0, rfl, fun i hi => ?_⟩⟩
  rw [Nat.zero_add, h.cell i (by rw [List.length_append, bools_length]; omega)]
  rw [List.getD_eq_getElem?_getD, List.getElem?_append_left (by rw [bools_length]; omega), ← List.getD_eq_getElem?_getD, bools_getD _ _ (by omega)]
theorem ownsRow_brow {w : World} {B e n : Nat} {v : Value} {l : List Bool} (h : w.ownsRow B e 1 v n (bools l)) :
    ∃ a c, v = .slice a n c ∧ BRow w a n c l ∧ (∀ x, a = some x → B ≤ x.block) ∧ (a = none → l = []) := by
  have hn : l.length = n := by have := h.1; rw [bools_length] at this; omega
  subst hn
  rcases h.2 with ⟨rfl, h0⟩ | ⟨g, cap, cur, rfl, hb, hg, hn, hc, hs, ht⟩
  · have : l = [] := List.eq_nil_of_length_eq_zero h0
    subst this
    exact ⟨none, 0, rfl, BRow.of_nil _, by simp, fun _ => rfl⟩
  · refine ⟨_, cap, rfl, ⟨rfl, hn, hc, .inr ⟨g, 0, rfl, fun i hi => ?_⟩⟩, by intro x hx; cases hx; exact hb, by simp⟩
    rw [cell_of_row w g (0 + i) cur e _ hg, Nat.zero_add]
    have hh := congrArg (fun z => z[i]?) ht
    simp only [List.getElem?_take, Nat.mul_one, hi, if_true] at hh
    rw [← Array.getElem?_toList, hh]
    simp [bools, hi]
theorem infoB : (Try.prog.info? 4).map (fun i => (i.zero, i.size, i.bytes)) = some (some (.bool false), 1, 1) := by kernel_rfl
/-- append(v, y), v of the call's own. -/
theorem wpList_append_bool {t : TypeId} (ht : Try.prog.underlying t = some (.slice 4))
    {ops : Array Oper} {rest : List Oper} {o : Oper} {a : Act} {Q : Exit → Act → World → Prop} {w0 : World} (hgd : o.guard = none) (s x : Operand)
    (ho : o.op = .call { callee := .builtin .append, args := #[s, x], argTypes := #[t, t] })
    (B : Nat) (v : Value) (n : Nat) (xs : List Bool) (y : Bool) (hs : a.eval s = v) (hown : w0.ownsRow B 4 1 v n (bools xs)) (hx : a.eval x = .slice (some ⟨w0.heap.size, 0, none⟩) 1 1)
    (hn : n + 1 ≤ 2199023255552) (hB : B ≤ w0.heap.size)
    (h : ∀ v' w', w'.ownsRow B 4 1 v' (n + 1) (bools (xs ++ [y])) → Grow v w0 v' w' → (∃ g c, v' = .slice (some ⟨g, 0, none⟩) (n + 1) c) → wpList Try.prog ops Q rest (a.put o.dst v') w') :
    wpList Try.prog ops Q (o :: rest) a (w0.alloc (.cells #[.bool y] 4)) := by
  obtain ⟨i0, hi, hz0, hz1, hz2⟩ := info_parts infoB
  have hbb : (n + 1) * 1 ≤ 140737488355328 := by omega
  refine wpList_append_lies _ hgd s x t ho B 4 i0 (.bool false) 1 1 ht hi hz0 hz1 hz2 rfl (by decide) v n (bools xs) hs (hown.alloc _) ⟨w0.heap.size, 0, none⟩ 1 1 [.bool y] hx rfl (cell_one_new w0 _ _) (fun u hu => by simp at hu; subst hu; rfl) (by decide) (by unfold maxLen; omega) hbb (by simp; omega) (w0.heap.size + 1) (by simp) ?_
  intro g cap w' h1 h2 h3 h4
  have e1 : bools (xs ++ [y]) = bools xs ++ [.bool y] := by simp [bools]
  refine h _ w' (by rw [e1]; exact h1) ⟨?_, ?_⟩ ⟨_, _, rfl⟩
  · exact ((Exc.refl _ w0).alloc _).trans (Exc.of_grown h2) (fun _ _ hh => hh)
  · intro j hj
    simp only [Value.ownBlock, Option.some.injEq] at hj
    subst hj
    rcases h3 with h3 | h3
    · exact .inl h3
    · exact .inr (by omega)
theorem ownsRow_bnil (w : World) (B : Nat) : w.ownsRow B 4 1 (.slice none 0 0) 0 (bools []) := ⟨rfl, .inl ⟨rfl, rfl⟩⟩
end Go.Proofs.Ytpgdaodgdckehaa
