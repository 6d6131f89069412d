/- What a call may have turned; a slice that grows; an append of one element. -/
import Derived.Test.YtahkmadapojjkaaBase
import Derived.Deep.AppendLies
namespace Go.Proofs.Ytahkmadapojjkaa
open Go.RowKit

/-- Of what there was only the blocks of S may have changed. -/
structure Exc (S : Nat → Prop) (w w' : World) : Prop where
  os : w'.os = w.os
  tape : w'.tape = w.tape
  output : w'.output = w.output
  size : w.heap.size ≤ w'.heap.size
  block : ∀ k, k < w.heap.size → ¬ S k → w'.heap[k]? = w.heap[k]?
theorem Exc.refl (S : Nat → Prop) (w : World) : Exc S w w := ⟨rfl, rfl, rfl, Nat.le_refl _, fun _ _ _ => rfl⟩
theorem Exc.trans {S S' : Nat → Prop} {a b c : World} (h : Exc S a b) (k : Exc S' b c) (hs : ∀ i, i < a.heap.size → S' i → S i) : Exc S a c :=
  ⟨k.os.trans h.os, k.tape.trans h.tape, k.output.trans h.output, Nat.le_trans h.size k.size, fun i hi hn => (k.block i (Nat.lt_of_lt_of_le hi h.size) (fun hh => hn (hs i hi hh))).trans (h.block i hi hn)⟩
theorem Exc.weak {S S' : Nat → Prop} {a b : World} (h : Exc S a b) (hs : ∀ i, i < a.heap.size → S i → S' i) : Exc S' a b :=
  ⟨h.os, h.tape, h.output, h.size, fun i hi hn => h.block i hi fun hh => hn (hs i hi hh)⟩
theorem Exc.of_below {S : Nat → Prop} {w w' : World} (h : Below w.heap.size w w') : Exc S w w' := ⟨h.os, h.tape, h.output, h.size, fun k hk _ => h.block k hk⟩
theorem Exc.of_grown {w w' : World} {r : Option Nat} (h : w.grownBy w' r) : Exc (fun k => r = some k) w w' := ⟨h.os, h.tape, h.output, h.size, fun k hk hn => h.block k hk (fun e => hn e.symm)⟩
theorem Exc.below {S : Nat → Prop} {w w' : World} {B : Nat} (h : Exc S w w') (hB : B ≤ w.heap.size) (hs : ∀ i, i < w.heap.size → S i → B ≤ i) : Below B w w' :=
  ⟨h.os, h.tape, h.output, h.size, fun k hk => h.block k (by omega) (fun hh => by have := hs k (by omega) hh; omega)⟩
theorem Exc.alloc {S : Nat → Prop} {a w : World} (h : Exc S a w) (o : Obj) : Exc S a (w.alloc o) :=
  h.trans (S' := fun _ => False) ⟨rfl, rfl, rfl, by simp, fun k hk _ => Below.heap_alloc _ _ _ hk⟩ (fun _ _ hh => hh.elim)
theorem Exc.drawN {S : Nat → Prop} {a w : World} (h : Exc S a w) (n : Nat) : Exc S a (w.drewN n) :=
  h.trans (S' := fun _ => False) (Exc.of_below (below_draw w n)) (fun _ _ hh => hh.elim)
theorem Exc.setCell {S : Nat → Prop} {a w : World} (h : Exc S a w) (p : Addr) (hp : S p.block ∨ a.heap.size ≤ p.block) (u : Value) : Exc S a (w.setCell p u) :=
  h.trans (S' := fun k => k = p.block) ⟨rfl, rfl, rfl, by simp [World.setCell], fun k _ hn => Below.heap_setCell _ _ _ _ hn⟩ (fun i hi hh => by subst hh; rcases hp with h | h; exact h; omega)
theorem Exc.cell {S : Nat → Prop} {w w' : World} (h : Exc S w w') {p : Addr} {v : Value} (hc : w.cell? p = some v) (hn : ¬ S p.block) : w'.cell? p = some v := by
  rw [World.cell?_of_block (w := w) (h.block _ (World.block_lt_of_cell? w _ hc) hn)]; exact hc
theorem Row.exc {S : Nat → Prop} {k : IntKind} {w w' : World} {a : Option Addr} {n c : Nat} {l : List Int} (hr : Row k w a n c l) (h : Exc S w w') (hne : ∀ x, a = some x → ¬ S x.block) : Row k w' a n c l := by
  refine ⟨hr.len, hr.le, hr.max, hr.wf, ?_, hr.isNil⟩
  rcases hr.cells with h0 | ⟨b', off, ha, hc⟩
  · exact .inl h0
  · exact .inr ⟨b', off, ha, fun i hi => h.cell (hc i hi) (by have := hne _ ha; exact this)⟩
theorem ownsRow_exc {S : Nat → Prop} {w w' : World} {B e n : Nat} {v : Value} {xs : List Value} (h : w.ownsRow B e 1 v n xs) (hx : Exc S w w') (hn : ∀ k, v.ownBlock = some k → ¬ S k) : w'.ownsRow B e 1 v n xs := by
  obtain ⟨h1, h2⟩ := h
  refine ⟨h1, ?_⟩
  rcases h2 with h2 | ⟨g, cap, cur, rfl, hg, hh, r⟩
  · exact .inl h2
  · refine .inr ⟨g, cap, cur, rfl, hg, ?_, r⟩
    rw [hx.block g (Array.getElem?_eq_some_iff.1 hh).1 (hn g rfl)]; exact hh
theorem ownsRow_below {w w' : World} {B e n : Nat} {v : Value} {xs : List Value} (h : w.ownsRow B e 1 v n xs) (hx : Below w.heap.size w w') : w'.ownsRow B e 1 v n xs :=
  ownsRow_exc (S := fun _ => False) h (Exc.of_below hx) (fun _ _ h => h)
theorem ownsRow_mono {w : World} {B B' e n : Nat} {v : Value} {xs : List Value} (h : w.ownsRow B e 1 v n xs) (hB : B' ≤ B) : w.ownsRow B' e 1 v n xs := by
  obtain ⟨h1, h2⟩ := h
  refine ⟨h1, ?_⟩
  rcases h2 with h2 | ⟨g, cap, cur, rfl, hg, r⟩
  · exact .inl h2
  · exact .inr ⟨g, cap, cur, rfl, by omega, r⟩
theorem ownBlock_lt {w : World} {B e n : Nat} {v : Value} {xs : List Value} (h : w.ownsRow B e 1 v n xs) {k : Nat} (hk : v.ownBlock = some k) : B ≤ k ∧ k < w.heap.size := World.ownsRow.lt h k hk
/-- A slice that grows: what v was when the world was w, and what it is now. -/
structure Grow (v0 : Value) (w : World) (v : Value) (w' : World) : Prop where
  exc : Exc (fun k => v0.ownBlock = some k) w w'
  lies : ∀ k, v.ownBlock = some k → v0.ownBlock = some k ∨ w.heap.size ≤ k
theorem Grow.refl (v : Value) (w : World) : Grow v w v w := ⟨Exc.refl _ _, fun _ h => .inl h⟩
theorem Grow.trans {v0 v1 v2 : Value} {w w1 w2 : World} (h : Grow v0 w v1 w1) (k : Grow v1 w1 v2 w2) : Grow v0 w v2 w2 :=
  ⟨h.exc.trans k.exc fun i hi hh => by rcases h.lies i hh with h | h; exact h; omega,
   fun i hi => by
    rcases k.lies i hi with hh | hh
    · exact h.lies i hh
    · have := h.exc.size; exact .inr (by omega)⟩
theorem Grow.below {v0 v : Value} {w w' : World} (h : Grow v0 w v w') {B : Nat} (hB : B ≤ w.heap.size) (hv : ∀ k, v0.ownBlock = some k → B ≤ k) : Below B w w' := h.exc.below hB fun i _ hh => hv i hh
theorem Grow.nil {v : Value} {w w' : World} (h : Grow (.slice none 0 0) w v w') : Below w.heap.size w w' := h.below (Nat.le_refl _) (by simp [Value.ownBlock])
theorem Grow.drawN {v0 v : Value} {w w' : World} (h : Grow v0 w v w') (n : Nat) : Grow v0 w v (w'.drewN n) := ⟨h.exc.drawN n, h.lies⟩
theorem Grow.more {v0 v : Value} {w w' w'' : World} (h : Grow v0 w v w') (hb : Below w'.heap.size w' w'') : Grow v0 w v w'' := ⟨h.exc.trans (S' := fun _ => False) (Exc.of_below hb) (fun _ _ hh => hh.elim), h.lies⟩
/-- append(v, y), v of the call's own. -/
theorem wpList_append_one {k : IntKind} {t e : TypeId} {bytes : Nat} (ht : Try.prog.underlying t = some (.slice e)) (hin : (Try.prog.info? e).map (fun i => (i.zero, i.size, i.bytes)) = some (some (.int k 0), 1, bytes)) (hby8 : bytes ≤ 8)
    {ops : Array Oper} {rest : List Oper} {o : Oper} {a : Act} {Q : Exit → Act → World → Prop} {w0 : World} (hgd : o.guard = none) (s x : Operand)
    (ho : o.op = .call { callee := .builtin .append, args := #[s, x], argTypes := #[t, t] })
    (B : Nat) (v : Value) (n : Nat) (xs : List Int) (y : Int) (hs : a.eval s = v) (hown : w0.ownsRow B e 1 v n (nums k xs)) (hx : a.eval x = .slice (some ⟨w0.heap.size, 0, none⟩) 1 1)
    (hn : n + 1 ≤ 2199023255552) (hB : B ≤ w0.heap.size)
    (h : ∀ v' w', w'.ownsRow B e 1 v' (n + 1) (nums k (xs ++ [y])) → Grow v w0 v' w' → (∃ g c, v' = .slice (some ⟨g, 0, none⟩) (n + 1) c) → wpList Try.prog ops Q rest (a.put o.dst v') w') :
    wpList Try.prog ops Q (o :: rest) a (w0.alloc (.cells #[.int k y] e)) := by
  obtain ⟨i0, hi, hz0, hz1, hz2⟩ := info_parts hin
  have hbb : (n + 1) * bytes ≤ 140737488355328 := by
    have : (n + 1) * bytes ≤ 2199023255552 * 8 := Nat.mul_le_mul hn hby8
    omega
  refine wpList_append_lies _ hgd s x t ho B e i0 (.int k 0) 1 bytes ht hi hz0 hz1 hz2 rfl (by decide) v n (nums k xs) hs (hown.alloc _) ⟨w0.heap.size, 0, none⟩ 1 1 [.int k y] hx rfl (cell_one_new w0 _ _) (fun u hu => by simp at hu; subst hu; rfl) (by decide) (by unfold maxLen; omega) hbb (by simp; omega) (w0.heap.size + 1) (by simp) ?_
  intro g cap w' h1 h2 h3 h4
  have e1 : nums k (xs ++ [y]) = nums k xs ++ [.int k y] := by simp [nums]
  refine h _ w' (by rw [e1]; exact h1) ⟨?_, ?_⟩ ⟨_, _, rfl⟩
  · exact ((Exc.refl _ w0).alloc _).trans (Exc.of_grown h2) (fun _ _ hh => hh)
  · intro j hj
    simp only [Value.ownBlock, Option.some.injEq] at hj
    subst hj
    rcases h3 with h3 | h3
    · exact .inl h3
    · exact .inr (by omega)
end Go.Proofs.Ytahkmadapojjkaa
