/- Joined: BaseEx PlAt AggRow PlCells. -/
import Derived.Test.YthlckipcgogogaaGreatDoorBase
import Derived.Deep.AppendLies
import Derived.Test.YthlckipcgogogaaGreatDoorPlN
/- What a call may have turned; a slice that grows; an append of one element. -/
namespace Go.Proofs.YthlckipcgogogaaGreatDoor
set_option linter.unusedVariables false
open Go.RowKit

/-- Of what there was only the blocks of S may have changed. -/
structure Exc (S : Nat → Prop) (w w' : World) : Prop where
  os : w'.os = w.os
  tape : w'.tape = w.tape
  output : w'.output = w.output
  size : w.heap.size ≤ w'.heap.size
  block : ∀ k, k < w.heap.size → ¬ S k → w'.heap[k]? = w.heap[k]?
theorem Exc.refl (S : Nat → Prop) (w : World) : Exc S w w := ⟨rfl, rfl, rfl, Nat.le_refl _, fun _ _ _ => rfl⟩
theorem Exc.trans {S S' : Nat → Prop} {a b c : World} (h : Exc S a b) (k : Exc S' b c) (hs : ∀ i, i < a.heap.size → S' i → S i) : Exc S a c :=
  ⟨k.os.trans h.os, k.tape.trans h.tape, k.output.trans h.output, Nat.le_trans h.size k.size, fun i hi hn => (k.block i (Nat.lt_of_lt_of_le hi h.size) (fun hh => hn (hs i hi hh))).trans (h.block i hi hn)⟩
theorem Exc.weak {S S' : Nat → Prop} {a b : World} (h : Exc S a b) (hs : ∀ i, i < a.heap.size → S i → S' i) : Exc S' a b :=
  ⟨h.os, h.tape, h.output, h.size, fun i hi hn => h.block i hi fun hh => hn (hs i hi hh)⟩
theorem Exc.of_below {S : Nat → Prop} {w w' : World} (h : Below w.heap.size w w') : Exc S w w' := ⟨h.os, h.tape, h.output, h.size, fun k hk _ => h.block k hk⟩
theorem Exc.of_grown {w w' : World} {r : Option Nat} (h : w.grownBy w' r) : Exc (fun k => r = some k) w w' := ⟨h.os, h.tape, h.output, h.size, fun k hk hn => h.block k hk (fun e => hn e.symm)⟩
theorem Exc.below {S : Nat → Prop} {w w' : World} {B : Nat} (h : Exc S w w') (hB : B ≤ w.heap.size) (hs : ∀ i, i < w.heap.size → S i → B ≤ i) : Below B w w' :=
  ⟨h.os, h.tape, h.output, h.size, fun k hk => h.block k (by omega) (fun hh => by have := hs k (by omega) hh; omega)⟩
theorem Exc.alloc {S : Nat → Prop} {a w : World} (h : Exc S a w) (o : Obj) : Exc S a (w.alloc o) :=
  h.trans (S' := fun _ => False) ⟨rfl, rfl, rfl, by simp, fun k hk _ => Below.heap_alloc _ _ _ hk⟩ (fun _ _ hh => hh.elim)
theorem Exc.drawN {S : Nat → Prop} {a w : World} (h : Exc S a w) (n : Nat) : Exc S a (w.drewN n) :=
  h.trans (S' := fun _ => False) (Exc.of_below (below_draw w n)) (fun _ _ hh => hh.elim)
theorem Exc.setCell {S : Nat → Prop} {a w : World} (h : Exc S a w) (p : Addr) (hp : S p.block ∨ a.heap.size ≤ p.block) (u : Value) : Exc S a (w.setCell p u) :=
  h.trans (S' := fun k => k = p.block) ⟨rfl, rfl, rfl, by simp [World.setCell], fun k _ hn => Below.heap_setCell _ _ _ _ hn⟩ (fun i hi hh => by subst hh; rcases hp with h | h; exact h; omega)
theorem Exc.cell {S : Nat → Prop} {w w' : World} (h : Exc S w w') {p : Addr} {v : Value} (hc : w.cell? p = some v) (hn : ¬ S p.block) : w'.cell? p = some v := by
  rw [World.cell?_of_block (w := w) (h.block _ (World.block_lt_of_cell? w _ hc) hn)]; exact hc
theorem Row.exc {S : Nat → Prop} {k : IntKind} {w w' : World} {a : Option Addr} {n c : Nat} {l : List Int} (hr : Row k w a n c l) (h : Exc S w w') (hne : ∀ x, a = some x → ¬ S x.block) : Row k w' a n c l := by
  refine ⟨hr.len, hr.le, hr.max, hr.wf, ?_, hr.isNil⟩
  rcases hr.cells with h0 | ⟨b', off, ha, hc⟩
  · exact .inl h0
  · exact .inr ⟨b', off, ha, fun i hi => h.cell (hc i hi) (by have := hne _ ha; exact this)⟩
theorem ownsRow_exc {S : Nat → Prop} {w w' : World} {B e n : Nat} {v : Value} {xs : List Value} (h : w.ownsRow B e 1 v n xs) (hx : Exc S w w') (hn : ∀ k, v.ownBlock = some k → ¬ S k) : w'.ownsRow B e 1 v n xs := by
  obtain ⟨h1, h2⟩ := h
  refine ⟨h1, ?_⟩
  rcases h2 with h2 | ⟨g, cap, cur, rfl, hg, hh, r⟩
  · exact .inl h2
  · refine .inr ⟨g, cap, cur, rfl, hg, ?_, r⟩
    rw [hx.block g (Array.getElem?_eq_some_iff.1 hh).1 (hn g rfl)]; exact hh
theorem ownsRow_below {w w' : World} {B e n : Nat} {v : Value} {xs : List Value} (h : w.ownsRow B e 1 v n xs) (hx : Below w.heap.size w w') : w'.ownsRow B e 1 v n xs :=
  ownsRow_exc (S := fun _ => False) h (Exc.of_below hx) (fun _ _ h => h)
theorem ownsRow_mono {w : World} {B B' e n : Nat} {v : Value} {xs : List Value} (h : w.ownsRow B e 1 v n xs) (hB : B' ≤ B) : w.ownsRow B' e 1 v n xs := by
  obtain ⟨h1, h2⟩ := h
  refine ⟨h1, ?_⟩
  rcases h2 with h2 | ⟨g, cap, cur, rfl, hg, r⟩
  · exact .inl h2
  · exact .inr ⟨g, cap, cur, rfl, by omega, r⟩
theorem ownBlock_lt {w : World} {B e n : Nat} {v : Value} {xs : List Value} (h : w.ownsRow B e 1 v n xs) {k : Nat} (hk : v.ownBlock = some k) : B ≤ k ∧ k < w.heap.size := World.ownsRow.lt h k hk
/-- A slice that grows: what v was when the world was w, and what it is now. -/
structure Grow (v0 : Value) (w : World) (v : Value) (w' : World) : Prop where
  exc : Exc (fun k => v0.ownBlock = some k) w w'
  lies : ∀ k, v.ownBlock = some k → v0.ownBlock = some k ∨ w.heap.size ≤ k
theorem Grow.refl (v : Value) (w : World) : Grow v w v w := ⟨Exc.refl _ _, fun _ h => .inl h⟩
theorem Grow.trans {v0 v1 v2 : Value} {w w1 w2 : World} (h : Grow v0 w v1 w1) (k : Grow v1 w1 v2 w2) : Grow v0 w v2 w2 :=
  ⟨h.exc.trans k.exc fun i hi hh => by rcases h.lies i hh with h | h; exact h; omega,
   fun i hi => by
    rcases k.lies i hi with hh | hh
    · exact h.lies i hh
    · have := h.exc.size; exact .inr (by omega)⟩
theorem Grow.below {v0 v : Value} {w w' : World} (h : Grow v0 w v w') {B : Nat} (hB : B ≤ w.heap.size) (hv : ∀ k, v0.ownBlock = some k → B ≤ k) : Below B w w' := h.exc.below hB fun i _ hh => hv i hh
theorem Grow.nil {v : Value} {w w' : World} (h : Grow (.slice none 0 0) w v w') : Below w.heap.size w w' := h.below (Nat.le_refl _) (by simp [Value.ownBlock])
theorem Grow.drawN {v0 v : Value} {w w' : World} (h : Grow v0 w v w') (n : Nat) : Grow v0 w v (w'.drewN n) := ⟨h.exc.drawN n, h.lies⟩
theorem Grow.more {v0 v : Value} {w w' w'' : World} (h : Grow v0 w v w') (hb : Below w'.heap.size w' w'') : Grow v0 w v w'' := ⟨h.exc.trans (S' := fun _ => False) (Exc.of_below hb) (fun _ _ hh => hh.elim), h.lies⟩
/-- append(v, y), v of the call's own. -/
theorem wpList_append_one {k : IntKind} {t e : TypeId} {bytes : Nat} (ht : Tryz.prog.underlying t = some (.slice e)) (hin : (Tryz.prog.info? e).map (fun i => (i.zero, i.size, i.bytes)) = some (some (.int k 0), 1, bytes)) (hby8 : bytes ≤ 8)
    {ops : Array Oper} {rest : List Oper} {o : Oper} {a : Act} {Q : Exit → Act → World → Prop} {w0 : World} (hgd : o.guard = none) (s x : Operand)
    (ho : o.op = .call { callee := .builtin .append, args := #[s, x], argTypes := #[t, t] })
    (B : Nat) (v : Value) (n : Nat) (xs : List Int) (y : Int) (hs : a.eval s = v) (hown : w0.ownsRow B e 1 v n (nums k xs)) (hx : a.eval x = .slice (some ⟨w0.heap.size, 0, none⟩) 1 1)
    (hn : n + 1 ≤ 2199023255552) (hB : B ≤ w0.heap.size)
    (h : ∀ v' w', w'.ownsRow B e 1 v' (n + 1) (nums k (xs ++ [y])) → Grow v w0 v' w' → (∃ g c, v' = .slice (some ⟨g, 0, none⟩) (n + 1) c) → wpList Tryz.prog ops Q rest (a.put o.dst v') w') :
    wpList Tryz.prog ops Q (o :: rest) a (w0.alloc (.cells #[.int k y] e)) := by
  obtain ⟨i0, hi, hz0, hz1, hz2⟩ := info_parts hin
  have hbb : (n + 1) * bytes ≤ 140737488355328 := by
    have : (n + 1) * bytes ≤ 2199023255552 * 8 := Nat.mul_le_mul hn hby8
    omega
  refine wpList_append_lies _ hgd s x t ho B e i0 (.int k 0) 1 bytes ht hi hz0 hz1 hz2 rfl (by decide) v n (nums k xs) hs (hown.alloc _) ⟨w0.heap.size, 0, none⟩ 1 1 [.int k y] hx rfl (cell_one_new w0 _ _) (fun u hu => by simp at hu; subst hu; rfl) (by decide) (by unfold maxLen; omega) hbb (by simp; omega) (w0.heap.size + 1) (by simp) ?_
  intro g cap w' h1 h2 h3 h4
  have e1 : nums k (xs ++ [y]) = nums k xs ++ [.int k y] := by simp [nums]
  refine h _ w' (by rw [e1]; exact h1) ⟨?_, ?_⟩ ⟨_, _, rfl⟩
  · exact ((Exc.refl _ w0).alloc _).trans (Exc.of_grown h2) (fun _ _ hh => hh)
  · intro j hj
    simp only [Value.ownBlock, Option.some.injEq] at hj
    subst hj
    rcases h3 with h3 | h3
    · exact .inl h3
    · exact .inr (by omega)
end Go.Proofs.YthlckipcgogogaaGreatDoor
/- Plans as values: the slices of places and lines, read in a world. -/
namespace Go.Proofs.YthlckipcgogogaaGreatDoor
set_option linter.unusedVariables false
open Go.RowKit

/-- A slice value reads in w as the places P. -/
structure PRow (w : World) (a : Option Addr) (n c : Nat) (P : List (Int × Bool)) : Prop where
  len : P.length = n
  le : n ≤ c
  max : c ≤ maxLen
  wf : ∀ x ∈ P, 0 ≤ x.1 ∧ x.1 ≤ 65535
  cells : n = 0 ∨ ∃ b off, a = some ⟨b, off, none⟩ ∧ ∀ i, i < n → w.cell? ⟨b, off + i * 2, none⟩ = some (.int .u16 (pc P i)) ∧ w.cell? ⟨b, off + i * 2 + 1, none⟩ = some (.bool (pt P i))
  isNil : a = none → c = 0
theorem PRow.of_nil (w : World) : PRow w none 0 0 [] := ⟨rfl, Nat.le_refl _, Nat.zero_le _, by simp, .inl rfl, fun _ => rfl⟩
theorem PRow.exc {S : Nat → Prop} {w w' : World} {a : Option Addr} {n c : Nat} {P : List (Int × Bool)} (h : PRow w a n c P) (hx : Exc S w w') (hn : ∀ x, a = some x → ¬ S x.block) : PRow w' a n c P := by
  refine ⟨h.len, h.le, h.max, h.wf, ?_, h.isNil⟩
  rcases h.cells with h0 | ⟨b, off, ha, hc⟩
  · exact .inl h0
  · have hb : ¬ S b := hn _ ha
    exact .inr ⟨b, off, ha, fun i hi => ⟨hx.cell (hc i hi).1 hb, hx.cell (hc i hi).2 hb⟩⟩
theorem PRow.later {w w' : World} {a : Option Addr} {n c : Nat} {P : List (Int × Bool)} (h : PRow w a n c P) (hb : Below w.heap.size w w') : PRow w' a n c P :=
  h.exc (S := fun _ => False) (Exc.of_below hb) (fun _ _ h => h)
/-- A slice value reads in w as the lines L. -/
structure LRow (w : World) (a : Option Addr) (n c : Nat) (L : List Ln) : Prop where
  len : L.length = n
  le : n ≤ c
  max : c ≤ maxLen
  wf : ∀ x ∈ L, (0 ≤ x.A ∧ x.A ≤ 65535) ∧ (0 ≤ x.B ∧ x.B ≤ 65535) ∧ (0 ≤ x.C ∧ x.C ≤ 255) ∧ (-9223372036854775808 ≤ x.D ∧ x.D ≤ 9223372036854775807)
  cells : n = 0 ∨ ∃ b off, a = some ⟨b, off, none⟩ ∧ ∀ i, i < n → w.cell? ⟨b, off + i * 4, none⟩ = some (.int .u16 (lnAt L i).A) ∧ w.cell? ⟨b, off + i * 4 + 1, none⟩ = some (.int .u16 (lnAt L i).B) ∧ w.cell? ⟨b, off + i * 4 + 2, none⟩ = some (.int .u8 (lnAt L i).C) ∧ w.cell? ⟨b, off + i * 4 + 3, none⟩ = some (.int .i64 (lnAt L i).D)
  isNil : a = none → c = 0
theorem LRow.of_nil (w : World) : LRow w none 0 0 [] := ⟨rfl, Nat.le_refl _, Nat.zero_le _, by simp, .inl rfl, fun _ => rfl⟩
theorem LRow.exc {S : Nat → Prop} {w w' : World} {a : Option Addr} {n c : Nat} {L : List Ln} (h : LRow w a n c L) (hx : Exc S w w') (hn : ∀ x, a = some x → ¬ S x.block) : LRow w' a n c L := by
  refine ⟨h.len, h.le, h.max, h.wf, ?_, h.isNil⟩
  rcases h.cells with h0 | ⟨b, off, ha, hc⟩
  · exact .inl h0
  · have hb : ¬ S b := hn _ ha
    exact .inr ⟨b, off, ha, fun i hi => ⟨hx.cell (hc i hi).1 hb, hx.cell (hc i hi).2.1 hb, hx.cell (hc i hi).2.2.1 hb, hx.cell (hc i hi).2.2.2 hb⟩⟩
theorem LRow.later {w w' : World} {a : Option Addr} {n c : Nat} {L : List Ln} (h : LRow w a n c L) (hb : Below w.heap.size w w') : LRow w' a n c L :=
  h.exc (S := fun _ => False) (Exc.of_below hb) (fun _ _ h => h)
/-- A plan's value from its parts. -/
def planV (a : Option Addr) (n c : Nat) (a' : Option Addr) (n' c' : Nat) (p : Pn) : Value := .agg #[.slice a n c, .slice a' n' c', .int .i64 p.rate, .int .i64 p.room, .int .i64 p.m0, .int .i64 p.m1, .int .i64 p.m2]
end Go.Proofs.YthlckipcgogogaaGreatDoor
/- Slices of structs that grow: k cells an element. -/
namespace Go.Proofs.YthlckipcgogogaaGreatDoor
set_option linter.unusedVariables false
open Go.RowKit

theorem ownsK_exc {S : Nat → Prop} {w w' : World} {B e k n : Nat} {v : Value} {xs : List Value} (h : w.ownsRow B e k v n xs) (hx : Exc S w w') (hn : ∀ j, v.ownBlock = some j → ¬ S j) : w'.ownsRow B e k v n xs := by
  obtain ⟨h1, h2⟩ := h
  refine ⟨h1, ?_⟩
  rcases h2 with h2 | ⟨g, cap, cur, rfl, hg, hh, r⟩
  · exact .inl h2
  · refine .inr ⟨g, cap, cur, rfl, hg, ?_, r⟩
    rw [hx.block g (Array.getElem?_eq_some_iff.1 hh).1 (hn g rfl)]; exact hh
theorem ownsK_below {w w' : World} {B e k n : Nat} {v : Value} {xs : List Value} (h : w.ownsRow B e k v n xs) (hx : Below w.heap.size w w') : w'.ownsRow B e k v n xs :=
  ownsK_exc (S := fun _ => False) h (Exc.of_below hx) (fun _ _ h => h)
theorem ownsK_lt {w : World} {B e k n : Nat} {v : Value} {xs : List Value} (h : w.ownsRow B e k v n xs) {j : Nat} (hj : v.ownBlock = some j) : B ≤ j ∧ j < w.heap.size := by
  rcases h.2 with ⟨rfl, _⟩ | ⟨g, cap, cur, rfl, hg, hh, _⟩
  · cases hj
  · cases hj; exact ⟨hg, (Array.getElem?_eq_some_iff.1 hh).1⟩
/-- What a row of the call's own holds. -/
theorem ownsK_cells {w : World} {B e k n : Nat} {v : Value} {xs : List Value} (h : w.ownsRow B e k v n xs) (hn : 0 < n) : ∃ b c, v = .slice (some ⟨b, 0, none⟩) n c ∧ n ≤ c ∧ c ≤ maxLen ∧ B ≤ b ∧ b < w.heap.size ∧ (∀ i, i < n * k → w.cell? ⟨b, i, none⟩ = some (xs.getD i undef) ∧ w.frozen? ⟨b, i, none⟩ = false) := by
  rcases h.2 with ⟨rfl, h0⟩ | ⟨g, cap, cur, rfl, hb, hg, hle, hc, hs, ht⟩
  · omega
  · refine ⟨g, cap, rfl, hle, hc, hb, (Array.getElem?_eq_some_iff.1 hg).1, fun i hi => ⟨?_, frozen_of_row w g i cur e hg⟩⟩
    rw [cell_of_row w g i cur e _ hg]
    have hh := congrArg (fun z => z[i]?) ht
    simp only [List.getElem?_take, hi, if_true] at hh
    have hl : i < xs.length := by rw [h.1]; exact hi
    rw [← Array.getElem?_toList, hh, List.getD_eq_getElem?_getD, List.getElem?_eq_getElem hl]
    rfl
theorem ownsK_len {w : World} {B e k n : Nat} {v : Value} {xs : List Value} (h : w.ownsRow B e k v n xs) : ∃ a c, v = .slice a n c ∧ n ≤ c ∧ c ≤ maxLen := by
  rcases h.2 with ⟨rfl, h0⟩ | ⟨g, cap, cur, rfl, hb, hg, hle, hc, hs, ht⟩
  · subst h0; exact ⟨none, 0, rfl, Nat.le_refl _, Nat.zero_le _⟩
  · exact ⟨_, cap, rfl, hle, hc⟩
/-- append(v, s), v of the call's own, s a struct of k cells. -/
theorem wpList_append_agg {t e : TypeId} {z : Value} {k bytes : Nat} (ht : Tryz.prog.underlying t = some (.slice e)) (hin : (Tryz.prog.info? e).map (fun i => (i.zero, i.size, i.bytes)) = some (some z, k, bytes)) (hz : z.cells.size = k) (hk : 0 < k) (hby8 : bytes ≤ 64)
    {ops : Array Oper} {rest : List Oper} {o : Oper} {a : Act} {Q : Exit → Act → World → Prop} {w0 : World} (hgd : o.guard = none) (s x : Operand)
    (ho : o.op = .call { callee := .builtin .append, args := #[s, x], argTypes := #[t, t] })
    (B : Nat) (v : Value) (n : Nat) (xs cs : List Value) (hcl : cs.length = k) (h1 : ∀ u ∈ cs, u.oneCell' = true) (hs : a.eval s = v) (hown : w0.ownsRow B e k v n xs) (hx : a.eval x = .slice (some ⟨w0.heap.size, 0, none⟩) 1 1)
    (hn : n + 1 ≤ 1099511627776) (hB : B ≤ w0.heap.size)
    (h : ∀ v' w', w'.ownsRow B e k v' (n + 1) (xs ++ cs) → Grow v w0 v' w' → (∃ g c, v' = .slice (some ⟨g, 0, none⟩) (n + 1) c) → wpList Tryz.prog ops Q rest (a.put o.dst v') w') :
    wpList Tryz.prog ops Q (o :: rest) a (w0.alloc (.cells cs.toArray e)) := by
  obtain ⟨i0, hi, hz0, hz1, hz2⟩ := info_parts hin
  have hbb : (n + 1) * bytes ≤ 140737488355328 := by
    have : (n + 1) * bytes ≤ 1099511627776 * 64 := Nat.mul_le_mul hn hby8
    omega
  refine wpList_append_lies _ hgd s x t ho B e i0 z k bytes ht hi hz0 hz1 hz2 hz hk v n xs hs (ownsK_below hown (below_alloc w0 _)) ⟨w0.heap.size, 0, none⟩ 1 1 cs hx (by rw [Nat.one_mul]; exact hcl) (fun j u hj => ?_) h1 (by decide) (by unfold maxLen; omega) hbb (by simp; omega) (w0.heap.size + 1) (by simp) ?_
  · have hj0 := (List.getElem?_eq_some_iff.1 hj).1
    have ho : Own (w0.alloc (.cells cs.toArray e)) w0.heap.size e cs := heap_alloc_new w0 _
    have e1 : (⟨w0.heap.size, 0, none⟩ : Addr).add j = ⟨w0.heap.size, j, none⟩ := by unfold Addr.add; split <;> simp_all
    rw [e1, ho.cell j hj0, List.getD_eq_getElem?_getD, hj]; rfl
  · intro g cap w' h1 h2 h3 h4
    refine h _ w' h1 ⟨?_, ?_⟩ ⟨_, _, rfl⟩
    · exact ((Exc.refl _ w0).alloc _).trans (Exc.of_grown h2) (fun _ _ hh => hh)
    · intro j hj
      simp only [Value.ownBlock, Option.some.injEq] at hj
      subst hj
      rcases h3 with h3 | h3
      · exact .inl h3
      · exact .inr (by omega)
end Go.Proofs.YthlckipcgogogaaGreatDoor
/- The cells of lines; a row of lines that a call owns. -/
namespace Go.Proofs.YthlckipcgogogaaGreatDoor
set_option linter.unusedVariables false
open Go.RowKit

def encLn (l : Ln) : List Value := [.int .u16 l.A, .int .u16 l.B, .int .u8 l.C, .int .i64 l.D]
def cellsL (L : List Ln) : List Value := L.flatMap encLn
theorem cellsL_getD (L : List Ln) {i : Nat} (hi : i < L.length) : (cellsL L).getD (i * 4) undef = .int .u16 (lnAt L i).A ∧ (cellsL L).getD (i * 4 + 1) undef = .int .u16 (lnAt L i).B ∧ (cellsL L).getD (i * 4 + 2) undef = .int .u8 (lnAt L i).C ∧ (cellsL L).getD (i * 4 + 3) undef = .int .i64 (lnAt L i).D := by
  induction L generalizing i with
  | nil => cases hi
  | cons x L ih =>
    cases i with
    | zero => simp [cellsL, encLn, lnAt]
    | succ i =>
      have h := ih (i := i) (by simpa using hi)
      have e : cellsL (x :: L) = .int .u16 x.A :: .int .u16 x.B :: .int .u8 x.C :: .int .i64 x.D :: cellsL L := rfl
      rw [e, show (i + 1) * 4 = i * 4 + 1 + 1 + 1 + 1 by omega]
      simp only [List.getD_cons_succ]
      have e2 : lnAt (x :: L) (i + 1) = lnAt L i := by simp [lnAt]
      rw [e2]
      exact h
theorem cellsL_length (L : List Ln) : (cellsL L).length = L.length * 4 := by
  induction L with
  | nil => rfl
  | cons x L ih => simp only [cellsL, List.flatMap_cons, List.length_append, encLn, List.length_cons, List.length_nil] at *; omega
theorem infoLn : (Tryz.prog.info? 76).map (fun i => (i.zero, i.size, i.bytes)) = some (some (.agg #[.int .u16 0, .int .u16 0, .int .u8 0, .int .i64 0]), 4, 16) := by kernel_rfl
theorem lrow_of_owns {w : World} {B e n : Nat} {v : Value} {L : List Ln} (h : w.ownsRow B e 4 v n (cellsL L)) (hn : L.length = n) (hw : ∀ x ∈ L, (0 ≤ x.A ∧ x.A ≤ 65535) ∧ (0 ≤ x.B ∧ x.B ≤ 65535) ∧ (0 ≤ x.C ∧ x.C ≤ 255) ∧ (-9223372036854775808 ≤ x.D ∧ x.D ≤ 9223372036854775807)) : ∃ a c, v = .slice a n c ∧ LRow w a n c L ∧ ∀ z, a = some z → B ≤ z.block := by
  by_cases h0 : 0 < n
  · obtain ⟨b, c, rfl, h1, h2, hb, _, hc⟩ := ownsK_cells h h0
    refine ⟨_, c, rfl, ⟨hn, h1, h2, hw, .inr ⟨b, 0, rfl, fun i hi => ?_⟩, by simp⟩, fun z hz => by cases hz; exact hb⟩
    obtain ⟨q0, q1, q2, q3⟩ := cellsL_getD L (i := i) (by omega)
    simp only [Nat.zero_add]
    exact ⟨by rw [(hc _ (by omega)).1, q0], by rw [(hc _ (by omega)).1, q1], by rw [(hc _ (by omega)).1, q2], by rw [(hc _ (by omega)).1, q3]⟩
  · rcases h.2 with ⟨rfl, h9⟩ | ⟨g, cap, cur, rfl, hb, hg, hle, hc, hs, ht⟩
    · subst h9
      have hL : L = [] := List.eq_nil_of_length_eq_zero hn
      subst hL
      exact ⟨none, 0, rfl, LRow.of_nil _, fun z hz => by cases hz⟩
    · exact ⟨_, cap, rfl, ⟨hn, hle, hc, hw, .inl (by omega), by simp⟩, fun z hz => by cases hz; exact hb⟩
end Go.Proofs.YthlckipcgogogaaGreatDoor
