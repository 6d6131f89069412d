/- Slices of structs that grow: k cells an element. -/
import Derived.Test.YtppbcehcaeeocaaBaseEx
namespace Go.Proofs.Ytppbcehcaeeocaa
open Go.RowKit

theorem ownsK_exc {S : Nat → Prop} {w w' : World} {B e k n : Nat} {v : Value} {xs : List Value} (h : w.ownsRow B e k v n xs) (hx : Exc S w w') (hn : ∀ j, v.ownBlock = some j → ¬ S j) : w'.ownsRow B e k v n xs := by
  obtain ⟨h1, h2⟩ := h
  refine ⟨h1, ?_⟩
  rcases h2 with h2 | ⟨g, cap, cur, rfl, hg, hh, r⟩
  · exact .inl h2
  · refine .inr ⟨g, cap, cur, rfl, hg, ?_, r⟩
    rw [hx.block g (Array.getElem?_eq_some_iff.1 hh).1 (hn g rfl)]; exact hh
theorem ownsK_below {w w' : World} {B e k n : Nat} {v : Value} {xs : List Value} (h : w.ownsRow B e k v n xs) (hx : Below w.heap.size w w') : w'.ownsRow B e k v n xs :=
  ownsK_exc (S := fun _ => False) h (Exc.of_below hx) (fun _ _ h => h)
theorem ownsK_lt {w : World} {B e k n : Nat} {v : Value} {xs : List Value} (h : w.ownsRow B e k v n xs) {j : Nat} (hj : v.ownBlock = some j) : B ≤ j ∧ j < w.heap.size := by
  rcases h.2 with ⟨rfl, _⟩ | ⟨g, cap, cur, rfl, hg, hh, _⟩
  · cases hj
  · cases hj; exact ⟨hg, (Array.getElem?_eq_some_iff.1 hh).1⟩
/-- What a row of the call's own holds. -/
theorem ownsK_cells {w : World} {B e k n : Nat} {v : Value} {xs : List Value} (h : w.ownsRow B e k v n xs) (hn : 0 < n) : ∃ b c, v = .slice (some ⟨b, 0, none⟩) n c ∧ n ≤ c ∧ c ≤ maxLen ∧ B ≤ b ∧ b < w.heap.size ∧ (∀ i, i < n * k → w.cell? ⟨b, i, none⟩ = some (xs.getD i undef) ∧ w.frozen? ⟨b, i, none⟩ = false) := by
  rcases h.2 with ⟨rfl, h0⟩ | ⟨g, cap, cur, rfl, hb, hg, hle, hc, hs, ht⟩
  · omega
  · refine ⟨g, cap, rfl, hle, hc, hb, (Array.getElem?_eq_some_iff.1 hg).1, fun i hi => ⟨?_, frozen_of_row w g i cur e hg⟩⟩
    rw [cell_of_row w g i cur e _ hg]
    have hh := congrArg (fun z => z[i]?) ht
    simp only [List.getElem?_take, hi, if_true] at hh
    have hl : i < xs.length := by rw [h.1]; exact hi
    rw [← Array.getElem?_toList, hh, List.getD_eq_getElem?_getD, List.getElem?_eq_getElem hl]
    rfl
theorem ownsK_len {w : World} {B e k n : Nat} {v : Value} {xs : List Value} (h : w.ownsRow B e k v n xs) : ∃ a c, v = .slice a n c ∧ n ≤ c ∧ c ≤ maxLen := by
  rcases h.2 with ⟨rfl, h0⟩ | ⟨g, cap, cur, rfl, hb, hg, hle, hc, hs, ht⟩
  · subst h0; exact ⟨none, 0, rfl, Nat.le_refl _, Nat.zero_le _⟩
  · exact ⟨_, cap, rfl, hle, hc⟩
/-- append(v, s), v of the call's own, s a struct of k cells. -/
theorem wpList_append_agg {t e : TypeId} {z : Value} {k bytes : Nat} (ht : Try.prog.underlying t = some (.slice e)) (hin : (Try.prog.info? e).map (fun i => (i.zero, i.size, i.bytes)) = some (some z, k, bytes)) (hz : z.cells.size = k) (hk : 0 < k) (hby8 : bytes ≤ 64)
    {ops : Array Oper} {rest : List Oper} {o : Oper} {a : Act} {Q : Exit → Act → World → Prop} {w0 : World} (hgd : o.guard = none) (s x : Operand)
    (ho : o.op = .call { callee := .builtin .append, args := #[s, x], argTypes := #[t, t] })
    (B : Nat) (v : Value) (n : Nat) (xs cs : List Value) (hcl : cs.length = k) (h1 : ∀ u ∈ cs, u.oneCell' = true) (hs : a.eval s = v) (hown : w0.ownsRow B e k v n xs) (hx : a.eval x = .slice (some ⟨w0.heap.size, 0, none⟩) 1 1)
    (hn : n + 1 ≤ 1099511627776) (hB : B ≤ w0.heap.size)
    (h : ∀ v' w', w'.ownsRow B e k v' (n + 1) (xs ++ cs) → Grow v w0 v' w' → (∃ g c, v' = .slice (some ⟨g, 0, none⟩) (n + 1) c) → wpList Try.prog ops Q rest (a.put o.dst v') w') :
    wpList Try.prog ops Q (o :: rest) a (w0.alloc (.cells cs.toArray e)) := by
  obtain ⟨i0, hi, hz0, hz1, hz2⟩ := info_parts hin
  have hbb : (n + 1) * bytes ≤ 140737488355328 := by
    have : (n + 1) * bytes ≤ 1099511627776 * 64 := Nat.mul_le_mul hn hby8
    omega
  refine wpList_append_lies _ hgd s x t ho B e i0 z k bytes ht hi hz0 hz1 hz2 hz hk v n xs hs (ownsK_below hown (below_alloc w0 _)) ⟨w0.heap.size, 0, none⟩ 1 1 cs hx (by rw [Nat.one_mul]; exact hcl) (fun j u hj => ?_) h1 (by decide) (by unfold maxLen; omega) hbb (by simp; omega) (w0.heap.size + 1) (by simp) ?_
  · have hj0 := (List.getElem?_eq_some_iff.1 hj).1
    have ho : Own (w0.alloc (.cells cs.toArray e)) w0.heap.size e cs := heap_alloc_new w0 _
    have e1 : (⟨w0.heap.size, 0, none⟩ : Addr).add j = ⟨w0.heap.size, j, none⟩ := by unfold Addr.add; split <;> simp_all
    rw [e1, ho.cell j hj0, List.getD_eq_getElem?_getD, hj]; rfl
  · intro g cap w' h1 h2 h3 h4
    refine h _ w' h1 ⟨?_, ?_⟩ ⟨_, _, rfl⟩
    · exact ((Exc.refl _ w0).alloc _).trans (Exc.of_grown h2) (fun _ _ hh => hh)
    · intro j hj
      simp only [Value.ownBlock, Option.some.injEq] at hj
      subst hj
      rcases h3 with h3 | h3
      · exact .inl h3
      · exact .inr (by omega)
end Go.Proofs.Ytppbcehcaeeocaa
