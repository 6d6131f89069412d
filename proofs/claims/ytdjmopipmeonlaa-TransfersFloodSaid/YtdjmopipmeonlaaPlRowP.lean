import Derived.Test.YtdjmopipmeonlaaAggApp
/- append of one struct at a step of a region that draws; rows of places that a call owns. -/
namespace Go.Proofs.Ytdjmopipmeonlaa
set_option linter.unusedVariables false
open Go.RowKit

theorem step_append_agg {t e : TypeId} {z : Value} {k bytes : Nat} (ht : Try.prog.underlying t = some (.slice e)) (hin : (Try.prog.info? e).map (fun i => (i.zero, i.size, i.bytes)) = some (some z, k, bytes)) (hz : z.cells.size = k) (hk : 0 < k) (hby8 : bytes ≤ 64)
    {ops : Array Oper} {o : Oper} {a : Act} {K : Act → World → Prop} {Q : Exit → Act → World → Prop} {E : Prop} {wx : World} (hgd : o.guard = none) (s x : Operand)
    (ho : o.op = .call { callee := .builtin .append, args := #[s, x], argTypes := #[t, t] })
    (B : Nat) (v : Value) (n : Nat) (xs cs : List Value) (hcl : cs.length = k) (h1 : ∀ u ∈ cs, u.oneCell' = true) (hs : a.eval s = v) (hown : wx.ownsRow B e k v n xs) (g : Nat) (hx : a.eval x = .slice (some ⟨g, 0, none⟩) 1 1) (hg : Own wx g e cs)
    (hn : n + 1 ≤ 1099511627776) (hB : B ≤ wx.heap.size)
    (h : ∀ v' w', w'.ownsRow B e k v' (n + 1) (xs ++ cs) → Grow v wx v' w' → K (a.put o.dst v') w') :
    if Region.wanted o (yielded ops a.tmps) = true then Oper.wp Try.prog o a wx K Q else E := by
  obtain ⟨i0, hi, hz0, hz1, hz2⟩ := info_parts hin
  have hbb : (n + 1) * bytes ≤ 140737488355328 := by
    have : (n + 1) * bytes ≤ 1099511627776 * 64 := Nat.mul_le_mul hn hby8
    omega
  refine step_append_lies wx hgd s x t ho B e i0 z k bytes ht hi hz0 hz1 hz2 hz hk v n xs hs hown ⟨g, 0, none⟩ 1 1 cs hx (by rw [Nat.one_mul]; exact hcl) (fun j u hj => ?_) h1 (by decide) (by unfold maxLen; omega) hbb hB wx.heap.size rfl ?_
  · have hj0 := (List.getElem?_eq_some_iff.1 hj).1
    have e1 : (⟨g, 0, none⟩ : Addr).add j = ⟨g, j, none⟩ := by unfold Addr.add; split <;> simp_all
    rw [e1, hg.cell j hj0, List.getD_eq_getElem?_getD, hj]; rfl
  · intro g cap w' h1 h2 h3 h4
    refine h _ w' h1 ⟨Exc.of_grown h2, ?_⟩
    intro j hj
    simp only [Value.ownBlock, Option.some.injEq] at hj
    subst hj
    rcases h3 with h3 | h3
    · exact .inl h3
    · exact .inr (by omega)
def encP (l : Int × Bool) : List Value := [.int .u16 l.1, .bool l.2]
def cellsP (L : List (Int × Bool)) : List Value := L.flatMap encP
theorem cellsP_append (A B : List (Int × Bool)) : cellsP (A ++ B) = cellsP A ++ cellsP B := by simp [cellsP]
theorem cellsP_getD (L : List (Int × Bool)) {i : Nat} (hi : i < L.length) : (cellsP L).getD (i * 2) undef = .int .u16 (pc L i) ∧ (cellsP L).getD (i * 2 + 1) undef = .bool (pt L i) := by
  induction L generalizing i with
  | nil => cases hi
  | cons x L ih =>
    cases i with
    | zero => simp [cellsP, encP, pc, pt]
    | succ i =>
      have h := ih (i := i) (by simpa using hi)
      have e : cellsP (x :: L) = .int .u16 x.1 :: .bool x.2 :: cellsP L := rfl
      rw [e, show (i + 1) * 2 = i * 2 + 1 + 1 by omega]
      simp only [List.getD_cons_succ]
      have e2 : pc (x :: L) (i + 1) = pc L i := by simp [pc]
      have e3 : pt (x :: L) (i + 1) = pt L i := by simp [pt]
      rw [e2, e3]
      exact h
theorem infoPl : (Try.prog.info? 42).map (fun i => (i.zero, i.size, i.bytes)) = some (some (.agg #[.int .u16 0, .bool false]), 2, 4) := by kernel_rfl
theorem prow_of_owns {w : World} {B e n : Nat} {v : Value} {L : List (Int × Bool)} (h : w.ownsRow B e 2 v n (cellsP L)) (hn : L.length = n) (hw : ∀ x ∈ L, 0 ≤ x.1 ∧ x.1 ≤ 65535) : ∃ a c, v = .slice a n c ∧ PRow w a n c L ∧ ∀ z, a = some z → B ≤ z.block := by
  by_cases h0 : 0 < n
  · obtain ⟨b, c, rfl, h1, h2, hb, _, hc⟩ := ownsK_cells h h0
    refine ⟨_, c, rfl, ⟨hn, h1, h2, hw, .inr ⟨b, 0, rfl, fun i hi => ?_⟩, by simp⟩, fun z hz => by cases hz; exact hb⟩
    obtain ⟨q0, q1⟩ := cellsP_getD L (i := i) (by omega)
    simp only [Nat.zero_add]
    exact ⟨by rw [(hc _ (by omega)).1, q0], by rw [(hc _ (by omega)).1, q1]⟩
  · rcases h.2 with ⟨rfl, h9⟩ | ⟨g, cap, cur, rfl, hb, hg, hle, hc, hs, ht⟩
    · subst h9
      have hL : L = [] := List.eq_nil_of_length_eq_zero hn
      subst hL
      exact ⟨none, 0, rfl, PRow.of_nil _, fun z hz => by cases hz⟩
    · exact ⟨_, cap, rfl, ⟨hn, hle, hc, hw, .inl (by omega), by simp⟩, fun z hz => by cases hz; exact hb⟩
end Go.Proofs.Ytdjmopipmeonlaa
