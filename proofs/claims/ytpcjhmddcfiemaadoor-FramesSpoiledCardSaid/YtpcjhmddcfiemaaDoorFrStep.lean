/- append of a row inside a region that draws its order. -/
import Derived.Test.YtpcjhmddcfiemaaDoorFrContents
namespace Go.Proofs.YtpcjhmddcfiemaaDoor
open Go.RowKit

theorem step_append_row {ops : Array Oper} {o : Oper} {a : Act} {K : Act → World → Prop} {Q : Exit → Act → World → Prop} {E : Prop} {wx : World} (hgd : o.guard = none) (s x : Operand)
    (ho : o.op = .call { callee := .builtin .append, args := #[s, x], argTypes := #[35, 35] })
    (B : Nat) (P : Nat → Prop) (T : Bool) (v u : Value) (L : List (List Int)) (l : List Int) (hs : a.eval s = v) (hown : OwnMat wx B P T v L) (hu : RowV wx P T u l) (hPv : ∀ k, v.ownBlock = some k → ¬ P k)
    (e0 : Nat) (hx : a.eval x = .slice (some ⟨e0, 0, none⟩) 1 1) (hc : wx.cell? ⟨e0, 0, none⟩ = some u)
    (hn : L.length + 1 ≤ 2199023255552) (hB : B ≤ wx.heap.size)
    (h : ∀ v' w', OwnMat w' B P T v' (L ++ [l]) → Grow v wx v' w' → K (a.put o.dst v') w') :
    if Region.wanted o (yielded ops a.tmps) = true then Oper.wp Tryd.prog o a wx K Q else E := by
  obtain ⟨i0, hi, hz0, hz1, hz2⟩ := info_parts infoRow
  obtain ⟨vs, hvs, hr⟩ := hown.own
  have hbb : (L.length + 1) * 24 ≤ 140737488355328 := by omega
  have hu1 : u.oneCell' = true := by obtain ⟨a, c, rfl, _⟩ := hu; rfl
  refine step_append_lies wx hgd s x _ ho B _ i0 (.slice none 0 0) 1 24 Tryd.underlying35 hi hz0 hz1 hz2 rfl (by decide) v L.length vs hs hvs ⟨e0, 0, none⟩ 1 1 [u] hx rfl ?_ (fun u' hu' => by simp at hu'; subst hu'; exact hu1) (by decide) (by unfold maxLen; omega) hbb hB wx.heap.size rfl ?_
  · intro j u' hj
    have hj0 : j = 0 := by
      have := (List.getElem?_eq_some_iff.1 hj).1
      simp at this
      exact this
    subst hj0
    simp at hj
    subst hj
    exact hc
  intro g cap w' h1 h2 h3 h4
  have hexc : Exc (fun k => v.ownBlock = some k) wx w' := Exc.of_grown h2
  have hnS : ∀ k, P k → ¬ (v.ownBlock = some k) := fun k hk hh => hPv k hh hk
  refine h _ w' ⟨vs ++ [u], by simpa using h1, fun i hi => ?_⟩ ⟨hexc, ?_⟩
  · have hvl := hvs.1
    rw [List.length_append, List.length_singleton] at hi
    by_cases hil : i < L.length
    · have e1 : (vs ++ [u]).getD i undef = vs.getD i undef := by rw [List.getD_eq_getElem?_getD, List.getElem?_append_left (by omega), ← List.getD_eq_getElem?_getD]
      have e2 : (L ++ [l]).getD i [] = L.getD i [] := by rw [List.getD_eq_getElem?_getD, List.getElem?_append_left hil, ← List.getD_eq_getElem?_getD]
      rw [e1, e2]
      exact (hr i hil).exc hexc hnS
    · obtain rfl : i = L.length := by omega
      have e1 : (vs ++ [u]).getD L.length undef = u := by rw [List.getD_eq_getElem?_getD, List.getElem?_append_right (by omega)]; simp [show L.length - vs.length = 0 by omega]
      have e2 : (L ++ [l]).getD L.length [] = l := by rw [List.getD_eq_getElem?_getD, List.getElem?_append_right (by omega)]; simp
      rw [e1, e2]
      exact hu.exc hexc hnS
  · intro j hj
    simp only [Value.ownBlock, Option.some.injEq] at hj
    subst hj
    rcases h3 with h3 | h3
    · exact .inl h3
    · exact .inr (by omega)
end Go.Proofs.YtpcjhmddcfiemaaDoor
