/- append of many rows. -/
import Derived.Test.YtohhocndicnegaaDoorBaseFr
namespace Go.Proofs.YtohhocndicnegaaDoor
open Go.RowKit

/-- append(v, x...), v a slice of slices of the call's own; x holds something, or is nil. -/
theorem wpList_append_rows {ops : Array Oper} {rest : List Oper} {o : Oper} {a : Act} {Q : Exit → Act → World → Prop} {w0 : World} (hgd : o.guard = none) (s x : Operand)
    (ho : o.op = .call { callee := .builtin .append, args := #[s, x], argTypes := #[35, 35] })
    (B : Nat) (P : Nat → Prop) (T : Bool) (v : Value) (L M : List (List Int)) (xa : Option Addr) (m c : Nat) (hs : a.eval s = v) (hx : a.eval x = .slice xa m c) (hown : OwnMat w0 B P T v L) (hu : Mat w0 P T xa m c M) (hnil : M = [] → xa = none) (hPv : ∀ k, v.ownBlock = some k → ¬ P k)
    (hn : L.length + m ≤ 2199023255552) (hB : B ≤ w0.heap.size)
    (h : ∀ v' w', OwnMat w' B P T v' (L ++ M) → Grow v w0 v' w' → wpList Tryd.prog ops Q rest (a.put o.dst v') w') :
    wpList Tryd.prog ops Q (o :: rest) a w0 := by
  obtain ⟨i0, hi, hz0, hz1, hz2⟩ := info_parts infoRow
  obtain ⟨vs, hvs, hr⟩ := hown.own
  by_cases hm0 : m = 0
  · have hM0 : M = [] := List.eq_nil_of_length_eq_zero (by rw [hu.len, hm0])
    have hxa := hnil hM0
    subst hM0 hm0 hxa
    have hc0 := hu.isNil rfl
    subst hc0
    refine wpList_step fun K hK => ?_
    rw [if_pos (by unfold Region.wanted; rw [hgd])]
    have hrun := run_append_owned_none (P := Tryd.prog) (w := w0) B 35 o.type 22 i0 1 Tryd.underlying35 hi v L.length vs hvs
    unfold Oper.wp
    simp [execOp, ho, resolve, invoke, builtin, hs, hx, hrun, Result.andThen]
    exact hK _ _ (h v w0 (by simpa using hown) (Grow.refl _ _))
  · obtain ⟨bb, oo, rfl, hPb, hc⟩ : ∃ bb oo, xa = some ⟨bb, oo, none⟩ ∧ P bb ∧ ∀ i, i < m → ∃ v, w0.cell? ⟨bb, oo + i, none⟩ = some v ∧ RowV w0 P T v (M.getD i []) := by
      rcases hu.cells with h0 | ⟨bb, oo, ha, hp, hc⟩
      · exact absurd h0 hm0
      · exact ⟨bb, oo, ha, hp, hc⟩
    have hbb : (L.length + m) * 24 ≤ 140737488355328 := by omega
    let us : List Value := (List.range m).map fun i => (w0.cell? ⟨bb, oo + i, none⟩).getD undef
    have hus : us.length = m := by simp [us]
    have hget : ∀ i, i < m → us[i]? = some ((w0.cell? ⟨bb, oo + i, none⟩).getD undef) := fun i hi => by simp [us, hi]
    refine wpList_append_lies _ hgd s x _ ho B _ i0 (.slice none 0 0) 1 24 Tryd.underlying35 hi hz0 hz1 hz2 rfl (by decide) v L.length vs hs hvs ⟨bb, oo, none⟩ m c us hx (by rw [hus, Nat.mul_one]) ?_ ?_ (by omega) (by unfold maxLen; omega) hbb hB w0.heap.size rfl ?_
    · intro j u hj
      have hjm : j < m := by rw [← hus]; exact (List.getElem?_eq_some_iff.1 hj).1
      obtain ⟨u', hu', _⟩ := hc j hjm
      have hadd : (⟨bb, oo, none⟩ : Addr).add j = ⟨bb, oo + j, none⟩ := by unfold Addr.add; split <;> simp_all
      rw [hget j hjm, hu'] at hj
      rw [hadd, hu']
      simpa using hj
    · intro u hu'
      simp only [us, List.mem_map, List.mem_range] at hu'
      obtain ⟨i, hi', rfl⟩ := hu'
      obtain ⟨u2, hu2, ra, rc, rfl, _⟩ := hc i hi'
      rw [hu2]; rfl
    · intro g cap w' h1 h2 h3 h4
      have hexc : Exc (fun k => v.ownBlock = some k) w0 w' := Exc.of_grown h2
      have hnS : ∀ k, P k → ¬ (v.ownBlock = some k) := fun k hk hh => hPv k hh hk
      refine h _ w' ⟨vs ++ us, by rw [List.length_append, hu.len]; exact h1, fun i hi => ?_⟩ ⟨hexc, ?_⟩
      · have hvl := hvs.1
        rw [List.length_append, hu.len] at hi
        by_cases hil : i < L.length
        · have e1 : (vs ++ us).getD i undef = vs.getD i undef := by rw [List.getD_eq_getElem?_getD, List.getElem?_append_left (by omega), ← List.getD_eq_getElem?_getD]
          have e2 : (L ++ M).getD i [] = L.getD i [] := by rw [List.getD_eq_getElem?_getD, List.getElem?_append_left hil, ← List.getD_eq_getElem?_getD]
          rw [e1, e2]
          exact (hr i hil).exc hexc hnS
        · have hj : i - L.length < m := by omega
          obtain ⟨u', hu', hrv⟩ := hc (i - L.length) hj
          have e1 : (vs ++ us).getD i undef = u' := by
            rw [List.getD_eq_getElem?_getD, List.getElem?_append_right (by omega), show i - vs.length = i - L.length by omega, hget _ hj, hu']; rfl
          have e2 : (L ++ M).getD i [] = M.getD (i - L.length) [] := by rw [List.getD_eq_getElem?_getD, List.getElem?_append_right (by omega), ← List.getD_eq_getElem?_getD]
          rw [e1, e2]
          exact hrv.exc hexc hnS
      · intro j hj
        simp only [Value.ownBlock, Option.some.injEq] at hj
        subst hj
        rcases h3 with h3 | h3
        · exact .inl h3
        · exact .inr (by omega)
end Go.Proofs.YtohhocndicnegaaDoor
