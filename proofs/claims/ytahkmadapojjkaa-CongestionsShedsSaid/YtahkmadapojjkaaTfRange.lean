/- 'for k, v := range m' over a map that is a function from keys to elements: every element comes, in some order. -/
import Derived.Test.YtahkmadapojjkaaTfMap
import Derived.Maps.RangeRun
namespace Go.Proofs.Ytahkmadapojjkaa
open Go.RowKit Go.Maps Go.ChangeMaps

/-- A loop over the map at block b is under way, with its iterator at r: those that L holds of are still to come, and cnt of them are left. -/
def RangeAt (P : Program) (k : TypeId) (w : World) (b r : Nat) (f : Value → Option Value) (L : Value → Prop) (cnt : Nat) : Prop :=
  ∃ es clock since seen c0, w.heap[b]? = some (.map es clock) ∧ w.heap[r]? = some (.mapIter (some b) since seen c0) ∧ (∀ x ∈ es.toList, x.born < since) ∧ since ≤ c0 ∧ since ≤ clock ∧ (leftOf es seen).size = cnt ∧
    (∀ e ∈ es.toList, ∃ l, keyOf P k e.key = some l) ∧ MapKept.Stamped es clock ∧ (∀ e ∈ es.toList, f e.key = some e.val) ∧ (∀ x v, f x = some v → ∃ e ∈ es.toList, e.key = x ∧ e.val = v) ∧ ∀ e ∈ es.toList, L e.key ↔ seen.contains e.born = false
theorem RangeAt.map {P : Program} {k : TypeId} {w : World} {b r : Nat} {f : Value → Option Value} {L : Value → Prop} {cnt : Nat} (h : RangeAt P k w b r f L cnt) : MapAt P k w b f := by
  obtain ⟨es, clock, since, seen, c0, hb, _, _, _, _, _, h1, h2, h3, h4, _⟩ := h
  exact ⟨es, clock, hb, h1, h2, h3, h4⟩
theorem RangeAt.lt {P : Program} {k : TypeId} {w : World} {b r : Nat} {f : Value → Option Value} {L : Value → Prop} {cnt : Nat} (h : RangeAt P k w b r f L cnt) : r < w.heap.size := by
  obtain ⟨es, clock, since, seen, c0, _, hr, _⟩ := h
  exact (Array.getElem?_eq_some_iff.1 hr).1
theorem RangeAt.exc {P : Program} {k : TypeId} {w w' : World} {b r : Nat} {f : Value → Option Value} {L : Value → Prop} {cnt : Nat} {S : Nat → Prop} (h : RangeAt P k w b r f L cnt) (hx : Exc S w w') (h1 : ¬ S b) (h2 : ¬ S r) : RangeAt P k w' b r f L cnt := by
  have hl := h.lt
  have hm := h.map.lt
  obtain ⟨es, clock, since, seen, c0, hb, hr, h⟩ := h
  exact ⟨es, clock, since, seen, c0, by rw [hx.block b hm h1]; exact hb, by rw [hx.block r hl h2]; exact hr, h⟩
theorem RangeAt.left {P : Program} {k : TypeId} {w : World} {b r : Nat} {f : Value → Option Value} {L : Value → Prop} {cnt : Nat} (h : RangeAt P k w b r f L cnt) : w.heap[b]? ≠ none := by
  obtain ⟨es, clock, since, seen, c0, hb, _⟩ := h
  rw [hb]; exact Option.some_ne_none _
/-- How many are left, out of the world: for a loop's measure. -/
def leftN (w : World) (b r : Nat) : Nat :=
  match w.heap[b]?, w.heap[r]? with
  | some (.map es _), some (.mapIter _ _ seen _) => (leftOf es seen).size
  | _, _ => 0
theorem RangeAt.leftN {P : Program} {k : TypeId} {w : World} {b r : Nat} {f : Value → Option Value} {L : Value → Prop} {cnt : Nat} (h : RangeAt P k w b r f L cnt) : leftN w b r = cnt := by
  obtain ⟨es, clock, since, seen, c0, hb, hr, _, _, _, hc, _⟩ := h
  simp only [Go.Proofs.Ytahkmadapojjkaa.leftN, hb, hr]
  exact hc
/-- 'range m'. -/
theorem MapAt.range {P : Program} {k t e : TypeId} {w : World} {b : Nat} {f : Value → Option Value} (h : MapAt P k w b f) (ht : P.underlying t = some (.map k e)) :
    ∃ w' cnt, (Instr.range t (.map (some b))).run P w = .ok (.pointer (some ⟨w.heap.size, 0, none⟩)) w' ∧ RangeAt P k w' b w.heap.size f (fun _ => True) cnt ∧ Below w.heap.size w w' ∧ w'.heap.size = w.heap.size + 1 := by
  have hlt := h.lt
  obtain ⟨es, clock, hb, h1, h2, h3, h4⟩ := h
  refine ⟨_, _, run_range_map w t k e b es clock ht hb, ⟨es, clock, clock, #[], clock, ((MapKept.heap_alloc w _).2 b hlt).trans hb, (MapKept.heap_alloc w _).1, ((MapKept.stamped_iff _ _).1 h2).1, Nat.le_refl _, Nat.le_refl _, rfl, h1, h2, h3, h4, fun e _ => by simp⟩, below_alloc w _, by simp⟩
/-- The step: either nothing is left, or an entry comes that was still to come. -/
theorem RangeAt.next {P : Program} {k : TypeId} {w : World} {b r : Nat} {f : Value → Option Value} {L : Value → Prop} {cnt : Nat} (h : RangeAt P k w b r f L cnt) (ty : TypeId) :
    ((∀ x v, f x = some v → ¬ L x) ∧ (Instr.next (.pointer (some ⟨r, 0, none⟩)) false ty).run P w = .ok (.tuple #[.bool false]) w) ∨
    ∃ key v l w' cnt', keyOf P k key = some l ∧ L key ∧ f key = some v ∧ (Instr.next (.pointer (some ⟨r, 0, none⟩)) false ty).run P w = .ok (.tuple #[.bool true, key, v]) w' ∧ RangeAt P k w' b r f (fun x => L x ∧ x ≠ key) cnt' ∧ cnt' < cnt ∧ Exc (fun i => i = r) w w' ∧ w'.heap.size = w.heap.size ∧
      (Instr.entry (.pointer (some ⟨r, 0, none⟩))).run P w' = .ok (.tuple #[key, v]) w' := by
  obtain ⟨es, clock, since, seen, c0, hb, hr, hold, hsc, hsk, rfl, h1, h2, h3, h4, h5⟩ := h
  have hne : r ≠ b := fun e => by rw [e, hb] at hr; cases hr
  rcases run_next_at (P := P) w ty r b since c0 seen es clock hr hb hold hsc with ⟨h0, hrun⟩ | ⟨e, he, w1, hal, hrun⟩
  · refine .inl ⟨fun x v hx hl => ?_, hrun⟩
    obtain ⟨e, he, rfl, _⟩ := h4 x v hx
    have := (h5 e he).1 hl
    rw [all_seen es seen h0 e he] at this
    cases this
  · obtain ⟨hem, hes⟩ := mem_left he
    have hst := (MapKept.stamped_iff _ _).1 h2
    have hr1 : w1.heap[r]? = some (.mapIter (some b) since seen c0) := by rcases hal with rfl | rfl <;> exact hr
    have hb1 : w1.heap[b]? = some (.map es clock) := by rcases hal with rfl | rfl <;> exact hb
    have hset := MapKept.heap_set (o' := .mapIter (some b) since (seen.push e.born) clock) hr1
    have hb' : (setBlock w1 r (.mapIter (some b) since (seen.push e.born) clock)).heap[b]? = some (.map es clock) := (hset.2 b (fun e1 => hne e1.symm)).trans hb1
    obtain ⟨l, hl⟩ := h1 e hem
    refine .inr ⟨e.key, e.val, l, _, _, hl, (h5 e hem).2 hes, h3 e hem, hrun, ⟨es, clock, since, seen.push e.born, clock, hb', hset.1, hold, hsk, hsk, rfl, h1, h2, h3, h4, fun x hx => ?_⟩, left_shrinks es seen e he, ?_, ?_, run_entry_at _ r b since seen es clock e hset.1 hb' hem hst.2.1⟩
    · show (L x.key ∧ x.key ≠ e.key) ↔ _
      rw [h5 x hx, contains_push]
      constructor
      · rintro ⟨a1, a2⟩
        rw [a1, Bool.false_or, beq_eq_false_iff_ne]
        exact fun hh => a2 (congrArg MapEntry.key (born_inj hst.2.1 hx hem hh))
      · intro a
        rw [Bool.or_eq_false_iff, beq_eq_false_iff_ne] at a
        refine ⟨a.1, fun hh => a.2 ?_⟩
        have hk : ∀ {l : List MapEntry}, l.Pairwise (fun x y => x.key ≠ y.key) → ∀ {x y : MapEntry}, x ∈ l → y ∈ l → x.key = y.key → x = y := by
          intro l
          induction l with
          | nil => intro _ x y hx _ _; cases hx
          | cons a r ih =>
            intro hp x y hx hy hxy
            obtain ⟨p1, p2⟩ := List.pairwise_cons.1 hp
            rcases List.mem_cons.1 hx with ex | hx'
            · rcases List.mem_cons.1 hy with ey | hy'
              · rw [ex, ey]
              · exact absurd (ex ▸ hxy) (p1 y hy')
            · rcases List.mem_cons.1 hy with ey | hy'
              · exact absurd (ey ▸ hxy).symm (p1 x hx')
              · exact ih p2 hx' hy' hxy
        rw [hk hst.2.2 hx hem hh]
    · rcases hal with rfl | rfl <;> exact ⟨rfl, rfl, rfl, by simp [setBlock], fun i _ hi => hset.2 i (fun e1 => hi (by rw [e1]))⟩
    · rcases hal with rfl | rfl <;> simp [setBlock]
section
variable {P : Program} {w : World} {ops : Array Oper} {rest : List Oper} {o : Oper} {a : Act} {Q : Exit → Act → World → Prop}
theorem wpList_range (hg : o.guard = none) (m : Operand) (t : TypeId) (hop : o.op = Op.range t m) (k e : TypeId) (ht : P.underlying t = some (.map k e)) (b : Nat) (f : Value → Option Value)
    (hm : a.eval m = .map (some b)) (hat : MapAt P k w b f) (hK : ∀ w' cnt, RangeAt P k w' b w.heap.size f (fun _ => True) cnt → Below w.heap.size w w' → w'.heap.size = w.heap.size + 1 → wpList P ops Q rest (a.put o.dst (.pointer (some ⟨w.heap.size, 0, none⟩))) w') :
    wpList P ops Q (o :: rest) a w := by
  refine wpList_plain hg fun K' hK' => ?_
  obtain ⟨w', cnt, hrun, r1, r2, r3⟩ := hat.range ht
  unfold Oper.wp
  simp [execOp, hop, hm, hrun, Result.andThen]
  exact hK' _ _ (hK w' cnt r1 r2 r3)
theorem wpList_next (hg : o.guard = none) (it : Operand) (hop : o.op = Op.next it false) (k : TypeId) (b r : Nat) (f : Value → Option Value) (L : Value → Prop) (cnt : Nat) (hit : a.eval it = .pointer (some ⟨r, 0, none⟩)) (h : RangeAt P k w b r f L cnt)
    (hDone : (∀ x v, f x = some v → ¬ L x) → wpList P ops Q rest (a.put o.dst (.tuple #[.bool false])) w)
    (hMore : ∀ key v l w' cnt', keyOf P k key = some l → L key → f key = some v → RangeAt P k w' b r f (fun x => L x ∧ x ≠ key) cnt' → cnt' < cnt → Exc (fun i => i = r) w w' → w'.heap.size = w.heap.size →
      (Instr.entry (.pointer (some ⟨r, 0, none⟩))).run P w' = .ok (.tuple #[key, v]) w' → wpList P ops Q rest (a.put o.dst (.tuple #[.bool true, key, v])) w') : wpList P ops Q (o :: rest) a w := by
  refine wpList_plain hg fun K' hK' => ?_
  unfold Oper.wp
  rcases h.next o.type with ⟨h0, hrun⟩ | ⟨key, v, l, w', cnt', r1, r2, r3, hrun, r4, r5, r6, r7, r8⟩
  · simp [execOp, hop, hit, hrun, Result.andThen]
    exact hK' _ _ (hDone h0)
  · simp [execOp, hop, hit, hrun, Result.andThen]
    exact hK' _ _ (hMore key v l w' cnt' r1 r2 r3 r4 r5 r6 r7 r8)
end
end Go.Proofs.Ytahkmadapojjkaa
