/- Maps as functions from keys to elements: made, looked up, stored into, struck from. -/
import Derived.Test.YtahkmadapojjkaaBaseEx
import Derived.Maps.OwnSet
namespace Go.Proofs.Ytahkmadapojjkaa
open Go.Maps Go.ChangeMaps

/-- Block b of w is a map that holds at each key what f says. -/
def MapAt (P : Program) (k : TypeId) (w : World) (b : Nat) (f : Value → Option Value) : Prop :=
  ∃ es clock, w.heap[b]? = some (.map es clock) ∧ (∀ e ∈ es.toList, ∃ l, keyOf P k e.key = some l) ∧ MapKept.Stamped es clock ∧ (∀ e ∈ es.toList, f e.key = some e.val) ∧ ∀ x v, f x = some v → ∃ e ∈ es.toList, e.key = x ∧ e.val = v
theorem MapAt.lt {P : Program} {k : TypeId} {w : World} {b : Nat} {f : Value → Option Value} (h : MapAt P k w b f) : b < w.heap.size := by
  obtain ⟨es, clock, hb, _⟩ := h
  exact (Array.getElem?_eq_some_iff.1 hb).1
theorem MapAt.map {P : Program} {k : TypeId} {w : World} {b : Nat} {f : Value → Option Value} (h : MapAt P k w b f) : ∃ es clock, w.heap[b]? = some (.map es clock) := by
  obtain ⟨es, clock, hb, _⟩ := h
  exact ⟨es, clock, hb⟩
theorem MapAt.exc {P : Program} {k : TypeId} {w w' : World} {b : Nat} {f : Value → Option Value} {S : Nat → Prop} (h : MapAt P k w b f) (hx : Exc S w w') (hn : ¬ S b) : MapAt P k w' b f := by
  have hlt := h.lt
  obtain ⟨es, clock, hb, r⟩ := h
  exact ⟨es, clock, by rw [hx.block b hlt hn]; exact hb, r⟩
theorem MapAt.made (P : Program) (k : TypeId) (w : World) : MapAt P k (w.alloc (.map #[] 0)) w.heap.size (fun _ => none) :=
  ⟨#[], 0, (MapKept.heap_alloc w _).1, by simp, MapKept.stamped_empty 0, by simp, fun x v h => by cases h⟩
/-- What is found at a key. -/
theorem MapAt.find {P : Program} {k : TypeId} {w : World} {es : List MapEntry} {f : Value → Option Value} (K : Keyed P k) {key : Value} {kl : Lit} (hkey : keyOf P k key = some kl)
    (h1 : ∀ e ∈ es, ∃ l, keyOf P k e.key = some l) (h3 : ∀ e ∈ es, f e.key = some e.val) (h4 : ∀ x v, f x = some v → ∃ e ∈ es, e.key = x ∧ e.val = v) :
    ((Instr.findKey k key es).run P w = .ok none w ∧ f key = none ∧ ∀ e ∈ es, e.key ≠ key) ∨ ∃ j e, (Instr.findKey k key es).run P w = .ok (some (j, e.val)) w ∧ es[j]? = some e ∧ e.key = key ∧ f key = some e.val := by
  rcases K.find w hkey es h1 with ⟨h5, h6⟩ | ⟨j, e, h5, h6, h7⟩
  · refine .inl ⟨h5, ?_, h6⟩
    cases hf : f key with
    | none => rfl
    | some v =>
      obtain ⟨e, he, e1, _⟩ := h4 key v hf
      exact absurd e1 (h6 e he)
  · exact .inr ⟨j, e, h5, h6, h7, by rw [← h7]; exact h3 e (List.mem_of_getElem? h6)⟩
/-- 'm[k]' and 'v, ok := m[k]'. -/
theorem MapAt.look {P : Program} {k t e : TypeId} {w : World} {b : Nat} {f : Value → Option Value} (h : MapAt P k w b f) (K : Keyed P k) (ht : P.underlying t = some (.map k e)) {z : Value} (hz : (zeroValue e).run P w = .ok z w)
    {key : Value} {kl : Lit} (hkey : keyOf P k key = some kl) (c : Bool) : (Instr.lookup t (.map (some b)) key c).run P w = .ok (if c then .tuple #[(f key).getD z, .bool (f key).isSome] else (f key).getD z) w := by
  obtain ⟨es, clock, hb, h1, h2, h3, h4⟩ := h
  rcases MapAt.find (w := w) K hkey h1 h3 h4 with ⟨h5, h6, _⟩ | ⟨j, e0, h5, _, _, h6⟩
  · rw [h6]
    simp [Instr.lookup, run_underlying ht, MapKept.run_getObj_map hb, K.check w _ hkey, h5, hz, Result.andThen]
  · rw [h6]
    simp [Instr.lookup, run_underlying ht, MapKept.run_getObj_map hb, K.check w _ hkey, h5, Result.andThen]
theorem exc_setBlock {w : World} {b : Nat} {es : Array MapEntry} {clock : Nat} (hb : w.heap[b]? = some (.map es clock)) (o : Obj) : Exc (fun k => k = b) w (setBlock w b o) := ⟨rfl, rfl, rfl, by simp [setBlock], fun _ _ hi => heap_setBlock_other hb _ (fun e => hi (by rw [e]))⟩
/-- 'm[k] = v'. -/
theorem MapAt.store {P : Program} {k t e : TypeId} {w : World} {b : Nat} {f : Value → Option Value} (h : MapAt P k w b f) (K : Keyed P k) (ht : P.underlying t = some (.map k e))
    {key : Value} {kl : Lit} (hkey : keyOf P k key = some kl) (val : Value) : ∃ w' g, (Instr.mapUpdate t (.map (some b)) key val).run P w = .ok () w' ∧ MapAt P k w' b g ∧ g key = some val ∧ (∀ x, x ≠ key → g x = f x) ∧ Exc (fun k => k = b) w w' := by
  classical
  obtain ⟨es, clock, hb, h1, h2, h3, h4⟩ := h
  rcases MapAt.find (w := w) K hkey h1 h3 h4 with ⟨h5, h6, h7⟩ | ⟨j, e0, h5, h8, h7, h6⟩
  · refine ⟨setBlock w b (.map (es.push ⟨key, val, clock⟩) (clock + 1)), fun x => if x = key then some val else f x, ?_, ⟨_, _, heap_setBlock_same hb _, ?_, ?_, ?_, ?_⟩, if_pos rfl, fun x hx => if_neg hx, exc_setBlock hb _⟩
    · simp [Instr.mapUpdate, run_underlying ht, MapKept.run_getObj_map hb, K.check w false hkey, h5, MapKept.run_setObj_map _ hb, Result.andThen, setBlock]
    · intro x hx
      simp only [Array.toList_push, List.mem_append, List.mem_singleton] at hx
      rcases hx with hx | rfl
      · exact h1 x hx
      · exact ⟨kl, hkey⟩
    · exact MapKept.stamped_push h2 h7
    · intro x hx
      simp only [Array.toList_push, List.mem_append, List.mem_singleton] at hx
      rcases hx with hx | rfl
      · show (if x.key = key then some val else f x.key) = _
        rw [if_neg (h7 x hx)]; exact h3 x hx
      · exact if_pos rfl
    · intro x v hxv
      simp only at hxv
      by_cases e1 : x = key
      · rw [if_pos e1] at hxv
        cases hxv
        exact ⟨⟨key, val, clock⟩, by simp, e1.symm, rfl⟩
      · rw [if_neg e1] at hxv
        obtain ⟨y, hy, e2, e3⟩ := h4 x v hxv
        exact ⟨y, by simp [hy], e2, e3⟩
  · have hj : es[j]? = some e0 := by simpa using h8
    have hjl : j < es.toList.length := (List.getElem?_eq_some_iff.1 h8).1
    have hlist : (es.modify j (fun e' => { e' with key := key, val := val })).toList = es.toList.set j { e0 with key := key, val := val } := by rw [Array.toList_modify, modify_eq_set _ _ _ _ h8]
    have hkeys : (es.toList.set j { e0 with key := key, val := val }).map (·.key) = es.toList.map (·.key) := by
      rw [List.map_set]
      refine List.ext_getElem? fun i => ?_
      by_cases e1 : j = i
      · subst e1; rw [List.getElem?_set_self (by simpa using hjl), List.getElem?_map, h8]; simp [h7]
      · rw [List.getElem?_set_ne e1]
    have hp : (es.toList.map (·.key)).Pairwise (· ≠ ·) := by rw [List.pairwise_map]; exact ((MapKept.stamped_iff _ _).1 h2).2.2
    have hat : ∀ i y, es.toList[i]? = some y → y.key = key → i = j := fun i y hi hy => by
      have h9 : (es.toList.map (·.key))[i]? = some key := by rw [List.getElem?_map, hi]; simp [hy]
      have h10 : (es.toList.map (·.key))[j]? = some key := by rw [List.getElem?_map, h8]; simp [h7]
      obtain ⟨a1, a2⟩ := List.getElem?_eq_some_iff.1 h9
      obtain ⟨b1, b2⟩ := List.getElem?_eq_some_iff.1 h10
      rcases Nat.lt_trichotomy i j with h | h | h
      · exact absurd (a2.trans b2.symm) (List.pairwise_iff_getElem.1 hp i j a1 b1 h)
      · exact h
      · exact absurd (b2.trans a2.symm) (List.pairwise_iff_getElem.1 hp j i b1 a1 h)
    have who : ∀ x ∈ es.toList.set j { e0 with key := key, val := val }, x = { e0 with key := key, val := val } ∨ (x ∈ es.toList ∧ x.key ≠ key) := by
      intro x hx
      obtain ⟨i, hi, ex⟩ := List.getElem_of_mem hx
      rw [List.getElem_set] at ex
      split at ex
      · exact Or.inl ex.symm
      · rename_i hne
        have hi' : i < es.toList.length := by simpa using hi
        refine Or.inr ⟨ex ▸ List.getElem_mem hi', fun e1 => hne ?_⟩
        exact (hat i x (by rw [List.getElem?_eq_getElem hi', ex]) e1).symm
    refine ⟨setBlock w b (.map (es.modify j (fun e' => { e' with key := key, val := val })) clock), fun x => if x = key then some val else f x, ?_, ⟨_, _, heap_setBlock_same hb _, ?_, ?_, ?_, ?_⟩, if_pos rfl, fun x hx => if_neg hx, exc_setBlock hb _⟩
    · simp [Instr.mapUpdate, run_underlying ht, MapKept.run_getObj_map hb, K.check w false hkey, h5, hj, h7, K.stays w hkey, MapKept.run_setObj_map _ hb, Result.andThen, setBlock]
    · rw [hlist]
      intro x hx
      rcases who x hx with rfl | ⟨hx', _⟩
      · exact ⟨kl, hkey⟩
      · exact h1 x hx'
    · refine MapKept.stamped_modify h2 j _ (fun _ _ => rfl) fun e he1 he2 => ?_
      rw [hj] at he2
      cases he2
      exact h7.symm
    · rw [hlist]
      intro x hx
      rcases who x hx with rfl | ⟨hx', hne⟩
      · exact if_pos rfl
      · show (if x.key = key then some val else f x.key) = _
        rw [if_neg hne]; exact h3 x hx'
    · rw [hlist]
      intro x v hxv
      simp only at hxv
      by_cases e1 : x = key
      · rw [if_pos e1] at hxv
        cases hxv
        exact ⟨{ e0 with key := key, val := val }, List.mem_iff_getElem.2 ⟨j, by simpa using hjl, by simp⟩, e1.symm, rfl⟩
      · rw [if_neg e1] at hxv
        obtain ⟨y, hy, e2, e3⟩ := h4 x v hxv
        obtain ⟨i, hi, ey⟩ := List.getElem_of_mem hy
        have hij : j ≠ i := fun h => by
          subst h
          rw [List.getElem?_eq_getElem hi, ey] at h8
          cases h8
          exact e1 (e2.symm.trans h7)
        refine ⟨y, List.mem_iff_getElem.2 ⟨i, by simpa using hi, ?_⟩, e2, e3⟩
        rw [List.getElem_set_ne hij]; exact ey
/-- 'delete(m, k)'. -/
theorem MapAt.strike {P : Program} {k t e ty : TypeId} {w : World} {b : Nat} {f : Value → Option Value} (h : MapAt P k w b f) (K : Keyed P k) (ht : P.underlying t = some (.map k e))
    {key : Value} {kl : Lit} (hkey : keyOf P k key = some kl) : ∃ w' g, (Builtin.delete_ #[t, k] ty #[.map (some b), key]).run P w = .ok (.tuple #[]) w' ∧ MapAt P k w' b g ∧ g key = none ∧ (∀ x, x ≠ key → g x = f x) ∧ Exc (fun k => k = b) w w' := by
  classical
  obtain ⟨es, clock, hb, h1, h2, h3, h4⟩ := h
  rcases MapAt.find (w := w) K hkey h1 h3 h4 with ⟨h5, h6, h7⟩ | ⟨j, e0, h5, h8, h7, h6⟩
  · refine ⟨setBlock w b (.map es clock), f, ?_, ⟨_, _, heap_setBlock_same hb _, h1, h2, h3, h4⟩, h6, fun _ _ => rfl, exc_setBlock hb _⟩
    simp [Builtin.delete_, run_underlying ht, MapKept.run_getObj_map hb, K.check w _ hkey, h5, MapKept.run_setObj_map _ hb, Result.andThen, setBlock]
  · have hjl : j < es.toList.length := (List.getElem?_eq_some_iff.1 h8).1
    have hjs : j < es.size := by simpa using hjl
    have hsub : (es.eraseIdxIfInBounds j).toList = es.toList.eraseIdx j := by
      unfold Array.eraseIdxIfInBounds
      rw [dif_pos hjs]
      simp
    have hp : ∀ i y, es.toList[i]? = some y → i ≠ j → y.key ≠ key := fun i y hi hne e1 => by
      obtain ⟨a1, a2⟩ := List.getElem?_eq_some_iff.1 hi
      obtain ⟨b1, b2⟩ := List.getElem?_eq_some_iff.1 h8
      rcases Nat.lt_trichotomy i j with h | h | h
      · have := List.pairwise_iff_getElem.1 ((MapKept.stamped_iff _ _).1 h2).2.2 i j a1 b1 h; rw [a2, b2] at this; exact this (e1.trans h7.symm)
      · exact hne h
      · have := List.pairwise_iff_getElem.1 ((MapKept.stamped_iff _ _).1 h2).2.2 j i b1 a1 h; rw [a2, b2] at this; exact this (h7.trans e1.symm)
    refine ⟨setBlock w b (.map (es.eraseIdxIfInBounds j) clock), fun x => if x = key then none else f x, ?_, ⟨_, _, heap_setBlock_same hb _, ?_, ?_, ?_, ?_⟩, if_pos rfl, fun x hx => if_neg hx, exc_setBlock hb _⟩
    · simp [Builtin.delete_, run_underlying ht, MapKept.run_getObj_map hb, K.check w _ hkey, h5, MapKept.run_setObj_map _ hb, Result.andThen, setBlock]
    · rw [hsub]
      exact fun x hx => h1 x ((List.eraseIdx_sublist _ _).subset hx)
    · exact MapKept.stamped_erase h2 j
    · rw [hsub]
      intro x hx
      obtain ⟨i, hne, hi⟩ := List.mem_eraseIdx_iff_getElem?.1 hx
      show (if x.key = key then none else f x.key) = _
      rw [if_neg (hp i x hi hne)]
      exact h3 x (List.mem_of_getElem? hi)
    · rw [hsub]
      intro x v hxv
      simp only at hxv
      by_cases e1 : x = key
      · rw [if_pos e1] at hxv; cases hxv
      · rw [if_neg e1] at hxv
        obtain ⟨y, hy, e2, e3⟩ := h4 x v hxv
        obtain ⟨i, hi, ey⟩ := List.getElem_of_mem hy
        refine ⟨y, List.mem_eraseIdx_iff_getElem?.2 ⟨i, fun h => ?_, by rw [List.getElem?_eq_getElem hi, ey]⟩, e2, e3⟩
        subst h
        rw [List.getElem?_eq_getElem hi, ey] at h8
        cases h8
        exact e1 (e2.symm.trans h7)
section
variable {P : Program} {w : World} {ops : Array Oper} {rest : List Oper} {o : Oper} {a : Act} {Q : Exit → Act → World → Prop}
theorem wpList_look (hg : o.guard = none) (m x : Operand) (t : TypeId) (c : Bool) (hop : o.op = Op.lookup t m x c) (k e : TypeId) (K : Keyed P k) (ht : P.underlying t = some (.map k e)) (z : Value) (hz : (zeroValue e).run P w = .ok z w) (b : Nat) (f : Value → Option Value)
    (hm : a.eval m = .map (some b)) (hat : MapAt P k w b f) (key : Value) (kl : Lit) (hx : a.eval x = key) (hkey : keyOf P k key = some kl) (v : Value) (hv : (if c then .tuple #[(f key).getD z, .bool (f key).isSome] else (f key).getD z) = v)
    (hK : wpList P ops Q rest (a.put o.dst v) w) : wpList P ops Q (o :: rest) a w := by
  refine wpList_plain hg fun K' hK' => ?_
  have hrun := hat.look K ht hz hkey c
  rw [hv] at hrun
  unfold Oper.wp
  simp [execOp, hop, hm, hx, hrun, Result.andThen]
  exact hK' _ _ hK
theorem wpList_store (hg : o.guard = none) (m x v : Operand) (t : TypeId) (hop : o.op = Op.mapUpdate t m x v) (k e : TypeId) (K : Keyed P k) (ht : P.underlying t = some (.map k e)) (b : Nat) (f : Value → Option Value)
    (hm : a.eval m = .map (some b)) (hat : MapAt P k w b f) (key val : Value) (kl : Lit) (hx : a.eval x = key) (hv : a.eval v = val) (hkey : keyOf P k key = some kl)
    (hK : ∀ w' g, MapAt P k w' b g → g key = some val → (∀ x, x ≠ key → g x = f x) → Exc (fun k => k = b) w w' → wpList P ops Q rest (a.put o.dst undef) w') : wpList P ops Q (o :: rest) a w := by
  refine wpList_plain hg fun K' hK' => ?_
  obtain ⟨w', g, hrun, r1, r2, r3, r4⟩ := hat.store K ht hkey val
  unfold Oper.wp
  simp [execOp, hop, hm, hx, hv, hrun, Result.andThen]
  exact hK' _ _ (hK w' g r1 r2 r3 r4)
theorem wpList_strike (hg : o.guard = none) (m x : Operand) (t k : TypeId) (hop : o.op = Op.call { callee := Callee.builtin Builtin.delete, args := #[m, x], argTypes := #[t, k] }) (e : TypeId) (K : Keyed P k) (ht : P.underlying t = some (.map k e)) (b : Nat) (f : Value → Option Value)
    (hm : a.eval m = .map (some b)) (hat : MapAt P k w b f) (key : Value) (kl : Lit) (hx : a.eval x = key) (hkey : keyOf P k key = some kl)
    (hK : ∀ w' g, MapAt P k w' b g → g key = none → (∀ x, x ≠ key → g x = f x) → Exc (fun k => k = b) w w' → wpList P ops Q rest (a.put o.dst (.tuple #[])) w') : wpList P ops Q (o :: rest) a w := by
  refine wpList_plain hg fun K' hK' => ?_
  obtain ⟨w', g, hrun, r1, r2, r3, r4⟩ := hat.strike (ty := o.type) K ht hkey
  unfold Oper.wp
  simp [execOp, hop, resolve, invoke, builtin, hm, hx, hrun, Result.andThen]
  exact hK' _ _ (hK w' g r1 r2 r3 r4)
end
end Go.Proofs.Ytahkmadapojjkaa
