/- Joined: TfMap TfMath TfAt TfGet TfSt TfSts -/
import Derived.Test.YtppbcehcaeeocaaBaseEx
import Derived.Maps.OwnSet
import Derived.Test.YtppbcehcaeeocaaRows
import Derived.Test.YtppbcehcaeeocaaPcCr
import Derived.DeepKeys4
import Derived.LaidMore
import Derived.Deep.RegionLaw
import Derived.BigRegion
/- Maps as functions from keys to elements: made, looked up, stored into, struck from. -/
namespace Go.Proofs.Ytppbcehcaeeocaa
open Go.Maps Go.ChangeMaps

/-- Block b of w is a map that holds at each key what f says. -/
def MapAt (P : Program) (k : TypeId) (w : World) (b : Nat) (f : Value → Option Value) : Prop :=
  ∃ es clock, w.heap[b]? = some (.map es clock) ∧ (∀ e ∈ es.toList, ∃ l, keyOf P k e.key = some l) ∧ es.toList.Pairwise (fun x y => x.key ≠ y.key) ∧ (∀ e ∈ es.toList, f e.key = some e.val) ∧ ∀ x v, f x = some v → ∃ e ∈ es.toList, e.key = x ∧ e.val = v
theorem MapAt.lt {P : Program} {k : TypeId} {w : World} {b : Nat} {f : Value → Option Value} (h : MapAt P k w b f) : b < w.heap.size := by
  obtain ⟨es, clock, hb, _⟩ := h
  exact (Array.getElem?_eq_some_iff.1 hb).1
theorem MapAt.map {P : Program} {k : TypeId} {w : World} {b : Nat} {f : Value → Option Value} (h : MapAt P k w b f) : ∃ es clock, w.heap[b]? = some (.map es clock) := by
  obtain ⟨es, clock, hb, _⟩ := h
  exact ⟨es, clock, hb⟩
theorem MapAt.exc {P : Program} {k : TypeId} {w w' : World} {b : Nat} {f : Value → Option Value} {S : Nat → Prop} (h : MapAt P k w b f) (hx : Exc S w w') (hn : ¬ S b) : MapAt P k w' b f := by
  have hlt := h.lt
  obtain ⟨es, clock, hb, r⟩ := h
  exact ⟨es, clock, by rw [hx.block b hlt hn]; exact hb, r⟩
theorem MapAt.made (P : Program) (k : TypeId) (w : World) : MapAt P k (w.alloc (.map #[] 0)) w.heap.size (fun _ => none) :=
  ⟨#[], 0, (MapKept.heap_alloc w _).1, by simp, by simp, by simp, fun x v h => by cases h⟩
/-- What is found at a key. -/
theorem MapAt.find {P : Program} {k : TypeId} {w : World} {es : List MapEntry} {f : Value → Option Value} (K : Keyed P k) {key : Value} {kl : Lit} (hkey : keyOf P k key = some kl)
    (h1 : ∀ e ∈ es, ∃ l, keyOf P k e.key = some l) (h3 : ∀ e ∈ es, f e.key = some e.val) (h4 : ∀ x v, f x = some v → ∃ e ∈ es, e.key = x ∧ e.val = v) :
    ((Instr.findKey k key es).run P w = .ok none w ∧ f key = none ∧ ∀ e ∈ es, e.key ≠ key) ∨ ∃ j e, (Instr.findKey k key es).run P w = .ok (some (j, e.val)) w ∧ es[j]? = some e ∧ e.key = key ∧ f key = some e.val := by
  rcases K.find w hkey es h1 with ⟨h5, h6⟩ | ⟨j, e, h5, h6, h7⟩
  · refine .inl ⟨h5, ?_, h6⟩
    cases hf : f key with
    | none => rfl
    | some v =>
      obtain ⟨e, he, e1, _⟩ := h4 key v hf
      exact absurd e1 (h6 e he)
  · exact .inr ⟨j, e, h5, h6, h7, by rw [← h7]; exact h3 e (List.mem_of_getElem? h6)⟩
/-- 'm[k]' and 'v, ok := m[k]'. -/
theorem MapAt.look {P : Program} {k t e : TypeId} {w : World} {b : Nat} {f : Value → Option Value} (h : MapAt P k w b f) (K : Keyed P k) (ht : P.underlying t = some (.map k e)) {z : Value} (hz : (zeroValue e).run P w = .ok z w)
    {key : Value} {kl : Lit} (hkey : keyOf P k key = some kl) (c : Bool) : (Instr.lookup t (.map (some b)) key c).run P w = .ok (if c then .tuple #[(f key).getD z, .bool (f key).isSome] else (f key).getD z) w := by
  obtain ⟨es, clock, hb, h1, h2, h3, h4⟩ := h
  rcases MapAt.find (w := w) K hkey h1 h3 h4 with ⟨h5, h6, _⟩ | ⟨j, e0, h5, _, _, h6⟩
  · rw [h6]
    simp [Instr.lookup, run_underlying ht, MapKept.run_getObj_map hb, K.check w _ hkey, h5, hz, Result.andThen]
  · rw [h6]
    simp [Instr.lookup, run_underlying ht, MapKept.run_getObj_map hb, K.check w _ hkey, h5, Result.andThen]
theorem exc_setBlock {w : World} {b : Nat} {es : Array MapEntry} {clock : Nat} (hb : w.heap[b]? = some (.map es clock)) (o : Obj) : Exc (fun k => k = b) w (setBlock w b o) := ⟨rfl, rfl, rfl, by simp [setBlock], fun _ _ hi => heap_setBlock_other hb _ (fun e => hi (by rw [e]))⟩
/-- 'm[k] = v'. -/
theorem MapAt.store {P : Program} {k t e : TypeId} {w : World} {b : Nat} {f : Value → Option Value} (h : MapAt P k w b f) (K : Keyed P k) (ht : P.underlying t = some (.map k e))
    {key : Value} {kl : Lit} (hkey : keyOf P k key = some kl) (val : Value) : ∃ w' g, (Instr.mapUpdate t (.map (some b)) key val).run P w = .ok () w' ∧ MapAt P k w' b g ∧ g key = some val ∧ (∀ x, x ≠ key → g x = f x) ∧ Exc (fun k => k = b) w w' := by
  classical
  obtain ⟨es, clock, hb, h1, h2, h3, h4⟩ := h
  rcases MapAt.find (w := w) K hkey h1 h3 h4 with ⟨h5, h6, h7⟩ | ⟨j, e0, h5, h8, h7, h6⟩
  · refine ⟨setBlock w b (.map (es.push ⟨key, val, clock⟩) (clock + 1)), fun x => if x = key then some val else f x, ?_, ⟨_, _, heap_setBlock_same hb _, ?_, ?_, ?_, ?_⟩, if_pos rfl, fun x hx => if_neg hx, exc_setBlock hb _⟩
    · simp [Instr.mapUpdate, run_underlying ht, MapKept.run_getObj_map hb, K.check w false hkey, h5, MapKept.run_setObj_map _ hb, Result.andThen, setBlock]
    · intro x hx
      simp only [Array.toList_push, List.mem_append, List.mem_singleton] at hx
      rcases hx with hx | rfl
      · exact h1 x hx
      · exact ⟨kl, hkey⟩
    · rw [Array.toList_push, List.pairwise_append]
      refine ⟨h2, by simp, fun x hx y hy => ?_⟩
      simp only [List.mem_singleton] at hy
      subst hy
      exact h7 x hx
    · intro x hx
      simp only [Array.toList_push, List.mem_append, List.mem_singleton] at hx
      rcases hx with hx | rfl
      · show (if x.key = key then some val else f x.key) = _
        rw [if_neg (h7 x hx)]; exact h3 x hx
      · exact if_pos rfl
    · intro x v hxv
      simp only at hxv
      by_cases e1 : x = key
      · rw [if_pos e1] at hxv
        cases hxv
        exact ⟨⟨key, val, clock⟩, by simp, e1.symm, rfl⟩
      · rw [if_neg e1] at hxv
        obtain ⟨y, hy, e2, e3⟩ := h4 x v hxv
        exact ⟨y, by simp [hy], e2, e3⟩
  · have hj : es[j]? = some e0 := by simpa using h8
    have hjl : j < es.toList.length := (List.getElem?_eq_some_iff.1 h8).1
    have hlist : (es.modify j (fun e' => { e' with key := key, val := val })).toList = es.toList.set j { e0 with key := key, val := val } := by rw [Array.toList_modify, modify_eq_set _ _ _ _ h8]
    have hkeys : (es.toList.set j { e0 with key := key, val := val }).map (·.key) = es.toList.map (·.key) := by
      rw [List.map_set]
      refine List.ext_getElem? fun i => ?_
      by_cases e1 : j = i
      · subst e1; rw [List.getElem?_set_self (by simpa using hjl), List.getElem?_map, h8]; simp [h7]
      · rw [List.getElem?_set_ne e1]
    have hp : (es.toList.map (·.key)).Pairwise (· ≠ ·) := by rw [List.pairwise_map]; exact h2
    have hat : ∀ i y, es.toList[i]? = some y → y.key = key → i = j := fun i y hi hy => by
      have h9 : (es.toList.map (·.key))[i]? = some key := by rw [List.getElem?_map, hi]; simp [hy]
      have h10 : (es.toList.map (·.key))[j]? = some key := by rw [List.getElem?_map, h8]; simp [h7]
      obtain ⟨a1, a2⟩ := List.getElem?_eq_some_iff.1 h9
      obtain ⟨b1, b2⟩ := List.getElem?_eq_some_iff.1 h10
      rcases Nat.lt_trichotomy i j with h | h | h
      · exact absurd (a2.trans b2.symm) (List.pairwise_iff_getElem.1 hp i j a1 b1 h)
      · exact h
      · exact absurd (b2.trans a2.symm) (List.pairwise_iff_getElem.1 hp j i b1 a1 h)
    have who : ∀ x ∈ es.toList.set j { e0 with key := key, val := val }, x = { e0 with key := key, val := val } ∨ (x ∈ es.toList ∧ x.key ≠ key) := by
      intro x hx
      obtain ⟨i, hi, ex⟩ := List.getElem_of_mem hx
      rw [List.getElem_set] at ex
      split at ex
      · exact Or.inl ex.symm
      · rename_i hne
        have hi' : i < es.toList.length := by simpa using hi
        refine Or.inr ⟨ex ▸ List.getElem_mem hi', fun e1 => hne ?_⟩
        exact (hat i x (by rw [List.getElem?_eq_getElem hi', ex]) e1).symm
    refine ⟨setBlock w b (.map (es.modify j (fun e' => { e' with key := key, val := val })) clock), fun x => if x = key then some val else f x, ?_, ⟨_, _, heap_setBlock_same hb _, ?_, ?_, ?_, ?_⟩, if_pos rfl, fun x hx => if_neg hx, exc_setBlock hb _⟩
    · simp [Instr.mapUpdate, run_underlying ht, MapKept.run_getObj_map hb, K.check w false hkey, h5, hj, h7, K.stays w hkey, MapKept.run_setObj_map _ hb, Result.andThen, setBlock]
    · rw [hlist]
      intro x hx
      rcases who x hx with rfl | ⟨hx', _⟩
      · exact ⟨kl, hkey⟩
      · exact h1 x hx'
    · rw [hlist]
      have := hp
      rw [← hkeys, List.pairwise_map] at this
      exact this
    · rw [hlist]
      intro x hx
      rcases who x hx with rfl | ⟨hx', hne⟩
      · exact if_pos rfl
      · show (if x.key = key then some val else f x.key) = _
        rw [if_neg hne]; exact h3 x hx'
    · rw [hlist]
      intro x v hxv
      simp only at hxv
      by_cases e1 : x = key
      · rw [if_pos e1] at hxv
        cases hxv
        exact ⟨{ e0 with key := key, val := val }, List.mem_iff_getElem.2 ⟨j, by simpa using hjl, by simp⟩, e1.symm, rfl⟩
      · rw [if_neg e1] at hxv
        obtain ⟨y, hy, e2, e3⟩ := h4 x v hxv
        obtain ⟨i, hi, ey⟩ := List.getElem_of_mem hy
        have hij : j ≠ i := fun h => by
          subst h
          rw [List.getElem?_eq_getElem hi, ey] at h8
          cases h8
          exact e1 (e2.symm.trans h7)
        refine ⟨y, List.mem_iff_getElem.2 ⟨i, by simpa using hi, ?_⟩, e2, e3⟩
        rw [List.getElem_set_ne hij]; exact ey
/-- 'delete(m, k)'. -/
theorem MapAt.strike {P : Program} {k t e ty : TypeId} {w : World} {b : Nat} {f : Value → Option Value} (h : MapAt P k w b f) (K : Keyed P k) (ht : P.underlying t = some (.map k e))
    {key : Value} {kl : Lit} (hkey : keyOf P k key = some kl) : ∃ w' g, (Builtin.delete_ #[t, k] ty #[.map (some b), key]).run P w = .ok (.tuple #[]) w' ∧ MapAt P k w' b g ∧ g key = none ∧ (∀ x, x ≠ key → g x = f x) ∧ Exc (fun k => k = b) w w' := by
  classical
  obtain ⟨es, clock, hb, h1, h2, h3, h4⟩ := h
  rcases MapAt.find (w := w) K hkey h1 h3 h4 with ⟨h5, h6, h7⟩ | ⟨j, e0, h5, h8, h7, h6⟩
  · refine ⟨setBlock w b (.map es clock), f, ?_, ⟨_, _, heap_setBlock_same hb _, h1, h2, h3, h4⟩, h6, fun _ _ => rfl, exc_setBlock hb _⟩
    simp [Builtin.delete_, run_underlying ht, MapKept.run_getObj_map hb, K.check w _ hkey, h5, MapKept.run_setObj_map _ hb, Result.andThen, setBlock]
  · have hjl : j < es.toList.length := (List.getElem?_eq_some_iff.1 h8).1
    have hjs : j < es.size := by simpa using hjl
    have hsub : (es.eraseIdxIfInBounds j).toList = es.toList.eraseIdx j := by
      unfold Array.eraseIdxIfInBounds
      rw [dif_pos hjs]
      simp
    have hp : ∀ i y, es.toList[i]? = some y → i ≠ j → y.key ≠ key := fun i y hi hne e1 => by
      obtain ⟨a1, a2⟩ := List.getElem?_eq_some_iff.1 hi
      obtain ⟨b1, b2⟩ := List.getElem?_eq_some_iff.1 h8
      rcases Nat.lt_trichotomy i j with h | h | h
      · have := List.pairwise_iff_getElem.1 h2 i j a1 b1 h; rw [a2, b2] at this; exact this (e1.trans h7.symm)
      · exact hne h
      · have := List.pairwise_iff_getElem.1 h2 j i b1 a1 h; rw [a2, b2] at this; exact this (h7.trans e1.symm)
    refine ⟨setBlock w b (.map (es.eraseIdxIfInBounds j) clock), fun x => if x = key then none else f x, ?_, ⟨_, _, heap_setBlock_same hb _, ?_, ?_, ?_, ?_⟩, if_pos rfl, fun x hx => if_neg hx, exc_setBlock hb _⟩
    · simp [Builtin.delete_, run_underlying ht, MapKept.run_getObj_map hb, K.check w _ hkey, h5, MapKept.run_setObj_map _ hb, Result.andThen, setBlock]
    · rw [hsub]
      exact fun x hx => h1 x ((List.eraseIdx_sublist _ _).subset hx)
    · rw [hsub]
      exact h2.sublist (List.eraseIdx_sublist _ _)
    · rw [hsub]
      intro x hx
      obtain ⟨i, hne, hi⟩ := List.mem_eraseIdx_iff_getElem?.1 hx
      show (if x.key = key then none else f x.key) = _
      rw [if_neg (hp i x hi hne)]
      exact h3 x (List.mem_of_getElem? hi)
    · rw [hsub]
      intro x v hxv
      simp only at hxv
      by_cases e1 : x = key
      · rw [if_pos e1] at hxv; cases hxv
      · rw [if_neg e1] at hxv
        obtain ⟨y, hy, e2, e3⟩ := h4 x v hxv
        obtain ⟨i, hi, ey⟩ := List.getElem_of_mem hy
        refine ⟨y, List.mem_eraseIdx_iff_getElem?.2 ⟨i, fun h => ?_, by rw [List.getElem?_eq_getElem hi, ey]⟩, e2, e3⟩
        subst h
        rw [List.getElem?_eq_getElem hi, ey] at h8
        cases h8
        exact e1 (e2.symm.trans h7)
section
variable {P : Program} {w : World} {ops : Array Oper} {rest : List Oper} {o : Oper} {a : Act} {Q : Exit → Act → World → Prop}
theorem wpList_look (hg : o.guard = none) (m x : Operand) (t : TypeId) (c : Bool) (hop : o.op = Op.lookup t m x c) (k e : TypeId) (K : Keyed P k) (ht : P.underlying t = some (.map k e)) (z : Value) (hz : (zeroValue e).run P w = .ok z w) (b : Nat) (f : Value → Option Value)
    (hm : a.eval m = .map (some b)) (hat : MapAt P k w b f) (key : Value) (kl : Lit) (hx : a.eval x = key) (hkey : keyOf P k key = some kl) (v : Value) (hv : (if c then .tuple #[(f key).getD z, .bool (f key).isSome] else (f key).getD z) = v)
    (hK : wpList P ops Q rest (a.put o.dst v) w) : wpList P ops Q (o :: rest) a w := by
  refine wpList_plain hg fun K' hK' => ?_
  have hrun := hat.look K ht hz hkey c
  rw [hv] at hrun
  unfold Oper.wp
  simp [execOp, hop, hm, hx, hrun, Result.andThen]
  exact hK' _ _ hK
theorem wpList_store (hg : o.guard = none) (m x v : Operand) (t : TypeId) (hop : o.op = Op.mapUpdate t m x v) (k e : TypeId) (K : Keyed P k) (ht : P.underlying t = some (.map k e)) (b : Nat) (f : Value → Option Value)
    (hm : a.eval m = .map (some b)) (hat : MapAt P k w b f) (key val : Value) (kl : Lit) (hx : a.eval x = key) (hv : a.eval v = val) (hkey : keyOf P k key = some kl)
    (hK : ∀ w' g, MapAt P k w' b g → g key = some val → (∀ x, x ≠ key → g x = f x) → Exc (fun k => k = b) w w' → wpList P ops Q rest (a.put o.dst undef) w') : wpList P ops Q (o :: rest) a w := by
  refine wpList_plain hg fun K' hK' => ?_
  obtain ⟨w', g, hrun, r1, r2, r3, r4⟩ := hat.store K ht hkey val
  unfold Oper.wp
  simp [execOp, hop, hm, hx, hv, hrun, Result.andThen]
  exact hK' _ _ (hK w' g r1 r2 r3 r4)
theorem wpList_strike (hg : o.guard = none) (m x : Operand) (t k : TypeId) (hop : o.op = Op.call { callee := Callee.builtin Builtin.delete, args := #[m, x], argTypes := #[t, k] }) (e : TypeId) (K : Keyed P k) (ht : P.underlying t = some (.map k e)) (b : Nat) (f : Value → Option Value)
    (hm : a.eval m = .map (some b)) (hat : MapAt P k w b f) (key : Value) (kl : Lit) (hx : a.eval x = key) (hkey : keyOf P k key = some kl)
    (hK : ∀ w' g, MapAt P k w' b g → g key = none → (∀ x, x ≠ key → g x = f x) → Exc (fun k => k = b) w w' → wpList P ops Q rest (a.put o.dst (.tuple #[])) w') : wpList P ops Q (o :: rest) a w := by
  refine wpList_plain hg fun K' hK' => ?_
  obtain ⟨w', g, hrun, r1, r2, r3, r4⟩ := hat.strike (ty := o.type) K ht hkey
  unfold Oper.wp
  simp [execOp, hop, resolve, invoke, builtin, hm, hx, hrun, Result.andThen]
  exact hK' _ _ (hK w' g r1 r2 r3 r4)
end
end Go.Proofs.Ytppbcehcaeeocaa
/- Tables as plain data: statuses, what is told. -/
namespace Go.Proofs.Ytppbcehcaeeocaa

/-- What a table knows: its place, whether it transfers, neighbors, destinations, choices; which neighbors are up, what they told, what was said to them. -/
structure Tb where
  me : Int
  tr : Bool
  N : List Int
  D : List Int
  C : Int → List (Int × Int)
  up : Int → Bool
  told : Int → Int → Int
  said : Int → Int → Int
def upd1 (f : Int → Bool) (n : Int) (b : Bool) : Int → Bool := fun x => if x = n then b else f x
def upd2 (f : Int → Int → Int) (n d v : Int) : Int → Int → Int := fun x y => if x = n ∧ y = d then v else f x y
theorem upd1_same (f : Int → Bool) (n : Int) (b : Bool) : upd1 f n b n = b := if_pos rfl
theorem upd1_other {f : Int → Bool} {n x : Int} {b : Bool} (h : x ≠ n) : upd1 f n b x = f x := if_neg h
theorem upd2_same (f : Int → Int → Int) (n d v : Int) : upd2 f n d v n d = v := if_pos ⟨rfl, rfl⟩
theorem upd2_other {f : Int → Int → Int} {n d x y v : Int} (h : ¬ (x = n ∧ y = d)) : upd2 f n d v x y = f x y := if_neg h
namespace Tb
def isUp (T : Tb) (n : Int) : Bool := decide (n ∈ T.N) && T.up n
/-- The status of the choice of a neighbor. -/
def byN (T : Tb) (n d : Int) : Int := if T.isUp n then T.told n d else 2
def stF (r0 : Int) : Int → List (Int × Int) → Int
  | acc, [] => acc
  | acc, (s, r) :: l => if s = 0 ∧ r = r0 then 0 else stF r0 (if s = 2 then acc else 1) l
def sts (T : Tb) (d : Int) : List Int := (T.C d).map fun c => T.byN c.1 d
/-- The status of a destination. -/
def st (T : Tb) (d : Int) : Int := stF ((T.C d).getD 0 (0, 0)).2 2 ((T.C d).map fun c => (T.byN c.1 d, c.2))
/-- What must be told to a neighbor about these destinations, and what has been said then. -/
def newsL (T : Tb) (n : Int) (L : List Int) : List (Int × Int × Int) := (L.filter fun d => decide (d ≠ n ∧ T.st d ≠ T.said n d)).map fun d => (n, d, T.st d)
def saidL (T : Tb) (n : Int) (L : List Int) : Int → Int → Int := fun x y => if x = n ∧ y ∈ L ∧ y ≠ n then T.st y else T.said x y
def news (T : Tb) (n : Int) : List (Int × Int × Int) := if T.tr then T.newsL n T.D else []
def told1 (T : Tb) (n : Int) : Tb := { T with said := if T.tr then T.saidL n T.D else T.said }
/-- .. to these neighbors. -/
def tellL (T : Tb) (L : List Int) : List (Int × Int × Int) := (L.filter T.up).flatMap T.news
def toldL (T : Tb) (L : List Int) : Tb := { T with said := fun x y => if x ∈ L ∧ T.up x = true ∧ T.tr = true ∧ y ∈ T.D ∧ y ≠ x then T.st y else T.said x y }
/-- What must be asked again. -/
def askD (T : Tb) (n : Int) (L : List Int) : List (Int × Int × Int) := (L.filter fun d => decide (T.isUp n = true ∧ T.told n d ≠ 0)).map fun d => (n, d, T.told n d)
def askL (T : Tb) (L : List Int) : List (Int × Int × Int) := L.flatMap fun n => T.askD n T.D
def down (T : Tb) (n : Int) : Tb := { T with up := upd1 T.up n false, told := fun x y => if x = n ∧ y ∈ T.D then 0 else T.told x y, said := fun x y => if x = n ∧ y ∈ T.D then 0 else T.said x y }
def ups (T : Tb) (n : Int) : Tb := { T with up := upd1 T.up n true }
def hear (T : Tb) (n d s : Int) : Tb := { T with told := upd2 T.told n d s }
def says (T : Tb) (n d s : Int) : Tb := { T with said := upd2 T.said n d s }
/-- Is there something to answer? -/
def ansB (T : Tb) (n d s : Int) : Bool := T.tr && T.isUp n && decide (d ∈ T.D) && decide (d ≠ n) && decide (T.st d ≠ s)
theorem newsL_snoc (T : Tb) (n : Int) (L : List Int) (d : Int) : T.newsL n (L ++ [d]) = T.newsL n L ++ (if d ≠ n ∧ T.st d ≠ T.said n d then [(n, d, T.st d)] else []) := by
  unfold newsL
  rw [List.filter_append, List.map_append]
  by_cases h : d ≠ n ∧ T.st d ≠ T.said n d
  · rw [if_pos h, List.filter_cons_of_pos (by simpa using h)]; rfl
  · rw [if_neg h, List.filter_cons_of_neg (by simpa using h)]; rfl
theorem newsL_le (T : Tb) (n : Int) (L : List Int) : (T.newsL n L).length ≤ L.length := by
  unfold newsL; rw [List.length_map]; exact List.length_filter_le _ _
theorem saidL_snoc_same {T : Tb} {n : Int} {L : List Int} {d : Int} (h : ¬ (d ≠ n ∧ T.st d ≠ T.said n d)) : T.saidL n (L ++ [d]) = T.saidL n L := by
  funext x y
  unfold saidL
  by_cases h1 : x = n ∧ y ∈ L ∧ y ≠ n
  · rw [if_pos h1, if_pos ⟨h1.1, List.mem_append_left _ h1.2.1, h1.2.2⟩]
  · by_cases h2 : x = n ∧ y ∈ L ++ [d] ∧ y ≠ n
    · rw [if_neg h1, if_pos h2]
      obtain ⟨rfl, h3, h4⟩ := h2
      rcases List.mem_append.1 h3 with h5 | h5
      · exact absurd ⟨rfl, h5, h4⟩ h1
      · rw [List.mem_singleton] at h5
        subst h5
        exact Classical.byContradiction fun h6 => h ⟨h4, h6⟩
    · rw [if_neg h1, if_neg h2]
theorem saidL_snoc {T : Tb} {n : Int} {L : List Int} {d : Int} (h : d ≠ n) : T.saidL n (L ++ [d]) = upd2 (T.saidL n L) n d (T.st d) := by
  funext x y
  unfold upd2
  by_cases h1 : x = n ∧ y = d
  · obtain ⟨rfl, rfl⟩ := h1
    rw [if_pos ⟨rfl, rfl⟩]
    unfold saidL
    rw [if_pos ⟨rfl, by simp, h⟩]
  · rw [if_neg h1]
    unfold saidL
    by_cases h2 : x = n ∧ y ∈ L ∧ y ≠ n
    · rw [if_pos h2, if_pos ⟨h2.1, List.mem_append_left _ h2.2.1, h2.2.2⟩]
    · rw [if_neg h2, if_neg]
      rintro ⟨rfl, h3, h4⟩
      rcases List.mem_append.1 h3 with h5 | h5
      · exact h2 ⟨rfl, h5, h4⟩
      · rw [List.mem_singleton] at h5; exact h1 ⟨rfl, h5⟩
/-- Before a destination's turn nothing has been said about it. -/
theorem saidL_new {T : Tb} {n : Int} {L : List Int} {d : Int} (h : d ∉ L) : T.saidL n L n d = T.said n d := by
  unfold saidL; rw [if_neg fun h1 => h h1.2.1]
theorem saidL_nil (T : Tb) (n : Int) : T.saidL n [] = T.said := by
  funext x y; unfold saidL; rw [if_neg (by simp)]
/-- The status of a destination hangs on what is up and was told alone. -/
theorem st_said (T : Tb) (s : Int → Int → Int) (d : Int) : ({ T with said := s } : Tb).st d = T.st d := rfl
theorem tellL_snoc (T : Tb) (L : List Int) (n : Int) : T.tellL (L ++ [n]) = T.tellL L ++ (if T.up n then T.news n else []) := by
  unfold tellL
  rw [List.filter_append, List.flatMap_append]
  cases h : T.up n
  · rw [List.filter_cons_of_neg (by simp [h])]; simp
  · rw [List.filter_cons_of_pos h]; simp
theorem toldL_nil (T : Tb) : T.toldL [] = T := by
  unfold toldL; simp
theorem toldL_snoc_no {T : Tb} {L : List Int} {n : Int} (h : T.up n = false) : T.toldL (L ++ [n]) = T.toldL L := by
  unfold toldL
  congr 1
  funext x y
  by_cases h1 : x ∈ L ∧ T.up x = true ∧ T.tr = true ∧ y ∈ T.D ∧ y ≠ x
  · rw [if_pos h1, if_pos ⟨List.mem_append_left _ h1.1, h1.2⟩]
  · rw [if_neg h1, if_neg]
    rintro ⟨h2, h3⟩
    rcases List.mem_append.1 h2 with h4 | h4
    · exact h1 ⟨h4, h3⟩
    · rw [List.mem_singleton] at h4; subst h4; rw [h] at h3; cases h3.1
theorem toldL_news {T : Tb} {L : List Int} {n : Int} (h : n ∉ L) : (T.toldL L).news n = T.news n := by
  have e : (T.toldL L).newsL n (T.toldL L).D = T.newsL n T.D := by
    unfold newsL
    congr 1
    refine List.filter_congr fun d _ => ?_
    have e2 : (T.toldL L).said n d = T.said n d := if_neg fun h1 => h h1.1
    rw [e2]; rfl
  unfold news
  rw [e]; rfl
theorem toldL_snoc {T : Tb} {L : List Int} {n : Int} (h : T.up n = true) : T.toldL (L ++ [n]) = (T.toldL L).told1 n := by
  unfold told1
  show ({ T with said := _ } : Tb) = { T with said := _ }
  congr 1
  funext x y
  show (if x ∈ L ++ [n] ∧ T.up x = true ∧ T.tr = true ∧ y ∈ T.D ∧ y ≠ x then T.st y else T.said x y) = (if T.tr = true then (T.toldL L).saidL n T.D else (T.toldL L).said) x y
  cases ht : T.tr
  · simp [toldL, ht]
  · rw [if_pos rfl]
    unfold saidL
    have e : (T.toldL L).st y = T.st y := rfl
    rw [e]
    by_cases h1 : x = n ∧ y ∈ T.D ∧ y ≠ n
    · rw [if_pos h1]
      obtain ⟨rfl, h2, h3⟩ := h1
      rw [if_pos ⟨by simp, h, rfl, h2, h3⟩]
    · rw [if_neg h1]
      show _ = (if x ∈ L ∧ T.up x = true ∧ T.tr = true ∧ y ∈ T.D ∧ y ≠ x then T.st y else T.said x y)
      rw [ht]
      by_cases h2 : x ∈ L ∧ T.up x = true ∧ true = true ∧ y ∈ T.D ∧ y ≠ x
      · rw [if_pos h2, if_pos ⟨List.mem_append_left _ h2.1, h2.2⟩]
      · rw [if_neg h2, if_neg]
        rintro ⟨h3, h4⟩
        rcases List.mem_append.1 h3 with h5 | h5
        · exact h2 ⟨h5, h4⟩
        · rw [List.mem_singleton] at h5; subst h5; exact h1 ⟨rfl, h4.2.2.1, h4.2.2.2⟩
theorem askD_snoc (T : Tb) (n : Int) (L : List Int) (d : Int) : T.askD n (L ++ [d]) = T.askD n L ++ (if T.isUp n = true ∧ T.told n d ≠ 0 then [(n, d, T.told n d)] else []) := by
  unfold askD
  rw [List.filter_append, List.map_append]
  by_cases h : T.isUp n = true ∧ T.told n d ≠ 0
  · rw [if_pos h, List.filter_cons_of_pos (by simpa using h)]; rfl
  · rw [if_neg h, List.filter_cons_of_neg (by simpa using h)]; rfl
theorem askL_snoc (T : Tb) (L : List Int) (n : Int) : T.askL (L ++ [n]) = T.askL L ++ T.askD n T.D := by simp [askL]
theorem askD_le (T : Tb) (n : Int) (L : List Int) : (T.askD n L).length ≤ L.length := by
  unfold askD; rw [List.length_map]; exact List.length_filter_le _ _
theorem len_flat {α β : Type} (f : α → List β) (m : Nat) : ∀ L : List α, (∀ x ∈ L, (f x).length ≤ m) → (L.flatMap f).length ≤ L.length * m
  | [], _ => by simp
  | x :: L, h => by
    have h1 := len_flat f m L fun y hy => h y (List.mem_cons_of_mem _ hy)
    have h2 := h x (List.mem_cons_self)
    rw [List.flatMap_cons, List.length_append, List.length_cons, Nat.succ_mul]; omega
theorem askL_le (T : Tb) (L : List Int) : (T.askL L).length ≤ L.length * T.D.length := len_flat _ _ L fun n _ => T.askD_le n T.D
theorem news_le (T : Tb) (n : Int) : (T.news n).length ≤ T.D.length := by
  unfold news; split
  · exact T.newsL_le n T.D
  · exact Nat.zero_le _
theorem tellL_le (T : Tb) (L : List Int) : (T.tellL L).length ≤ L.length * T.D.length :=
  Nat.le_trans (len_flat _ _ _ fun n _ => T.news_le n) (Nat.mul_le_mul_right _ (List.length_filter_le _ _))
theorem stF_snoc (r0 : Int) : ∀ (l : List (Int × Int)) (acc s r : Int), (∀ x ∈ l, ¬ (x.1 = 0 ∧ x.2 = r0)) → stF r0 acc (l ++ [(s, r)]) = if s = 0 ∧ r = r0 then 0 else if s = 2 then stF r0 acc l else 1
  | [], acc, s, r, _ => by simp [stF]
  | (a, b) :: l, acc, s, r, h => by
    have h1 := h (a, b) (List.mem_cons_self)
    show (if a = 0 ∧ b = r0 then 0 else stF r0 (if a = 2 then acc else 1) (l ++ [(s, r)])) = _
    rw [if_neg h1, stF_snoc r0 l _ s r fun x hx => h x (List.mem_cons_of_mem _ hx)]
    show _ = if s = 0 ∧ r = r0 then 0 else if s = 2 then (if a = 0 ∧ b = r0 then 0 else stF r0 (if a = 2 then acc else 1) l) else 1
    rw [if_neg h1]
theorem stF_zero (r0 : Int) : ∀ (l m : List (Int × Int)) (acc : Int), (∃ x ∈ l, x.1 = 0 ∧ x.2 = r0) → stF r0 acc (l ++ m) = 0
  | [], m, acc, h => by obtain ⟨x, hx, _⟩ := h; cases hx
  | (a, b) :: l, m, acc, h => by
    show (if a = 0 ∧ b = r0 then 0 else stF r0 (if a = 2 then acc else 1) (l ++ m)) = 0
    by_cases h1 : a = 0 ∧ b = r0
    · rw [if_pos h1]
    · rw [if_neg h1]
      refine stF_zero r0 l m _ ?_
      obtain ⟨x, hx, h2⟩ := h
      rcases List.mem_cons.1 hx with rfl | hx
      · exact absurd h2 h1
      · exact ⟨x, hx, h2⟩
end Tb
end Go.Proofs.Ytppbcehcaeeocaa
/- A table in memory. -/
namespace Go.Proofs.Ytppbcehcaeeocaa
open Go.RowKit Go.Maps

theorem law_pt : Keyed Try.prog 40 := int_keyed Try.underlying40
theorem laid_ok : laidOutB Try.prog = true := by kernel_rfl
theorem row_pair : (124 : TypeId) < Try.prog.types.size := of_decide_eq_true (by kernel_rfl)
theorem wide_pair : (match Try.prog.underlying 124 with | some (.array _ _) | some (.struct _) => true | _ => false) = true := by rw [Try.underlying124]
set_option maxRecDepth 100000 in
theorem law_pair : Keyed Try.prog 124 := Keyed.of_law (deep_law_laid laid_ok (m := 2) (by decide) row_pair (by kernel_rfl) wide_pair)
theorem wf16 {x : Int} : (Lit.int .u16 x).wf = true ↔ 0 ≤ x ∧ x ≤ 65535 := by
  simp [Lit.wf, IntKind.min, IntKind.max, IntKind.bits, IntKind.signed]
theorem key_pt {n : Int} (h : (Lit.int .u16 n).wf = true) : keyOf Try.prog 40 (.int .u16 n) = some (.int .u16 n) := keyOf_int_mk Try.underlying40 h
def pairV (n d : Int) : Value := .agg #[.int .u16 n, .int .u16 d]
theorem size_pair : Try.prog.cellsOf 124 = 2 := by kernel_rfl
theorem size_pt : Try.prog.cellsOf 40 = 1 := by kernel_rfl
theorem kt_pair : Try.prog.keyType 124 = true := by kernel_rfl
set_option maxRecDepth 100000 in
theorem types_pos : ∃ m, Try.prog.types.size = m + 1 := ⟨_, (Nat.succ_pred_eq_of_pos (Nat.lt_of_le_of_lt (Nat.zero_le _) row_pair)).symm⟩
theorem key_pair {n d : Int} (hn : (Lit.int .u16 n).wf = true) (hd : (Lit.int .u16 d).wf = true) : ∃ l, keyOf Try.prog 124 (pairV n d) = some l := by
  obtain ⟨m, hm⟩ := types_pos
  unfold keyOf pairV
  simp only [Try.underlying124]
  rw [if_pos (by simp [kt_pair, Value.formed, Try.underlying124, size_pair]), hm]
  unfold Program.keyLits
  simp only [Try.underlying124, Value.cells]
  rw [if_pos ⟨by rw [size_pair]; rfl, by kernel_rfl⟩]
  simp [size_pt, Program.keyLits, Try.underlying40, hn, hd]
theorem pairV_inj {n d n' d' : Int} (h : pairV n d = pairV n' d') : n = n' ∧ d = d' := by
  unfold pairV at h
  simpa using h
theorem zero_st (w : World) : (zeroValue 52).run Try.prog w = .ok (.int .u8 0) w := by kernel_rfl
theorem zero_bool (w : World) : (zeroValue 4).run Try.prog w = .ok (.bool false) w := by kernel_rfl
theorem zero_chs (w : World) : (zeroValue 61).run Try.prog w = .ok (.slice none 0 0) w := by kernel_rfl
/-- A record of statuses. -/
def RecAt (w : World) (b : Nat) (T : Int → Int → Int) : Prop := ∃ f, MapAt Try.prog 124 w b f ∧ ∀ n d, (Lit.int .u16 n).wf = true → (Lit.int .u16 d).wf = true → (f (pairV n d)).getD (.int .u8 0) = .int .u8 (T n d)
theorem RecAt.exc {w w' : World} {b : Nat} {T : Int → Int → Int} {S : Nat → Prop} (h : RecAt w b T) (hx : Exc S w w') (hn : ¬ S b) : RecAt w' b T := by
  obtain ⟨f, h1, h2⟩ := h; exact ⟨f, h1.exc hx hn, h2⟩
theorem RecAt.run {w : World} {b : Nat} {T : Int → Int → Int} (h : RecAt w b T) {n d : Int} (hn : (Lit.int .u16 n).wf = true) (hd : (Lit.int .u16 d).wf = true) :
    (Instr.lookup 84 (.map (some b)) (.agg #[.int .u16 n, .int .u16 d]) false).run Try.prog w = .ok (.int .u8 (T n d)) w := by
  obtain ⟨f, h1, h2⟩ := h
  obtain ⟨l, hl⟩ := key_pair hn hd
  have := h1.look law_pair Try.underlying84 (zero_st w) hl false
  rw [if_neg (by decide), h2 n d hn hd] at this
  exact this
theorem RecAt.put {w' : World} {b : Nat} {T : Int → Int → Int} {f g : Value → Option Value} (h2 : ∀ n d, (Lit.int .u16 n).wf = true → (Lit.int .u16 d).wf = true → (f (pairV n d)).getD (.int .u8 0) = .int .u8 (T n d)) {n d s : Int}
    (hg : MapAt Try.prog 124 w' b g) (h3 : (g (pairV n d)).getD (.int .u8 0) = .int .u8 s) (h4 : ∀ x, x ≠ pairV n d → g x = f x) : RecAt w' b (upd2 T n d s) := by
  refine ⟨g, hg, fun x y hx hy => ?_⟩
  by_cases e : x = n ∧ y = d
  · obtain ⟨rfl, rfl⟩ := e
    rw [upd2_same, h3]
  · rw [upd2_other e, h4 _ fun e2 => e (pairV_inj e2)]
    exact h2 x y hx hy
/-- The neighbors, and which are up. -/
def UpsAt (w : World) (b : Nat) (N : List Int) (U : Int → Bool) : Prop := ∃ f, MapAt Try.prog 40 w b f ∧ ∀ n, (Lit.int .u16 n).wf = true → f (.int .u16 n) = if n ∈ N then some (.bool (U n)) else none
theorem UpsAt.exc {w w' : World} {b : Nat} {N : List Int} {U : Int → Bool} {S : Nat → Prop} (h : UpsAt w b N U) (hx : Exc S w w') (hn : ¬ S b) : UpsAt w' b N U := by
  obtain ⟨f, h1, h2⟩ := h; exact ⟨f, h1.exc hx hn, h2⟩
theorem UpsAt.run {w : World} {b : Nat} {N : List Int} {U : Int → Bool} (h : UpsAt w b N U) {n : Int} (hn : (Lit.int .u16 n).wf = true) :
    (Instr.lookup 82 (.map (some b)) (.int .u16 n) false).run Try.prog w = .ok (.bool (decide (n ∈ N) && U n)) w := by
  obtain ⟨f, h1, h2⟩ := h
  have := h1.look law_pt Try.underlying82 (zero_bool w) (key_pt hn) false
  rw [if_neg (by decide), h2 n hn] at this
  rw [this]
  by_cases e : n ∈ N <;> simp [e]
theorem UpsAt.run_ok {w : World} {b : Nat} {N : List Int} {U : Int → Bool} (h : UpsAt w b N U) {n : Int} (hn : (Lit.int .u16 n).wf = true) :
    (Instr.lookup 82 (.map (some b)) (.int .u16 n) true).run Try.prog w = .ok (.tuple #[.bool (decide (n ∈ N) && U n), .bool (decide (n ∈ N))]) w := by
  obtain ⟨f, h1, h2⟩ := h
  have := h1.look law_pt Try.underlying82 (zero_bool w) (key_pt hn) true
  rw [if_pos rfl, h2 n hn] at this
  rw [this]
  by_cases e : n ∈ N <;> simp [e]
/-- The choices: the slice at each destination. -/
def ChsAt (w : World) (b : Nat) (D : List Int) (C : Int → Value) : Prop := ∃ f, MapAt Try.prog 40 w b f ∧ ∀ n, (Lit.int .u16 n).wf = true → f (.int .u16 n) = if n ∈ D then some (C n) else none
theorem ChsAt.exc {w w' : World} {b : Nat} {D : List Int} {C : Int → Value} {S : Nat → Prop} (h : ChsAt w b D C) (hx : Exc S w w') (hn : ¬ S b) : ChsAt w' b D C := by
  obtain ⟨f, h1, h2⟩ := h; exact ⟨f, h1.exc hx hn, h2⟩
theorem ChsAt.run {w : World} {b : Nat} {D : List Int} {C : Int → Value} (h : ChsAt w b D C) {n : Int} (hn : (Lit.int .u16 n).wf = true) {v : Value} (hv : (n ∈ D ∧ C n = v) ∨ (n ∉ D ∧ v = .slice none 0 0)) :
    (Instr.lookup 81 (.map (some b)) (.int .u16 n) false).run Try.prog w = .ok v w := by
  obtain ⟨f, h1, h2⟩ := h
  have := h1.look law_pt Try.underlying81 (zero_chs w) (key_pt hn) false
  rw [if_neg (by decide), h2 n hn] at this
  rw [this]
  rcases hv with ⟨h3, rfl⟩ | ⟨h3, rfl⟩ <;> simp [h3]
theorem ChsAt.run_ok {w : World} {b : Nat} {D : List Int} {C : Int → Value} (h : ChsAt w b D C) {n : Int} (hn : (Lit.int .u16 n).wf = true) :
    ∃ v, (Instr.lookup 81 (.map (some b)) (.int .u16 n) true).run Try.prog w = .ok (.tuple #[v, .bool (decide (n ∈ D))]) w := by
  obtain ⟨f, h1, h2⟩ := h
  have := h1.look law_pt Try.underlying81 (zero_chs w) (key_pt hn) true
  rw [if_pos rfl, h2 n hn] at this
  by_cases e : n ∈ D
  · exact ⟨C n, by rw [this]; simp [e]⟩
  · exact ⟨.slice none 0 0, by rw [this]; simp [e]⟩
/-- Where a table's parts lie: all of them below hi. -/
structure Tl where
  tb : Nat
  aN : Option Addr
  cN : Nat
  aD : Option Addr
  cD : Nat
  bc : Nat
  bu : Nat
  bt : Nat
  bs : Nat
  ch : Int → Value
  hi : Nat
def tbCells (y : Tl) (T : Tb) : List Value := [.int .u16 T.me, .bool T.tr, .slice y.aN T.N.length y.cN, .slice y.aD T.D.length y.cD, .map (some y.bc), .map (some y.bu), .map (some y.bt), .map (some y.bs)]
/-- What is said of a table's lists and numbers. -/
structure TbWf (T : Tb) : Prop where
  me : (Lit.int .u16 T.me).wf = true
  nodN : T.N.Nodup
  nodD : T.D.Nodup
  lenN : T.N.length ≤ 1024
  lenD : T.D.length ≤ 64
  lenC : ∀ d, d ∈ T.D → (T.C d).length ≤ 1024
  chwf : ∀ d, d ∈ T.D → ∀ c ∈ T.C d, (Lit.int .u16 c.1).wf = true
  told : ∀ x y, 0 ≤ T.told x y ∧ T.told x y ≤ 2
/-- What never changes. -/
structure TbFix (w : World) (y : Tl) (T : Tb) : Prop where
  own : Own w y.tb 86 (tbCells y T)
  nrow : Row .u16 w y.aN T.N.length y.cN T.N
  drow : Row .u16 w y.aD T.D.length y.cD T.D
  chs : ChsAt w y.bc T.D y.ch
  crow : ∀ d, d ∈ T.D → ∃ a, y.ch d = .slice a (T.C d).length (T.C d).length ∧ CRow w a (T.C d).length (T.C d).length (T.C d) ∧ (0 < (T.C d).length → ∀ z, a = some z → z.block < y.hi)
  hN : 0 < T.N.length → ∀ z, y.aN = some z → z.block < y.hi
  hD : 0 < T.D.length → ∀ z, y.aD = some z → z.block < y.hi
  hb : y.tb < y.hi ∧ y.bc < y.hi ∧ y.bu < y.hi ∧ y.bt < y.hi ∧ y.bs < y.hi
  hi : y.hi ≤ w.heap.size
  apart : y.bc ≠ y.bu ∧ y.bc ≠ y.bt ∧ y.bc ≠ y.bs ∧ y.bu ≠ y.bt ∧ y.bu ≠ y.bs ∧ y.bt ≠ y.bs
structure TbAt (w : World) (y : Tl) (T : Tb) : Prop where
  fix : TbFix w y T
  wf : TbWf T
  ups : UpsAt w y.bu T.N T.up
  tol : RecAt w y.bt T.told
  sai : RecAt w y.bs T.said
/-- The blocks that a table's methods write. -/
def Mut (y : Tl) : Nat → Prop := fun k => k = y.bu ∨ k = y.bt ∨ k = y.bs
/-- A block that holds an entry of a row is no map's. -/
theorem cell_map {w : World} {p : Addr} {v : Value} (h : w.cell? p = some v) {es : Array MapEntry} {clock : Nat} (hb : w.heap[p.block]? = some (.map es clock)) : False := by
  unfold World.cell? at h; rw [hb] at h; cases h
/-- The blocks of S are above the table's, or maps that are none of its own. -/
def Off (S : Nat → Prop) (w : World) (y : Tl) : Prop := ∀ k, S k → k < w.heap.size → y.hi ≤ k ∨ ((∃ es clock, w.heap[k]? = some (.map es clock)) ∧ k ≠ y.bc ∧ k ≠ y.bu ∧ k ≠ y.bt ∧ k ≠ y.bs)
theorem Off.none (w : World) (y : Tl) : Off (fun _ => False) w y := fun _ h => h.elim
theorem Exc.cells {S : Nat → Prop} {w w' : World} {hi : Nat} (hx : Exc S w w') (hS : ∀ k, S k → k < w.heap.size → hi ≤ k ∨ ∃ es clock, w.heap[k]? = some (.map es clock)) {p : Addr} {v : Value} (hp : p.block < hi) (h : w.cell? p = some v) : w'.cell? p = some v := by
  have hlt := World.block_lt_of_cell? w _ h
  refine hx.cell h fun hs => ?_
  rcases hS _ hs hlt with h1 | ⟨es, clock, h1⟩
  · omega
  · exact cell_map h h1
theorem row_cells {S : Nat → Prop} {k : IntKind} {w w' : World} {a : Option Addr} {n c : Nat} {l : List Int} {hi : Nat} (hr : Row k w a n c l) (hx : Exc S w w') (hS : ∀ k, S k → k < w.heap.size → hi ≤ k ∨ ∃ es clock, w.heap[k]? = some (.map es clock)) (ha : 0 < n → ∀ z, a = some z → z.block < hi) : Row k w' a n c l := by
  refine ⟨hr.len, hr.le, hr.max, hr.wf, ?_, hr.isNil⟩
  rcases Nat.eq_zero_or_pos n with h0 | h0
  · exact .inl h0
  · have ha := ha h0
    obtain ⟨b', off, he, hc⟩ := hr.cells.resolve_left (by omega)
    exact .inr ⟨b', off, he, fun i hi' => hx.cells hS (show b' < hi from ha _ he) (hc i hi')⟩
theorem crow_cells {S : Nat → Prop} {w w' : World} {a : Option Addr} {n c : Nat} {X : List (Int × Int)} {hi : Nat} (hr : CRow w a n c X) (hx : Exc S w w') (hS : ∀ k, S k → k < w.heap.size → hi ≤ k ∨ ∃ es clock, w.heap[k]? = some (.map es clock)) (ha : 0 < n → ∀ z, a = some z → z.block < hi) : CRow w' a n c X := by
  refine ⟨hr.len, hr.le, hr.max, ?_⟩
  rcases Nat.eq_zero_or_pos n with h0 | h0
  · exact .inl h0
  · have ha := ha h0
    obtain ⟨b', off, he, hc⟩ := hr.cells.resolve_left (by omega)
    exact .inr ⟨b', off, he, fun i hi' => ⟨hx.cells hS (show b' < hi from ha _ he) (hc i hi').1, hx.cells hS (show b' < hi from ha _ he) (hc i hi').2⟩⟩
theorem own_map {w : World} {b t : Nat} {cs : List Value} (h : Own w b t cs) {es : Array MapEntry} {clock : Nat} (hb : w.heap[b]? = some (.map es clock)) : False := by
  unfold Own at h; rw [hb] at h; cases h
theorem TbFix.exc {S : Nat → Prop} {w w' : World} {y : Tl} {T : Tb} (h : TbFix w y T) (hx : Exc S w w') (hS : ∀ k, S k → k < w.heap.size → y.hi ≤ k ∨ ((∃ es clock, w.heap[k]? = some (.map es clock)) ∧ k ≠ y.bc)) : TbFix w' y T := by
  have hS2 : ∀ k, S k → k < w.heap.size → y.hi ≤ k ∨ ∃ es clock, w.heap[k]? = some (.map es clock) := fun k hk hl => (hS k hk hl).imp id fun h => h.1
  obtain ⟨b1, b2, b3, b4, b5⟩ := h.hb
  refine ⟨?_, row_cells h.nrow hx hS2 h.hN, row_cells h.drow hx hS2 h.hD, h.chs.exc hx fun hs => ?_, fun d hd => ?_, h.hN, h.hD, h.hb, Nat.le_trans h.hi hx.size, h.apart⟩
  · have hl := h.own.lt
    unfold Own
    rw [hx.block _ hl fun hs => ?_]
    · exact h.own
    · rcases hS2 _ hs hl with h1 | ⟨es, clock, h1⟩
      · omega
      · exact own_map h.own h1
  · rcases hS _ hs (Nat.lt_of_lt_of_le b2 h.hi) with h1 | ⟨_, h1⟩
    · omega
    · exact h1 rfl
  · obtain ⟨a, e1, e2, e3⟩ := h.crow d hd
    exact ⟨a, e1, crow_cells e2 hx hS2 e3, e3⟩
theorem TbAt.exc {S : Nat → Prop} {w w' : World} {y : Tl} {T : Tb} (h : TbAt w y T) (hx : Exc S w w') (hS : Off S w y) : TbAt w' y T := by
  obtain ⟨b1, b2, b3, b4, b5⟩ := h.fix.hb
  have hh := h.fix.hi
  have far : ∀ k, k < y.hi → (k = y.bu ∨ k = y.bt ∨ k = y.bs) → ¬ S k := fun k hk hw hs => by
    rcases hS k hs (Nat.lt_of_lt_of_le hk hh) with h1 | ⟨_, _, h2, h3, h4⟩
    · omega
    · rcases hw with e | e | e
      · exact h2 e
      · exact h3 e
      · exact h4 e
  exact ⟨h.fix.exc hx fun k hk hl => (hS k hk hl).imp id fun h => ⟨h.1, h.2.1⟩, h.wf, h.ups.exc hx (far _ b3 (.inl rfl)), h.tol.exc hx (far _ b4 (.inr (.inl rfl))), h.sai.exc hx (far _ b5 (.inr (.inr rfl)))⟩
theorem TbAt.below {w w' : World} {y : Tl} {T : Tb} (h : TbAt w y T) (hb : Below w.heap.size w w') : TbAt w' y T := h.exc (S := fun _ => False) (Exc.of_below hb) (Off.none w y)
theorem TbAt.drew {w : World} {y : Tl} {T : Tb} (h : TbAt w y T) : TbAt w.drew y T := h.below (below_draw w 1)
theorem TbAt.cells {w : World} {y : Tl} {T : Tb} (h : TbAt w y T) : w.cell? ⟨y.tb, 0, none⟩ = some (.int .u16 T.me) ∧ w.cell? ⟨y.tb, 1, none⟩ = some (.bool T.tr) ∧ w.cell? ⟨y.tb, 2, none⟩ = some (.slice y.aN T.N.length y.cN) ∧ w.cell? ⟨y.tb, 3, none⟩ = some (.slice y.aD T.D.length y.cD) ∧
    w.cell? ⟨y.tb, 4, none⟩ = some (.map (some y.bc)) ∧ w.cell? ⟨y.tb, 5, none⟩ = some (.map (some y.bu)) ∧ w.cell? ⟨y.tb, 6, none⟩ = some (.map (some y.bt)) ∧ w.cell? ⟨y.tb, 7, none⟩ = some (.map (some y.bs)) := by
  have h0 := h.fix.own
  exact ⟨h0.cell 0 (by simp [tbCells]), h0.cell 1 (by simp [tbCells]), h0.cell 2 (by simp [tbCells]), h0.cell 3 (by simp [tbCells]), h0.cell 4 (by simp [tbCells]), h0.cell 5 (by simp [tbCells]), h0.cell 6 (by simp [tbCells]), h0.cell 7 (by simp [tbCells])⟩
theorem UpsAt.map {w : World} {b : Nat} {N : List Int} {U : Int → Bool} (h : UpsAt w b N U) : ∃ es clock, w.heap[b]? = some (.map es clock) := by obtain ⟨f, h, _⟩ := h; exact h.map
theorem RecAt.map {w : World} {b : Nat} {T : Int → Int → Int} (h : RecAt w b T) : ∃ es clock, w.heap[b]? = some (.map es clock) := by obtain ⟨f, h, _⟩ := h; exact h.map
/-- The methods of one table leave another one alone. -/
theorem TbAt.off {w : World} {y z : Tl} {T U : Tb} (h : TbAt w y T) (_g : TbAt w z U) (hd : ∀ k, Mut y k → k ≠ z.bc ∧ k ≠ z.bu ∧ k ≠ z.bt ∧ k ≠ z.bs) : Off (Mut y) w z := fun k hk _ => by
  refine .inr ⟨?_, (hd k hk)⟩
  rcases hk with rfl | rfl | rfl
  · exact h.ups.map
  · exact h.tol.map
  · exact h.sai.map
theorem TbFix.with {w : World} {y : Tl} {T : Tb} (h : TbFix w y T) (U : Int → Bool) (t s : Int → Int → Int) : TbFix w y ⟨T.me, T.tr, T.N, T.D, T.C, U, t, s⟩ := ⟨h.own, h.nrow, h.drow, h.chs, h.crow, h.hN, h.hD, h.hb, h.hi, h.apart⟩
theorem TbWf.with {T : Tb} (h : TbWf T) (U : Int → Bool) (t s : Int → Int → Int) (ht : ∀ x y, 0 ≤ t x y ∧ t x y ≤ 2) : TbWf ⟨T.me, T.tr, T.N, T.D, T.C, U, t, s⟩ := ⟨h.me, h.nodN, h.nodD, h.lenN, h.lenD, h.lenC, h.chwf, ht⟩
/-- One of the table's own maps has changed. -/
theorem TbAt.newUps {w w' : World} {y : Tl} {T : Tb} (h : TbAt w y T) (hx : Exc (fun k => k = y.bu) w w') {U : Int → Bool} (hU : UpsAt w' y.bu T.N U) : TbAt w' y { T with up := U } :=
  ⟨(h.fix.exc hx fun k hk _ => by subst hk; exact .inr ⟨h.ups.map, h.fix.apart.1.symm⟩).with _ _ _, h.wf.with _ _ _ h.wf.told, hU, h.tol.exc hx h.fix.apart.2.2.2.1.symm, h.sai.exc hx h.fix.apart.2.2.2.2.1.symm⟩
theorem TbAt.newTol {w w' : World} {y : Tl} {T : Tb} (h : TbAt w y T) (hx : Exc (fun k => k = y.bt) w w') {U : Int → Int → Int} (hw : ∀ a b, 0 ≤ U a b ∧ U a b ≤ 2) (hU : RecAt w' y.bt U) : TbAt w' y { T with told := U } :=
  ⟨(h.fix.exc hx fun k hk _ => by subst hk; exact .inr ⟨h.tol.map, h.fix.apart.2.1.symm⟩).with _ _ _, h.wf.with _ _ _ hw, h.ups.exc hx h.fix.apart.2.2.2.1, hU, h.sai.exc hx h.fix.apart.2.2.2.2.2.symm⟩
theorem TbAt.newSai {w w' : World} {y : Tl} {T : Tb} (h : TbAt w y T) (hx : Exc (fun k => k = y.bs) w w') {U : Int → Int → Int} (hU : RecAt w' y.bs U) : TbAt w' y { T with said := U } :=
  ⟨(h.fix.exc hx fun k hk _ => by subst hk; exact .inr ⟨h.sai.map, h.fix.apart.2.2.1.symm⟩).with _ _ _, h.wf.with _ _ _ h.wf.told, h.ups.exc hx h.fix.apart.2.2.2.2.1, h.tol.exc hx h.fix.apart.2.2.2.2.2, hU⟩
theorem excMut {y : Tl} {w w' : World} {b : Nat} (h : Exc (fun k => k = b) w w') (hb : b = y.bu ∨ b = y.bt ∨ b = y.bs) : Exc (Mut y) w w' := h.weak fun i _ hi => by subst hi; exact hb
theorem excMut_trans {y : Tl} {a b c : World} (h : Exc (Mut y) a b) (k : Exc (Mut y) b c) : Exc (Mut y) a c := h.trans k fun _ _ h => h
theorem excMut_below {y : Tl} {a b c : World} (h : Exc (Mut y) a b) (k : Below b.heap.size b c) : Exc (Mut y) a c := h.trans (Exc.of_below (S := Mut y) k) fun _ _ h => h
theorem excMut_draw {y : Tl} {a b : World} (h : Exc (Mut y) a b) (q : Nat) : Exc (Mut y) a (b.drewN q) := h.drawN q
end Go.Proofs.Ytppbcehcaeeocaa
/- What a table's methods read: isEmpty, isNeighbor, isDestination, checkNeighbor, statusBy. -/
namespace Go.Proofs.Ytppbcehcaeeocaa
open Go.RowKit Go.Maps

theorem eqlSome (bm : Nat) (w : World) : (binOp .eql 81 (.map (some bm)) (.map none)).run Try.prog w = .ok (.bool false) w := by kernel_rfl
theorem eqlNil (w : World) : (binOp .eql 81 (.map none) (.map none)).run Try.prog w = .ok (.bool true) w := by kernel_rfl
/-- A nil table, or the zero one. -/
def Nul (w : World) (a : Option Addr) : Prop := a = none ∨ ∃ b, a = some ⟨b, 0, none⟩ ∧ w.cell? ⟨b, 4, none⟩ = some (.map none)
theorem Nul.later {w w' : World} {a : Option Addr} (h : Nul w a) (hb : Below w.heap.size w w') : Nul w' a := by
  rcases h with h | ⟨b, h1, h2⟩
  · exact .inl h
  · exact .inr ⟨b, h1, by rw [hb.cell (p := ⟨b, 4, none⟩) (by exact World.block_lt_of_cell? w _ h2)]; exact h2⟩
set_option maxRecDepth 100000 in
theorem isEmpty_nul (a : Option Addr) (w : World) (h : Nul w a) : Calls Try.prog 35 #[.pointer a] w fun e w' => e = .returned (.bool true) ∧ w = w' := by
  rcases h with rfl | ⟨b, rfl, hc⟩
  · go_enter Try.func35, Try.ntmps35
    go_wp2
    go_ret
    exact ⟨rfl, rfl⟩
  · have hq1 := eqlNil w
    go_enter Try.func35, Try.ntmps35
    go_wp2
    go_ret
    exact ⟨rfl, rfl⟩
set_option maxRecDepth 100000 in
theorem isEmpty_any {y : Tl} {T : Tb} (w : World) (h : TbAt w y T) : Calls Try.prog 35 #[.pointer (some ⟨y.tb, 0, none⟩)] w fun e w' => e = .returned (.bool false) ∧ w = w' := by
  obtain ⟨g0, g1, g2, g3, g4, g5, g6, g7⟩ := h.cells
  have hq1 := eqlSome y.bc w
  clear h
  go_enter Try.func35, Try.ntmps35
  go_wp2
  go_ret
  exact ⟨rfl, rfl⟩
set_option maxRecDepth 100000 in
theorem isNeighbor_any {y : Tl} {T : Tb} (n : Int) (w : World) (h : TbAt w y T) (hn : (Lit.int .u16 n).wf = true) : Calls Try.prog 60 #[.pointer (some ⟨y.tb, 0, none⟩), .int .u16 n] w fun e w' => e = .returned (.bool (decide (n ∈ T.N))) ∧ Below w.heap.size w w' := by
  obtain ⟨g0, g1, g2, g3, g4, g5, g6, g7⟩ := h.cells
  have hr := h.ups.run_ok hn
  have hr2 := (h.below (below_alloc w (.cells #[.bool false] 4))).ups.run_ok hn
  obtain ⟨q, hq⟩ : ∃ q, q = decide (n ∈ T.N) := ⟨_, rfl⟩
  obtain ⟨r, hrr⟩ : ∃ r, r = (q && T.up n) := ⟨_, rfl⟩
  rw [← hq, ← hrr] at hr hr2
  rw [← hq]
  clear hq hrr h hn
  go_enter Try.func60, Try.ntmps60
  go_wp2
  go_ret
  exact ⟨rfl, Below.refl _ _⟩
set_option maxRecDepth 100000 in
theorem isDestination_same {y : Tl} {T : Tb} (n : Int) (w : World) (h : TbAt w y T) (hn : (Lit.int .u16 n).wf = true) : Calls Try.prog 36 #[.pointer (some ⟨y.tb, 0, none⟩), .int .u16 n] w fun e w' => e = .returned (.bool (decide (n ∈ T.D))) ∧ w = w' := by
  obtain ⟨g0, g1, g2, g3, g4, g5, g6, g7⟩ := h.cells
  obtain ⟨v, hr⟩ := h.fix.chs.run_ok hn
  obtain ⟨q, hq⟩ : ∃ q, q = decide (n ∈ T.D) := ⟨_, rfl⟩
  rw [← hq] at hr
  rw [← hq]
  clear hq h hn
  go_enter Try.func36, Try.ntmps36
  go_wp2
  go_ret
  exact ⟨rfl, rfl⟩
theorem isDestination_any {y : Tl} {T : Tb} (n : Int) (w : World) (h : TbAt w y T) (hn : (Lit.int .u16 n).wf = true) : Calls Try.prog 36 #[.pointer (some ⟨y.tb, 0, none⟩), .int .u16 n] w fun e w' => e = .returned (.bool (decide (n ∈ T.D))) ∧ Below w.heap.size w w' :=
  (isDestination_same n w h hn).mono fun _ _ h => ⟨h.1, h.2 ▸ Below.refl _ _⟩
set_option maxRecDepth 100000 in
theorem check_nul (a : Option Addr) (n : Int) (w : World) (h : Nul w a) : Calls Try.prog 43 #[.pointer a, .int .u16 n] w fun e w' => e = .returned (.int .i64 2) ∧ w = w' := by
  have HE := Lib.hid (isEmpty_nul a w h)
  clear h
  go_enter Try.func43, Try.ntmps43
  go_wp2_with fail
  with_reducible refine HE.out.mono ?_
  rintro e w' ⟨rfl, rfl⟩
  go_wp2
  go_ret
  exact ⟨rfl, rfl⟩
set_option maxRecDepth 100000 in
theorem check_any {y : Tl} {T : Tb} (n : Int) (w : World) (h : TbAt w y T) (hn : (Lit.int .u16 n).wf = true) : Calls Try.prog 43 #[.pointer (some ⟨y.tb, 0, none⟩), .int .u16 n] w fun e w' => e = .returned (.int .i64 (if n ∈ T.N then 0 else 7)) ∧ Below w.heap.size w w' := by
  have HE := Lib.hid (isEmpty_any w h)
  have hN := isNeighbor_any n w h hn
  clear h hn
  by_cases hq : n ∈ T.N
  · rw [decide_eq_true hq] at hN
    rw [if_pos hq]
    have HN := Lib.hid hN
    clear hN hq
    go_enter Try.func43, Try.ntmps43
    go_wp2_with fail
    with_reducible refine HE.out.mono ?_
    rintro e w' ⟨rfl, rfl⟩
    go_wp2_with fail
    with_reducible refine HN.out.mono ?_
    rintro e w' ⟨rfl, hb⟩
    have HB := Lib.hid hb
    clear hb
    go_wp2
    go_ret
    exact ⟨rfl, HB.out⟩
  · rw [decide_eq_false hq] at hN
    rw [if_neg hq]
    have HN := Lib.hid hN
    clear hN hq
    go_enter Try.func43, Try.ntmps43
    go_wp2_with fail
    with_reducible refine HE.out.mono ?_
    rintro e w' ⟨rfl, rfl⟩
    go_wp2_with fail
    with_reducible refine HN.out.mono ?_
    rintro e w' ⟨rfl, hb⟩
    have HB := Lib.hid hb
    clear hb
    go_wp2
    go_ret
    exact ⟨rfl, HB.out⟩
set_option maxRecDepth 100000 in
theorem statusBy_any {y : Tl} {T : Tb} (n d : Int) (w : World) (h : TbAt w y T) (hn : (Lit.int .u16 n).wf = true) (hd : (Lit.int .u16 d).wf = true) : Calls Try.prog 38 #[.pointer (some ⟨y.tb, 0, none⟩), .int .u16 n, .int .u16 d] w fun e w' => e = .returned (.int .u8 (T.byN n d)) ∧ w = w' := by
  obtain ⟨g0, g1, g2, g3, g4, g5, g6, g7⟩ := h.cells
  have hr := h.ups.run hn
  have ht := h.tol.run hn hd
  have hb : (decide (n ∈ T.N) && T.up n) = T.isUp n := rfl
  rw [hb] at hr
  unfold Tb.byN
  obtain ⟨q, hq⟩ : ∃ q, q = T.isUp n := ⟨_, rfl⟩
  rw [← hq] at hr
  rw [← hq]
  clear hb hq h hn hd
  cases q
  · go_enter Try.func38, Try.ntmps38
    go_wp2
    go_ret
    exact ⟨rfl, rfl⟩
  · go_enter Try.func38, Try.ntmps38
    go_wp2
    go_ret
    exact ⟨rfl, rfl⟩
end Go.Proofs.Ytppbcehcaeeocaa
/- A table's statusOf, Status and Statuses. -/
namespace Go.Proofs.Ytppbcehcaeeocaa
open Go.RowKit Go.Maps

theorem clipS_any (a : Option Addr) (n c : Nat) (w : World) (hnc : n ≤ c) (_hc : c ≤ maxLen) :
    Calls Try.prog 39 #[.slice a n c] w fun e w' => e = .returned (.slice a n n) ∧ w = w' := by
  have h1 : (n : Int) ≤ (c : Int) := by omega
  go_enter Try.func39, Try.ntmps39
  go_wp2
  go_ret
  exact ⟨rfl, rfl⟩
theorem clipN_any (a : Option Addr) (n c : Nat) (w : World) (hnc : n ≤ c) (_hc : c ≤ maxLen) :
    Calls Try.prog 44 #[.slice a n c] w fun e w' => e = .returned (.slice a n n) ∧ w = w' := by
  have h1 : (n : Int) ≤ (c : Int) := by omega
  go_enter Try.func44, Try.ntmps44
  go_wp2
  go_ret
  exact ⟨rfl, rfl⟩
theorem Tb.byN_range {T : Tb} (h : TbWf T) (n d : Int) : 0 ≤ T.byN n d ∧ T.byN n d ≤ 2 := by
  unfold Tb.byN; split
  · exact h.told n d
  · decide
theorem stF_range (r0 : Int) : ∀ (l : List (Int × Int)) (acc : Int), 0 ≤ acc → acc ≤ 2 → 0 ≤ Tb.stF r0 acc l ∧ Tb.stF r0 acc l ≤ 2
  | [], acc, h1, h2 => ⟨h1, h2⟩
  | (s, r) :: l, acc, h1, h2 => by
    unfold Tb.stF
    split
    · decide
    · split
      · exact stF_range r0 l acc h1 h2
      · exact stF_range r0 l 1 (by decide) (by decide)
theorem Tb.st_range (T : Tb) (d : Int) : 0 ≤ T.st d ∧ T.st d ≤ 2 := stF_range _ _ _ (by decide) (by decide)
/-- The pairs of status and rank that statusOf goes through. -/
def prs (T : Tb) (d : Int) : List (Int × Int) := (T.C d).map fun c => (T.byN c.1 d, c.2)
theorem prs_take {T : Tb} {d : Int} {k : Nat} (hk : k < (T.C d).length) : (prs T d).take (k + 1) = (prs T d).take k ++ [(T.byN ((T.C d).getD k (0, 0)).1 d, ((T.C d).getD k (0, 0)).2)] := by
  unfold prs
  rw [← List.map_take, ← List.map_take, List.take_succ_eq_append_getElem hk, List.map_append]
  simp [List.getD_eq_getElem?_getD, hk]
theorem prs_step {T : Tb} {d : Int} {k : Nat} (hk : k < (T.C d).length) (r0 : Int) (hno : ∀ x ∈ (prs T d).take k, ¬ (x.1 = 0 ∧ x.2 = r0)) (hn : ¬ (T.byN ((T.C d).getD k (0, 0)).1 d = 0 ∧ ((T.C d).getD k (0, 0)).2 = r0)) :
    (∀ x ∈ (prs T d).take (k + 1), ¬ (x.1 = 0 ∧ x.2 = r0)) ∧ Tb.stF r0 2 ((prs T d).take (k + 1)) = if T.byN ((T.C d).getD k (0, 0)).1 d = 2 then Tb.stF r0 2 ((prs T d).take k) else 1 := by
  rw [prs_take hk]
  refine ⟨fun x hx => ?_, ?_⟩
  · rcases List.mem_append.1 hx with h | h
    · exact hno x h
    · rw [List.mem_singleton] at h; subst h; exact hn
  · rw [Tb.stF_snoc r0 _ 2 _ _ hno, if_neg hn]
theorem prs_hit {T : Tb} {d : Int} {k : Nat} (hk : k < (T.C d).length) (r0 : Int) (h1 : T.byN ((T.C d).getD k (0, 0)).1 d = 0) (h2 : ((T.C d).getD k (0, 0)).2 = r0) : Tb.stF r0 2 (prs T d) = 0 := by
  have h := prs_take (T := T) (d := d) hk
  rw [← List.take_append_drop (k + 1) (prs T d), h]
  exact Tb.stF_zero r0 _ _ _ ⟨_, List.mem_append_right _ (List.mem_singleton.2 rfl), h1, h2⟩
theorem mem_getD {α : Type} {L : List α} {k : Nat} {d : α} (hk : k < L.length) : L.getD k d ∈ L := by
  rw [List.getD_eq_getElem?_getD, List.getElem?_eq_getElem hk]; exact List.getElem_mem _
set_option maxRecDepth 100000 in
set_option maxHeartbeats 2000000 in
theorem statusOf_any {y : Tl} {T : Tb} (d : Int) (w : World) (h : TbAt w y T) (hd : d ∈ T.D) : Calls Try.prog 37 #[.pointer (some ⟨y.tb, 0, none⟩), .int .u16 d] w fun e w' => e = .returned (.int .u8 (T.st d)) ∧ Below w.heap.size w w' := by
  have hwd := h.fix.drow.wf d hd
  obtain ⟨g0, g1, g2, g3, g4, g5, g6, g7⟩ := h.cells
  obtain ⟨a, e1, e2, _⟩ := h.fix.crow d hd
  have hlc := h.wf.lenC d hd
  have hcw := h.wf.chwf d hd
  have hr := h.drew.fix.chs.run hwd (.inl ⟨hd, e1⟩)
  have hst : T.st d = Tb.stF ((T.C d).getD 0 (0, 0)).2 2 (prs T d) := rfl
  have HSB := Lib.hid (fun (n : Int) (W : World) (hb : Below w.heap.size w W) (hn : (Lit.int .u16 n).wf = true) => statusBy_any n d W (h.below hb) hn hwd)
  obtain ⟨r0, hr0⟩ : ∃ r0, r0 = ((T.C d).getD 0 (0, 0)).2 := ⟨_, rfl⟩
  obtain ⟨n, hn⟩ : ∃ n, n = (T.C d).length := ⟨_, rfl⟩
  rw [← hn] at hr e2 hlc
  rw [← hr0] at hst
  have HSt := Lib.hid hst
  have HN := Lib.hid hn
  have HR0 := Lib.hid hr0
  have HC := Lib.hid e2
  have HCW := Lib.hid hcw
  have HPr : Hid ((prs T d).length = n) := Lib.hid (by unfold prs; rw [List.length_map, hn])
  clear hst hn hr0 e1 e2 hcw h hd hwd
  go_enter Try.func37, Try.ntmps37
  go_wp2_with fail
  go_region
  clear hr g0 g1 g2 g3 g4 g5 g6 g7
  have hb0 : Below w.heap.size w w.drew := below_draw w 1
  generalize w.drew = w0 at hb0 ⊢
  have HC0 := Lib.hid (fun (W : World) (hb : Below w0.heap.size w0 W) => HC.out.exc (S := fun _ => False) (Exc.of_below (hb0.trans (hb.mono hb0.size))) (fun _ _ h => h))
  have HB0 := Lib.hid hb0
  clear hb0 HC
  go_wp2_with fail
  go_loopw [5, 18] (fun sv kv wr => ∃ k : Nat, k ≤ n ∧ kv = .int .i64 k ∧ sv = .int .u8 (Tb.stF r0 2 ((prs T d).take k)) ∧ (∀ x ∈ (prs T d).take k, ¬ (x.1 = 0 ∧ x.2 = r0)) ∧ Below w0.heap.size w0 wr) (fun _ kv _ => n - (intOf kv).toNat)
  case atStart => exact ⟨0, Nat.zero_le _, rfl, by simp [Tb.stF], by simp, Below.refl _ _⟩
  case round =>
    obtain ⟨k, hk, rfl, rfl, hno, hb⟩ := hrel
    obtain ⟨acc, hacc⟩ : ∃ acc, acc = Tb.stF r0 2 ((prs T d).take k) := ⟨_, rfl⟩
    rw [← hacc]
    have HB := Lib.hid hb
    have HNo := Lib.hid hno
    have HAcc := Lib.hid hacc
    have hcr := HC0.out wr hb
    have hsz : w0.heap.size ≤ wr.heap.size := hb.size
    clear hb hno hacc
    by_cases hkn : k < n
    · obtain ⟨b, off, rfl, hc⟩ := hcr.cells.resolve_left (by omega)
      have hkl : k < (T.C d).length := by rw [← HN.out]; exact hkn
      obtain ⟨c0, c1⟩ := hc k hkn
      have c2 := (hc 0 (by omega)).2
      rw [← HR0.out] at c2
      have hw := HCW.out _ (mem_getD (d := (0, 0)) hkl)
      have HStep := Lib.hid (prs_step hkl r0 HNo.out)
      have HHit := Lib.hid (prs_hit hkl r0)
      obtain ⟨q, hq⟩ : ∃ q, q = (T.C d).getD k (0, 0) := ⟨_, rfl⟩
      rw [← hq] at c0 c1 hw HStep HHit
      obtain ⟨q1, q2⟩ := q
      simp only at c0 c1 hw HStep HHit
      obtain ⟨s, hs⟩ : ∃ s, s = T.byN q1 d := ⟨_, rfl⟩
      have hsb := HSB.out q1 (wr.alloc (.cells #[.int .u16 q1, .int .i64 q2] 114)) (HB0.out.trans ((HB.out.trans ((below_alloc wr _).mono HB.out.size)).mono HB0.out.size)) hw
      rw [← hs] at hsb HStep HHit
      have HSb := Lib.hid hsb
      have hbl : b < wr.heap.size := World.block_lt_of_cell? _ _ c0
      have k1 : (k : Int) < (n : Int) := by omega
      have k2 : (0 : Int) ≤ (k : Int) := by omega
      have k3 : (0 : Int) < (n : Int) := by omega
      have k4 : 0 < n := by omega
      simp only [Nat.zero_mul, Nat.add_zero] at c2
      have HEnd : Hid (Below w0.heap.size w0 (wr.alloc (.cells #[.int .u16 q1, .int .i64 q2] 114))) := Lib.hid (HB.out.trans ((below_alloc wr _).mono HB.out.size))
      clear hq hs hc hcr hw hsb
      go_wp2_with fail
      with_reducible refine HSb.out.mono ?_
      rintro e w' ⟨rfl, rfl⟩
      by_cases h0 : s = 0
      · have e0 : (s == 0) = true := by simpa using h0
        have e2 : (s != 2) = true := by simp [h0]
        by_cases h1 : q2 = r0
        · have e1 : (q2 == r0) = true := by simpa using h1
          have HRes := Lib.hid (HHit.out h0 h1)
          clear h0 h1 e2
          go_wp2_with fail
          go_quiet (fail)
          go_wp2
          go_ret
          exact ⟨ret_int (by rw [HSt.out, HRes.out]), HB0.out.trans ((HEnd.out.trans ((below_draw _ _).mono HEnd.out.size)).mono HB0.out.size)⟩
        · have e1 : (q2 == r0) = false := by simpa using h1
          have HRes := Lib.hid (HStep.out fun h => h1 h.2)
          have HS2 := Lib.hid (show ¬ s = 2 by omega)
          clear h0 h1
          go_wp2_with fail
          go_quiet (fail)
          go_wp2
          refine ⟨⟨k + 1, by omega, by go_num, ?_, HRes.out.1, HEnd.out.trans ((below_draw _ _).mono HEnd.out.size)⟩, by simp [intOf]; omega⟩
          rw [HRes.out.2, if_neg HS2.out]
      · have e0 : (s == 0) = false := by simpa using h0
        have HRes := Lib.hid (HStep.out fun h => h0 h.1)
        by_cases h2 : s = 2
        · have e2 : (s != 2) = false := by simpa using h2
          have HS2 := Lib.hid h2
          clear h0 h2
          go_wp2_with fail
          go_quiet (fail)
          go_wp2
          refine ⟨⟨k + 1, by omega, by go_num, ?_, HRes.out.1, HEnd.out.trans ((below_draw _ _).mono HEnd.out.size)⟩, by simp [intOf]; omega⟩
          rw [HRes.out.2, if_pos HS2.out, ← HAcc.out]
        · have e2 : (s != 2) = true := by simpa using h2
          have HS2 := Lib.hid h2
          clear h0 h2
          go_wp2_with fail
          go_quiet (fail)
          go_wp2
          refine ⟨⟨k + 1, by omega, by go_num, ?_, HRes.out.1, HEnd.out.trans ((below_draw _ _).mono HEnd.out.size)⟩, by simp [intOf]; omega⟩
          rw [HRes.out.2, if_neg HS2.out]
    · obtain rfl : k = n := by omega
      have HRes : Hid (T.st d = acc) := Lib.hid (by rw [HSt.out, HAcc.out, List.take_of_length_le (by rw [HPr.out]; exact Nat.le_refl _)])
      clear hcr
      go_wp2
      go_ret
      exact ⟨ret_int HRes.out.symm, HB0.out.trans (HB.out.mono HB0.out.size)⟩
end Go.Proofs.Ytppbcehcaeeocaa
/- A table's Status and Statuses. -/
namespace Go.Proofs.Ytppbcehcaeeocaa
open Go.RowKit Go.Maps

set_option maxRecDepth 100000 in
theorem status_nul (a : Option Addr) (d : Int) (w : World) (h : Nul w a) : Calls Try.prog 13 #[.pointer a, .int .u16 d] w fun e w' => e = .returned (.tuple #[.int .u8 0, .int .i64 2]) ∧ w = w' := by
  have HE := Lib.hid (isEmpty_nul a w h)
  clear h
  go_enter Try.func13, Try.ntmps13
  go_wp2_with fail
  with_reducible refine HE.out.mono ?_
  rintro e w' ⟨rfl, rfl⟩
  go_wp2
  go_ret2
  exact ⟨rfl, rfl⟩
set_option maxRecDepth 100000 in
theorem status_me {y : Tl} {T : Tb} (w : World) (h : TbAt w y T) : Calls Try.prog 13 #[.pointer (some ⟨y.tb, 0, none⟩), .int .u16 T.me] w fun e w' => e = .returned (.tuple #[.int .u8 0, .int .i64 0]) ∧ Below w.heap.size w w' := by
  have HE := Lib.hid (isEmpty_any w h)
  obtain ⟨g0, g1, g2, g3, g4, g5, g6, g7⟩ := h.cells
  clear h
  go_enter Try.func13, Try.ntmps13
  go_wp2_with fail
  with_reducible refine HE.out.mono ?_
  rintro e w' ⟨rfl, rfl⟩
  go_wp2
  go_ret2
  exact ⟨rfl, Below.refl _ _⟩
set_option maxRecDepth 100000 in
theorem status_no {y : Tl} {T : Tb} (d : Int) (w : World) (h : TbAt w y T) (hwd : (Lit.int .u16 d).wf = true) (hm : d ≠ T.me) (hd : d ∉ T.D) : Calls Try.prog 13 #[.pointer (some ⟨y.tb, 0, none⟩), .int .u16 d] w fun e w' => e = .returned (.tuple #[.int .u8 0, .int .i64 7]) ∧ Below w.heap.size w w' := by
  have HE := Lib.hid (isEmpty_any w h)
  have hN := isDestination_any d w h hwd
  rw [decide_eq_false hd] at hN
  have HN := Lib.hid hN
  have hne : (d == T.me) = false := by simpa using hm
  obtain ⟨g0, g1, g2, g3, g4, g5, g6, g7⟩ := h.cells
  clear h hN hwd hm hd
  go_enter Try.func13, Try.ntmps13
  go_wp2_with fail
  with_reducible refine HE.out.mono ?_
  rintro e w' ⟨rfl, rfl⟩
  go_wp2_with fail
  with_reducible refine HN.out.mono ?_
  rintro e w' ⟨rfl, hb⟩
  have HB := Lib.hid hb
  clear hb g0 g1 g2 g3 g4 g5 g6 g7
  go_wp2
  go_ret2
  exact ⟨rfl, HB.out⟩
set_option maxRecDepth 100000 in
theorem status_ok {y : Tl} {T : Tb} (d : Int) (w : World) (h : TbAt w y T) (hm : d ≠ T.me) (hd : d ∈ T.D) : Calls Try.prog 13 #[.pointer (some ⟨y.tb, 0, none⟩), .int .u16 d] w fun e w' => e = .returned (.tuple #[.int .u8 (T.st d), .int .i64 0]) ∧ Below w.heap.size w w' := by
  have HE := Lib.hid (isEmpty_any w h)
  have hwd := h.fix.drow.wf d hd
  have hN := isDestination_any d w h hwd
  rw [decide_eq_true hd] at hN
  have HN := Lib.hid hN
  have HS := Lib.hid (fun (W : World) (hb : Below w.heap.size w W) => statusOf_any d W (h.below hb) hd)
  have hne : (d == T.me) = false := by simpa using hm
  obtain ⟨g0, g1, g2, g3, g4, g5, g6, g7⟩ := h.cells
  obtain ⟨s, hs⟩ : ∃ s, s = T.st d := ⟨_, rfl⟩
  rw [← hs] at HS ⊢
  clear h hN hwd hm hd hs
  go_enter Try.func13, Try.ntmps13
  go_wp2_with fail
  with_reducible refine HE.out.mono ?_
  rintro e w' ⟨rfl, rfl⟩
  go_wp2_with fail
  with_reducible refine HN.out.mono ?_
  rintro e w1 ⟨rfl, hb⟩
  have HB := Lib.hid hb
  clear hb g0 g1 g2 g3 g4 g5 g6 g7
  go_wp2_with fail
  with_reducible refine (HS.out w1 HB.out).mono ?_
  rintro e w2 ⟨rfl, hb⟩
  have HB2 := Lib.hid (HB.out.trans (hb.mono HB.out.size))
  clear hb
  go_wp2
  go_ret2
  exact ⟨rfl, HB2.out⟩
set_option maxRecDepth 100000 in
theorem statuses_nul (a : Option Addr) (d : Int) (w : World) (h : Nul w a) : Calls Try.prog 15 #[.pointer a, .int .u16 d] w fun e w' => e = .returned (.tuple #[.slice none 0 0, .int .i64 2]) ∧ w = w' := by
  have HE := Lib.hid (isEmpty_nul a w h)
  clear h
  go_enter Try.func15, Try.ntmps15
  go_wp2_with fail
  with_reducible refine HE.out.mono ?_
  rintro e w' ⟨rfl, rfl⟩
  go_wp2
  go_ret2
  exact ⟨rfl, rfl⟩
set_option maxRecDepth 100000 in
theorem statuses_me {y : Tl} {T : Tb} (w : World) (h : TbAt w y T) : Calls Try.prog 15 #[.pointer (some ⟨y.tb, 0, none⟩), .int .u16 T.me] w fun e w' => e = .returned (.tuple #[.slice none 0 0, .int .i64 1]) ∧ Below w.heap.size w w' := by
  have HE := Lib.hid (isEmpty_any w h)
  obtain ⟨g0, g1, g2, g3, g4, g5, g6, g7⟩ := h.cells
  clear h
  go_enter Try.func15, Try.ntmps15
  go_wp2_with fail
  with_reducible refine HE.out.mono ?_
  rintro e w' ⟨rfl, rfl⟩
  go_wp2
  go_ret2
  exact ⟨rfl, Below.refl _ _⟩
set_option maxRecDepth 100000 in
theorem statuses_no {y : Tl} {T : Tb} (d : Int) (w : World) (h : TbAt w y T) (hwd : (Lit.int .u16 d).wf = true) (hm : d ≠ T.me) (hd : d ∉ T.D) : Calls Try.prog 15 #[.pointer (some ⟨y.tb, 0, none⟩), .int .u16 d] w fun e w' => e = .returned (.tuple #[.slice none 0 0, .int .i64 7]) ∧ Below w.heap.size w w' := by
  have HE := Lib.hid (isEmpty_any w h)
  have hN := isDestination_any d w h hwd
  rw [decide_eq_false hd] at hN
  have HN := Lib.hid hN
  have hne : (d == T.me) = false := by simpa using hm
  obtain ⟨g0, g1, g2, g3, g4, g5, g6, g7⟩ := h.cells
  clear h hN hwd hm hd
  go_enter Try.func15, Try.ntmps15
  go_wp2_with fail
  with_reducible refine HE.out.mono ?_
  rintro e w' ⟨rfl, rfl⟩
  go_wp2_with fail
  with_reducible refine HN.out.mono ?_
  rintro e w' ⟨rfl, hb⟩
  have HB := Lib.hid hb
  clear hb g0 g1 g2 g3 g4 g5 g6 g7
  go_wp2
  go_ret2
  exact ⟨rfl, HB.out⟩
theorem sts_take {T : Tb} {d : Int} {k : Nat} (hk : k < (T.C d).length) : (T.sts d).take (k + 1) = (T.sts d).take k ++ [T.byN ((T.C d).getD k (0, 0)).1 d] := by
  unfold Tb.sts
  rw [← List.map_take, ← List.map_take, List.take_succ_eq_append_getElem hk, List.map_append]
  simp [List.getD_eq_getElem?_getD, hk]
theorem infoSt : (Try.prog.info? 52).map (fun i => (i.zero, i.size, i.bytes)) = some (some (.int .u8 0), 1, 1) := by kernel_rfl
/-- The statuses of a destination's choices, in memory of the call's own. -/
def StsOut (T : Tb) (d : Int) (w : World) (e : Ending) (w' : World) : Prop := ∃ a, e = .returned (.tuple #[.slice a (T.sts d).length (T.sts d).length, .int .i64 0]) ∧ Row .u8 w' a (T.sts d).length (T.sts d).length (T.sts d) ∧ Below w.heap.size w w'
set_option maxRecDepth 100000 in
set_option maxHeartbeats 2000000 in
theorem statuses_ok {y : Tl} {T : Tb} (d : Int) (w : World) (h : TbAt w y T) (hm : d ≠ T.me) (hd : d ∈ T.D) : Calls Try.prog 15 #[.pointer (some ⟨y.tb, 0, none⟩), .int .u16 d] w (StsOut T d w) := by
  have HE := Lib.hid (isEmpty_any w h)
  have hwd := h.fix.drow.wf d hd
  have hN := isDestination_any d w h hwd
  rw [decide_eq_true hd] at hN
  have HN := Lib.hid hN
  have hne : (d == T.me) = false := by simpa using hm
  obtain ⟨g0, g1, g2, g3, g4, g5, g6, g7⟩ := h.cells
  obtain ⟨a, e1, e2, _⟩ := h.fix.crow d hd
  have hlc := h.wf.lenC d hd
  have hcw := h.wf.chwf d hd
  obtain ⟨n, hn⟩ : ∃ n, n = (T.C d).length := ⟨_, rfl⟩
  rw [← hn] at e1 e2 hlc
  have hrun := fun (W : World) (hb : Below w.heap.size w W) => (h.below hb).fix.chs.run hwd (.inl ⟨hd, e1⟩)
  have HRun := Lib.hid hrun
  have hcell := fun (W : World) (hb : Below w.heap.size w W) => (h.below hb).cells
  have HCell := Lib.hid hcell
  have HSB := Lib.hid (fun (q : Int) (W : World) (hb : Below w.heap.size w W) (hq : (Lit.int .u16 q).wf = true) => statusBy_any q d W (h.below hb) hq hwd)
  have HC := Lib.hid (fun (W : World) (hb : Below w.heap.size w W) => e2.exc (S := fun _ => False) (Exc.of_below hb) (fun _ _ h => h))
  have HRg := Lib.hid (fun q => (wf_u8.2 (by have := Tb.byN_range h.wf q d; omega) : (Lit.int .u8 (T.byN q d)).wf = true))
  have HN2 := Lib.hid hn
  have HCW := Lib.hid hcw
  have HLen : Hid ((T.sts d).length = n) := Lib.hid (by unfold Tb.sts; rw [List.length_map, hn])
  clear h hN hwd hm hd e1 e2 hrun hcell hcw hn
  go_enter Try.func15, Try.ntmps15
  go_wp2_with fail
  with_reducible refine HE.out.mono ?_
  rintro e w' ⟨rfl, rfl⟩
  go_wp2_with fail
  with_reducible refine HN.out.mono ?_
  rintro e w0 ⟨rfl, hb⟩
  have hr := HRun.out w0 hb
  have HB0 := Lib.hid hb
  clear g0 g1 g2 g3 g4 g5 g6 g7 hne
  obtain ⟨g0, g1, g2, g3, g4, g5, g6, g7⟩ := HCell.out w0 hb
  clear hb HN HE
  go_wp2_with fail
  clear hr g0 g1 g2 g3 g4 g5 g6 g7
  go_loopw [6, 31] (fun v kv wr => ∃ k : Nat, k ≤ n ∧ kv = .int .i64 k ∧ Below w0.heap.size w0 wr ∧ wr.ownsRow w0.heap.size 52 1 v k (nums .u8 ((T.sts d).take k))) (fun _ kv _ => n - (intOf kv).toNat)
  case atStart => exact ⟨0, Nat.zero_le _, rfl, Below.refl _ _, by simpa [nums] using World.ownsRow_nil w0 w0.heap.size 52 1⟩
  case round =>
    obtain ⟨k, hk, rfl, hb, hown⟩ := hrel
    have HB := Lib.hid hb
    have HW := Lib.hid hown
    have hsz : w0.heap.size ≤ wr.heap.size := hb.size
    have hcr := HC.out wr (HB0.out.trans (hb.mono HB0.out.size))
    clear hb hown
    by_cases hkn : k < n
    · obtain ⟨b, off, rfl, hc⟩ := hcr.cells.resolve_left (by omega)
      have hkl : k < (T.C d).length := by rw [← HN2.out]; exact hkn
      obtain ⟨c0, c1⟩ := hc k hkn
      have hw := HCW.out _ (mem_getD (d := (0, 0)) hkl)
      have HT := Lib.hid (sts_take (T := T) (d := d) hkl)
      obtain ⟨q, hq⟩ : ∃ q, q = (T.C d).getD k (0, 0) := ⟨_, rfl⟩
      rw [← hq] at c0 c1 hw HT
      obtain ⟨q1, q2⟩ := q
      simp only at c0 c1 hw HT
      have hB1 : Below w0.heap.size w0 (wr.alloc (.cells #[.int .u16 q1, .int .i64 q2] 114)) := HB.out.trans ((below_alloc wr _).mono HB.out.size)
      have hsb := HSB.out q1 (wr.alloc (.cells #[.int .u16 q1, .int .i64 q2] 114)) (HB0.out.trans (hB1.mono HB0.out.size)) hw
      obtain ⟨s, hs⟩ : ∃ s, s = T.byN q1 d := ⟨_, rfl⟩
      rw [← hs] at hsb HT
      have HSb := Lib.hid hsb
      have HB1 := Lib.hid hB1
      have HW1 := Lib.hid (ownsRow_below HW.out (below_alloc wr (.cells #[.int .u16 q1, .int .i64 q2] 114)))
      have hbl : b < wr.heap.size := World.block_lt_of_cell? _ _ c0
      have k1 : (k : Int) < (n : Int) := by omega
      have k2 : (0 : Int) ≤ (k : Int) := by omega
      have hsz1 := hB1.size
      clear hq hs hc hcr hw hsb hB1
      go_wp2_with fail
      with_reducible refine HSb.out.mono ?_
      rintro e w5 ⟨rfl, hw5⟩
      have hB5 := HB1.out
      have hW5 := HW1.out
      rw [hw5] at hB5 hW5
      have HB5 := Lib.hid hB5
      have HW5 := Lib.hid hW5
      have hsz5 := hB5.size
      clear c0 c1 hw5 hB5 hW5 hsz1
      go_wp2_with (at_builtin; refine wpList_append_one Try.underlying58 infoSt (by decide) rfl _ _ rfl w0.heap.size _ _ _ _ rfl (by exact HW5.out) rfl (by omega) hsz5 ?_)
      intro v1 w1 h1 h2 gx cx h3
      have H1 := Lib.hid h1
      have H2 := Lib.hid h2
      clear h1 h2 h3
      go_wp2
      refine ⟨⟨k + 1, by omega, by go_num, HB5.out.trans (H2.out.below hsz5 (fun j hj => (ownBlock_lt HW5.out hj).1)), ?_⟩, by simp [intOf]; omega⟩
      rw [HT.out]
      exact H1.out
    · obtain rfl : k = n := by omega
      have htk : (T.sts d).take k = T.sts d := List.take_of_length_le (by rw [HLen.out]; exact Nat.le_refl _)
      have hown := HW.out
      rw [htk] at hown
      obtain ⟨a2, c2, rfl, hr2, _⟩ := ownsRow_rowN .u8 hown (fun x hx => by
        unfold Tb.sts at hx
        obtain ⟨c, _, rfl⟩ := List.mem_map.1 hx
        exact HRg.out _)
      have HCl := Lib.hid (clipS_any a2 k c2 wr hr2.le hr2.max)
      have HR2 := Lib.hid hr2
      clear hr2 hown htk hcr
      go_wp2_with fail
      with_reducible refine HCl.out.mono ?_
      rintro e w' ⟨rfl, rfl⟩
      go_wp2
      go_ret2
      refine ⟨a2, ?_, ?_, HB0.out.trans (HB.out.mono HB0.out.size)⟩
      · rw [HLen.out]; rfl
      · have h5 := HR2.out
        rw [HLen.out]
        exact ⟨h5.len, Nat.le_refl _, Nat.le_trans h5.le h5.max, h5.wf, h5.cells, fun e => by have := h5.isNil e; have := h5.le; omega⟩
end Go.Proofs.Ytppbcehcaeeocaa
