import Derived.Test.YtdjmopipmeonlaaTfAns
import Derived.Test.YtdjmopipmeonlaaStepNum
/- New: the table of a place of a valid plan. -/
namespace Go.Proofs.Ytdjmopipmeonlaa
set_option linter.unusedVariables false
open Go.RowKit Go.Maps

def codesP (P : List (Int × Bool)) : List Int := P.map (·.1)
theorem codesP_length (P : List (Int × Bool)) : (codesP P).length = P.length := by simp [codesP]
theorem codesP_getD (P : List (Int × Bool)) (i : Nat) : (codesP P).getD i 0 = pc P i := by
  unfold codesP pc
  rw [List.getD_eq_getElem?_getD, List.getD_eq_getElem?_getD, List.getElem?_map]
  cases P[i]? <;> rfl
/-- The destinations: the other places. -/
def destsP (P : List (Int × Bool)) (t : Int) : List Int := (codesP P).filter fun c => decide (c ≠ t)
/-- What a new table knows. -/
structure IsNew (p : Pn) (t : Int) (i : Nat) (Good : Int → List (Int × Int) → Prop) (T : Tb) : Prop where
  me : T.me = t
  tr : T.tr = pt p.P i
  N : T.N = nbrs p t
  D : T.D = destsP p.P t
  C : ∀ d, d ∈ T.D → Good d (T.C d)
  up : T.up = fun _ => true
  told : T.told = fun _ _ => 0
  said : T.said = fun _ _ => 0
/-- All of the table lies in new memory. -/
structure NewTl (B hi : Nat) (y : Tl) : Prop where
  tb : B ≤ y.tb
  bc : B ≤ y.bc
  bu : B ≤ y.bu
  bt : B ≤ y.bt
  bs : B ≤ y.bs
  hi : y.hi = hi
def NewOut (p : Pn) (t : Int) (i : Nat) (Good : Int → List (Int × Int) → Prop) (w : World) (e : Ending) (w' : World) : Prop :=
  ∃ y T, e = .returned (.tuple #[.pointer (some ⟨y.tb, 0, none⟩), .int .i64 0]) ∧ TbAt w' y T ∧ IsNew p t i Good T ∧ NewTl w.heap.size w'.heap.size y ∧ Below w.heap.size w w'
/-- All of a table's blocks lie from B on. -/
structure TbLo (B : Nat) (y : Tl) (T : Tb) : Prop where
  tb : B ≤ y.tb
  bc : B ≤ y.bc
  bu : B ≤ y.bu
  bt : B ≤ y.bt
  bs : B ≤ y.bs
  aN : ∀ z, y.aN = some z → B ≤ z.block
  aD : ∀ z, y.aD = some z → B ≤ z.block
  ch : ∀ d, d ∈ T.D → ∀ a k, y.ch d = .slice a k k → 0 < k → ∀ z, a = some z → B ≤ z.block
def NewOutL (p : Pn) (t : Int) (i : Nat) (Good : Int → List (Int × Int) → Prop) (w : World) (e : Ending) (w' : World) : Prop :=
  ∃ y T, e = .returned (.tuple #[.pointer (some ⟨y.tb, 0, none⟩), .int .i64 0]) ∧ TbAt w' y T ∧ IsNew p t i Good T ∧ NewTl w.heap.size w'.heap.size y ∧ Below w.heap.size w w' ∧ TbLo w.heap.size y T
/-- Choices' contract, with what is known of its answer. -/
def ChOut (Good : Int → List (Int × Int) → Prop) (u : Int) (w : World) (e : Ending) (w' : World) : Prop := ∃ a X, e = .returned (.tuple #[.slice a X.length X.length, .int .i64 0]) ∧ Good u X ∧ CRow w' a X.length X.length X ∧ Below w.heap.size w w' ∧ ∀ z, a = some z → w.heap.size ≤ z.block
theorem made5 (w1 : World) (k0 k1 k2 k3 tt : TypeId) (cs : Array Value) (W : World) (hW : W = ((((w1.alloc (.map #[] 0)).alloc (.map #[] 0)).alloc (.map #[] 0)).alloc (.map #[] 0)).alloc (.cells cs tt)) :
    MapAt Try.prog k0 W w1.heap.size (fun _ => none) ∧ MapAt Try.prog k1 W (w1.heap.size + 1) (fun _ => none) ∧ MapAt Try.prog k2 W (w1.heap.size + 1 + 1) (fun _ => none) ∧ MapAt Try.prog k3 W (w1.heap.size + 1 + 1 + 1) (fun _ => none) ∧ Own W (w1.heap.size + 1 + 1 + 1 + 1) tt cs.toList ∧ Below w1.heap.size w1 W ∧ W.heap.size = w1.heap.size + 1 + 1 + 1 + 1 + 1 := by
  have s1 := size_alloc1 w1 (.map #[] 0)
  have s2 := size_alloc1 (w1.alloc (.map #[] 0)) (.map #[] 0)
  have s3 := size_alloc1 ((w1.alloc (.map #[] 0)).alloc (.map #[] 0)) (.map #[] 0)
  have s4 := size_alloc1 (((w1.alloc (.map #[] 0)).alloc (.map #[] 0)).alloc (.map #[] 0)) (.map #[] 0)
  have s5 := size_alloc1 ((((w1.alloc (.map #[] 0)).alloc (.map #[] 0)).alloc (.map #[] 0)).alloc (.map #[] 0)) (.cells cs tt)
  have m0 := MapAt.made Try.prog k0 w1
  have m1 := MapAt.made Try.prog k1 (w1.alloc (.map #[] 0))
  have m2 := MapAt.made Try.prog k2 ((w1.alloc (.map #[] 0)).alloc (.map #[] 0))
  have m3 := MapAt.made Try.prog k3 (((w1.alloc (.map #[] 0)).alloc (.map #[] 0)).alloc (.map #[] 0))
  have o4 := heap_alloc_new ((((w1.alloc (.map #[] 0)).alloc (.map #[] 0)).alloc (.map #[] 0)).alloc (.map #[] 0)) (.cells cs tt)
  have x : ∀ (v : World) (o : Obj), Exc (fun _ => False) v (v.alloc o) := fun v o => (Exc.refl _ v).alloc o
  have no : ∀ (_ : Nat), ¬ (fun (_ : Nat) => False) 0 := fun _ h => h
  rw [s1] at m1
  rw [s2, s1] at m2
  rw [s3, s2, s1] at m3
  rw [s4, s3, s2, s1] at o4
  rw [hW]
  refine ⟨(((m0.exc (x _ _) (no 0)).exc (x _ _) (no 0)).exc (x _ _) (no 0)).exc (x _ _) (no 0), ((m1.exc (x _ _) (no 0)).exc (x _ _) (no 0)).exc (x _ _) (no 0), (m2.exc (x _ _) (no 0)).exc (x _ _) (no 0), m3.exc (x _ _) (no 0), ?_, ?_, by rw [s5, s4, s3, s2, s1]⟩
  · unfold Own; rw [o4]
  · exact ((((below_alloc w1 _).alloc (by rw [s1]; omega) _).alloc (by rw [s2, s1]; omega) _).alloc (by rw [s3, s2, s1]; omega) _).alloc (by rw [s4, s3, s2, s1]; omega) _
theorem recNew {w : World} {b : Nat} (h : MapAt Try.prog 124 w b (fun _ => none)) : RecAt w b (fun _ _ => 0) := ⟨_, h, fun _ _ _ _ => rfl⟩
theorem upsNew {w : World} {b : Nat} (h : MapAt Try.prog 40 w b (fun _ => none)) (U : Int → Bool) : UpsAt w b [] U := ⟨_, h, fun n _ => by simp⟩
theorem chsNew {w : World} {b : Nat} (h : MapAt Try.prog 40 w b (fun _ => none)) (C : Int → Value) : ChsAt w b [] C := ⟨_, h, fun n _ => by simp⟩
section
variable {w : World} {ops : Array Oper} {rest : List Oper} {o : Oper} {a : Act} {Q : Exit → Act → World → Prop}
theorem wpList_ups_add (hg : o.guard = none) (m x v : Operand) (hop : o.op = Op.mapUpdate 82 m x v) (b : Nat) (N : List Int) (hm : a.eval m = .map (some b)) (hat : UpsAt w b N (fun _ => true)) (n : Int) (hn : (Lit.int .u16 n).wf = true)
    (hx : a.eval x = .int .u16 n) (hv : a.eval v = .bool true) (hK : ∀ w', UpsAt w' b (N ++ [n]) (fun _ => true) → Exc (fun k => k = b) w w' → wpList Try.prog ops Q rest (a.put o.dst undef) w') : wpList Try.prog ops Q (o :: rest) a w := by
  obtain ⟨f, h1, h2⟩ := hat
  refine wpList_store hg m x v _ hop _ _ law_pt Try.underlying82 b f hm h1 _ _ _ hx hv (key_pt hn) fun w' g r1 r2 r3 r4 => ?_
  refine hK w' ⟨g, r1, fun z hz => ?_⟩ r4
  by_cases e : z = n
  · subst e; rw [r2, if_pos (by simp)]
  · rw [r3 _ (by simpa using e), h2 z hz]
    simp [e]
end
/-- The choices with one more destination. -/
def updC {α : Type} (C : Int → α) (d : Int) (x : α) : Int → α := fun z => if z = d then x else C z
theorem updC_same {α : Type} (C : Int → α) (d : Int) (x : α) : updC C d x d = x := if_pos rfl
theorem updC_other {α : Type} {C : Int → α} {d z : Int} {x : α} (h : z ≠ d) : updC C d x z = C z := if_neg h
/-- 'm[k] = choices'. -/
theorem ch_store_run {w : World} {b : Nat} {D : List Int} {C : Int → Value} (hat : ChsAt w b D C) (n : Int) (s : Value) (hn : (Lit.int .u16 n).wf = true) :
    ∃ w', (Instr.mapUpdate 81 (.map (some b)) (.int .u16 n) s).run Try.prog w = .ok () w' ∧ ChsAt w' b (D ++ [n]) (updC C n s) ∧ Exc (fun k => k = b) w w' := by
  obtain ⟨f, h1, h2⟩ := hat
  obtain ⟨w', g, hrun, r1, r2, r3, r4⟩ := h1.store law_pt Try.underlying81 (key_pt hn) s
  refine ⟨w', hrun, ⟨g, r1, fun z hz => ?_⟩, r4⟩
  by_cases e : z = n
  · subst e; rw [r2, if_pos (by simp), updC_same]
  · rw [r3 _ (by simpa using e), h2 z hz, updC_other e]
    simp [e]
/-- The table that New fills, with the destinations so far. -/
structure NwAt (B : Nat) (Good : Int → List (Int × Int) → Prop) (wr : World) (tb bc bu bt bs : Nat) (t : Int) (tr : Bool) (aN : Option Addr) (m : Nat) (N : List Int) (v : Value) (DD D : List Int) (ch : Int → Value) (C : Int → List (Int × Int)) : Prop where
  own : Own wr tb 86 [.int .u16 t, .bool tr, .slice aN m m, v, .map (some bc), .map (some bu), .map (some bt), .map (some bs)]
  chs : ChsAt wr bc D ch
  ups : UpsAt wr bu N (fun _ => true)
  tol : RecAt wr bt (fun _ _ => 0)
  sai : RecAt wr bs (fun _ _ => 0)
  dst : wr.ownsRow B 40 1 v DD.length (nums .u16 DD)
  crow : ∀ d, d ∈ D → Good d (C d) ∧ ∃ a, ch d = .slice a (C d).length (C d).length ∧ CRow wr a (C d).length (C d).length (C d) ∧ (0 < (C d).length → ∀ z, a = some z → B ≤ z.block ∧ z.block < wr.heap.size ∧ v.ownBlock ≠ some z.block)
theorem NwAt.start {B : Nat} {Good : Int → List (Int × Int) → Prop} {w2 wr : World} {tb bc bu bt bs : Nat} {t : Int} {aN : Option Addr} {m : Nat} {N : List Int} (ho : Own w2 tb 86 [.int .u16 t, .bool false, .slice aN m m, .slice none 0 0, .map (some bc), .map (some bu), .map (some bt), .map (some bs)])
    (h0 : MapAt Try.prog 40 w2 bc (fun _ => none)) (h2 : MapAt Try.prog 124 w2 bt (fun _ => none)) (h3 : MapAt Try.prog 124 w2 bs (fun _ => none)) (hx : Exc (fun k => k = bu) w2 wr) (hu : UpsAt wr bu N (fun _ => true)) (hne : tb ≠ bu ∧ bc ≠ bu ∧ bt ≠ bu ∧ bs ≠ bu) :
    NwAt B Good wr tb bc bu bt bs t false aN m N (.slice none 0 0) [] [] (fun _ => .slice none 0 0) (fun _ => []) := by
  refine ⟨?_, (chsNew h0 _).exc hx hne.2.1, hu, (recNew h2).exc hx hne.2.2.1, (recNew h3).exc hx hne.2.2.2, by simpa [nums] using World.ownsRow_nil wr B 40 1, fun d hd => by cases hd⟩
  unfold Own
  rw [hx.block tb ho.lt hne.1]
  exact ho
theorem crow_exc0 {S : Nat → Prop} {w w' : World} {a : Option Addr} {n c : Nat} {X : List (Int × Int)} (h : CRow w a n c X) (hx : Exc S w w') (hn : 0 < n → ∀ z, a = some z → ¬ S z.block) : CRow w' a n c X := by
  refine ⟨h.len, h.le, h.max, ?_⟩
  rcases Nat.eq_zero_or_pos n with h0 | h0
  · exact .inl h0
  · obtain ⟨b, off, ha, hc⟩ := h.cells.resolve_left (by omega)
    have hb : ¬ S b := hn h0 _ ha
    exact .inr ⟨b, off, ha, fun i hi => ⟨hx.cell (hc i hi).1 hb, hx.cell (hc i hi).2 hb⟩⟩
/-- What is written is none of the table's. -/
theorem NwAt.exc {S : Nat → Prop} {B : Nat} {Good : Int → List (Int × Int) → Prop} {wr w' : World} {tb bc bu bt bs : Nat} {t : Int} {tr : Bool} {aN : Option Addr} {m : Nat} {N : List Int} {v : Value} {DD D : List Int} {ch : Int → Value} {C : Int → List (Int × Int)}
    (h : NwAt B Good wr tb bc bu bt bs t tr aN m N v DD D ch C) (hx : Exc S wr w') (hS : ∀ k, S k → wr.heap.size ≤ k) : NwAt B Good w' tb bc bu bt bs t tr aN m N v DD D ch C := by
  have lt : ∀ {b es clock}, wr.heap[b]? = some (.map es clock) → ¬ S b := fun {b es clock} hb hs => by
    have := (Array.getElem?_eq_some_iff.1 hb).1
    have := hS b hs
    omega
  refine ⟨?_, h.chs.exc hx ?_, h.ups.exc hx ?_, h.tol.exc hx ?_, h.sai.exc hx ?_, ownsRow_exc h.dst hx (fun k hk hs => by have := (ownBlock_lt h.dst hk).2; have := hS k hs; omega), fun d hd => ?_⟩
  · unfold Own
    rw [hx.block tb h.own.lt fun hs => by have := h.own.lt; have := hS tb hs; omega]
    exact h.own
  · obtain ⟨f, hf, _⟩ := h.chs; obtain ⟨_, _, hb⟩ := hf.map; exact lt hb
  · obtain ⟨_, _, hb⟩ := h.ups.map; exact lt hb
  · obtain ⟨_, _, hb⟩ := h.tol.map; exact lt hb
  · obtain ⟨_, _, hb⟩ := h.sai.map; exact lt hb
  · obtain ⟨hg, a, e1, e2, e3⟩ := h.crow d hd
    refine ⟨hg, a, e1, crow_exc0 e2 hx (fun h0 z hz hs => by have := (e3 h0 z hz).2.1; have := hS _ hs; omega), fun h0 z hz => ?_⟩
    obtain ⟨q1, q2, q3⟩ := e3 h0 z hz
    exact ⟨q1, Nat.lt_of_lt_of_le q2 hx.size, q3⟩
theorem NwAt.below {B : Nat} {Good : Int → List (Int × Int) → Prop} {wr w' : World} {tb bc bu bt bs : Nat} {t : Int} {tr : Bool} {aN : Option Addr} {m : Nat} {N : List Int} {v : Value} {DD D : List Int} {ch : Int → Value} {C : Int → List (Int × Int)}
    (h : NwAt B Good wr tb bc bu bt bs t tr aN m N v DD D ch C) (hb : Below wr.heap.size wr w') : NwAt B Good w' tb bc bu bt bs t tr aN m N v DD D ch C := h.exc (S := fun _ => False) (Exc.of_below hb) (fun _ h => h.elim)
/-- The flag of the table is set. -/
theorem NwAt.flag {B : Nat} {Good : Int → List (Int × Int) → Prop} {wr : World} {tb bc bu bt bs : Nat} {t : Int} {tr : Bool} {aN : Option Addr} {m : Nat} {N : List Int} {v : Value} {DD D : List Int} {ch : Int → Value} {C : Int → List (Int × Int)}
    (h : NwAt B Good wr tb bc bu bt bs t tr aN m N v DD D ch C) (htb : tb < B) (b : Bool) : NwAt B Good (wr.setCell ⟨tb, 1, none⟩ (.bool b)) tb bc bu bt bs t b aN m N v DD D ch C := by
  have hx : Exc (fun k => k = tb) wr (wr.setCell ⟨tb, 1, none⟩ (.bool b)) := (Exc.refl (fun k => k = tb) wr).setCell ⟨tb, 1, none⟩ (.inl rfl) _
  have ne : ∀ {c es clock}, wr.heap[c]? = some (.map es clock) → ¬ c = tb := fun {c es clock} hc e => by subst e; exact own_map h.own hc
  refine ⟨h.own.set 1 (.bool b), h.chs.exc hx ?_, h.ups.exc hx ?_, h.tol.exc hx ?_, h.sai.exc hx ?_, ownsRow_exc h.dst hx (fun k hk hs => by have := (ownBlock_lt h.dst hk).1; omega), fun d hd => ?_⟩
  · obtain ⟨f, hf, _⟩ := h.chs; obtain ⟨_, _, hb⟩ := hf.map; exact ne hb
  · obtain ⟨_, _, hb⟩ := h.ups.map; exact ne hb
  · obtain ⟨_, _, hb⟩ := h.tol.map; exact ne hb
  · obtain ⟨_, _, hb⟩ := h.sai.map; exact ne hb
  · obtain ⟨hg, a, e1, e2, e3⟩ := h.crow d hd
    refine ⟨hg, a, e1, crow_exc0 e2 hx (fun h0 z hz hs => by have := (e3 h0 z hz).1; omega), fun h0 z hz => ?_⟩
    obtain ⟨q1, q2, q3⟩ := e3 h0 z hz
    exact ⟨q1, Nat.lt_of_lt_of_le q2 hx.size, q3⟩
theorem own_exc {S : Nat → Prop} {w w' : World} {b t : Nat} {cs : List Value} (h : Own w b t cs) (hx : Exc S w w') (hn : ¬ S b) : Own w' b t cs := by
  unfold Own
  rw [hx.block b h.lt hn]
  exact h
/-- The destinations have grown, and the table knows it. -/
theorem NwAt.grow {B : Nat} {Good : Int → List (Int × Int) → Prop} {wr w6 : World} {tb bc bu bt bs : Nat} {t : Int} {tr : Bool} {aN : Option Addr} {m : Nat} {N : List Int} {v v6 : Value} {DD D : List Int} {ch : Int → Value} {C : Int → List (Int × Int)}
    (h : NwAt B Good wr tb bc bu bt bs t tr aN m N v DD D ch C) (hlt : tb < B ∧ bc < B ∧ bu < B ∧ bt < B ∧ bs < B) (q : Int) (ho : w6.ownsRow B 40 1 v6 (DD ++ [q]).length (nums .u16 (DD ++ [q]))) (hg : Grow v wr v6 w6) :
    NwAt B Good (w6.setCell ⟨tb, 3, none⟩ v6) tb bc bu bt bs t tr aN m N v6 (DD ++ [q]) D ch C := by
  obtain ⟨l1, l2, l3, l4, l5⟩ := hlt
  have hv : ∀ k, v.ownBlock = some k → B ≤ k := fun k hk => (ownBlock_lt h.dst hk).1
  have no : ∀ {b}, b < B → ¬ v.ownBlock = some b := fun {b} hb e => by have := hv b e; omega
  have ot := own_exc h.own hg.exc (no l1)
  have hx : Exc (fun k => k = tb) w6 (w6.setCell ⟨tb, 3, none⟩ v6) := (Exc.refl (fun k => k = tb) w6).setCell ⟨tb, 3, none⟩ (.inl rfl) _
  have ne : ∀ {c es clock}, w6.heap[c]? = some (.map es clock) → ¬ c = tb := fun {c es clock} hc e => by subst e; exact own_map ot hc
  have a1 := h.chs.exc hg.exc (no l2)
  have a2 := h.ups.exc hg.exc (no l3)
  have a3 := h.tol.exc hg.exc (no l4)
  have a4 := h.sai.exc hg.exc (no l5)
  refine ⟨ot.set 3 v6, a1.exc hx ?_, a2.exc hx ?_, a3.exc hx ?_, a4.exc hx ?_, ownsRow_exc ho hx (fun k hk hs => by have := (ownBlock_lt ho hk).1; omega), fun d hd => ?_⟩
  · obtain ⟨f, hf, _⟩ := a1; obtain ⟨_, _, hb⟩ := hf.map; exact ne hb
  · obtain ⟨_, _, hb⟩ := a2.map; exact ne hb
  · obtain ⟨_, _, hb⟩ := a3.map; exact ne hb
  · obtain ⟨_, _, hb⟩ := a4.map; exact ne hb
  · obtain ⟨hgd, a, e1, e2, e3⟩ := h.crow d hd
    have e4 := crow_exc0 e2 hg.exc (fun h0 z hz hs => (e3 h0 z hz).2.2 hs)
    refine ⟨hgd, a, e1, crow_exc0 e4 hx (fun h0 z hz hs => by have := (e3 h0 z hz).1; omega), fun h0 z hz => ?_⟩
    obtain ⟨q1, q2, q3⟩ := e3 h0 z hz
    refine ⟨q1, Nat.lt_of_lt_of_le q2 (Nat.le_trans hg.exc.size hx.size), fun e => ?_⟩
    rcases hg.lies _ e with e5 | e5
    · exact q3 e5
    · omega
/-- One destination's choices are stored. -/
theorem NwAt.store {B : Nat} {Good : Int → List (Int × Int) → Prop} {wr w9 : World} {tb bc bu bt bs : Nat} {t : Int} {tr : Bool} {aN : Option Addr} {m : Nat} {N : List Int} {v : Value} {DD D : List Int} {ch : Int → Value} {C : Int → List (Int × Int)}
    (h : NwAt B Good wr tb bc bu bt bs t tr aN m N v DD D ch C) (hne : bc ≠ bu ∧ bc ≠ bt ∧ bc ≠ bs) (q : Int) (a : Option Addr) (X : List (Int × Int)) (hc : ChsAt w9 bc (D ++ [q]) (updC ch q (.slice a X.length X.length))) (hx : Exc (fun k => k = bc) wr w9) (hgd : Good q X) (hcr : CRow wr a X.length X.length X) (hfr : 0 < X.length → ∀ z, a = some z → B ≤ z.block ∧ z.block < wr.heap.size ∧ v.ownBlock ≠ some z.block) :
    NwAt B Good w9 tb bc bu bt bs t tr aN m N v DD (D ++ [q]) (updC ch q (.slice a X.length X.length)) (updC C q X) := by
  obtain ⟨f, hf, _⟩ := h.chs
  obtain ⟨es, clock, hm⟩ := hf.map
  have crow' : ∀ {a X}, CRow wr a X.length X.length X → CRow w9 a X.length X.length X := fun {a X} hr => by
    refine ⟨hr.len, hr.le, hr.max, ?_⟩
    rcases hr.cells with h0 | ⟨b', off, he, hc⟩
    · exact .inl h0
    · exact .inr ⟨b', off, he, fun i hi => ⟨hx.cell (hc i hi).1 (fun e => cell_map (hc i hi).1 (by rw [show (⟨b', off + i * 2, none⟩ : Addr).block = bc from e]; exact hm)), hx.cell (hc i hi).2 (fun e => cell_map (hc i hi).2 (by rw [show (⟨b', off + i * 2 + 1, none⟩ : Addr).block = bc from e]; exact hm))⟩⟩
  refine ⟨own_exc h.own hx (fun e => by subst e; exact own_map h.own hm), hc, h.ups.exc hx (fun e => hne.1 e.symm), h.tol.exc hx (fun e => hne.2.1 e.symm), h.sai.exc hx (fun e => hne.2.2 e.symm), ?_, fun d hd => ?_⟩
  · refine ownsRow_exc h.dst hx (fun k hk e => ?_)
    subst e
    rcases h.dst.2 with ⟨rfl, _⟩ | ⟨g, cap, cur, rfl, _, hg, _⟩
    · cases hk
    · simp only [Value.ownBlock, Option.some.injEq] at hk
      subst hk
      rw [hm] at hg; cases hg
  · by_cases e : d = q
    · subst e
      rw [updC_same, updC_same]
      exact ⟨hgd, a, rfl, crow' hcr, fun h0 z hz => by obtain ⟨q1, q2, q3⟩ := hfr h0 z hz; exact ⟨q1, Nat.lt_of_lt_of_le q2 hx.size, q3⟩⟩
    · rw [updC_other e, updC_other e]
      have hd' : d ∈ D := by
        rcases List.mem_append.1 hd with h1 | h1
        · exact h1
        · exact absurd (List.mem_singleton.1 h1) e
      obtain ⟨hgd', a', e1, e2, e3⟩ := h.crow d hd'
      exact ⟨hgd', a', e1, crow' e2, fun h0 z hz => by obtain ⟨q1, q2, q3⟩ := e3 h0 z hz; exact ⟨q1, Nat.lt_of_lt_of_le q2 hx.size, q3⟩⟩
theorem dests_snoc (P : List (Int × Bool)) (t : Int) {k : Nat} (hk : k < P.length) : ((codesP P).take (k + 1)).filter (fun c => decide (c ≠ t)) = ((codesP P).take k).filter (fun c => decide (c ≠ t)) ++ (if pc P k = t then [] else [pc P k]) := by
  rw [take_one (by rw [codesP_length]; exact hk), List.filter_append, codesP_getD]
  by_cases h : pc P k = t
  · rw [if_pos h, List.filter_cons_of_neg (by simpa using h)]; rfl
  · rw [if_neg h, List.filter_cons_of_pos (by simpa using h)]; rfl
theorem codes_asc {P : List (Int × Bool)} (h : Asc P) : (codesP P).Pairwise (· < ·) := by
  rw [List.pairwise_iff_getElem]
  intro i j hi hj hij
  have e : ∀ k, (hk : k < (codesP P).length) → (codesP P)[k] = pc P k := fun k hk => by rw [← codesP_getD, List.getD_eq_getElem?_getD, List.getElem?_eq_getElem hk]; rfl
  rw [e i hi, e j hj]
  exact h i j hij (by rw [codesP_length] at hj; exact hj)
theorem nodup_of_lt {L : List Int} (h : L.Pairwise (· < ·)) : L.Nodup := List.nodup_iff_pairwise_ne.2 (h.imp fun {a b} hab => by omega)
theorem mem_dests {P : List (Int × Bool)} {t d : Int} : d ∈ destsP P t ↔ d ∈ codesP P ∧ d ≠ t := by simp [destsP]
theorem new_end {p : Pn} {t : Int} {i : Nat} {Good : Int → List (Int × Int) → Prop} {B : Nat} {w wr : World} {tb bc bu bt bs : Nat} {aN : Option Addr} {m : Nat} {v : Value} {ch : Int → Value} {C : Int → List (Int × Int)}
    (h : NwAt B Good wr tb bc bu bt bs t (pt p.P i) aN m (nbrs p t) v (destsP p.P t) (destsP p.P t) ch C) (hv : ValidPl p) (hr : Row .u16 wr aN (nbrs p t).length (nbrs p t).length (nbrs p t)) (hm : m = (nbrs p t).length) (hwt : (Lit.int .u16 t).wf = true)
    (hG : ∀ u X, Good u X → X.length ≤ 1024 ∧ ∀ c ∈ X, (Lit.int .u16 c.1).wf = true) (hnum : w.heap.size ≤ bc ∧ bu = bc + 1 ∧ bt = bu + 1 ∧ bs = bt + 1 ∧ tb = bs + 1 ∧ tb < B) (hwf : ∀ x ∈ p.P, 0 ≤ x.1 ∧ x.1 ≤ 65535) (hb : Below w.heap.size w wr) (hlo : ∀ z, aN = some z → w.heap.size ≤ z.block) :
    NewOutL p t i Good w (.returned (.tuple #[.pointer (some ⟨tb, 0, none⟩), .int .i64 0])) wr := by
  subst hm
  obtain ⟨n1, rfl, rfl, rfl, rfl, n2⟩ := hnum
  have hwD : ∀ x ∈ destsP p.P t, (Lit.int .u16 x).wf = true := fun x hx => by
    obtain ⟨hx1, _⟩ := mem_dests.1 hx
    obtain ⟨z, hz, e⟩ := List.mem_map.1 hx1
    subst e
    exact wf16.2 (hwf z hz)
  obtain ⟨aD, cD, rfl, hrD, _⟩ := ownsRow_rowN .u16 h.dst hwD
  have htl := h.own.lt
  have hlt : ∀ {k : IntKind} {a : Option Addr} {n c : Nat} {l : List Int}, Row k wr a n c l → 0 < n → ∀ z, a = some z → z.block < wr.heap.size := fun hr h0 z hz => by
    obtain ⟨b, off, e, hc⟩ := hr.cells.resolve_left (by omega)
    rw [hz] at e; cases e
    exact World.block_lt_of_cell? _ _ (hc 0 h0)
  refine ⟨⟨bc + 1 + 1 + 1 + 1, aN, (nbrs p t).length, aD, cD, bc, bc + 1, bc + 1 + 1, bc + 1 + 1 + 1, ch, wr.heap.size⟩, ⟨t, pt p.P i, nbrs p t, destsP p.P t, C, fun _ => true, fun _ _ => 0, fun _ _ => 0⟩, rfl, ⟨⟨h.own, hr, hrD, h.chs, fun d hd => ?_, hlt hr, hlt hrD, ?_, Nat.le_refl _, ?_⟩, ⟨hwt, nodup_of_lt (nbrs_asc hv t), (nodup_of_lt (codes_asc hv.asc)).sublist List.filter_sublist, ?_, ?_, fun d hd => (hG d _ (h.crow d hd).1).1, fun d hd => (hG d _ (h.crow d hd).1).2, fun _ _ => ⟨Int.le_refl _, by show (0 : Int) ≤ 2; decide⟩⟩, h.ups, h.tol, h.sai⟩, ⟨rfl, rfl, rfl, rfl, fun d hd => (h.crow d hd).1, rfl, rfl, rfl⟩, ⟨by show _ ≤ bc + 1 + 1 + 1 + 1; omega, n1, by show _ ≤ bc + 1; omega, by show _ ≤ bc + 1 + 1; omega, by show _ ≤ bc + 1 + 1 + 1; omega, rfl⟩, hb, ⟨by show _ ≤ bc + 1 + 1 + 1 + 1; omega, n1, by show _ ≤ bc + 1; omega, by show _ ≤ bc + 1 + 1; omega, by show _ ≤ bc + 1 + 1 + 1; omega, hlo, fun z hz => ?_, fun d hd a k e h0 z hz => ?_⟩⟩
  · obtain ⟨_, a, e1, e2, e3⟩ := h.crow d hd
    exact ⟨a, e1, e2, fun h0 z hz => (e3 h0 z hz).2.1⟩
  · exact ⟨htl, by show bc < wr.heap.size; omega, by show bc + 1 < wr.heap.size; omega, by show bc + 1 + 1 < wr.heap.size; omega, by show bc + 1 + 1 + 1 < wr.heap.size; omega⟩
  · exact ⟨by show bc ≠ bc + 1; omega, by show bc ≠ bc + 1 + 1; omega, by show bc ≠ bc + 1 + 1 + 1; omega, by show bc + 1 ≠ bc + 1 + 1; omega, by show bc + 1 ≠ bc + 1 + 1 + 1; omega, by show bc + 1 + 1 ≠ bc + 1 + 1 + 1; omega⟩
  · show (nbrs p t).length ≤ 1024
    have := nbrs_none p t; have := hv.nl; omega
  · show (destsP p.P t).length ≤ 64
    have h1 := List.length_filter_le (fun c => decide (c ≠ t)) (codesP p.P)
    rw [codesP_length] at h1
    have h2 := hv.np
    unfold destsP; omega
  · have h9 : aD = some z := hz
    have h8 := (ownBlock_lt h.dst (k := z.block) (by rw [h9]; rfl)).1
    omega
  · obtain ⟨_, a', e1, _, e3⟩ := h.crow d hd
    have e4 : ch d = .slice a k k := e
    rw [e1] at e4
    cases e4
    have h8 := (e3 h0 z hz).1
    omega
set_option maxRecDepth 100000 in
theorem new_err (p : Pn) (a : Option Addr) (n c : Nat) (a' : Option Addr) (n' c' : Nat) (t : Int) (w : World) (hP : PRow w a n c p.P) (hL : LRow w a' n' c' p.L) (E : Int) (hE : chkPts p [t] = E) (h0 : E ≠ 0) :
    Calls Try.prog 8 #[planV a n c a' n' c' p, .int .u16 t] w fun e w' => e = .returned (.tuple #[.pointer none, .int .i64 E]) ∧ Below w.heap.size w w' := by
  obtain ⟨W, hW⟩ : ∃ W, W = w.alloc (.cells (planCells a n c a' n' c' p).toArray 33) := ⟨_, rfl⟩
  have hB : Below w.heap.size w W := by rw [hW]; exact below_alloc _ _
  have hA : PlanAt W w.heap.size a n c a' n' c' p := by rw [hW]; exact PlanAt.new _ _ _ _ _ _ _ _
  have hN := neighbors_err p a n c a' n' c' t W (hP.later hB) (hL.later hB) E hE h0
  have h1 : (E != 0) = true := by simpa using h0
  unfold planV at *
  obtain ⟨g0, g1, g2, g3, g4, g5, g6⟩ := hA.cells
  have HN := Lib.hid hN
  have HB := Lib.hid hB
  clear hP hL hE h0 hB hA hN
  go_enter Try.func8, Try.ntmps8
  go_upto_region 1 with (fail)
  show Code.wp _ _ _ _ (w.alloc (.cells (planCells a n c a' n' c' p).toArray 33))
  rw [← hW]
  clear hW
  go_wp2_with fail
  with_reducible refine HN.out.mono ?_
  rintro e w1 ⟨rfl, hb⟩
  have HB1 := Lib.hid (HB.out.trans (hb.mono HB.out.size))
  clear hb g0 g1 g2 g3 g4 g5 g6
  go_wp2
  go_ret2
  exact ⟨rfl, HB1.out⟩
set_option maxRecDepth 100000 in
set_option maxHeartbeats 4000000 in
theorem new_lo (p : Pn) (a : Option Addr) (n c : Nat) (a' : Option Addr) (n' c' : Nat) (t : Int) (w : World) (hP : PRow w a n c p.P) (hL : LRow w a' n' c' p.L) (hE : chkPts p [t] = 0) (hv : ValidPl p) (i : Nat) (hi : fnd p.P t = some i) (hwt : (Lit.int .u16 t).wf = true)
    (Good : Int → List (Int × Int) → Prop) (hG : ∀ u X, Good u X → X.length ≤ 1024 ∧ ∀ c ∈ X, (Lit.int .u16 c.1).wf = true)
    (hCh : ∀ (u : Int) (W : World), PRow W a n c p.P → LRow W a' n' c' p.L → u ∈ codesP p.P → u ≠ t → Calls Try.prog 32 #[planV a n c a' n' c' p, .int .u16 t, .int .u16 u] W (ChOut Good u W)) :
    Calls Try.prog 8 #[planV a n c a' n' c' p, .int .u16 t] w (NewOutL p t i Good w) := by
  obtain ⟨W, hW⟩ : ∃ W, W = w.alloc (.cells (planCells a n c a' n' c' p).toArray 33) := ⟨_, rfl⟩
  have hB : Below w.heap.size w W := by rw [hW]; exact below_alloc _ _
  have hA : PlanAt W w.heap.size a n c a' n' c' p := by rw [hW]; exact PlanAt.new _ _ _ _ _ _ _ _
  have hN := neighbors_lo p a n c a' n' c' t W (hP.later hB) (hL.later hB) hE hv
  obtain ⟨pb, hpb⟩ : ∃ pb, pb = w.heap.size := ⟨_, rfl⟩
  rw [← hpb] at hA
  unfold planV at *
  have HPl := Lib.hid hP.len
  have HPw := Lib.hid hP.wf
  have HP := Lib.hid hP
  have HL := Lib.hid hL
  have HN := Lib.hid hN
  have HB := Lib.hid hB
  have HA := Lib.hid hA
  have HCh := Lib.hid hCh
  have HG := Lib.hid hG
  have HV := Lib.hid hv
  have HI := Lib.hid hi
  have HWt := Lib.hid hwt
  obtain ⟨g0, g1, g2, g3, g4, g5, g6⟩ := hA.cells
  have hmm := @run_makeMap Try.prog
  clear hP hL hE hB hA hN hCh hG hv hi hwt
  go_enter Try.func8, Try.ntmps8
  go_upto_region 1 with (fail)
  show Code.wp _ _ _ _ (w.alloc (.cells (planCells a n c a' n' c' p).toArray 33))
  rw [← hW, ← hpb]
  have HPb := Lib.hid hpb
  clear hW hpb
  go_wp2_with fail
  with_reducible refine HN.out.mono ?_
  rintro e w1 ⟨aN, rfl, hr, hb, hfn⟩
  have HFn := Lib.hid (fun (z : Addr) (hz : aN = some z) => Nat.le_trans HB.out.size (hfn z hz))
  clear hfn
  have HB1 := Lib.hid (HB.out.trans (hb.mono HB.out.size))
  have HR1 := Lib.hid hr
  have HA1 := Lib.hid (HA.out.later hb)
  clear hb hr g0 g1 g2 g3 g4 g5 g6 HN
  obtain ⟨m, hm⟩ : ∃ m, m = (nbrs p t).length := ⟨_, rfl⟩
  rw [← hm]
  have HM := Lib.hid hm
  clear hm
  go_upto_region 5 with (fail)
  obtain ⟨W2, hW2⟩ : ∃ W2, W2 = ((((w1.alloc (.map #[] 0)).alloc (.map #[] 0)).alloc (.map #[] 0)).alloc (.map #[] 0)).alloc (.cells #[.int .u16 t, .bool false, .slice aN m m, .slice none 0 0, .map (some w1.heap.size), .map (some (w1.heap.size + 1)), .map (some (w1.heap.size + 1 + 1)), .map (some (w1.heap.size + 1 + 1 + 1))] 86) := ⟨_, rfl⟩
  obtain ⟨m0, m1, m2, m3, o4, hb2, hsz2⟩ := made5 w1 40 40 124 124 86 _ W2 hW2
  rw [← hW2]
  obtain ⟨tb, htb⟩ : ∃ tb, tb = w1.heap.size + 1 + 1 + 1 + 1 := ⟨_, rfl⟩
  rw [← htb] at o4 hsz2 ⊢
  obtain ⟨bs, hbs⟩ : ∃ bs, bs = w1.heap.size + 1 + 1 + 1 := ⟨_, rfl⟩
  rw [← hbs] at o4 m3 htb ⊢
  obtain ⟨bt, hbt⟩ : ∃ bt, bt = w1.heap.size + 1 + 1 := ⟨_, rfl⟩
  rw [← hbt] at o4 m2 hbs ⊢
  obtain ⟨bu, hbu⟩ : ∃ bu, bu = w1.heap.size + 1 := ⟨_, rfl⟩
  rw [← hbu] at o4 m1 hbt ⊢
  obtain ⟨bc, hbc⟩ : ∃ bc, bc = w1.heap.size := ⟨_, rfl⟩
  have hbu' : bu = bc + 1 := by rw [hbu, hbc]
  have hBw : bc = w1.heap.size := hbc
  rw [← hbc] at o4 m0 ⊢
  have HO := Lib.hid o4
  have HM0 := Lib.hid m0
  have HM1 := Lib.hid m1
  have HM2 := Lib.hid m2
  have HM3 := Lib.hid m3
  have HB2 := Lib.hid hb2
  have HNum := Lib.hid (show bu = bc + 1 ∧ bt = bu + 1 ∧ bs = bt + 1 ∧ tb = bs + 1 ∧ W2.heap.size = tb + 1 ∧ bc = w1.heap.size from ⟨hbu', by rw [hbt, hbu], hbs, htb, hsz2, hBw⟩)
  clear hW2 m0 m1 m2 m3 o4 hb2 hsz2 htb hbs hbt hbu hbc hbu' hBw hmm
  have HMl : Hid (m ≤ 1024) := Lib.hid (by rw [HM.out]; have := nbrs_none p t; have := HV.out.nl; omega)
  have hml := HMl.out
  go_wp2_with fail
  go_loopw [32] (fun kv wr => ∃ k : Nat, k ≤ m ∧ kv = .int .i64 k ∧ UpsAt wr bu ((nbrs p t).take k) (fun _ => true) ∧ Exc (fun j => j = bu) W2 wr) (fun kv _ => m - (intOf kv).toNat)
  case atStart => exact ⟨0, Nat.zero_le _, rfl, upsNew HM1.out _, Exc.refl _ _⟩
  case round =>
    obtain ⟨k, hk, rfl, hU, hx⟩ := hrel
    have HU := Lib.hid hU
    have HX := Lib.hid hx
    have HBr : Hid (Below w1.heap.size w1 wr) := Lib.hid (HB2.out.trans (hx.below (by have := HNum.out; omega) (fun j _ hj => by have := HNum.out; omega)))
    clear hU hx
    by_cases hkm : k < m
    · have hkl : k < (nbrs p t).length := by rw [← HM.out]; exact hkm
      have hrow := HR1.out.later HBr.out
      obtain ⟨b, off, had, hc⟩ := hrow.cells.resolve_left (by omega)
      have c0 := hc k hkl
      have hwn := HR1.out.wf _ (mem_getD (d := 0) hkl)
      have HT := Lib.hid (take_one hkl)
      obtain ⟨q, hq⟩ : ∃ q, q = (nbrs p t).getD k 0 := ⟨_, rfl⟩
      rw [← hq] at c0 hwn HT
      have HWq := Lib.hid hwn
      have hot : Own wr tb 86 [.int .u16 t, .bool false, .slice aN m m, .slice none 0 0, .map (some bc), .map (some bu), .map (some bt), .map (some bs)] := by
        unfold Own
        rw [HX.out.block tb HO.out.lt (by have := HNum.out; omega)]
        exact HO.out
      have t5 := hot.cell 5 (by simp)
      simp only [List.getD_cons_zero, List.getD_cons_succ] at t5
      have k1 : (k : Int) < (m : Int) := by omega
      have k2 : (0 : Int) ≤ (k : Int) := by omega
      rw [had]
      have HAd := Lib.hid had
      clear hq hc hrow hwn hot had
      go_wp2_with (at_mapUpdate; refine wpList_ups_add rfl _ _ _ rfl bu _ rfl HU.out q HWq.out rfl rfl ?_; intro w5 h1 h2; have HU5 := Lib.hid h1; have HX5 := Lib.hid (HX.out.trans h2 (fun _ _ h => h)); clear h1 h2 t5 c0)
      go_wp2
      exact ⟨⟨k + 1, by omega, by go_num, by rw [HT.out]; exact HU5.out, HX5.out⟩, by simp [intOf]; omega⟩
    · obtain rfl : k = m := by omega
      have hU := HU.out
      rw [List.take_of_length_le (by rw [← HM.out]; exact Nat.le_refl _)] at hU
      obtain ⟨w5, hw5⟩ : ∃ x, x = wr := ⟨_, rfl⟩
      subst hw5
      have HNw : Hid (NwAt W2.heap.size Good w5 tb bc bu bt bs t false aN k (nbrs p t) (.slice none 0 0) [] [] (fun _ => .slice none 0 0) (fun _ => [])) := Lib.hid (NwAt.start HO.out HM0.out HM2.out HM3.out HX.out hU (by have := HNum.out; omega))
      have hsz5 := HX.out.size
      have hA5 := HA1.out.later HBr.out
      obtain ⟨g0, g1, g2, g3, g4, g5, g6⟩ := hA5.cells
      have hnc := HP.out.le
      have hcm := HP.out.max
      unfold maxLen at hcm
      have hn64 : n ≤ 64 := by have := HPl.out; have := HV.out.np; omega
      clear hU hA5
      have HNum5 := Lib.hid (show bc < tb ∧ tb < W2.heap.size ∧ W2.heap.size ≤ w5.heap.size from ⟨by have := HNum.out; omega, by have := HNum.out; omega, hsz5⟩)
      go_wp2_with fail
      clear g0 g1 g2 g3 g4 g5 g6 hsz5
      go_loopw [45] (fun jv wr => ∃ j : Nat, j ≤ n ∧ jv = .int .i64 j ∧ Below w1.heap.size w1 wr ∧ W2.heap.size ≤ wr.heap.size ∧ ∃ v ch C, NwAt W2.heap.size Good wr tb bc bu bt bs t (decide (i < j) && pt p.P i) aN k (nbrs p t) v (((codesP p.P).take j).filter fun c => decide (c ≠ t)) (((codesP p.P).take j).filter fun c => decide (c ≠ t)) ch C) (fun jv _ => n - (intOf jv).toNat)
      case atStart => exact ⟨0, Nat.zero_le _, rfl, HBr.out, HNum5.out.2.2, _, _, _, by simpa using HNw.out⟩
      case round =>
        obtain ⟨j, hj, rfl, hb, hsz, v, ch, C, hNw⟩ := hrel
        have HB7 := Lib.hid hb
        have HN7 := Lib.hid hNw
        obtain ⟨tr, htr⟩ : ∃ tr, tr = (decide (i < j) && pt p.P i) := ⟨_, rfl⟩
        rw [← htr] at HN7
        have HTr := Lib.hid htr
        clear hb hNw htr
        by_cases hjn : j < n
        · have hjl : j < p.P.length := by rw [HPl.out]; exact hjn
          have hrow := HP.out.later ((HB1.out.trans (HB7.out.mono HB1.out.size)))
          obtain ⟨b, off, had, hc⟩ := hrow.cells.resolve_left (by omega)
          obtain ⟨c0, c1⟩ := hc j hjn
          have hDs := dests_snoc p.P t hjl
          have hwc := wf16.2 (HP.out.wf (p.P.getD j (0, false)) (mem_getD hjl))
          have hmc : pc p.P j ∈ codesP p.P := by rw [← codesP_getD]; exact mem_getD (by rw [codesP_length]; exact hjl)
          have hij : pc p.P j = t → j = i := fun e => by
            have h1 := HV.out.asc.fnd hjl
            rw [e, HI.out] at h1
            exact (Option.some.inj h1).symm
          have hij2 : j = i → pc p.P j = t := fun e => by rw [e]; exact (fnd_some_iff.1 HI.out).2.1
          change (Lit.int .u16 (pc p.P j)).wf = true at hwc
          have HTr2 : Hid (j = i → (decide (i < j + 1) && pt p.P i) = pt p.P j) := Lib.hid (fun e => by rw [e]; simp)
          have HTr3 : Hid (j ≠ i → (decide (i < j + 1) && pt p.P i) = tr) := Lib.hid (fun e => by rw [HTr.out, decide_eq_decide.2 (show i < j + 1 ↔ i < j by omega)])
          obtain ⟨q, hq⟩ : ∃ q, q = pc p.P j := ⟨_, rfl⟩
          obtain ⟨u, hu⟩ : ∃ u, u = pt p.P j := ⟨_, rfl⟩
          rw [← hq] at c0 hDs hwc hmc hij hij2
          rw [← hu] at c1 HTr2
          have HDs := Lib.hid hDs
          have HWc := Lib.hid hwc
          have HMc := Lib.hid hmc
          have HIj := Lib.hid (And.intro hij hij2)
          have j1 : (j : Int) < (n : Int) := by omega
          have j2 : (0 : Int) ≤ (j : Int) := by omega
          have hbl : b < wr.heap.size := World.block_lt_of_cell? _ _ c0
          rw [had]
          clear hq hu hc hrow hDs hwc hmc hij hij2 had
          by_cases hct : q = t
          · have e1 : (q == t) = true := by simpa using hct
            have HCt := Lib.hid hct
            have htl := HN7.out.own.lt
            have t1 := HN7.out.own.cell 1 (by simp)
            have f1 := HN7.out.own.frozen 1
            simp only [List.getD_cons_zero, List.getD_cons_succ] at t1
            have hne : tb ≠ wr.heap.size := by omega
            clear hct
            go_wp2
            have hb9 : Below w1.heap.size w1 ((wr.setCell ⟨tb, 1, none⟩ (.bool u)).alloc (.cells #[.int .u16 q, .bool u] 42)) := (HB7.out.setCell (show w1.heap.size ≤ tb by have := HNum.out; omega) _).alloc (by simp [World.setCell]; exact HB7.out.size) _
            refine ⟨⟨j + 1, by omega, by go_num, hb9, by simp [World.setCell]; omega, v, ch, C, ?_⟩, by simp [intOf]; omega⟩
            rw [HDs.out, if_pos HCt.out, List.append_nil, HTr2.out (HIj.out.1 HCt.out)]
            exact (HN7.out.flag HNum5.out.2.1 u).below (below_alloc _ _)
          · have e1 : (q == t) = false := by simpa using hct
            have HCt := Lib.hid hct
            obtain ⟨W5, hW5⟩ : ∃ W5, W5 = wr.alloc (.cells #[.int .u16 q, .bool u] 42) := ⟨_, rfl⟩
            obtain ⟨qb, hqb⟩ : ∃ qb, qb = wr.heap.size := ⟨_, rfl⟩
            have hb5 : Below wr.heap.size wr W5 := by rw [hW5]; exact below_alloc _ _
            have ho5 : Own W5 qb 42 [.int .u16 q, .bool u] := by rw [hW5, hqb]; exact heap_alloc_new wr _
            have hN5 := HN7.out.below hb5
            have ho5t := hN5.own
            have HB5 := Lib.hid (HB7.out.trans (hb5.mono HB7.out.size))
            have HSz5 : Hid (W2.heap.size ≤ W5.heap.size ∧ W2.heap.size ≤ qb) := Lib.hid ⟨Nat.le_trans hsz hb5.size, by rw [hqb]; exact hsz⟩
            clear hct
            go_upto_region 15 with (fail)
            show Code.wp _ _ _ _ (wr.alloc (.cells #[.int .u16 q, .bool u] 42))
            rw [← hW5, ← hqb]
            have HN5 := Lib.hid hN5
            have HO5 := Lib.hid ho5
            have HVq : Hid (∀ k, v.ownBlock = some k → k < qb) := Lib.hid (fun k hk => by rw [hqb]; exact (ownBlock_lt HN7.out.dst hk).2)
            clear hW5 hqb hb5 c0 c1
            obtain ⟨N, hN⟩ : ∃ N, N = (((codesP p.P).take j).filter fun c => decide (c ≠ t)).length := ⟨_, rfl⟩
            have hN64 : N ≤ 64 := by
              have h1 := List.length_filter_le (fun c => decide (c ≠ t)) ((codesP p.P).take j)
              rw [List.length_take] at h1
              omega
            have HNl := Lib.hid hN
            have hdst := hN5.dst
            rw [← hN] at hdst
            have HDst := Lib.hid (fun (V : World) (hb : Below W5.heap.size W5 V) => ownsRow_below hdst hb)
            have t3 := ho5t.cell 3 (by simp)
            have f3 := ho5t.frozen 3
            have q0 := ho5.cell 0 (by simp)
            simp only [List.getD_cons_zero, List.getD_cons_succ] at t3 q0
            have HT3 := Lib.hid ho5t
            have htl := ho5t.lt
            have hql := ho5.lt
            have hsz9 := HSz5.out.1
            have HOt := Lib.hid (fun (V V6 : World) (v6 : Value) (hb : Below W5.heap.size W5 V) (g : Grow v V v6 V6) => own_exc (HT3.out.below hb HT3.out.lt) g.exc (fun hh => by have := (ownBlock_lt hdst hh).1; have := HNum5.out; omega))
            have HGr := Lib.hid (fun (V V6 : World) (v6 : Value) (hb : Below W5.heap.size W5 V) (ho : V6.ownsRow W2.heap.size 40 1 v6 (N + 1) (nums .u16 ((((codesP p.P).take j).filter fun c => decide (c ≠ t)) ++ [q]))) (g : Grow v V v6 V6) => (show NwAt W2.heap.size Good (V6.setCell ⟨tb, 3, none⟩ v6) tb bc bu bt bs t tr aN k (nbrs p t) v6 ((((codesP p.P).take j).filter fun c => decide (c ≠ t)) ++ [q]) (((codesP p.P).take j).filter fun c => decide (c ≠ t)) ch C ∧ Own (V6.setCell ⟨tb, 3, none⟩ v6) qb 42 [.int .u16 q, .bool u] ∧ Below w1.heap.size w1 (V6.setCell ⟨tb, 3, none⟩ v6) ∧ W2.heap.size ≤ (V6.setCell ⟨tb, 3, none⟩ v6).heap.size from
              ⟨(HN5.out.below hb).grow (v6 := v6) (w6 := V6) (by have := HNum5.out; have := HNum.out; omega) q (by rw [List.length_append, ← HNl.out]; exact ho) g,
               (own_exc (HO5.out.below hb HO5.out.lt) g.exc (fun hh => by have := HVq.out _ hh; omega)).other ⟨tb, 3, none⟩ (show qb ≠ tb by have := HSz5.out; have := HNum5.out; omega) v6,
               (g.below (B := w1.heap.size) (by have := HB5.out.size; have := hb.size; omega) (fun k hk => by have := (ownBlock_lt hdst hk).1; have := HNum.out; omega) |> (HB5.out.trans (hb.mono HB5.out.size)).trans).setCell (show w1.heap.size ≤ tb by have := HNum.out; omega) _,
               by show _ ≤ (V6.setCell ⟨tb, 3, none⟩ v6).heap.size; have h1 := g.exc.size; have h2 := hb.size; have h3 := HSz5.out.1; simp [World.setCell]; omega⟩))
            clear hN5 ho5 ho5t hN hdst
            go_cut [] from 58 to 69 (fun wx => ∃ v6, NwAt W2.heap.size Good wx tb bc bu bt bs t tr aN k (nbrs p t) v6 ((((codesP p.P).take j).filter fun c => decide (c ≠ t)) ++ [q]) (((codesP p.P).take j).filter fun c => decide (c ≠ t)) ch C ∧ Own wx qb 42 [.int .u16 q, .bool u] ∧ Below w1.heap.size w1 wx ∧ W2.heap.size ≤ wx.heap.size)
            case first =>
              go_region_law
                (first
                  | (refine step_append_num Try.underlying78 infoU16 (by decide) (by rfl) _ _ (by rfl) W2.heap.size v N _ q (by rfl) (by first | exact HDst.out _ (below_alloc _ _) | exact HDst.out _ ((below_alloc _ _).drew)) W5.heap.size (by rfl) (by first | exact (own_lit W5 40 _ _ rfl).cell 0 (by simp) | exact ((own_lit W5 40 _ _ rfl).draw 1).cell 0 (by simp)) (by omega) (by simp; omega) ?_; intro v6 w6 q1 q2; obtain ⟨g6, c6, hv6, _⟩ := ownsK_cells q1 (Nat.succ_pos _); subst hv6; have ot6 := HOt.out _ _ _ (by first | exact below_alloc _ _ | exact (below_alloc _ _).drew) q2; have t3 := ot6.cell 3 (by simp); have f3 := ot6.frozen 3; simp only [List.getD_cons_zero, List.getD_cons_succ] at t3; have HQ := Lib.hid (HGr.out _ _ _ (by first | exact below_alloc _ _ | exact (below_alloc _ _).drew) q1 q2); clear q1 q2 ot6)
                  | fail)

              all_goals go_wp2_with fail
              all_goals go_meet
              all_goals exact ⟨_, HQ.out⟩
            case rest =>
              obtain ⟨v6, hN6, ho6, hb6, hs6⟩ := hcut
              clear t3 f3 q0 htl hql hsz9
              have HN6 := Lib.hid hN6
              have HO6 := Lib.hid ho6
              have HB6 := Lib.hid hb6
              have HS6 := Lib.hid hs6
              have HC := Lib.hid (HCh.out q wc.drew (HP.out.later (HB1.out.trans ((hb6.drew).mono HB1.out.size))) (HL.out.later (HB1.out.trans ((hb6.drew).mono HB1.out.size))) HMc.out HCt.out)
              have HPb2 : Hid (pb < bc) := Lib.hid (by have h1 := HPb.out; have h2 := HNum.out; have h3 := HA1.out.lt; omega)
              have HK := Lib.hid (fun (V : World) (hb : Below wc.heap.size wc V) => (show V.cell? ⟨tb, 4, none⟩ = some (.map (some bc)) ∧ V.cell? ⟨qb, 0, none⟩ = some (.int .u16 q) ∧ V.cell? ⟨pb, 0, none⟩ = some (.slice a n c) ∧ V.cell? ⟨pb, 1, none⟩ = some (.slice a' n' c') ∧ V.cell? ⟨pb, 2, none⟩ = some (.int .i64 p.rate) ∧ V.cell? ⟨pb, 3, none⟩ = some (.int .i64 p.room) ∧ V.cell? ⟨pb, 4, none⟩ = some (.int .i64 p.m0) ∧ V.cell? ⟨pb, 5, none⟩ = some (.int .i64 p.m1) ∧ V.cell? ⟨pb, 6, none⟩ = some (.int .i64 p.m2) from
                ⟨((HN6.out.below hb).own.cell 4 (by simp)), (HO6.out.below hb HO6.out.lt).cell 0 (by simp), (HA1.out.later (HB6.out.trans (hb.mono HB6.out.size))).cells⟩))
              have HKx := Lib.hid (fun (V V' : World) (hb : Below wc.heap.size wc V) (hx : Exc (fun k => k = bc) V V') => (show V'.cell? ⟨tb, 4, none⟩ = some (.map (some bc)) ∧ V'.cell? ⟨qb, 0, none⟩ = some (.int .u16 q) ∧ V'.cell? ⟨pb, 0, none⟩ = some (.slice a n c) ∧ V'.cell? ⟨pb, 1, none⟩ = some (.slice a' n' c') ∧ V'.cell? ⟨pb, 2, none⟩ = some (.int .i64 p.rate) ∧ V'.cell? ⟨pb, 3, none⟩ = some (.int .i64 p.room) ∧ V'.cell? ⟨pb, 4, none⟩ = some (.int .i64 p.m0) ∧ V'.cell? ⟨pb, 5, none⟩ = some (.int .i64 p.m1) ∧ V'.cell? ⟨pb, 6, none⟩ = some (.int .i64 p.m2) from by
                obtain ⟨h1, h2, h3, h4, h5, h6, h7, h8, h9⟩ := HK.out V hb
                have n1 : ¬ tb = bc := by have := HNum5.out; omega
                have n2 : ¬ qb = bc := by have := HNum5.out; have := HSz5.out; omega
                have n3 : ¬ pb = bc := by have := HPb2.out; omega
                exact ⟨hx.cell h1 n1, hx.cell h2 n2, hx.cell h3 n3, hx.cell h4 n3, hx.cell h5 n3, hx.cell h6 n3, hx.cell h7 n3, hx.cell h8 n3, hx.cell h9 n3⟩))
              have HEnd := Lib.hid (fun (V V' : World) (hb : Below wc.heap.size wc V) (s9 : Option Addr) (X : List (Int × Int)) (hgd : Good q X) (hcr : CRow V s9 X.length X.length X) (hfr : ∀ z, s9 = some z → wc.heap.size ≤ z.block) (hc : ChsAt V' bc ((((codesP p.P).take j).filter fun c => decide (c ≠ t)) ++ [q]) (updC ch q (.slice s9 X.length X.length))) (hx : Exc (fun k => k = bc) V V') =>
                (show NwAt W2.heap.size Good V' tb bc bu bt bs t tr aN k (nbrs p t) v6 ((((codesP p.P).take j).filter fun c => decide (c ≠ t)) ++ [q]) ((((codesP p.P).take j).filter fun c => decide (c ≠ t)) ++ [q]) (updC ch q (.slice s9 X.length X.length)) (updC C q X) ∧ Below w1.heap.size w1 V' ∧ W2.heap.size ≤ V'.heap.size from
                  ⟨(HN6.out.below hb).store (by have := HNum.out; omega) q s9 X hc hx hgd hcr (fun h0 z hz => ⟨Nat.le_trans HS6.out (hfr z hz), by
                      obtain ⟨b', off', e, hcc⟩ := hcr.cells.resolve_left (by omega)
                      rw [hz] at e; cases e
                      exact World.block_lt_of_cell? _ _ (hcc 0 h0).1, fun e => by have h1 := (ownBlock_lt HN6.out.dst e).2; have h2 := hfr z hz; omega⟩),
                   (HB6.out.trans (hb.mono HB6.out.size)).trans (hx.below (B := w1.heap.size) (by have h1 := HB6.out.size; have h2 := hb.size; omega) (fun i _ hi => by subst hi; have := HNum.out; omega)),
                   Nat.le_trans HS6.out (Nat.le_trans hb.size hx.size)⟩))
              have hb7 : Below wc.heap.size wc wc.drew := below_draw wc 1
              clear hN6 ho6 hb6 hs6
              go_wp2_with fail
              go_region_held3 (fun V => V.cell? ⟨tb, 4, none⟩ = some (.map (some bc)) ∧ V.cell? ⟨qb, 0, none⟩ = some (.int .u16 q) ∧ V.cell? ⟨pb, 0, none⟩ = some (.slice a n c) ∧ V.cell? ⟨pb, 1, none⟩ = some (.slice a' n' c') ∧ V.cell? ⟨pb, 2, none⟩ = some (.int .i64 p.rate) ∧ V.cell? ⟨pb, 3, none⟩ = some (.int .i64 p.room) ∧ V.cell? ⟨pb, 4, none⟩ = some (.int .i64 p.m0) ∧ V.cell? ⟨pb, 5, none⟩ = some (.int .i64 p.m1) ∧ V.cell? ⟨pb, 6, none⟩ = some (.int .i64 p.m2)) (first | exact HK.out _ hb7 | exact HK.out _ HU1.out | exact HKx.out _ _ HU1.out HX9.out | (go_keep; done))
                (first
                  | ((with_reducible refine HC.out.mono ?_); rintro e u1 ⟨s9, X, rfl, hgd, hcr, hb9, hfr⟩; have HU1 : Hid (Below wc.heap.size wc u1) := Lib.hid (hb7.trans (hb9.mono hb7.size)); obtain ⟨w9, hrun9, r1, r2⟩ := ch_store_run (HN6.out.below HU1.out).chs q (.slice s9 X.length X.length) HWc.out; have HX9 := Lib.hid r2; have HQ := Lib.hid (HEnd.out _ _ HU1.out s9 X hgd hcr hfr r1 r2); obtain ⟨lX, hlX⟩ : ∃ lX, lX = X.length := ⟨_, rfl⟩; rw [← hlX] at hrun9 ⊢; clear hgd hcr hb9 hfr r1 r2 hlX)
                  | fail)
              go_wp2
              refine ⟨⟨j + 1, by omega, by go_num, HQ.out.2.1, HQ.out.2.2, ?_⟩, by simp [intOf]; omega⟩
              rw [HDs.out, if_neg HCt.out, HTr3.out (fun e => HCt.out (HIj.out.2 e))]
              exact ⟨v6, _, _, HQ.out.1⟩
        · obtain rfl : j = n := by omega
          have hdf : ((codesP p.P).take j).filter (fun c => decide (c ≠ t)) = destsP p.P t := by
            rw [List.take_of_length_le (by rw [codesP_length, HPl.out]; exact Nat.le_refl _)]; rfl
          have htrue : tr = pt p.P i := by
            rw [HTr.out, decide_eq_true (show i < j by have h1 := (fnd_some_iff.1 HI.out).1; have h2 := HPl.out; omega), Bool.true_and]
          have hN := HN7.out
          rw [hdf, htrue] at hN
          have HNf := Lib.hid hN
          clear hN hdf htrue
          go_wp2
          go_ret2
          exact new_end HNf.out HV.out (HR1.out.later HB7.out) HM.out HWt.out HG.out (by have := HNum5.out; have := HNum.out; have := HB1.out.size; omega) HPw.out (HB1.out.trans (HB7.out.mono HB1.out.size)) HFn.out
theorem new_ok (p : Pn) (a : Option Addr) (n c : Nat) (a' : Option Addr) (n' c' : Nat) (t : Int) (w : World) (hP : PRow w a n c p.P) (hL : LRow w a' n' c' p.L) (hE : chkPts p [t] = 0) (hv : ValidPl p) (i : Nat) (hi : fnd p.P t = some i) (hwt : (Lit.int .u16 t).wf = true)
    (Good : Int → List (Int × Int) → Prop) (hG : ∀ u X, Good u X → X.length ≤ 1024 ∧ ∀ c ∈ X, (Lit.int .u16 c.1).wf = true)
    (hCh : ∀ (u : Int) (W : World), PRow W a n c p.P → LRow W a' n' c' p.L → u ∈ codesP p.P → u ≠ t → Calls Try.prog 32 #[planV a n c a' n' c' p, .int .u16 t, .int .u16 u] W (ChOut Good u W)) :
    Calls Try.prog 8 #[planV a n c a' n' c' p, .int .u16 t] w (NewOut p t i Good w) :=
  (new_lo p a n c a' n' c' t w hP hL hE hv i hi hwt Good hG hCh).mono fun _ _ ⟨y, T, h1, h2, h3, h4, h5, _⟩ => ⟨y, T, h1, h2, h3, h4, h5⟩
end Go.Proofs.Ytdjmopipmeonlaa
