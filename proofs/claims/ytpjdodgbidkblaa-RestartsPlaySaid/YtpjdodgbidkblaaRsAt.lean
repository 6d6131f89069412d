/- A machine of the restarts, as plain data and in memory. -/
import Derived.Test.YtpjdodgbidkblaaTfRange
import Derived.DeepKeys4
import Derived.LaidMore
namespace Go.Proofs.Ytpjdodgbidkblaa
open Go.RowKit Go.Maps

theorem law_pt : Keyed Try.prog 26 := int_keyed Try.underlying26
theorem wf16 {x : Int} : (Lit.int .u16 x).wf = true ↔ 0 ≤ x ∧ x ≤ 65535 := by
  simp [Lit.wf, IntKind.min, IntKind.max, IntKind.bits, IntKind.signed]
theorem key_pt {n : Int} (h : (Lit.int .u16 n).wf = true) : keyOf Try.prog 26 (.int .u16 n) = some (.int .u16 n) := keyOf_int_mk Try.underlying26 h
/-- What is known of a neighbor: is it up, is it done. -/
def nbV (x : Bool × Bool) : Value := .agg #[.bool x.1, .bool x.2]
theorem zero_nb (w : World) : (zeroValue 50).run Try.prog w = .ok (nbV (false, false)) w := by kernel_rfl
def updN (f : Int → Bool × Bool) (n : Int) (x : Bool × Bool) : Int → Bool × Bool := fun z => if z = n then x else f z
theorem updN_same (f : Int → Bool × Bool) (n : Int) (x : Bool × Bool) : updN f n x n = x := if_pos rfl
theorem updN_other {f : Int → Bool × Bool} {n z : Int} {x : Bool × Bool} (h : z ≠ n) : updN f n x z = f z := if_neg h
/-- A machine as plain data. -/
structure Mc where
  N : List Int
  nb : Int → Bool × Bool
  base : Int
  st : Int
  beg : Int
def isUpB (x : Bool × Bool) : Bool := x.1
def isOpB (x : Bool × Bool) : Bool := x.1 && !x.2
def Mc.any (m : Mc) (c : Bool × Bool → Bool) : Bool := m.N.any fun n => c (m.nb n)
def Mc.up (m : Mc) (now n : Int) : Mc := { m with nb := updN m.nb n (true, (m.nb n).2), st := if m.st = 1 then 2 else m.st, beg := if m.st = 1 then now else m.beg }
/-- Down, the state aside. -/
def Mc.cut (m : Mc) (n : Int) : Mc := { m with nb := updN m.nb n (false, false) }
def Mc.down (m : Mc) (n : Int) : Mc := { m.cut n with st := if (m.cut n).any isUpB then m.st else 1 }
def Mc.done (m : Mc) (n : Int) : Mc := if m.st = 2 ∧ (m.nb n).1 = true then { m with nb := updN m.nb n (true, true) } else m
def Mc.fin (m : Mc) : Int := if m.beg > 9223372036854775807 - m.base then 9223372036854775807 else m.beg + m.base
def Mc.ends (m : Mc) (now : Int) : Bool := decide (m.st = 2) && !(m.any isOpB && decide (now < m.fin))
def Mc.tick (m : Mc) (now : Int) : Mc := if m.ends now = true then { m with st := 0 } else m
def Mc.fresh (N : List Int) (base : Int) : Mc := ⟨N, fun _ => (true, false), base, 0, 0⟩
/-- The map of the neighbors. -/
def NbAt (w : World) (b : Nat) (N : List Int) (nb : Int → Bool × Bool) : Prop := ∃ f, MapAt Try.prog 26 w b f ∧ ∀ n, (Lit.int .u16 n).wf = true → f (.int .u16 n) = if n ∈ N then some (nbV (nb n)) else none
theorem NbAt.exc {w w' : World} {b : Nat} {N : List Int} {nb : Int → Bool × Bool} {S : Nat → Prop} (h : NbAt w b N nb) (hx : Exc S w w') (hn : ¬ S b) : NbAt w' b N nb := by
  obtain ⟨f, h1, h2⟩ := h; exact ⟨f, h1.exc hx hn, h2⟩
theorem NbAt.lt {w : World} {b : Nat} {N : List Int} {nb : Int → Bool × Bool} (h : NbAt w b N nb) : b < w.heap.size := by
  obtain ⟨f, h1, h2⟩ := h; exact h1.lt
theorem NbAt.made (w : World) (nb : Int → Bool × Bool) : NbAt (w.alloc (.map #[] 0)) w.heap.size [] nb := ⟨_, MapAt.made _ _ w, fun n _ => by simp⟩
theorem NbAt.congr {w : World} {b : Nat} {N : List Int} {nb nb' : Int → Bool × Bool} (h : NbAt w b N nb) (e : ∀ n, n ∈ N → nb' n = nb n) : NbAt w b N nb' := by
  obtain ⟨f, h1, h2⟩ := h
  refine ⟨f, h1, fun n hn => ?_⟩
  rw [h2 n hn]
  by_cases hN : n ∈ N
  · rw [if_pos hN, if_pos hN, e n hN]
  · rw [if_neg hN, if_neg hN]
theorem NbAt.run {w : World} {b : Nat} {N : List Int} {nb : Int → Bool × Bool} (h : NbAt w b N nb) {n : Int} (hn : (Lit.int .u16 n).wf = true) (hN : n ∈ N) :
    (Instr.lookup 44 (.map (some b)) (.int .u16 n) false).run Try.prog w = .ok (.agg #[.bool (nb n).1, .bool (nb n).2]) w := by
  obtain ⟨f, h1, h2⟩ := h
  have := h1.look law_pt Try.underlying44 (zero_nb w) (key_pt hn) false
  rw [if_neg (by decide), h2 n hn, if_pos hN] at this
  exact this
theorem NbAt.run_ok {w : World} {b : Nat} {N : List Int} {nb : Int → Bool × Bool} (h : NbAt w b N nb) {n : Int} (hn : (Lit.int .u16 n).wf = true) :
    ∃ u d, (Instr.lookup 44 (.map (some b)) (.int .u16 n) true).run Try.prog w = .ok (.tuple #[.agg #[.bool u, .bool d], .bool (decide (n ∈ N))]) w := by
  obtain ⟨f, h1, h2⟩ := h
  have := h1.look law_pt Try.underlying44 (zero_nb w) (key_pt hn) true
  rw [if_pos rfl, h2 n hn] at this
  by_cases hN : n ∈ N
  · refine ⟨(nb n).1, (nb n).2, ?_⟩
    rw [this, if_pos hN, decide_eq_true hN]
    rfl
  · refine ⟨false, false, ?_⟩
    rw [this, if_neg hN, decide_eq_false hN]
    rfl
/-- A machine in memory: its block and the map's. -/
structure McAt (w : World) (mb bm : Nat) (m : Mc) : Prop where
  own : Own w mb 46 [.map (some bm), .int .i64 m.base, .int .u8 m.st, .int .i64 m.beg]
  map : NbAt w bm m.N m.nb
  base : 0 ≤ m.base ∧ m.base ≤ 9223372036854775807
  beg : (Lit.int .i64 m.beg).wf = true
  st : 0 ≤ m.st ∧ m.st ≤ 2
  wfN : ∀ n, n ∈ m.N → (Lit.int .u16 n).wf = true
theorem own_exc {w w' : World} {b t : Nat} {cs : List Value} {S : Nat → Prop} (h : Own w b t cs) (hx : Exc S w w') (hn : ¬ S b) : Own w' b t cs := by
  unfold Own; rw [hx.block b h.lt hn]; exact h
theorem McAt.exc {w w' : World} {mb bm : Nat} {m : Mc} {S : Nat → Prop} (h : McAt w mb bm m) (hx : Exc S w w') (h1 : ¬ S mb) (h2 : ¬ S bm) : McAt w' mb bm m := ⟨own_exc h.own hx h1, h.map.exc hx h2, h.base, h.beg, h.st, h.wfN⟩
theorem McAt.below {w w' : World} {mb bm : Nat} {m : Mc} (h : McAt w mb bm m) (hb : Below w.heap.size w w') : McAt w' mb bm m := h.exc (S := fun _ => False) (Exc.of_below hb) (fun h => h) (fun h => h)
theorem McAt.ne {w : World} {mb bm : Nat} {m : Mc} (h : McAt w mb bm m) : mb ≠ bm := by
  intro e
  obtain ⟨f, h1, _⟩ := h.map
  obtain ⟨es, clock, hb⟩ := h1.map
  have ho := h.own
  unfold Own at ho
  rw [e, hb] at ho
  cases ho
theorem McAt.cells {w : World} {mb bm : Nat} {m : Mc} (h : McAt w mb bm m) : w.cell? ⟨mb, 0, none⟩ = some (.map (some bm)) ∧ w.cell? ⟨mb, 1, none⟩ = some (.int .i64 m.base) ∧ w.cell? ⟨mb, 2, none⟩ = some (.int .u8 m.st) ∧ w.cell? ⟨mb, 3, none⟩ = some (.int .i64 m.beg) :=
  ⟨h.own.cell 0 (by simp), h.own.cell 1 (by simp), h.own.cell 2 (by simp), h.own.cell 3 (by simp)⟩
theorem McAt.lt {w : World} {mb bm : Nat} {m : Mc} (h : McAt w mb bm m) : mb < w.heap.size := h.own.lt
theorem McAt.ltm {w : World} {mb bm : Nat} {m : Mc} (h : McAt w mb bm m) : bm < w.heap.size := h.map.lt
/-- The blocks of a machine. -/
def Mu (mb bm : Nat) : Nat → Prop := fun k => k = mb ∨ k = bm
section
variable {w : World} {ops : Array Oper} {rest : List Oper} {o : Oper} {a : Act} {Q : Exit → Act → World → Prop}
theorem wpList_nb_store (hg : o.guard = none) (m x v : Operand) (hop : o.op = Op.mapUpdate 44 m x v) (b : Nat) (N : List Int) (nb : Int → Bool × Bool) (hm : a.eval m = .map (some b)) (hat : NbAt w b N nb) (n : Int) (s : Bool × Bool) (hn : (Lit.int .u16 n).wf = true) (hN : n ∈ N)
    (hx : a.eval x = .int .u16 n) (hv : a.eval v = .agg #[.bool s.1, .bool s.2]) (hK : ∀ w', NbAt w' b N (updN nb n s) → Exc (fun k => k = b) w w' → wpList Try.prog ops Q rest (a.put o.dst undef) w') : wpList Try.prog ops Q (o :: rest) a w := by
  obtain ⟨f, h1, h2⟩ := hat
  refine wpList_store hg m x v _ hop _ _ law_pt Try.underlying44 b f hm h1 _ _ _ hx hv (key_pt hn) fun w' g r1 r2 r3 r4 => ?_
  refine hK w' ⟨g, r1, fun z hz => ?_⟩ r4
  by_cases e : z = n
  · subst e; rw [r2, if_pos hN, updN_same]; rfl
  · rw [r3 _ (by simpa using e), h2 z hz, updN_other e]
theorem wpList_nb_add (hg : o.guard = none) (m x v : Operand) (hop : o.op = Op.mapUpdate 44 m x v) (b : Nat) (N : List Int) (hm : a.eval m = .map (some b)) (hat : NbAt w b N (fun _ => (true, false))) (n : Int) (hn : (Lit.int .u16 n).wf = true)
    (hx : a.eval x = .int .u16 n) (hv : a.eval v = .agg #[.bool true, .bool false]) (hK : ∀ w', NbAt w' b (N ++ [n]) (fun _ => (true, false)) → Exc (fun k => k = b) w w' → wpList Try.prog ops Q rest (a.put o.dst undef) w') : wpList Try.prog ops Q (o :: rest) a w := by
  obtain ⟨f, h1, h2⟩ := hat
  refine wpList_store hg m x v _ hop _ _ law_pt Try.underlying44 b f hm h1 _ _ _ hx hv (key_pt hn) fun w' g r1 r2 r3 r4 => ?_
  refine hK w' ⟨g, r1, fun z hz => ?_⟩ r4
  by_cases e : z = n
  · subst e; rw [r2, if_pos (by simp)]; rfl
  · rw [r3 _ (by simpa using e), h2 z hz]
    simp [e]
end
/-- What an act leaves: the error, the machine. -/
def ActOut (mb bm : Nat) (m : Mc) (E : Int) (w : World) (e : Ending) (w' : World) : Prop := e = .returned (.int .i64 E) ∧ McAt w' mb bm m ∧ Exc (Mu mb bm) w w'
/-- A nil machine, or the zero one. -/
def Nul (w : World) (a : Option Addr) : Prop := a = none ∨ ∃ b, a = some ⟨b, 0, none⟩ ∧ w.cell? ⟨b, 0, none⟩ = some (.map none)
theorem Nul.later {w w' : World} {a : Option Addr} (h : Nul w a) (hb : Below w.heap.size w w') : Nul w' a := by
  rcases h with h | ⟨b, h1, h2⟩
  · exact .inl h
  · exact .inr ⟨b, h1, by rw [hb.cell (p := ⟨b, 0, none⟩) (by exact World.block_lt_of_cell? w _ h2)]; exact h2⟩
end Go.Proofs.Ytpjdodgbidkblaa
