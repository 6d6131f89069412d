/- A meter and a control of the congestions, as plain data and in memory. -/
import Derived.Test.YtahkmadapojjkaaTfRange
import Derived.DeepKeys4
import Derived.LaidMore
namespace Go.Proofs.Ytahkmadapojjkaa
open Go.RowKit Go.Maps

/-- A meter as plain data: three marks, the level. -/
structure Mt where
  a : Int
  b : Int
  c : Int
  lev : Int
def bt (p : Bool) : Int := if p then 1 else 0
theorem bt_bounds (p : Bool) : 0 ≤ bt p ∧ bt p ≤ 1 := by unfold bt; split <;> omega
def rchd (m : Mt) (n : Int) : Int := bt (decide (m.a ≤ n)) + bt (decide (m.b ≤ n)) + bt (decide (m.c ≤ n))
def kept (m : Mt) (n : Int) : Int := bt (decide (m.a / 2 < n)) + bt (decide (m.b / 2 < n)) + bt (decide (m.c / 2 < n))
def Mt.next (m : Mt) (n : Int) : Int := max (rchd m n) (min m.lev (kept m n))
def Mt.set (m : Mt) (n : Int) : Mt := { m with lev := m.next n }
theorem rchd_bounds (m : Mt) (n : Int) : 0 ≤ rchd m n ∧ rchd m n ≤ 3 := by
  have h1 := bt_bounds (decide (m.a ≤ n)); have h2 := bt_bounds (decide (m.b ≤ n)); have h3 := bt_bounds (decide (m.c ≤ n))
  unfold rchd; omega
theorem kept_bounds (m : Mt) (n : Int) : 0 ≤ kept m n ∧ kept m n ≤ 3 := by
  have h1 := bt_bounds (decide (m.a / 2 < n)); have h2 := bt_bounds (decide (m.b / 2 < n)); have h3 := bt_bounds (decide (m.c / 2 < n))
  unfold kept; omega
theorem next_bounds (m : Mt) (n : Int) (h : 0 ≤ m.lev ∧ m.lev ≤ 3) : 0 ≤ m.next n ∧ m.next n ≤ 3 := by
  have h1 := rchd_bounds m n; have h2 := kept_bounds m n
  unfold Mt.next; omega
/-- A meter in memory. -/
structure MtAt (w : World) (mb : Nat) (m : Mt) : Prop where
  own : Own w mb 57 [.int .i64 m.a, .int .i64 m.b, .int .i64 m.c, .int .i64 m.lev]
  asc : 1 ≤ m.a ∧ m.a < m.b ∧ m.b < m.c ∧ m.c ≤ 9223372036854775807
  lev : 0 ≤ m.lev ∧ m.lev ≤ 3
theorem own_exc {w w' : World} {b t : Nat} {cs : List Value} {S : Nat → Prop} (h : Own w b t cs) (hx : Exc S w w') (hn : ¬ S b) : Own w' b t cs := by
  unfold Own; rw [hx.block b h.lt hn]; exact h
theorem MtAt.exc {w w' : World} {mb : Nat} {m : Mt} {S : Nat → Prop} (h : MtAt w mb m) (hx : Exc S w w') (h1 : ¬ S mb) : MtAt w' mb m := ⟨own_exc h.own hx h1, h.asc, h.lev⟩
theorem MtAt.below {w w' : World} {mb : Nat} {m : Mt} (h : MtAt w mb m) (hb : Below w.heap.size w w') : MtAt w' mb m := h.exc (S := fun _ => False) (Exc.of_below hb) (fun h => h)
theorem MtAt.lt {w : World} {mb : Nat} {m : Mt} (h : MtAt w mb m) : mb < w.heap.size := h.own.lt
theorem MtAt.cells {w : World} {mb : Nat} {m : Mt} (h : MtAt w mb m) : w.cell? ⟨mb, 0, none⟩ = some (.int .i64 m.a) ∧ w.cell? ⟨mb, 1, none⟩ = some (.int .i64 m.b) ∧ w.cell? ⟨mb, 2, none⟩ = some (.int .i64 m.c) ∧ w.cell? ⟨mb, 3, none⟩ = some (.int .i64 m.lev) :=
  ⟨h.own.cell 0 (by simp), h.own.cell 1 (by simp), h.own.cell 2 (by simp), h.own.cell 3 (by simp)⟩
/-- A nil meter, or the zero one. -/
def NulM (w : World) (a : Option Addr) : Prop := a = none ∨ ∃ b, a = some ⟨b, 0, none⟩ ∧ w.cell? ⟨b, 0, none⟩ = some (.int .i64 0)
theorem NulM.later {w w' : World} {a : Option Addr} (h : NulM w a) (hb : Below w.heap.size w w') : NulM w' a := by
  rcases h with h | ⟨b, h1, h2⟩
  · exact .inl h
  · exact .inr ⟨b, h1, by rw [hb.cell (p := ⟨b, 0, none⟩) (by exact World.block_lt_of_cell? w _ h2)]; exact h2⟩

/-- What is recorded of a destination: the level and the tick. -/
def lowM (r : Int × Int) (now base : Int) : Int := if now ≤ r.2 then r.1 else r.1 - min ((now - r.2) / base) r.1
/-- A control as plain data: what it has recorded, among the destinations D. -/
structure Ct where
  D : List Int
  R : Int → Int × Int
  base : Int
def updR (R : Int → Int × Int) (n : Int) (x : Int × Int) : Int → Int × Int := fun z => if z = n then x else R z
theorem updR_same (R : Int → Int × Int) (n : Int) (x : Int × Int) : updR R n x n = x := if_pos rfl
theorem updR_other {R : Int → Int × Int} {n z : Int} {x : Int × Int} (h : z ≠ n) : updR R n x z = R z := if_neg h
def Ct.hits (c : Ct) (now n : Int) (p : Int) : Bool := decide (p ≠ n) && decide (0 < lowM (c.R p) now c.base)
def Ct.others (c : Ct) (now n : Int) : Nat := c.D.countP (c.hits now n)
def Ct.hear (c : Ct) (now n lev : Int) : Ct := { c with R := updR c.R n (lev, now) }
def Ct.err (c : Ct) (now n lev : Int) : Int := if lev < 0 ∨ 3 < lev ∨ 16383 < n then 1 else if 64 ≤ c.others now n then 9 else 0
def Ct.fresh (D : List Int) (base : Int) : Ct := ⟨D, fun _ => (0, 0), base⟩
def recV (x : Int × Int) : Value := .agg #[.int .i64 x.1, .int .i64 x.2]
theorem law_pt : Keyed Try.prog 49 := int_keyed Try.underlying49
theorem key_pt {n : Int} (h : (Lit.int .u16 n).wf = true) : keyOf Try.prog 49 (.int .u16 n) = some (.int .u16 n) := keyOf_int_mk Try.underlying49 h
theorem zero_rec (w : World) : (zeroValue 66).run Try.prog w = .ok (recV (0, 0)) w := by kernel_rfl
/-- The map of the records: a level above 0 is one. -/
def RecAt (w : World) (b : Nat) (R : Int → Int × Int) : Prop := ∃ f, MapAt Try.prog 49 w b f ∧ ∀ n, (Lit.int .u16 n).wf = true → f (.int .u16 n) = if (R n).1 = 0 then none else some (recV (R n))
theorem RecAt.exc {w w' : World} {b : Nat} {R : Int → Int × Int} {S : Nat → Prop} (h : RecAt w b R) (hx : Exc S w w') (hn : ¬ S b) : RecAt w' b R := by
  obtain ⟨f, h1, h2⟩ := h; exact ⟨f, h1.exc hx hn, h2⟩
theorem RecAt.lt {w : World} {b : Nat} {R : Int → Int × Int} (h : RecAt w b R) : b < w.heap.size := by
  obtain ⟨f, h1, h2⟩ := h; exact h1.lt
theorem RecAt.made (w : World) : RecAt (w.alloc (.map #[] 0)) w.heap.size (fun _ => (0, 0)) := ⟨_, MapAt.made _ _ w, fun n _ => by simp⟩
/-- What a look-up finds: the record, or the zero one. -/
def seen (x : Int × Int) : Int × Int := if x.1 = 0 then (0, 0) else x
theorem RecAt.run {w : World} {b : Nat} {R : Int → Int × Int} (h : RecAt w b R) {n : Int} (hn : (Lit.int .u16 n).wf = true) :
    (Instr.lookup 58 (.map (some b)) (.int .u16 n) false).run Try.prog w = .ok (.agg #[.int .i64 (seen (R n)).1, .int .i64 (seen (R n)).2]) w := by
  obtain ⟨f, h1, h2⟩ := h
  have := h1.look law_pt Try.underlying58 (zero_rec w) (key_pt hn) false
  rw [if_neg (by decide), h2 n hn] at this
  rw [this]
  unfold seen
  split <;> rfl
/-- A control in memory: its block and the map's. -/
structure CtAt (w : World) (cb bm : Nat) (c : Ct) : Prop where
  own : Own w cb 60 [.int .i64 c.base, .map (some bm)]
  map : RecAt w bm c.R
  base : 1 ≤ c.base ∧ c.base ≤ 9223372036854775807
  lev : ∀ n, 0 ≤ (c.R n).1 ∧ (c.R n).1 ≤ 3
  tick : ∀ n, (Lit.int .i64 (c.R n).2).wf = true
  dom : ∀ n, (c.R n).1 ≠ 0 → n ∈ c.D
  nod : c.D.Nodup
  wfD : ∀ n, n ∈ c.D → (Lit.int .u16 n).wf = true
  len : c.D.length ≤ 1000
theorem CtAt.exc {w w' : World} {cb bm : Nat} {c : Ct} {S : Nat → Prop} (h : CtAt w cb bm c) (hx : Exc S w w') (h1 : ¬ S cb) (h2 : ¬ S bm) : CtAt w' cb bm c := ⟨own_exc h.own hx h1, h.map.exc hx h2, h.base, h.lev, h.tick, h.dom, h.nod, h.wfD, h.len⟩
theorem CtAt.below {w w' : World} {cb bm : Nat} {c : Ct} (h : CtAt w cb bm c) (hb : Below w.heap.size w w') : CtAt w' cb bm c := h.exc (S := fun _ => False) (Exc.of_below hb) (fun h => h) (fun h => h)
theorem CtAt.ne {w : World} {cb bm : Nat} {c : Ct} (h : CtAt w cb bm c) : cb ≠ bm := by
  intro e
  obtain ⟨f, h1, _⟩ := h.map
  obtain ⟨es, clock, hb⟩ := h1.map
  have ho := h.own
  unfold Own at ho
  rw [e, hb] at ho
  cases ho
theorem CtAt.cells {w : World} {cb bm : Nat} {c : Ct} (h : CtAt w cb bm c) : w.cell? ⟨cb, 0, none⟩ = some (.int .i64 c.base) ∧ w.cell? ⟨cb, 1, none⟩ = some (.map (some bm)) :=
  ⟨h.own.cell 0 (by simp), h.own.cell 1 (by simp)⟩
theorem CtAt.lt {w : World} {cb bm : Nat} {c : Ct} (h : CtAt w cb bm c) : cb < w.heap.size := h.own.lt
theorem CtAt.ltm {w : World} {cb bm : Nat} {c : Ct} (h : CtAt w cb bm c) : bm < w.heap.size := h.map.lt
/-- The blocks of a control. -/
def Cu (cb bm : Nat) : Nat → Prop := fun k => k = cb ∨ k = bm
/-- A nil control, or the zero one. -/
def NulC (w : World) (a : Option Addr) : Prop := a = none ∨ ∃ b, a = some ⟨b, 0, none⟩ ∧ w.cell? ⟨b, 0, none⟩ = some (.int .i64 0)
theorem NulC.later {w w' : World} {a : Option Addr} (h : NulC w a) (hb : Below w.heap.size w w') : NulC w' a := NulM.later h hb
theorem lowM_zero {r : Int × Int} {now base : Int} (h : r.1 = 0) (hb : 1 ≤ base) : lowM r now base = 0 := by
  unfold lowM
  rw [h]
  split
  · rfl
  · rename_i hh
    have := Int.ediv_nonneg (a := now - r.2) (b := base) (by omega) (by omega)
    omega
theorem lowM_seen (r : Int × Int) (now base : Int) (hb : 1 ≤ base) : lowM (seen r) now base = lowM r now base := by
  unfold seen
  split
  · rename_i h
    rw [lowM_zero h hb, lowM_zero rfl hb]
  · rfl
end Go.Proofs.Ytahkmadapojjkaa
