import Derived.Test.YthlckipcgogogaaGreatDoorRows
import Derived.WalkKit
import Derived.WalkSpells
import Derived.WalkLawsBesides
import Derived.Lib.Hide
import Derived.Deep.OwnRows
import Derived.Deep.QuietTactic
import Derived.BigQuiet
import Derived.Laws.CopyOwn
import Derived.Test.YthlckipcgogogaaGreatDoorPlOf
/- What the walks share: slices that read as lists of numbers, blocks of the call itself, and how they are carried over calls. -/
namespace Go.Proofs.YthlckipcgogogaaGreatDoor
set_option linter.unusedVariables false
open Go.RowKit

/-- A slice value (address, length, capacity) reads in w as the numbers l of kind k. -/
structure Row (k : IntKind) (w : World) (a : Option Addr) (n c : Nat) (l : List Int) : Prop where
  len : l.length = n
  le : n ≤ c
  max : c ≤ maxLen
  wf : ∀ x ∈ l, (Lit.int k x).wf = true
  cells : n = 0 ∨ ∃ b off, a = some ⟨b, off, none⟩ ∧ ∀ i, i < n → w.cell? ⟨b, off + i, none⟩ = some (.int k (l.getD i 0))
  isNil : a = none → c = 0
theorem Row.of_nil (k : IntKind) (w : World) : Row k w none 0 0 [] := ⟨rfl, Nat.le_refl _, Nat.zero_le _, by simp, .inl rfl, fun _ => rfl⟩
/-- What reads in w reads in every later world that keeps what was there. -/
theorem Row.later {k : IntKind} {w w' : World} {a : Option Addr} {n c : Nat} {l : List Int} (h : Row k w a n c l) (hb : Below w.heap.size w w') : Row k w' a n c l := by
  refine ⟨h.len, h.le, h.max, h.wf, ?_, h.isNil⟩
  rcases h.cells with h0 | ⟨b, off, ha, hc⟩
  · exact .inl h0
  · refine .inr ⟨b, off, ha, fun i hi => ?_⟩
    have := hc i hi
    rw [hb.cell (p := ⟨b, off + i, none⟩) (by exact World.block_lt_of_cell? w _ this)]
    exact this
theorem ret_bool {a b : Bool} (h : a = b) : Ending.returned (.bool a) = Ending.returned (.bool b) := by rw [h]
theorem ret_int {k : IntKind} {a b : Int} (h : a = b) : Ending.returned (.int k a) = Ending.returned (.int k b) := by rw [h]
/-- Block b of the call's own holds the cells cs, of elements of type t. -/
def Own (w : World) (b t : Nat) (cs : List Value) : Prop := w.heap[b]? = some (.cells cs.toArray t (0, 0))
theorem Own.lt {w : World} {b t : Nat} {cs : List Value} (h : Own w b t cs) : b < w.heap.size := by
  unfold Own at h
  exact (Array.getElem?_eq_some_iff.1 h).1
theorem Own.cell {w : World} {b t : Nat} {cs : List Value} (h : Own w b t cs) (j : Nat) (hj : j < cs.length) : w.cell? ⟨b, j, none⟩ = some (cs.getD j undef) := by
  rw [cell_of_row w b j _ t _ h]
  simp [hj]
theorem Own.frozen {w : World} {b t : Nat} {cs : List Value} (h : Own w b t cs) (j : Nat) : w.frozen? ⟨b, j, none⟩ = false := frozen_of_row w b j _ t h
theorem Own.set {w : World} {b t : Nat} {cs : List Value} (h : Own w b t cs) (j : Nat) (v : Value) : Own (w.setCell ⟨b, j, none⟩ v) b t (cs.set j v) := by
  unfold Own
  rw [heap_setCell_same w b j _ t v h]
  simp
theorem Own.other {w : World} {b t : Nat} {cs : List Value} (h : Own w b t cs) (a : Addr) (hne : b ≠ a.block) (v : Value) : Own (w.setCell a v) b t cs := by
  unfold Own
  rw [heap_setCell_other w a b v hne]
  exact h
theorem Own.below {w w' : World} {b t B : Nat} {cs : List Value} (h : Own w b t cs) (hb : Below B w w') (hB : b < B) : Own w' b t cs := by
  unfold Own
  rw [hb.block b hB]
  exact h
/-- Only block b of what there was may have changed. -/
def Only (b : Nat) (w w' : World) : Prop := w.grownBy w' (some b)
theorem Only.refl (b : Nat) (w : World) : Only b w w := ⟨rfl, rfl, rfl, Nat.le_refl _, fun _ _ _ => rfl⟩
theorem Only.setCell {b : Nat} {a w : World} (h : Only b a w) (j : Nat) (v : Value) : Only b a (w.setCell ⟨b, j, none⟩ v) :=
  ⟨h.os, h.tape, h.output, by simp [World.setCell]; exact h.size, fun k hk hne => by
    rw [heap_setCell_other w ⟨b, j, none⟩ k v (by simpa using hne)]; exact h.block k hk hne⟩
theorem Only.trans {b : Nat} {a w w' : World} (h : Only b a w) (h' : Only b w w') : Only b a w' :=
  ⟨h'.os.trans h.os, h'.tape.trans h.tape, h'.output.trans h.output, Nat.le_trans h.size h'.size, fun k hk hne => (h'.block k (Nat.lt_of_lt_of_le hk h.size) hne).trans (h.block k hk hne)⟩
theorem Only.below {b B : Nat} {a w w' : World} (h : Below B a w) (h' : Only b w w') (hB : B ≤ w.heap.size) (hb : B ≤ b) : Below B a w' :=
  h.grown h' hB (fun k hk => by cases hk; exact hb)
theorem Only.cell {b : Nat} {w w' : World} (h : Only b w w') {p : Addr} {v : Value} (hc : w.cell? p = some v) (hne : p.block ≠ b) : w'.cell? p = some v :=
  World.grownBy.cell h hc (by simpa using hne)
theorem Only.row {b : Nat} {w w' : World} (h : Only b w w') {k : IntKind} {a : Option Addr} {n c : Nat} {l : List Int} (hr : Row k w a n c l) (hne : ∀ x, a = some x → x.block ≠ b) : Row k w' a n c l := by
  refine ⟨hr.len, hr.le, hr.max, hr.wf, ?_, hr.isNil⟩
  rcases hr.cells with h0 | ⟨b', off, ha, hc⟩
  · exact .inl h0
  · exact .inr ⟨b', off, ha, fun i hi => h.cell (hc i hi) (by have := hne _ ha; exact this)⟩
/-- Numbers as cells. -/
def nums (k : IntKind) (l : List Int) : List Value := l.map (Value.int k)
theorem nums_length (k : IntKind) (l : List Int) : (nums k l).length = l.length := by simp [nums]
theorem nums_getD (k : IntKind) (l : List Int) (j : Nat) (hj : j < l.length) : (nums k l).getD j undef = .int k (l.getD j 0) := by simp [nums, hj]
theorem nums_set (k : IntKind) (l : List Int) (j : Nat) (x : Int) : (nums k l).set j (.int k x) = nums k (l.set j x) := by simp [nums, List.map_set]
theorem Own.row {w : World} {b t : Nat} {k : IntKind} {l : List Int} (h : Own w b t (nums k l)) (off n c : Nat) (hn : off + n ≤ l.length) (hc : n ≤ c) (hm : c ≤ maxLen)
    (hw : ∀ x ∈ l, (Lit.int k x).wf = true) : Row k w (some ⟨b, off, none⟩) n c ((l.drop off).take n) := by
  refine ⟨by simp; omega, hc, hm, fun x hx => hw x (List.mem_of_mem_drop (List.mem_of_mem_take hx)), .inr ⟨b, off, rfl, fun i hi => ?_⟩, by simp⟩
  rw [h.cell (off + i) (by rw [nums_length]; omega), nums_getD _ _ _ (by omega)]
  simp [List.getD_eq_getElem?_getD, hi]
theorem Own.row0 {w : World} {b t : Nat} {k : IntKind} {l : List Int} (h : Own w b t (nums k l)) (n c : Nat) (hn : n = l.length) (hc : n ≤ c) (hm : c ≤ maxLen)
    (hw : ∀ x ∈ l, (Lit.int k x).wf = true) : Row k w (some ⟨b, 0, none⟩) n c l := by
  have := h.row 0 n c (by omega) hc hm hw
  simpa [hn] using this
theorem wf_u8 {x : Int} : (Lit.int .u8 x).wf = true ↔ 0 ≤ x ∧ x ≤ 255 := by
  simp [Lit.wf, IntKind.min, IntKind.max, IntKind.bits, IntKind.signed]
theorem or_shl {y x : Int} {k : Nat} (hy0 : 0 ≤ y) (hy : y < 2 ^ k) (hx0 : 0 ≤ x) (hx1 : x ≤ 1) (hk : k < 64) :
    bits BinOp.or IntKind.u64 y (IntKind.u64.wrap (x * 2 ^ k)) = y + 2 ^ k * x := by
  obtain ⟨Y, rfl⟩ := Int.eq_ofNat_of_zero_le hy0
  obtain ⟨X, rfl⟩ := Int.eq_ofNat_of_zero_le hx0
  have hX : X ≤ 1 := by omega
  have hp : (2 : Nat) ^ k ≤ 2 ^ 63 := Nat.pow_le_pow_right (by decide) (by omega)
  have hYk : Y < 2 ^ k := by exact_mod_cast hy
  have hprod : X * 2 ^ k ≤ 2 ^ 63 := by
    rcases (by omega : X = 0 ∨ X = 1) with rfl | rfl <;> omega
  have hw : IntKind.u64.wrap ((X : Int) * 2 ^ k) = ((X * 2 ^ k : Nat) : Int) := by
    have e : ((X : Int) * 2 ^ k) = ((X * 2 ^ k : Nat) : Int) := by push_cast; rfl
    rw [e]
    exact IntWalk.u64_in _ (by omega)
  rw [hw, u64_or _ _ (by omega) (by omega) (by omega) (by omega)]
  have h2 := Nat.two_pow_add_eq_or_of_lt hYk X
  simp only [Int.toNat_natCast]
  rw [Nat.or_comm, Nat.mul_comm X, ← h2]
  push_cast
  omega
theorem info8 : (Tryz.prog.info? 5).map (fun i => (i.zero, i.size, i.bytes)) = some (some (.int .u8 0), 1, 1) := by kernel_rfl
theorem size8 : (Tryz.prog.info? 5).map (·.size) = some 1 := by kernel_rfl
theorem make8 (n : Nat) (hn : n ≤ 281474976710656) (w : World) :
    (Instr.makeSlice 80 (.int .i64 (n : Int)) (.int .i64 (n : Int))).run Tryz.prog w = .ok (.slice (some ⟨w.heap.size, 0, none⟩) n n) (w.alloc (.cells (madeCells #[.int .u8 0] n) 5)) :=
  run_make_row' 80 5 (.int .u8 0) 1 Tryz.underlying80 info8 rfl .i64 .i64 n (by omega) (by omega) w
theorem own_made (k : IntKind) (n t : Nat) (w : World) : Own (w.alloc (.cells (madeCells #[.int k 0] n) t)) w.heap.size t (nums k (List.replicate n 0)) := by
  unfold Own
  rw [heap_alloc_new w _]
  congr 2
  apply Array.ext
  · simp [madeCells, nums]
  · intro i h1 h2
    simp [madeCells, nums, Nat.mod_one]
theorem below_alloc (w : World) (o : Obj) : Below w.heap.size w (w.alloc o) := (Below.refl _ _).alloc (Nat.le_refl _) o
theorem and_one_u8 (x : Int) (h0 : 0 ≤ x) (h1 : x ≤ 255) : bits BinOp.and IntKind.u8 x 1 = x % 2 := by
  have h := u8_and x 1 h0 (by omega) (by decide) (by decide)
  rw [h]
  show ((x.toNat &&& 1 : Nat) : Int) = _
  rw [Nat.and_one_is_mod]
  omega
theorem bytes_take_snoc (s : ByteArray) (k : Nat) (h : k < s.size) : s.data.toList.take (k + 1) = s.data.toList.take k ++ [s[k]] := by
  rw [List.take_succ_eq_append_getElem (by simpa using h)]; rfl
theorem u8_range (c : UInt8) : 0 ≤ (c.toNat : Int) ∧ (c.toNat : Int) ≤ 255 := by have := c.toNat_lt; omega
theorem dec_ge_not (r : Int) : decide (0 ≤ r) = !decide (r < 0) := by
  by_cases h : r < 0
  · rw [decide_eq_false (by omega), decide_eq_true h]; rfl
  · rw [decide_eq_true (by omega), decide_eq_false h]; rfl
theorem Row.tail {k : IntKind} {w : World} {b o n c : Nat} {l : List Int} (h : Row k w (some ⟨b, o, none⟩) n c l) (m : Nat) (hm : m ≤ n) : Row k w (some ⟨b, o + m, none⟩) (n - m) (c - m) (l.drop m) := by
  obtain ⟨hl, hle, hmx, hw, hc, _⟩ := h
  refine ⟨by simp [hl], by omega, by omega, fun x hx => hw x (List.mem_of_mem_drop hx), ?_, by simp⟩
  rcases hc with h0 | ⟨b', o', ha, hc⟩
  · exact .inl (by omega)
  · simp at ha
    obtain ⟨rfl, rfl⟩ := ha
    refine .inr ⟨_, _, rfl, fun i hi => ?_⟩
    rw [Nat.add_assoc, hc (m + i) (by omega)]
    simp [List.getD_eq_getElem?_getD]
theorem Row.bits {w : World} {a : Option Addr} {n c : Nat} {l : List Int} (h : Row .u8 w a n c l) (hb : isBits l = true) : ∀ x ∈ l, 0 ≤ x ∧ x ≤ 1 :=
  fun x hx => ⟨(wf_u8.1 (h.wf x hx)).1, (isBits_iff l).1 hb x hx⟩
theorem wf_u64 {x : Int} : (Lit.int .u64 x).wf = true ↔ 0 ≤ x ∧ x ≤ 18446744073709551615 := by
  simp [Lit.wf, IntKind.min, IntKind.max, IntKind.bits, IntKind.signed]
theorem wf_i64 {x : Int} : (Lit.int .i64 x).wf = true ↔ -9223372036854775808 ≤ x ∧ x ≤ 9223372036854775807 := by
  simp [Lit.wf, IntKind.min, IntKind.max, IntKind.bits, IntKind.signed]
theorem ownsRow_row (k : IntKind) {w : World} {B e : Nat} {v : Value} {l : List Int} (h : w.ownsRow B e 1 v l.length (nums k l)) (hw : ∀ x ∈ l, (Lit.int k x).wf = true) :
    ∃ a c, v = .slice a l.length c ∧ Row k w a l.length c l ∧ (∀ x, a = some x → x.spot = none) := by
  rcases h.2 with ⟨rfl, h0⟩ | ⟨g, cap, cur, rfl, hb, hg, hn, hc, hs, ht⟩
  · have : l = [] := List.eq_nil_of_length_eq_zero h0
    subst this
    exact ⟨none, 0, rfl, Row.of_nil _ _, by simp⟩
  · refine ⟨_, cap, rfl, ⟨rfl, hn, hc, hw, .inr ⟨g, 0, rfl, fun i hi => ?_⟩, by simp⟩, by intro x hx; cases hx; rfl⟩
    rw [cell_of_row w g (0 + i) cur e _ hg, Nat.zero_add]
    have hh := congrArg (fun z => z[i]?) ht
    simp only [List.getElem?_take, Nat.mul_one, hi, if_true] at hh
    rw [← Array.getElem?_toList, hh]
    simp [nums, hi]
theorem ownsRow_rowN (k : IntKind) {w : World} {B e n : Nat} {v : Value} {l : List Int} (h : w.ownsRow B e 1 v n (nums k l)) (hw : ∀ x ∈ l, (Lit.int k x).wf = true) :
    ∃ a c, v = .slice a n c ∧ Row k w a n c l ∧ (∀ x, a = some x → x.spot = none) := by
  have hn : l.length = n := by have := h.1; rw [nums_length] at this; omega
  subst hn
  exact ownsRow_row k h hw
theorem Row.of_open {k : IntKind} {w : World} {a : Option Addr} {len cap : Nat} {zs : List Int}
    (h : (a = none ∧ len = 0 ∧ cap = 0 ∧ zs = []) ∨ ∃ x, a = some x ∧ len ≤ cap ∧ cap ≤ maxLen ∧ zs.length = cap ∧ (∀ i, i < zs.length → w.cell? (x.add i) = some (.int k (zs.getD i 0))) ∧ ∀ n ∈ zs, (Lit.int k n).wf = true) :
    Row k w a len cap (zs.take len) := by
  rcases h with ⟨rfl, rfl, rfl, rfl⟩ | ⟨x, rfl, hl, hm, hz, hc, hw⟩
  · exact Row.of_nil k w
  · refine ⟨by rw [List.length_take]; omega, hl, hm, fun n hn => hw n (List.mem_of_mem_take hn), ?_, by simp⟩
    by_cases h0 : len = 0
    · exact .inl h0
    · obtain ⟨b, off, spot⟩ := x
      have h1 := hc 0 (by omega)
      have hspot : spot = none := by simpa [Addr.add] using World.cell?_spot h1
      subst hspot
      refine .inr ⟨b, off, rfl, fun i hi => ?_⟩
      have h2 := hc i (by omega)
      have hadd : (⟨b, off, none⟩ : Addr).add i = ⟨b, off + i, none⟩ := by unfold Addr.add; split <;> simp_all
      rw [hadd] at h2
      rw [h2]
      simp [List.getD_eq_getElem?_getD, hi]
/-- 'append(v, x...)', v of the call's own, x a slice of numbers that came in (nil or not); the operation runs. -/
theorem wpList_append_list {P : Program} {w : World} {ops : Array Oper} {rest : List Oper} {o : Oper} {a : Act} {Q : Exit → Act → World → Prop} (hgd : Region.wanted o (yielded ops a.tmps) = true) (s x : Operand) (t : TypeId)
    (ho : o.op = .call { callee := .builtin .append, args := #[s, x], argTypes := #[t, t] })
    (base : Nat) (e : TypeId) (i : TypeInfo) (z : Value) (bytes : Nat) (ht : P.underlying t = some (.slice e)) (hi : P.info? e = some i) (hz : i.zero = some z)
    (hsize : i.size = 1) (hby : i.bytes = bytes) (hzs : z.cells.size = 1) (k : IntKind)
    (v : Value) (n : Nat) (xs : List Int) (hs : a.eval s = v) (hown : w.ownsRow base e 1 v n (nums k xs))
    (sa : Option Addr) (m c : Nat) (l : List Int) (hx : a.eval x = .slice sa m c) (hrow : Row k w sa m c l)
    (h63 : n + m ≤ maxLen) (hbytes : (n + m) * bytes ≤ 140737488355328) (hbase : base ≤ w.heap.size)
    (h : ∀ v' w', w'.ownsRow base e 1 v' (n + m) (nums k (xs ++ l)) → w.grownBy w' v.ownBlock → wpList P ops Q rest (a.put o.dst v') w') : wpList P ops Q (o :: rest) a w := by
  refine wpList_step fun K hK => ?_
  rw [if_pos hgd]
  have happ : nums k (xs ++ l) = nums k xs ++ nums k l := by simp [nums]
  rcases sa with _ | ad
  · have hc := hrow.isNil rfl
    have hm : m = 0 := by have := hrow.le; omega
    subst hc hm
    have hl : l = [] := List.eq_nil_of_length_eq_zero hrow.len
    subst hl
    have hrun := run_append_owned_none (P := P) (w := w) base t o.type e i 1 ht hi v n (nums k xs) hown
    unfold Oper.wp
    simp [execOp, ho, resolve, invoke, builtin, hs, hx, hrun, Result.andThen]
    exact hK _ _ (h v w (by simpa using hown) ⟨rfl, rfl, rfl, Nat.le_refl _, fun _ _ _ => rfl⟩)
  · refine wp_append_own w s x t ho base e i z 1 bytes ht hi hz hsize hby hzs (by decide) v n (nums k xs) hs hown ad m c (nums k l) hx (by rw [nums_length, hrow.len, Nat.mul_one]) ?_ ?_ h63 hbytes hbase
      (fun v' w' h2 h3 _ => hK _ _ (h v' w' (by rw [happ]; exact h2) h3))
    · intro j u hj
      have hjl : j < l.length := by
        have := (List.getElem?_eq_some_iff.1 hj).1
        rwa [nums_length] at this
      rcases hrow.cells with h0 | ⟨b, off, ha, hc⟩
      · rw [hrow.len] at hjl; omega
      · simp at ha
        subst ha
        have hadd : (⟨b, off, none⟩ : Addr).add j = ⟨b, off + j, none⟩ := by unfold Addr.add; split <;> simp_all
        rw [hadd, hc j (by rw [← hrow.len]; exact hjl), ← hj]
        simp [nums, hjl]
    · intro u hu
      rw [nums, List.mem_map] at hu
      obtain ⟨y, _, rfl⟩ := hu
      rfl
theorem list_eq_of_getD {l1 l2 : List Int} (hl : l1.length = l2.length) (h : ∀ i, i < l1.length → l1.getD i 0 = l2.getD i 0) : l1 = l2 := by
  apply List.ext_getElem hl
  intro i h1 h2
  have := h i h1
  simpa [List.getD_eq_getElem?_getD, h1, h2] using this
theorem below_call {w w' : World} {o : Obj} (hb : Below (w.alloc o).heap.size (w.alloc o) w') : Below w.heap.size w w' := (below_alloc w o).trans (hb.mono (by simp))
theorem below_draw (w : World) (n : Nat) : Below w.heap.size w (w.drewN n) := below_drewN (Below.refl _ _) n
theorem row_lit (k : IntKind) (w : World) (t : Nat) (l : List Int) (n : Nat) (hn : l.length = n) (h : n ≤ 1000) (hw : ∀ x ∈ l, (Lit.int k x).wf = true) :
    Row k (w.alloc (.cells (nums k l).toArray t)) (some ⟨w.heap.size, 0, none⟩) n n l := by
  have ho : Own (w.alloc (.cells (nums k l).toArray t)) w.heap.size t (nums k l) := heap_alloc_new w _
  exact ho.row0 n n hn.symm (Nat.le_refl _) (by unfold maxLen; omega) hw
theorem row_lit2 (k : IntKind) (w : World) (o : Obj) (t : Nat) (l : List Int) (n : Nat) (hn : l.length = n) (h : n ≤ 1000) (hw : ∀ x ∈ l, (Lit.int k x).wf = true) :
    Row k ((w.alloc o).alloc (.cells (nums k l).toArray t)) (some ⟨w.heap.size + 1, 0, none⟩) n n l := by
  have := row_lit k (w.alloc o) t l n hn h hw
  rwa [World.size_alloc] at this
theorem Row.front {k : IntKind} {w : World} {a : Option Addr} {n c : Nat} {l : List Int} (h : Row k w a n c l) (m : Nat) (hm : m ≤ n) : Row k w a m c (l.take m) := by
  obtain ⟨hl, hle, hmx, hw, hc, hnil⟩ := h
  refine ⟨by rw [List.length_take]; omega, by omega, hmx, fun x hx => hw x (List.mem_of_mem_take hx), ?_, hnil⟩
  rcases hc with h0 | ⟨b, o, ha, hc⟩
  · exact .inl (by omega)
  · refine .inr ⟨b, o, ha, fun i hi => ?_⟩
    rw [hc i (by omega)]
    simp [List.getD_eq_getElem?_getD, hi]
/-- A piece of a slice that came in, from p on. At p = cap the address stays (the piece is empty). -/
theorem Row.cut {k : IntKind} {w : World} {a : Option Addr} {n c : Nat} {l : List Int} (h : Row k w a n c l) (p : Nat) (hp : p ≤ n) (a' : Option Addr)
    (ha : p < n → ∀ b o, a = some ⟨b, o, none⟩ → a' = some ⟨b, o + p, none⟩) (hn' : a' = none → c = p) : Row k w a' (n - p) (c - p) (l.drop p) := by
  obtain ⟨hl, hle, hmx, hw, hc, _⟩ := h
  refine ⟨by simp [hl], by omega, by omega, fun x hx => hw x (List.mem_of_mem_drop hx), ?_, fun h => by have := hn' h; omega⟩
  by_cases hpn : p < n
  · rcases hc with h0 | ⟨b, o, rfl, hc⟩
    · exact .inl (by omega)
    · refine .inr ⟨b, o + p, ha hpn b o rfl, fun i hi => ?_⟩
      rw [Nat.add_assoc, hc (p + i) (by omega)]
      simp [List.getD_eq_getElem?_getD]
  · exact .inl (by omega)
theorem Row.cut2 {k : IntKind} {w : World} {a : Option Addr} {n c : Nat} {l : List Int} (h : Row k w a n c l) (p m : Nat) (hp : p + m ≤ n) (a' : Option Addr)
    (ha : 0 < m → ∀ b o, a = some ⟨b, o, none⟩ → a' = some ⟨b, o + p, none⟩) (hn' : a' = none → c = p) : Row k w a' m (c - p) ((l.drop p).take m) := by
  obtain ⟨hl, hle, hmx, hw, hc, _⟩ := h
  refine ⟨by rw [List.length_take, List.length_drop]; omega, by omega, by omega, fun x hx => hw x (List.mem_of_mem_drop (List.mem_of_mem_take hx)), ?_, fun h => by have := hn' h; omega⟩
  by_cases hm : 0 < m
  · rcases hc with h0 | ⟨b, o, rfl, hc⟩
    · exact .inl (by omega)
    · refine .inr ⟨b, o + p, ha hm b o rfl, fun i hi => ?_⟩
      rw [Nat.add_assoc, hc (p + i) (by omega)]
      simp [List.getD_eq_getElem?_getD, hi]
  · exact .inl (by omega)
/-- A piece of a slice that came in, from p on, m long. -/
theorem Row.piece {k : IntKind} {w : World} {b o n c : Nat} {l : List Int} (h : Row k w (some ⟨b, o, none⟩) n c l) (p m : Nat) (hp : p + m ≤ n) : Row k w (some ⟨b, o + p, none⟩) m (c - p) ((l.drop p).take m) := by
  have ht := h.tail p (by omega)
  refine ⟨by rw [List.length_take, ht.len]; omega, by have := ht.le; omega, ht.max, fun x hx => ht.wf x (List.mem_of_mem_take hx), ?_, by simp⟩
  rcases ht.cells with h0 | ⟨b', o', ha, hc⟩
  · exact .inl (by omega)
  · simp at ha
    obtain ⟨rfl, rfl⟩ := ha
    refine .inr ⟨_, _, rfl, fun i hi => ?_⟩
    rw [hc i (by omega)]
    simp [List.getD_eq_getElem?_getD, hi]
theorem wf_bits {l : List Int} (h : ∀ x ∈ l, 0 ≤ x ∧ x ≤ 1) : ∀ x ∈ l, (Lit.int .u8 x).wf = true := fun x hx => wf_u8.2 (by have := h x hx; omega)
theorem isBits_take {l : List Int} (h : isBits l = true) (k : Nat) : isBits (l.take k) = true := by
  rw [isBits_iff] at h ⊢
  intro x hx
  exact h x (List.mem_of_mem_take hx)
/-- A list without spare capacity is returned; with a second result 0. -/
def IsN (n : Nat) (l : List Int) (B : Nat) (e : Ending) (w' : World) : Prop := ∃ g, e = .returned (.slice (some ⟨g, 0, none⟩) n n) ∧ Row .u8 w' (some ⟨g, 0, none⟩) n n l ∧ B ≤ g
def IsN2 (n : Nat) (l : List Int) (B : Nat) (e : Ending) (w' : World) : Prop := ∃ g, e = .returned (.tuple #[.slice (some ⟨g, 0, none⟩) n n, .int .i64 0]) ∧ Row .u8 w' (some ⟨g, 0, none⟩) n n l ∧ B ≤ g
theorem mem_set_bits {l : List Int} (h : ∀ x ∈ l, 0 ≤ x ∧ x ≤ 1) (p : Nat) (v : Int) (hv : 0 ≤ v ∧ v ≤ 1) : ∀ x ∈ l.set p v, 0 ≤ x ∧ x ≤ 1 := by
  intro x hx
  rcases List.mem_or_eq_of_mem_set hx with h1 | h1
  · exact h x h1
  · rw [h1]; exact hv
theorem getD_bits {l : List Int} (h : ∀ x ∈ l, 0 ≤ x ∧ x ≤ 1) (p : Nat) : 0 ≤ l.getD p 0 ∧ l.getD p 0 ≤ 1 := by
  by_cases hp : p < l.length
  · have := h l[p] (List.getElem_mem hp)
    rw [List.getD_eq_getElem?_getD, List.getElem?_eq_getElem hp, Option.getD_some]; exact this
  · rw [List.getD_eq_getElem?_getD, List.getElem?_eq_none (by omega)]; simp
theorem ownsRow_own {w : World} {B e n : Nat} {v : Value} {k : IntKind} {l : List Int} (h : w.ownsRow B e 1 v n (nums k l)) (hn : 0 < n) : ∃ g c rest, v = .slice (some ⟨g, 0, none⟩) n c ∧ B ≤ g ∧ Own w g e (nums k l ++ rest) := by
  rcases h.2 with ⟨rfl, h0⟩ | ⟨g, cap, cur, rfl, hb, hg, hn', hc, hs, ht⟩
  · omega
  · refine ⟨g, cap, cur.toList.drop (n * 1), rfl, hb, ?_⟩
    unfold Own
    rw [hg, ← ht, List.take_append_drop]
def IsList (l : List Int) (e : Ending) (w' : World) : Prop := ∃ a c, e = .returned (.slice a l.length c) ∧ Row .u8 w' a l.length c l
theorem info64 : (Tryz.prog.info? 3).map (fun i => (i.zero, i.size, i.bytes)) = some (some (.int .i64 0), 1, 8) := by kernel_rfl
theorem box_cells {w : World} {b t : Nat} {V P M : Int} (h : Own w b t [.int .u64 V, .int .i64 P, .int .i64 M]) :
    w.cell? ⟨b, 0, none⟩ = some (.int .u64 V) ∧ w.cell? ⟨b, 1, none⟩ = some (.int .i64 P) ∧ w.cell? ⟨b, 2, none⟩ = some (.int .i64 M) :=
  ⟨h.cell 0 (by simp), h.cell 1 (by simp), h.cell 2 (by simp)⟩
end Go.Proofs.YthlckipcgogogaaGreatDoor
