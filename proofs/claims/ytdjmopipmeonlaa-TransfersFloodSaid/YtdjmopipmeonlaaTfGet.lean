/- Joined: TfAt TfGet. -/
import Derived.Test.YtdjmopipmeonlaaTfMap
import Derived.Test.YtdjmopipmeonlaaPcCr
import Derived.DeepKeys4
import Derived.LaidMore
import Derived.Deep.RegionLaw
import Derived.BigRegion
/- A table in memory. -/
namespace Go.Proofs.Ytdjmopipmeonlaa
set_option linter.unusedVariables false
open Go.RowKit Go.Maps

theorem law_pt : Keyed Try.prog 40 := int_keyed Try.underlying40
theorem laid_ok : laidOutB Try.prog = true := by kernel_rfl
theorem row_pair : (124 : TypeId) < Try.prog.types.size := of_decide_eq_true (by kernel_rfl)
theorem wide_pair : (match Try.prog.underlying 124 with | some (.array _ _) | some (.struct _) => true | _ => false) = true := by rw [Try.underlying124]
set_option maxRecDepth 100000 in
theorem law_pair : Keyed Try.prog 124 := Keyed.of_law (deep_law_laid laid_ok (m := 2) (by decide) row_pair (by kernel_rfl) wide_pair)
theorem wf16 {x : Int} : (Lit.int .u16 x).wf = true ↔ 0 ≤ x ∧ x ≤ 65535 := by
  simp [Lit.wf, IntKind.min, IntKind.max, IntKind.bits, IntKind.signed]
theorem key_pt {n : Int} (h : (Lit.int .u16 n).wf = true) : keyOf Try.prog 40 (.int .u16 n) = some (.int .u16 n) := keyOf_int_mk Try.underlying40 h
def pairV (n d : Int) : Value := .agg #[.int .u16 n, .int .u16 d]
theorem size_pair : Try.prog.cellsOf 124 = 2 := by kernel_rfl
theorem size_pt : Try.prog.cellsOf 40 = 1 := by kernel_rfl
theorem kt_pair : Try.prog.keyType 124 = true := by kernel_rfl
set_option maxRecDepth 100000 in
theorem types_pos : ∃ m, Try.prog.types.size = m + 1 := ⟨_, (Nat.succ_pred_eq_of_pos (Nat.lt_of_le_of_lt (Nat.zero_le _) row_pair)).symm⟩
theorem key_pair {n d : Int} (hn : (Lit.int .u16 n).wf = true) (hd : (Lit.int .u16 d).wf = true) : ∃ l, keyOf Try.prog 124 (pairV n d) = some l := by
  obtain ⟨m, hm⟩ := types_pos
  unfold keyOf pairV
  simp only [Try.underlying124]
  rw [if_pos (by simp [kt_pair, Value.formed, Try.underlying124, size_pair]), hm]
  unfold Program.keyLits
  simp only [Try.underlying124, Value.cells]
  rw [if_pos ⟨by rw [size_pair]; rfl, by kernel_rfl⟩]
  simp [size_pt, Program.keyLits, Try.underlying40, hn, hd]
theorem pairV_inj {n d n' d' : Int} (h : pairV n d = pairV n' d') : n = n' ∧ d = d' := by
  unfold pairV at h
  simpa using h
theorem zero_st (w : World) : (zeroValue 52).run Try.prog w = .ok (.int .u8 0) w := by kernel_rfl
theorem zero_bool (w : World) : (zeroValue 4).run Try.prog w = .ok (.bool false) w := by kernel_rfl
theorem zero_chs (w : World) : (zeroValue 61).run Try.prog w = .ok (.slice none 0 0) w := by kernel_rfl
/-- A record of statuses. -/
def RecAt (w : World) (b : Nat) (T : Int → Int → Int) : Prop := ∃ f, MapAt Try.prog 124 w b f ∧ ∀ n d, (Lit.int .u16 n).wf = true → (Lit.int .u16 d).wf = true → (f (pairV n d)).getD (.int .u8 0) = .int .u8 (T n d)
theorem RecAt.exc {w w' : World} {b : Nat} {T : Int → Int → Int} {S : Nat → Prop} (h : RecAt w b T) (hx : Exc S w w') (hn : ¬ S b) : RecAt w' b T := by
  obtain ⟨f, h1, h2⟩ := h; exact ⟨f, h1.exc hx hn, h2⟩
theorem RecAt.run {w : World} {b : Nat} {T : Int → Int → Int} (h : RecAt w b T) {n d : Int} (hn : (Lit.int .u16 n).wf = true) (hd : (Lit.int .u16 d).wf = true) :
    (Instr.lookup 84 (.map (some b)) (.agg #[.int .u16 n, .int .u16 d]) false).run Try.prog w = .ok (.int .u8 (T n d)) w := by
  obtain ⟨f, h1, h2⟩ := h
  obtain ⟨l, hl⟩ := key_pair hn hd
  have := h1.look law_pair Try.underlying84 (zero_st w) hl false
  rw [if_neg (by decide), h2 n d hn hd] at this
  exact this
theorem RecAt.put {w' : World} {b : Nat} {T : Int → Int → Int} {f g : Value → Option Value} (h2 : ∀ n d, (Lit.int .u16 n).wf = true → (Lit.int .u16 d).wf = true → (f (pairV n d)).getD (.int .u8 0) = .int .u8 (T n d)) {n d s : Int}
    (hg : MapAt Try.prog 124 w' b g) (h3 : (g (pairV n d)).getD (.int .u8 0) = .int .u8 s) (h4 : ∀ x, x ≠ pairV n d → g x = f x) : RecAt w' b (upd2 T n d s) := by
  refine ⟨g, hg, fun x y hx hy => ?_⟩
  by_cases e : x = n ∧ y = d
  · obtain ⟨rfl, rfl⟩ := e
    rw [upd2_same, h3]
  · rw [upd2_other e, h4 _ fun e2 => e (pairV_inj e2)]
    exact h2 x y hx hy
/-- The neighbors, and which are up. -/
def UpsAt (w : World) (b : Nat) (N : List Int) (U : Int → Bool) : Prop := ∃ f, MapAt Try.prog 40 w b f ∧ ∀ n, (Lit.int .u16 n).wf = true → f (.int .u16 n) = if n ∈ N then some (.bool (U n)) else none
theorem UpsAt.exc {w w' : World} {b : Nat} {N : List Int} {U : Int → Bool} {S : Nat → Prop} (h : UpsAt w b N U) (hx : Exc S w w') (hn : ¬ S b) : UpsAt w' b N U := by
  obtain ⟨f, h1, h2⟩ := h; exact ⟨f, h1.exc hx hn, h2⟩
theorem UpsAt.run {w : World} {b : Nat} {N : List Int} {U : Int → Bool} (h : UpsAt w b N U) {n : Int} (hn : (Lit.int .u16 n).wf = true) :
    (Instr.lookup 82 (.map (some b)) (.int .u16 n) false).run Try.prog w = .ok (.bool (decide (n ∈ N) && U n)) w := by
  obtain ⟨f, h1, h2⟩ := h
  have := h1.look law_pt Try.underlying82 (zero_bool w) (key_pt hn) false
  rw [if_neg (by decide), h2 n hn] at this
  rw [this]
  by_cases e : n ∈ N <;> simp [e]
theorem UpsAt.run_ok {w : World} {b : Nat} {N : List Int} {U : Int → Bool} (h : UpsAt w b N U) {n : Int} (hn : (Lit.int .u16 n).wf = true) :
    (Instr.lookup 82 (.map (some b)) (.int .u16 n) true).run Try.prog w = .ok (.tuple #[.bool (decide (n ∈ N) && U n), .bool (decide (n ∈ N))]) w := by
  obtain ⟨f, h1, h2⟩ := h
  have := h1.look law_pt Try.underlying82 (zero_bool w) (key_pt hn) true
  rw [if_pos rfl, h2 n hn] at this
  rw [this]
  by_cases e : n ∈ N <;> simp [e]
/-- The choices: the slice at each destination. -/
def ChsAt (w : World) (b : Nat) (D : List Int) (C : Int → Value) : Prop := ∃ f, MapAt Try.prog 40 w b f ∧ ∀ n, (Lit.int .u16 n).wf = true → f (.int .u16 n) = if n ∈ D then some (C n) else none
theorem ChsAt.exc {w w' : World} {b : Nat} {D : List Int} {C : Int → Value} {S : Nat → Prop} (h : ChsAt w b D C) (hx : Exc S w w') (hn : ¬ S b) : ChsAt w' b D C := by
  obtain ⟨f, h1, h2⟩ := h; exact ⟨f, h1.exc hx hn, h2⟩
theorem ChsAt.run {w : World} {b : Nat} {D : List Int} {C : Int → Value} (h : ChsAt w b D C) {n : Int} (hn : (Lit.int .u16 n).wf = true) {v : Value} (hv : (n ∈ D ∧ C n = v) ∨ (n ∉ D ∧ v = .slice none 0 0)) :
    (Instr.lookup 81 (.map (some b)) (.int .u16 n) false).run Try.prog w = .ok v w := by
  obtain ⟨f, h1, h2⟩ := h
  have := h1.look law_pt Try.underlying81 (zero_chs w) (key_pt hn) false
  rw [if_neg (by decide), h2 n hn] at this
  rw [this]
  rcases hv with ⟨h3, rfl⟩ | ⟨h3, rfl⟩ <;> simp [h3]
theorem ChsAt.run_ok {w : World} {b : Nat} {D : List Int} {C : Int → Value} (h : ChsAt w b D C) {n : Int} (hn : (Lit.int .u16 n).wf = true) :
    ∃ v, (Instr.lookup 81 (.map (some b)) (.int .u16 n) true).run Try.prog w = .ok (.tuple #[v, .bool (decide (n ∈ D))]) w := by
  obtain ⟨f, h1, h2⟩ := h
  have := h1.look law_pt Try.underlying81 (zero_chs w) (key_pt hn) true
  rw [if_pos rfl, h2 n hn] at this
  by_cases e : n ∈ D
  · exact ⟨C n, by rw [this]; simp [e]⟩
  · exact ⟨.slice none 0 0, by rw [this]; simp [e]⟩
/-- Where a table's parts lie: all of them below hi. -/
structure Tl where
  tb : Nat
  aN : Option Addr
  cN : Nat
  aD : Option Addr
  cD : Nat
  bc : Nat
  bu : Nat
  bt : Nat
  bs : Nat
  ch : Int → Value
  hi : Nat
def tbCells (y : Tl) (T : Tb) : List Value := [.int .u16 T.me, .bool T.tr, .slice y.aN T.N.length y.cN, .slice y.aD T.D.length y.cD, .map (some y.bc), .map (some y.bu), .map (some y.bt), .map (some y.bs)]
/-- What is said of a table's lists and numbers. -/
structure TbWf (T : Tb) : Prop where
  me : (Lit.int .u16 T.me).wf = true
  nodN : T.N.Nodup
  nodD : T.D.Nodup
  lenN : T.N.length ≤ 1024
  lenD : T.D.length ≤ 64
  lenC : ∀ d, d ∈ T.D → (T.C d).length ≤ 1024
  chwf : ∀ d, d ∈ T.D → ∀ c ∈ T.C d, (Lit.int .u16 c.1).wf = true
  told : ∀ x y, 0 ≤ T.told x y ∧ T.told x y ≤ 2
/-- What never changes. -/
structure TbFix (w : World) (y : Tl) (T : Tb) : Prop where
  own : Own w y.tb 86 (tbCells y T)
  nrow : Row .u16 w y.aN T.N.length y.cN T.N
  drow : Row .u16 w y.aD T.D.length y.cD T.D
  chs : ChsAt w y.bc T.D y.ch
  crow : ∀ d, d ∈ T.D → ∃ a, y.ch d = .slice a (T.C d).length (T.C d).length ∧ CRow w a (T.C d).length (T.C d).length (T.C d) ∧ (0 < (T.C d).length → ∀ z, a = some z → z.block < y.hi)
  hN : 0 < T.N.length → ∀ z, y.aN = some z → z.block < y.hi
  hD : 0 < T.D.length → ∀ z, y.aD = some z → z.block < y.hi
  hb : y.tb < y.hi ∧ y.bc < y.hi ∧ y.bu < y.hi ∧ y.bt < y.hi ∧ y.bs < y.hi
  hi : y.hi ≤ w.heap.size
  apart : y.bc ≠ y.bu ∧ y.bc ≠ y.bt ∧ y.bc ≠ y.bs ∧ y.bu ≠ y.bt ∧ y.bu ≠ y.bs ∧ y.bt ≠ y.bs
structure TbAt (w : World) (y : Tl) (T : Tb) : Prop where
  fix : TbFix w y T
  wf : TbWf T
  ups : UpsAt w y.bu T.N T.up
  tol : RecAt w y.bt T.told
  sai : RecAt w y.bs T.said
/-- The blocks that a table's methods write. -/
def Mut (y : Tl) : Nat → Prop := fun k => k = y.bu ∨ k = y.bt ∨ k = y.bs
/-- A block that holds an entry of a row is no map's. -/
theorem cell_map {w : World} {p : Addr} {v : Value} (h : w.cell? p = some v) {es : Array MapEntry} {clock : Nat} (hb : w.heap[p.block]? = some (.map es clock)) : False := by
  unfold World.cell? at h; rw [hb] at h; cases h
/-- The blocks of S are above the table's, or maps that are none of its own. -/
def Off (S : Nat → Prop) (w : World) (y : Tl) : Prop := ∀ k, S k → k < w.heap.size → y.hi ≤ k ∨ ((∃ es clock, w.heap[k]? = some (.map es clock)) ∧ k ≠ y.bc ∧ k ≠ y.bu ∧ k ≠ y.bt ∧ k ≠ y.bs)
theorem Off.none (w : World) (y : Tl) : Off (fun _ => False) w y := fun _ h => h.elim
theorem Exc.cells {S : Nat → Prop} {w w' : World} {hi : Nat} (hx : Exc S w w') (hS : ∀ k, S k → k < w.heap.size → hi ≤ k ∨ ∃ es clock, w.heap[k]? = some (.map es clock)) {p : Addr} {v : Value} (hp : p.block < hi) (h : w.cell? p = some v) : w'.cell? p = some v := by
  have hlt := World.block_lt_of_cell? w _ h
  refine hx.cell h fun hs => ?_
  rcases hS _ hs hlt with h1 | ⟨es, clock, h1⟩
  · omega
  · exact cell_map h h1
theorem row_cells {S : Nat → Prop} {k : IntKind} {w w' : World} {a : Option Addr} {n c : Nat} {l : List Int} {hi : Nat} (hr : Row k w a n c l) (hx : Exc S w w') (hS : ∀ k, S k → k < w.heap.size → hi ≤ k ∨ ∃ es clock, w.heap[k]? = some (.map es clock)) (ha : 0 < n → ∀ z, a = some z → z.block < hi) : Row k w' a n c l := by
  refine ⟨hr.len, hr.le, hr.max, hr.wf, ?_, hr.isNil⟩
  rcases Nat.eq_zero_or_pos n with h0 | h0
  · exact .inl h0
  · have ha := ha h0
    obtain ⟨b', off, he, hc⟩ := hr.cells.resolve_left (by omega)
    exact .inr ⟨b', off, he, fun i hi' => hx.cells hS (show b' < hi from ha _ he) (hc i hi')⟩
theorem crow_cells {S : Nat → Prop} {w w' : World} {a : Option Addr} {n c : Nat} {X : List (Int × Int)} {hi : Nat} (hr : CRow w a n c X) (hx : Exc S w w') (hS : ∀ k, S k → k < w.heap.size → hi ≤ k ∨ ∃ es clock, w.heap[k]? = some (.map es clock)) (ha : 0 < n → ∀ z, a = some z → z.block < hi) : CRow w' a n c X := by
  refine ⟨hr.len, hr.le, hr.max, ?_⟩
  rcases Nat.eq_zero_or_pos n with h0 | h0
  · exact .inl h0
  · have ha := ha h0
    obtain ⟨b', off, he, hc⟩ := hr.cells.resolve_left (by omega)
    exact .inr ⟨b', off, he, fun i hi' => ⟨hx.cells hS (show b' < hi from ha _ he) (hc i hi').1, hx.cells hS (show b' < hi from ha _ he) (hc i hi').2⟩⟩
theorem own_map {w : World} {b t : Nat} {cs : List Value} (h : Own w b t cs) {es : Array MapEntry} {clock : Nat} (hb : w.heap[b]? = some (.map es clock)) : False := by
  unfold Own at h; rw [hb] at h; cases h
theorem TbFix.exc {S : Nat → Prop} {w w' : World} {y : Tl} {T : Tb} (h : TbFix w y T) (hx : Exc S w w') (hS : ∀ k, S k → k < w.heap.size → y.hi ≤ k ∨ ((∃ es clock, w.heap[k]? = some (.map es clock)) ∧ k ≠ y.bc)) : TbFix w' y T := by
  have hS2 : ∀ k, S k → k < w.heap.size → y.hi ≤ k ∨ ∃ es clock, w.heap[k]? = some (.map es clock) := fun k hk hl => (hS k hk hl).imp id fun h => h.1
  obtain ⟨b1, b2, b3, b4, b5⟩ := h.hb
  refine ⟨?_, row_cells h.nrow hx hS2 h.hN, row_cells h.drow hx hS2 h.hD, h.chs.exc hx fun hs => ?_, fun d hd => ?_, h.hN, h.hD, h.hb, Nat.le_trans h.hi hx.size, h.apart⟩
  · have hl := h.own.lt
    unfold Own
    rw [hx.block _ hl fun hs => ?_]
    · exact h.own
    · rcases hS2 _ hs hl with h1 | ⟨es, clock, h1⟩
      · omega
      · exact own_map h.own h1
  · rcases hS _ hs (Nat.lt_of_lt_of_le b2 h.hi) with h1 | ⟨_, h1⟩
    · omega
    · exact h1 rfl
  · obtain ⟨a, e1, e2, e3⟩ := h.crow d hd
    exact ⟨a, e1, crow_cells e2 hx hS2 e3, e3⟩
theorem TbAt.exc {S : Nat → Prop} {w w' : World} {y : Tl} {T : Tb} (h : TbAt w y T) (hx : Exc S w w') (hS : Off S w y) : TbAt w' y T := by
  obtain ⟨b1, b2, b3, b4, b5⟩ := h.fix.hb
  have hh := h.fix.hi
  have far : ∀ k, k < y.hi → (k = y.bu ∨ k = y.bt ∨ k = y.bs) → ¬ S k := fun k hk hw hs => by
    rcases hS k hs (Nat.lt_of_lt_of_le hk hh) with h1 | ⟨_, _, h2, h3, h4⟩
    · omega
    · rcases hw with e | e | e
      · exact h2 e
      · exact h3 e
      · exact h4 e
  exact ⟨h.fix.exc hx fun k hk hl => (hS k hk hl).imp id fun h => ⟨h.1, h.2.1⟩, h.wf, h.ups.exc hx (far _ b3 (.inl rfl)), h.tol.exc hx (far _ b4 (.inr (.inl rfl))), h.sai.exc hx (far _ b5 (.inr (.inr rfl)))⟩
theorem TbAt.below {w w' : World} {y : Tl} {T : Tb} (h : TbAt w y T) (hb : Below w.heap.size w w') : TbAt w' y T := h.exc (S := fun _ => False) (Exc.of_below hb) (Off.none w y)
theorem TbAt.drew {w : World} {y : Tl} {T : Tb} (h : TbAt w y T) : TbAt w.drew y T := h.below (below_draw w 1)
theorem TbAt.cells {w : World} {y : Tl} {T : Tb} (h : TbAt w y T) : w.cell? ⟨y.tb, 0, none⟩ = some (.int .u16 T.me) ∧ w.cell? ⟨y.tb, 1, none⟩ = some (.bool T.tr) ∧ w.cell? ⟨y.tb, 2, none⟩ = some (.slice y.aN T.N.length y.cN) ∧ w.cell? ⟨y.tb, 3, none⟩ = some (.slice y.aD T.D.length y.cD) ∧
    w.cell? ⟨y.tb, 4, none⟩ = some (.map (some y.bc)) ∧ w.cell? ⟨y.tb, 5, none⟩ = some (.map (some y.bu)) ∧ w.cell? ⟨y.tb, 6, none⟩ = some (.map (some y.bt)) ∧ w.cell? ⟨y.tb, 7, none⟩ = some (.map (some y.bs)) := by
  have h0 := h.fix.own
  exact ⟨h0.cell 0 (by simp [tbCells]), h0.cell 1 (by simp [tbCells]), h0.cell 2 (by simp [tbCells]), h0.cell 3 (by simp [tbCells]), h0.cell 4 (by simp [tbCells]), h0.cell 5 (by simp [tbCells]), h0.cell 6 (by simp [tbCells]), h0.cell 7 (by simp [tbCells])⟩
theorem UpsAt.map {w : World} {b : Nat} {N : List Int} {U : Int → Bool} (h : UpsAt w b N U) : ∃ es clock, w.heap[b]? = some (.map es clock) := by obtain ⟨f, h, _⟩ := h; exact h.map
theorem RecAt.map {w : World} {b : Nat} {T : Int → Int → Int} (h : RecAt w b T) : ∃ es clock, w.heap[b]? = some (.map es clock) := by obtain ⟨f, h, _⟩ := h; exact h.map
/-- The methods of one table leave another one alone. -/
theorem TbAt.off {w : World} {y z : Tl} {T U : Tb} (h : TbAt w y T) (_g : TbAt w z U) (hd : ∀ k, Mut y k → k ≠ z.bc ∧ k ≠ z.bu ∧ k ≠ z.bt ∧ k ≠ z.bs) : Off (Mut y) w z := fun k hk _ => by
  refine .inr ⟨?_, (hd k hk)⟩
  rcases hk with rfl | rfl | rfl
  · exact h.ups.map
  · exact h.tol.map
  · exact h.sai.map
theorem TbFix.with {w : World} {y : Tl} {T : Tb} (h : TbFix w y T) (U : Int → Bool) (t s : Int → Int → Int) : TbFix w y ⟨T.me, T.tr, T.N, T.D, T.C, U, t, s⟩ := ⟨h.own, h.nrow, h.drow, h.chs, h.crow, h.hN, h.hD, h.hb, h.hi, h.apart⟩
theorem TbWf.with {T : Tb} (h : TbWf T) (U : Int → Bool) (t s : Int → Int → Int) (ht : ∀ x y, 0 ≤ t x y ∧ t x y ≤ 2) : TbWf ⟨T.me, T.tr, T.N, T.D, T.C, U, t, s⟩ := ⟨h.me, h.nodN, h.nodD, h.lenN, h.lenD, h.lenC, h.chwf, ht⟩
/-- One of the table's own maps has changed. -/
theorem TbAt.newUps {w w' : World} {y : Tl} {T : Tb} (h : TbAt w y T) (hx : Exc (fun k => k = y.bu) w w') {U : Int → Bool} (hU : UpsAt w' y.bu T.N U) : TbAt w' y { T with up := U } :=
  ⟨(h.fix.exc hx fun k hk _ => by subst hk; exact .inr ⟨h.ups.map, h.fix.apart.1.symm⟩).with _ _ _, h.wf.with _ _ _ h.wf.told, hU, h.tol.exc hx h.fix.apart.2.2.2.1.symm, h.sai.exc hx h.fix.apart.2.2.2.2.1.symm⟩
theorem TbAt.newTol {w w' : World} {y : Tl} {T : Tb} (h : TbAt w y T) (hx : Exc (fun k => k = y.bt) w w') {U : Int → Int → Int} (hw : ∀ a b, 0 ≤ U a b ∧ U a b ≤ 2) (hU : RecAt w' y.bt U) : TbAt w' y { T with told := U } :=
  ⟨(h.fix.exc hx fun k hk _ => by subst hk; exact .inr ⟨h.tol.map, h.fix.apart.2.1.symm⟩).with _ _ _, h.wf.with _ _ _ hw, h.ups.exc hx h.fix.apart.2.2.2.1, hU, h.sai.exc hx h.fix.apart.2.2.2.2.2.symm⟩
theorem TbAt.newSai {w w' : World} {y : Tl} {T : Tb} (h : TbAt w y T) (hx : Exc (fun k => k = y.bs) w w') {U : Int → Int → Int} (hU : RecAt w' y.bs U) : TbAt w' y { T with said := U } :=
  ⟨(h.fix.exc hx fun k hk _ => by subst hk; exact .inr ⟨h.sai.map, h.fix.apart.2.2.1.symm⟩).with _ _ _, h.wf.with _ _ _ h.wf.told, h.ups.exc hx h.fix.apart.2.2.2.2.1, h.tol.exc hx h.fix.apart.2.2.2.2.2, hU⟩
theorem excMut {y : Tl} {w w' : World} {b : Nat} (h : Exc (fun k => k = b) w w') (hb : b = y.bu ∨ b = y.bt ∨ b = y.bs) : Exc (Mut y) w w' := h.weak fun i _ hi => by subst hi; exact hb
theorem excMut_trans {y : Tl} {a b c : World} (h : Exc (Mut y) a b) (k : Exc (Mut y) b c) : Exc (Mut y) a c := h.trans k fun _ _ h => h
theorem excMut_below {y : Tl} {a b c : World} (h : Exc (Mut y) a b) (k : Below b.heap.size b c) : Exc (Mut y) a c := h.trans (Exc.of_below (S := Mut y) k) fun _ _ h => h
theorem excMut_draw {y : Tl} {a b : World} (h : Exc (Mut y) a b) (q : Nat) : Exc (Mut y) a (b.drewN q) := h.drawN q
end Go.Proofs.Ytdjmopipmeonlaa
/- What a table's methods read: isEmpty, isNeighbor, isDestination, checkNeighbor, statusBy. -/
namespace Go.Proofs.Ytdjmopipmeonlaa
set_option linter.unusedVariables false
open Go.RowKit Go.Maps

theorem eqlSome (bm : Nat) (w : World) : (binOp .eql 81 (.map (some bm)) (.map none)).run Try.prog w = .ok (.bool false) w := by kernel_rfl
theorem eqlNil (w : World) : (binOp .eql 81 (.map none) (.map none)).run Try.prog w = .ok (.bool true) w := by kernel_rfl
/-- A nil table, or the zero one. -/
def Nul (w : World) (a : Option Addr) : Prop := a = none ∨ ∃ b, a = some ⟨b, 0, none⟩ ∧ w.cell? ⟨b, 4, none⟩ = some (.map none)
theorem Nul.later {w w' : World} {a : Option Addr} (h : Nul w a) (hb : Below w.heap.size w w') : Nul w' a := by
  rcases h with h | ⟨b, h1, h2⟩
  · exact .inl h
  · exact .inr ⟨b, h1, by rw [hb.cell (p := ⟨b, 4, none⟩) (by exact World.block_lt_of_cell? w _ h2)]; exact h2⟩
set_option maxRecDepth 100000 in
theorem isEmpty_nul (a : Option Addr) (w : World) (h : Nul w a) : Calls Try.prog 35 #[.pointer a] w fun e w' => e = .returned (.bool true) ∧ w = w' := by
  rcases h with rfl | ⟨b, rfl, hc⟩
  · go_enter Try.func35, Try.ntmps35
    go_wp2
    go_ret
    exact ⟨rfl, rfl⟩
  · have hq1 := eqlNil w
    go_enter Try.func35, Try.ntmps35
    go_wp2
    go_ret
    exact ⟨rfl, rfl⟩
set_option maxRecDepth 100000 in
theorem isEmpty_any {y : Tl} {T : Tb} (w : World) (h : TbAt w y T) : Calls Try.prog 35 #[.pointer (some ⟨y.tb, 0, none⟩)] w fun e w' => e = .returned (.bool false) ∧ w = w' := by
  obtain ⟨g0, g1, g2, g3, g4, g5, g6, g7⟩ := h.cells
  have hq1 := eqlSome y.bc w
  clear h
  go_enter Try.func35, Try.ntmps35
  go_wp2
  go_ret
  exact ⟨rfl, rfl⟩
set_option maxRecDepth 100000 in
theorem isNeighbor_any {y : Tl} {T : Tb} (n : Int) (w : World) (h : TbAt w y T) (hn : (Lit.int .u16 n).wf = true) : Calls Try.prog 60 #[.pointer (some ⟨y.tb, 0, none⟩), .int .u16 n] w fun e w' => e = .returned (.bool (decide (n ∈ T.N))) ∧ Below w.heap.size w w' := by
  obtain ⟨g0, g1, g2, g3, g4, g5, g6, g7⟩ := h.cells
  have hr := h.ups.run_ok hn
  have hr2 := (h.below (below_alloc w (.cells #[.bool false] 4))).ups.run_ok hn
  obtain ⟨q, hq⟩ : ∃ q, q = decide (n ∈ T.N) := ⟨_, rfl⟩
  obtain ⟨r, hrr⟩ : ∃ r, r = (q && T.up n) := ⟨_, rfl⟩
  rw [← hq, ← hrr] at hr hr2
  rw [← hq]
  clear hq hrr h hn
  go_enter Try.func60, Try.ntmps60
  go_wp2
  go_ret
  exact ⟨rfl, Below.refl _ _⟩
set_option maxRecDepth 100000 in
theorem isDestination_same {y : Tl} {T : Tb} (n : Int) (w : World) (h : TbAt w y T) (hn : (Lit.int .u16 n).wf = true) : Calls Try.prog 36 #[.pointer (some ⟨y.tb, 0, none⟩), .int .u16 n] w fun e w' => e = .returned (.bool (decide (n ∈ T.D))) ∧ w = w' := by
  obtain ⟨g0, g1, g2, g3, g4, g5, g6, g7⟩ := h.cells
  obtain ⟨v, hr⟩ := h.fix.chs.run_ok hn
  obtain ⟨q, hq⟩ : ∃ q, q = decide (n ∈ T.D) := ⟨_, rfl⟩
  rw [← hq] at hr
  rw [← hq]
  clear hq h hn
  go_enter Try.func36, Try.ntmps36
  go_wp2
  go_ret
  exact ⟨rfl, rfl⟩
theorem isDestination_any {y : Tl} {T : Tb} (n : Int) (w : World) (h : TbAt w y T) (hn : (Lit.int .u16 n).wf = true) : Calls Try.prog 36 #[.pointer (some ⟨y.tb, 0, none⟩), .int .u16 n] w fun e w' => e = .returned (.bool (decide (n ∈ T.D))) ∧ Below w.heap.size w w' :=
  (isDestination_same n w h hn).mono fun _ _ h => ⟨h.1, h.2 ▸ Below.refl _ _⟩
set_option maxRecDepth 100000 in
theorem check_nul (a : Option Addr) (n : Int) (w : World) (h : Nul w a) : Calls Try.prog 43 #[.pointer a, .int .u16 n] w fun e w' => e = .returned (.int .i64 2) ∧ w = w' := by
  have HE := Lib.hid (isEmpty_nul a w h)
  clear h
  go_enter Try.func43, Try.ntmps43
  go_wp2_with fail
  with_reducible refine HE.out.mono ?_
  rintro e w' ⟨rfl, rfl⟩
  go_wp2
  go_ret
  exact ⟨rfl, rfl⟩
set_option maxRecDepth 100000 in
theorem check_any {y : Tl} {T : Tb} (n : Int) (w : World) (h : TbAt w y T) (hn : (Lit.int .u16 n).wf = true) : Calls Try.prog 43 #[.pointer (some ⟨y.tb, 0, none⟩), .int .u16 n] w fun e w' => e = .returned (.int .i64 (if n ∈ T.N then 0 else 7)) ∧ Below w.heap.size w w' := by
  have HE := Lib.hid (isEmpty_any w h)
  have hN := isNeighbor_any n w h hn
  clear h hn
  by_cases hq : n ∈ T.N
  · rw [decide_eq_true hq] at hN
    rw [if_pos hq]
    have HN := Lib.hid hN
    clear hN hq
    go_enter Try.func43, Try.ntmps43
    go_wp2_with fail
    with_reducible refine HE.out.mono ?_
    rintro e w' ⟨rfl, rfl⟩
    go_wp2_with fail
    with_reducible refine HN.out.mono ?_
    rintro e w' ⟨rfl, hb⟩
    have HB := Lib.hid hb
    clear hb
    go_wp2
    go_ret
    exact ⟨rfl, HB.out⟩
  · rw [decide_eq_false hq] at hN
    rw [if_neg hq]
    have HN := Lib.hid hN
    clear hN hq
    go_enter Try.func43, Try.ntmps43
    go_wp2_with fail
    with_reducible refine HE.out.mono ?_
    rintro e w' ⟨rfl, rfl⟩
    go_wp2_with fail
    with_reducible refine HN.out.mono ?_
    rintro e w' ⟨rfl, hb⟩
    have HB := Lib.hid hb
    clear hb
    go_wp2
    go_ret
    exact ⟨rfl, HB.out⟩
set_option maxRecDepth 100000 in
theorem statusBy_any {y : Tl} {T : Tb} (n d : Int) (w : World) (h : TbAt w y T) (hn : (Lit.int .u16 n).wf = true) (hd : (Lit.int .u16 d).wf = true) : Calls Try.prog 38 #[.pointer (some ⟨y.tb, 0, none⟩), .int .u16 n, .int .u16 d] w fun e w' => e = .returned (.int .u8 (T.byN n d)) ∧ w = w' := by
  obtain ⟨g0, g1, g2, g3, g4, g5, g6, g7⟩ := h.cells
  have hr := h.ups.run hn
  have ht := h.tol.run hn hd
  have hb : (decide (n ∈ T.N) && T.up n) = T.isUp n := rfl
  rw [hb] at hr
  unfold Tb.byN
  obtain ⟨q, hq⟩ : ∃ q, q = T.isUp n := ⟨_, rfl⟩
  rw [← hq] at hr
  rw [← hq]
  clear hb hq h hn hd
  cases q
  · go_enter Try.func38, Try.ntmps38
    go_wp2
    go_ret
    exact ⟨rfl, rfl⟩
  · go_enter Try.func38, Try.ntmps38
    go_wp2
    go_ret
    exact ⟨rfl, rfl⟩
end Go.Proofs.Ytdjmopipmeonlaa
