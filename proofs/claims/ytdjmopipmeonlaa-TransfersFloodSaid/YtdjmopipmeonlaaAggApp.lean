/- Joined: PlN PlAt PlCells AggApp. -/
import Derived.Test.YtdjmopipmeonlaaPlWay
import Derived.Test.YtdjmopipmeonlaaTfMap
import Derived.Test.YtdjmopipmeonlaaPcCr
/- The statements' plans: what N.Of returns, as plain data, is valid. -/
namespace Go.Proofs.Ytdjmopipmeonlaa
set_option linter.unusedVariables false

/-- The statements' data of a plan. -/
structure Nn where
  many : Nat
  codes : List Nat
  ends : Nat
  tree : List Nat
  extra : List (Nat × Nat × Nat)
  rate : Nat
  room : Nat
  k0 : Nat
  k1 : Nat
def Nn.n (x : Nn) : Nat := 2 + x.many % 5
def placeN (x : Nn) (i : Nat) : Int × Bool := (10 * (i : Int) + ((x.codes.getD i 0 % 10 : Nat) : Int), decide (x.ends / 2 ^ i % 2 = 0))
def placesN (x : Nn) (k : Nat) : List (Int × Bool) := (List.range k).map (placeN x)
theorem placesN_succ (x : Nn) (k : Nat) : placesN x (k + 1) = placesN x k ++ [placeN x k] := by simp [placesN, List.range_succ]
theorem placesN_length (x : Nn) (k : Nat) : (placesN x k).length = k := by simp [placesN]
theorem placesN_pc (x : Nn) {k i : Nat} (h : i < k) : pc (placesN x k) i = 10 * (i : Int) + ((x.codes.getD i 0 % 10 : Nat) : Int) := by
  simp [pc, placesN, placeN, List.getD_eq_getElem?_getD, h]
theorem placesN_pt (x : Nn) {k i : Nat} (h : i < k) : pt (placesN x k) i = decide (x.ends / 2 ^ i % 2 = 0) := by
  simp [pt, placesN, placeN, List.getD_eq_getElem?_getD, h]
theorem placesN_lt (x : Nn) {k i j : Nat} (h : i < j) (hj : j < k) : pc (placesN x k) i < pc (placesN x k) j := by
  rw [placesN_pc x (by omega), placesN_pc x hj]; omega
theorem placesN_range (x : Nn) {k i : Nat} (h : i < k) (hk : k ≤ 6) : 0 ≤ pc (placesN x k) i ∧ pc (placesN x k) i ≤ 59 := by
  rw [placesN_pc x h]; omega
/-- A line between the places a and b is put in order. -/
def putN (P : List (Int × Bool)) (L : List Ln) (a b d : Nat) : List Ln := addL L (pc P (min a b)) (pc P (max a b)) (1 + ((d % 3 : Nat) : Int))
/-- The lines after the places before k. -/
def treeN (x : Nn) : Nat → List Ln
  | 0 => []
  | k + 1 => if k = 0 then [] else putN (placesN x x.n) (treeN x k) k (x.tree.getD k 0 % k) (x.tree.getD k 0 / 16)
/-- And after j further ones. -/
def extraN (x : Nn) : Nat → List Ln
  | 0 => treeN x x.n
  | j + 1 =>
    if (x.extra.getD j (0, 0, 0)).1 % x.n = (x.extra.getD j (0, 0, 0)).2.1 % x.n then extraN x j
    else putN (placesN x x.n) (extraN x j) ((x.extra.getD j (0, 0, 0)).1 % x.n) ((x.extra.getD j (0, 0, 0)).2.1 % x.n) (x.extra.getD j (0, 0, 0)).2.2
def linesN (x : Nn) : List Ln := extraN x (min x.extra.length 6)
def Nn.rm (x : Nn) : Nat := 3 + x.room % 6
def Nn.mk0 (x : Nn) : Nat := 1 + x.k0 % (x.rm - 2)
def Nn.mk1 (x : Nn) : Nat := x.mk0 + 1 + x.k1 % (x.rm - 1 - x.mk0)
def planN (x : Nn) : Pn := ⟨placesN x x.n, linesN x, 1 + ((x.rate % 3 : Nat) : Int), x.rm, x.mk0, x.mk1, x.rm⟩
/-- What holds of the lines of such a plan. -/
structure LnsOk (P : List (Int × Bool)) (L : List Ln) : Prop where
  fine : Fine L
  ends : ∀ l ∈ L, ∃ a b, a < b ∧ b < P.length ∧ l.A = pc P a ∧ l.B = pc P b
  delay : ∀ l ∈ L, 1 ≤ l.D ∧ l.D ≤ 3
  code : ∀ l ∈ L, 0 ≤ l.C
theorem LnsOk.nil (P : List (Int × Bool)) : LnsOk P [] := ⟨Fine.nil, by simp, by simp, by simp⟩
theorem LnsOk.put {P : List (Int × Bool)} {L : List Ln} (h : LnsOk P L) {a b : Nat} (d : Nat) (ha : a < P.length) (hb : b < P.length) (hne : a ≠ b) : LnsOk P (putN P L a b d) := by
  refine ⟨h.fine.add _ _ _, fun l hl => ?_, fun l hl => ?_, fun l hl => ?_⟩ <;> rcases mem_addL hl with hl | rfl
  · exact h.ends l hl
  · exact ⟨min a b, max a b, by omega, by omega, rfl, rfl⟩
  · exact h.delay l hl
  · constructor <;> simp only <;> omega
  · exact h.code l hl
  · simp only; omega
theorem putN_length (P : List (Int × Bool)) (L : List Ln) (a b d : Nat) : (putN P L a b d).length = L.length + 1 := addL_length _ _ _ _
theorem Nn.n_range (x : Nn) : 2 ≤ x.n ∧ x.n ≤ 6 := by unfold Nn.n; omega
theorem treeN_ok (x : Nn) : ∀ k, k ≤ x.n → LnsOk (placesN x x.n) (treeN x k) ∧ (treeN x k).length = k - 1
  | 0, _ => ⟨LnsOk.nil _, rfl⟩
  | k + 1, hk => by
    unfold treeN
    split
    · rename_i h; subst h; exact ⟨LnsOk.nil _, rfl⟩
    · rename_i h
      obtain ⟨h1, h2⟩ := treeN_ok x k (by omega)
      have hm : x.tree.getD k 0 % k < k := Nat.mod_lt _ (by omega)
      exact ⟨h1.put _ (by rw [placesN_length]; omega) (by rw [placesN_length]; omega) (by omega), by rw [putN_length, h2]; omega⟩
theorem extraN_ok (x : Nn) : ∀ j, LnsOk (placesN x x.n) (extraN x j) ∧ (extraN x j).length ≤ 5 + j
  | 0 => by
    obtain ⟨h1, h2⟩ := treeN_ok x x.n (Nat.le_refl _)
    have := x.n_range
    exact ⟨h1, by show (treeN x x.n).length ≤ _; omega⟩
  | j + 1 => by
    obtain ⟨h1, h2⟩ := extraN_ok x j
    unfold extraN
    split
    · exact ⟨h1, by omega⟩
    · rename_i h
      have hn := x.n_range
      have m1 : (x.extra.getD j (0, 0, 0)).1 % x.n < x.n := Nat.mod_lt _ (by omega)
      have m2 : (x.extra.getD j (0, 0, 0)).2.1 % x.n < x.n := Nat.mod_lt _ (by omega)
      exact ⟨h1.put _ (by rw [placesN_length]; exact m1) (by rw [placesN_length]; exact m2) h, by rw [putN_length]; omega⟩
theorem linesN_ok (x : Nn) : LnsOk (placesN x x.n) (linesN x) ∧ (linesN x).length ≤ 11 := by
  obtain ⟨h1, h2⟩ := extraN_ok x (min x.extra.length 6)
  exact ⟨h1, by unfold linesN; omega⟩
theorem Nn.marks (x : Nn) : 1 ≤ x.mk0 ∧ x.mk0 < x.mk1 ∧ x.mk1 < x.rm ∧ 3 ≤ x.rm ∧ x.rm ≤ 8 := by
  have h0 : 3 ≤ x.rm ∧ x.rm ≤ 8 := by unfold Nn.rm; omega
  have h1 : x.k0 % (x.rm - 2) < x.rm - 2 := Nat.mod_lt _ (by omega)
  have h2 : x.mk0 = 1 + x.k0 % (x.rm - 2) := rfl
  have h3 : x.k1 % (x.rm - 1 - x.mk0) < x.rm - 1 - x.mk0 := Nat.mod_lt _ (by omega)
  have h4 : x.mk1 = x.mk0 + 1 + x.k1 % (x.rm - 1 - x.mk0) := rfl
  omega
theorem planN_asc (x : Nn) : Asc (planN x).P := fun i j hij hj => placesN_lt x hij (by simpa [planN, placesN_length] using hj)
theorem planN_valid (x : Nn) : ValidPl (planN x) := by
  have hn := x.n_range
  have hlen : (planN x).P.length = x.n := placesN_length x x.n
  obtain ⟨hl, hll⟩ := linesN_ok x
  have hL : (planN x).L = linesN x := rfl
  have hP : (planN x).P = placesN x x.n := rfl
  refine ⟨by omega, by rw [hL]; omega, by omega, fun i hi => ?_, fun i hi => ?_, fun i hi => ?_, ?_⟩
  · rw [hlen] at hi
    simp only [okPl, Bool.and_eq_true, Bool.or_eq_true, decide_eq_true_eq]
    refine ⟨by have := placesN_range x hi hn.2; rw [hP]; omega, ?_⟩
    by_cases e : i = 0
    · exact .inl e
    · exact .inr (by rw [hP]; exact placesN_lt x (by omega) hi)
  · rw [hL] at hi
    have hm : lnAt (linesN x) i ∈ linesN x := by
      have : lnAt (linesN x) i = (linesN x)[i] := by simp [lnAt, List.getD_eq_getElem?_getD, hi]
      rw [this]; exact List.getElem_mem hi
    obtain ⟨a, b, hab, hb, eA, eB⟩ := hl.ends _ hm
    have hd := hl.delay _ hm
    have hc : (lnAt (linesN x) i).C ≤ 11 := by
      have h1 := hl.fine.code hm (A := (lnAt (linesN x) i).A) (B := (lnAt (linesN x) i).B) (by simp [pairB])
      have h2 := List.countP_le_length (p := pairB (lnAt (linesN x) i).A (lnAt (linesN x) i).B) (l := linesN x)
      omega
    simp only [okLn, Bool.and_eq_true, Bool.or_eq_true, decide_eq_true_eq, hL]
    refine ⟨⟨⟨⟨?_, by omega⟩, by omega⟩, by omega⟩, ?_⟩
    · rw [eA, eB]; exact placesN_lt x hab (by rwa [placesN_length] at hb)
    · by_cases e : i = 0
      · exact .inl e
      · exact .inr (lt3B_iff.2 (hl.fine.ord.at (by omega) hi))
  · rw [hL] at hi
    have hm : lnAt (linesN x) i ∈ linesN x := by
      have : lnAt (linesN x) i = (linesN x)[i] := by simp [lnAt, List.getD_eq_getElem?_getD, hi]
      rw [this]; exact List.getElem_mem hi
    obtain ⟨a, b, hab, hb, eA, eB⟩ := hl.ends _ hm
    have hasc : Asc (placesN x x.n) := planN_asc x
    simp only [okEnd, hL, hP, eA, eB, Bool.and_eq_true]
    exact ⟨by rw [hasc.fnd (k := a) (by omega)]; rfl, by rw [hasc.fnd (k := b) hb]; rfl⟩
  · have hm := x.marks
    have d1 : decide ((1 : Int) ≤ 1 + ((x.rate % 3 : Nat) : Int)) = true := decide_eq_true (by omega)
    have d2 : decide (1 + ((x.rate % 3 : Nat) : Int) ≤ 16) = true := decide_eq_true (by omega)
    have d3 : decide ((1 : Int) ≤ x.rm) = true := decide_eq_true (by omega)
    have d4 : decide ((x.rm : Int) ≤ 64) = true := decide_eq_true (by omega)
    have d5 : decide ((1 : Int) ≤ x.mk0) = true := decide_eq_true (by omega)
    have d6 : decide ((x.mk0 : Int) < x.mk1) = true := decide_eq_true (by omega)
    have d7 : decide ((x.mk1 : Int) < x.rm) = true := decide_eq_true (by omega)
    have d8 : decide ((x.rm : Int) ≤ x.rm) = true := decide_eq_true (by omega)
    unfold okNum
    rw [Bool.and_eq_true, Bool.and_eq_true, Bool.and_eq_true, Bool.and_eq_true, Bool.and_eq_true, Bool.and_eq_true, Bool.and_eq_true]
    exact ⟨⟨⟨⟨⟨⟨⟨d1, d2⟩, d3⟩, d4⟩, d5⟩, d6⟩, d7⟩, d8⟩
theorem planN_chk (x : Nn) : chkPl (planN x) = 0 := chkPl_zero.2 (planN_valid x)
end Go.Proofs.Ytdjmopipmeonlaa
/- Plans as values: the slices of places and lines, read in a world. -/
namespace Go.Proofs.Ytdjmopipmeonlaa
set_option linter.unusedVariables false
open Go.RowKit

/-- A slice value reads in w as the places P. -/
structure PRow (w : World) (a : Option Addr) (n c : Nat) (P : List (Int × Bool)) : Prop where
  len : P.length = n
  le : n ≤ c
  max : c ≤ maxLen
  wf : ∀ x ∈ P, 0 ≤ x.1 ∧ x.1 ≤ 65535
  cells : n = 0 ∨ ∃ b off, a = some ⟨b, off, none⟩ ∧ ∀ i, i < n → w.cell? ⟨b, off + i * 2, none⟩ = some (.int .u16 (pc P i)) ∧ w.cell? ⟨b, off + i * 2 + 1, none⟩ = some (.bool (pt P i))
  isNil : a = none → c = 0
theorem PRow.of_nil (w : World) : PRow w none 0 0 [] := ⟨rfl, Nat.le_refl _, Nat.zero_le _, by simp, .inl rfl, fun _ => rfl⟩
theorem PRow.exc {S : Nat → Prop} {w w' : World} {a : Option Addr} {n c : Nat} {P : List (Int × Bool)} (h : PRow w a n c P) (hx : Exc S w w') (hn : ∀ x, a = some x → ¬ S x.block) : PRow w' a n c P := by
  refine ⟨h.len, h.le, h.max, h.wf, ?_, h.isNil⟩
  rcases h.cells with h0 | ⟨b, off, ha, hc⟩
  · exact .inl h0
  · have hb : ¬ S b := hn _ ha
    exact .inr ⟨b, off, ha, fun i hi => ⟨hx.cell (hc i hi).1 hb, hx.cell (hc i hi).2 hb⟩⟩
theorem PRow.later {w w' : World} {a : Option Addr} {n c : Nat} {P : List (Int × Bool)} (h : PRow w a n c P) (hb : Below w.heap.size w w') : PRow w' a n c P :=
  h.exc (S := fun _ => False) (Exc.of_below hb) (fun _ _ h => h)
/-- A slice value reads in w as the lines L. -/
structure LRow (w : World) (a : Option Addr) (n c : Nat) (L : List Ln) : Prop where
  len : L.length = n
  le : n ≤ c
  max : c ≤ maxLen
  wf : ∀ x ∈ L, (0 ≤ x.A ∧ x.A ≤ 65535) ∧ (0 ≤ x.B ∧ x.B ≤ 65535) ∧ (0 ≤ x.C ∧ x.C ≤ 255) ∧ (-9223372036854775808 ≤ x.D ∧ x.D ≤ 9223372036854775807)
  cells : n = 0 ∨ ∃ b off, a = some ⟨b, off, none⟩ ∧ ∀ i, i < n → w.cell? ⟨b, off + i * 4, none⟩ = some (.int .u16 (lnAt L i).A) ∧ w.cell? ⟨b, off + i * 4 + 1, none⟩ = some (.int .u16 (lnAt L i).B) ∧ w.cell? ⟨b, off + i * 4 + 2, none⟩ = some (.int .u8 (lnAt L i).C) ∧ w.cell? ⟨b, off + i * 4 + 3, none⟩ = some (.int .i64 (lnAt L i).D)
  isNil : a = none → c = 0
theorem LRow.of_nil (w : World) : LRow w none 0 0 [] := ⟨rfl, Nat.le_refl _, Nat.zero_le _, by simp, .inl rfl, fun _ => rfl⟩
theorem LRow.exc {S : Nat → Prop} {w w' : World} {a : Option Addr} {n c : Nat} {L : List Ln} (h : LRow w a n c L) (hx : Exc S w w') (hn : ∀ x, a = some x → ¬ S x.block) : LRow w' a n c L := by
  refine ⟨h.len, h.le, h.max, h.wf, ?_, h.isNil⟩
  rcases h.cells with h0 | ⟨b, off, ha, hc⟩
  · exact .inl h0
  · have hb : ¬ S b := hn _ ha
    exact .inr ⟨b, off, ha, fun i hi => ⟨hx.cell (hc i hi).1 hb, hx.cell (hc i hi).2.1 hb, hx.cell (hc i hi).2.2.1 hb, hx.cell (hc i hi).2.2.2 hb⟩⟩
theorem LRow.later {w w' : World} {a : Option Addr} {n c : Nat} {L : List Ln} (h : LRow w a n c L) (hb : Below w.heap.size w w') : LRow w' a n c L :=
  h.exc (S := fun _ => False) (Exc.of_below hb) (fun _ _ h => h)
/-- A plan's value from its parts. -/
def planV (a : Option Addr) (n c : Nat) (a' : Option Addr) (n' c' : Nat) (p : Pn) : Value := .agg #[.slice a n c, .slice a' n' c', .int .i64 p.rate, .int .i64 p.room, .int .i64 p.m0, .int .i64 p.m1, .int .i64 p.m2]
end Go.Proofs.Ytdjmopipmeonlaa
/- The cells of lines; a row of lines that a call owns. -/
namespace Go.Proofs.Ytdjmopipmeonlaa
set_option linter.unusedVariables false
open Go.RowKit

def encLn (l : Ln) : List Value := [.int .u16 l.A, .int .u16 l.B, .int .u8 l.C, .int .i64 l.D]
def cellsL (L : List Ln) : List Value := L.flatMap encLn
theorem cellsL_getD (L : List Ln) {i : Nat} (hi : i < L.length) : (cellsL L).getD (i * 4) undef = .int .u16 (lnAt L i).A ∧ (cellsL L).getD (i * 4 + 1) undef = .int .u16 (lnAt L i).B ∧ (cellsL L).getD (i * 4 + 2) undef = .int .u8 (lnAt L i).C ∧ (cellsL L).getD (i * 4 + 3) undef = .int .i64 (lnAt L i).D := by
  induction L generalizing i with
  | nil => cases hi
  | cons x L ih =>
    cases i with
    | zero => simp [cellsL, encLn, lnAt]
    | succ i =>
      have h := ih (i := i) (by simpa using hi)
      have e : cellsL (x :: L) = .int .u16 x.A :: .int .u16 x.B :: .int .u8 x.C :: .int .i64 x.D :: cellsL L := rfl
      rw [e, show (i + 1) * 4 = i * 4 + 1 + 1 + 1 + 1 by omega]
      simp only [List.getD_cons_succ]
      have e2 : lnAt (x :: L) (i + 1) = lnAt L i := by simp [lnAt]
      rw [e2]
      exact h
theorem cellsL_length (L : List Ln) : (cellsL L).length = L.length * 4 := by
  induction L with
  | nil => rfl
  | cons x L ih => simp only [cellsL, List.flatMap_cons, List.length_append, encLn, List.length_cons, List.length_nil] at *; omega
theorem infoLn : (Try.prog.info? 99).map (fun i => (i.zero, i.size, i.bytes)) = some (some (.agg #[.int .u16 0, .int .u16 0, .int .u8 0, .int .i64 0]), 4, 16) := by kernel_rfl
theorem lrow_of_owns {w : World} {B e n : Nat} {v : Value} {L : List Ln} (h : w.ownsRow B e 4 v n (cellsL L)) (hn : L.length = n) (hw : ∀ x ∈ L, (0 ≤ x.A ∧ x.A ≤ 65535) ∧ (0 ≤ x.B ∧ x.B ≤ 65535) ∧ (0 ≤ x.C ∧ x.C ≤ 255) ∧ (-9223372036854775808 ≤ x.D ∧ x.D ≤ 9223372036854775807)) : ∃ a c, v = .slice a n c ∧ LRow w a n c L ∧ ∀ z, a = some z → B ≤ z.block := by
  by_cases h0 : 0 < n
  · obtain ⟨b, c, rfl, h1, h2, hb, _, hc⟩ := ownsK_cells h h0
    refine ⟨_, c, rfl, ⟨hn, h1, h2, hw, .inr ⟨b, 0, rfl, fun i hi => ?_⟩, by simp⟩, fun z hz => by cases hz; exact hb⟩
    obtain ⟨q0, q1, q2, q3⟩ := cellsL_getD L (i := i) (by omega)
    simp only [Nat.zero_add]
    exact ⟨by rw [(hc _ (by omega)).1, q0], by rw [(hc _ (by omega)).1, q1], by rw [(hc _ (by omega)).1, q2], by rw [(hc _ (by omega)).1, q3]⟩
  · rcases h.2 with ⟨rfl, h9⟩ | ⟨g, cap, cur, rfl, hb, hg, hle, hc, hs, ht⟩
    · subst h9
      have hL : L = [] := List.eq_nil_of_length_eq_zero hn
      subst hL
      exact ⟨none, 0, rfl, LRow.of_nil _, fun z hz => by cases hz⟩
    · exact ⟨_, cap, rfl, ⟨hn, hle, hc, hw, .inl (by omega), by simp⟩, fun z hz => by cases hz; exact hb⟩
end Go.Proofs.Ytdjmopipmeonlaa
/- append of slices of structs that are read in memory: at a plain step, at a step of a region that draws. -/
namespace Go.Proofs.Ytdjmopipmeonlaa
set_option linter.unusedVariables false
open Go.RowKit

theorem wp_append_rows {P : Program} {w : World} {o : Oper} {a : Act} {K : Act → World → Prop} {Q : Exit → Act → World → Prop} (s x : Operand) (t : TypeId)
    (ho : o.op = .call { callee := .builtin .append, args := #[s, x], argTypes := #[t, t] })
    (base : Nat) (e : TypeId) (i : TypeInfo) (z : Value) (size bytes : Nat) (ht : P.underlying t = some (.slice e)) (hi : P.info? e = some i) (hz : i.zero = some z)
    (hsize : i.size = size) (hby : i.bytes = bytes) (hzs : z.cells.size = size) (hsz : 0 < size)
    (v : Value) (n : Nat) (xs : List Value) (hs : a.eval s = v) (hown : w.ownsRow base e size v n xs)
    (sa : Option Addr) (m c : Nat) (news : List Value) (hx : a.eval x = .slice sa m c) (hl : news.length = m * size) (hnews : ∀ ad, sa = some ad → ∀ j u, news[j]? = some u → w.cell? (ad.add j) = some u) (h1 : ∀ u ∈ news, u.oneCell' = true)
    (hnil : sa = none → m = 0 ∧ c = 0)
    (h63 : n + m ≤ maxLen) (hbytes : (n + m) * bytes ≤ 140737488355328) (hbase : base ≤ w.heap.size)
    (h : ∀ v' w', w'.ownsRow base e size v' (n + m) (xs ++ news) → w.grownBy w' v.ownBlock → K (a.put o.dst v') w') : o.wp P a w K Q := by
  rcases sa with _ | ad
  · obtain ⟨rfl, rfl⟩ := hnil rfl
    have hln : news = [] := List.eq_nil_of_length_eq_zero (by omega)
    subst hln
    have hrun := run_append_owned_none (P := P) (w := w) base t o.type e i size ht hi v n xs hown
    unfold Oper.wp
    simp [execOp, ho, resolve, invoke, builtin, hs, hx, hrun, Result.andThen]
    exact h v w (by simpa using hown) ⟨rfl, rfl, rfl, Nat.le_refl _, fun _ _ _ => rfl⟩
  · exact wp_append_own w s x t ho base e i z size bytes ht hi hz hsize hby hzs hsz v n xs hs hown ad m c news hx hl (hnews ad rfl) h1 h63 hbytes hbase (fun v' w' h2 h3 _ => h v' w' h2 h3)
theorem cellsL_append (A B : List Ln) : cellsL (A ++ B) = cellsL A ++ cellsL B := by simp [cellsL]
theorem cellsL_one (L : List Ln) : ∀ u ∈ cellsL L, u.oneCell' = true := by
  intro u hu
  simp only [cellsL, List.mem_flatMap, encLn, List.mem_cons, List.not_mem_nil, or_false] at hu
  obtain ⟨l, _, rfl | rfl | rfl | rfl⟩ := hu <;> rfl
theorem lrow_cells {w : World} {a : Option Addr} {n c : Nat} {L : List Ln} (h : LRow w a n c L) : ∀ ad, a = some ad → ∀ j u, (cellsL L)[j]? = some u → w.cell? (ad.add j) = some u := by
  intro ad ha j u hj
  have hlt := (List.getElem?_eq_some_iff.1 hj).1
  rw [cellsL_length, h.len] at hlt
  obtain ⟨b, off, hb, hc⟩ := h.cells.resolve_left (by omega)
  rw [hb] at ha
  cases ha
  have hadd : (⟨b, off, none⟩ : Addr).add j = ⟨b, off + j, none⟩ := by unfold Addr.add; split <;> simp_all
  rw [hadd]
  have hu : (cellsL L).getD j undef = u := by rw [List.getD_eq_getElem?_getD, hj]; rfl
  obtain ⟨c0, c1, c2, c3⟩ := hc (j / 4) (by omega)
  obtain ⟨q0, q1, q2, q3⟩ := cellsL_getD L (i := j / 4) (by rw [h.len]; omega)
  rcases (by omega : j = j / 4 * 4 ∨ j = j / 4 * 4 + 1 ∨ j = j / 4 * 4 + 2 ∨ j = j / 4 * 4 + 3) with e | e | e | e
  · rw [← e] at q0; rw [show off + j = off + j / 4 * 4 by omega, c0, ← hu, q0]
  · rw [← e] at q1; rw [show off + j = off + j / 4 * 4 + 1 by omega, c1, ← hu, q1]
  · rw [← e] at q2; rw [show off + j = off + j / 4 * 4 + 2 by omega, c2, ← hu, q2]
  · rw [← e] at q3; rw [show off + j = off + j / 4 * 4 + 3 by omega, c3, ← hu, q3]
/-- A piece of the lines, from k on. -/
theorem LRow.tail {w : World} {b o n c : Nat} {L : List Ln} (h : LRow w (some ⟨b, o, none⟩) n c L) (m : Nat) (hm : m ≤ n) : LRow w (some ⟨b, o + m * 4, none⟩) (n - m) (c - m) (L.drop m) := by
  obtain ⟨hl, hle, hmx, hw, hc, _⟩ := h
  refine ⟨by simp [hl], by omega, by omega, fun x hx => hw x (List.mem_of_mem_drop hx), ?_, by simp⟩
  rcases hc with h0 | ⟨b', o', ha, hc⟩
  · exact .inl (by omega)
  · simp at ha
    obtain ⟨rfl, rfl⟩ := ha
    refine .inr ⟨_, _, rfl, fun i hi => ?_⟩
    have := hc (m + i) (by omega)
    have e1 : lnAt (L.drop m) i = lnAt L (m + i) := by simp [lnAt, List.getD_eq_getElem?_getD]
    rw [e1, show o + m * 4 + i * 4 = o + (m + i) * 4 by omega]
    exact this
theorem LRow.front {w : World} {a : Option Addr} {n c : Nat} {L : List Ln} (h : LRow w a n c L) (m : Nat) (hm : m ≤ n) : LRow w a m c (L.take m) := by
  obtain ⟨hl, hle, hmx, hw, hc, hnil⟩ := h
  refine ⟨by rw [List.length_take]; omega, by omega, hmx, fun x hx => hw x (List.mem_of_mem_take hx), ?_, hnil⟩
  rcases hc with h0 | ⟨b, o, ha, hc⟩
  · exact .inl (by omega)
  · refine .inr ⟨b, o, ha, fun i hi => ?_⟩
    have e1 : lnAt (L.take m) i = lnAt L i := by simp [lnAt, List.getD_eq_getElem?_getD, hi]
    rw [e1]
    exact hc i (by omega)
theorem wp_append_lns {w : World} {o : Oper} {a : Act} {K : Act → World → Prop} {Q : Exit → Act → World → Prop} (s x : Operand)
    (ho : o.op = .call { callee := .builtin .append, args := #[s, x], argTypes := #[30, 30] })
    (B : Nat) (v : Value) (n : Nat) (L1 : List Ln) (hs : a.eval s = v) (hown : w.ownsRow B 99 4 v n (cellsL L1))
    (sa : Option Addr) (m c : Nat) (L2 : List Ln) (hx : a.eval x = .slice sa m c) (hrow : LRow w sa m c L2) (hnm : n + m ≤ 1000) (hB : B ≤ w.heap.size)
    (h : ∀ v' w', w'.ownsRow B 99 4 v' (n + m) (cellsL (L1 ++ L2)) → w.grownBy w' v.ownBlock → K (a.put o.dst v') w') : o.wp Try.prog a w K Q := by
  obtain ⟨i0, hi, hz0, hz1, hz2⟩ := info_parts infoLn
  refine wp_append_rows s x _ ho B _ i0 _ 4 16 Try.underlying30 hi hz0 hz1 hz2 rfl (by decide) v n (cellsL L1) hs hown sa m c (cellsL L2) hx (by rw [cellsL_length, hrow.len]) (lrow_cells hrow) (cellsL_one L2) (fun e => ⟨by have := hrow.isNil e; have := hrow.le; omega, hrow.isNil e⟩) (by unfold maxLen; omega) (by omega) hB ?_
  intro v' w' h2 h3
  exact h v' w' (by rw [cellsL_append]; exact h2) h3
theorem wpList_append_lns {w : World} {ops : Array Oper} {rest : List Oper} {o : Oper} {a : Act} {Q : Exit → Act → World → Prop} (hgd : o.guard = none) (s x : Operand)
    (ho : o.op = .call { callee := .builtin .append, args := #[s, x], argTypes := #[30, 30] })
    (B : Nat) (v : Value) (n : Nat) (L1 : List Ln) (hs : a.eval s = v) (hown : w.ownsRow B 99 4 v n (cellsL L1))
    (sa : Option Addr) (m c : Nat) (L2 : List Ln) (hx : a.eval x = .slice sa m c) (hrow : LRow w sa m c L2) (hnm : n + m ≤ 1000) (hB : B ≤ w.heap.size)
    (h : ∀ v' w', w'.ownsRow B 99 4 v' (n + m) (cellsL (L1 ++ L2)) → w.grownBy w' v.ownBlock → wpList Try.prog ops Q rest (a.put o.dst v') w') : wpList Try.prog ops Q (o :: rest) a w :=
  wpList_plain hgd fun _ hK => wp_append_lns s x ho B v n L1 hs hown sa m c L2 hx hrow hnm hB fun v' w' h2 h3 => hK _ _ (h v' w' h2 h3)
theorem step_append_lns {ops : Array Oper} {o : Oper} {a : Act} {K : Act → World → Prop} {Q : Exit → Act → World → Prop} {E : Prop} {w : World} (hgd : o.guard = none) (s x : Operand)
    (ho : o.op = .call { callee := .builtin .append, args := #[s, x], argTypes := #[30, 30] })
    (B : Nat) (v : Value) (n : Nat) (L1 : List Ln) (hs : a.eval s = v) (hown : w.ownsRow B 99 4 v n (cellsL L1))
    (sa : Option Addr) (m c : Nat) (L2 : List Ln) (hx : a.eval x = .slice sa m c) (hrow : LRow w sa m c L2) (hnm : n + m ≤ 1000) (hB : B ≤ w.heap.size)
    (h : ∀ v' w', w'.ownsRow B 99 4 v' (n + m) (cellsL (L1 ++ L2)) → w.grownBy w' v.ownBlock → K (a.put o.dst v') w') :
    if Region.wanted o (yielded ops a.tmps) = true then Oper.wp Try.prog o a w K Q else E := by
  have hw : Region.wanted o (yielded ops a.tmps) = true := by simp [Region.wanted, hgd]
  rw [if_pos hw]
  exact wp_append_lns s x ho B v n L1 hs hown sa m c L2 hx hrow hnm hB h
end Go.Proofs.Ytdjmopipmeonlaa
