/- Joined: PlAt PlCells AggApp TfNt. -/
import Derived.Test.YtdjmopipmeonlaaPlN
import Derived.Test.YtdjmopipmeonlaaTfMap
import Derived.Test.YtdjmopipmeonlaaPcCr
import Derived.Test.YtdjmopipmeonlaaPlMath
/- Plans as values: the slices of places and lines, read in a world. -/
namespace Go.Proofs.Ytdjmopipmeonlaa
set_option linter.unusedVariables false
open Go.RowKit

/-- A slice value reads in w as the places P. -/
structure PRow (w : World) (a : Option Addr) (n c : Nat) (P : List (Int × Bool)) : Prop where
  len : P.length = n
  le : n ≤ c
  max : c ≤ maxLen
  wf : ∀ x ∈ P, 0 ≤ x.1 ∧ x.1 ≤ 65535
  cells : n = 0 ∨ ∃ b off, a = some ⟨b, off, none⟩ ∧ ∀ i, i < n → w.cell? ⟨b, off + i * 2, none⟩ = some (.int .u16 (pc P i)) ∧ w.cell? ⟨b, off + i * 2 + 1, none⟩ = some (.bool (pt P i))
  isNil : a = none → c = 0
theorem PRow.of_nil (w : World) : PRow w none 0 0 [] := ⟨rfl, Nat.le_refl _, Nat.zero_le _, by simp, .inl rfl, fun _ => rfl⟩
theorem PRow.exc {S : Nat → Prop} {w w' : World} {a : Option Addr} {n c : Nat} {P : List (Int × Bool)} (h : PRow w a n c P) (hx : Exc S w w') (hn : ∀ x, a = some x → ¬ S x.block) : PRow w' a n c P := by
  refine ⟨h.len, h.le, h.max, h.wf, ?_, h.isNil⟩
  rcases h.cells with h0 | ⟨b, off, ha, hc⟩
  · exact .inl h0
  · have hb : ¬ S b := hn _ ha
    exact .inr ⟨b, off, ha, fun i hi => ⟨hx.cell (hc i hi).1 hb, hx.cell (hc i hi).2 hb⟩⟩
theorem PRow.later {w w' : World} {a : Option Addr} {n c : Nat} {P : List (Int × Bool)} (h : PRow w a n c P) (hb : Below w.heap.size w w') : PRow w' a n c P :=
  h.exc (S := fun _ => False) (Exc.of_below hb) (fun _ _ h => h)
/-- A slice value reads in w as the lines L. -/
structure LRow (w : World) (a : Option Addr) (n c : Nat) (L : List Ln) : Prop where
  len : L.length = n
  le : n ≤ c
  max : c ≤ maxLen
  wf : ∀ x ∈ L, (0 ≤ x.A ∧ x.A ≤ 65535) ∧ (0 ≤ x.B ∧ x.B ≤ 65535) ∧ (0 ≤ x.C ∧ x.C ≤ 255) ∧ (-9223372036854775808 ≤ x.D ∧ x.D ≤ 9223372036854775807)
  cells : n = 0 ∨ ∃ b off, a = some ⟨b, off, none⟩ ∧ ∀ i, i < n → w.cell? ⟨b, off + i * 4, none⟩ = some (.int .u16 (lnAt L i).A) ∧ w.cell? ⟨b, off + i * 4 + 1, none⟩ = some (.int .u16 (lnAt L i).B) ∧ w.cell? ⟨b, off + i * 4 + 2, none⟩ = some (.int .u8 (lnAt L i).C) ∧ w.cell? ⟨b, off + i * 4 + 3, none⟩ = some (.int .i64 (lnAt L i).D)
  isNil : a = none → c = 0
theorem LRow.of_nil (w : World) : LRow w none 0 0 [] := ⟨rfl, Nat.le_refl _, Nat.zero_le _, by simp, .inl rfl, fun _ => rfl⟩
theorem LRow.exc {S : Nat → Prop} {w w' : World} {a : Option Addr} {n c : Nat} {L : List Ln} (h : LRow w a n c L) (hx : Exc S w w') (hn : ∀ x, a = some x → ¬ S x.block) : LRow w' a n c L := by
  refine ⟨h.len, h.le, h.max, h.wf, ?_, h.isNil⟩
  rcases h.cells with h0 | ⟨b, off, ha, hc⟩
  · exact .inl h0
  · have hb : ¬ S b := hn _ ha
    exact .inr ⟨b, off, ha, fun i hi => ⟨hx.cell (hc i hi).1 hb, hx.cell (hc i hi).2.1 hb, hx.cell (hc i hi).2.2.1 hb, hx.cell (hc i hi).2.2.2 hb⟩⟩
theorem LRow.later {w w' : World} {a : Option Addr} {n c : Nat} {L : List Ln} (h : LRow w a n c L) (hb : Below w.heap.size w w') : LRow w' a n c L :=
  h.exc (S := fun _ => False) (Exc.of_below hb) (fun _ _ h => h)
/-- A plan's value from its parts. -/
def planV (a : Option Addr) (n c : Nat) (a' : Option Addr) (n' c' : Nat) (p : Pn) : Value := .agg #[.slice a n c, .slice a' n' c', .int .i64 p.rate, .int .i64 p.room, .int .i64 p.m0, .int .i64 p.m1, .int .i64 p.m2]
end Go.Proofs.Ytdjmopipmeonlaa
/- The cells of lines; a row of lines that a call owns. -/
namespace Go.Proofs.Ytdjmopipmeonlaa
set_option linter.unusedVariables false
open Go.RowKit

def encLn (l : Ln) : List Value := [.int .u16 l.A, .int .u16 l.B, .int .u8 l.C, .int .i64 l.D]
def cellsL (L : List Ln) : List Value := L.flatMap encLn
theorem cellsL_getD (L : List Ln) {i : Nat} (hi : i < L.length) : (cellsL L).getD (i * 4) undef = .int .u16 (lnAt L i).A ∧ (cellsL L).getD (i * 4 + 1) undef = .int .u16 (lnAt L i).B ∧ (cellsL L).getD (i * 4 + 2) undef = .int .u8 (lnAt L i).C ∧ (cellsL L).getD (i * 4 + 3) undef = .int .i64 (lnAt L i).D := by
  induction L generalizing i with
  | nil => cases hi
  | cons x L ih =>
    cases i with
    | zero => simp [cellsL, encLn, lnAt]
    | succ i =>
      have h := ih (i := i) (by simpa using hi)
      have e : cellsL (x :: L) = .int .u16 x.A :: .int .u16 x.B :: .int .u8 x.C :: .int .i64 x.D :: cellsL L := rfl
      rw [e, show (i + 1) * 4 = i * 4 + 1 + 1 + 1 + 1 by omega]
      simp only [List.getD_cons_succ]
      have e2 : lnAt (x :: L) (i + 1) = lnAt L i := by simp [lnAt]
      rw [e2]
      exact h
theorem cellsL_length (L : List Ln) : (cellsL L).length = L.length * 4 := by
  induction L with
  | nil => rfl
  | cons x L ih => simp only [cellsL, List.flatMap_cons, List.length_append, encLn, List.length_cons, List.length_nil] at *; omega
theorem infoLn : (Try.prog.info? 99).map (fun i => (i.zero, i.size, i.bytes)) = some (some (.agg #[.int .u16 0, .int .u16 0, .int .u8 0, .int .i64 0]), 4, 16) := by kernel_rfl
theorem lrow_of_owns {w : World} {B e n : Nat} {v : Value} {L : List Ln} (h : w.ownsRow B e 4 v n (cellsL L)) (hn : L.length = n) (hw : ∀ x ∈ L, (0 ≤ x.A ∧ x.A ≤ 65535) ∧ (0 ≤ x.B ∧ x.B ≤ 65535) ∧ (0 ≤ x.C ∧ x.C ≤ 255) ∧ (-9223372036854775808 ≤ x.D ∧ x.D ≤ 9223372036854775807)) : ∃ a c, v = .slice a n c ∧ LRow w a n c L ∧ ∀ z, a = some z → B ≤ z.block := by
  by_cases h0 : 0 < n
  · obtain ⟨b, c, rfl, h1, h2, hb, _, hc⟩ := ownsK_cells h h0
    refine ⟨_, c, rfl, ⟨hn, h1, h2, hw, .inr ⟨b, 0, rfl, fun i hi => ?_⟩, by simp⟩, fun z hz => by cases hz; exact hb⟩
    obtain ⟨q0, q1, q2, q3⟩ := cellsL_getD L (i := i) (by omega)
    simp only [Nat.zero_add]
    exact ⟨by rw [(hc _ (by omega)).1, q0], by rw [(hc _ (by omega)).1, q1], by rw [(hc _ (by omega)).1, q2], by rw [(hc _ (by omega)).1, q3]⟩
  · rcases h.2 with ⟨rfl, h9⟩ | ⟨g, cap, cur, rfl, hb, hg, hle, hc, hs, ht⟩
    · subst h9
      have hL : L = [] := List.eq_nil_of_length_eq_zero hn
      subst hL
      exact ⟨none, 0, rfl, LRow.of_nil _, fun z hz => by cases hz⟩
    · exact ⟨_, cap, rfl, ⟨hn, hle, hc, hw, .inl (by omega), by simp⟩, fun z hz => by cases hz; exact hb⟩
end Go.Proofs.Ytdjmopipmeonlaa
/- append of slices of structs that are read in memory: at a plain step, at a step of a region that draws. -/
namespace Go.Proofs.Ytdjmopipmeonlaa
set_option linter.unusedVariables false
open Go.RowKit

theorem wp_append_rows {P : Program} {w : World} {o : Oper} {a : Act} {K : Act → World → Prop} {Q : Exit → Act → World → Prop} (s x : Operand) (t : TypeId)
    (ho : o.op = .call { callee := .builtin .append, args := #[s, x], argTypes := #[t, t] })
    (base : Nat) (e : TypeId) (i : TypeInfo) (z : Value) (size bytes : Nat) (ht : P.underlying t = some (.slice e)) (hi : P.info? e = some i) (hz : i.zero = some z)
    (hsize : i.size = size) (hby : i.bytes = bytes) (hzs : z.cells.size = size) (hsz : 0 < size)
    (v : Value) (n : Nat) (xs : List Value) (hs : a.eval s = v) (hown : w.ownsRow base e size v n xs)
    (sa : Option Addr) (m c : Nat) (news : List Value) (hx : a.eval x = .slice sa m c) (hl : news.length = m * size) (hnews : ∀ ad, sa = some ad → ∀ j u, news[j]? = some u → w.cell? (ad.add j) = some u) (h1 : ∀ u ∈ news, u.oneCell' = true)
    (hnil : sa = none → m = 0 ∧ c = 0)
    (h63 : n + m ≤ maxLen) (hbytes : (n + m) * bytes ≤ 140737488355328) (hbase : base ≤ w.heap.size)
    (h : ∀ v' w', w'.ownsRow base e size v' (n + m) (xs ++ news) → w.grownBy w' v.ownBlock → K (a.put o.dst v') w') : o.wp P a w K Q := by
  rcases sa with _ | ad
  · obtain ⟨rfl, rfl⟩ := hnil rfl
    have hln : news = [] := List.eq_nil_of_length_eq_zero (by omega)
    subst hln
    have hrun := run_append_owned_none (P := P) (w := w) base t o.type e i size ht hi v n xs hown
    unfold Oper.wp
    simp [execOp, ho, resolve, invoke, builtin, hs, hx, hrun, Result.andThen]
    exact h v w (by simpa using hown) ⟨rfl, rfl, rfl, Nat.le_refl _, fun _ _ _ => rfl⟩
  · exact wp_append_own w s x t ho base e i z size bytes ht hi hz hsize hby hzs hsz v n xs hs hown ad m c news hx hl (hnews ad rfl) h1 h63 hbytes hbase (fun v' w' h2 h3 _ => h v' w' h2 h3)
theorem cellsL_append (A B : List Ln) : cellsL (A ++ B) = cellsL A ++ cellsL B := by simp [cellsL]
theorem cellsL_one (L : List Ln) : ∀ u ∈ cellsL L, u.oneCell' = true := by
  intro u hu
  simp only [cellsL, List.mem_flatMap, encLn, List.mem_cons, List.not_mem_nil, or_false] at hu
  obtain ⟨l, _, rfl | rfl | rfl | rfl⟩ := hu <;> rfl
theorem lrow_cells {w : World} {a : Option Addr} {n c : Nat} {L : List Ln} (h : LRow w a n c L) : ∀ ad, a = some ad → ∀ j u, (cellsL L)[j]? = some u → w.cell? (ad.add j) = some u := by
  intro ad ha j u hj
  have hlt := (List.getElem?_eq_some_iff.1 hj).1
  rw [cellsL_length, h.len] at hlt
  obtain ⟨b, off, hb, hc⟩ := h.cells.resolve_left (by omega)
  rw [hb] at ha
  cases ha
  have hadd : (⟨b, off, none⟩ : Addr).add j = ⟨b, off + j, none⟩ := by unfold Addr.add; split <;> simp_all
  rw [hadd]
  have hu : (cellsL L).getD j undef = u := by rw [List.getD_eq_getElem?_getD, hj]; rfl
  obtain ⟨c0, c1, c2, c3⟩ := hc (j / 4) (by omega)
  obtain ⟨q0, q1, q2, q3⟩ := cellsL_getD L (i := j / 4) (by rw [h.len]; omega)
  rcases (by omega : j = j / 4 * 4 ∨ j = j / 4 * 4 + 1 ∨ j = j / 4 * 4 + 2 ∨ j = j / 4 * 4 + 3) with e | e | e | e
  · rw [← e] at q0; rw [show off + j = off + j / 4 * 4 by omega, c0, ← hu, q0]
  · rw [← e] at q1; rw [show off + j = off + j / 4 * 4 + 1 by omega, c1, ← hu, q1]
  · rw [← e] at q2; rw [show off + j = off + j / 4 * 4 + 2 by omega, c2, ← hu, q2]
  · rw [← e] at q3; rw [show off + j = off + j / 4 * 4 + 3 by omega, c3, ← hu, q3]
/-- A piece of the lines, from k on. -/
theorem LRow.tail {w : World} {b o n c : Nat} {L : List Ln} (h : LRow w (some ⟨b, o, none⟩) n c L) (m : Nat) (hm : m ≤ n) : LRow w (some ⟨b, o + m * 4, none⟩) (n - m) (c - m) (L.drop m) := by
  obtain ⟨hl, hle, hmx, hw, hc, _⟩ := h
  refine ⟨by simp [hl], by omega, by omega, fun x hx => hw x (List.mem_of_mem_drop hx), ?_, by simp⟩
  rcases hc with h0 | ⟨b', o', ha, hc⟩
  · exact .inl (by omega)
  · simp at ha
    obtain ⟨rfl, rfl⟩ := ha
    refine .inr ⟨_, _, rfl, fun i hi => ?_⟩
    have := hc (m + i) (by omega)
    have e1 : lnAt (L.drop m) i = lnAt L (m + i) := by simp [lnAt, List.getD_eq_getElem?_getD]
    rw [e1, show o + m * 4 + i * 4 = o + (m + i) * 4 by omega]
    exact this
theorem LRow.front {w : World} {a : Option Addr} {n c : Nat} {L : List Ln} (h : LRow w a n c L) (m : Nat) (hm : m ≤ n) : LRow w a m c (L.take m) := by
  obtain ⟨hl, hle, hmx, hw, hc, hnil⟩ := h
  refine ⟨by rw [List.length_take]; omega, by omega, hmx, fun x hx => hw x (List.mem_of_mem_take hx), ?_, hnil⟩
  rcases hc with h0 | ⟨b, o, ha, hc⟩
  · exact .inl (by omega)
  · refine .inr ⟨b, o, ha, fun i hi => ?_⟩
    have e1 : lnAt (L.take m) i = lnAt L i := by simp [lnAt, List.getD_eq_getElem?_getD, hi]
    rw [e1]
    exact hc i (by omega)
theorem wp_append_lns {w : World} {o : Oper} {a : Act} {K : Act → World → Prop} {Q : Exit → Act → World → Prop} (s x : Operand)
    (ho : o.op = .call { callee := .builtin .append, args := #[s, x], argTypes := #[30, 30] })
    (B : Nat) (v : Value) (n : Nat) (L1 : List Ln) (hs : a.eval s = v) (hown : w.ownsRow B 99 4 v n (cellsL L1))
    (sa : Option Addr) (m c : Nat) (L2 : List Ln) (hx : a.eval x = .slice sa m c) (hrow : LRow w sa m c L2) (hnm : n + m ≤ 1000) (hB : B ≤ w.heap.size)
    (h : ∀ v' w', w'.ownsRow B 99 4 v' (n + m) (cellsL (L1 ++ L2)) → w.grownBy w' v.ownBlock → K (a.put o.dst v') w') : o.wp Try.prog a w K Q := by
  obtain ⟨i0, hi, hz0, hz1, hz2⟩ := info_parts infoLn
  refine wp_append_rows s x _ ho B _ i0 _ 4 16 Try.underlying30 hi hz0 hz1 hz2 rfl (by decide) v n (cellsL L1) hs hown sa m c (cellsL L2) hx (by rw [cellsL_length, hrow.len]) (lrow_cells hrow) (cellsL_one L2) (fun e => ⟨by have := hrow.isNil e; have := hrow.le; omega, hrow.isNil e⟩) (by unfold maxLen; omega) (by omega) hB ?_
  intro v' w' h2 h3
  exact h v' w' (by rw [cellsL_append]; exact h2) h3
theorem wpList_append_lns {w : World} {ops : Array Oper} {rest : List Oper} {o : Oper} {a : Act} {Q : Exit → Act → World → Prop} (hgd : o.guard = none) (s x : Operand)
    (ho : o.op = .call { callee := .builtin .append, args := #[s, x], argTypes := #[30, 30] })
    (B : Nat) (v : Value) (n : Nat) (L1 : List Ln) (hs : a.eval s = v) (hown : w.ownsRow B 99 4 v n (cellsL L1))
    (sa : Option Addr) (m c : Nat) (L2 : List Ln) (hx : a.eval x = .slice sa m c) (hrow : LRow w sa m c L2) (hnm : n + m ≤ 1000) (hB : B ≤ w.heap.size)
    (h : ∀ v' w', w'.ownsRow B 99 4 v' (n + m) (cellsL (L1 ++ L2)) → w.grownBy w' v.ownBlock → wpList Try.prog ops Q rest (a.put o.dst v') w') : wpList Try.prog ops Q (o :: rest) a w :=
  wpList_plain hgd fun _ hK => wp_append_lns s x ho B v n L1 hs hown sa m c L2 hx hrow hnm hB fun v' w' h2 h3 => hK _ _ (h v' w' h2 h3)
theorem step_append_lns {ops : Array Oper} {o : Oper} {a : Act} {K : Act → World → Prop} {Q : Exit → Act → World → Prop} {E : Prop} {w : World} (hgd : o.guard = none) (s x : Operand)
    (ho : o.op = .call { callee := .builtin .append, args := #[s, x], argTypes := #[30, 30] })
    (B : Nat) (v : Value) (n : Nat) (L1 : List Ln) (hs : a.eval s = v) (hown : w.ownsRow B 99 4 v n (cellsL L1))
    (sa : Option Addr) (m c : Nat) (L2 : List Ln) (hx : a.eval x = .slice sa m c) (hrow : LRow w sa m c L2) (hnm : n + m ≤ 1000) (hB : B ≤ w.heap.size)
    (h : ∀ v' w', w'.ownsRow B 99 4 v' (n + m) (cellsL (L1 ++ L2)) → w.grownBy w' v.ownBlock → K (a.put o.dst v') w') :
    if Region.wanted o (yielded ops a.tmps) = true then Oper.wp Try.prog o a w K Q else E := by
  have hw : Region.wanted o (yielded ops a.tmps) = true := by simp [Region.wanted, hgd]
  rw [if_pos hw]
  exact wp_append_lns s x ho B v n L1 hs hown sa m c L2 hx hrow hnm hB h
end Go.Proofs.Ytdjmopipmeonlaa
/- Slices of notes: what they hold, how they grow. -/
namespace Go.Proofs.Ytdjmopipmeonlaa
set_option linter.unusedVariables false
open Go.RowKit Go.Maps

def encN (x : Int × Int × Int) : List Value := [.int .u16 x.1, .int .u16 x.2.1, .int .u8 x.2.2]
def cellsN (X : List (Int × Int × Int)) : List Value := X.flatMap encN
theorem cellsN_length (X : List (Int × Int × Int)) : (cellsN X).length = X.length * 3 := by
  induction X with
  | nil => rfl
  | cons x X ih => simp only [cellsN, List.flatMap_cons, List.length_append, encN, List.length_cons, List.length_nil] at *; omega
theorem cellsN_append (X Y : List (Int × Int × Int)) : cellsN (X ++ Y) = cellsN X ++ cellsN Y := by simp [cellsN]
theorem cellsN_one (X : List (Int × Int × Int)) : ∀ u ∈ cellsN X, u.oneCell' = true := by
  intro u hu
  simp only [cellsN, List.mem_flatMap, encN, List.mem_cons, List.not_mem_nil, or_false] at hu
  obtain ⟨l, _, rfl | rfl | rfl⟩ := hu <;> rfl
theorem cellsN_getD (X : List (Int × Int × Int)) (R : List Value) {i : Nat} (hi : i < X.length) : (cellsN X ++ R).getD (i * 3) undef = .int .u16 (X.getD i (0, 0, 0)).1 ∧ (cellsN X ++ R).getD (i * 3 + 1) undef = .int .u16 (X.getD i (0, 0, 0)).2.1 ∧ (cellsN X ++ R).getD (i * 3 + 2) undef = .int .u8 (X.getD i (0, 0, 0)).2.2 := by
  induction X generalizing i with
  | nil => cases hi
  | cons x X ih =>
    cases i with
    | zero => simp [cellsN, encN]
    | succ i =>
      have h := ih (i := i) (by simpa using hi)
      have e : cellsN (x :: X) ++ R = .int .u16 x.1 :: .int .u16 x.2.1 :: .int .u8 x.2.2 :: (cellsN X ++ R) := rfl
      rw [e, show (i + 1) * 3 = i * 3 + 1 + 1 + 1 by omega]
      simp only [List.getD_cons_succ]
      exact h
/-- A slice value reads in w as the notes X, in a block of a call's own. -/
structure NRow (w : World) (a : Option Addr) (n c : Nat) (X : List (Int × Int × Int)) : Prop where
  len : X.length = n
  le : n ≤ c
  max : c ≤ maxLen
  cells : n = 0 ∨ ∃ g R, a = some ⟨g, 0, none⟩ ∧ Own w g 54 (cellsN X ++ R)
  isNil : a = none → c = 0
theorem NRow.nil (w : World) : NRow w none 0 0 [] := ⟨rfl, Nat.le_refl _, Nat.zero_le _, .inl rfl, fun _ => rfl⟩
theorem NRow.exc {S : Nat → Prop} {w w' : World} {a : Option Addr} {n c : Nat} {X : List (Int × Int × Int)} (h : NRow w a n c X) (hx : Exc S w w') (hn : ∀ x, a = some x → ¬ S x.block) : NRow w' a n c X := by
  refine ⟨h.len, h.le, h.max, ?_, h.isNil⟩
  rcases h.cells with h0 | ⟨g, R, ha, ho⟩
  · exact .inl h0
  · refine .inr ⟨g, R, ha, ?_⟩
    unfold Own
    rw [hx.block _ ho.lt (hn _ ha)]
    exact ho
theorem NRow.later {w w' : World} {a : Option Addr} {n c : Nat} {X : List (Int × Int × Int)} (h : NRow w a n c X) (hb : Below w.heap.size w w') : NRow w' a n c X := h.exc (S := fun _ => False) (Exc.of_below hb) (fun _ _ h => h)
theorem NRow.at {w : World} {a : Option Addr} {n c : Nat} {X : List (Int × Int × Int)} (h : NRow w a n c X) (h0 : 0 < n) : ∃ g, a = some ⟨g, 0, none⟩ ∧ g < w.heap.size ∧ ∀ i, i < n → w.cell? ⟨g, i * 3, none⟩ = some (.int .u16 (X.getD i (0, 0, 0)).1) ∧ w.cell? ⟨g, i * 3 + 1, none⟩ = some (.int .u16 (X.getD i (0, 0, 0)).2.1) ∧ w.cell? ⟨g, i * 3 + 2, none⟩ = some (.int .u8 (X.getD i (0, 0, 0)).2.2) := by
  obtain ⟨g, R, ha, ho⟩ := h.cells.resolve_left (by omega)
  refine ⟨g, ha, ho.lt, fun i hi => ?_⟩
  have hl := h.len
  have hi2 : i < X.length := by omega
  obtain ⟨e1, e2, e3⟩ := cellsN_getD X R hi2
  have hlen : (cellsN X ++ R).length = X.length * 3 + R.length := by rw [List.length_append, cellsN_length]
  rw [ho.cell _ (by omega), ho.cell _ (by omega), ho.cell _ (by omega), e1, e2, e3]
  exact ⟨rfl, rfl, rfl⟩
theorem nrow_of {w : World} {B n : Nat} {v : Value} {X : List (Int × Int × Int)} (h : w.ownsRow B 54 3 v n (cellsN X)) (hX : X.length = n) : ∃ a c, v = .slice a n c ∧ NRow w a n c X ∧ ∀ z, a = some z → B ≤ z.block := by
  rcases h.2 with ⟨rfl, h0⟩ | ⟨g, cap, cur, rfl, hb, hg, hle, hc, hs, ht⟩
  · subst h0
    exact ⟨none, 0, rfl, ⟨hX, Nat.le_refl _, Nat.zero_le _, .inl rfl, fun _ => rfl⟩, fun _ h => by cases h⟩
  · refine ⟨_, cap, rfl, ⟨hX, hle, hc, .inr ⟨g, cur.toList.drop (n * 3), rfl, ?_⟩, by simp⟩, fun z hz => by cases hz; exact hb⟩
    unfold Own
    rw [hg, ← ht, List.take_append_drop]
theorem infoN : (Try.prog.info? 54).map (fun i => (i.zero, i.size, i.bytes)) = some (some (.agg #[.int .u16 0, .int .u16 0, .int .u8 0]), 3, 6) := by kernel_rfl
theorem nrow_cells {w : World} {a : Option Addr} {n c : Nat} {X : List (Int × Int × Int)} (h : NRow w a n c X) : ∀ ad, a = some ad → ∀ j u, (cellsN X)[j]? = some u → w.cell? (ad.add j) = some u := by
  intro ad ha j u hj
  have hlt := (List.getElem?_eq_some_iff.1 hj).1
  rw [cellsN_length, h.len] at hlt
  obtain ⟨g, R, hb, ho⟩ := h.cells.resolve_left (by omega)
  rw [hb] at ha
  cases ha
  have hadd : (⟨g, 0, none⟩ : Addr).add j = ⟨g, j, none⟩ := by unfold Addr.add; split <;> simp_all
  have hl := h.len
  rw [hadd, ho.cell j (by rw [List.length_append, cellsN_length]; omega), List.getD_eq_getElem?_getD, List.getElem?_append_left (by rw [cellsN_length]; omega), hj]
  rfl
/-- append(v, notes...). -/
theorem wpList_append_nts {w : World} {ops : Array Oper} {rest : List Oper} {o : Oper} {a : Act} {Q : Exit → Act → World → Prop} (hgd : o.guard = none) (s x : Operand)
    (ho : o.op = .call { callee := .builtin .append, args := #[s, x], argTypes := #[45, 45] })
    (B : Nat) (v : Value) (n : Nat) (X : List (Int × Int × Int)) (hs : a.eval s = v) (hown : w.ownsRow B 54 3 v n (cellsN X))
    (sa : Option Addr) (m c : Nat) (Y : List (Int × Int × Int)) (hx : a.eval x = .slice sa m c) (hrow : NRow w sa m c Y) (hnm : n + m ≤ 1000000) (hB : B ≤ w.heap.size)
    (h : ∀ v' w', w'.ownsRow B 54 3 v' (n + m) (cellsN (X ++ Y)) → w.grownBy w' v.ownBlock → wpList Try.prog ops Q rest (a.put o.dst v') w') : wpList Try.prog ops Q (o :: rest) a w :=
  wpList_plain hgd fun _ hK => by
    obtain ⟨i0, hi, hz0, hz1, hz2⟩ := info_parts infoN
    refine wp_append_rows s x _ ho B _ i0 _ 3 6 Try.underlying45 hi hz0 hz1 hz2 rfl (by decide) v n (cellsN X) hs hown sa m c (cellsN Y) hx (by rw [cellsN_length, hrow.len]) (nrow_cells hrow) (cellsN_one Y) (fun e => ⟨by have := hrow.isNil e; have := hrow.le; omega, hrow.isNil e⟩) (by unfold maxLen; omega) (by omega) hB ?_
    intro v' w' h2 h3
    exact hK _ _ (h v' w' (by rw [cellsN_append]; exact h2) h3)
end Go.Proofs.Ytdjmopipmeonlaa
