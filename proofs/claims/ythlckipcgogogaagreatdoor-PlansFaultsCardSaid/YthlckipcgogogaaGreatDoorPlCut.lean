/- Joined: AggApp PlAddO PlCut. -/
import Derived.Test.YthlckipcgogogaaGreatDoorPlCells
/- append of slices of structs that are read in memory: at a plain step, at a step of a region that draws. -/
namespace Go.Proofs.YthlckipcgogogaaGreatDoor
set_option linter.unusedVariables false
open Go.RowKit

theorem wp_append_rows {P : Program} {w : World} {o : Oper} {a : Act} {K : Act → World → Prop} {Q : Exit → Act → World → Prop} (s x : Operand) (t : TypeId)
    (ho : o.op = .call { callee := .builtin .append, args := #[s, x], argTypes := #[t, t] })
    (base : Nat) (e : TypeId) (i : TypeInfo) (z : Value) (size bytes : Nat) (ht : P.underlying t = some (.slice e)) (hi : P.info? e = some i) (hz : i.zero = some z)
    (hsize : i.size = size) (hby : i.bytes = bytes) (hzs : z.cells.size = size) (hsz : 0 < size)
    (v : Value) (n : Nat) (xs : List Value) (hs : a.eval s = v) (hown : w.ownsRow base e size v n xs)
    (sa : Option Addr) (m c : Nat) (news : List Value) (hx : a.eval x = .slice sa m c) (hl : news.length = m * size) (hnews : ∀ ad, sa = some ad → ∀ j u, news[j]? = some u → w.cell? (ad.add j) = some u) (h1 : ∀ u ∈ news, u.oneCell' = true)
    (hnil : sa = none → m = 0 ∧ c = 0)
    (h63 : n + m ≤ maxLen) (hbytes : (n + m) * bytes ≤ 140737488355328) (hbase : base ≤ w.heap.size)
    (h : ∀ v' w', w'.ownsRow base e size v' (n + m) (xs ++ news) → w.grownBy w' v.ownBlock → K (a.put o.dst v') w') : o.wp P a w K Q := by
  rcases sa with _ | ad
  · obtain ⟨rfl, rfl⟩ := hnil rfl
    have hln : news = [] := List.eq_nil_of_length_eq_zero (by omega)
    subst hln
    have hrun := run_append_owned_none (P := P) (w := w) base t o.type e i size ht hi v n xs hown
    unfold Oper.wp
    simp [execOp, ho, resolve, invoke, builtin, hs, hx, hrun, Result.andThen]
    exact h v w (by simpa using hown) ⟨rfl, rfl, rfl, Nat.le_refl _, fun _ _ _ => rfl⟩
  · exact wp_append_own w s x t ho base e i z size bytes ht hi hz hsize hby hzs hsz v n xs hs hown ad m c news hx hl (hnews ad rfl) h1 h63 hbytes hbase (fun v' w' h2 h3 _ => h v' w' h2 h3)
theorem cellsL_append (A B : List Ln) : cellsL (A ++ B) = cellsL A ++ cellsL B := by simp [cellsL]
theorem cellsL_one (L : List Ln) : ∀ u ∈ cellsL L, u.oneCell' = true := by
  intro u hu
  simp only [cellsL, List.mem_flatMap, encLn, List.mem_cons, List.not_mem_nil, or_false] at hu
  obtain ⟨l, _, rfl | rfl | rfl | rfl⟩ := hu <;> rfl
theorem lrow_cells {w : World} {a : Option Addr} {n c : Nat} {L : List Ln} (h : LRow w a n c L) : ∀ ad, a = some ad → ∀ j u, (cellsL L)[j]? = some u → w.cell? (ad.add j) = some u := by
  intro ad ha j u hj
  have hlt := (List.getElem?_eq_some_iff.1 hj).1
  rw [cellsL_length, h.len] at hlt
  obtain ⟨b, off, hb, hc⟩ := h.cells.resolve_left (by omega)
  rw [hb] at ha
  cases ha
  have hadd : (⟨b, off, none⟩ : Addr).add j = ⟨b, off + j, none⟩ := by unfold Addr.add; split <;> simp_all
  rw [hadd]
  have hu : (cellsL L).getD j undef = u := by rw [List.getD_eq_getElem?_getD, hj]; rfl
  obtain ⟨c0, c1, c2, c3⟩ := hc (j / 4) (by omega)
  obtain ⟨q0, q1, q2, q3⟩ := cellsL_getD L (i := j / 4) (by rw [h.len]; omega)
  rcases (by omega : j = j / 4 * 4 ∨ j = j / 4 * 4 + 1 ∨ j = j / 4 * 4 + 2 ∨ j = j / 4 * 4 + 3) with e | e | e | e
  · rw [← e] at q0; rw [show off + j = off + j / 4 * 4 by omega, c0, ← hu, q0]
  · rw [← e] at q1; rw [show off + j = off + j / 4 * 4 + 1 by omega, c1, ← hu, q1]
  · rw [← e] at q2; rw [show off + j = off + j / 4 * 4 + 2 by omega, c2, ← hu, q2]
  · rw [← e] at q3; rw [show off + j = off + j / 4 * 4 + 3 by omega, c3, ← hu, q3]
/-- A piece of the lines, from k on. -/
theorem LRow.tail {w : World} {b o n c : Nat} {L : List Ln} (h : LRow w (some ⟨b, o, none⟩) n c L) (m : Nat) (hm : m ≤ n) : LRow w (some ⟨b, o + m * 4, none⟩) (n - m) (c - m) (L.drop m) := by
  obtain ⟨hl, hle, hmx, hw, hc, _⟩ := h
  refine ⟨by simp [hl], by omega, by omega, fun x hx => hw x (List.mem_of_mem_drop hx), ?_, by simp⟩
  rcases hc with h0 | ⟨b', o', ha, hc⟩
  · exact .inl (by omega)
  · simp at ha
    obtain ⟨rfl, rfl⟩ := ha
    refine .inr ⟨_, _, rfl, fun i hi => ?_⟩
    have := hc (m + i) (by omega)
    have e1 : lnAt (L.drop m) i = lnAt L (m + i) := by simp [lnAt, List.getD_eq_getElem?_getD]
    rw [e1, show o + m * 4 + i * 4 = o + (m + i) * 4 by omega]
    exact this
theorem LRow.front {w : World} {a : Option Addr} {n c : Nat} {L : List Ln} (h : LRow w a n c L) (m : Nat) (hm : m ≤ n) : LRow w a m c (L.take m) := by
  obtain ⟨hl, hle, hmx, hw, hc, hnil⟩ := h
  refine ⟨by rw [List.length_take]; omega, by omega, hmx, fun x hx => hw x (List.mem_of_mem_take hx), ?_, hnil⟩
  rcases hc with h0 | ⟨b, o, ha, hc⟩
  · exact .inl (by omega)
  · refine .inr ⟨b, o, ha, fun i hi => ?_⟩
    have e1 : lnAt (L.take m) i = lnAt L i := by simp [lnAt, List.getD_eq_getElem?_getD, hi]
    rw [e1]
    exact hc i (by omega)
theorem wp_append_lns {w : World} {o : Oper} {a : Act} {K : Act → World → Prop} {Q : Exit → Act → World → Prop} (s x : Operand)
    (ho : o.op = .call { callee := .builtin .append, args := #[s, x], argTypes := #[28, 28] })
    (B : Nat) (v : Value) (n : Nat) (L1 : List Ln) (hs : a.eval s = v) (hown : w.ownsRow B 76 4 v n (cellsL L1))
    (sa : Option Addr) (m c : Nat) (L2 : List Ln) (hx : a.eval x = .slice sa m c) (hrow : LRow w sa m c L2) (hnm : n + m ≤ 1000) (hB : B ≤ w.heap.size)
    (h : ∀ v' w', w'.ownsRow B 76 4 v' (n + m) (cellsL (L1 ++ L2)) → w.grownBy w' v.ownBlock → K (a.put o.dst v') w') : o.wp Tryz.prog a w K Q := by
  obtain ⟨i0, hi, hz0, hz1, hz2⟩ := info_parts infoLn
  refine wp_append_rows s x _ ho B _ i0 _ 4 16 Tryz.underlying28 hi hz0 hz1 hz2 rfl (by decide) v n (cellsL L1) hs hown sa m c (cellsL L2) hx (by rw [cellsL_length, hrow.len]) (lrow_cells hrow) (cellsL_one L2) (fun e => ⟨by have := hrow.isNil e; have := hrow.le; omega, hrow.isNil e⟩) (by unfold maxLen; omega) (by omega) hB ?_
  intro v' w' h2 h3
  exact h v' w' (by rw [cellsL_append]; exact h2) h3
theorem wpList_append_lns {w : World} {ops : Array Oper} {rest : List Oper} {o : Oper} {a : Act} {Q : Exit → Act → World → Prop} (hgd : o.guard = none) (s x : Operand)
    (ho : o.op = .call { callee := .builtin .append, args := #[s, x], argTypes := #[28, 28] })
    (B : Nat) (v : Value) (n : Nat) (L1 : List Ln) (hs : a.eval s = v) (hown : w.ownsRow B 76 4 v n (cellsL L1))
    (sa : Option Addr) (m c : Nat) (L2 : List Ln) (hx : a.eval x = .slice sa m c) (hrow : LRow w sa m c L2) (hnm : n + m ≤ 1000) (hB : B ≤ w.heap.size)
    (h : ∀ v' w', w'.ownsRow B 76 4 v' (n + m) (cellsL (L1 ++ L2)) → w.grownBy w' v.ownBlock → wpList Tryz.prog ops Q rest (a.put o.dst v') w') : wpList Tryz.prog ops Q (o :: rest) a w :=
  wpList_plain hgd fun _ hK => wp_append_lns s x ho B v n L1 hs hown sa m c L2 hx hrow hnm hB fun v' w' h2 h3 => hK _ _ (h v' w' h2 h3)
theorem step_append_lns {ops : Array Oper} {o : Oper} {a : Act} {K : Act → World → Prop} {Q : Exit → Act → World → Prop} {E : Prop} {w : World} (hgd : o.guard = none) (s x : Operand)
    (ho : o.op = .call { callee := .builtin .append, args := #[s, x], argTypes := #[28, 28] })
    (B : Nat) (v : Value) (n : Nat) (L1 : List Ln) (hs : a.eval s = v) (hown : w.ownsRow B 76 4 v n (cellsL L1))
    (sa : Option Addr) (m c : Nat) (L2 : List Ln) (hx : a.eval x = .slice sa m c) (hrow : LRow w sa m c L2) (hnm : n + m ≤ 1000) (hB : B ≤ w.heap.size)
    (h : ∀ v' w', w'.ownsRow B 76 4 v' (n + m) (cellsL (L1 ++ L2)) → w.grownBy w' v.ownBlock → K (a.put o.dst v') w') :
    if Region.wanted o (yielded ops a.tmps) = true then Oper.wp Tryz.prog o a w K Q else E := by
  have hw : Region.wanted o (yielded ops a.tmps) = true := by simp [Region.wanted, hgd]
  rw [if_pos hw]
  exact wp_append_lns s x ho B v n L1 hs hown sa m c L2 hx hrow hnm hB h
end Go.Proofs.YthlckipcgogogaaGreatDoor
/- What the closure of N.Of leaves behind. -/
namespace Go.Proofs.YthlckipcgogogaaGreatDoor
set_option linter.unusedVariables false
open Go.RowKit

theorem prow_wf {w : World} {a : Option Addr} {n c : Nat} {P : List (Int × Bool)} (h : PRow w a n c P) {i : Nat} (hi : i < n) : 0 ≤ pc P i ∧ pc P i ≤ 65535 := by
  have hl := h.len
  have e : pc P i = (P[i]'(by omega)).1 := by simp [pc, List.getD_eq_getElem?_getD, show i < P.length by omega]
  rw [e]
  exact h.wf _ (List.getElem_mem _)
theorem pair_one {A B C D x y : Int} {l : Ln} {r : Bool} (h : l = ⟨A, B, C, D⟩) (hr : pairB x y ⟨A, B, C, D⟩ = r) : pairB x y l = r := by rw [h]; exact hr
theorem atK_one {L : List Ln} {A B C D x y : Int} {k : Nat} {r : Bool} (h : lnAt L k = ⟨A, B, C, D⟩) (hr : le2 x y ⟨A, B, C, D⟩ = r) : atK L x y (k + 1) = if r then k + 1 else atK L x y k := by
  show (if le2 x y (lnAt L k) then k + 1 else atK L x y k) = _
  rw [h, hr]
theorem own_drew {w : World} {B e k n : Nat} {v : Value} {xs : List Value} (h : w.ownsRow B e k v n xs) : w.drew.ownsRow B e k v n xs := ownsK_below h (below_draw w 1)
theorem lrow_at {w : World} {b off n c : Nat} {L : List Ln} (h : LRow w (some ⟨b, off, none⟩) n c L) (hn : 0 < n) : ∀ i, i < n → w.cell? ⟨b, off + i * 4, none⟩ = some (.int .u16 (lnAt L i).A) ∧ w.cell? ⟨b, off + i * 4 + 1, none⟩ = some (.int .u16 (lnAt L i).B) ∧ w.cell? ⟨b, off + i * 4 + 2, none⟩ = some (.int .u8 (lnAt L i).C) ∧ w.cell? ⟨b, off + i * 4 + 3, none⟩ = some (.int .i64 (lnAt L i).D) := by
  obtain ⟨b', o', ha, hc⟩ := h.cells.resolve_left (by omega)
  cases ha
  exact hc
theorem owns_lit (W : World) (l : Ln) {B : Nat} (hB : B ≤ W.heap.size) : (W.alloc (.cells #[.int .u16 l.A, .int .u16 l.B, .int .u8 l.C, .int .i64 l.D] 76)).ownsRow B 76 4 (.slice (some ⟨W.heap.size, 0, none⟩) 1 1) 1 (cellsL [l]) :=
  ⟨rfl, .inr ⟨W.heap.size, 1, _, rfl, hB, heap_alloc_new W _, Nat.le_refl _, by unfold maxLen; decide, rfl, rfl⟩⟩
/-- The block pb of the plan holds the lines with the new one; nothing else changed. -/
def AddOut (P : List (Int × Bool)) (L : List Ln) (a b d : Nat) (aP : Option Addr) (n c m pb : Nat) (rs : List Value) (w : World) (e : Ending) (w' : World) : Prop :=
  e = .returned (.tuple #[]) ∧ ∃ aL c', Own w' pb 31 (.slice aP n c :: .slice aL (m + 1) c' :: rs) ∧ LRow w' aL (m + 1) c' (putN P L a b d) ∧ (∀ z, aL = some z → w.heap.size ≤ z.block) ∧ Exc (fun k => k = pb) w w'
end Go.Proofs.YthlckipcgogogaaGreatDoor
/- Lines cut at a place: one equation of the run for each of the two halves. -/
namespace Go.Proofs.YthlckipcgogogaaGreatDoor
set_option linter.unusedVariables false
open Go.RowKit

theorem elemLn : Tryz.prog.elem 28 = 76 := by kernel_rfl
theorem undLn : Tryz.prog.underlying 28 = some (.slice (Tryz.prog.elem 28)) := by rw [elemLn]; exact Tryz.underlying28
theorem sizeLn_run (w : World) : (sizeOf 76).run Tryz.prog w = .ok 4 w := by
  obtain ⟨i, hi, _, hs, _⟩ := info_parts infoLn
  simp [sizeOf, typeInfo, hi, hs]
theorem cut_back (a : Option Addr) (n c k : Nat) (hk : k ≤ n) (hle : n ≤ c) :
    ∃ A : Option Addr, (∀ W, (Instr.slice 28 (.slice a n c) (some (.int .i64 (k : Int))) none none).run Tryz.prog W = .ok (.slice A (n - k) (c - k)) W) ∧
      (∀ W, (Instr.sliceAt 28 (.slice a n c) (some (.int .i64 (k : Int))) none none).run Tryz.prog W = .ok (.slice A (n - k) (c - k)) W) ∧
      (∀ W L, LRow W a n c L → LRow W A (n - k) (c - k) (L.drop k)) := by
  have key : ∀ W, (Instr.slice 28 (.slice a n c) (some (.int .i64 (k : Int))) none none).run Tryz.prog W = .ok (.slice (if c = k then a else a.map (·.add (k * 4))) (n - k) (c - k)) W := by
    intro W
    rw [run_slice_l W 28 a n c undLn .i64 (k : Int) (by omega) (by omega), elemLn, sizeLn_run]
    simp [sliced, Result.andThen]
  refine ⟨_, key, fun W => by rw [run_sliceAt_slice _ _ _ _ _ _ undLn]; exact key W, fun W L h => ?_⟩
  obtain ⟨hl, hle', hmx, hw, hc, hnil⟩ := h
  by_cases e : c = k
  · rw [if_pos e]
    exact ⟨by rw [List.length_drop]; omega, by omega, by omega, fun x hx => hw x (List.mem_of_mem_drop hx), .inl (by omega), fun ha => by have := hnil ha; omega⟩
  · rw [if_neg e]
    rcases a with _ | ⟨b, o, s⟩
    · exact absurd (hnil rfl) (by omega)
    · have hs : s = none ∨ n = 0 := by
        rcases hc with h0 | ⟨b', o', ha, _⟩
        · exact .inr h0
        · cases ha; exact .inl rfl
      refine ⟨by rw [List.length_drop]; omega, by omega, by omega, fun x hx => hw x (List.mem_of_mem_drop hx), ?_, by simp⟩
      rcases hc with h0 | ⟨b', o', ha, hc⟩
      · exact .inl (by omega)
      · cases ha
        have hadd : (⟨b, o, none⟩ : Addr).add (k * 4) = ⟨b, o + k * 4, none⟩ := by unfold Addr.add; split <;> simp_all
        refine .inr ⟨b, o + k * 4, by simp [hadd], fun i hi => ?_⟩
        have := hc (k + i) (by omega)
        have e1 : lnAt (L.drop k) i = lnAt L (k + i) := by simp [lnAt, List.getD_eq_getElem?_getD]
        rw [e1, show o + k * 4 + i * 4 = o + (k + i) * 4 by omega]
        exact this
theorem cut_front (a : Option Addr) (n c k : Nat) (hk : k ≤ n) (hle : n ≤ c) :
    (∀ W, (Instr.slice 28 (.slice a n c) none (some (.int .i64 (k : Int))) none).run Tryz.prog W = .ok (.slice a k c) W) ∧
      (∀ W, (Instr.sliceAt 28 (.slice a n c) none (some (.int .i64 (k : Int))) none).run Tryz.prog W = .ok (.slice a k c) W) := by
  have key : ∀ W, (Instr.slice 28 (.slice a n c) none (some (.int .i64 (k : Int))) none).run Tryz.prog W = .ok (.slice a k c) W := by
    intro W
    rw [run_slice_h W 28 a n c undLn .i64 (k : Int) (by omega) (by omega), elemLn, sizeLn_run]
    simp [sliced, Result.andThen]
    intro _
    rcases a with _ | ⟨b, o, s⟩ <;> simp [Addr.add]
  exact ⟨key, fun W => by rw [run_sliceAt_slice _ _ _ _ _ _ undLn]; exact key W⟩
end Go.Proofs.YthlckipcgogogaaGreatDoor
