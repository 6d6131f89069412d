/- Joined: PlRowP PlIdx UnBase. -/
import Derived.Test.YthlckipcgogogaaGreatDoorPlCells
import Derived.StillTailTactics
import Derived.OwnWalk
/- append of one struct at a step of a region that draws; rows of places that a call owns. -/
namespace Go.Proofs.YthlckipcgogogaaGreatDoor
set_option linter.unusedVariables false
open Go.RowKit

theorem step_append_agg {t e : TypeId} {z : Value} {k bytes : Nat} (ht : Tryz.prog.underlying t = some (.slice e)) (hin : (Tryz.prog.info? e).map (fun i => (i.zero, i.size, i.bytes)) = some (some z, k, bytes)) (hz : z.cells.size = k) (hk : 0 < k) (hby8 : bytes ≤ 64)
    {ops : Array Oper} {o : Oper} {a : Act} {K : Act → World → Prop} {Q : Exit → Act → World → Prop} {E : Prop} {wx : World} (hgd : o.guard = none) (s x : Operand)
    (ho : o.op = .call { callee := .builtin .append, args := #[s, x], argTypes := #[t, t] })
    (B : Nat) (v : Value) (n : Nat) (xs cs : List Value) (hcl : cs.length = k) (h1 : ∀ u ∈ cs, u.oneCell' = true) (hs : a.eval s = v) (hown : wx.ownsRow B e k v n xs) (g : Nat) (hx : a.eval x = .slice (some ⟨g, 0, none⟩) 1 1) (hg : Own wx g e cs)
    (hn : n + 1 ≤ 1099511627776) (hB : B ≤ wx.heap.size)
    (h : ∀ v' w', w'.ownsRow B e k v' (n + 1) (xs ++ cs) → Grow v wx v' w' → K (a.put o.dst v') w') :
    if Region.wanted o (yielded ops a.tmps) = true then Oper.wp Tryz.prog o a wx K Q else E := by
  obtain ⟨i0, hi, hz0, hz1, hz2⟩ := info_parts hin
  have hbb : (n + 1) * bytes ≤ 140737488355328 := by
    have : (n + 1) * bytes ≤ 1099511627776 * 64 := Nat.mul_le_mul hn hby8
    omega
  refine step_append_lies wx hgd s x t ho B e i0 z k bytes ht hi hz0 hz1 hz2 hz hk v n xs hs hown ⟨g, 0, none⟩ 1 1 cs hx (by rw [Nat.one_mul]; exact hcl) (fun j u hj => ?_) h1 (by decide) (by unfold maxLen; omega) hbb hB wx.heap.size rfl ?_
  · have hj0 := (List.getElem?_eq_some_iff.1 hj).1
    have e1 : (⟨g, 0, none⟩ : Addr).add j = ⟨g, j, none⟩ := by unfold Addr.add; split <;> simp_all
    rw [e1, hg.cell j hj0, List.getD_eq_getElem?_getD, hj]; rfl
  · intro g cap w' h1 h2 h3 h4
    refine h _ w' h1 ⟨Exc.of_grown h2, ?_⟩
    intro j hj
    simp only [Value.ownBlock, Option.some.injEq] at hj
    subst hj
    rcases h3 with h3 | h3
    · exact .inl h3
    · exact .inr (by omega)
def encP (l : Int × Bool) : List Value := [.int .u16 l.1, .bool l.2]
def cellsP (L : List (Int × Bool)) : List Value := L.flatMap encP
theorem cellsP_append (A B : List (Int × Bool)) : cellsP (A ++ B) = cellsP A ++ cellsP B := by simp [cellsP]
theorem cellsP_getD (L : List (Int × Bool)) {i : Nat} (hi : i < L.length) : (cellsP L).getD (i * 2) undef = .int .u16 (pc L i) ∧ (cellsP L).getD (i * 2 + 1) undef = .bool (pt L i) := by
  induction L generalizing i with
  | nil => cases hi
  | cons x L ih =>
    cases i with
    | zero => simp [cellsP, encP, pc, pt]
    | succ i =>
      have h := ih (i := i) (by simpa using hi)
      have e : cellsP (x :: L) = .int .u16 x.1 :: .bool x.2 :: cellsP L := rfl
      rw [e, show (i + 1) * 2 = i * 2 + 1 + 1 by omega]
      simp only [List.getD_cons_succ]
      have e2 : pc (x :: L) (i + 1) = pc L i := by simp [pc]
      have e3 : pt (x :: L) (i + 1) = pt L i := by simp [pt]
      rw [e2, e3]
      exact h
theorem infoPl : (Tryz.prog.info? 72).map (fun i => (i.zero, i.size, i.bytes)) = some (some (.agg #[.int .u16 0, .bool false]), 2, 4) := by kernel_rfl
theorem prow_of_owns {w : World} {B e n : Nat} {v : Value} {L : List (Int × Bool)} (h : w.ownsRow B e 2 v n (cellsP L)) (hn : L.length = n) (hw : ∀ x ∈ L, 0 ≤ x.1 ∧ x.1 ≤ 65535) : ∃ a c, v = .slice a n c ∧ PRow w a n c L ∧ ∀ z, a = some z → B ≤ z.block := by
  by_cases h0 : 0 < n
  · obtain ⟨b, c, rfl, h1, h2, hb, _, hc⟩ := ownsK_cells h h0
    refine ⟨_, c, rfl, ⟨hn, h1, h2, hw, .inr ⟨b, 0, rfl, fun i hi => ?_⟩, by simp⟩, fun z hz => by cases hz; exact hb⟩
    obtain ⟨q0, q1⟩ := cellsP_getD L (i := i) (by omega)
    simp only [Nat.zero_add]
    exact ⟨by rw [(hc _ (by omega)).1, q0], by rw [(hc _ (by omega)).1, q1]⟩
  · rcases h.2 with ⟨rfl, h9⟩ | ⟨g, cap, cur, rfl, hb, hg, hle, hc, hs, ht⟩
    · subst h9
      have hL : L = [] := List.eq_nil_of_length_eq_zero hn
      subst hL
      exact ⟨none, 0, rfl, PRow.of_nil _, fun z hz => by cases hz⟩
    · exact ⟨_, cap, rfl, ⟨hn, hle, hc, hw, .inl (by omega), by simp⟩, fun z hz => by cases hz; exact hb⟩
end Go.Proofs.YthlckipcgogogaaGreatDoor
/- The statements' own functions index and lines. -/
namespace Go.Proofs.YthlckipcgogogaaGreatDoor
set_option linter.unusedVariables false
open Go.RowKit

def planCells (a : Option Addr) (n c : Nat) (a' : Option Addr) (n' c' : Nat) (p : Pn) : List Value := [.slice a n c, .slice a' n' c', .int .i64 p.rate, .int .i64 p.room, .int .i64 p.m0, .int .i64 p.m1, .int .i64 p.m2]
theorem own_alloc (w : World) (cs : List Value) (t : Nat) : Own (w.alloc (.cells cs.toArray t)) w.heap.size t cs := heap_alloc_new w _
/-- The boxed plan: its two slices. -/
theorem boxed {a : Option Addr} {n c : Nat} {a' : Option Addr} {n' c' : Nat} {p : Pn} {w W : World} {t : Nat} (hW : W = w.alloc (.cells (planCells a n c a' n' c' p).toArray t)) :
    W.cell? ⟨w.heap.size, 0, none⟩ = some (.slice a n c) ∧ W.cell? ⟨w.heap.size, 1, none⟩ = some (.slice a' n' c') ∧ W.cell? ⟨w.heap.size, 2, none⟩ = some (.int .i64 p.rate) ∧ W.cell? ⟨w.heap.size, 3, none⟩ = some (.int .i64 p.room) ∧ W.cell? ⟨w.heap.size, 4, none⟩ = some (.int .i64 p.m0) ∧ W.cell? ⟨w.heap.size, 5, none⟩ = some (.int .i64 p.m1) ∧ W.cell? ⟨w.heap.size, 6, none⟩ = some (.int .i64 p.m2) ∧ Below w.heap.size w W := by
  have h := own_alloc w (planCells a n c a' n' c' p) t
  rw [← hW] at h
  refine ⟨h.cell 0 (by simp [planCells]), h.cell 1 (by simp [planCells]), h.cell 2 (by simp [planCells]), h.cell 3 (by simp [planCells]), h.cell 4 (by simp [planCells]), h.cell 5 (by simp [planCells]), h.cell 6 (by simp [planCells]), ?_⟩
  rw [hW]; exact below_alloc _ _
theorem index_any (p : Pn) (a : Option Addr) (n c : Nat) (a' : Option Addr) (n' c' : Nat) (code : Int) (w : World) (hP : PRow w a n c p.P) :
    Calls Tryz.prog 20 #[planV a n c a' n' c' p, .int .u16 code] w fun e w' => e = .returned (.int .i64 (idxI p.P code)) ∧ Below w.heap.size w w' := by
  unfold planV
  obtain ⟨W, hW⟩ : ∃ W, W = w.alloc (.cells (planCells a n c a' n' c' p).toArray 31) := ⟨_, rfl⟩
  obtain ⟨g0, g1, g2, g3, g4, g5, g6, hB⟩ := boxed hW
  have hP' := hP.later hB
  have hmax := hP.max
  have hle := hP.le
  unfold maxLen at hmax
  go_enter Tryz.func20, Tryz.ntmps20
  go_wp2_with fail
  show Code.wp _ _ _ _ (w.alloc (.cells (planCells a n c a' n' c' p).toArray 31))
  rw [← hW]
  have HW := Lib.hid hW
  have HB := Lib.hid hB
  have HP := Lib.hid hP'
  have hPl := Lib.hid hP.len
  clear hW hB hP hP'
  go_loopw [5] (fun i wr => ∃ k : Nat, k ≤ n ∧ i = .int .i64 k ∧ (∀ j, j < k → pc p.P j ≠ code) ∧ wr = W) (fun i _ => n - (intOf i).toNat)
  case atStart => exact ⟨0, Nat.zero_le _, rfl, fun j hj => absurd hj (Nat.not_lt_zero _), rfl⟩
  case round =>
    obtain ⟨k, hk, rfl, hno, rfl⟩ := hrel
    have HN := Lib.hid hno
    clear hno
    by_cases hkn : k < n
    · obtain ⟨b, off, rfl, hc⟩ := HP.out.cells.resolve_left (by omega)
      obtain ⟨c0, c1⟩ := hc k hkn
      clear hc
      obtain ⟨x, hx⟩ : ∃ x, x = pc p.P k := ⟨_, rfl⟩
      have HX := Lib.hid hx
      rw [← hx] at c0
      clear hx
      by_cases he : x = code
      · subst he
        go_wp2
        go_ret
        refine ⟨ret_int ?_, HB.out⟩
        unfold idxI
        rw [fnd_some (k := k) (by have := hPl.out; omega) HX.out.symm HN.out]
      · go_wp2
        refine ⟨⟨k + 1, by omega, by go_num, fun j hj => ?_, trivial⟩, by simp [intOf]; omega⟩
        by_cases hjk : j = k
        · rw [hjk, ← HX.out]; exact he
        · exact HN.out j (by omega)
    · have hkn' : k = n := by omega
      subst hkn'
      go_wp2
      go_ret
      refine ⟨ret_int ?_, HB.out⟩
      unfold idxI
      rw [fnd_none (by rw [hPl.out]; exact HN.out)]
theorem joins_one {A B C D x y : Int} {l : Ln} {r : Bool} (h : l = ⟨A, B, C, D⟩) (hr : joins ⟨A, B, C, D⟩ x y = r) : joins l x y = r := by rw [h]; exact hr
theorem near_t {L : List Ln} {x y : Int} {k N : Nat} (hs : nearN (L.take (k + 1)) x y = nearN (L.take k) x y + (if joins (lnAt L k) x y = true then 1 else 0)) (hj : joins (lnAt L k) x y = true) (hn : N = nearN (L.take k) x y) : Value.int .i64 ((N : Int) + 1) = Value.int .i64 (nearN (L.take (k + 1)) x y) := by
  rw [hs, if_pos hj, ← hn]; congr 1
theorem near_f {L : List Ln} {x y : Int} {k N : Nat} (hs : nearN (L.take (k + 1)) x y = nearN (L.take k) x y + (if joins (lnAt L k) x y = true then 1 else 0)) (hj : joins (lnAt L k) x y = false) (hn : N = nearN (L.take k) x y) : Value.int .i64 (N : Int) = Value.int .i64 (nearN (L.take (k + 1)) x y) := by
  rw [hs, if_neg (by rw [hj]; exact Bool.false_ne_true), ← hn]; rfl
end Go.Proofs.YthlckipcgogogaaGreatDoor
/- What the walks of units share: single octets, blocks laid by a literal, loads of a call's own. -/
namespace Go.Proofs.YthlckipcgogogaaGreatDoor
set_option linter.unusedVariables false
open Go.RowKit

theorem Own.exc {S : Nat → Prop} {w w' : World} {b t : Nat} {cs : List Value} (h : Own w b t cs) (hx : Exc S w w') (hn : ¬ S b) : Own w' b t cs := by
  unfold Own
  rw [hx.block b h.lt hn]
  exact h
theorem or_mark {x : Int} (h0 : 0 ≤ x) (h1 : x ≤ 127) : bits BinOp.or IntKind.u8 x 128 = x + 128 := by
  have : ∀ i : Fin 128, bits BinOp.or IntKind.u8 (i.val : Int) 128 = (i.val : Int) + 128 := by decide +kernel
  have h := this ⟨x.toNat, by omega⟩
  have e : ((x.toNat : Nat) : Int) = x := by omega
  simp only [e] at h
  exact h
theorem andNot_mark {x : Int} (h0 : 0 ≤ x) (h1 : x ≤ 255) : bits BinOp.andNot IntKind.u8 x 128 = x % 128 := by
  have : ∀ i : Fin 256, bits BinOp.andNot IntKind.u8 (i.val : Int) 128 = (i.val : Int) % 128 := by decide +kernel
  have h := this ⟨x.toNat, by omega⟩
  have e : ((x.toNat : Nat) : Int) = x := by omega
  simp only [e] at h
  exact h
theorem and_mark {x : Int} (h0 : 0 ≤ x) (h1 : x ≤ 255) : bits BinOp.and IntKind.u8 x 128 = if 128 ≤ x then 128 else 0 := by
  have : ∀ i : Fin 256, bits BinOp.and IntKind.u8 (i.val : Int) 128 = if 128 ≤ (i.val : Int) then 128 else 0 := by decide +kernel
  have h := this ⟨x.toNat, by omega⟩
  have e : ((x.toNat : Nat) : Int) = x := by omega
  simp only [e] at h
  exact h
theorem and_last {x : Int} (h0 : 0 ≤ x) (h1 : x ≤ 255) : bits BinOp.and IntKind.u8 x 127 = x % 128 := by
  have : ∀ i : Fin 256, bits BinOp.and IntKind.u8 (i.val : Int) 127 = (i.val : Int) % 128 := by decide +kernel
  have h := this ⟨x.toNat, by omega⟩
  have e : ((x.toNat : Nat) : Int) = x := by omega
  simp only [e] at h
  exact h
theorem and_nib {x : Int} (h0 : 0 ≤ x) (h1 : x ≤ 255) : bits BinOp.and IntKind.u8 x 15 = x % 16 := by
  have : ∀ i : Fin 256, bits BinOp.and IntKind.u8 (i.val : Int) 15 = (i.val : Int) % 16 := by decide +kernel
  have h := this ⟨x.toNat, by omega⟩
  have e : ((x.toNat : Nat) : Int) = x := by omega
  simp only [e] at h
  exact h
theorem own_lit (w : World) (t : Nat) (cs : Array Value) (l : List Value) (h : cs = l.toArray) : Own (w.alloc (.cells cs t)) w.heap.size t l := by subst h; exact heap_alloc_new w _
/-- A load of the call's own, or none. -/
def LoadAt (w : World) (B : Nat) (s : Option Addr) (l : List Int) : Prop := (s = none ∧ l = []) ∨ ∃ g, s = some ⟨g, 0, none⟩ ∧ B ≤ g ∧ Own w g 5 (nums .u8 l)
theorem LoadAt.later {w w' : World} {B : Nat} {s : Option Addr} {l : List Int} (h : LoadAt w B s l) (hb : Below w.heap.size w w') : LoadAt w' B s l := by
  rcases h with h | ⟨g, h1, h2, h3⟩
  · exact .inl h
  · exact .inr ⟨g, h1, h2, h3.below hb h3.lt⟩
theorem LoadAt.row {w : World} {B : Nat} {s : Option Addr} {l : List Int} (h : LoadAt w B s l) (hl : l.length ≤ 1000) (ho : ∀ x ∈ l, 0 ≤ x ∧ x ≤ 255) : Row .u8 w s l.length l.length l := by
  rcases h with ⟨rfl, rfl⟩ | ⟨g, rfl, _, h3⟩
  · exact Row.of_nil _ _
  · exact h3.row0 _ _ rfl (Nat.le_refl _) (by unfold maxLen; omega) (fun x hx => wf_u8.2 (ho x hx))
/-- A string of the bytes l. -/
def bs (l : List UInt8) : ByteArray := ⟨l.toArray⟩
theorem unit_cells {w : World} {b t : Nat} {v0 v1 v2 v3 v4 v5 v6 : Value} (h : Own w b t [v0, v1, v2, v3, v4, v5, v6]) :
    w.cell? ⟨b, 0, none⟩ = some v0 ∧ w.cell? ⟨b, 1, none⟩ = some v1 ∧ w.cell? ⟨b, 2, none⟩ = some v2 ∧ w.cell? ⟨b, 3, none⟩ = some v3 ∧ w.cell? ⟨b, 4, none⟩ = some v4 ∧ w.cell? ⟨b, 5, none⟩ = some v5 ∧ w.cell? ⟨b, 6, none⟩ = some v6 :=
  ⟨h.cell 0 (by simp), h.cell 1 (by simp), h.cell 2 (by simp), h.cell 3 (by simp), h.cell 4 (by simp), h.cell 5 (by simp), h.cell 6 (by simp)⟩
theorem unit_frozen {w : World} {b t : Nat} {cs : List Value} (h : Own w b t cs) :
    w.frozen? ⟨b, 0, none⟩ = false ∧ w.frozen? ⟨b, 1, none⟩ = false ∧ w.frozen? ⟨b, 2, none⟩ = false ∧ w.frozen? ⟨b, 3, none⟩ = false ∧ w.frozen? ⟨b, 4, none⟩ = false ∧ w.frozen? ⟨b, 5, none⟩ = false ∧ w.frozen? ⟨b, 6, none⟩ = false :=
  ⟨h.frozen 0, h.frozen 1, h.frozen 2, h.frozen 3, h.frozen 4, h.frozen 5, h.frozen 6⟩
end Go.Proofs.YthlckipcgogogaaGreatDoor
