/- Joined: TgNew TgFar TgMk. -/
import Derived.Test.YtdjmopipmeonlaaTgMath
import Derived.Test.YtdjmopipmeonlaaTfNew
import Derived.Test.YtdjmopipmeonlaaTgRow
/- New at a place of a small plan: the table lies above what was there. -/
namespace Go.Proofs.Ytdjmopipmeonlaa
set_option linter.unusedVariables false
open Go.RowKit Go.Maps

def GoodP (p : Pn) (at' : Nat) (u : Int) (X : List (Int × Int)) : Prop := (∃ l, DisOk p u l ∧ X = chC p u l at') ∧ X.length ≤ 1024 ∧ ∀ c ∈ X, (Lit.int .u16 c.1).wf = true
/-- A new table of a place. -/
def NewPL (p : Pn) (at' : Nat) (w : World) (e : Ending) (w' : World) : Prop :=
  ∃ y T, e = .returned (.tuple #[.pointer (some ⟨y.tb, 0, none⟩), .int .i64 0]) ∧ TbAt w' y T ∧ Inv p at' T ∧ T.up = (fun _ => true) ∧ T.told = (fun _ _ => 0) ∧ T.said = (fun _ _ => 0) ∧ NewTl w.heap.size w'.heap.size y ∧ Below w.heap.size w w' ∧ TbLo w.heap.size y T
theorem new_pl {x : Nn} {p : Pn} {n m at' : Nat} (hp : PF x p n m) (hat : at' < n) (a : Option Addr) (c : Nat) (a' : Option Addr) (c' : Nat) (w : World) (hP : PRow w a n c p.P) (hL : LRow w a' m c' p.L) :
    Calls Try.prog 8 #[planV a n c a' m c' p, .int .u16 (pc p.P at')] w (NewPL p at' w) := by
  have hlen := hp.len
  have hn6 := hp.n6
  have hwt : ∀ k, k < n → (Lit.int .u16 (pc p.P k)).wf = true := fun k hk => wf16.2 (by have := hp.code hk; omega)
  refine (new_lo p a n c a' m c' (pc p.P at') w hP hL (hp.one hat) hp.valid at' (hp.fnd hat) (hwt at' hat) (GoodP p at') (fun u X h => ⟨h.2.1, h.2.2⟩) (fun u W hP2 hL2 hu hne => ?_)).mono fun e w' h => ?_
  · obtain ⟨s, hs⟩ := code_fnd hp.valid hu
    obtain ⟨hs1, hs2, _⟩ := fnd_some_iff.1 hs
    refine (choices_few p a n c a' m c' (pc p.P at') u W hP2 hL2 (two_ok hp.valid (hp.fnd hat) hs) (Ne.symm hne) at' s (hp.fnd hat) hs hp.valid (by omega)).mono fun e w' h => ?_
    obtain ⟨l, a2, hok, he, hcr, hb, hfr⟩ := h
    refine ⟨a2, chC p u l at', he, ⟨⟨l, hok, rfl⟩, ?_, fun c hc => ?_⟩, hcr, hb, hfr⟩
    · rw [chC_length]
      have := chL_len (P := p.P) (L := p.L) (t := u) (D := fun i => d99 (l.getD i 0)) (i := at') 99
      rw [hlen] at this
      omega
    · obtain ⟨k, hk, e⟩ := List.getElem_of_mem hc
      obtain ⟨b, r, hb, e2, _⟩ := fall_lower hok (by omega) (by omega) hk
      rw [List.getD_eq_getElem?_getD, List.getElem?_eq_getElem hk] at e2
      have e3 : c = (pc p.P b, r) := by rw [← e]; exact e2
      rw [e3]
      exact hwt b (by omega)
  · obtain ⟨y, T, he, htb, hn, hnt, hb, hlo⟩ := h
    refine ⟨y, T, he, htb, ⟨hn.me, hn.tr, hn.N, hn.D, fun k hk hne => ?_, fun _ => by rw [hn.told], fun _ => by rw [hn.told], fun _ => by rw [hn.said], fun _ => by rw [hn.said], fun _ _ => by rw [hn.told]; exact ⟨Int.le_refl 0, (by decide : (0 : Int) ≤ 2)⟩, fun _ _ => by rw [hn.said]; exact ⟨Int.le_refl 0, (by decide : (0 : Int) ≤ 2)⟩⟩, hn.up, hn.told, hn.said, hnt, hb, hlo⟩
    have hmem : pc p.P k ∈ T.D := by
      rw [hn.D]
      refine mem_dests.2 ⟨?_, fun e => hne ((pc_inj hp hk (by omega)).1 e)⟩
      unfold codesP pc
      rw [List.getD_eq_getElem?_getD, List.getElem?_eq_getElem hk]
      exact List.mem_map_of_mem (List.getElem_mem _)
    obtain ⟨⟨l, hok, e⟩, _⟩ := hn.C _ hmem
    exact ⟨l, hok, e⟩
end Go.Proofs.Ytdjmopipmeonlaa
/- A table and what lies elsewhere: a block below its first one, or above its last one. -/
namespace Go.Proofs.Ytdjmopipmeonlaa
set_option linter.unusedVariables false
set_option linter.unusedVariables false
open Go.RowKit Go.Maps

/-- None of the blocks of S is the table's own: they lie below lo or from hi on. -/
def Out (S : Nat → Prop) (lo : Nat) (y : Tl) : Prop := ∀ k, S k → k < lo ∨ y.hi ≤ k
theorem row_far {k : IntKind} {w w' : World} {a : Option Addr} {n c : Nat} {l : List Int} {S : Nat → Prop} (hr : Row k w a n c l) (hx : Exc S w w') (hn : 0 < n → ∀ z, a = some z → ¬ S z.block) : Row k w' a n c l := by
  refine ⟨hr.len, hr.le, hr.max, hr.wf, ?_, hr.isNil⟩
  rcases Nat.eq_zero_or_pos n with h0 | h0
  · exact .inl h0
  · obtain ⟨b, off, ha, hc⟩ := hr.cells.resolve_left (by omega)
    have hb : ¬ S b := hn h0 _ ha
    exact .inr ⟨b, off, ha, fun i hi => hx.cell (hc i hi) hb⟩
theorem TbAt.far {S : Nat → Prop} {w w' : World} {lo : Nat} {y : Tl} {T T0 : Tb} (h : TbAt w y T) (hl : TbLo lo y T0) (hD : T0.D = T.D) (hx : Exc S w w') (hS : Out S lo y) : TbAt w' y T := by
  obtain ⟨b1, b2, b3, b4, b5⟩ := h.fix.hb
  have no : ∀ k, lo ≤ k → k < y.hi → ¬ S k := fun k h1 h2 h3 => by have := hS k h3; omega
  refine ⟨⟨own_exc h.fix.own hx (no _ hl.tb b1), row_far h.fix.nrow hx fun h0 z hz => no _ (hl.aN z hz) (h.fix.hN h0 z hz), row_far h.fix.drow hx fun h0 z hz => no _ (hl.aD z hz) (h.fix.hD h0 z hz), h.fix.chs.exc hx (no _ hl.bc b2), fun d hd => ?_, h.fix.hN, h.fix.hD, h.fix.hb, Nat.le_trans h.fix.hi hx.size, h.fix.apart⟩, h.wf, h.ups.exc hx (no _ hl.bu b3), h.tol.exc hx (no _ hl.bt b4), h.sai.exc hx (no _ hl.bs b5)⟩
  obtain ⟨a, e1, e2, e3⟩ := h.fix.crow d hd
  exact ⟨a, e1, crow_exc0 e2 hx (fun h0 z hz => no _ (hl.ch d (hD ▸ hd) a _ e1 h0 z hz) (e3 h0 z hz)), e3⟩
end Go.Proofs.Ytdjmopipmeonlaa
/- TransfersFlood's own memory: tables, the list of them, who is up for whom; each beside the others. -/
namespace Go.Proofs.Ytdjmopipmeonlaa
set_option linter.unusedVariables false
set_option linter.unusedVariables false
open Go.RowKit Go.Maps

theorem infoTb : (Try.prog.info? 35).map (fun i => (i.zero, i.size, i.bytes)) = some (some (.pointer none), 1, 8) := by kernel_rfl
theorem infoSb : (Try.prog.info? 68).map (fun i => (i.zero, i.size, i.bytes)) = some (some (.slice none 0 0), 1, 24) := by kernel_rfl
theorem make_sb (n : Nat) (hn : n ≤ 1000) (w : World) :
    (Instr.makeSlice 67 (.int .i64 (n : Int)) (.int .i64 (n : Int))).run Try.prog w = .ok (.slice (some ⟨w.heap.size, 0, none⟩) n n) (w.alloc (.cells (madeCells #[.slice none 0 0] n) 68)) :=
  run_make_row' 67 68 (.slice none 0 0) 24 Try.underlying67 infoSb rfl .i64 .i64 n (by omega) (by omega) w
theorem wpList_append_tb {t : TypeId} (ht : Try.prog.underlying t = some (.slice 35))
    {ops : Array Oper} {rest : List Oper} {o : Oper} {a : Act} {Q : Exit → Act → World → Prop} {w0 : World} (hgd : o.guard = none) (s x : Operand)
    (ho : o.op = .call { callee := .builtin .append, args := #[s, x], argTypes := #[t, t] })
    (B : Nat) (v : Value) (n : Nat) (xs : List Value) (z : Option Addr) (hs : a.eval s = v) (hown : w0.ownsRow B 35 1 v n xs) (hx : a.eval x = .slice (some ⟨w0.heap.size, 0, none⟩) 1 1)
    (hn : n + 1 ≤ 1000) (hB : B ≤ w0.heap.size)
    (h : ∀ v' w', w'.ownsRow B 35 1 v' (n + 1) (xs ++ [.pointer z]) → Grow v w0 v' w' → (∃ g c, v' = .slice (some ⟨g, 0, none⟩) (n + 1) c) → wpList Try.prog ops Q rest (a.put o.dst v') w') :
    wpList Try.prog ops Q (o :: rest) a (w0.alloc (.cells #[.pointer z] 35)) := by
  obtain ⟨i0, hi, hz0, hz1, hz2⟩ := info_parts infoTb
  have hbb : (n + 1) * 8 ≤ 140737488355328 := by omega
  refine wpList_append_lies _ hgd s x t ho B 35 i0 (.pointer none) 1 8 ht hi hz0 hz1 hz2 rfl (by decide) v n xs hs (hown.alloc _) ⟨w0.heap.size, 0, none⟩ 1 1 [.pointer z] hx rfl (cell_one_new w0 _ _) (fun u hu => by simp at hu; subst hu; rfl) (by decide) (by unfold maxLen; omega) hbb (by simp; omega) (w0.heap.size + 1) (by simp) ?_
  intro g cap w' h1 h2 h3 h4
  refine h _ w' h1 ⟨?_, ?_⟩ ⟨_, _, rfl⟩
  · exact ((Exc.refl _ w0).alloc _).trans (Exc.of_grown h2) (fun _ _ hh => hh)
  · intro j hj
    simp only [Value.ownBlock, Option.some.injEq] at hj
    subst hj
    rcases h3 with h3 | h3
    · exact .inl h3
    · exact .inr (by omega)
def ptrs (ys : Nat → Tl) (i : Nat) : List Value := (List.range i).map fun j => .pointer (some ⟨(ys j).tb, 0, none⟩)
theorem ptrs_succ (ys : Nat → Tl) (i : Nat) : ptrs ys (i + 1) = ptrs ys i ++ [.pointer (some ⟨(ys i).tb, 0, none⟩)] := by
  unfold ptrs; rw [List.range_succ, List.map_append]; rfl
theorem ptrs_congr {ys zs : Nat → Tl} {i : Nat} (h : ∀ j, j < i → zs j = ys j) : ptrs zs i = ptrs ys i := List.map_congr_left fun j hj => by rw [h j (List.mem_range.1 hj)]
def tops (rows : Nat → Nat) (n i : Nat) : List Value := (List.range n).map fun j => if j < i then .slice (some ⟨rows j, 0, none⟩) n n else .slice none 0 0
theorem tops_length (rows : Nat → Nat) (n i : Nat) : (tops rows n i).length = n := by simp [tops]
theorem tops_getD (rows : Nat → Nat) {n i j : Nat} (hj : j < n) : (tops rows n i).getD j undef = if j < i then .slice (some ⟨rows j, 0, none⟩) n n else .slice none 0 0 := by
  unfold tops
  rw [List.getD_eq_getElem?_getD, List.getElem?_map, List.getElem?_range hj]; rfl
def updN {α : Type} (f : Nat → α) (i : Nat) (x : α) : Nat → α := fun j => if j = i then x else f j
theorem updN_same {α : Type} (f : Nat → α) (i : Nat) (x : α) : updN f i x i = x := if_pos rfl
theorem updN_lt {α : Type} {f : Nat → α} {i j : Nat} {x : α} (h : j ≠ i) : updN f i x j = f j := if_neg h
/-- it tables, iv of them in the list, ir rows; all above W's blocks. -/
structure Mk (W : World) (n it iv ir : Nat) (ys : Nat → Tl) (Ts : Nat → Tb) (los : Nat → Nat) (v : Value) (ub : Nat) (rows : Nat → Nat) (U : Nat → Nat → Bool) (w : World) : Prop where
  tabs : Tabs w it ys Ts
  lo : ∀ j, j < it → TbLo (los j) (ys j) (Ts j)
  muts : ∀ j, j < it → ∀ k, Mut (ys j) k → W.heap.size ≤ k
  ivle : iv ≤ it
  lrow : w.ownsRow W.heap.size 35 1 v iv (ptrs ys iv)
  top : Own w ub 68 (tops rows n ir)
  row : ∀ j, j < ir → RB w (rows j) n (U j)
  inj : ∀ j k, j < ir → k < ir → j ≠ k → rows j ≠ rows k
  ubW : W.heap.size ≤ ub
  vub : v.ownBlock ≠ some ub
  rowW : ∀ j, j < ir → W.heap.size ≤ rows j ∧ rows j ≠ ub ∧ v.ownBlock ≠ some (rows j)
  far : ∀ j, j < it → Out (fun k => k = ub ∨ v.ownBlock = some k ∨ ∃ q, q < ir ∧ k = rows q) (los j) (ys j)
  bel : Below W.heap.size W w
theorem Mk.start (W : World) (n : Nat) (ys : Nat → Tl) (Ts : Nat → Tb) (los rows : Nat → Nat) (U : Nat → Nat → Bool) : Mk W n 0 0 0 ys Ts los (.slice none 0 0) W.heap.size rows U (W.alloc (.cells (madeCells #[.slice none 0 0] n) 68)) := by
  have no : ∀ {j}, j < 0 → False := fun h => Nat.not_lt_zero _ h
  refine ⟨⟨fun j hj => (no hj).elim, fun i j hi => (no hi).elim⟩, fun j hj => (no hj).elim, fun j hj => (no hj).elim, Nat.le_refl _, by simpa [ptrs] using World.ownsRow_nil (W.alloc (.cells (madeCells #[.slice none 0 0] n) 68)) W.heap.size 35 1, ?_, fun j hj => (no hj).elim, fun j k hj => (no hj).elim, Nat.le_refl _, fun e => (by cases e), fun j hj => (no hj).elim, fun j hj => (no hj).elim, below_alloc W _⟩
  unfold Own
  rw [heap_alloc_new W _]
  congr 2
  apply Array.ext
  · simp [madeCells, tops]
  · intro i h1 h2
    simp [madeCells, tops, Nat.mod_one]
theorem Mk.below {W : World} {n it iv ir : Nat} {ys : Nat → Tl} {Ts : Nat → Tb} {los : Nat → Nat} {v : Value} {ub : Nat} {rows : Nat → Nat} {U : Nat → Nat → Bool} {w w' : World} (h : Mk W n it iv ir ys Ts los v ub rows U w) (hb : Below w.heap.size w w') : Mk W n it iv ir ys Ts los v ub rows U w' :=
  ⟨h.tabs.below hb, h.lo, h.muts, h.ivle, ownsRow_below h.lrow hb, Own.below h.top hb (Own.lt h.top), fun j hj => (h.row j hj).below hb, h.inj, h.ubW, h.vub, h.rowW, h.far, h.bel.trans (hb.mono h.bel.size)⟩
theorem Mk.mineLt {W : World} {n it iv ir : Nat} {ys : Nat → Tl} {Ts : Nat → Tb} {los : Nat → Nat} {v : Value} {ub : Nat} {rows : Nat → Nat} {U : Nat → Nat → Bool} {w : World} (h : Mk W n it iv ir ys Ts los v ub rows U w) : ∀ k, (k = ub ∨ v.ownBlock = some k ∨ ∃ q, q < ir ∧ k = rows q) → W.heap.size ≤ k ∧ k < w.heap.size := by
  rintro k (rfl | hk | ⟨q, hq, rfl⟩)
  · exact ⟨h.ubW, Own.lt h.top⟩
  · exact ownBlock_lt h.lrow hk
  · exact ⟨(h.rowW q hq).1, (h.row q hq).lt⟩
/-- A new table. -/
theorem Mk.table {W : World} {n it iv ir : Nat} {ys : Nat → Tl} {Ts : Nat → Tb} {los : Nat → Nat} {v : Value} {ub : Nat} {rows : Nat → Nat} {U : Nat → Nat → Bool} {w w' : World} (h : Mk W n it iv ir ys Ts los v ub rows U w) (hb : Below w.heap.size w w') {y : Tl} {T : Tb} (ht : TbAt w' y T) (hn : NewTl w.heap.size w'.heap.size y) (hl : TbLo w.heap.size y T) :
    Mk W n (it + 1) iv ir (updN ys it y) (updN Ts it T) (updN los it w.heap.size) v ub rows U w' := by
  have hW := h.bel.size
  refine ⟨⟨fun j hj => ?_, fun i j hi hj hne k hk => ?_⟩, fun j hj => ?_, fun j hj k hk => ?_, Nat.le_succ_of_le h.ivle, ?_, Own.below h.top hb (Own.lt h.top), fun j hj => (h.row j hj).below hb, h.inj, h.ubW, h.vub, h.rowW, fun j hj => ?_, h.bel.trans (hb.mono hW)⟩
  · by_cases e : j = it
    · subst e; rw [updN_same, updN_same]; exact ht
    · rw [updN_lt e, updN_lt e]; exact (h.tabs.tb j (by omega)).below hb
  · by_cases e : i = it
    · subst e
      rw [updN_same] at hk
      rw [updN_lt (Ne.symm hne)]
      have h1 := (h.tabs.tb j (by omega)).fix
      have h2 := h1.hb
      have h3 := h1.hi
      have q1 := hn.bu
      have q2 := hn.bt
      have q3 := hn.bs
      have h4 : w.heap.size ≤ k := by rcases hk with rfl | rfl | rfl <;> omega
      omega
    · rw [updN_lt e] at hk
      by_cases e2 : j = it
      · subst e2
        rw [updN_same]
        have h1 := (h.tabs.tb i (by omega)).fix
        have h2 := h1.hb
        have h3 := h1.hi
        have h4 : k < w.heap.size := by rcases hk with rfl | rfl | rfl <;> omega
        have := hn.bc; have := hn.bu; have := hn.bt; have := hn.bs
        omega
      · rw [updN_lt e2]
        exact h.tabs.apart i j (by omega) (by omega) hne k hk
  · by_cases e : j = it
    · subst e; rw [updN_same, updN_same, updN_same]; exact hl
    · rw [updN_lt e, updN_lt e, updN_lt e]; exact h.lo j (by omega)
  · by_cases e : j = it
    · subst e
      rw [updN_same] at hk
      have := hn.bu; have := hn.bt; have := hn.bs
      rcases hk with rfl | rfl | rfl <;> omega
    · rw [updN_lt e] at hk; exact h.muts j (by omega) k hk
  · rw [ptrs_congr fun j hj => updN_lt (by have := h.ivle; omega)]
    exact ownsRow_below h.lrow hb
  · by_cases e : j = it
    · subst e
      rw [updN_same, updN_same]
      exact fun k hk => .inl (h.mineLt k hk).2
    · rw [updN_lt e, updN_lt e]; exact h.far j (by omega)
/-- The list has one more. -/
theorem Mk.push {W : World} {n it iv ir : Nat} {ys : Nat → Tl} {Ts : Nat → Tb} {los : Nat → Nat} {v : Value} {ub : Nat} {rows : Nat → Nat} {U : Nat → Nat → Bool} {w w' : World} (h : Mk W n it iv ir ys Ts los v ub rows U w) (hv : iv < it) {v' : Value} (ho : w'.ownsRow W.heap.size 35 1 v' (iv + 1) (ptrs ys (iv + 1))) (hg : Grow v w v' w') :
    Mk W n it (iv + 1) ir ys Ts los v' ub rows U w' := by
  have hsz := hg.exc.size
  have nv : ∀ k, k < w.heap.size → v.ownBlock ≠ some k → v'.ownBlock ≠ some k := fun k h1 h2 h3 => by
    rcases hg.lies k h3 with h4 | h4
    · exact h2 h4
    · omega
  refine ⟨⟨fun j hj => (h.tabs.tb j hj).far (h.lo j hj) rfl hg.exc fun k hk => h.far j hj k (.inr (.inl hk)), h.tabs.apart⟩, h.lo, h.muts, hv, ho, own_exc h.top hg.exc h.vub, fun j hj => (h.row j hj).exc hg.exc (h.rowW j hj).2.2, h.inj, h.ubW, nv ub (Own.lt h.top) h.vub, fun j hj => ⟨(h.rowW j hj).1, (h.rowW j hj).2.1, nv _ (h.row j hj).lt (h.rowW j hj).2.2⟩, fun j hj k hk => ?_, h.bel.trans (hg.exc.below h.bel.size fun k _ hk => (ownBlock_lt h.lrow hk).1)⟩
  rcases hk with hk | hk | hk
  · exact h.far j hj k (.inl hk)
  · rcases hg.lies k hk with h4 | h4
    · exact h.far j hj k (.inr (.inl h4))
    · exact .inr (Nat.le_trans (h.tabs.tb j hj).fix.hi h4)
  · exact h.far j hj k (.inr (.inr hk))
/-- One more row. -/
theorem Mk.addRow {W : World} {n it iv ir : Nat} {ys : Nat → Tl} {Ts : Nat → Tb} {los : Nat → Nat} {v : Value} {ub : Nat} {rows : Nat → Nat} {U : Nat → Nat → Bool} {w : World} (h : Mk W n it iv ir ys Ts los v ub rows U w) (hr : ir < n) :
    Mk W n it iv (ir + 1) ys Ts los v ub (updN rows ir w.heap.size) (updN U ir fun _ => false) ((w.alloc (.cells (madeCells #[.bool false] n) 4)).setCell ⟨ub, ir, none⟩ (.slice (some ⟨w.heap.size, 0, none⟩) n n)) := by
  obtain ⟨w1, hw1⟩ : ∃ w1, w1 = w.alloc (.cells (madeCells #[.bool false] n) 4) := ⟨_, rfl⟩
  have hb : Below w.heap.size w w1 := by rw [hw1]; exact below_alloc w _
  have hrb : RB w1 w.heap.size n (fun _ => false) := by rw [hw1]; exact rb_made n w
  rw [← hw1]
  have h1 := h.below hb
  have hub := Own.lt h.top
  have hx : Exc (fun q => q = ub) w1 (w1.setCell ⟨ub, ir, none⟩ (.slice (some ⟨w.heap.size, 0, none⟩) n n)) := (Exc.refl (fun q => q = ub) w1).setCell ⟨ub, ir, none⟩ (.inl rfl) _
  have hvl : ∀ k, v.ownBlock = some k → k < w.heap.size := fun k hk => (ownBlock_lt h.lrow hk).2
  refine ⟨⟨fun j hj => (h1.tabs.tb j hj).far (h.lo j hj) rfl hx fun k hk => h.far j hj k (.inl hk), h.tabs.apart⟩, h.lo, h.muts, h.ivle, ownsRow_exc h1.lrow hx (fun k hk e => h.vub (e ▸ hk)), ?_, fun j hj => ?_, fun j k hj hk hne => ?_, h.ubW, h.vub, fun j hj => ?_, fun j hj k hk => ?_, h1.bel.trans (hx.below h1.bel.size fun k _ hk => by rw [hk]; exact h.ubW)⟩
  · have h2 := Own.set h1.top ir (.slice (some ⟨w.heap.size, 0, none⟩) n n)
    have e : (tops rows n ir).set ir (.slice (some ⟨w.heap.size, 0, none⟩) n n) = tops (updN rows ir w.heap.size) n (ir + 1) := by
      refine List.ext_getElem? fun q => ?_
      unfold tops
      by_cases hq : q < n
      · by_cases e : ir = q
        · subst e
          rw [List.getElem?_set_self (by simpa using hq), List.getElem?_map, List.getElem?_range hq]
          simp [updN_same]
        · have e2 : q ≠ ir := fun h => e h.symm
          rw [List.getElem?_set_ne e, List.getElem?_map, List.getElem?_map, List.getElem?_range hq]
          simp only [Option.map_some, updN_lt e2]
          by_cases e3 : q < ir
          · rw [if_pos e3, if_pos (by omega)]
          · rw [if_neg e3, if_neg (by omega)]
      · rw [List.getElem?_eq_none (by simp; omega), List.getElem?_eq_none (by simp; omega)]
    rw [e] at h2
    exact h2
  · by_cases e : j = ir
    · subst e
      rw [updN_same, updN_same]
      exact hrb.exc hx (by omega)
    · rw [updN_lt e, updN_lt e]
      exact (h1.row j (by omega)).exc hx (h.rowW j (by omega)).2.1
  · by_cases e : j = ir
    · subst e
      rw [updN_same, updN_lt (Ne.symm hne)]
      have := (h.row k (by omega)).lt; omega
    · by_cases e2 : k = ir
      · subst e2
        rw [updN_same, updN_lt e]
        have := (h.row j (by omega)).lt; omega
      · rw [updN_lt e, updN_lt e2]; exact h.inj j k (by omega) (by omega) hne
  · by_cases e : j = ir
    · subst e
      rw [updN_same]
      exact ⟨h.bel.size, by omega, fun e => by have := hvl _ e; omega⟩
    · rw [updN_lt e]; exact h.rowW j (by omega)
  · rcases hk with hk | hk | ⟨q, hq, hk⟩
    · exact h.far j hj k (.inl hk)
    · exact h.far j hj k (.inr (.inl hk))
    · by_cases e : q = ir
      · subst e
        rw [updN_same] at hk
        exact .inr (by rw [hk]; exact (h.tabs.tb j hj).fix.hi)
      · rw [updN_lt e] at hk
        exact h.far j hj k (.inr (.inr ⟨q, by omega, hk⟩))
/-- An entry of a row is written. -/
theorem Mk.setRow {W : World} {n it iv ir : Nat} {ys : Nat → Tl} {Ts : Nat → Tb} {los : Nat → Nat} {v : Value} {ub : Nat} {rows : Nat → Nat} {U : Nat → Nat → Bool} {w : World} (h : Mk W n it iv ir ys Ts los v ub rows U w) {i : Nat} (hi : i < ir) (k : Nat) (b : Bool) :
    Mk W n it iv ir ys Ts los v ub rows (updN U i (updB (U i) k b)) (w.setCell ⟨rows i, k, none⟩ (.bool b)) := by
  have hx : Exc (fun q => q = rows i) w (w.setCell ⟨rows i, k, none⟩ (.bool b)) := (Exc.refl (fun q => q = rows i) w).setCell ⟨rows i, k, none⟩ (.inl rfl) _
  refine ⟨⟨fun j hj => (h.tabs.tb j hj).far (h.lo j hj) rfl hx fun q hq => h.far j hj q (.inr (.inr ⟨i, hi, hq⟩)), h.tabs.apart⟩, h.lo, h.muts, h.ivle, ownsRow_exc h.lrow hx (fun q hq e => (h.rowW i hi).2.2 (e ▸ hq)), own_exc h.top hx (fun e => (h.rowW i hi).2.1 e.symm), fun j hj => ?_, h.inj, h.ubW, h.vub, h.rowW, h.far, h.bel.trans (hx.below h.bel.size fun q _ hq => by rw [hq]; exact (h.rowW i hi).1)⟩
  by_cases e : j = i
  · subst e; rw [updN_same]; exact (h.row j hj).set k b
  · rw [updN_lt e]; exact (h.row j hj).exc hx fun e9 => h.inj j i hj hi e e9
/-- The tables have acted. -/
theorem Mk.acted {W : World} {n it iv ir : Nat} {ys : Nat → Tl} {Ts Ts' : Nat → Tb} {los : Nat → Nat} {v : Value} {ub : Nat} {rows : Nat → Nat} {U : Nat → Nat → Bool} {w w' : World} (h : Mk W n it iv ir ys Ts los v ub rows U w) (ht : Tabs w' it ys Ts') (hD : ∀ j, j < it → (Ts' j).D = (Ts j).D) (hx : Exc (AllMut it ys) w w') : Mk W n it iv ir ys Ts' los v ub rows U w' := by
  have nm : ∀ k {b t cs}, Own w b t cs → k = b → ¬ AllMut it ys k := fun k b t cs ho e ⟨i, hi, hm⟩ => by
    obtain ⟨es, clock, hb⟩ := (h.tabs.tb i hi).mutMap hm
    subst e
    exact own_map ho hb
  refine ⟨ht, fun j hj => ⟨(h.lo j hj).tb, (h.lo j hj).bc, (h.lo j hj).bu, (h.lo j hj).bt, (h.lo j hj).bs, (h.lo j hj).aN, (h.lo j hj).aD, fun d hd => (h.lo j hj).ch d (hD j hj ▸ hd)⟩, h.muts, h.ivle, ownsRow_exc h.lrow hx (fun k hk hs => ?_), h.tabs.own hx h.top, fun j hj => h.tabs.own hx (h.row j hj), h.inj, h.ubW, h.vub, h.rowW, h.far, h.bel.trans (hx.below h.bel.size fun k _ ⟨i, hi, hm⟩ => h.muts i hi k hm)⟩
  obtain ⟨i, hi, hm⟩ := hs
  obtain ⟨es, clock, hb⟩ := (h.tabs.tb i hi).mutMap hm
  rcases h.lrow.2 with ⟨rfl, _⟩ | ⟨g, cap, cur, rfl, _, hg, _⟩
  · cases hk
  · simp only [Value.ownBlock, Option.some.injEq] at hk
    subst hk
    rw [hg] at hb; cases hb
theorem Mk.list {W : World} {n it ir : Nat} {ys : Nat → Tl} {Ts : Nat → Tb} {los : Nat → Nat} {v : Value} {ub : Nat} {rows : Nat → Nat} {U : Nat → Nat → Bool} {w : World} (h : Mk W n it n ir ys Ts los v ub rows U w) (hn : 0 < n) : ∃ lb c, v = .slice (some ⟨lb, 0, none⟩) n c := by
  rcases h.lrow.2 with ⟨rfl, h0⟩ | ⟨g, cap, cur, rfl, hb, hg, hle, hc, hs, ht⟩
  · omega
  · exact ⟨g, cap, rfl⟩
theorem Mk.trow {W : World} {n it ir : Nat} {ys : Nat → Tl} {Ts : Nat → Tb} {los : Nat → Nat} {lb c : Nat} {ub : Nat} {rows : Nat → Nat} {U : Nat → Nat → Bool} {w : World} (h : Mk W n it n ir ys Ts los (.slice (some ⟨lb, 0, none⟩) n c) ub rows U w) : TRow w lb n c ys := by
  rcases h.lrow.2 with ⟨h1, h0⟩ | ⟨g, cap, cur, h1, hb, hg, hle, hc, hs, ht⟩
  · cases h1
  · cases h1
    refine ⟨hle, hc, fun i hi => ?_⟩
    have ho : Own w lb 35 (ptrs ys n ++ cur.toList.drop (n * 1)) := by
      unfold Own
      rw [hg, ← ht, List.take_append_drop]
    have hl : (ptrs ys n).length = n := by simp [ptrs]
    rw [ho.cell i (by rw [List.length_append]; omega), List.getD_eq_getElem?_getD, List.getElem?_append_left (by omega)]
    unfold ptrs
    rw [List.getElem?_map, List.getElem?_range hi]; rfl
theorem Mk.upt {W : World} {n it iv : Nat} {ys : Nat → Tl} {Ts : Nat → Tb} {los : Nat → Nat} {v : Value} {ub : Nat} {rows : Nat → Nat} {U : Nat → Nat → Bool} {w : World} (h : Mk W n it iv n ys Ts los v ub rows U w) : UpT w ub n rows U :=
  ⟨fun i hi => by rw [h.top.cell i (by rw [tops_length]; exact hi), tops_getD rows hi, if_pos hi], h.row, h.inj⟩
theorem Mk.congrU {W : World} {n it iv ir : Nat} {ys : Nat → Tl} {Ts : Nat → Tb} {los : Nat → Nat} {v : Value} {ub : Nat} {rows : Nat → Nat} {U U' : Nat → Nat → Bool} {w : World} (h : Mk W n it iv ir ys Ts los v ub rows U w) (e : ∀ j, j < ir → ∀ k, k < n → U' j k = U j k) : Mk W n it iv ir ys Ts los v ub rows U' w :=
  ⟨h.tabs, h.lo, h.muts, h.ivle, h.lrow, h.top, fun j hj => (h.row j hj).congr (e j hj), h.inj, h.ubW, h.vub, h.rowW, h.far, h.bel⟩
/-- What holds of the first i tables before anything is told. -/
structure One (p : Pn) (n i : Nat) (Ts : Nat → Tb) (U : Nat → Nat → Bool) : Prop where
  inv : ∀ j, j < i → Inv p j (Ts j)
  new : ∀ j, j < i → (Ts j).up = (fun _ => true) ∧ (Ts j).told = (fun _ _ => 0) ∧ (Ts j).said = (fun _ _ => 0)
  u : ∀ j, j < i → ∀ k, k < n → U j k = decide (pc p.P k ∈ nbrs p (pc p.P j))
theorem One.start (p : Pn) (n : Nat) (Ts : Nat → Tb) (U : Nat → Nat → Bool) : One p n 0 Ts U := ⟨fun j hj => absurd hj (Nat.not_lt_zero _), fun j hj => absurd hj (Nat.not_lt_zero _), fun j hj => absurd hj (Nat.not_lt_zero _)⟩
def setAll (n : Nat) (U : Nat → Nat → Bool) : Nat → Nat → Bool := fun i j => if i < n ∧ j < n then U i j else false
theorem One.net {x : Nn} {p : Pn} {n m : Nat} {Ts : Nat → Tb} {U : Nat → Nat → Bool} (hp : PF x p n m) (h : One p n n Ts U) : Net p n (setAll n U) Ts := by
  refine ⟨h.inv, fun i j hi hj hN => ?_, fun i j => ?_, fun i j hi hj hU => ?_, fun i j d hi hj hd => ?_⟩
  · rw [(h.inv i hi).N] at hN
    unfold setAll
    rw [if_pos ⟨hi, hj⟩, (h.new i hi).1, h.u i hi j hj, decide_eq_true hN]
  · unfold setAll
    by_cases e : i < n ∧ j < n
    · rw [if_pos e, if_pos ⟨e.2, e.1⟩, h.u i e.1 j e.2, h.u j e.2 i e.1]
      have h1 : pc p.P j ∈ nbrs p (pc p.P i) ↔ pc p.P i ∈ nbrs p (pc p.P j) := by rw [mem_nbrs hp.valid, mem_nbrs hp.valid, nearN_comm]
      simp only [h1]
    · rw [if_neg e, if_neg fun h9 => e ⟨h9.2, h9.1⟩]
  · unfold setAll at hU
    rw [if_pos ⟨hi, hj⟩, h.u i hi j hj] at hU
    rw [(h.inv i hi).N]
    exact of_decide_eq_true hU
  · rw [(h.new j hj).2.1, (h.new i hi).2.2]
end Go.Proofs.Ytdjmopipmeonlaa
