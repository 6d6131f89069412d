import Derived.Test.YtdjmopipmeonlaaTpNew
import Derived.Test.YtdjmopipmeonlaaTpOpen
/- TransfersPlay: table and model beside each other between the acts; statuses of all places. -/
namespace Go.Proofs.Ytdjmopipmeonlaa
set_option linter.unusedVariables false
open Go.RowKit Go.Maps

/-- What lies where, for good: what is older than W; the table's maps; the model. -/
structure PlFix (W : World) (y : Tl) (mb : Nat) (aP aL : Option Addr) : Prop where
  bu : W.heap.size ≤ y.bu
  bt : W.heap.size ≤ y.bt
  bs : W.heap.size ≤ y.bs
  hm : y.hi ≤ mb
  mw : W.heap.size ≤ mb
  p : ∀ z, aP = some z → z.block < W.heap.size
  l : ∀ z, aL = some z → z.block < W.heap.size
theorem PlFix.apart {W : World} {y : Tl} {mb : Nat} {aP aL : Option Addr} (h : PlFix W y mb aP aL) : Apart mb aP aL := ⟨fun z hz => Nat.lt_of_lt_of_le (h.p z hz) h.mw, fun z hz => Nat.lt_of_lt_of_le (h.l z hz) h.mw⟩
/-- Table and model know the same. -/
structure PlAt (W w : World) (y : Tl) (mb : Nat) (aP : Option Addr) (n cP : Nat) (aL : Option Addr) (m cL : Nat) (p : Pn) (q : Nat) (T : Tb) : Prop where
  inv : Inv p q T
  tb : TbAt w y T
  mw : MW w mb aP n cP aL m cL p q T
  bel : Below W.heap.size W w
theorem PlAt.later {W w w' : World} {y : Tl} {mb : Nat} {aP : Option Addr} {n cP : Nat} {aL : Option Addr} {m cL : Nat} {p : Pn} {q : Nat} {T : Tb} (h : PlAt W w y mb aP n cP aL m cL p q T) (hb : Below w.heap.size w w') : PlAt W w' y mb aP n cP aL m cL p q T :=
  ⟨h.inv, h.tb.below hb, h.mw.below hb, h.bel.trans (hb.mono h.bel.size)⟩
/-- Behind the model's act: the table as it was. -/
theorem PlAt.did {W w w' : World} {y : Tl} {mb : Nat} {aP : Option Addr} {n cP : Nat} {aL : Option Addr} {m cL : Nat} {p : Pn} {q : Nat} {T : Tb} (h : PlAt W w y mb aP n cP aL m cL p q T) (hf : PlFix W y mb aP aL) (hx : Exc (fun k => k = mb) w w') : TbAt w' y T ∧ Below W.heap.size W w' :=
  ⟨h.tb.exc hx fun k hk _ => by subst hk; exact .inl hf.hm, h.bel.trans (hx.below h.bel.size fun k _ hk => by subst hk; exact hf.mw)⟩
theorem PlFix.mut {W : World} {y : Tl} {mb : Nat} {aP aL : Option Addr} (h : PlFix W y mb aP aL) {k : Nat} (hk : Mut y k) : W.heap.size ≤ k := by
  rcases hk with rfl | rfl | rfl
  · exact h.bu
  · exact h.bt
  · exact h.bs
/-- Behind the table's act. -/
theorem PlAt.played {W w w' : World} {y : Tl} {mb : Nat} {aP : Option Addr} {n cP : Nat} {aL : Option Addr} {m cL : Nat} {p : Pn} {q : Nat} {T : Tb} (hI : Inv p q T) (hm : MW w mb aP n cP aL m cL p q T) (hb : Below W.heap.size W w) (hf : PlFix W y mb aP aL) (ht : TbAt w' y T) (hx : Exc (Mut y) w w') : PlAt W w' y mb aP n cP aL m cL p q T := by
  obtain ⟨b1, b2, b3, b4, b5⟩ := ht.fix.hb
  have h1 := hf.hm
  refine ⟨hI, ht, hm.exc hx (fun hk => ?_) (fun z hz hk => ?_) (fun z hz hk => ?_), hb.trans (hx.below hb.size fun k _ hk => hf.mut hk)⟩
  · rcases hk with e | e | e <;> omega
  · have := hf.mut hk; have := hf.p z hz; omega
  · have := hf.mut hk; have := hf.l z hz; omega
/-- The status of a place. -/
def stP (T : Tb) (p : Pn) (q k : Nat) : Int := if k = q then 0 else T.st (pc p.P k)
theorem Inv.memD {p : Pn} {q : Nat} {T : Tb} (h : Inv p q T) {x : Nn} {n m : Nat} (hp : PF x p n m) (hq : q < n) {k : Nat} (hk : k < n) (hne : k ≠ q) : pc p.P k ≠ T.me ∧ pc p.P k ∈ T.D := by
  have hlen := hp.len
  have h1 : pc p.P k ≠ pc p.P q := fun e => hne ((pc_inj hp (by omega) (by omega)).1 e)
  rw [h.me, h.D]
  refine ⟨h1, mem_dests.2 ⟨?_, h1⟩⟩
  unfold codesP pc
  rw [List.getD_eq_getElem?_getD, List.getElem?_eq_getElem (by omega)]
  exact List.mem_map_of_mem (List.getElem_mem _)
theorem status_p {x : Nn} {p : Pn} {n m q : Nat} {T : Tb} {y : Tl} (hp : PF x p n m) (hI : Inv p q T) (hq : q < n) (k : Nat) (hk : k < n) (w : World) (h : TbAt w y T) :
    Calls Try.prog 13 #[.pointer (some ⟨y.tb, 0, none⟩), .int .u16 (pc p.P k)] w fun e w' => e = .returned (.tuple #[.int .u8 (stP T p q k), .int .i64 0]) ∧ Below w.heap.size w w' := by
  unfold stP
  by_cases hkq : k = q
  · subst hkq
    rw [if_pos rfl, ← hI.me]
    exact status_me w h
  · rw [if_neg hkq]
    obtain ⟨h1, h2⟩ := hI.memD hp hq hk hkq
    exact status_ok _ w h h1 h2
theorem mstatus_p {x : Nn} {p : Pn} {n m q : Nat} {T : Tb} (hp : PF x p n m) (hI : Inv p q T) (hq : q < n) (mb : Nat) (a : Option Addr) (c : Nat) (a' : Option Addr) (c' : Nat) (k : Nat) (hk : k < n) (w : World) (h : MW w mb a n c a' m c' p q T) :
    Calls Try.prog 14 #[.pointer (some ⟨mb, 0, none⟩), .int .i64 k] w fun e w' => e = .returned (.int .u8 (stP T p q k)) ∧ Below w.heap.size w w' := by
  unfold stP
  by_cases hkq : k = q
  · subst hkq
    rw [if_pos rfl]
    exact mstatus_me hp mb a c a' c' w h
  · rw [if_neg hkq]
    exact mstatus_ok hp hI hq mb a c a' c' k hk hkq w h
theorem NRow.big {w w' : World} {y : Tl} {a : Option Addr} {n c : Nat} {X : List (Int × Int × Int)} {B : Nat} (h : NRow w a n c X) (hx : Exc (Mut y) w w') (ha : ∀ z, a = some z → B ≤ z.block) (hB : y.bu < B ∧ y.bt < B ∧ y.bs < B) : NRow w' a n c X :=
  h.exc hx fun z hz hk => by
    have := ha z hz
    rcases hk with e | e | e <;> omega
end Go.Proofs.Ytdjmopipmeonlaa
