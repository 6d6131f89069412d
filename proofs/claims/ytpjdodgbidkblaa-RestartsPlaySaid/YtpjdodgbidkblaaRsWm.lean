/- The machine and the model's two rows in one memory. -/
import Derived.Test.YtpjdodgbidkblaaRsInv
import Derived.Test.YtpjdodgbidkblaaFnRow
namespace Go.Proofs.Ytpjdodgbidkblaa
open Go.RowKit Go.Maps

def bV (U : Nat → Bool) : Nat → Value := fun i => .bool (U i)
structure Wm (w wr : World) (mb bm pu pd : Nat) (m : Mc) (U D : Nat → Bool) : Prop where
  mc : McAt wr mb bm m
  us : FR wr pu 33 6 (bV U)
  ds : FR wr pd 33 6 (bV D)
  bel : Below w.heap.size w wr
  lo : w.heap.size ≤ mb ∧ w.heap.size ≤ bm ∧ w.heap.size ≤ pu ∧ w.heap.size ≤ pd
  ne : pu ≠ mb ∧ pu ≠ bm ∧ pd ≠ mb ∧ pd ≠ bm ∧ pu ≠ pd
section
variable {w wr w' : World} {mb bm pu pd : Nat} {m m' : Mc} {U D : Nat → Bool}
theorem Wm.act (h : Wm w wr mb bm pu pd m U D) (hm : McAt w' mb bm m') (hx : Exc (Mu mb bm) wr w') : Wm w w' mb bm pu pd m' U D := by
  obtain ⟨n1, n2, n3, n4, n5⟩ := h.ne
  obtain ⟨l1, l2, l3, l4⟩ := h.lo
  exact ⟨hm, h.us.exc hx (fun hh => by rcases hh with hh | hh <;> omega), h.ds.exc hx (fun hh => by rcases hh with hh | hh <;> omega), h.bel.trans (hx.below h.bel.size (fun i _ hi => by rcases hi with hi | hi <;> omega)), h.lo, h.ne⟩
theorem bV_upd (U : Nat → Bool) (k : Nat) (x : Bool) (i : Nat) : bV (updB U k x) i = if i = k then .bool x else bV U i := by
  unfold bV updB
  by_cases h : i = k
  · rw [if_pos h, if_pos h]
  · rw [if_neg h, if_neg h]
theorem Wm.setU (h : Wm w wr mb bm pu pd m U D) (k : Nat) (x : Bool) : Wm w (wr.setCell ⟨pu, k, none⟩ (.bool x)) mb bm pu pd m (updB U k x) D := by
  obtain ⟨n1, n2, n3, n4, n5⟩ := h.ne
  obtain ⟨l1, l2, l3, l4⟩ := h.lo
  have hx : Exc (fun i => i = pu) wr (wr.setCell ⟨pu, k, none⟩ (.bool x)) := (Exc.refl (fun i => i = pu) wr).setCell ⟨pu, k, none⟩ (.inl rfl) _
  exact ⟨h.mc.exc hx (fun e => n1 e.symm) (fun e => n2 e.symm), (h.us.set k (.bool x)).congr (fun i _ => bV_upd U k x i), h.ds.exc hx (fun e => n5 e.symm), h.bel.trans (hx.below h.bel.size (fun i _ hi => by rw [hi]; exact l3)), h.lo, h.ne⟩
theorem Wm.setD (h : Wm w wr mb bm pu pd m U D) (k : Nat) (x : Bool) : Wm w (wr.setCell ⟨pd, k, none⟩ (.bool x)) mb bm pu pd m U (updB D k x) := by
  obtain ⟨n1, n2, n3, n4, n5⟩ := h.ne
  obtain ⟨l1, l2, l3, l4⟩ := h.lo
  have hx : Exc (fun i => i = pd) wr (wr.setCell ⟨pd, k, none⟩ (.bool x)) := (Exc.refl (fun i => i = pd) wr).setCell ⟨pd, k, none⟩ (.inl rfl) _
  exact ⟨h.mc.exc hx (fun e => n3 e.symm) (fun e => n4 e.symm), h.us.exc hx n5, (h.ds.set k (.bool x)).congr (fun i _ => bV_upd D k x i), h.bel.trans (hx.below h.bel.size (fun i _ hi => by rw [hi]; exact l4)), h.lo, h.ne⟩
theorem Wm.congr (h : Wm w wr mb bm pu pd m U D) {U' D' : Nat → Bool} (e : ∀ i, i < 6 → U' i = U i) (e2 : ∀ i, i < 6 → D' i = D i) : Wm w wr mb bm pu pd m U' D' :=
  ⟨h.mc, h.us.congr (fun i hi => by unfold bV; rw [e i hi]), h.ds.congr (fun i hi => by unfold bV; rw [e2 i hi]), h.bel, h.lo, h.ne⟩
end
/-- All of it between two acts. -/
structure PlAt (w wr : World) (mb bm pu pd n : Nat) (base : Int) (f : Nat → Bool × Bool) (U D : Nat → Bool) (st beg now since : Int) : Prop where
  wm : Wm w wr mb bm pu pd (mcN 10 n f base st beg) U D
  inv : Inv n f U D st beg since
  now0 : 0 ≤ now
  beg0 : 0 ≤ beg ∧ beg ≤ now
  since0 : 0 ≤ since ∧ since ≤ now
section
variable {w wr w' : World} {mb bm pu pd n k : Nat} {base : Int} {f : Nat → Bool × Bool} {U D : Nat → Bool} {st beg now since T : Int}
theorem PlAt.same (hp : PlAt w wr mb bm pu pd n base f U D st beg now since) (hT : now ≤ T) (hw : Wm w w' mb bm pu pd (mcN 10 n f base st beg) U D) : PlAt w w' mb bm pu pd n base f U D st beg T since :=
  ⟨hw, hp.inv, Int.le_trans hp.now0 hT, ⟨hp.beg0.1, Int.le_trans hp.beg0.2 hT⟩, ⟨hp.since0.1, Int.le_trans hp.since0.2 hT⟩⟩
theorem PlAt.up1 (hp : PlAt w wr mb bm pu pd n base f U D 1 beg now since) (hT : now ≤ T) (hk : k < n) (hw : Wm w w' mb bm pu pd (mcN 10 n (updF f k (true, (f k).2)) base 2 T) (updB U k true) D) :
    PlAt w w' mb bm pu pd n base (updF f k (true, (f k).2)) (updB U k true) D 2 T T T := by
  have h := hp.inv.acts_up (now := T) hk
  rw [if_pos rfl, if_pos rfl, if_pos rfl] at h
  have h0 := Int.le_trans hp.now0 hT
  exact ⟨hw, h, h0, ⟨h0, Int.le_refl _⟩, ⟨h0, Int.le_refl _⟩⟩
theorem PlAt.up2 (hp : PlAt w wr mb bm pu pd n base f U D st beg now since) (hs : st ≠ 1) (hT : now ≤ T) (hk : k < n) (hw : Wm w w' mb bm pu pd (mcN 10 n (updF f k (true, (f k).2)) base st beg) (updB U k true) D) :
    PlAt w w' mb bm pu pd n base (updF f k (true, (f k).2)) (updB U k true) D st beg T since := by
  have h := hp.inv.acts_up (now := T) hk
  rw [if_neg hs, if_neg hs, if_neg hs] at h
  exact ⟨hw, h, Int.le_trans hp.now0 hT, ⟨hp.beg0.1, Int.le_trans hp.beg0.2 hT⟩, ⟨hp.since0.1, Int.le_trans hp.since0.2 hT⟩⟩
theorem PlAt.down (hp : PlAt w wr mb bm pu pd n base f U D st beg now since) (hT : now ≤ T) {st' : Int} (hs : st' = if anyN n (updB U k false) = true then st else 1)
    (hw : Wm w w' mb bm pu pd (mcN 10 n (updF f k (false, false)) base (if (anyN n fun i => (updF f k (false, false) i).1) = true then st else 1) beg) (updB U k false) (updB D k false)) :
    PlAt w w' mb bm pu pd n base (updF f k (false, false)) (updB U k false) (updB D k false) st' beg T since := by
  rw [hp.inv.any_down, ← hs] at hw
  have h := hp.inv.acts_down (k := k)
  rw [← hs] at h
  exact ⟨hw, h, Int.le_trans hp.now0 hT, ⟨hp.beg0.1, Int.le_trans hp.beg0.2 hT⟩, ⟨hp.since0.1, Int.le_trans hp.since0.2 hT⟩⟩
theorem PlAt.done2 (hp : PlAt w wr mb bm pu pd n base f U D 2 beg now since) (hT : now ≤ T) (hk : k < n) (hu : U k = true)
    (hw : Wm w w' mb bm pu pd (mcN 10 n (updF f k (true, true)) base 2 beg) U (updB D k true)) :
    PlAt w w' mb bm pu pd n base (updF f k (true, true)) U (updB D k true) 2 beg T since :=
  ⟨hw, hp.inv.acts_done hk hu, Int.le_trans hp.now0 hT, ⟨hp.beg0.1, Int.le_trans hp.beg0.2 hT⟩, ⟨hp.since0.1, Int.le_trans hp.since0.2 hT⟩⟩
theorem PlAt.ready (hp : PlAt w wr mb bm pu pd n base f U D st beg now since) (hT : now ≤ T) (hw : Wm w w' mb bm pu pd (mcN 10 n f base 0 beg) U (fun _ => false)) : PlAt w w' mb bm pu pd n base f U (fun _ => false) 0 beg T since :=
  ⟨hw, hp.inv.acts_ready, Int.le_trans hp.now0 hT, ⟨hp.beg0.1, Int.le_trans hp.beg0.2 hT⟩, ⟨hp.since0.1, Int.le_trans hp.since0.2 hT⟩⟩
theorem PlAt.ends0 (hs : st ≠ 2) : (mcN 10 n f base st beg).ends T = false := by
  unfold Mc.ends
  rw [mcN_st, decide_eq_false hs, Bool.false_and]
theorem PlAt.ends2 (hp : PlAt w wr mb bm pu pd n base f U D 2 beg now since) (hb : base ≤ 255) (hn : now ≤ 1000000) : (mcN 10 n f base 2 beg).ends T = (!(anyN n fun i => U i && !D i) || decide (since + base ≤ T)) := by
  have h1 := hp.beg0
  rw [mcN_ends (by omega), decide_eq_true rfl, Bool.true_and, hp.inv.any_open, (hp.inv.wt rfl).2]
end
/-- The row of the done ones, made empty. -/
theorem Wm.clearD {w wr : World} {mb bm pu pd : Nat} {m : Mc} {U D : Nat → Bool} (h : Wm w wr mb bm pu pd m U D) :
    Wm w ((((((wr.setCell ⟨pd, 0, none⟩ (.bool false)).setCell ⟨pd, 1, none⟩ (.bool false)).setCell ⟨pd, 2, none⟩ (.bool false)).setCell ⟨pd, 3, none⟩ (.bool false)).setCell ⟨pd, 4, none⟩ (.bool false)).setCell ⟨pd, 5, none⟩ (.bool false)) mb bm pu pd m U (fun _ => false) := by
  refine ((((((h.setD 0 false).setD 1 false).setD 2 false).setD 3 false).setD 4 false).setD 5 false).congr (fun _ _ => rfl) fun i hi => ?_
  rcases (show i = 0 ∨ i = 1 ∨ i = 2 ∨ i = 3 ∨ i = 4 ∨ i = 5 by omega) with rfl | rfl | rfl | rfl | rfl | rfl <;> rfl
theorem T_next {T : Int} {j : Nat} (h : T ≤ 60 * ((j : Int) + 1)) : T ≤ 60 * ((j + 1 : Nat) : Int) := by omega
theorem play_meas {j N : Nat} (h : j < N) : N - (intOf (.int .i64 ((j : Int) + 1))).toNat < N - (intOf (.int .i64 (j : Int))).toNat := by simp [intOf]; omega
theorem pt_in {k n : Nat} (h : k < n) : 10 + (k : Int) ∈ ptsL 10 n := by rw [ptsL_mem]; omega
theorem pt_out {k n : Nat} (h : ¬ k < n) : 10 + (k : Int) ∉ ptsL 10 n := by rw [ptsL_mem]; omega
end Go.Proofs.Ytpjdodgbidkblaa
