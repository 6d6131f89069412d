/- Joined: TgReach TgRW. -/
import Derived.Test.YtdjmopipmeonlaaTgRow
import Derived.Test.YtdjmopipmeonlaaPcSmall
import Derived.Deep.Cut
import Derived.Deep.MidRow
import Derived.Deep.RegionHeld3
import Derived.Deep.RegionLaw
import Derived.BigRegion
import Derived.BigQuiet
import Derived.IntWalk
/- Which places have a way of choices to a destination: what reach computes. -/
namespace Go.Proofs.Ytdjmopipmeonlaa
set_option linter.unusedVariables false
set_option linter.unusedVariables false
open Go.RowKit Go.Maps

theorem chC_uniq {p : Pn} {t : Int} {l l' : List Int} (h : DisOk p t l) (g : DisOk p t l') {i : Nat} (hi : i < p.P.length) : chC p t l i = chC p t l' i := by
  have e : ∀ k, k < p.P.length → d99 (l.getD k 0) = d99 (l'.getD k 0) := fun k hk => h.dist.uniq g.dist hk
  unfold chC
  congr 1
  unfold chL
  congr 1
  funext r
  congr 1
  refine List.filter_congr fun k hk => ?_
  have hk := List.mem_range.1 hk
  unfold isCh lowerB
  simp only [e k hk, e i hi]
/-- R says which places reach t; h is what its ways go down. -/
structure Rch (p : Pn) (n : Nat) (U : Nat → Nat → Bool) (t : Nat) (R : Nat → Bool) (h : Nat → Nat) : Prop where
  self : R t = true
  lt : ∀ i, i < n → h i < n
  step : ∀ i, i < n → i ≠ t → ∀ l, DisOk p (pc p.P t) l → (R i = true ↔ ∃ c ∈ chC p (pc p.P t) l i, ∃ b, b < n ∧ c.1 = pc p.P b ∧ U i b = true ∧ R b = true)
  low : ∀ i, i < n → i ≠ t → ∀ l, DisOk p (pc p.P t) l → ∀ c ∈ chC p (pc p.P t) l i, ∃ b, b < n ∧ c.1 = pc p.P b ∧ h b < h i
theorem rch_of {x : Nn} {p : Pn} {n m : Nat} {U : Nat → Nat → Bool} {Ts : Nat → Tb} {h : Nat → Nat → Nat} (hp : PF x p n m) (hN : Net p n U Ts) (hh : Hgt p n h) (hT : ∀ k d, k < n → d < n → k ≠ d → Told p n U Ts k d) {t : Nat} (ht : t < n) :
    Rch p n U t (fun i => decide (i = t) || decide ((Ts i).st (pc p.P t) ≠ 2)) (h t) := by
  have hlen := hp.len
  refine ⟨by simp, fun i hi => hh.lt t i hi, fun i hi hne l hl => ?_, fun i hi hne l hl c hc => ?_⟩
  · obtain ⟨l', hl', hC⟩ := (hN.inv i hi).C t (by omega) (Ne.symm hne)
    rw [chC_uniq hl hl' (by omega), ← hC]
    have h1 := reach_st hp hN hh hT hi ht hne
    simp only [hne, decide_false, Bool.false_or, decide_eq_true_eq, Bool.or_eq_true]
    exact h1
  · obtain ⟨l', hl', hC⟩ := (hN.inv i hi).C t (by omega) (Ne.symm hne)
    rw [chC_uniq hl hl' (by omega), ← hC] at hc
    obtain ⟨b, hb, e1, h2, _⟩ := hh.low t i (Ts i) hi ht hne (hN.inv i hi) c hc
    exact ⟨b, hb, e1, h2⟩
/-- Between two places of a round of reach. -/
structure RcAt (n t r : Nat) (R : Nat → Bool) (h : Nat → Nat) (i : Nat) (O : Nat → Bool) : Prop where
  sound : ∀ k, k < n → O k = true → R k = true
  self : O t = true
  lev : ∀ k, k < n → R k = true → (h k < r ∨ (h k = r ∧ k < i)) → O k = true
/-- Between two choices of a place. -/
structure RcIn (p : Pn) (n t r : Nat) (U : Nat → Nat → Bool) (R : Nat → Bool) (h : Nat → Nat) (i : Nat) (X : List (Int × Int)) (k : Nat) (O : Nat → Bool) : Prop where
  at' : RcAt n t r R h i O
  did : ∀ q, q < k → q < X.length → ∀ b, b < n → (X.getD q (0, 0)).1 = pc p.P b → U i b = true → O b = true → O i = true
theorem RcIn.start {p : Pn} {n t r : Nat} {U : Nat → Nat → Bool} {R : Nat → Bool} {h : Nat → Nat} {i : Nat} {O : Nat → Bool} (hA : RcAt n t r R h i O) (X : List (Int × Int)) : RcIn p n t r U R h i X 0 O := ⟨hA, fun q hq => absurd hq (Nat.not_lt_zero _)⟩
theorem RcIn.step {x : Nn} {p : Pn} {n m t r : Nat} {U : Nat → Nat → Bool} {R : Nat → Bool} {h : Nat → Nat} (hp : PF x p n m) (hR : Rch p n U t R h) {i : Nat} (hi : i < n) (hit : i ≠ t) {l : List Int} (hl : DisOk p (pc p.P t) l) {X : List (Int × Int)} (hX : X = chC p (pc p.P t) l i) {k : Nat} (hk : k < X.length) {O : Nat → Bool} (hI : RcIn p n t r U R h i X k O)
    {b : Nat} (hb : b < n) (e : (X.getD k (0, 0)).1 = pc p.P b) : RcIn p n t r U R h i X (k + 1) (updB O i (O i || (U i b && O b))) := by
  have hlen := hp.len
  have hmem : ∀ q, q < X.length → X.getD q (0, 0) ∈ chC p (pc p.P t) l i := fun q hq => by
    rw [← hX, List.getD_eq_getElem?_getD, List.getElem?_eq_getElem hq]; exact List.getElem_mem _
  have mono : ∀ q, O q = true → updB O i (O i || (U i b && O b)) q = true := fun q hq => by
    unfold updB
    by_cases e : q = i
    · subst e; rw [if_pos rfl, hq]; rfl
    · rw [if_neg e]; exact hq
  refine ⟨⟨fun q hq h1 => ?_, mono _ hI.at'.self, fun q hq hr hc => mono _ (hI.at'.lev q hq hr hc)⟩, fun q hq hqX b' hb' e' hU hO => ?_⟩
  · unfold updB at h1
    by_cases e9 : q = i
    · subst e9
      rw [if_pos rfl, Bool.or_eq_true, Bool.and_eq_true] at h1
      rcases h1 with h1 | h1
      · exact hI.at'.sound q hq h1
      · exact (hR.step q hq hit l hl).2 ⟨_, hmem k hk, b, hb, e, h1.1, hI.at'.sound b hb h1.2⟩
    · rw [if_neg e9] at h1
      exact hI.at'.sound q hq h1
  · have hlow : ∀ q, q < X.length → ∀ b, b < n → (X.getD q (0, 0)).1 = pc p.P b → b ≠ i := fun q hq b hb e2 e3 => by
      obtain ⟨b2, hb2, e4, h5⟩ := hR.low i hi hit l hl _ (hmem q hq)
      have e5 : b2 = b := (pc_inj hp (by omega) (by omega)).1 (e4.symm.trans e2)
      rw [e5, e3] at h5
      omega
    have hne := hlow q hqX b' hb' e'
    unfold updB at hO ⊢
    rw [if_neg hne] at hO
    rw [if_pos rfl]
    by_cases e9 : q = k
    · subst e9
      have e8 : b' = b := (pc_inj hp (by omega) (by omega)).1 (e'.symm.trans e)
      subst e8
      rw [hU, hO]; simp
    · rw [hI.did q (by omega) hqX b' hb' e' hU hO]; rfl
theorem RcIn.done {x : Nn} {p : Pn} {n m t r : Nat} {U : Nat → Nat → Bool} {R : Nat → Bool} {h : Nat → Nat} (hp : PF x p n m) (hR : Rch p n U t R h) {i : Nat} (hi : i < n) (hit : i ≠ t) {l : List Int} (hl : DisOk p (pc p.P t) l) {X : List (Int × Int)} (hX : X = chC p (pc p.P t) l i) {O : Nat → Bool} (hI : RcIn p n t r U R h i X X.length O) : RcAt n t r R h (i + 1) O := by
  have hlen := hp.len
  refine ⟨hI.at'.sound, hI.at'.self, fun q hq hr hc => ?_⟩
  by_cases e : q = i
  · subst e
    by_cases hlt : h q < r
    · exact hI.at'.lev q hq hr (.inl hlt)
    · obtain ⟨c, hc2, b, hb, e1, hU, hRb⟩ := (hR.step q hq hit l hl).1 hr
      obtain ⟨b2, hb2, e2, h5⟩ := hR.low q hq hit l hl c hc2
      have e5 : b2 = b := (pc_inj hp (by omega) (by omega)).1 (e2.symm.trans e1)
      subst e5
      rw [← hX] at hc2
      obtain ⟨k, hk, e6⟩ := List.getElem_of_mem hc2
      refine hI.did k hk hk b2 hb ?_ hU (hI.at'.lev b2 hb hRb (.inl (by omega)))
      rw [List.getD_eq_getElem?_getD, List.getElem?_eq_getElem hk, Option.getD_some, e6, e1]
  · exact hI.at'.lev q hq hr (by omega)
theorem RcAt.skip {n t r : Nat} {R : Nat → Bool} {h : Nat → Nat} {O : Nat → Bool} (hA : RcAt n t r R h t O) : RcAt n t r R h (t + 1) O := ⟨hA.sound, hA.self, fun q hq hr hc => by
  by_cases e : q = t
  · subst e; exact hA.self
  · exact hA.lev q hq hr (by omega)⟩
theorem RcAt.next {n t r : Nat} {R : Nat → Bool} {h : Nat → Nat} {O : Nat → Bool} (hA : RcAt n t r R h n O) : RcAt n t (r + 1) R h 0 O := ⟨hA.sound, hA.self, fun q hq hr hc => hA.lev q hq hr (by omega)⟩
theorem RcAt.start {n t : Nat} {R : Nat → Bool} {h : Nat → Nat} (hs : R t = true) : RcAt n t 0 R h 0 (updB (fun _ => false) t true) := ⟨fun k _ h1 => (by
  unfold updB at h1
  by_cases e : k = t
  · subst e; exact hs
  · rw [if_neg e] at h1; cases h1), if_pos rfl, fun k _ _ hc => absurd hc (by omega)⟩
theorem RcAt.all {n t r : Nat} {R : Nat → Bool} {h : Nat → Nat} {O : Nat → Bool} (hA : RcAt n t r R h 0 O) (hr : r = n) (hl : ∀ i, i < n → h i < n) : ∀ k, k < n → R k = O k := fun k hk => by
  cases h1 : O k
  · cases h2 : R k
    · rfl
    · rw [hA.lev k hk h2 (.inl (by have := hl k hk; omega))] at h1; cases h1
  · exact hA.sound k hk h1
end Go.Proofs.Ytdjmopipmeonlaa
/- reach: which places have a sequence of choices to a destination. -/
namespace Go.Proofs.Ytdjmopipmeonlaa
set_option linter.unusedVariables false
set_option linter.unusedVariables false
open Go.RowKit Go.Maps

def ReachOut (n : Nat) (R : Nat → Bool) (w : World) (e : Ending) (w' : World) : Prop := ∃ ob, e = .returned (.slice (some ⟨ob, 0, none⟩) n n) ∧ RB w' ob n R ∧ Below w.heap.size w w'
/-- reach's own row, in a world behind W. -/
structure RW (W : World) (ob n : Nat) (O : Nat → Bool) (wr : World) : Prop where
  rb : RB wr ob n O
  bel : Below W.heap.size W wr
theorem RW.later {W : World} {ob n : Nat} {O : Nat → Bool} {wr w' : World} (h : RW W ob n O wr) (hb : Below wr.heap.size wr w') : RW W ob n O w' := ⟨h.rb.below hb, h.bel.trans (hb.mono h.bel.size)⟩
theorem RW.set {W : World} {ob n : Nat} {O : Nat → Bool} {wr : World} (h : RW W ob n O wr) (hob : W.heap.size ≤ ob) (k : Nat) (v : Bool) : RW W ob n (updB O k v) (wr.setCell ⟨ob, k, none⟩ (.bool v)) := by
  have hx : Exc (fun q => q = ob) wr (wr.setCell ⟨ob, k, none⟩ (.bool v)) := (Exc.refl (fun q => q = ob) wr).setCell ⟨ob, k, none⟩ (.inl rfl) _
  exact ⟨h.rb.set k v, h.bel.trans (hx.below h.bel.size fun i _ hi => by omega)⟩
set_option maxRecDepth 100000 in
set_option maxHeartbeats 8000000 in
theorem reach_any {x : Nn} {p : Pn} {n m : Nat} (hp : PF x p n m) {U : Nat → Nat → Bool} (aP : Option Addr) (cP : Nat) (aL : Option Addr) (cL : Nat) (ub : Nat) (rows : Nat → Nat) (t : Nat) (ht : t < n) (R : Nat → Bool) (h : Nat → Nat) (hR : Rch p n U t R h) (w : World) (hP : PRow w aP n cP p.P) (hL : LRow w aL m cL p.L) (hU : UpT w ub n rows U) :
    Calls Try.prog 20 #[planV aP n cP aL m cL p, .slice (some ⟨ub, 0, none⟩) n n, .int .i64 t] w (ReachOut n R w) := by
  have hn2 := hp.n2
  have hn6 := hp.n6
  have hlen := hp.len
  have hcap3 := hP.le
  have hcap4 := hP.max
  unfold maxLen at hcap4
  unfold planV
  obtain ⟨W, hW⟩ : ∃ W, W = w.alloc (.cells (planCells aP n cP aL m cL p).toArray 33) := ⟨_, rfl⟩
  obtain ⟨g0, g1, g2, g3, g4, g5, g6, hB⟩ := boxed hW
  obtain ⟨pb, hpb⟩ : ∃ k, k = w.heap.size := ⟨_, rfl⟩
  have HG := Lib.hid (And.intro g0 (And.intro g1 (And.intro g2 (And.intro g3 (And.intro g4 (And.intro g5 g6))))))
  rw [← hpb] at HG g0
  obtain ⟨b2, off, rfl, _⟩ := hP.cells.resolve_left (by omega)
  obtain ⟨b3, off3, e3, hcs⟩ := (hP.later hB).cells.resolve_left (by omega)
  cases e3
  have HCs := Lib.hid hcs
  have HPW := Lib.hid (hP.later hB)
  have HLW := Lib.hid (hL.later hB)
  have HUW := Lib.hid (hU.below hB)
  have HB := Lib.hid hB
  have HPF := Lib.hid hp
  have HR := Lib.hid hR
  have t0 : (0 : Int) ≤ (t : Int) := by omega
  have t1 : (t : Int) < (n : Int) := by omega
  have hmk := make_bl n (by omega) W
  obtain ⟨W1, hW1⟩ : ∃ W1, W1 = W.alloc (.cells (madeCells #[.bool false] n) 4) := ⟨_, rfl⟩
  obtain ⟨ob, hob⟩ : ∃ ob, ob = W.heap.size := ⟨_, rfl⟩
  have hr1 : RB W1 ob n (fun _ => false) := by rw [hW1, hob]; exact rb_made n W
  have hb1 : Below W.heap.size W W1 := by rw [hW1]; exact below_alloc W _
  rw [← hW1, ← hob] at hmk
  have H2 := Lib.hid ((show RW W ob n (fun _ => false) W1 from ⟨hr1, hb1⟩).set (by omega) t true)
  have hf := hr1.frozen t
  have hc := hr1.cell ht
  have HOb := Lib.hid hob
  go_enter Try.func20, Try.ntmps20
  go_upto_region 1 with (fail)
  show Code.wp _ _ _ _ (w.alloc (.cells (planCells (some ⟨b2, off, none⟩) n cP aL m cL p).toArray 33))
  rw [← hW, ← hpb]
  clear hW g1 g2 g3 g4 g5 g6 hB hP hL hU hpb hcs hW1 hob hr1 hb1
  go_upto_region 3 with (fail)
  obtain ⟨W2, hW2⟩ : ∃ W2, W2 = W1.setCell ⟨ob, t, none⟩ (.bool true) := ⟨_, rfl⟩
  rw [← hW2] at H2
  rw [← hW2]
  have HA := Lib.hid (RcAt.start (n := n) (h := h) hR.self)
  clear hW2 hf hc hmk g0 hR
  go_wp2_with fail
  go_loopw [8] (fun v wr => ∃ (r : Nat) (O : Nat → Bool), r ≤ n ∧ v = .int .i64 r ∧ RW W ob n O wr ∧ RcAt n t r R h 0 O) (fun v _ => n - (intOf v).toNat)
  case atStart => exact ⟨0, _, Nat.zero_le _, rfl, H2.out, HA.out⟩
  case round =>
    obtain ⟨r, Or, hr, rfl, hrw, hrc⟩ := hrel
    clear H2 HA
    have HW := Lib.hid (And.intro hrw hrc)
    clear hrw hrc
    by_cases hrn : r < n
    · go_wp2_with fail
      go_loopw [9] (fun v wr => ∃ (i : Nat) (O : Nat → Bool), i ≤ n ∧ v = .int .i64 i ∧ RW W ob n O wr ∧ RcAt n t r R h i O) (fun v _ => n - (intOf v).toNat)
      case atStart => exact ⟨0, Or, Nat.zero_le _, rfl, HW.out.1, HW.out.2⟩
      case round =>
        obtain ⟨i, O, hi, rfl, hrw, hrc⟩ := hrel
        clear HW
        have HW := Lib.hid (And.intro hrw hrc)
        by_cases hin : i < n
        · have kp := Kp.below hrw.bel
          have g0 := kp _ _ HG.out.1
          have g1 := kp _ _ HG.out.2.1
          have g2 := kp _ _ HG.out.2.2.1
          have g3 := kp _ _ HG.out.2.2.2.1
          have g4 := kp _ _ HG.out.2.2.2.2.1
          have g5 := kp _ _ HG.out.2.2.2.2.2.1
          have g6 := kp _ _ HG.out.2.2.2.2.2.2
          have v0 := kp _ _ (HCs.out i hin).1
          have v1 := kp _ _ (HCs.out t ht).1
          have hPr := HPW.out.later (hrw.bel.trans (below_draw wr 1 |>.mono hrw.bel.size))
          have hLr := HLW.out.later (hrw.bel.trans (below_draw wr 1 |>.mono hrw.bel.size))
          have i0 : (0 : Int) ≤ (i : Int) := by omega
          have i1 : (i : Int) < (n : Int) := by omega
          obtain ⟨ui, hui⟩ : ∃ u, u = pc p.P i := ⟨_, rfl⟩
          obtain ⟨ut, hut⟩ : ∃ u, u = pc p.P t := ⟨_, rfl⟩
          have HRc := Lib.hid hrc
          have hlb := hrw.rb.lt
          clear hrw hrc kp
          by_cases hit : i = t
          · subst hit
            have hC := choices_same p (some ⟨b2, off, none⟩) n cP aL m cL (pc p.P i) wr.drew hPr hLr (HPF.out.two hin hin)
            unfold planV at hC
            rw [← hui] at v0 v1 hC
            have HC := Lib.hid hC
            have HK := Lib.hid (And.intro g0 (And.intro g1 (And.intro g2 (And.intro g3 (And.intro g4 (And.intro g5 (And.intro g6 v0)))))))
            have HUi := Lib.hid hui
            clear hC hPr hLr v1 hut hui
            go_upto_region 9 with (fail)
            go_region_held3 (fun w' => w'.cell? ⟨pb, 0, none⟩ = some (.slice (some ⟨b2, off, none⟩) n cP) ∧ w'.cell? ⟨pb, 1, none⟩ = some (.slice aL m cL) ∧ w'.cell? ⟨pb, 2, none⟩ = some (.int .i64 p.rate) ∧ w'.cell? ⟨pb, 3, none⟩ = some (.int .i64 p.room) ∧ w'.cell? ⟨pb, 4, none⟩ = some (.int .i64 p.m0) ∧ w'.cell? ⟨pb, 5, none⟩ = some (.int .i64 p.m1) ∧ w'.cell? ⟨pb, 6, none⟩ = some (.int .i64 p.m2) ∧ w'.cell? ⟨b2, off + i * 2, none⟩ = some (.int .u16 ui)) (first | exact HK.out | (go_keep; done))
              (first
                | ((with_reducible refine HC.out.mono ?_); rintro e w4 ⟨rfl, hb⟩; have hrw4 := HW.out.1.later ((below_draw wr 1).trans (hb.mono (below_draw wr 1).size)); have kp := Kp.below hrw4.bel; have g0 := kp _ _ HG.out.1; have g1 := kp _ _ HG.out.2.1; have g2 := kp _ _ HG.out.2.2.1; have g3 := kp _ _ HG.out.2.2.2.1; have g4 := kp _ _ HG.out.2.2.2.2.1; have g5 := kp _ _ HG.out.2.2.2.2.2.1; have g6 := kp _ _ HG.out.2.2.2.2.2.2; have v0 := kp _ _ (HCs.out i hin).1; rw [← HUi.out] at v0; have HK := Lib.hid (And.intro g0 (And.intro g1 (And.intro g2 (And.intro g3 (And.intro g4 (And.intro g5 (And.intro g6 v0))))))); have HW4 := Lib.hid hrw4; clear hb kp hrw4)
                | fail)
            clear HC
            go_wp2_with fail
            clear g0 g1 g2 g3 g4 g5 g6 v0 HK HW
            go_loopw [12] (fun v wr => v = .int .i64 0 ∧ RW W ob n O wr) (fun v _ => 0)
            case atStart => exact ⟨rfl, HW4.out⟩
            case round =>
              obtain ⟨rfl, hrw⟩ := hrel
              have HWf := Lib.hid hrw
              clear hrw HW4
              go_wp2_with fail
              exact ⟨⟨i + 1, O, by omega, by go_num, HWf.out, HRc.out.skip⟩, by simp [intOf]; omega⟩
          · have hC := choices_few p (some ⟨b2, off, none⟩) n cP aL m cL (pc p.P i) (pc p.P t) wr.drew hPr hLr (HPF.out.two hin ht) (fun e => hit ((pc_inj HPF.out (by omega) (by omega)).1 e)) i t (HPF.out.fnd hin) (HPF.out.fnd ht) HPF.out.valid (by omega)
            unfold planV at hC
            rw [← hui] at v0 hC
            rw [← hut] at v1 hC
            have HC := Lib.hid hC
            have HK := Lib.hid (And.intro g0 (And.intro g1 (And.intro g2 (And.intro g3 (And.intro g4 (And.intro g5 (And.intro g6 (And.intro v0 v1))))))))
            have HUi := Lib.hid (And.intro hui hut)
            have HIt := Lib.hid hit
            clear hC hPr hLr hut hui hit
            go_upto_region 9 with (fail)
            go_region_held3 (fun w' => w'.cell? ⟨pb, 0, none⟩ = some (.slice (some ⟨b2, off, none⟩) n cP) ∧ w'.cell? ⟨pb, 1, none⟩ = some (.slice aL m cL) ∧ w'.cell? ⟨pb, 2, none⟩ = some (.int .i64 p.rate) ∧ w'.cell? ⟨pb, 3, none⟩ = some (.int .i64 p.room) ∧ w'.cell? ⟨pb, 4, none⟩ = some (.int .i64 p.m0) ∧ w'.cell? ⟨pb, 5, none⟩ = some (.int .i64 p.m1) ∧ w'.cell? ⟨pb, 6, none⟩ = some (.int .i64 p.m2) ∧ w'.cell? ⟨b2, off + i * 2, none⟩ = some (.int .u16 ui) ∧ w'.cell? ⟨b2, off + t * 2, none⟩ = some (.int .u16 ut)) (first | exact HK.out | (go_keep; done))
              (first
                | ((with_reducible refine HC.out.mono ?_); rintro e w4 ⟨l, a2, hok, rfl, hcr, hb, hfr⟩; have hrw4 := HW.out.1.later ((below_draw wr 1).trans (hb.mono (below_draw wr 1).size)); have kp := Kp.below hrw4.bel; have g0 := kp _ _ HG.out.1; have g1 := kp _ _ HG.out.2.1; have g2 := kp _ _ HG.out.2.2.1; have g3 := kp _ _ HG.out.2.2.2.1; have g4 := kp _ _ HG.out.2.2.2.2.1; have g5 := kp _ _ HG.out.2.2.2.2.2.1; have g6 := kp _ _ HG.out.2.2.2.2.2.2; have v0 := kp _ _ (HCs.out i hin).1; have v1 := kp _ _ (HCs.out t ht).1; rw [← HUi.out.1] at v0; rw [← HUi.out.2] at v1; have HK := Lib.hid (And.intro g0 (And.intro g1 (And.intro g2 (And.intro g3 (And.intro g4 (And.intro g5 (And.intro g6 (And.intro v0 v1)))))))); have HW4 := Lib.hid (And.intro hrw4 (And.intro hok (And.intro hcr (show ∀ z : Addr, a2 = some z → z.block ≠ ob from fun z hz => by have h9 : wr.heap.size ≤ z.block := hfr z hz; omega)))); clear hb kp hrw4 hok hcr hfr)
                | fail)
            clear HC
            go_wp2_with fail
            clear g0 g1 g2 g3 g4 g5 g6 v0 v1 HK HW
            obtain ⟨hrw4, hok, hcr, hne⟩ := HW4.out
            obtain ⟨X, hX⟩ : ∃ X, X = chC p ut l i := ⟨_, rfl⟩
            obtain ⟨N, hN⟩ : ∃ N, N = X.length := ⟨_, rfl⟩
            rw [← hX, ← hN] at hcr
            rw [← hX, ← hN]
            rw [HUi.out.2] at hX hok
            have hcN := hcr.max
            unfold maxLen at hcN
            have HXN := Lib.hid (And.intro hX (And.intro hN hok))
            have HNe := Lib.hid hne
            have H0 := Lib.hid (And.intro hrw4 (And.intro (RcIn.start (p := p) (U := U) HRc.out X) hcr))
            clear HW4 HRc hrw4 hok hcr hne hX hN
            go_loopw [12] (fun v wr => ∃ (k : Nat) (O : Nat → Bool), k ≤ N ∧ v = .int .i64 k ∧ RW W ob n O wr ∧ RcIn p n t r U R h i X k O ∧ CRow wr a2 N N X) (fun v _ => N - (intOf v).toNat)
            case atStart => exact ⟨0, O, Nat.zero_le _, rfl, H0.out.1, H0.out.2.1, H0.out.2.2⟩
            case round =>
              obtain ⟨k, Q, hk, rfl, hrw, hrc, hcr⟩ := hrel
              clear H0
              have HQ := Lib.hid (And.intro hrw (And.intro hrc hcr))
              by_cases hkN : k < N
              · obtain ⟨gb, goff, rfl, hcc⟩ := hcr.cells.resolve_left (by omega)
                have c0 := (hcc k hkN).1
                obtain ⟨q, z9, hq, hq2, _⟩ := fall_lower HXN.out.2.2 (by omega) (a := i) (by omega) (k := k) (by rw [← HXN.out.1, ← HXN.out.2.1]; exact hkN)
                rw [← HXN.out.1] at hq2
                rw [hlen] at hq
                obtain ⟨X1, hX1⟩ : ∃ y, y = (X.getD k (0, 0)).1 := ⟨_, rfl⟩
                have hXq : X1 = pc p.P q := by rw [hX1, hq2]
                rw [← hX1] at c0
                have hid : idN p.P X1 = q ∧ isB p.P X1 = true := by rw [hXq]; exact idN_some (HPF.out.fnd hq)
                have hix := cindex_any p (some ⟨b2, off, none⟩) n cP aL m cL X1 wr.drew (HPW.out.later (hrw.bel.trans (below_draw wr 1 |>.mono hrw.bel.size)))
                rw [hid.1, hid.2] at hix
                unfold planV at hix
                have HIx := Lib.hid hix
                have kp := Kp.below hrw.bel
                have g0 := kp _ _ HG.out.1
                have g1 := kp _ _ HG.out.2.1
                have g2 := kp _ _ HG.out.2.2.1
                have g3 := kp _ _ HG.out.2.2.2.1
                have g4 := kp _ _ HG.out.2.2.2.2.1
                have g5 := kp _ _ HG.out.2.2.2.2.2.1
                have g6 := kp _ _ HG.out.2.2.2.2.2.2
                have HK := Lib.hid (And.intro g0 (And.intro g1 (And.intro g2 (And.intro g3 (And.intro g4 (And.intro g5 (And.intro g6 c0)))))))
                have HX1 := Lib.hid (And.intro hX1 hXq)
                have k0 : (0 : Int) ≤ (k : Int) := by omega
                have k1 : (k : Int) < (N : Int) := by omega
                have hq0 : (0 : Int) ≤ (q : Int) := by omega
                have hq1 : (q : Int) < (n : Int) := by omega
                clear hrw hrc hcr hcc hq2 hX1 hXq hid hix kp
                go_upto_region 13 with (fail)
                go_region_held3 (fun w' => w'.cell? ⟨pb, 0, none⟩ = some (.slice (some ⟨b2, off, none⟩) n cP) ∧ w'.cell? ⟨pb, 1, none⟩ = some (.slice aL m cL) ∧ w'.cell? ⟨pb, 2, none⟩ = some (.int .i64 p.rate) ∧ w'.cell? ⟨pb, 3, none⟩ = some (.int .i64 p.room) ∧ w'.cell? ⟨pb, 4, none⟩ = some (.int .i64 p.m0) ∧ w'.cell? ⟨pb, 5, none⟩ = some (.int .i64 p.m1) ∧ w'.cell? ⟨pb, 6, none⟩ = some (.int .i64 p.m2) ∧ w'.cell? ⟨gb, goff + k * 2, none⟩ = some (.int .u16 X1)) (first | exact HK.out | (go_keep; done))
                  (first
                    | ((with_reducible refine HIx.out.mono ?_); rintro e w5 ⟨rfl, hb⟩; have hb5 := (below_draw wr 1).trans (hb.mono (below_draw wr 1).size); have hrw5 := HQ.out.1.later hb5; have hcr5 := HQ.out.2.2.later hb5; have kp := Kp.below hrw5.bel; have g0 := kp _ _ HG.out.1; have g1 := kp _ _ HG.out.2.1; have g2 := kp _ _ HG.out.2.2.1; have g3 := kp _ _ HG.out.2.2.2.1; have g4 := kp _ _ HG.out.2.2.2.2.1; have g5 := kp _ _ HG.out.2.2.2.2.2.1; have g6 := kp _ _ HG.out.2.2.2.2.2.2; obtain ⟨gz, goz, ez, hcc⟩ := hcr5.cells.resolve_left (by omega); cases ez; have c0 := (hcc k hkN).1; rw [← HX1.out.1] at c0; have HK := Lib.hid (And.intro g0 (And.intro g1 (And.intro g2 (And.intro g3 (And.intro g4 (And.intro g5 (And.intro g6 c0))))))); have HW5 := Lib.hid (And.intro hrw5 hcr5); clear hb hb5 hrw5 hcr5 kp hcc)
                    | fail)
                clear HIx
                have hU5 := HUW.out.below HW5.out.1.bel
                have d0 := HW5.out.1.rb.cell hin
                have d1 := HW5.out.1.rb.cell hq
                have d2 := hU5.top i hin
                have d3 := (hU5.row i hin).cell hq
                have df := HW5.out.1.rb.frozen i
                have HSt := Lib.hid (fun (v : Bool) => HW5.out.1.set (show W.heap.size ≤ ob by rw [HOb.out]; exact Nat.le_refl _) i v)
                have HIn := Lib.hid (HQ.out.2.1.step HPF.out HR.out hin HIt.out HXN.out.2.2 HXN.out.1 (by rw [← HXN.out.2.1]; exact hkN) hq (by rw [← HX1.out.1]; exact HX1.out.2))
                have HCr := Lib.hid (fun (v : Bool) => (show CRow (w5.setCell ⟨ob, i, none⟩ (.bool v)) _ N N X from HW5.out.2.exc ((Exc.refl (fun q => q = ob) w5).setCell ⟨ob, i, none⟩ (.inl rfl) (.bool v)) (fun z hz e9 => HNe.out z hz e9)))
                obtain ⟨Bi, hBi⟩ : ∃ b, b = Q i := ⟨_, rfl⟩
                obtain ⟨Bu, hBu⟩ : ∃ b, b = U i q := ⟨_, rfl⟩
                obtain ⟨Bq, hBq⟩ : ∃ b, b = Q q := ⟨_, rfl⟩
                rw [← hBi] at d0 HIn
                rw [← hBq] at d1 HIn
                rw [← hBu] at d3 HIn
                clear g0 g1 g2 g3 g4 g5 g6 c0 HK hU5 HW5 HQ hBi hBu hBq
                cases Bi <;> cases Bu <;> cases Bq <;>
                  (go_wp2_with fail
                   exact ⟨⟨k + 1, _, by omega, by go_num, HSt.out _, HIn.out, HCr.out _⟩, by simp [intOf]; omega⟩)
              · obtain rfl : k = N := by omega
                have HNx := Lib.hid (And.intro hrw (RcIn.done HPF.out HR.out hin HIt.out HXN.out.2.2 HXN.out.1 (by rw [← HXN.out.2.1]; exact hrc)))
                clear hrw hrc hcr HQ
                go_wp2_with fail
                exact ⟨⟨i + 1, Q, by omega, by go_num, HNx.out.1, HNx.out.2⟩, by simp [intOf]; omega⟩
        · obtain rfl : i = n := by omega
          have HNx := Lib.hid (And.intro hrw hrc.next)
          clear hrw hrc HW
          go_wp2_with fail
          exact ⟨⟨r + 1, O, by omega, by go_num, HNx.out.1, HNx.out.2⟩, by simp [intOf]; omega⟩
    · obtain rfl : r = n := by omega
      have HFin := Lib.hid (show ReachOut r R w (.returned (.slice (some ⟨ob, 0, none⟩) r r)) wr from ⟨ob, rfl, HW.out.1.rb.congr (HW.out.2.all rfl HR.out.lt), HB.out.trans (HW.out.1.bel.mono HB.out.size)⟩)
      clear HW
      go_wp2_with fail
      go_ret
      exact HFin.out
end Go.Proofs.Ytdjmopipmeonlaa
