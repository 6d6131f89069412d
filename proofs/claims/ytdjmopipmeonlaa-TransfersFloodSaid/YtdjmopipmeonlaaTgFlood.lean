/- Joined: TgIn TgFlood. -/
import Derived.Test.YtdjmopipmeonlaaTgRow
import Derived.Deep.Cut
import Derived.Deep.MidRow
import Derived.Deep.RegionHeld3
import Derived.Deep.RegionLaw
import Derived.BigRegion
import Derived.BigQuiet
import Derived.IntWalk
/- A round of flood in memory: what holds between two notes. -/
namespace Go.Proofs.Ytdjmopipmeonlaa
set_option linter.unusedVariables false
set_option linter.unusedVariables false
open Go.RowKit Go.Maps

/-- Between two notes of the place i: k notes of X have been heard. -/
structure FlIn (p : Pn) (n : Nat) (ys : Nat → Tl) (W : World) (T0 : Nat → Tb) (i : Nat) (M : Tb) (X : List (Int × Int × Int)) (a : Option Addr) (N k : Nat) (wr : World) : Prop where
  tabs : Tabs wr n ys (tabG p T0 i M (X.take k))
  row : ∃ X', NRow wr a N N X' ∧ ∀ j, k ≤ j → j < N → X'.getD j (0, 0, 0) = X.getD j (0, 0, 0)
  exc : Exc (AllMut n ys) W wr
theorem FlIn.later {p : Pn} {n : Nat} {ys : Nat → Tl} {W : World} {T0 : Nat → Tb} {i : Nat} {M : Tb} {X : List (Int × Int × Int)} {a : Option Addr} {N k : Nat} {wr w' : World} (h : FlIn p n ys W T0 i M X a N k wr) (hb : Below wr.heap.size wr w') : FlIn p n ys W T0 i M X a N k w' := by
  obtain ⟨X', h1, h2⟩ := h.row
  exact ⟨h.tabs.below hb, ⟨X', h1.later hb, h2⟩, h.exc.trans (Exc.of_below (S := fun _ => False) hb) fun _ _ h => h.elim⟩
theorem FlIn.start {p : Pn} {n : Nat} {ys : Nat → Tl} {W wr w1 : World} {T0 : Nat → Tb} {i : Nat} {M : Tb} (hi : i < n) {X : List (Int × Int × Int)} {a : Option Addr} {N : Nat} (hN : N = X.length) (hT : Tabs wr n ys T0) (hx : Exc (AllMut n ys) W wr) (hr : NRow w1 a N N X) (ht : TbAt w1 (ys i) M) (hm : Exc (Mut (ys i)) wr w1) : FlIn p n ys W T0 i M X a N 0 w1 := by
  refine ⟨hT.put hi hm ?_ fun j _ hj => ?_, ⟨X, hr, fun _ _ _ => rfl⟩, excAll_trans hx (excAll hi hm)⟩
  · rw [tabG_me]; exact ht
  · rw [tabG_other p T0 hj, List.take_zero, hearP_nil]
/-- What is read of the next note. -/
theorem FlIn.note {p : Pn} {n : Nat} {ys : Nat → Tl} {W : World} {T0 : Nat → Tb} {i : Nat} {M : Tb} {X : List (Int × Int × Int)} {a : Option Addr} {N k : Nat} {wr : World} (h : FlIn p n ys W T0 i M X a N k wr) (hk : k < N) :
    ∃ g, a = some ⟨g, 0, none⟩ ∧ wr.cell? ⟨g, k * 3, none⟩ = some (.int .u16 (X.getD k (0, 0, 0)).1) ∧ wr.cell? ⟨g, k * 3 + 1, none⟩ = some (.int .u16 (X.getD k (0, 0, 0)).2.1) ∧ wr.cell? ⟨g, k * 3 + 2, none⟩ = some (.int .u8 (X.getD k (0, 0, 0)).2.2) ∧ wr.frozen? ⟨g, k * 3, none⟩ = false := by
  obtain ⟨X', h1, h2⟩ := h.row
  obtain ⟨g, ha, _, hc⟩ := h1.at (by omega)
  have e := h2 k (Nat.le_refl _) hk
  obtain ⟨c0, c1, c2⟩ := hc k hk
  rw [e] at c0 c1 c2
  obtain ⟨g', R, ha', ho⟩ := h1.cells.resolve_left (by omega)
  rw [ha] at ha'; cases ha'
  exact ⟨g, ha, c0, c1, c2, ho.frozen _⟩
theorem FlIn.store {p : Pn} {n : Nat} {ys : Nat → Tl} {W : World} {T0 : Nat → Tb} {i : Nat} {M : Tb} {X : List (Int × Int × Int)} {g N k : Nat} {wr : World} (h : FlIn p n ys W T0 i M X (some ⟨g, 0, none⟩) N k wr) (hk : k < N) (hg : ∀ j, j < n → (ys j).hi ≤ g) (hW : W.heap.size ≤ g) (u : Int) :
    let w2 := wr.setCell ⟨g, k * 3, none⟩ (.int .u16 u)
    Tabs w2 n ys (tabG p T0 i M (X.take k)) ∧ (∃ X', NRow w2 (some ⟨g, 0, none⟩) N N X' ∧ ∀ j, k + 1 ≤ j → j < N → X'.getD j (0, 0, 0) = X.getD j (0, 0, 0)) ∧ Exc (AllMut n ys) W w2 ∧
      w2.cell? ⟨g, k * 3, none⟩ = some (.int .u16 u) ∧ w2.cell? ⟨g, k * 3 + 1, none⟩ = some (.int .u16 (X.getD k (0, 0, 0)).2.1) ∧ w2.cell? ⟨g, k * 3 + 2, none⟩ = some (.int .u8 (X.getD k (0, 0, 0)).2.2) ∧ Exc (fun q => q = g) wr w2 := by
  intro w2
  obtain ⟨X', h1, h2⟩ := h.row
  have hx : Exc (fun q => q = g) wr w2 := (Exc.refl (fun q => q = g) wr).setCell ⟨g, k * 3, none⟩ (.inl rfl) _
  have hp := h1.put hk u
  obtain ⟨g', ha, _, hc⟩ := hp.at (by omega)
  cases ha
  obtain ⟨c0, c1, c2⟩ := hc k hk
  have hl := h1.len
  have e : (X'.set k (u, (X'.getD k (0, 0, 0)).2)).getD k (0, 0, 0) = (u, (X'.getD k (0, 0, 0)).2) := by
    rw [List.getD_eq_getElem?_getD, List.getElem?_set_self (by omega)]; rfl
  rw [e] at c0 c1 c2
  have e2 := h2 k (Nat.le_refl _) hk
  rw [e2] at c1 c2
  refine ⟨⟨fun j hj => (h.tabs.tb j hj).exc hx fun q hq _ => .inl (by rw [hq]; exact hg j hj), h.tabs.apart⟩, ⟨_, hp, fun j h3 h4 => ?_⟩, h.exc.setCell ⟨g, k * 3, none⟩ (.inr hW) _, c0, c1, c2, hx⟩
  rw [List.getD_eq_getElem?_getD, List.getElem?_set_ne (by omega), ← List.getD_eq_getElem?_getD]
  exact h2 j (by omega) h4
/-- The note has been heard. -/
theorem FlIn.heard {p : Pn} {n : Nat} {ys : Nat → Tl} {W w2 w3 : World} {T0 : Nat → Tb} {i j : Nat} {M : Tb} {X : List (Int × Int × Int)} {a : Option Addr} {N k : Nat} (hk : k < N) (hN : N = X.length) (hj : j < n) (hji : j ≠ i)
    (hc : ∀ j', j' < n → j' ≠ j → pc p.P j' ≠ pc p.P j) (e1 : (X.getD k (0, 0, 0)).1 = pc p.P j) (e2 : (X.getD k (0, 0, 0)).2.2 = (T0 i).st (X.getD k (0, 0, 0)).2.1) (hT : Tabs w2 n ys (tabG p T0 i M (X.take k))) (hr : ∃ X', NRow w2 a N N X' ∧ ∀ j, k + 1 ≤ j → j < N → X'.getD j (0, 0, 0) = X.getD j (0, 0, 0))
    (hx : Exc (AllMut n ys) W w2) (ht : TbAt w3 (ys j) ((tabG p T0 i M (X.take k) j).hear (pc p.P i) (X.getD k (0, 0, 0)).2.1 (X.getD k (0, 0, 0)).2.2)) (hm : Exc (Mut (ys j)) w2 w3) : FlIn p n ys W T0 i M X a N (k + 1) w3 := by
  have ek : X.take (k + 1) = X.take k ++ [X.getD k (0, 0, 0)] := by
    rw [List.take_succ_eq_append_getElem (by omega), List.getD_eq_getElem?_getD, List.getElem?_eq_getElem (by omega)]; rfl
  have e3 : X.getD k (0, 0, 0) = (pc p.P j, (X.getD k (0, 0, 0)).2.1, (T0 i).st (X.getD k (0, 0, 0)).2.1) := by
    rw [← e2, ← e1]
  obtain ⟨X', h1, h2⟩ := hr
  refine ⟨hT.put hj hm ?_ fun j' hj' hne => ?_, ⟨X', h1.kept hT (excAll hj hm), h2⟩, excAll_trans hx (excAll hj hm)⟩
  · rw [ek, tabG_other p T0 hji, e3, hearP_same]
    rw [tabG_other p T0 hji, e2] at ht
    exact ht
  · by_cases e : j' = i
    · subst e; rw [tabG_me, tabG_me]
    · rw [ek, tabG_other p T0 e, tabG_other p T0 e, e3, hearP_other fun e9 => hc j' hj' hne e9.symm]
/-- Between two turns of a round. -/
structure FlAt (p : Pn) (n : Nat) (U : Nat → Nat → Bool) (h : Nat → Nat → Nat) (ys : Nat → Tl) (W : World) (r i : Nat) (B : Bool) (Ts : Nat → Tb) (wr : World) : Prop where
  tabs : Tabs wr n ys Ts
  net : Net p n U Ts
  lev : Lev p n U Ts h r i
  quiet : B = true → ∀ k d, k < i → d < n → k ≠ d → Told p n U Ts k d
  far : n ≤ r → B = true
  exc : Exc (AllMut n ys) W wr
theorem FlAt.next {x : Nn} {p : Pn} {n m : Nat} {U : Nat → Nat → Bool} {h : Nat → Nat → Nat} (hp : PF x p n m) (hh : Hgt p n h) {ys : Nat → Tl} {W wr w' : World} {r i : Nat} {B : Bool} {Ts : Nat → Tb} (hA : FlAt p n U h ys W r i B Ts wr) (hi : i < n) {a : Option Addr} {N : Nat} {X : List (Int × Int × Int)} (hX : X = (Ts i).tellL (Ts i).N) (hN : N = X.length)
    (hI : FlIn p n ys W Ts i ((Ts i).toldL (Ts i).N) X a N N w') : FlAt p n U h ys W r (i + 1) (B && decide (N = 0)) (tabX p Ts i X) w' := by
  have ht := hI.tabs
  rw [hN, List.take_length] at ht
  refine ⟨ht, by rw [hX]; exact hA.net.step hp hi, by rw [hX]; exact hA.lev.step hp hA.net hh hi, fun hB => ?_, fun hr => ?_, hI.exc⟩
  · rw [Bool.and_eq_true, decide_eq_true_eq] at hB
    have e : X = [] := List.eq_nil_of_length_eq_zero (by omega)
    rw [e]
    exact quiet_step hp hA.net hi (hA.quiet hB.1)
  · have e : (Ts i).tellL (Ts i).N = [] := (tell_none hp hA.net hi).2 fun d hd hne => hA.lev.all hh hr hi hd hne
    rw [hA.far hr, hN, hX, e]; rfl
/-- The tables of all places, all told. -/
def FloodOut (p : Pn) (n : Nat) (U : Nat → Nat → Bool) (ys : Nat → Tl) (w : World) (e : Ending) (w' : World) : Prop := e = .returned (.bool true) ∧ ∃ Ts, Tabs w' n ys Ts ∧ Net p n U Ts ∧ (∀ k d, k < n → d < n → k ≠ d → Told p n U Ts k d) ∧ Exc (AllMut n ys) w w'
end Go.Proofs.Ytdjmopipmeonlaa
/- flood: all tables hear what they tell each other, until nothing is told. -/
namespace Go.Proofs.Ytdjmopipmeonlaa
set_option linter.unusedVariables false
set_option linter.unusedVariables false
open Go.RowKit Go.Maps

set_option maxRecDepth 100000 in
set_option maxHeartbeats 8000000 in
theorem flood_any {x : Nn} {p : Pn} {n m : Nat} (hp : PF x p n m) {U : Nat → Nat → Bool} {h : Nat → Nat → Nat} (hh : Hgt p n h) (aP : Option Addr) (cP : Nat) (aL : Option Addr) (cL : Nat) (b c : Nat) (ys : Nat → Tl) (Ts : Nat → Tb) (w : World) (hN : Net p n U Ts) (hT : Tabs w n ys Ts) (hP : PRow w aP n cP p.P) (hr : TRow w b n c ys) :
    Calls Try.prog 18 #[planV aP n cP aL m cL p, .slice (some ⟨b, 0, none⟩) n c] w (FloodOut p n U ys w) := by
  have hn2 := hp.n2
  have hn6 := hp.n6
  have hlen := hp.len
  have hcap := hr.le
  have hcap2 := hr.max
  have hcap3 := hP.le
  have hcap4 := hP.max
  unfold maxLen at hcap2 hcap4
  unfold planV
  obtain ⟨W, hW⟩ : ∃ W, W = w.alloc (.cells (planCells aP n cP aL m cL p).toArray 33) := ⟨_, rfl⟩
  obtain ⟨g0, g1, g2, g3, g4, g5, g6, hB⟩ := boxed hW
  obtain ⟨pb, hpb⟩ : ∃ k, k = w.heap.size := ⟨_, rfl⟩
  have HG := Lib.hid (And.intro g0 (And.intro g1 (And.intro g2 (And.intro g3 (And.intro g4 (And.intro g5 g6))))))
  rw [← hpb] at HG
  have HPW := Lib.hid (hP.later hB)
  obtain ⟨b2, off, rfl, _⟩ := hP.cells.resolve_left (by omega)
  obtain ⟨b3, off3, e3, hcs⟩ := (hP.later hB).cells.resolve_left (by omega)
  cases e3
  have HCs := Lib.hid hcs
  have HRW := Lib.hid (hr.kept (Kp.below hB))
  have HKp := Lib.hid (fun (V : World) (hx : Exc (AllMut n ys) W V) => (hT.below hB).kp hx)
  have HB := Lib.hid hB
  have H0 := Lib.hid (show FlAt p n U h ys W 0 0 true Ts W from ⟨hT.below hB, hN, fun k d _ _ _ h9 => absurd h9 (by omega), fun _ k d h9 => absurd h9 (Nat.not_lt_zero _), fun h9 => absurd h9 (by omega), Exc.refl _ W⟩)
  have HPF := Lib.hid hp
  go_enter Try.func18, Try.ntmps18
  go_upto_region 1 with (fail)
  show Code.wp _ _ _ _ (w.alloc (.cells (planCells (some ⟨b2, off, none⟩) n cP aL m cL p).toArray 33))
  rw [← hW, ← hpb]
  clear hW g0 g1 g2 g3 g4 g5 g6 hB hT hP hr hpb hN hcs
  go_wp2_with fail
  go_loopw [5] (fun v wr => ∃ (r : Nat) (Ts : Nat → Tb), r ≤ 7 ∧ v = .int .i64 r ∧ FlAt p n U h ys W r 0 true Ts wr) (fun v _ => 100 - (intOf v).toNat)
  case atStart => exact ⟨0, Ts, by omega, rfl, H0.out⟩
  case round =>
    obtain ⟨r, Tr, hr7, rfl, hA⟩ := hrel
    clear H0
    have HA := Lib.hid hA
    clear hA
    have q0 : (r : Int) < 100 := by omega
    have q1 : decide ((r : Int) < 100) = true := by simp; omega
    go_wp2_with fail
    go_loopw [6, 7] (fun q v wr => ∃ (i : Nat) (B : Bool) (Ts : Nat → Tb), i ≤ n ∧ v = .int .i64 i ∧ q = .bool B ∧ FlAt p n U h ys W r i B Ts wr) (fun _ v _ => n - (intOf v).toNat)
    case atStart => exact ⟨0, true, Tr, Nat.zero_le _, rfl, rfl, HA.out⟩
    case round =>
      obtain ⟨i, B, Ti, hi, rfl, rfl, hA⟩ := hrel
      clear HA
      have HA := Lib.hid hA
      by_cases hin : i < n
      · have hc := (HRW.out.kept (HKp.out _ hA.exc)).cells i hin
        have i0 : (0 : Int) ≤ (i : Int) := by omega
        have i1 : (i : Int) < (n : Int) := by omega
        have HTl := Lib.hid (tell_any wr (hA.tabs.tb i hin))
        have HSz := Lib.hid (And.intro hA.exc.size (fun (j : Nat) (hj : j < n) => (hA.tabs.tb j hj).fix.hi))
        clear hA
        go_wp2_with fail
        with_reducible refine HTl.out.mono ?_
        rintro e w1 ⟨a, rfl, hnr, htb, hx, hfr⟩
        obtain ⟨X, hX⟩ : ∃ X, X = (Ti i).tellL (Ti i).N := ⟨_, rfl⟩
        obtain ⟨N, hN⟩ : ∃ N, N = X.length := ⟨_, rfl⟩
        rw [← hX, ← hN] at hnr
        rw [← hX, ← hN]
        have hI := FlIn.start (p := p) hin hN HA.out.tabs HA.out.exc hnr htb hx
        have hcN := hnr.max
        unfold maxLen at hcN
        have HI := Lib.hid hI
        have HXN := Lib.hid (And.intro hX hN)
        have HFr := Lib.hid hfr
        have HSx := Lib.hid hx.size
        clear hnr htb hx hfr hI hX hN HTl hc
        go_wp2_with fail
        go_loopw [6, 9] (fun q v wr => ∃ k : Nat, k ≤ N ∧ v = .int .i64 k ∧ q = .bool (B && decide (k = 0)) ∧ FlIn p n ys W Ti i ((Ti i).toldL (Ti i).N) X a N k wr) (fun _ v _ => N - (intOf v).toNat)
        case atStart => exact ⟨0, Nat.zero_le _, rfl, by simp, HI.out⟩
        case round =>
          obtain ⟨k, hk, rfl, rfl, hI⟩ := hrel
          clear HI
          have HI := Lib.hid hI
          by_cases hkN : k < N
          · obtain ⟨g, rfl, c0, c1, c2, cf⟩ := hI.note hkN
            obtain ⟨X1, hX1⟩ : ∃ y, y = (X.getD k (0, 0, 0)).1 := ⟨_, rfl⟩
            obtain ⟨X2, hX2⟩ : ∃ y, y = (X.getD k (0, 0, 0)).2.1 := ⟨_, rfl⟩
            obtain ⟨X3, hX3⟩ : ∃ y, y = (X.getD k (0, 0, 0)).2.2 := ⟨_, rfl⟩
            rw [← hX1] at c0
            rw [← hX2] at c1
            rw [← hX3] at c2
            have hm : (X1, X2, X3) ∈ (Ti i).tellL (Ti i).N := by
              rw [hX1, hX2, hX3, ← HXN.out.1]
              rw [List.getD_eq_getElem?_getD, List.getElem?_eq_getElem (by rw [← HXN.out.2]; exact hkN)]
              exact List.getElem_mem _
            obtain ⟨m1, m2, m3, m4, m5, m6, m7⟩ := (HA.out.net.inv i hin).note HPF.out hm
            obtain ⟨j, hj, hj1, hji⟩ := (HA.out.net.inv i hin).place HPF.out m1
            have HJ := Lib.hid (And.intro hj1 (And.intro hji (And.intro m1 (And.intro m2 (And.intro m3 (And.intro m4 (And.intro m5 (And.intro m6 m7))))))))
            have HXs := Lib.hid (And.intro hX1 (And.intro hX2 hX3))
            have hkp := HKp.out wr hI.exc
            have g0 := hkp _ _ HG.out.1
            have g1 := hkp _ _ HG.out.2.1
            have g2 := hkp _ _ HG.out.2.2.1
            have g3 := hkp _ _ HG.out.2.2.2.1
            have g4 := hkp _ _ HG.out.2.2.2.2.1
            have g5 := hkp _ _ HG.out.2.2.2.2.2.1
            have g6 := hkp _ _ HG.out.2.2.2.2.2.2
            have hid : idN p.P X1 = j ∧ isB p.P X1 = true := by rw [hj1]; exact idN_some (HPF.out.fnd hj)
            have hix := cindex_any p (some ⟨b2, off, none⟩) n cP aL m cL X1 wr.drew (HPW.out.kept (hkp.trans (Kp.below (below_draw wr 1))))
            rw [hid.1, hid.2] at hix
            unfold planV at hix
            have HIx := Lib.hid hix
            have k0 : (0 : Int) ≤ (k : Int) := by omega
            have k1 : (k : Int) < (N : Int) := by omega
            have HKc := Lib.hid (And.intro g0 (And.intro g1 (And.intro g2 (And.intro g3 (And.intro g4 (And.intro g5 (And.intro g6 c0)))))))
            clear hm m1 m2 m3 m4 m5 m6 m7 hj1 hX1 hX2 hX3 hI hkp hid hix c1 c2 cf
            go_upto_region 13 with (fail)
            go_region_held3 (fun w' => w'.cell? ⟨pb, 0, none⟩ = some (.slice (some ⟨b2, off, none⟩) n cP) ∧ w'.cell? ⟨pb, 1, none⟩ = some (.slice aL m cL) ∧ w'.cell? ⟨pb, 2, none⟩ = some (.int .i64 p.rate) ∧ w'.cell? ⟨pb, 3, none⟩ = some (.int .i64 p.room) ∧ w'.cell? ⟨pb, 4, none⟩ = some (.int .i64 p.m0) ∧ w'.cell? ⟨pb, 5, none⟩ = some (.int .i64 p.m1) ∧ w'.cell? ⟨pb, 6, none⟩ = some (.int .i64 p.m2) ∧ w'.cell? ⟨g, k * 3, none⟩ = some (.int .u16 X1)) (first | exact HKc.out | (go_keep; done))
              (first
                | ((with_reducible refine HIx.out.mono ?_); rintro e w4 ⟨rfl, hb⟩; have hI4 := HI.out.later ((below_draw wr 1).trans (hb.mono (below_draw wr 1).size)); have HI4 := Lib.hid hI4; have hkp4 := HKp.out w4 hI4.exc; have g0 := hkp4 _ _ HG.out.1; have g1 := hkp4 _ _ HG.out.2.1; have g2 := hkp4 _ _ HG.out.2.2.1; have g3 := hkp4 _ _ HG.out.2.2.2.1; have g4 := hkp4 _ _ HG.out.2.2.2.2.1; have g5 := hkp4 _ _ HG.out.2.2.2.2.2.1; have g6 := hkp4 _ _ HG.out.2.2.2.2.2.2; obtain ⟨gz, ez, c0, c1, c2, cf⟩ := hI4.note hkN; cases ez; rw [← HXs.out.1] at c0; have HKc := Lib.hid (And.intro g0 (And.intro g1 (And.intro g2 (And.intro g3 (And.intro g4 (And.intro g5 (And.intro g6 c0))))))); have HCf := Lib.hid cf; clear hb hI4 hkp4 c1 c2 cf)
                | fail)
            clear HIx
            obtain ⟨u, hu⟩ : ∃ u, u = pc p.P i := ⟨_, rfl⟩
            have v0 := HKp.out w4 HI4.out.exc _ _ (HCs.out i hin).1
            rw [← hu] at v0
            have HU := Lib.hid hu
            have cf := HCf.out
            have j0 : (0 : Int) ≤ (j : Int) := by omega
            have j1 : (j : Int) < (n : Int) := by omega
            have j2 : decide ((n : Int) ≤ (j : Int)) = false := by simp; omega
            have j3 : decide (n ≤ j) = false := by simp; omega
            have i2 : (0 : Int) ≤ (i : Int) := by omega
            have i3 : (i : Int) < (n : Int) := by omega
            clear hu
            go_upto_region 17 with (fail)
            obtain ⟨w5, hw5⟩ : ∃ w5, w5 = (w4.setCell ⟨g, k * 3, none⟩ (.int .u16 u)).drew := ⟨_, rfl⟩
            obtain ⟨t1, t2, t3, t4, t5, t6, _⟩ := HI4.out.store hkN (fun q hq => Nat.le_trans (HSz.out.2 q hq) (HFr.out _ rfl)) (Nat.le_trans HSz.out.1 (HFr.out _ rfl)) u
            have hbd := below_draw (w4.setCell ⟨g, k * 3, none⟩ (.int .u16 u)) 1
            have t1 := t1.below hbd
            have t2 : ∃ X', NRow w5 (some ⟨g, 0, none⟩) N N X' ∧ ∀ j, k + 1 ≤ j → j < N → X'.getD j (0, 0, 0) = X.getD j (0, 0, 0) := by
              obtain ⟨X', h1, h2⟩ := t2
              rw [hw5]
              exact ⟨X', h1.later hbd, h2⟩
            have t3 : Exc (AllMut n ys) W w5 := by rw [hw5]; exact t3.drawN 1
            have t7 := (HRW.out.kept (HKp.out _ t3)).cells j hj
            have t7 : (w4.setCell ⟨g, k * 3, none⟩ (.int .u16 u)).cell? ⟨b, j, none⟩ = some (.pointer (some ⟨(ys j).tb, 0, none⟩)) := by rw [hw5] at t7; exact t7
            rw [← HXs.out.2.1] at t5
            rw [← HXs.out.2.2] at t6
            obtain ⟨hj1, hji, m1, m2, m3, m4, m5, m6, m7⟩ := HJ.out
            have htj : TbAt w5 (ys j) (hearP (Ti j) (pc p.P i) (pc p.P j) (X.take k) (Ti i).st) := by
              have h9 := t1.tb j hj
              rw [tabG_other p Ti hji] at h9
              rw [hw5]; exact h9
            obtain ⟨d, hd, hd1, hdi⟩ := (HA.out.net.inv i hin).dest HPF.out m2
            have hdj : d ≠ j := fun e9 => m3 (by rw [hd1, hj1, e9])
            obtain ⟨q1, q2⟩ := (HA.out.net.inv j hj).memP HPF.out hj hd hdj
            have hNb : pc p.P i ∈ (Ti j).N := HA.out.net.back HPF.out hin hj (by rw [← hj1]; exact m1)
            have hHr := hear_ok (pc p.P i) X2 X3 w5 htj hNb (by rw [hd1]; exact wf16.2 (by have := HPF.out.code hd; omega)) (by rw [hd1]; exact q1) (by rw [hd1]; exact q2) m6 m7 m4
            rw [← HU.out] at hHr
            unfold noteV at hHr
            rw [hw5] at hHr
            have HHr := Lib.hid hHr
            have HT5 := Lib.hid (And.intro t1 (And.intro t2 t3))
            have HW5 := Lib.hid hw5
            clear v0 cf c0 g0 g1 g2 g3 g4 g5 g6 hbd t1 t2 t3 htj hd1 hdi hdj q1 q2 hNb hHr m1 m2 m3 m4 m5 m6 m7 hj1 HKc HCf hw5
            have HK5 := Lib.hid (And.intro t7 (And.intro t4 (And.intro t5 t6)))
            clear HI4 HI
            go_region_held3 (fun w' => w'.cell? ⟨b, j, none⟩ = some (.pointer (some ⟨(ys j).tb, 0, none⟩)) ∧ w'.cell? ⟨g, k * 3, none⟩ = some (.int .u16 u) ∧ w'.cell? ⟨g, k * 3 + 1, none⟩ = some (.int .u16 X2) ∧ w'.cell? ⟨g, k * 3 + 2, none⟩ = some (.int .u8 X3)) (first | exact HK5.out | (go_keep; done))
              (first
                | ((with_reducible refine HHr.out.mono ?_); rintro e w6 ⟨rfl, ht, hx⟩; have hk6 := HT5.out.1.kp (excAll hj hx); have c0 := hk6 _ _ HK5.out.1; have c1 := hk6 _ _ HK5.out.2.1; have c2 := hk6 _ _ HK5.out.2.2.1; have c3 := hk6 _ _ HK5.out.2.2.2; have HK5 := Lib.hid (And.intro c0 (And.intro c1 (And.intro c2 c3))); clear hk6 c0 c1 c2 c3; have H6 := Lib.hid (And.intro ht hx); clear ht hx)
                | fail)
            obtain ⟨ht, hx⟩ := H6.out
            rw [← HW5.out] at hx
            obtain ⟨t1, t2, t3⟩ := HT5.out
            have t1 : Tabs w5 n ys (tabG p Ti i ((Ti i).toldL (Ti i).N) (X.take k)) := by rw [HW5.out]; exact t1
            have hnx : FlIn p n ys W Ti i ((Ti i).toldL (Ti i).N) X (some ⟨g, 0, none⟩) N (k + 1) w6 := by
              refine FlIn.heard hkN HXN.out.2 hj hji (fun j' hj' hne e => hne ((pc_inj HPF.out (by omega) (by omega)).1 e)) (by rw [← HXs.out.1]; exact HJ.out.1) (by rw [← HXs.out.2.2, ← HXs.out.2.1]; exact HJ.out.2.2.2.2.2.2.1) t1 t2 t3 ?_ hx
              rw [tabG_other p Ti hji, ← HU.out, ← HXs.out.2.2, ← HXs.out.2.1]
              exact ht
            have HNx := Lib.hid hnx
            clear hnx t1 t2 t3 ht hx H6 HT5 HHr HK5
            go_wp2_with fail
            exact ⟨⟨k + 1, by omega, by go_num, by simp, HNx.out⟩, by simp [intOf]; omega⟩
          · obtain rfl : k = N := by omega
            have HNx := Lib.hid (HA.out.next HPF.out hh hin HXN.out.1 HXN.out.2 hI)
            clear hI HI
            go_wp2_with fail
            exact ⟨⟨i + 1, _, _, by omega, by go_num, rfl, HNx.out⟩, by simp [intOf]; omega⟩
      · obtain rfl : i = n := by omega
        clear hA
        cases hB : B
        · go_wp2_with fail
          have hr9 : ¬ i ≤ r := fun h9 => by have := HA.out.far h9; rw [hB] at this; cases this
          exact ⟨⟨r + 1, Ti, by omega, by go_num, ⟨HA.out.tabs, HA.out.net, HA.out.lev.next, fun _ k d h9 => absurd h9 (Nat.not_lt_zero _), fun _ => rfl, HA.out.exc⟩⟩, by simp [intOf]; omega⟩
        · go_wp2_with fail
          go_ret
          refine ⟨rfl, Ti, HA.out.tabs, HA.out.net, HA.out.quiet hB, ?_⟩
          exact (Exc.of_below (S := AllMut i ys) HB.out).trans HA.out.exc fun _ _ h => h
end Go.Proofs.Ytdjmopipmeonlaa
