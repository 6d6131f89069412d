import Derived.Test.YtdjmopipmeonlaaTgGreet
import Derived.Deep.Cut
import Derived.Deep.MidRow
import Derived.Deep.RegionHeld3
import Derived.Deep.RegionLaw
import Derived.BigRegion
import Derived.BigQuiet
import Derived.IntWalk
/- change: two places go down for each other, or greet each other and come up. -/
namespace Go.Proofs.Ytdjmopipmeonlaa
set_option linter.unusedVariables false
set_option linter.unusedVariables false
open Go.RowKit Go.Maps

def ChangeOut (p : Pn) (n : Nat) (U : Nat → Nat → Bool) (ys : Nat → Tl) (w : World) (e : Ending) (w' : World) : Prop := e = .returned (.bool true) ∧ ∃ Ts, Tabs w' n ys Ts ∧ Net p n U Ts ∧ Exc (AllMut n ys) w w'
set_option maxRecDepth 100000 in
set_option maxHeartbeats 8000000 in
theorem change_any {x : Nn} {p : Pn} {n m : Nat} (hp : PF x p n m) {U : Nat → Nat → Bool} (aP : Option Addr) (cP : Nat) (aL : Option Addr) (cL : Nat) (rb c : Nat) (ys : Nat → Tl) (Ts : Nat → Tb) (w : World) (hN : Net p n U Ts) (hT : Tabs w n ys Ts) (hP : PRow w aP n cP p.P) (hr : TRow w rb n c ys)
    {a b : Nat} (ha : a < n) (hb : b < n) (hab : b ≠ a) (hin : pc p.P b ∈ (Ts a).N) (v : Bool) :
    Calls Try.prog 19 #[planV aP n cP aL m cL p, .slice (some ⟨rb, 0, none⟩) n c, .int .i64 a, .int .i64 b, .bool v] w (ChangeOut p n (setU U a b v) ys w) := by
  have hn2 := hp.n2
  have hn6 := hp.n6
  have hlen := hp.len
  have hcap := hr.le
  have hcap2 := hr.max
  have hcap3 := hP.le
  have hcap4 := hP.max
  unfold maxLen at hcap2 hcap4
  unfold planV
  obtain ⟨W, hW⟩ : ∃ W, W = w.alloc (.cells (planCells aP n cP aL m cL p).toArray 33) := ⟨_, rfl⟩
  obtain ⟨g0, g1, g2, g3, g4, g5, g6, hB⟩ := boxed hW
  obtain ⟨b2, off, rfl, _⟩ := hP.cells.resolve_left (by omega)
  obtain ⟨b3, off3, e3, hcs⟩ := (hP.later hB).cells.resolve_left (by omega)
  cases e3
  have v0 := (hcs a ha).1
  have v1 := (hcs b hb).1
  obtain ⟨ua, hua⟩ : ∃ u, u = pc p.P a := ⟨_, rfl⟩
  obtain ⟨ub, hub⟩ : ∃ u, u = pc p.P b := ⟨_, rfl⟩
  rw [← hua] at v0
  rw [← hub] at v1
  have HUa := Lib.hid hua
  have HUb := Lib.hid hub
  have HRW := Lib.hid (hr.kept (Kp.below hB))
  have HKp := Lib.hid (fun (V : World) (hx : Exc (AllMut n ys) W V) => (hT.below hB).kp hx)
  have HB := Lib.hid hB
  have HTW := Lib.hid (hT.below hB)
  have HNt := Lib.hid hN
  have HPF := Lib.hid hp
  have Hneb := Lib.hid hab
  have Hnea := Lib.hid (Ne.symm hab)
  have Hina := Lib.hid hin
  have Hinb := Lib.hid (hN.back hp ha hb hin)
  have ra := HRW.out.cells a ha
  have rb' := HRW.out.cells b hb
  have a0 : (0 : Int) ≤ (a : Int) := by omega
  have a1 : (a : Int) < (n : Int) := by omega
  have b0 : (0 : Int) ≤ (b : Int) := by omega
  have b1 : (b : Int) < (n : Int) := by omega
  have hx0 := Exc.refl (AllMut n ys) W
  go_enter Try.func19, Try.ntmps19
  go_upto_region 1 with (fail)
  show Code.wp _ _ _ _ (w.alloc (.cells (planCells (some ⟨b2, off, none⟩) n cP aL m cL p).toArray 33))
  rw [← hW]
  clear hW hB hT hP hr hN hcs hua hub hin
  cases v
  · have HD := Lib.hid (down_ok _ W (HTW.out.tb a ha) Hina.out)
    rw [← HUb.out] at HD
    clear hab
    go_wp2_with fail
    with_reducible refine HD.out.mono ?_
    rintro e w1 ⟨rfl, ht, hx⟩
    have hx1 := excAll ha hx
    have rb' := HKp.out _ hx1 _ _ rb'
    have h1 := (HTW.out.tb b hb).exc hx ((HTW.out.tb a ha).off (HTW.out.tb b hb) (HTW.out.apart a b ha hb Hnea.out))
    have HD2 := Lib.hid (down_ok _ w1 h1 Hinb.out)
    rw [← HUa.out] at HD2
    have HX := Lib.hid (And.intro ht hx)
    clear g0 g1 g2 g3 g4 g5 g6 v0 v1 ra HD hx1 h1 ht hx
    go_wp2_with fail
    with_reducible refine HD2.out.mono ?_
    rintro e w2 ⟨rfl, ht2, hx2⟩
    have hta := HTW.out.pair ha hb Hneb.out HX.out.1 HX.out.2 ht2 hx2
    have hxx := excAll_trans (excAll ha HX.out.2) (excAll hb hx2)
    rw [HUa.out, HUb.out] at hta
    have HFin := Lib.hid (show ChangeOut p n (setU U a b false) ys w (.returned (.bool true)) w2 from ⟨rfl, _, hta, HNt.out.downs HPF.out ha hb Hneb.out Hina.out, (Exc.of_below (S := AllMut n ys) HB.out).trans hxx fun _ _ h => h⟩)
    clear hta hxx ht2 hx2 rb'
    go_wp2_with fail
    go_ret
    exact HFin.out
  · have HG := Lib.hid (greet_ok _ W (HTW.out.tb a ha) Hina.out)
    rw [← HUb.out] at HG
    clear hab
    go_wp2_with fail
    with_reducible refine HG.out.mono ?_
    rintro e w1 ⟨aN, rfl, hnr, htb, hx, hfr⟩
    obtain ⟨X, hX⟩ : ∃ X, X = (Ts a).news ub := ⟨_, rfl⟩
    obtain ⟨N, hN⟩ : ∃ N, N = X.length := ⟨_, rfl⟩
    obtain ⟨M, hM⟩ : ∃ M, M = (Ts a).told1 ub := ⟨_, rfl⟩
    rw [← hX, ← hN] at hnr
    rw [← hM] at htb
    rw [← hX, ← hN]
    rw [HUb.out] at hX hM
    have hI := FlIn.start (p := p) ha hN HTW.out (Exc.refl (AllMut n ys) W) hnr htb hx
    have hcN := hnr.max
    unfold maxLen at hcN
    have HI := Lib.hid hI
    have HXN := Lib.hid (And.intro hX hN)
    have HM := Lib.hid hM
    have HFr := Lib.hid hfr
    have HSz := Lib.hid (And.intro (Nat.le_refl W.heap.size) (fun (j : Nat) (hj : j < n) => (HTW.out.tb j hj).fix.hi))
    clear hnr htb hx hfr hI hX hN hM HG g0 g1 g2 g3 g4 g5 g6 v0 v1 ra rb' hx0
    go_wp2_with fail
    go_loopw [15] (fun v wr => ∃ k : Nat, k ≤ N ∧ v = .int .i64 k ∧ FlIn p n ys W Ts a M X aN N k wr) (fun v _ => N - (intOf v).toNat)
    case atStart => exact ⟨0, Nat.zero_le _, rfl, HI.out⟩
    case round =>
      obtain ⟨k, hk, rfl, hI⟩ := hrel
      clear HI
      have HI := Lib.hid hI
      by_cases hkN : k < N
      · obtain ⟨g, rfl, c0, c1, c2, cf⟩ := hI.note hkN
        obtain ⟨X1, hX1⟩ : ∃ y, y = (X.getD k (0, 0, 0)).1 := ⟨_, rfl⟩
        obtain ⟨X2, hX2⟩ : ∃ y, y = (X.getD k (0, 0, 0)).2.1 := ⟨_, rfl⟩
        obtain ⟨X3, hX3⟩ : ∃ y, y = (X.getD k (0, 0, 0)).2.2 := ⟨_, rfl⟩
        rw [← hX1] at c0
        rw [← hX2] at c1
        rw [← hX3] at c2
        have hm : (X1, X2, X3) ∈ (Ts a).news (pc p.P b) := by
          rw [hX1, hX2, hX3, ← HXN.out.1]
          rw [List.getD_eq_getElem?_getD, List.getElem?_eq_getElem (by rw [← HXN.out.2]; exact hkN)]
          exact List.getElem_mem _
        have HJ := Lib.hid ((HNt.out.inv a ha).noteG HPF.out hm)
        have HXs := Lib.hid (And.intro hX1 (And.intro hX2 hX3))
        have k0 : (0 : Int) ≤ (k : Int) := by omega
        have k1 : (k : Int) < (N : Int) := by omega
        clear hm hX1 hX2 hX3 hI c1 c2
        go_upto_region 10 with (fail)
        obtain ⟨w5, hw5⟩ : ∃ w5, w5 = (wr.setCell ⟨g, k * 3, none⟩ (.int .u16 ua)).drew := ⟨_, rfl⟩
        obtain ⟨t1, t2, t3, t4, t5, t6, _⟩ := HI.out.store hkN (fun q hq => Nat.le_trans (HSz.out.2 q hq) (HFr.out _ rfl)) (Nat.le_trans HSz.out.1 (HFr.out _ rfl)) ua
        have hbd := below_draw (wr.setCell ⟨g, k * 3, none⟩ (.int .u16 ua)) 1
        have t1 := t1.below hbd
        have t2 : ∃ X', NRow w5 (some ⟨g, 0, none⟩) N N X' ∧ ∀ j, k + 1 ≤ j → j < N → X'.getD j (0, 0, 0) = X.getD j (0, 0, 0) := by
          obtain ⟨X', h1, h2⟩ := t2
          rw [hw5]
          exact ⟨X', h1.later hbd, h2⟩
        have t3 : Exc (AllMut n ys) W w5 := by rw [hw5]; exact t3.drawN 1
        have t7 := (HRW.out.kept (HKp.out _ t3)).cells b hb
        have t7 : (wr.setCell ⟨g, k * 3, none⟩ (.int .u16 ua)).cell? ⟨rb, b, none⟩ = some (.pointer (some ⟨(ys b).tb, 0, none⟩)) := by rw [hw5] at t7; exact t7
        rw [← HXs.out.2.1] at t5
        rw [← HXs.out.2.2] at t6
        obtain ⟨hj1, m2, m3, m4, m5, m6, m7⟩ := HJ.out
        have hji : b ≠ a := Hneb.out
        have htj : TbAt w5 (ys b) (hearP (Ts b) (pc p.P a) (pc p.P b) (X.take k) (Ts a).st) := by
          have h9 := t1.tb b hb
          rw [tabG_other p Ts hji] at h9
          rw [hw5]; exact h9
        obtain ⟨d, hd, hd1, hdi⟩ := (HNt.out.inv a ha).dest HPF.out m2
        have hdj : d ≠ b := fun e9 => m3 (by rw [hd1, hj1, e9])
        obtain ⟨q1, q2⟩ := (HNt.out.inv b hb).memP HPF.out hb hd hdj
        have hNb : pc p.P a ∈ (Ts b).N := HNt.out.back HPF.out ha hb Hina.out
        have hHr := hear_ok (pc p.P a) X2 X3 w5 htj hNb (by rw [hd1]; exact wf16.2 (by have := HPF.out.code hd; omega)) (by rw [hd1]; exact q1) (by rw [hd1]; exact q2) m6 m7 m4
        rw [← HUa.out] at hHr
        unfold noteV at hHr
        rw [hw5] at hHr
        have HHr := Lib.hid hHr
        have HT5 := Lib.hid (And.intro t1 (And.intro t2 t3))
        have HW5 := Lib.hid hw5
        have HK5 := Lib.hid (And.intro t7 (And.intro t4 (And.intro t5 t6)))
        clear cf c0 hbd t1 t2 t3 t4 t5 t6 t7 htj hd1 hdi hdj q1 q2 hNb hHr m2 m3 m4 m5 m6 m7 hj1 hw5 HI hji
        have j0 : (0 : Int) ≤ (b : Int) := by omega
        have j1 : (b : Int) < (n : Int) := by omega
        obtain ⟨t7, t4, t5, t6⟩ := HK5.out
        go_region_held3 (fun w' => w'.cell? ⟨rb, b, none⟩ = some (.pointer (some ⟨(ys b).tb, 0, none⟩)) ∧ w'.cell? ⟨g, k * 3, none⟩ = some (.int .u16 ua) ∧ w'.cell? ⟨g, k * 3 + 1, none⟩ = some (.int .u16 X2) ∧ w'.cell? ⟨g, k * 3 + 2, none⟩ = some (.int .u8 X3)) (first | exact HK5.out | (go_keep; done))
          (first
            | ((with_reducible refine HHr.out.mono ?_); rintro e w6 ⟨rfl, ht, hx⟩; have hk6 := HT5.out.1.kp (excAll hb hx); have c0 := hk6 _ _ HK5.out.1; have c1 := hk6 _ _ HK5.out.2.1; have c2 := hk6 _ _ HK5.out.2.2.1; have c3 := hk6 _ _ HK5.out.2.2.2; have HK5 := Lib.hid (And.intro c0 (And.intro c1 (And.intro c2 c3))); clear hk6 c0 c1 c2 c3; have H6 := Lib.hid (And.intro ht hx); clear ht hx)
            | fail)
        obtain ⟨ht, hx⟩ := H6.out
        rw [← HW5.out] at hx
        obtain ⟨t1, t2, t3⟩ := HT5.out
        have t1 : Tabs w5 n ys (tabG p Ts a M (X.take k)) := by rw [HW5.out]; exact t1
        have hnx : FlIn p n ys W Ts a M X (some ⟨g, 0, none⟩) N (k + 1) w6 := by
          refine FlIn.heard hkN HXN.out.2 hb Hneb.out (fun j' hj' hne e => hne ((pc_inj HPF.out (by omega) (by omega)).1 e)) (by rw [← HXs.out.1]; exact HJ.out.1) (by rw [← HXs.out.2.2, ← HXs.out.2.1]; exact HJ.out.2.2.2.2.1) t1 t2 t3 ?_ hx
          rw [tabG_other p Ts Hneb.out, ← HUa.out, ← HXs.out.2.2, ← HXs.out.2.1]
          exact ht
        have HNx := Lib.hid hnx
        clear hnx t1 t2 t3 ht hx H6 HT5 HHr HK5
        go_wp2_with fail
        exact ⟨⟨k + 1, by omega, by go_num, HNx.out⟩, by simp [intOf]; omega⟩
      · obtain rfl : k = N := by omega
        have HNx := Lib.hid hI
        clear HI hI
        have hta := HNx.out.tabs
        rw [HXN.out.2, List.take_length] at hta
        obtain ⟨T1, hT1⟩ : ∃ T, T = tabG p Ts a M X := ⟨_, rfl⟩
        have hn1 : Net p n U T1 := by rw [hT1, HM.out, HXN.out.1]; exact HNt.out.greet HPF.out ha hb Hneb.out
        rw [← hT1] at hta
        have hNa : (T1 a).N = (Ts a).N := by rw [(hn1.inv a ha).N, (HNt.out.inv a ha).N]
        have hNbb : (T1 b).N = (Ts b).N := by rw [(hn1.inv b hb).N, (HNt.out.inv b hb).N]
        have hia : pc p.P b ∈ (T1 a).N := by rw [hNa]; exact Hina.out
        have hib : pc p.P a ∈ (T1 b).N := by rw [hNbb]; exact Hinb.out
        have hx1 := HNx.out.exc
        clear HNt Hina Hinb HXN HM HFr HSz
        have HTW1 := Lib.hid hta
        have HNt := Lib.hid hn1
        have Hina := Lib.hid hia
        have Hinb := Lib.hid hib
        have HX1 := Lib.hid hx1
        have ra := HKp.out _ hx1 _ _ (HRW.out.cells a ha)
        have rb' := HKp.out _ hx1 _ _ (HRW.out.cells b hb)
        have HG := Lib.hid (greet_ok _ wr (hta.tb b hb) hib)
        rw [← HUa.out] at HG
        have HSz := Lib.hid (And.intro hx1.size (fun (j : Nat) (hj : j < n) => (hta.tb j hj).fix.hi))
        clear hta hn1 hNa hNbb hia hib hx1 HNx hT1 hk
        go_wp2_with fail
        with_reducible refine HG.out.mono ?_
        rintro e w1 ⟨aO, rfl, hnr, htb, hx, hfr⟩
        obtain ⟨Y, hX⟩ : ∃ X, X = (T1 b).news ua := ⟨_, rfl⟩
        obtain ⟨O, hN⟩ : ∃ N, N = Y.length := ⟨_, rfl⟩
        obtain ⟨M2, hM⟩ : ∃ M, M = (T1 b).told1 ua := ⟨_, rfl⟩
        rw [← hX, ← hN] at hnr
        rw [← hM] at htb
        rw [← hX, ← hN]
        rw [HUa.out] at hX hM
        have hI := FlIn.start (p := p) hb hN HTW1.out HX1.out hnr htb hx
        have hcO := hnr.max
        unfold maxLen at hcO
        have HI := Lib.hid hI
        have HXN := Lib.hid (And.intro hX hN)
        have HM := Lib.hid hM
        have HFr := Lib.hid hfr
        clear hnr htb hx hfr hI hX hN hM HG ra rb'
        go_wp2_with fail
        go_loopw [18] (fun v wr => ∃ k : Nat, k ≤ O ∧ v = .int .i64 k ∧ FlIn p n ys W T1 b M2 Y aO O k wr) (fun v _ => O - (intOf v).toNat)
        case atStart => exact ⟨0, Nat.zero_le _, rfl, HI.out⟩
        case round =>
          obtain ⟨k, hk, rfl, hI⟩ := hrel
          clear HI
          have HI := Lib.hid hI
          by_cases hkN : k < O
          · obtain ⟨g, rfl, c0, c1, c2, cf⟩ := hI.note hkN
            obtain ⟨X1, hX1⟩ : ∃ y, y = (Y.getD k (0, 0, 0)).1 := ⟨_, rfl⟩
            obtain ⟨X2, hX2⟩ : ∃ y, y = (Y.getD k (0, 0, 0)).2.1 := ⟨_, rfl⟩
            obtain ⟨X3, hX3⟩ : ∃ y, y = (Y.getD k (0, 0, 0)).2.2 := ⟨_, rfl⟩
            rw [← hX1] at c0
            rw [← hX2] at c1
            rw [← hX3] at c2
            have hm : (X1, X2, X3) ∈ (T1 b).news (pc p.P a) := by
              rw [hX1, hX2, hX3, ← HXN.out.1]
              rw [List.getD_eq_getElem?_getD, List.getElem?_eq_getElem (by rw [← HXN.out.2]; exact hkN)]
              exact List.getElem_mem _
            have HJ := Lib.hid ((HNt.out.inv b hb).noteG HPF.out hm)
            have HXs := Lib.hid (And.intro hX1 (And.intro hX2 hX3))
            have k0 : (0 : Int) ≤ (k : Int) := by omega
            have k1 : (k : Int) < (O : Int) := by omega
            clear hm hX1 hX2 hX3 hI c1 c2
            go_upto_region 17 with (fail)
            obtain ⟨w5, hw5⟩ : ∃ w5, w5 = (wr.setCell ⟨g, k * 3, none⟩ (.int .u16 ub)).drew := ⟨_, rfl⟩
            obtain ⟨t1, t2, t3, t4, t5, t6, _⟩ := HI.out.store hkN (fun q hq => Nat.le_trans (HSz.out.2 q hq) (HFr.out _ rfl)) (Nat.le_trans HSz.out.1 (HFr.out _ rfl)) ub
            have hbd := below_draw (wr.setCell ⟨g, k * 3, none⟩ (.int .u16 ub)) 1
            have t1 := t1.below hbd
            have t2 : ∃ X', NRow w5 (some ⟨g, 0, none⟩) O O X' ∧ ∀ j, k + 1 ≤ j → j < O → X'.getD j (0, 0, 0) = Y.getD j (0, 0, 0) := by
              obtain ⟨X', h1, h2⟩ := t2
              rw [hw5]
              exact ⟨X', h1.later hbd, h2⟩
            have t3 : Exc (AllMut n ys) W w5 := by rw [hw5]; exact t3.drawN 1
            have t7 := (HRW.out.kept (HKp.out _ t3)).cells a ha
            have t7 : (wr.setCell ⟨g, k * 3, none⟩ (.int .u16 ub)).cell? ⟨rb, a, none⟩ = some (.pointer (some ⟨(ys a).tb, 0, none⟩)) := by rw [hw5] at t7; exact t7
            rw [← HXs.out.2.1] at t5
            rw [← HXs.out.2.2] at t6
            obtain ⟨hj1, m2, m3, m4, m5, m6, m7⟩ := HJ.out
            have hji : a ≠ b := Hnea.out
            have htj : TbAt w5 (ys a) (hearP (T1 a) (pc p.P b) (pc p.P a) (Y.take k) (T1 b).st) := by
              have h9 := t1.tb a ha
              rw [tabG_other p T1 hji] at h9
              rw [hw5]; exact h9
            obtain ⟨d, hd, hd1, hdi⟩ := (HNt.out.inv b hb).dest HPF.out m2
            have hdj : d ≠ a := fun e9 => m3 (by rw [hd1, hj1, e9])
            obtain ⟨q1, q2⟩ := (HNt.out.inv a ha).memP HPF.out ha hd hdj
            have hNb : pc p.P b ∈ (T1 a).N := HNt.out.back HPF.out hb ha Hinb.out
            have hHr := hear_ok (pc p.P b) X2 X3 w5 htj hNb (by rw [hd1]; exact wf16.2 (by have := HPF.out.code hd; omega)) (by rw [hd1]; exact q1) (by rw [hd1]; exact q2) m6 m7 m4
            rw [← HUb.out] at hHr
            unfold noteV at hHr
            rw [hw5] at hHr
            have HHr := Lib.hid hHr
            have HT5 := Lib.hid (And.intro t1 (And.intro t2 t3))
            have HW5 := Lib.hid hw5
            have HK5 := Lib.hid (And.intro t7 (And.intro t4 (And.intro t5 t6)))
            clear cf c0 hbd t1 t2 t3 t4 t5 t6 t7 htj hd1 hdi hdj q1 q2 hNb hHr m2 m3 m4 m5 m6 m7 hj1 hw5 HI hji
            have j0 : (0 : Int) ≤ (a : Int) := by omega
            have j1 : (a : Int) < (n : Int) := by omega
            obtain ⟨t7, t4, t5, t6⟩ := HK5.out
            go_region_held3 (fun w' => w'.cell? ⟨rb, a, none⟩ = some (.pointer (some ⟨(ys a).tb, 0, none⟩)) ∧ w'.cell? ⟨g, k * 3, none⟩ = some (.int .u16 ub) ∧ w'.cell? ⟨g, k * 3 + 1, none⟩ = some (.int .u16 X2) ∧ w'.cell? ⟨g, k * 3 + 2, none⟩ = some (.int .u8 X3)) (first | exact HK5.out | (go_keep; done))
              (first
                | ((with_reducible refine HHr.out.mono ?_); rintro e w6 ⟨rfl, ht, hx⟩; have hk6 := HT5.out.1.kp (excAll ha hx); have c0 := hk6 _ _ HK5.out.1; have c1 := hk6 _ _ HK5.out.2.1; have c2 := hk6 _ _ HK5.out.2.2.1; have c3 := hk6 _ _ HK5.out.2.2.2; have HK5 := Lib.hid (And.intro c0 (And.intro c1 (And.intro c2 c3))); clear hk6 c0 c1 c2 c3; have H6 := Lib.hid (And.intro ht hx); clear ht hx)
                | fail)
            obtain ⟨ht, hx⟩ := H6.out
            rw [← HW5.out] at hx
            obtain ⟨t1, t2, t3⟩ := HT5.out
            have t1 : Tabs w5 n ys (tabG p T1 b M2 (Y.take k)) := by rw [HW5.out]; exact t1
            have hnx : FlIn p n ys W T1 b M2 Y (some ⟨g, 0, none⟩) O (k + 1) w6 := by
              refine FlIn.heard hkN HXN.out.2 ha Hnea.out (fun j' hj' hne e => hne ((pc_inj HPF.out (by omega) (by omega)).1 e)) (by rw [← HXs.out.1]; exact HJ.out.1) (by rw [← HXs.out.2.2, ← HXs.out.2.1]; exact HJ.out.2.2.2.2.1) t1 t2 t3 ?_ hx
              rw [tabG_other p T1 Hnea.out, ← HUb.out, ← HXs.out.2.2, ← HXs.out.2.1]
              exact ht
            have HNx := Lib.hid hnx
            clear hnx t1 t2 t3 ht hx H6 HT5 HHr HK5
            go_wp2_with fail
            exact ⟨⟨k + 1, by omega, by go_num, HNx.out⟩, by simp [intOf]; omega⟩
          · obtain rfl : k = O := by omega
            have HNx := Lib.hid hI
            clear HI hI
            have hta := HNx.out.tabs
            rw [HXN.out.2, List.take_length] at hta
            obtain ⟨T2, hT2⟩ : ∃ T, T = tabG p T1 b M2 Y := ⟨_, rfl⟩
            have hn1 : Net p n U T2 := by rw [hT2, HM.out, HXN.out.1]; exact HNt.out.greet HPF.out hb ha Hnea.out
            rw [← hT2] at hta
            have hNa : (T2 a).N = (T1 a).N := by rw [(hn1.inv a ha).N, (HNt.out.inv a ha).N]
            have hNbb : (T2 b).N = (T1 b).N := by rw [(hn1.inv b hb).N, (HNt.out.inv b hb).N]
            have hia : pc p.P b ∈ (T2 a).N := by rw [hNa]; exact Hina.out
            have hib : pc p.P a ∈ (T2 b).N := by rw [hNbb]; exact Hinb.out
            have hx1 := HNx.out.exc
            have HTW2 := Lib.hid hta
            have HN2 := Lib.hid hn1
            have HI2 := Lib.hid (And.intro hia hib)
            have HX2 := Lib.hid hx1
            have ra := HKp.out _ hx1 _ _ (HRW.out.cells a ha)
            have rb' := HKp.out _ hx1 _ _ (HRW.out.cells b hb)
            have HD := Lib.hid (up_ok _ wr (hta.tb a ha) hia)
            rw [← HUb.out] at HD
            clear hta hn1 hNa hNbb hia hib hx1 HNx hT2
            go_wp2_with fail
            with_reducible refine HD.out.mono ?_
            rintro e w1 ⟨rfl, ht, hx⟩
            have rb' := HTW2.out.kp (excAll ha hx) _ _ rb'
            have h1 := (HTW2.out.tb b hb).exc hx ((HTW2.out.tb a ha).off (HTW2.out.tb b hb) (HTW2.out.apart a b ha hb Hnea.out))
            have HD2 := Lib.hid (up_ok _ w1 h1 HI2.out.2)
            rw [← HUa.out] at HD2
            have HX := Lib.hid (And.intro ht hx)
            clear ra HD h1 ht hx
            go_wp2_with fail
            with_reducible refine HD2.out.mono ?_
            rintro e w2 ⟨rfl, ht2, hx2⟩
            have hta := HTW2.out.pair ha hb Hneb.out HX.out.1 HX.out.2 ht2 hx2
            have hxx := excAll_trans HX2.out (excAll_trans (excAll ha HX.out.2) (excAll hb hx2))
            rw [HUa.out, HUb.out] at hta
            have HFin := Lib.hid (show ChangeOut p n (setU U a b true) ys w (.returned (.bool true)) w2 from ⟨rfl, _, hta, HN2.out.ups HPF.out ha hb Hneb.out HI2.out.1, (Exc.of_below (S := AllMut n ys) HB.out).trans hxx fun _ _ h => h⟩)
            clear hta hxx ht2 hx2 rb'
            go_wp2_with fail
            go_ret
            exact HFin.out
end Go.Proofs.Ytdjmopipmeonlaa
