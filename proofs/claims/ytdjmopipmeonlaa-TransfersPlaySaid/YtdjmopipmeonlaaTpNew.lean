/- Joined: TpDoI TpAny TpInvA TpNew. -/
import Derived.Test.YtdjmopipmeonlaaTpInv
import Derived.Deep.RegionHeld3
import Derived.BigRegion
import Derived.Test.YtdjmopipmeonlaaTpDoB
import Derived.Test.YtdjmopipmeonlaaTpDoD
import Derived.Test.YtdjmopipmeonlaaTpDoF
import Derived.Test.YtdjmopipmeonlaaTpDoG
import Derived.Test.YtdjmopipmeonlaaTpDoH
import Derived.Test.YtdjmopipmeonlaaTpSt
import Derived.Test.YtdjmopipmeonlaaTfNew
/- The model's do: an answer. -/
namespace Go.Proofs.Ytdjmopipmeonlaa
set_option linter.unusedVariables false
open Go.RowKit Go.Maps

set_option maxRecDepth 100000 in
set_option maxHeartbeats 8000000 in
theorem do_ans_ok {x : Nn} {p : Pn} {n m at' : Nat} {T : Tb} (hp : PF x p n m) (hI : Inv p at' T) (hat : at' < n) (mb : Nat) (a : Option Addr) (c : Nat) (a' : Option Addr) (c' : Nat) (hap : Apart mb a a') (x0 x1 x2 x3 : Nat) (hx0 : x0 ≤ 255) (hx1 : x1 ≤ 255) (hx2 : x2 ≤ 255) (hx3 : x3 ≤ 255) (w : World) (h : MW w mb a n c a' m c' p at' T) (hwh : x0 % 7 = 6) (ht : T.tr = true) (hu : T.isUp (pc p.P (x1 % n)) = true) (ha : x2 % n ≠ at') (he : x2 % n ≠ x1 % n) (hst : T.st (pc p.P (x2 % n)) ≠ Int.ofNat (x3 % 4)) :
    Calls Try.prog 10 #[.pointer (some ⟨mb, 0, none⟩), actV x0 x1 x2 x3] w (DoOut mb a n c a' m c' p at' (T.says (pc p.P (x1 % n)) (pc p.P (x2 % n)) (T.st (pc p.P (x2 % n)))) [(pc p.P (x1 % n), pc p.P (x2 % n), T.st (pc p.P (x2 % n)))] 0 w) := by
  have hlen := hp.len
  have hn2 := hp.n2
  have hn6 := hp.n6
  obtain ⟨kn, hkn⟩ : ∃ k, k = x1 % n := ⟨_, rfl⟩
  obtain ⟨kd, hkd⟩ : ∃ k, k = x2 % n := ⟨_, rfl⟩
  obtain ⟨s, hs⟩ : ∃ k, k = x3 % 4 := ⟨_, rfl⟩
  have r1 : (x1 : Int).tmod (n : Int) = (kn : Int) := by rw [rem_nat, hkn]
  have r2 : (x2 : Int).tmod (n : Int) = (kd : Int) := by rw [rem_nat, hkd]
  have r3 : (x3 : Int).tmod 4 = (s : Int) := by rw [show (4 : Int) = ((4 : Nat) : Int) from rfl, rem_nat, hs]
  have r7 : (x0 : Int).tmod 7 = 6 := by rw [show (7 : Int) = ((7 : Nat) : Int) from rfl, rem_nat, hwh]; rfl
  have hnn : kn < n := by rw [hkn]; exact Nat.mod_lt _ (by omega)
  have hdn : kd < n := by rw [hkd]; exact Nat.mod_lt _ (by omega)
  have hs4 : s < 4 := by rw [hs]; exact Nat.mod_lt _ (by omega)
  have t1 : IntKind.i64.wrap (x1 : Int) = (x1 : Int) := IntWalk.i64_in _ (by omega)
  have t2 : IntKind.i64.wrap (x2 : Int) = (x2 : Int) := IntWalk.i64_in _ (by omega)
  have t4 : IntKind.i64.wrap (kn : Int) = (kn : Int) := IntWalk.i64_in _ (by omega)
  have t5 : IntKind.i64.wrap (kd : Int) = (kd : Int) := IntWalk.i64_in _ (by omega)
  have t6 : IntKind.u8.wrap (s : Int) = (s : Int) := IntWalk.u8_in _ (by omega)
  have q1 : ¬ (n : Int) = 0 := by omega
  have q2 : ((n : Int) == 0) = false := by simpa using q1
  have q3 : ¬ n = 0 := by omega
  have q4 : (n == 0) = false := by simpa using q3
  have i0 : (0 : Int) ≤ (at' : Int) := by omega
  have i1 : (at' : Int) < (n : Int) := by omega
  have n0 : (0 : Int) ≤ (kn : Int) := by omega
  have n1 : (kn : Int) < (n : Int) := by omega
  have n6 : (kn : Int) < 6 := by omega
  have d0 : (0 : Int) ≤ (kd : Int) := by omega
  have d1 : (kd : Int) < (n : Int) := by omega
  have d6 : (kd : Int) < 6 := by omega
  have HTf := Lib.hid ht
  have hu2 : T.isUp (pc p.P kn) = true := by rw [hkn]; exact hu
  have hn2 : decide (pc p.P kn ∈ T.N) = true := by unfold Tb.isUp at hu2; simp at hu2; simpa using hu2.1
  have e2 : ((kd : Int) != (at' : Int)) = true := by rw [bne_iff_ne, hkd]; omega
  have e3 : ((kd : Int) != (kn : Int)) = true := by rw [bne_iff_ne, hkd, hkn]; omega
  have HMs := Lib.hid (fun (V : World) (hV : MW V mb a n c a' m c' p at' T) => mstatus_ok hp hI hat mb a c a' c' kd hdn (by omega) V hV)
  obtain ⟨sd, hsd⟩ : ∃ sd, sd = T.st (pc p.P kd) := ⟨_, rfl⟩
  rw [← hsd] at HMs
  have HSd := Lib.hid hsd
  have e4 : (sd != (s : Int)) = true := by rw [bne_iff_ne, hsd, hkd, hs]; exact hst
  have HNo := Lib.hid (fun (V : World) (hV : MW V mb a n c a' m c' p at' { T with said := upd2 T.said (pc p.P kn) (pc p.P kd) sd }) => mnote_any hp mb a c a' c' kn kd hnn hdn sd V hV)
  have HIs : Hid (Inv p at' { T with said := upd2 T.said (pc p.P kn) (pc p.P kd) sd }) := Lib.hid (hI.said' _ (fun y => by
      rw [upd2_other]
      · exact hI.saidMe y
      · rintro ⟨_, h9⟩; exact (show ¬ at' = kd by omega) ((pc_inj hp (by omega) (by omega)).1 h9)) (fun y => by
      rw [upd2_other]
      · exact hI.saidSelf y
      · rintro ⟨rfl, h9⟩; exact (show ¬ kn = kd by omega) ((pc_inj hp (by omega) (by omega)).1 h9)) (fun y z => by
      unfold upd2; split
      · rw [hsd]; exact T.st_range _
      · exact hI.said y z))
  have HMt := Lib.hid (fun (V : World) (hV : MW V mb a n c a' m c' p at' { T with said := upd2 T.said (pc p.P kn) (pc p.P kd) sd }) => by
    have h9 := mstatus_ok hp HIs.out hat mb a c a' c' kd hdn (by omega) V hV
    rw [T.st_said, ← HSd.out] at h9
    exact h9)
  have HKn := Lib.hid hkn
  have HKd := Lib.hid hkd
  clear ht hu ha he hst hsd
  obtain ⟨W, hW⟩ : ∃ W, W = w.alloc (.cells #[.int .u8 (x0 : Nat), .int .u8 (x1 : Nat), .int .u8 (x2 : Nat), .int .u8 (x3 : Nat)] 49) := ⟨_, rfl⟩
  obtain ⟨xb, hxb⟩ : ∃ xb, xb = w.heap.size := ⟨_, rfl⟩
  have hbW : Below w.heap.size w W := by rw [hW]; exact below_alloc w _
  have ho : Own W xb 49 [.int .u8 (x0 : Nat), .int .u8 (x1 : Nat), .int .u8 (x2 : Nat), .int .u8 (x3 : Nat)] := by rw [hW, hxb]; exact heap_alloc_new w _
  have hM := h.below hbW
  obtain ⟨b, off, rfl, hc⟩ := hM.row.cells.resolve_left (by omega)
  have c7 := (hc at' hat).2
  obtain ⟨g0, g1, g2, g3, g4, g5, g6⟩ := hM.md.plan
  have g7 := hM.md.cAt
  have gn := hM.md.cNear (i := kn) (by omega)
  have gu := hM.md.cUp (i := kn) (by omega)
  rw [mdOf_near (by omega)] at gn
  rw [mdOf_up (by omega)] at gu
  have hcn := hM.row.le
  have x0c := ho.cell 0 (by simp)
  have x1c := ho.cell 1 (by simp)
  have x2c := ho.cell 2 (by simp)
  have x3c := ho.cell 3 (by simp)
  simp only [List.getD_cons_zero, List.getD_cons_succ] at x0c x1c x2c x3c
  obtain ⟨tr, htr⟩ : ∃ tr, tr = pt p.P at' := ⟨_, rfl⟩
  rw [← htr] at c7
  have HM := Lib.hid hM
  have HB := Lib.hid hbW
  have HTr : Hid (T.tr = tr) := Lib.hid (by rw [hI.tr, htr])
  have H0 := Lib.hid h
  have HLn := Lib.hid hlen
  have HWp := Lib.hid hap
  have HO := Lib.hid ho
  have HP := Lib.hid hp
  have HI := Lib.hid hI
  clear h hM hc hbW ho hp hI hkn hkd hs hlen hwh htr hap
  unfold actV
  go_enter Try.func10, Try.ntmps10
  go_upto_region 1 with (fail)
  show Code.wp _ _ _ _ (w.alloc (.cells #[.int .u8 (x0 : Nat), .int .u8 (x1 : Nat), .int .u8 (x2 : Nat), .int .u8 (x3 : Nat)] 49))
  rw [← hW, ← hxb]
  clear hW hxb
  go_quiet (fail)
  go_upto_region 2 with (fail)
  go_quiet (fail)
  go_upto_region 4 with (fail)
  go_quiet (fail)
  obtain rfl : tr = true := by rw [← HTr.out, HTf.out]
  rw [hu2] at gu
  rw [hn2] at gn
  go_upto_region 7 with (fail)
  generalize hW3 : W.drewN _ = W3
  have hb3 : Below W.heap.size W W3 := by rw [← hW3]; exact below_draw W _
  have hM3 := HM.out.below hb3
  have ho3 := HO.out.below hb3 HO.out.lt
  have HM3 := Lib.hid hM3
  have HX3 : Hid (Exc (fun q => q = mb) w W3) := Lib.hid (by rw [← hW3]; exact (Exc.of_below HB.out).drawN _)
  clear g0 g1 g2 g3 g4 g5 g6 g7 gn gu x0c x1c x2c x3c hW3 hb3 c7
  obtain ⟨g0, g1, g2, g3, g4, g5, g6⟩ := hM3.md.plan
  have g7 := hM3.md.cAt
  have x0c := ho3.cell 0 (by simp)
  have x1c := ho3.cell 1 (by simp)
  have x2c := ho3.cell 2 (by simp)
  have x3c := ho3.cell 3 (by simp)
  simp only [List.getD_cons_zero, List.getD_cons_succ] at x0c x1c x2c x3c
  have gn := hM3.md.cNear (i := kn) (by omega)
  have gu := hM3.md.cUp (i := kn) (by omega)
  rw [mdOf_near (by have := HLn.out; omega), hn2] at gn
  rw [mdOf_up (by have := HLn.out; omega), hu2] at gu
  clear hM3 ho3
  go_wp2_with fail
  with_reducible refine (HMs.out W3 HM3.out).mono ?_
  rintro e w5 ⟨rfl, hb⟩
  have HM5 := Lib.hid (HM3.out.below hb)
  have HX5 := Lib.hid (HX3.out.trans (Exc.of_below (S := fun q => q = mb) hb) (fun _ _ h => h))
  clear hb g0 g1 g2 g3 g4 g5 g6 g7 gn gu x0c x1c x2c x3c
  go_upto_region 8 with (fail)
  have hm2 := HMs.out w5.drew (HM5.out.below (below_draw w5 1))
  have HM9 := Lib.hid hm2
  clear hm2
  obtain ⟨v9, hv9⟩ : ∃ v9, v9 = (mdOf T p).said kn kd := ⟨_, rfl⟩
  have HK := Lib.hid (fun (V : World) (hb : Below w5.heap.size w5 V) => (show (fun V => V.cell? ⟨mb, 56 + kn * 6 + kd, none⟩ = some (.int .u8 v9) ∧ V.frozen? ⟨mb, 56 + kn * 6 + kd, none⟩ = false) V from by
    have hM := (HM5.out.below hb).md
    have h1 := hM.cSaid (i := kn) (j := kd) (by omega) (by omega)
    rw [← hv9] at h1
    exact ⟨h1, hM.frozen _⟩))
  have hM5 := HM5.out
  have cs := hM5.md.cSaid (i := kn) (j := kd) (by omega) (by omega)
  have fs := hM5.md.frozen (56 + kn * 6 + kd)
  rw [← hv9] at cs
  have hb7 : Below w5.heap.size w5 w5.drew := below_draw w5 1
  clear hM5 hv9
  go_region_held3 (fun _ => True) (trivial)
    (first
      | ((with_reducible refine HM9.out.mono ?_); rintro e w6 ⟨rfl, hb⟩; have HB6 : Hid (Below w5.heap.size w5 w6) := Lib.hid (hb7.trans (hb.mono hb7.size)); clear hb; obtain ⟨cs6, fs6⟩ := HK.out _ HB6.out)
      | fail)
  go_upto_region 9 with (fail)
  clear cs fs cs6 fs6 hb7
  generalize hW7 : World.setCell w6 _ _ = W7
  have HM7 : Hid (MW W7 mb (some ⟨b, off, none⟩) n c a' m c' p at' { T with said := upd2 T.said (pc p.P kn) (pc p.P kd) sd }) := Lib.hid (by
    rw [← hW7]; exact (HM5.out.below HB6.out).says HP.out HWp.out hnn hdn sd)
  have HX7 : Hid (Exc (fun q => q = mb) w W7) := Lib.hid (by
    rw [← hW7]; exact Exc.setCell (S := fun q => q = mb) (HX5.out.trans (Exc.of_below (S := fun q => q = mb) HB6.out) (fun _ _ h => h)) _ (.inl rfl) _)
  have HMb := Lib.hid (Own.lt H0.out.md)
  clear hW7
  go_wp2_with fail
  with_reducible refine (HMt.out W7 HM7.out).mono ?_
  rintro e w8 ⟨rfl, hb⟩
  have HM8 := Lib.hid (HM7.out.below hb)
  have HX8 := Lib.hid (HX7.out.trans (Exc.of_below (S := fun q => q = mb) hb) (fun _ _ h => h))
  have hno := HNo.out w8 HM8.out
  unfold NoteOut at hno
  obtain ⟨u, hu⟩ : ∃ u, u = pc p.P kn := ⟨_, rfl⟩
  obtain ⟨d, hd⟩ : ∃ d, d = pc p.P kd := ⟨_, rfl⟩
  rw [← hu, ← hd] at hno
  have HNn := Lib.hid hno
  have HU := Lib.hid hu
  have HD := Lib.hid hd
  clear hb hno hu hd
  go_wp2_with fail
  with_reducible refine HNn.out.mono ?_
  rintro e w9 ⟨rfl, hb⟩
  have HM9' := Lib.hid (HM8.out.below hb)
  have HX9 := Lib.hid (HX8.out.trans (Exc.of_below (S := fun q => q = mb) hb) (fun _ _ h => h))
  have hsz9 := HX9.out.size
  have HW9 : Hid (w9.ownsRow w.heap.size 54 3 (.slice none 0 0) 0 []) := Lib.hid (World.ownsRow_nil w9 w.heap.size 54 3)
  clear hb HNn
  go_wp2_with (at_builtin; refine wpList_append_agg Try.underlying45 infoN rfl (by decide) (by decide) rfl _ _ rfl w.heap.size _ _ _ [.int .u16 u, .int .u16 d, .int .u8 sd] rfl (fun u hu => by simp at hu; rcases hu with rfl | rfl | rfl <;> rfl) rfl (by exact HW9.out) rfl (by omega) hsz9 ?_; intro v1 w6' h1 h2 h3; have HW6 := Lib.hid h1; have HG6 := Lib.hid h2; clear h1 h2 h3)
  go_wp2
  have hb6 : Exc (fun j => w.heap.size ≤ j) w9 w6' := HG6.out.exc.weak fun i _ hi => (ownsK_lt HW9.out hi).1
  have hown := HW6.out
  obtain ⟨a2, c2, rfl, hr2, hfr⟩ := nrow_of (X := [(u, d, sd)]) hown rfl
  go_ret2
  rw [← HKn.out, ← HKd.out, ← HSd.out, ← HU.out, ← HD.out]
  refine ⟨a2, c2, rfl, hr2, ?_, HX9.out.trans hb6 (fun i hi hh => by omega), hfr⟩
  have hlt := HMb.out
  have h9 := HM9'.out.exc hb6 (by omega) (fun z hz => by have := HWp.out.p z hz; omega) (fun z hz => by have := HWp.out.l z hz; omega)
  rw [← HU.out, ← HD.out] at h9
  exact h9
end Go.Proofs.Ytdjmopipmeonlaa
/- An act as plain data; the model's do returns it. -/
namespace Go.Proofs.Ytdjmopipmeonlaa
set_option linter.unusedVariables false
open Go.RowKit Go.Maps

/-- The notes, the error and the table behind an act. -/
def actM (T : Tb) (P : List (Int × Bool)) (at' n x0 x1 x2 x3 : Nat) : List (Int × Int × Int) × Int × Tb :=
  if x0 % 7 = 0 then (if pc P (x1 % n) ∈ T.N then ([], 0, T.ups (pc P (x1 % n))) else ([], 7, T))
  else if x0 % 7 = 1 then (if pc P (x1 % n) ∈ T.N then ([], 0, T.down (pc P (x1 % n))) else ([], 7, T))
  else if x0 % 7 = 2 then (if pc P (x1 % n) ∈ T.N then (if 2 < x3 % 4 ∨ x2 % n = at' ∨ x2 % n = x1 % n then ([], 1, T) else ([], 0, T.hear (pc P (x1 % n)) (pc P (x2 % n)) (Int.ofNat (x3 % 4)))) else ([], 7, T))
  else if x0 % 7 = 3 then (T.tellL T.N, 0, T.toldL T.N)
  else if x0 % 7 = 4 then (if pc P (x1 % n) ∈ T.N then (T.news (pc P (x1 % n)), 0, T.told1 (pc P (x1 % n))) else ([], 7, T))
  else if x0 % 7 = 5 then (T.askL T.N, 0, T)
  else if T.tr = true ∧ T.isUp (pc P (x1 % n)) = true ∧ x2 % n ≠ at' ∧ x2 % n ≠ x1 % n ∧ T.st (pc P (x2 % n)) ≠ Int.ofNat (x3 % 4) then ([(pc P (x1 % n), pc P (x2 % n), T.st (pc P (x2 % n)))], 0, T.says (pc P (x1 % n)) (pc P (x2 % n)) (T.st (pc P (x2 % n)))) else ([], 0, T)
set_option maxRecDepth 100000 in
theorem do_any {x : Nn} {p : Pn} {n m at' : Nat} {T : Tb} (hp : PF x p n m) (hI : Inv p at' T) (hat : at' < n) (mb : Nat) (a : Option Addr) (c : Nat) (a' : Option Addr) (c' : Nat) (hap : Apart mb a a') (x0 x1 x2 x3 : Nat) (hx0 : x0 ≤ 255) (hx1 : x1 ≤ 255) (hx2 : x2 ≤ 255) (hx3 : x3 ≤ 255) (w : World) (h : MW w mb a n c a' m c' p at' T) :
    Calls Try.prog 10 #[.pointer (some ⟨mb, 0, none⟩), actV x0 x1 x2 x3] w (DoOut mb a n c a' m c' p at' (actM T p.P at' n x0 x1 x2 x3).2.2 (actM T p.P at' n x0 x1 x2 x3).1 (actM T p.P at' n x0 x1 x2 x3).2.1 w) := by
  unfold actM
  by_cases h0 : x0 % 7 = 0
  · rw [if_pos h0]
    by_cases hN : pc p.P (x1 % n) ∈ T.N
    · rw [if_pos hN]; exact do_up hp hI hat mb a c a' c' hap x0 x1 x2 x3 hx0 hx1 hx2 hx3 w h h0 hN
    · rw [if_neg hN]; exact do_none0 hp hI hat mb a c a' c' hap x0 x1 x2 x3 hx0 hx1 hx2 hx3 w h h0 hN
  rw [if_neg h0]
  by_cases h1 : x0 % 7 = 1
  · rw [if_pos h1]
    by_cases hN : pc p.P (x1 % n) ∈ T.N
    · rw [if_pos hN]; exact do_down hp hI hat mb a c a' c' hap x0 x1 x2 x3 hx0 hx1 hx2 hx3 w h h1 hN
    · rw [if_neg hN]; exact do_none1 hp hI hat mb a c a' c' hap x0 x1 x2 x3 hx0 hx1 hx2 hx3 w h h1 hN
  rw [if_neg h1]
  by_cases h2 : x0 % 7 = 2
  · rw [if_pos h2]
    by_cases hN : pc p.P (x1 % n) ∈ T.N
    · rw [if_pos hN]
      by_cases hs : 2 < x3 % 4
      · rw [if_pos (.inl hs)]; exact do_hear_hi hp hI hat mb a c a' c' hap x0 x1 x2 x3 hx0 hx1 hx2 hx3 w h h2 hN hs
      by_cases ha : x2 % n = at'
      · rw [if_pos (.inr (.inl ha))]; exact do_hear_me hp hI hat mb a c a' c' hap x0 x1 x2 x3 hx0 hx1 hx2 hx3 w h h2 hN (by omega) ha
      by_cases he : x2 % n = x1 % n
      · rw [if_pos (.inr (.inr he))]; exact do_hear_self hp hI hat mb a c a' c' hap x0 x1 x2 x3 hx0 hx1 hx2 hx3 w h h2 hN (by omega) ha he
      rw [if_neg (fun h9 => h9.elim hs (fun h8 => h8.elim ha he))]
      exact do_hear_ok hp hI hat mb a c a' c' hap x0 x1 x2 x3 hx0 hx1 hx2 hx3 w h h2 hN _ rfl (by omega) ha he
    · rw [if_neg hN]; exact do_none2 hp hI hat mb a c a' c' hap x0 x1 x2 x3 hx0 hx1 hx2 hx3 w h h2 hN
  rw [if_neg h2]
  by_cases h3 : x0 % 7 = 3
  · rw [if_pos h3]
    cases ht : T.tr
    · exact do_tell_no hp hI hat mb a c a' c' hap x0 x1 x2 x3 hx0 hx1 hx2 hx3 w h h3 ht
    · exact do_tell_ok hp hI hat mb a c a' c' hap x0 x1 x2 x3 hx0 hx1 hx2 hx3 w h h3 ht
  rw [if_neg h3]
  by_cases h4 : x0 % 7 = 4
  · rw [if_pos h4]
    by_cases hN : pc p.P (x1 % n) ∈ T.N
    · rw [if_pos hN]
      cases ht : T.tr
      · exact do_greet_no hp hI hat mb a c a' c' hap x0 x1 x2 x3 hx0 hx1 hx2 hx3 w h h4 hN ht
      · exact do_greet_ok hp hI hat mb a c a' c' hap x0 x1 x2 x3 hx0 hx1 hx2 hx3 w h h4 hN ht
    · rw [if_neg hN]; exact do_none4 hp hI hat mb a c a' c' hap x0 x1 x2 x3 hx0 hx1 hx2 hx3 w h h4 hN
  rw [if_neg h4]
  by_cases h5 : x0 % 7 = 5
  · rw [if_pos h5]; exact do_ask hp hI hat mb a c a' c' hap x0 x1 x2 x3 hx0 hx1 hx2 hx3 w h h5
  rw [if_neg h5]
  have h6 : x0 % 7 = 6 := by omega
  cases ht : T.tr
  · rw [if_neg (fun h9 => by cases h9.1)]; exact do_ans_no0 hp hI hat mb a c a' c' hap x0 x1 x2 x3 hx0 hx1 hx2 hx3 w h h6 ht
  cases hu : T.isUp (pc p.P (x1 % n))
  · rw [if_neg (fun h9 => by cases h9.2.1)]; exact do_ans_no1 hp hI hat mb a c a' c' hap x0 x1 x2 x3 hx0 hx1 hx2 hx3 w h h6 ht hu
  by_cases ha : x2 % n = at'
  · rw [if_neg (fun h9 => h9.2.2.1 ha)]; exact do_ans_no2 hp hI hat mb a c a' c' hap x0 x1 x2 x3 hx0 hx1 hx2 hx3 w h h6 ht hu ha
  by_cases he : x2 % n = x1 % n
  · rw [if_neg (fun h9 => h9.2.2.2.1 he)]; exact do_ans_no3 hp hI hat mb a c a' c' hap x0 x1 x2 x3 hx0 hx1 hx2 hx3 w h h6 ht hu ha he
  by_cases hs : T.st (pc p.P (x2 % n)) = Int.ofNat (x3 % 4)
  · rw [if_neg (fun h9 => h9.2.2.2.2 hs)]; exact do_ans_no4 hp hI hat mb a c a' c' hap x0 x1 x2 x3 hx0 hx1 hx2 hx3 w h h6 ht hu ha he hs
  rw [if_pos ⟨rfl, rfl, ha, he, hs⟩]
  exact do_ans_ok hp hI hat mb a c a' c' hap x0 x1 x2 x3 hx0 hx1 hx2 hx3 w h h6 ht hu ha he hs
end Go.Proofs.Ytdjmopipmeonlaa
/- What holds of a table holds behind any act. -/
namespace Go.Proofs.Ytdjmopipmeonlaa
set_option linter.unusedVariables false
open Go.RowKit Go.Maps

theorem Inv.act {x : Nn} {p : Pn} {n m at' : Nat} {T : Tb} (hp : PF x p n m) (hI : Inv p at' T) (hat : at' < n) (x0 x1 x2 x3 : Nat) : Inv p at' (actM T p.P at' n x0 x1 x2 x3).2.2 := by
  have hn2 := hp.n2
  have hlen := hp.len
  have hnn : x1 % n < n := Nat.mod_lt _ (by omega)
  have hdn : x2 % n < n := Nat.mod_lt _ (by omega)
  have hme : x2 % n ≠ at' → pc p.P (x2 % n) ≠ pc p.P at' := fun h e => h ((pc_inj hp (by omega) (by omega)).1 e)
  have hse : x2 % n ≠ x1 % n → pc p.P (x2 % n) ≠ pc p.P (x1 % n) := fun h e => h ((pc_inj hp (by omega) (by omega)).1 e)
  unfold actM
  split
  · split
    · exact hI.ups _
    · exact hI
  split
  · split
    · exact hI.down _
    · exact hI
  split
  · split
    · split
      · exact hI
      · rename_i h9
        exact hI.hear (hme fun e => h9 (.inr (.inl e))) (hse fun e => h9 (.inr (.inr e))) ⟨Int.natCast_nonneg _, by have : ¬ 2 < x3 % 4 := fun h => h9 (.inl h); show ((x3 % 4 : Nat) : Int) ≤ 2; omega⟩
    · exact hI
  split
  · exact hI.toldL _
  split
  · split
    · exact hI.told1 _
    · exact hI
  split
  · exact hI
  split
  · rename_i h9
    exact hI.says (hme h9.2.2.1) (hse h9.2.2.2.1) (T.st_range _)
  · exact hI
end Go.Proofs.Ytdjmopipmeonlaa
/- New at a place of a small plan, and the model beside it. -/
namespace Go.Proofs.Ytdjmopipmeonlaa
set_option linter.unusedVariables false
open Go.RowKit Go.Maps

def GoodP (p : Pn) (at' : Nat) (u : Int) (X : List (Int × Int)) : Prop := (∃ l, DisOk p u l ∧ X = chC p u l at') ∧ X.length ≤ 1024 ∧ ∀ c ∈ X, (Lit.int .u16 c.1).wf = true
/-- A new table of a place. -/
def NewP (p : Pn) (at' : Nat) (w : World) (e : Ending) (w' : World) : Prop :=
  ∃ y T, e = .returned (.tuple #[.pointer (some ⟨y.tb, 0, none⟩), .int .i64 0]) ∧ TbAt w' y T ∧ Inv p at' T ∧ T.up = (fun _ => true) ∧ T.told = (fun _ _ => 0) ∧ T.said = (fun _ _ => 0) ∧ NewTl w.heap.size w'.heap.size y ∧ Below w.heap.size w w'
theorem new_p {x : Nn} {p : Pn} {n m at' : Nat} (hp : PF x p n m) (hat : at' < n) (a : Option Addr) (c : Nat) (a' : Option Addr) (c' : Nat) (w : World) (hP : PRow w a n c p.P) (hL : LRow w a' m c' p.L) :
    Calls Try.prog 8 #[planV a n c a' m c' p, .int .u16 (pc p.P at')] w (NewP p at' w) := by
  have hlen := hp.len
  have hn6 := hp.n6
  have hwt : ∀ k, k < n → (Lit.int .u16 (pc p.P k)).wf = true := fun k hk => wf16.2 (by have := hp.code hk; omega)
  refine (new_ok p a n c a' m c' (pc p.P at') w hP hL (hp.one hat) hp.valid at' (hp.fnd hat) (hwt at' hat) (GoodP p at') (fun u X h => ⟨h.2.1, h.2.2⟩) (fun u W hP2 hL2 hu hne => ?_)).mono fun e w' h => ?_
  · obtain ⟨s, hs⟩ := code_fnd hp.valid hu
    obtain ⟨hs1, hs2, _⟩ := fnd_some_iff.1 hs
    refine (choices_few p a n c a' m c' (pc p.P at') u W hP2 hL2 (two_ok hp.valid (hp.fnd hat) hs) (Ne.symm hne) at' s (hp.fnd hat) hs hp.valid (by omega)).mono fun e w' h => ?_
    obtain ⟨l, a2, hok, he, hcr, hb, hfr⟩ := h
    refine ⟨a2, chC p u l at', he, ⟨⟨l, hok, rfl⟩, ?_, fun c hc => ?_⟩, hcr, hb, hfr⟩
    · rw [chC_length]
      have := chL_len (P := p.P) (L := p.L) (t := u) (D := fun i => d99 (l.getD i 0)) (i := at') 99
      rw [hlen] at this
      omega
    · obtain ⟨k, hk, e⟩ := List.getElem_of_mem hc
      obtain ⟨b, r, hb, e2, _⟩ := fall_lower hok (by omega) (by omega) hk
      rw [List.getD_eq_getElem?_getD, List.getElem?_eq_getElem hk] at e2
      have e3 : c = (pc p.P b, r) := by rw [← e]; exact e2
      rw [e3]
      exact hwt b (by omega)
  · obtain ⟨y, T, he, htb, hn, hnt, hb⟩ := h
    refine ⟨y, T, he, htb, ⟨hn.me, hn.tr, hn.N, hn.D, fun k hk hne => ?_, fun _ => by rw [hn.told], fun _ => by rw [hn.told], fun _ => by rw [hn.said], fun _ => by rw [hn.said], fun _ _ => by rw [hn.told]; exact ⟨Int.le_refl 0, (by decide : (0 : Int) ≤ 2)⟩, fun _ _ => by rw [hn.said]; exact ⟨Int.le_refl 0, (by decide : (0 : Int) ≤ 2)⟩⟩, hn.up, hn.told, hn.said, hnt, hb⟩
    have hmem : pc p.P k ∈ T.D := by
      rw [hn.D]
      refine mem_dests.2 ⟨?_, fun e => hne ((pc_inj hp hk (by omega)).1 e)⟩
      unfold codesP pc
      rw [List.getD_eq_getElem?_getD, List.getElem?_eq_getElem hk]
      exact List.mem_map_of_mem (List.getElem_mem _)
    obtain ⟨⟨l, hok, e⟩, _⟩ := hn.C _ hmem
    exact ⟨l, hok, e⟩
/-- The model that begin makes stands for the new table. -/
theorem MW.begin {x : Nn} {w : World} {mb : Nat} {a : Option Addr} {n c : Nat} {a' : Option Addr} {m c' : Nat} {p : Pn} {at' : Nat} {T : Tb} (hp : PF x p n m) (hI : Inv p at' T) (h1 : T.up = (fun _ => true)) (h2 : T.told = (fun _ _ => 0)) (h3 : T.said = (fun _ _ => 0))
    (hm : MdAt w mb (planCells a n c a' m c' p) at' ⟨bgN p at' n 0, bgN p at' n 0, fun _ _ => 0, fun _ _ => 0⟩) (hr : PRow w a n c p.P) (hl : LRow w a' m c' p.L) : MW w mb a n c a' m c' p at' T := by
  have hlen := hp.len
  have key : ∀ i, bgN p at' n 0 i = (decide (i < p.P.length) && decide (pc p.P i ∈ T.N)) := fun i => by
    unfold bgN
    by_cases hi : i < n
    · rw [if_pos hi, hI.N]
      congr 1
      exact decide_eq_decide.2 (mem_nbrs hp.valid).symm
    · rw [if_neg hi]
      have : ¬ i < p.P.length := by omega
      simp [this]
  refine ⟨hm.congr (fun i _ => ?_) (fun i _ => ?_) (fun i _ j _ => ?_) (fun i _ j _ => ?_), hr, hl⟩
  · show (decide (i < p.P.length) && T.isUp (pc p.P i)) = bgN p at' n 0 i
    rw [key]
    unfold Tb.isUp
    rw [h1]
    simp
  · show (decide (i < p.P.length) && decide (pc p.P i ∈ T.N)) = bgN p at' n 0 i
    rw [key]
  · show (if i < p.P.length ∧ j < p.P.length then T.told (pc p.P i) (pc p.P j) else 0) = 0
    rw [h2]; split <;> rfl
  · show (if i < p.P.length ∧ j < p.P.length then T.said (pc p.P i) (pc p.P j) else 0) = 0
    rw [h3]; split <;> rfl
end Go.Proofs.Ytdjmopipmeonlaa
