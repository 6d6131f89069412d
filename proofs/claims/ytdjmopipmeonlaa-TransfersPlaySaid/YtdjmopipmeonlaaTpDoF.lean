/- Joined: TpDoE TpDoF. -/
import Derived.Test.YtdjmopipmeonlaaTpInv
import Derived.Deep.RegionHeld3
import Derived.BigRegion
/- The model's do: Greet of a neighbor. -/
namespace Go.Proofs.Ytdjmopipmeonlaa
set_option linter.unusedVariables false
open Go.RowKit Go.Maps

set_option maxRecDepth 100000 in
set_option maxHeartbeats 8000000 in
theorem do_greet_no {x : Nn} {p : Pn} {n m at' : Nat} {T : Tb} (hp : PF x p n m) (hI : Inv p at' T) (hat : at' < n) (mb : Nat) (a : Option Addr) (c : Nat) (a' : Option Addr) (c' : Nat) (hap : Apart mb a a') (x0 x1 x2 x3 : Nat) (hx0 : x0 ≤ 255) (hx1 : x1 ≤ 255) (hx2 : x2 ≤ 255) (hx3 : x3 ≤ 255) (w : World) (h : MW w mb a n c a' m c' p at' T) (hwh : x0 % 7 = 4) (hN : pc p.P (x1 % n) ∈ T.N) (ht : T.tr = false) :
    Calls Try.prog 10 #[.pointer (some ⟨mb, 0, none⟩), actV x0 x1 x2 x3] w (DoOut mb a n c a' m c' p at' (T.told1 (pc p.P (x1 % n))) (T.news (pc p.P (x1 % n))) 0 w) := by
  have hlen := hp.len
  have hn2 := hp.n2
  have hn6 := hp.n6
  obtain ⟨kn, hkn⟩ : ∃ k, k = x1 % n := ⟨_, rfl⟩
  obtain ⟨kd, hkd⟩ : ∃ k, k = x2 % n := ⟨_, rfl⟩
  obtain ⟨s, hs⟩ : ∃ k, k = x3 % 4 := ⟨_, rfl⟩
  have r1 : (x1 : Int).tmod (n : Int) = (kn : Int) := by rw [rem_nat, hkn]
  have r2 : (x2 : Int).tmod (n : Int) = (kd : Int) := by rw [rem_nat, hkd]
  have r3 : (x3 : Int).tmod 4 = (s : Int) := by rw [show (4 : Int) = ((4 : Nat) : Int) from rfl, rem_nat, hs]
  have r7 : (x0 : Int).tmod 7 = 4 := by rw [show (7 : Int) = ((7 : Nat) : Int) from rfl, rem_nat, hwh]; rfl
  have hnn : kn < n := by rw [hkn]; exact Nat.mod_lt _ (by omega)
  have hdn : kd < n := by rw [hkd]; exact Nat.mod_lt _ (by omega)
  have hs4 : s < 4 := by rw [hs]; exact Nat.mod_lt _ (by omega)
  have t1 : IntKind.i64.wrap (x1 : Int) = (x1 : Int) := IntWalk.i64_in _ (by omega)
  have t2 : IntKind.i64.wrap (x2 : Int) = (x2 : Int) := IntWalk.i64_in _ (by omega)
  have t4 : IntKind.i64.wrap (kn : Int) = (kn : Int) := IntWalk.i64_in _ (by omega)
  have t5 : IntKind.i64.wrap (kd : Int) = (kd : Int) := IntWalk.i64_in _ (by omega)
  have t6 : IntKind.u8.wrap (s : Int) = (s : Int) := IntWalk.u8_in _ (by omega)
  have q1 : ¬ (n : Int) = 0 := by omega
  have q2 : ((n : Int) == 0) = false := by simpa using q1
  have q3 : ¬ n = 0 := by omega
  have q4 : (n == 0) = false := by simpa using q3
  have i0 : (0 : Int) ≤ (at' : Int) := by omega
  have i1 : (at' : Int) < (n : Int) := by omega
  have n0 : (0 : Int) ≤ (kn : Int) := by omega
  have n1 : (kn : Int) < (n : Int) := by omega
  have n6 : (kn : Int) < 6 := by omega
  have d0 : (0 : Int) ≤ (kd : Int) := by omega
  have d1 : (kd : Int) < (n : Int) := by omega
  have d6 : (kd : Int) < 6 := by omega
  have hN2 : decide (pc p.P kn ∈ T.N) = true := by rw [hkn]; simpa using hN
  have HN := Lib.hid (show pc p.P kn ∈ T.N by rw [hkn]; exact hN)
  have HKn := Lib.hid hkn
  have HKd := Lib.hid hkd
  have HSs := Lib.hid hs
  clear hN
  have HE1 : Hid (T.told1 (pc p.P (x1 % n)) = T) := Lib.hid (by unfold Tb.told1; rw [if_neg (by simp [ht])])
  have HE2 : Hid (T.news (pc p.P (x1 % n)) = []) := Lib.hid (by unfold Tb.news; simp [ht])
  have HTf := Lib.hid ht
  clear ht
  rw [HE1.out, HE2.out]
  obtain ⟨W, hW⟩ : ∃ W, W = w.alloc (.cells #[.int .u8 (x0 : Nat), .int .u8 (x1 : Nat), .int .u8 (x2 : Nat), .int .u8 (x3 : Nat)] 49) := ⟨_, rfl⟩
  obtain ⟨xb, hxb⟩ : ∃ xb, xb = w.heap.size := ⟨_, rfl⟩
  have hbW : Below w.heap.size w W := by rw [hW]; exact below_alloc w _
  have ho : Own W xb 49 [.int .u8 (x0 : Nat), .int .u8 (x1 : Nat), .int .u8 (x2 : Nat), .int .u8 (x3 : Nat)] := by rw [hW, hxb]; exact heap_alloc_new w _
  have hM := h.below hbW
  obtain ⟨b, off, rfl, hc⟩ := hM.row.cells.resolve_left (by omega)
  have c7 := (hc at' hat).2
  obtain ⟨g0, g1, g2, g3, g4, g5, g6⟩ := hM.md.plan
  have g7 := hM.md.cAt
  have gn := hM.md.cNear (i := kn) (by omega)
  have gu := hM.md.cUp (i := kn) (by omega)
  rw [mdOf_near (by omega)] at gn
  rw [mdOf_up (by omega)] at gu
  have hcn := hM.row.le
  have x0c := ho.cell 0 (by simp)
  have x1c := ho.cell 1 (by simp)
  have x2c := ho.cell 2 (by simp)
  have x3c := ho.cell 3 (by simp)
  simp only [List.getD_cons_zero, List.getD_cons_succ] at x0c x1c x2c x3c
  obtain ⟨tr, htr⟩ : ∃ tr, tr = pt p.P at' := ⟨_, rfl⟩
  rw [← htr] at c7
  have HM := Lib.hid hM
  have HB := Lib.hid hbW
  have HTr : Hid (T.tr = tr) := Lib.hid (by rw [hI.tr, htr])
  have H0 := Lib.hid h
  have HLn := Lib.hid hlen
  have HWp := Lib.hid hap
  have HO := Lib.hid ho
  have HP := Lib.hid hp
  have HI := Lib.hid hI
  clear h hM hc hbW ho hp hI hkn hkd hs hlen hwh htr hap
  unfold actV
  go_enter Try.func10, Try.ntmps10
  go_upto_region 1 with (fail)
  show Code.wp _ _ _ _ (w.alloc (.cells #[.int .u8 (x0 : Nat), .int .u8 (x1 : Nat), .int .u8 (x2 : Nat), .int .u8 (x3 : Nat)] 49))
  rw [← hW, ← hxb]
  clear hW hxb
  go_quiet (fail)
  go_upto_region 2 with (fail)
  go_quiet (fail)
  go_upto_region 4 with (fail)
  go_quiet (fail)
  rw [hN2] at gn
  obtain rfl : tr = false := by rw [← HTr.out, HTf.out]
  go_wp2
  go_ret2
  exact ⟨none, 0, rfl, NRow.nil _, HM.out.below (below_draw _ _), (Exc.of_below HB.out).drawN _, fun _ h => by cases h⟩
set_option maxRecDepth 100000 in
set_option maxHeartbeats 8000000 in
theorem do_greet_ok {x : Nn} {p : Pn} {n m at' : Nat} {T : Tb} (hp : PF x p n m) (hI : Inv p at' T) (hat : at' < n) (mb : Nat) (a : Option Addr) (c : Nat) (a' : Option Addr) (c' : Nat) (hap : Apart mb a a') (x0 x1 x2 x3 : Nat) (hx0 : x0 ≤ 255) (hx1 : x1 ≤ 255) (hx2 : x2 ≤ 255) (hx3 : x3 ≤ 255) (w : World) (h : MW w mb a n c a' m c' p at' T) (hwh : x0 % 7 = 4) (hN : pc p.P (x1 % n) ∈ T.N) (ht : T.tr = true) :
    Calls Try.prog 10 #[.pointer (some ⟨mb, 0, none⟩), actV x0 x1 x2 x3] w (DoOut mb a n c a' m c' p at' (T.told1 (pc p.P (x1 % n))) (T.news (pc p.P (x1 % n))) 0 w) := by
  have hlen := hp.len
  have hn2 := hp.n2
  have hn6 := hp.n6
  obtain ⟨kn, hkn⟩ : ∃ k, k = x1 % n := ⟨_, rfl⟩
  obtain ⟨kd, hkd⟩ : ∃ k, k = x2 % n := ⟨_, rfl⟩
  obtain ⟨s, hs⟩ : ∃ k, k = x3 % 4 := ⟨_, rfl⟩
  have r1 : (x1 : Int).tmod (n : Int) = (kn : Int) := by rw [rem_nat, hkn]
  have r2 : (x2 : Int).tmod (n : Int) = (kd : Int) := by rw [rem_nat, hkd]
  have r3 : (x3 : Int).tmod 4 = (s : Int) := by rw [show (4 : Int) = ((4 : Nat) : Int) from rfl, rem_nat, hs]
  have r7 : (x0 : Int).tmod 7 = 4 := by rw [show (7 : Int) = ((7 : Nat) : Int) from rfl, rem_nat, hwh]; rfl
  have hnn : kn < n := by rw [hkn]; exact Nat.mod_lt _ (by omega)
  have hdn : kd < n := by rw [hkd]; exact Nat.mod_lt _ (by omega)
  have hs4 : s < 4 := by rw [hs]; exact Nat.mod_lt _ (by omega)
  have t1 : IntKind.i64.wrap (x1 : Int) = (x1 : Int) := IntWalk.i64_in _ (by omega)
  have t2 : IntKind.i64.wrap (x2 : Int) = (x2 : Int) := IntWalk.i64_in _ (by omega)
  have t4 : IntKind.i64.wrap (kn : Int) = (kn : Int) := IntWalk.i64_in _ (by omega)
  have t5 : IntKind.i64.wrap (kd : Int) = (kd : Int) := IntWalk.i64_in _ (by omega)
  have t6 : IntKind.u8.wrap (s : Int) = (s : Int) := IntWalk.u8_in _ (by omega)
  have q1 : ¬ (n : Int) = 0 := by omega
  have q2 : ((n : Int) == 0) = false := by simpa using q1
  have q3 : ¬ n = 0 := by omega
  have q4 : (n == 0) = false := by simpa using q3
  have i0 : (0 : Int) ≤ (at' : Int) := by omega
  have i1 : (at' : Int) < (n : Int) := by omega
  have n0 : (0 : Int) ≤ (kn : Int) := by omega
  have n1 : (kn : Int) < (n : Int) := by omega
  have n6 : (kn : Int) < 6 := by omega
  have d0 : (0 : Int) ≤ (kd : Int) := by omega
  have d1 : (kd : Int) < (n : Int) := by omega
  have d6 : (kd : Int) < 6 := by omega
  have hN2 : decide (pc p.P kn ∈ T.N) = true := by rw [hkn]; simpa using hN
  have HN := Lib.hid (show pc p.P kn ∈ T.N by rw [hkn]; exact hN)
  have HKn := Lib.hid hkn
  have HKd := Lib.hid hkd
  have HSs := Lib.hid hs
  clear hN
  have HE1 : Hid (T.told1 (pc p.P (x1 % n)) = { T with said := T.saidL (pc p.P kn) T.D }) := Lib.hid (by unfold Tb.told1; simp [ht, hkn])
  have HE2 : Hid (T.news (pc p.P (x1 % n)) = T.newsL (pc p.P kn) T.D) := Lib.hid (by unfold Tb.news; simp [ht, hkn])
  have HNw := Lib.hid (fun (V : World) (hV : MW V mb a n c a' m c' p at' T) => mnews_any hp hI hat mb a c a' c' hap kn hnn V hV)
  have HTf := Lib.hid ht
  clear ht
  rw [HE1.out, HE2.out]
  obtain ⟨W, hW⟩ : ∃ W, W = w.alloc (.cells #[.int .u8 (x0 : Nat), .int .u8 (x1 : Nat), .int .u8 (x2 : Nat), .int .u8 (x3 : Nat)] 49) := ⟨_, rfl⟩
  obtain ⟨xb, hxb⟩ : ∃ xb, xb = w.heap.size := ⟨_, rfl⟩
  have hbW : Below w.heap.size w W := by rw [hW]; exact below_alloc w _
  have ho : Own W xb 49 [.int .u8 (x0 : Nat), .int .u8 (x1 : Nat), .int .u8 (x2 : Nat), .int .u8 (x3 : Nat)] := by rw [hW, hxb]; exact heap_alloc_new w _
  have hM := h.below hbW
  obtain ⟨b, off, rfl, hc⟩ := hM.row.cells.resolve_left (by omega)
  have c7 := (hc at' hat).2
  obtain ⟨g0, g1, g2, g3, g4, g5, g6⟩ := hM.md.plan
  have g7 := hM.md.cAt
  have gn := hM.md.cNear (i := kn) (by omega)
  have gu := hM.md.cUp (i := kn) (by omega)
  rw [mdOf_near (by omega)] at gn
  rw [mdOf_up (by omega)] at gu
  have hcn := hM.row.le
  have x0c := ho.cell 0 (by simp)
  have x1c := ho.cell 1 (by simp)
  have x2c := ho.cell 2 (by simp)
  have x3c := ho.cell 3 (by simp)
  simp only [List.getD_cons_zero, List.getD_cons_succ] at x0c x1c x2c x3c
  obtain ⟨tr, htr⟩ : ∃ tr, tr = pt p.P at' := ⟨_, rfl⟩
  rw [← htr] at c7
  have HM := Lib.hid hM
  have HB := Lib.hid hbW
  have HTr : Hid (T.tr = tr) := Lib.hid (by rw [hI.tr, htr])
  have H0 := Lib.hid h
  have HLn := Lib.hid hlen
  have HWp := Lib.hid hap
  have HO := Lib.hid ho
  have HP := Lib.hid hp
  have HI := Lib.hid hI
  clear h hM hc hbW ho hp hI hkn hkd hs hlen hwh htr hap
  unfold actV
  go_enter Try.func10, Try.ntmps10
  go_upto_region 1 with (fail)
  show Code.wp _ _ _ _ (w.alloc (.cells #[.int .u8 (x0 : Nat), .int .u8 (x1 : Nat), .int .u8 (x2 : Nat), .int .u8 (x3 : Nat)] 49))
  rw [← hW, ← hxb]
  clear hW hxb
  go_quiet (fail)
  go_upto_region 2 with (fail)
  go_quiet (fail)
  go_upto_region 4 with (fail)
  go_quiet (fail)
  rw [hN2] at gn
  obtain rfl : tr = true := by rw [← HTr.out, HTf.out]
  go_upto_region 34 with (fail)
  generalize hW3 : W.drewN _ = W3
  have hb3 : Below W.heap.size W W3 := by rw [← hW3]; exact below_draw W _
  have hM3 := HM.out.below hb3
  have ho3 := HO.out.below hb3 HO.out.lt
  have HM3 := Lib.hid hM3
  have HX3 : Hid (Exc (fun q => q = mb) w W3) := Lib.hid (by rw [← hW3]; exact (Exc.of_below HB.out).drawN _)
  clear g0 g1 g2 g3 g4 g5 g6 g7 gn gu x0c x1c x2c x3c hW3 hb3 c7
  obtain ⟨g0, g1, g2, g3, g4, g5, g6⟩ := hM3.md.plan
  have g7 := hM3.md.cAt
  have x0c := ho3.cell 0 (by simp)
  have x1c := ho3.cell 1 (by simp)
  have x2c := ho3.cell 2 (by simp)
  have x3c := ho3.cell 3 (by simp)
  simp only [List.getD_cons_zero, List.getD_cons_succ] at x0c x1c x2c x3c
  clear hM3 ho3
  go_wp2_with fail
  with_reducible refine (HNw.out W3 HM3.out).mono ?_
  rintro e w5 ⟨a2, c2, rfl, hr, hm, hx, hf⟩
  have HR := Lib.hid hr
  have HM5 := Lib.hid hm
  have HX5 := Lib.hid hx
  have HF5 := Lib.hid hf
  clear hr hm hx hf g0 g1 g2 g3 g4 g5 g6 g7 x0c x1c x2c x3c
  go_wp2
  go_ret2
  exact ⟨a2, c2, rfl, HR.out, HM5.out, HX3.out.trans HX5.out (fun _ _ h => h), fun z hz => Nat.le_trans HX3.out.size (HF5.out z hz)⟩
end Go.Proofs.Ytdjmopipmeonlaa
/- The model's do: Tell. -/
namespace Go.Proofs.Ytdjmopipmeonlaa
set_option linter.unusedVariables false
open Go.RowKit Go.Maps

set_option maxRecDepth 100000 in
set_option maxHeartbeats 8000000 in
theorem do_tell_no {x : Nn} {p : Pn} {n m at' : Nat} {T : Tb} (hp : PF x p n m) (hI : Inv p at' T) (hat : at' < n) (mb : Nat) (a : Option Addr) (c : Nat) (a' : Option Addr) (c' : Nat) (hap : Apart mb a a') (x0 x1 x2 x3 : Nat) (hx0 : x0 ≤ 255) (hx1 : x1 ≤ 255) (hx2 : x2 ≤ 255) (hx3 : x3 ≤ 255) (w : World) (h : MW w mb a n c a' m c' p at' T) (hwh : x0 % 7 = 3) (ht : T.tr = false) :
    Calls Try.prog 10 #[.pointer (some ⟨mb, 0, none⟩), actV x0 x1 x2 x3] w (DoOut mb a n c a' m c' p at' (T.toldL T.N) (T.tellL T.N) 0 w) := by
  have hlen := hp.len
  have hn2 := hp.n2
  have hn6 := hp.n6
  obtain ⟨kn, hkn⟩ : ∃ k, k = x1 % n := ⟨_, rfl⟩
  obtain ⟨kd, hkd⟩ : ∃ k, k = x2 % n := ⟨_, rfl⟩
  obtain ⟨s, hs⟩ : ∃ k, k = x3 % 4 := ⟨_, rfl⟩
  have r1 : (x1 : Int).tmod (n : Int) = (kn : Int) := by rw [rem_nat, hkn]
  have r2 : (x2 : Int).tmod (n : Int) = (kd : Int) := by rw [rem_nat, hkd]
  have r3 : (x3 : Int).tmod 4 = (s : Int) := by rw [show (4 : Int) = ((4 : Nat) : Int) from rfl, rem_nat, hs]
  have r7 : (x0 : Int).tmod 7 = 3 := by rw [show (7 : Int) = ((7 : Nat) : Int) from rfl, rem_nat, hwh]; rfl
  have hnn : kn < n := by rw [hkn]; exact Nat.mod_lt _ (by omega)
  have hdn : kd < n := by rw [hkd]; exact Nat.mod_lt _ (by omega)
  have hs4 : s < 4 := by rw [hs]; exact Nat.mod_lt _ (by omega)
  have t1 : IntKind.i64.wrap (x1 : Int) = (x1 : Int) := IntWalk.i64_in _ (by omega)
  have t2 : IntKind.i64.wrap (x2 : Int) = (x2 : Int) := IntWalk.i64_in _ (by omega)
  have t4 : IntKind.i64.wrap (kn : Int) = (kn : Int) := IntWalk.i64_in _ (by omega)
  have t5 : IntKind.i64.wrap (kd : Int) = (kd : Int) := IntWalk.i64_in _ (by omega)
  have t6 : IntKind.u8.wrap (s : Int) = (s : Int) := IntWalk.u8_in _ (by omega)
  have q1 : ¬ (n : Int) = 0 := by omega
  have q2 : ((n : Int) == 0) = false := by simpa using q1
  have q3 : ¬ n = 0 := by omega
  have q4 : (n == 0) = false := by simpa using q3
  have i0 : (0 : Int) ≤ (at' : Int) := by omega
  have i1 : (at' : Int) < (n : Int) := by omega
  have n0 : (0 : Int) ≤ (kn : Int) := by omega
  have n1 : (kn : Int) < (n : Int) := by omega
  have n6 : (kn : Int) < 6 := by omega
  have d0 : (0 : Int) ≤ (kd : Int) := by omega
  have d1 : (kd : Int) < (n : Int) := by omega
  have d6 : (kd : Int) < 6 := by omega
  have HE1 : Hid (T.toldL T.N = T) := Lib.hid (Tb.toldL_end ht _)
  have HE2 : Hid (T.tellL T.N = []) := Lib.hid (by unfold Tb.tellL Tb.news; simp [ht])
  have HTf := Lib.hid ht
  clear ht
  rw [HE1.out, HE2.out]
  obtain ⟨W, hW⟩ : ∃ W, W = w.alloc (.cells #[.int .u8 (x0 : Nat), .int .u8 (x1 : Nat), .int .u8 (x2 : Nat), .int .u8 (x3 : Nat)] 49) := ⟨_, rfl⟩
  obtain ⟨xb, hxb⟩ : ∃ xb, xb = w.heap.size := ⟨_, rfl⟩
  have hbW : Below w.heap.size w W := by rw [hW]; exact below_alloc w _
  have ho : Own W xb 49 [.int .u8 (x0 : Nat), .int .u8 (x1 : Nat), .int .u8 (x2 : Nat), .int .u8 (x3 : Nat)] := by rw [hW, hxb]; exact heap_alloc_new w _
  have hM := h.below hbW
  obtain ⟨b, off, rfl, hc⟩ := hM.row.cells.resolve_left (by omega)
  have c7 := (hc at' hat).2
  obtain ⟨g0, g1, g2, g3, g4, g5, g6⟩ := hM.md.plan
  have g7 := hM.md.cAt
  have gn := hM.md.cNear (i := kn) (by omega)
  have gu := hM.md.cUp (i := kn) (by omega)
  rw [mdOf_near (by omega)] at gn
  rw [mdOf_up (by omega)] at gu
  have hcn := hM.row.le
  have x0c := ho.cell 0 (by simp)
  have x1c := ho.cell 1 (by simp)
  have x2c := ho.cell 2 (by simp)
  have x3c := ho.cell 3 (by simp)
  simp only [List.getD_cons_zero, List.getD_cons_succ] at x0c x1c x2c x3c
  obtain ⟨tr, htr⟩ : ∃ tr, tr = pt p.P at' := ⟨_, rfl⟩
  rw [← htr] at c7
  have HM := Lib.hid hM
  have HB := Lib.hid hbW
  have HTr : Hid (T.tr = tr) := Lib.hid (by rw [hI.tr, htr])
  have H0 := Lib.hid h
  have HLn := Lib.hid hlen
  have HWp := Lib.hid hap
  have HO := Lib.hid ho
  have HP := Lib.hid hp
  have HI := Lib.hid hI
  clear h hM hc hbW ho hp hI hkn hkd hs hlen hwh htr hap
  unfold actV
  go_enter Try.func10, Try.ntmps10
  go_upto_region 1 with (fail)
  show Code.wp _ _ _ _ (w.alloc (.cells #[.int .u8 (x0 : Nat), .int .u8 (x1 : Nat), .int .u8 (x2 : Nat), .int .u8 (x3 : Nat)] 49))
  rw [← hW, ← hxb]
  clear hW hxb
  go_quiet (fail)
  go_upto_region 2 with (fail)
  go_quiet (fail)
  go_upto_region 4 with (fail)
  go_quiet (fail)
  obtain rfl : tr = false := by rw [← HTr.out, HTf.out]
  go_wp2_with fail
  clear c7
  generalize hW3 : W.drewN _ = W3
  have HM3 : Hid (MW W3 mb (some ⟨b, off, none⟩) n c a' m c' p at' T) := Lib.hid (by rw [← hW3]; exact HM.out.below (below_draw _ _))
  have HX3 : Hid (Exc (fun q => q = mb) w W3) := Lib.hid (by rw [← hW3]; exact (Exc.of_below HB.out).drawN _)
  clear hW3 g0 g1 g2 g3 g4 g5 g6 g7 gn gu x0c x1c x2c x3c
  go_loopw [10, 11] (fun v kv wr => v = .slice none 0 0 ∧ kv = .int .i64 0 ∧ wr = W3) (fun _ _ _ => 0)
  case atStart => exact ⟨rfl, rfl, rfl⟩
  case round =>
    obtain ⟨rfl, rfl, rfl⟩ := hrel
    have hM3 := HM3.out
    obtain ⟨g0, g1, g2, g3, g4, g5, g6⟩ := hM3.md.plan
    clear hM3
    have k0 : (0 : Int) < (n : Int) := by omega
    have k1 : 0 < n := by omega
    go_wp2
    go_ret2
    exact ⟨none, 0, rfl, NRow.nil _, HM3.out, HX3.out, fun _ h => by cases h⟩
set_option maxRecDepth 100000 in
set_option maxHeartbeats 8000000 in
theorem do_tell_ok {x : Nn} {p : Pn} {n m at' : Nat} {T : Tb} (hp : PF x p n m) (hI : Inv p at' T) (hat : at' < n) (mb : Nat) (a : Option Addr) (c : Nat) (a' : Option Addr) (c' : Nat) (hap : Apart mb a a') (x0 x1 x2 x3 : Nat) (hx0 : x0 ≤ 255) (hx1 : x1 ≤ 255) (hx2 : x2 ≤ 255) (hx3 : x3 ≤ 255) (w : World) (h : MW w mb a n c a' m c' p at' T) (hwh : x0 % 7 = 3) (ht : T.tr = true) :
    Calls Try.prog 10 #[.pointer (some ⟨mb, 0, none⟩), actV x0 x1 x2 x3] w (DoOut mb a n c a' m c' p at' (T.toldL T.N) (T.tellL T.N) 0 w) := by
  have hlen := hp.len
  have hn2 := hp.n2
  have hn6 := hp.n6
  obtain ⟨kn, hkn⟩ : ∃ k, k = x1 % n := ⟨_, rfl⟩
  obtain ⟨kd, hkd⟩ : ∃ k, k = x2 % n := ⟨_, rfl⟩
  obtain ⟨s, hs⟩ : ∃ k, k = x3 % 4 := ⟨_, rfl⟩
  have r1 : (x1 : Int).tmod (n : Int) = (kn : Int) := by rw [rem_nat, hkn]
  have r2 : (x2 : Int).tmod (n : Int) = (kd : Int) := by rw [rem_nat, hkd]
  have r3 : (x3 : Int).tmod 4 = (s : Int) := by rw [show (4 : Int) = ((4 : Nat) : Int) from rfl, rem_nat, hs]
  have r7 : (x0 : Int).tmod 7 = 3 := by rw [show (7 : Int) = ((7 : Nat) : Int) from rfl, rem_nat, hwh]; rfl
  have hnn : kn < n := by rw [hkn]; exact Nat.mod_lt _ (by omega)
  have hdn : kd < n := by rw [hkd]; exact Nat.mod_lt _ (by omega)
  have hs4 : s < 4 := by rw [hs]; exact Nat.mod_lt _ (by omega)
  have t1 : IntKind.i64.wrap (x1 : Int) = (x1 : Int) := IntWalk.i64_in _ (by omega)
  have t2 : IntKind.i64.wrap (x2 : Int) = (x2 : Int) := IntWalk.i64_in _ (by omega)
  have t4 : IntKind.i64.wrap (kn : Int) = (kn : Int) := IntWalk.i64_in _ (by omega)
  have t5 : IntKind.i64.wrap (kd : Int) = (kd : Int) := IntWalk.i64_in _ (by omega)
  have t6 : IntKind.u8.wrap (s : Int) = (s : Int) := IntWalk.u8_in _ (by omega)
  have q1 : ¬ (n : Int) = 0 := by omega
  have q2 : ((n : Int) == 0) = false := by simpa using q1
  have q3 : ¬ n = 0 := by omega
  have q4 : (n == 0) = false := by simpa using q3
  have i0 : (0 : Int) ≤ (at' : Int) := by omega
  have i1 : (at' : Int) < (n : Int) := by omega
  have n0 : (0 : Int) ≤ (kn : Int) := by omega
  have n1 : (kn : Int) < (n : Int) := by omega
  have n6 : (kn : Int) < 6 := by omega
  have d0 : (0 : Int) ≤ (kd : Int) := by omega
  have d1 : (kd : Int) < (n : Int) := by omega
  have d6 : (kd : Int) < 6 := by omega
  have HNw := Lib.hid (fun (k : Nat) (hk : k < n) (L : List Int) (V : World) (hV : MW V mb a n c a' m c' p at' (T.toldL L)) => mnews_any hp (hI.toldL L) hat mb a c a' c' hap k hk V hV)
  have HAll : Hid (nbK p.P T.N n = T.N) := Lib.hid (by rw [hI.N]; exact nbK_all hp _)
  have HSn := Lib.hid (fun k (hk : k < n) => nbK_snoc p.P T.N (k := k) (by omega))
  have HNe := Lib.hid (fun k (hk : k < n) => nbK_new hp (N := T.N) hk)
  have HDl := Lib.hid (hI.destsLe hp)
  have HTf := Lib.hid ht
  have HMb := Lib.hid (Own.lt h.md)
  clear ht
  obtain ⟨W, hW⟩ : ∃ W, W = w.alloc (.cells #[.int .u8 (x0 : Nat), .int .u8 (x1 : Nat), .int .u8 (x2 : Nat), .int .u8 (x3 : Nat)] 49) := ⟨_, rfl⟩
  obtain ⟨xb, hxb⟩ : ∃ xb, xb = w.heap.size := ⟨_, rfl⟩
  have hbW : Below w.heap.size w W := by rw [hW]; exact below_alloc w _
  have ho : Own W xb 49 [.int .u8 (x0 : Nat), .int .u8 (x1 : Nat), .int .u8 (x2 : Nat), .int .u8 (x3 : Nat)] := by rw [hW, hxb]; exact heap_alloc_new w _
  have hM := h.below hbW
  obtain ⟨b, off, rfl, hc⟩ := hM.row.cells.resolve_left (by omega)
  have c7 := (hc at' hat).2
  obtain ⟨g0, g1, g2, g3, g4, g5, g6⟩ := hM.md.plan
  have g7 := hM.md.cAt
  have gn := hM.md.cNear (i := kn) (by omega)
  have gu := hM.md.cUp (i := kn) (by omega)
  rw [mdOf_near (by omega)] at gn
  rw [mdOf_up (by omega)] at gu
  have hcn := hM.row.le
  have x0c := ho.cell 0 (by simp)
  have x1c := ho.cell 1 (by simp)
  have x2c := ho.cell 2 (by simp)
  have x3c := ho.cell 3 (by simp)
  simp only [List.getD_cons_zero, List.getD_cons_succ] at x0c x1c x2c x3c
  obtain ⟨tr, htr⟩ : ∃ tr, tr = pt p.P at' := ⟨_, rfl⟩
  rw [← htr] at c7
  have HM := Lib.hid hM
  have HB := Lib.hid hbW
  have HTr : Hid (T.tr = tr) := Lib.hid (by rw [hI.tr, htr])
  have H0 := Lib.hid h
  have HLn := Lib.hid hlen
  have HWp := Lib.hid hap
  have HO := Lib.hid ho
  have HP := Lib.hid hp
  have HI := Lib.hid hI
  clear h hM hc hbW ho hp hI hkn hkd hs hlen hwh htr hap
  unfold actV
  go_enter Try.func10, Try.ntmps10
  go_upto_region 1 with (fail)
  show Code.wp _ _ _ _ (w.alloc (.cells #[.int .u8 (x0 : Nat), .int .u8 (x1 : Nat), .int .u8 (x2 : Nat), .int .u8 (x3 : Nat)] 49))
  rw [← hW, ← hxb]
  clear hW hxb
  go_quiet (fail)
  go_upto_region 2 with (fail)
  go_quiet (fail)
  go_upto_region 4 with (fail)
  go_quiet (fail)
  obtain rfl : tr = true := by rw [← HTr.out, HTf.out]
  go_wp2_with fail
  clear c7
  generalize hW3 : W.drewN _ = W3
  have HM3 : Hid (MW W3 mb (some ⟨b, off, none⟩) n c a' m c' p at' T) := Lib.hid (by rw [← hW3]; exact HM.out.below (below_draw _ _))
  have HX3 : Hid (Exc (fun q => q = mb) w W3) := Lib.hid (by rw [← hW3]; exact (Exc.of_below HB.out).drawN _)
  clear hW3 g0 g1 g2 g3 g4 g5 g6 g7 gn gu x0c x1c x2c x3c r1 r2 r3 r7 hnn hdn hs4 t1 t2 t4 t5 t6 q1 q2 q3 q4 n0 n1 n6 d0 d1 d6
  go_loopw [10, 11] (fun v kv wr => ∃ k : Nat, k ≤ n ∧ kv = .int .i64 k ∧ MW wr mb (some ⟨b, off, none⟩) n c a' m c' p at' (T.toldL (nbK p.P T.N k)) ∧ Exc (fun q => q = mb) w wr ∧ wr.ownsRow w.heap.size 54 3 v (T.tellL (nbK p.P T.N k)).length (cellsN (T.tellL (nbK p.P T.N k)))) (fun _ kv _ => n - (intOf kv).toNat)
  case atStart => exact ⟨0, Nat.zero_le _, rfl, by rw [nbK_zero, Tb.toldL_nil]; exact HM3.out, HX3.out, by simpa [nbK_zero, Tb.tellL, cellsN] using World.ownsRow_nil W3 w.heap.size 54 3⟩
  case round =>
    obtain ⟨k, hk, rfl, hM, hx, hown⟩ := hrel
    have HMr := Lib.hid hM
    have HXr := Lib.hid hx
    have hN36 : (T.tellL (nbK p.P T.N k)).length ≤ 36 := Nat.le_trans (T.tellL_le _) (Nat.mul_le_mul (Nat.le_trans nbK_le (by rw [HLn.out]; exact hn6) : _ ≤ 6) HDl.out)
    obtain ⟨N, hN⟩ : ∃ N, N = (T.tellL (nbK p.P T.N k)).length := ⟨_, rfl⟩
    rw [← hN] at hown hN36
    have HNl := Lib.hid hN
    have HW := Lib.hid hown
    have hsz := hx.size
    clear hown hx hN
    obtain ⟨g0, g1, g2, g3, g4, g5, g6⟩ := hM.md.plan
    by_cases hkn : k < n
    · have k1 : (k : Int) < (n : Int) := by omega
      have k2 : (0 : Int) ≤ (k : Int) := by omega
      have k6 : (k : Int) < 6 := by omega
      have gn := hM.md.cNear (i := k) (by omega)
      have gu := hM.md.cUp (i := k) (by omega)
      rw [mdOf_near (by have := HLn.out; omega)] at gn
      rw [mdOf_up (by have := HLn.out; omega)] at gu
      change wr.cell? _ = some (.bool (T.isUp (pc p.P k))) at gu
      change wr.cell? _ = some (.bool (decide (pc p.P k ∈ T.N))) at gn
      obtain ⟨u, hu⟩ : ∃ u, u = pc p.P k := ⟨_, rfl⟩
      have HSnk := Lib.hid (HSn.out k hkn)
      have HNek := Lib.hid (HNe.out k hkn)
      rw [← hu] at gn gu HSnk HNek
      have HU := Lib.hid hu
      by_cases hNu : u ∈ T.N
      · rw [decide_eq_true hNu] at gn
        have HNu := Lib.hid hNu
        cases hup : T.isUp u
        · rw [hup] at gu
          have HT : Hid (T.up u = false) := Lib.hid (by unfold Tb.isUp at hup; simpa [hNu] using hup)
          clear hup hNu hu hM
          go_wp2_with fail
          refine ⟨⟨k + 1, by omega, by go_num, ?_, HXr.out, ?_⟩, by simp [intOf]; omega⟩
          · rw [HSnk.out, if_pos HNu.out, Tb.toldL_snoc_no HT.out]; exact HMr.out
          · rw [HSnk.out, if_pos HNu.out, Tb.tellL_snoc, HT.out, if_neg (by decide), List.append_nil, ← HNl.out]; exact HW.out
        · rw [hup] at gu
          have HT : Hid (T.up u = true) := Lib.hid (by unfold Tb.isUp at hup; simpa [hNu] using hup)
          have hnw := HNw.out k hkn _ wr hM
          rw [← hu] at hnw
          have e5 : (T.toldL (nbK p.P T.N k)).newsL u (T.toldL (nbK p.P T.N k)).D = T.news u := by
            rw [← Tb.toldL_news (L := nbK p.P T.N k) (T := T) HNek.out]
            exact (if_pos HTf.out).symm
          have e6 : ({ T.toldL (nbK p.P T.N k) with said := (T.toldL (nbK p.P T.N k)).saidL u (T.toldL (nbK p.P T.N k)).D } : Tb) = T.toldL (nbK p.P T.N k ++ [u]) := by
            rw [Tb.toldL_snoc HT.out]
            unfold Tb.told1
            rw [if_pos (show (T.toldL (nbK p.P T.N k)).tr = true from HTf.out)]
          rw [e5, e6] at hnw
          have hnl : (T.news u).length ≤ 6 := Nat.le_trans (T.news_le u) HDl.out
          obtain ⟨ml, hml⟩ : ∃ ml, ml = (T.news u).length := ⟨_, rfl⟩
          unfold MnOut at hnw
          rw [← hml] at hnw hnl
          have HNn := Lib.hid hnw
          have HMl := Lib.hid hml
          clear hup hNu hu hM hnw e5 e6 hml
          go_wp2_with fail
          with_reducible refine HNn.out.mono ?_
          rintro e w5 ⟨a2, c2, rfl, hr, hm, hx5, hf⟩
          have HX5 := Lib.hid (HXr.out.trans hx5 (fun _ _ h => h))
          have HM5 := Lib.hid hm
          have HR5 := Lib.hid hr
          have HW5 := Lib.hid (ownsK_exc HW.out hx5 (fun j hj => by have := (ownsK_lt HW.out hj).1; have := HMb.out; omega))
          have hsz5 := HX5.out.size
          clear hr hm hx5 hf g0 g1 g2 g3 g4 g5 g6 gn gu HNn
          go_wp2_with (at_builtin; refine wpList_append_nts rfl _ _ rfl w.heap.size _ _ _ rfl (by exact HW5.out) _ _ _ _ rfl (by exact HR5.out) (by omega) hsz5 ?_; intro v1 w6 h1 h2; have HW6 := Lib.hid h1; have HG6 := Lib.hid h2; clear h1 h2)
          go_wp2
          have hb6 : Exc (fun j => w.heap.size ≤ j) w5 w6 := (Exc.of_grown HG6.out).weak fun i _ hi => (ownsK_lt HW5.out hi).1
          refine ⟨⟨k + 1, by omega, by go_num, ?_, HX5.out.trans hb6 (fun i hi hh => by omega), ?_⟩, by simp [intOf]; omega⟩
          · rw [HSnk.out, if_pos HNu.out]
            have hlt := HMb.out
            exact HM5.out.exc hb6 (by omega) (fun z hz => by have := HWp.out.p z hz; omega) (fun z hz => by have := HWp.out.l z hz; omega)
          · rw [HSnk.out, if_pos HNu.out, Tb.tellL_snoc, HT.out, if_pos rfl, List.length_append, ← HNl.out, ← HMl.out]; exact HW6.out
      · rw [decide_eq_false hNu] at gn
        have HNu := Lib.hid hNu
        clear hNu hu hM
        go_wp2_with fail
        refine ⟨⟨k + 1, by omega, by go_num, ?_, HXr.out, ?_⟩, by simp [intOf]; omega⟩
        · rw [HSnk.out, if_neg HNu.out, List.append_nil]; exact HMr.out
        · rw [HSnk.out, if_neg HNu.out, List.append_nil, ← HNl.out]; exact HW.out
    · obtain rfl : k = n := by omega
      have hown := HW.out
      have hMe := HMr.out
      have hNe := HNl.out
      rw [HAll.out] at hown hMe hNe
      obtain ⟨a2, c2, rfl, hr2, hfr⟩ := nrow_of hown hNe.symm
      have HR := Lib.hid hr2
      have HMe := Lib.hid hMe
      have HFr := Lib.hid hfr
      have HNe := Lib.hid hNe
      clear hown hMe hr2 hfr hNe hM
      go_wp2
      go_ret2
      exact ⟨a2, c2, by rw [← HNe.out]; rfl, by rw [← HNe.out]; exact HR.out, HMe.out, HXr.out, HFr.out⟩
end Go.Proofs.Ytdjmopipmeonlaa
