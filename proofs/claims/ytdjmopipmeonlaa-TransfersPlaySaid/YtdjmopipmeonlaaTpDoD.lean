/- Joined: TpDoC TpDoD. -/
import Derived.Test.YtdjmopipmeonlaaTpInv
import Derived.Deep.RegionHeld3
import Derived.BigRegion
/- The model's do: Hear of a note that says nothing, or is heard. -/
namespace Go.Proofs.Ytdjmopipmeonlaa
set_option linter.unusedVariables false
open Go.RowKit Go.Maps

set_option maxRecDepth 100000 in
set_option maxHeartbeats 8000000 in
theorem do_hear_hi {x : Nn} {p : Pn} {n m at' : Nat} {T : Tb} (hp : PF x p n m) (hI : Inv p at' T) (hat : at' < n) (mb : Nat) (a : Option Addr) (c : Nat) (a' : Option Addr) (c' : Nat) (hap : Apart mb a a') (x0 x1 x2 x3 : Nat) (hx0 : x0 ≤ 255) (hx1 : x1 ≤ 255) (hx2 : x2 ≤ 255) (hx3 : x3 ≤ 255) (w : World) (h : MW w mb a n c a' m c' p at' T) (hwh : x0 % 7 = 2) (hN : pc p.P (x1 % n) ∈ T.N) (hs2 : 2 < x3 % 4) :
    Calls Try.prog 10 #[.pointer (some ⟨mb, 0, none⟩), actV x0 x1 x2 x3] w (DoOut mb a n c a' m c' p at' T [] 1 w) := by
  have hlen := hp.len
  have hn2 := hp.n2
  have hn6 := hp.n6
  obtain ⟨kn, hkn⟩ : ∃ k, k = x1 % n := ⟨_, rfl⟩
  obtain ⟨kd, hkd⟩ : ∃ k, k = x2 % n := ⟨_, rfl⟩
  obtain ⟨s, hs⟩ : ∃ k, k = x3 % 4 := ⟨_, rfl⟩
  have r1 : (x1 : Int).tmod (n : Int) = (kn : Int) := by rw [rem_nat, hkn]
  have r2 : (x2 : Int).tmod (n : Int) = (kd : Int) := by rw [rem_nat, hkd]
  have r3 : (x3 : Int).tmod 4 = (s : Int) := by rw [show (4 : Int) = ((4 : Nat) : Int) from rfl, rem_nat, hs]
  have r7 : (x0 : Int).tmod 7 = 2 := by rw [show (7 : Int) = ((7 : Nat) : Int) from rfl, rem_nat, hwh]; rfl
  have hnn : kn < n := by rw [hkn]; exact Nat.mod_lt _ (by omega)
  have hdn : kd < n := by rw [hkd]; exact Nat.mod_lt _ (by omega)
  have hs4 : s < 4 := by rw [hs]; exact Nat.mod_lt _ (by omega)
  have t1 : IntKind.i64.wrap (x1 : Int) = (x1 : Int) := IntWalk.i64_in _ (by omega)
  have t2 : IntKind.i64.wrap (x2 : Int) = (x2 : Int) := IntWalk.i64_in _ (by omega)
  have t4 : IntKind.i64.wrap (kn : Int) = (kn : Int) := IntWalk.i64_in _ (by omega)
  have t5 : IntKind.i64.wrap (kd : Int) = (kd : Int) := IntWalk.i64_in _ (by omega)
  have t6 : IntKind.u8.wrap (s : Int) = (s : Int) := IntWalk.u8_in _ (by omega)
  have q1 : ¬ (n : Int) = 0 := by omega
  have q2 : ((n : Int) == 0) = false := by simpa using q1
  have q3 : ¬ n = 0 := by omega
  have q4 : (n == 0) = false := by simpa using q3
  have i0 : (0 : Int) ≤ (at' : Int) := by omega
  have i1 : (at' : Int) < (n : Int) := by omega
  have n0 : (0 : Int) ≤ (kn : Int) := by omega
  have n1 : (kn : Int) < (n : Int) := by omega
  have n6 : (kn : Int) < 6 := by omega
  have d0 : (0 : Int) ≤ (kd : Int) := by omega
  have d1 : (kd : Int) < (n : Int) := by omega
  have d6 : (kd : Int) < 6 := by omega
  have hN2 : decide (pc p.P kn ∈ T.N) = true := by rw [hkn]; simpa using hN
  have HN := Lib.hid (show pc p.P kn ∈ T.N by rw [hkn]; exact hN)
  have HKn := Lib.hid hkn
  have HKd := Lib.hid hkd
  have HSs := Lib.hid hs
  clear hN
  have e1 : (s : Int) > 2 := by rw [hs]; omega
  clear hs2
  obtain ⟨W, hW⟩ : ∃ W, W = w.alloc (.cells #[.int .u8 (x0 : Nat), .int .u8 (x1 : Nat), .int .u8 (x2 : Nat), .int .u8 (x3 : Nat)] 49) := ⟨_, rfl⟩
  obtain ⟨xb, hxb⟩ : ∃ xb, xb = w.heap.size := ⟨_, rfl⟩
  have hbW : Below w.heap.size w W := by rw [hW]; exact below_alloc w _
  have ho : Own W xb 49 [.int .u8 (x0 : Nat), .int .u8 (x1 : Nat), .int .u8 (x2 : Nat), .int .u8 (x3 : Nat)] := by rw [hW, hxb]; exact heap_alloc_new w _
  have hM := h.below hbW
  obtain ⟨b, off, rfl, hc⟩ := hM.row.cells.resolve_left (by omega)
  have c7 := (hc at' hat).2
  obtain ⟨g0, g1, g2, g3, g4, g5, g6⟩ := hM.md.plan
  have g7 := hM.md.cAt
  have gn := hM.md.cNear (i := kn) (by omega)
  have gu := hM.md.cUp (i := kn) (by omega)
  rw [mdOf_near (by omega)] at gn
  rw [mdOf_up (by omega)] at gu
  have hcn := hM.row.le
  have x0c := ho.cell 0 (by simp)
  have x1c := ho.cell 1 (by simp)
  have x2c := ho.cell 2 (by simp)
  have x3c := ho.cell 3 (by simp)
  simp only [List.getD_cons_zero, List.getD_cons_succ] at x0c x1c x2c x3c
  obtain ⟨tr, htr⟩ : ∃ tr, tr = pt p.P at' := ⟨_, rfl⟩
  rw [← htr] at c7
  have HM := Lib.hid hM
  have HB := Lib.hid hbW
  have HTr : Hid (T.tr = tr) := Lib.hid (by rw [hI.tr, htr])
  have H0 := Lib.hid h
  have HLn := Lib.hid hlen
  have HWp := Lib.hid hap
  have HO := Lib.hid ho
  have HP := Lib.hid hp
  have HI := Lib.hid hI
  clear h hM hc hbW ho hp hI hkn hkd hs hlen hwh htr hap
  unfold actV
  go_enter Try.func10, Try.ntmps10
  go_upto_region 1 with (fail)
  show Code.wp _ _ _ _ (w.alloc (.cells #[.int .u8 (x0 : Nat), .int .u8 (x1 : Nat), .int .u8 (x2 : Nat), .int .u8 (x3 : Nat)] 49))
  rw [← hW, ← hxb]
  clear hW hxb
  go_quiet (fail)
  go_upto_region 2 with (fail)
  go_quiet (fail)
  go_upto_region 4 with (fail)
  go_quiet (fail)
  rw [hN2] at gn
  go_wp2
  go_ret2
  exact ⟨none, 0, rfl, NRow.nil _, HM.out.below (below_draw _ _), (Exc.of_below HB.out).drawN _, fun _ h => by cases h⟩
set_option maxRecDepth 100000 in
set_option maxHeartbeats 8000000 in
theorem do_hear_me {x : Nn} {p : Pn} {n m at' : Nat} {T : Tb} (hp : PF x p n m) (hI : Inv p at' T) (hat : at' < n) (mb : Nat) (a : Option Addr) (c : Nat) (a' : Option Addr) (c' : Nat) (hap : Apart mb a a') (x0 x1 x2 x3 : Nat) (hx0 : x0 ≤ 255) (hx1 : x1 ≤ 255) (hx2 : x2 ≤ 255) (hx3 : x3 ≤ 255) (w : World) (h : MW w mb a n c a' m c' p at' T) (hwh : x0 % 7 = 2) (hN : pc p.P (x1 % n) ∈ T.N) (hs2 : x3 % 4 ≤ 2) (he : x2 % n = at') :
    Calls Try.prog 10 #[.pointer (some ⟨mb, 0, none⟩), actV x0 x1 x2 x3] w (DoOut mb a n c a' m c' p at' T [] 1 w) := by
  have hlen := hp.len
  have hn2 := hp.n2
  have hn6 := hp.n6
  obtain ⟨kn, hkn⟩ : ∃ k, k = x1 % n := ⟨_, rfl⟩
  obtain ⟨kd, hkd⟩ : ∃ k, k = x2 % n := ⟨_, rfl⟩
  obtain ⟨s, hs⟩ : ∃ k, k = x3 % 4 := ⟨_, rfl⟩
  have r1 : (x1 : Int).tmod (n : Int) = (kn : Int) := by rw [rem_nat, hkn]
  have r2 : (x2 : Int).tmod (n : Int) = (kd : Int) := by rw [rem_nat, hkd]
  have r3 : (x3 : Int).tmod 4 = (s : Int) := by rw [show (4 : Int) = ((4 : Nat) : Int) from rfl, rem_nat, hs]
  have r7 : (x0 : Int).tmod 7 = 2 := by rw [show (7 : Int) = ((7 : Nat) : Int) from rfl, rem_nat, hwh]; rfl
  have hnn : kn < n := by rw [hkn]; exact Nat.mod_lt _ (by omega)
  have hdn : kd < n := by rw [hkd]; exact Nat.mod_lt _ (by omega)
  have hs4 : s < 4 := by rw [hs]; exact Nat.mod_lt _ (by omega)
  have t1 : IntKind.i64.wrap (x1 : Int) = (x1 : Int) := IntWalk.i64_in _ (by omega)
  have t2 : IntKind.i64.wrap (x2 : Int) = (x2 : Int) := IntWalk.i64_in _ (by omega)
  have t4 : IntKind.i64.wrap (kn : Int) = (kn : Int) := IntWalk.i64_in _ (by omega)
  have t5 : IntKind.i64.wrap (kd : Int) = (kd : Int) := IntWalk.i64_in _ (by omega)
  have t6 : IntKind.u8.wrap (s : Int) = (s : Int) := IntWalk.u8_in _ (by omega)
  have q1 : ¬ (n : Int) = 0 := by omega
  have q2 : ((n : Int) == 0) = false := by simpa using q1
  have q3 : ¬ n = 0 := by omega
  have q4 : (n == 0) = false := by simpa using q3
  have i0 : (0 : Int) ≤ (at' : Int) := by omega
  have i1 : (at' : Int) < (n : Int) := by omega
  have n0 : (0 : Int) ≤ (kn : Int) := by omega
  have n1 : (kn : Int) < (n : Int) := by omega
  have n6 : (kn : Int) < 6 := by omega
  have d0 : (0 : Int) ≤ (kd : Int) := by omega
  have d1 : (kd : Int) < (n : Int) := by omega
  have d6 : (kd : Int) < 6 := by omega
  have hN2 : decide (pc p.P kn ∈ T.N) = true := by rw [hkn]; simpa using hN
  have HN := Lib.hid (show pc p.P kn ∈ T.N by rw [hkn]; exact hN)
  have HKn := Lib.hid hkn
  have HKd := Lib.hid hkd
  have HSs := Lib.hid hs
  clear hN
  have e1 : ¬ (s : Int) > 2 := by rw [hs]; omega
  have e2 : ((kd : Int) == (at' : Int)) = true := by rw [beq_iff_eq, hkd, he]
  clear hs2 he
  obtain ⟨W, hW⟩ : ∃ W, W = w.alloc (.cells #[.int .u8 (x0 : Nat), .int .u8 (x1 : Nat), .int .u8 (x2 : Nat), .int .u8 (x3 : Nat)] 49) := ⟨_, rfl⟩
  obtain ⟨xb, hxb⟩ : ∃ xb, xb = w.heap.size := ⟨_, rfl⟩
  have hbW : Below w.heap.size w W := by rw [hW]; exact below_alloc w _
  have ho : Own W xb 49 [.int .u8 (x0 : Nat), .int .u8 (x1 : Nat), .int .u8 (x2 : Nat), .int .u8 (x3 : Nat)] := by rw [hW, hxb]; exact heap_alloc_new w _
  have hM := h.below hbW
  obtain ⟨b, off, rfl, hc⟩ := hM.row.cells.resolve_left (by omega)
  have c7 := (hc at' hat).2
  obtain ⟨g0, g1, g2, g3, g4, g5, g6⟩ := hM.md.plan
  have g7 := hM.md.cAt
  have gn := hM.md.cNear (i := kn) (by omega)
  have gu := hM.md.cUp (i := kn) (by omega)
  rw [mdOf_near (by omega)] at gn
  rw [mdOf_up (by omega)] at gu
  have hcn := hM.row.le
  have x0c := ho.cell 0 (by simp)
  have x1c := ho.cell 1 (by simp)
  have x2c := ho.cell 2 (by simp)
  have x3c := ho.cell 3 (by simp)
  simp only [List.getD_cons_zero, List.getD_cons_succ] at x0c x1c x2c x3c
  obtain ⟨tr, htr⟩ : ∃ tr, tr = pt p.P at' := ⟨_, rfl⟩
  rw [← htr] at c7
  have HM := Lib.hid hM
  have HB := Lib.hid hbW
  have HTr : Hid (T.tr = tr) := Lib.hid (by rw [hI.tr, htr])
  have H0 := Lib.hid h
  have HLn := Lib.hid hlen
  have HWp := Lib.hid hap
  have HO := Lib.hid ho
  have HP := Lib.hid hp
  have HI := Lib.hid hI
  clear h hM hc hbW ho hp hI hkn hkd hs hlen hwh htr hap
  unfold actV
  go_enter Try.func10, Try.ntmps10
  go_upto_region 1 with (fail)
  show Code.wp _ _ _ _ (w.alloc (.cells #[.int .u8 (x0 : Nat), .int .u8 (x1 : Nat), .int .u8 (x2 : Nat), .int .u8 (x3 : Nat)] 49))
  rw [← hW, ← hxb]
  clear hW hxb
  go_quiet (fail)
  go_upto_region 2 with (fail)
  go_quiet (fail)
  go_upto_region 4 with (fail)
  go_quiet (fail)
  rw [hN2] at gn
  go_wp2
  go_ret2
  exact ⟨none, 0, rfl, NRow.nil _, HM.out.below (below_draw _ _), (Exc.of_below HB.out).drawN _, fun _ h => by cases h⟩
set_option maxRecDepth 100000 in
set_option maxHeartbeats 8000000 in
theorem do_hear_self {x : Nn} {p : Pn} {n m at' : Nat} {T : Tb} (hp : PF x p n m) (hI : Inv p at' T) (hat : at' < n) (mb : Nat) (a : Option Addr) (c : Nat) (a' : Option Addr) (c' : Nat) (hap : Apart mb a a') (x0 x1 x2 x3 : Nat) (hx0 : x0 ≤ 255) (hx1 : x1 ≤ 255) (hx2 : x2 ≤ 255) (hx3 : x3 ≤ 255) (w : World) (h : MW w mb a n c a' m c' p at' T) (hwh : x0 % 7 = 2) (hN : pc p.P (x1 % n) ∈ T.N) (hs2 : x3 % 4 ≤ 2) (ha : x2 % n ≠ at') (he : x2 % n = x1 % n) :
    Calls Try.prog 10 #[.pointer (some ⟨mb, 0, none⟩), actV x0 x1 x2 x3] w (DoOut mb a n c a' m c' p at' T [] 1 w) := by
  have hlen := hp.len
  have hn2 := hp.n2
  have hn6 := hp.n6
  obtain ⟨kn, hkn⟩ : ∃ k, k = x1 % n := ⟨_, rfl⟩
  obtain ⟨kd, hkd⟩ : ∃ k, k = x2 % n := ⟨_, rfl⟩
  obtain ⟨s, hs⟩ : ∃ k, k = x3 % 4 := ⟨_, rfl⟩
  have r1 : (x1 : Int).tmod (n : Int) = (kn : Int) := by rw [rem_nat, hkn]
  have r2 : (x2 : Int).tmod (n : Int) = (kd : Int) := by rw [rem_nat, hkd]
  have r3 : (x3 : Int).tmod 4 = (s : Int) := by rw [show (4 : Int) = ((4 : Nat) : Int) from rfl, rem_nat, hs]
  have r7 : (x0 : Int).tmod 7 = 2 := by rw [show (7 : Int) = ((7 : Nat) : Int) from rfl, rem_nat, hwh]; rfl
  have hnn : kn < n := by rw [hkn]; exact Nat.mod_lt _ (by omega)
  have hdn : kd < n := by rw [hkd]; exact Nat.mod_lt _ (by omega)
  have hs4 : s < 4 := by rw [hs]; exact Nat.mod_lt _ (by omega)
  have t1 : IntKind.i64.wrap (x1 : Int) = (x1 : Int) := IntWalk.i64_in _ (by omega)
  have t2 : IntKind.i64.wrap (x2 : Int) = (x2 : Int) := IntWalk.i64_in _ (by omega)
  have t4 : IntKind.i64.wrap (kn : Int) = (kn : Int) := IntWalk.i64_in _ (by omega)
  have t5 : IntKind.i64.wrap (kd : Int) = (kd : Int) := IntWalk.i64_in _ (by omega)
  have t6 : IntKind.u8.wrap (s : Int) = (s : Int) := IntWalk.u8_in _ (by omega)
  have q1 : ¬ (n : Int) = 0 := by omega
  have q2 : ((n : Int) == 0) = false := by simpa using q1
  have q3 : ¬ n = 0 := by omega
  have q4 : (n == 0) = false := by simpa using q3
  have i0 : (0 : Int) ≤ (at' : Int) := by omega
  have i1 : (at' : Int) < (n : Int) := by omega
  have n0 : (0 : Int) ≤ (kn : Int) := by omega
  have n1 : (kn : Int) < (n : Int) := by omega
  have n6 : (kn : Int) < 6 := by omega
  have d0 : (0 : Int) ≤ (kd : Int) := by omega
  have d1 : (kd : Int) < (n : Int) := by omega
  have d6 : (kd : Int) < 6 := by omega
  have hN2 : decide (pc p.P kn ∈ T.N) = true := by rw [hkn]; simpa using hN
  have HN := Lib.hid (show pc p.P kn ∈ T.N by rw [hkn]; exact hN)
  have HKn := Lib.hid hkn
  have HKd := Lib.hid hkd
  have HSs := Lib.hid hs
  clear hN
  have e1 : ¬ (s : Int) > 2 := by rw [hs]; omega
  have e2 : ((kd : Int) == (at' : Int)) = false := by rw [beq_eq_false_iff_ne, hkd]; omega
  have e3 : ((kd : Int) == (kn : Int)) = true := by rw [beq_iff_eq, hkd, hkn, he]
  clear hs2 he ha
  obtain ⟨W, hW⟩ : ∃ W, W = w.alloc (.cells #[.int .u8 (x0 : Nat), .int .u8 (x1 : Nat), .int .u8 (x2 : Nat), .int .u8 (x3 : Nat)] 49) := ⟨_, rfl⟩
  obtain ⟨xb, hxb⟩ : ∃ xb, xb = w.heap.size := ⟨_, rfl⟩
  have hbW : Below w.heap.size w W := by rw [hW]; exact below_alloc w _
  have ho : Own W xb 49 [.int .u8 (x0 : Nat), .int .u8 (x1 : Nat), .int .u8 (x2 : Nat), .int .u8 (x3 : Nat)] := by rw [hW, hxb]; exact heap_alloc_new w _
  have hM := h.below hbW
  obtain ⟨b, off, rfl, hc⟩ := hM.row.cells.resolve_left (by omega)
  have c7 := (hc at' hat).2
  obtain ⟨g0, g1, g2, g3, g4, g5, g6⟩ := hM.md.plan
  have g7 := hM.md.cAt
  have gn := hM.md.cNear (i := kn) (by omega)
  have gu := hM.md.cUp (i := kn) (by omega)
  rw [mdOf_near (by omega)] at gn
  rw [mdOf_up (by omega)] at gu
  have hcn := hM.row.le
  have x0c := ho.cell 0 (by simp)
  have x1c := ho.cell 1 (by simp)
  have x2c := ho.cell 2 (by simp)
  have x3c := ho.cell 3 (by simp)
  simp only [List.getD_cons_zero, List.getD_cons_succ] at x0c x1c x2c x3c
  obtain ⟨tr, htr⟩ : ∃ tr, tr = pt p.P at' := ⟨_, rfl⟩
  rw [← htr] at c7
  have HM := Lib.hid hM
  have HB := Lib.hid hbW
  have HTr : Hid (T.tr = tr) := Lib.hid (by rw [hI.tr, htr])
  have H0 := Lib.hid h
  have HLn := Lib.hid hlen
  have HWp := Lib.hid hap
  have HO := Lib.hid ho
  have HP := Lib.hid hp
  have HI := Lib.hid hI
  clear h hM hc hbW ho hp hI hkn hkd hs hlen hwh htr hap
  unfold actV
  go_enter Try.func10, Try.ntmps10
  go_upto_region 1 with (fail)
  show Code.wp _ _ _ _ (w.alloc (.cells #[.int .u8 (x0 : Nat), .int .u8 (x1 : Nat), .int .u8 (x2 : Nat), .int .u8 (x3 : Nat)] 49))
  rw [← hW, ← hxb]
  clear hW hxb
  go_quiet (fail)
  go_upto_region 2 with (fail)
  go_quiet (fail)
  go_upto_region 4 with (fail)
  go_quiet (fail)
  rw [hN2] at gn
  go_wp2
  go_ret2
  exact ⟨none, 0, rfl, NRow.nil _, HM.out.below (below_draw _ _), (Exc.of_below HB.out).drawN _, fun _ h => by cases h⟩
set_option maxRecDepth 100000 in
set_option maxHeartbeats 8000000 in
theorem do_hear_ok {x : Nn} {p : Pn} {n m at' : Nat} {T : Tb} (hp : PF x p n m) (hI : Inv p at' T) (hat : at' < n) (mb : Nat) (a : Option Addr) (c : Nat) (a' : Option Addr) (c' : Nat) (hap : Apart mb a a') (x0 x1 x2 x3 : Nat) (hx0 : x0 ≤ 255) (hx1 : x1 ≤ 255) (hx2 : x2 ≤ 255) (hx3 : x3 ≤ 255) (w : World) (h : MW w mb a n c a' m c' p at' T) (hwh : x0 % 7 = 2) (hN : pc p.P (x1 % n) ∈ T.N) (sv : Int) (hsv : sv = Int.ofNat (x3 % 4)) (hs2 : x3 % 4 ≤ 2) (ha : x2 % n ≠ at') (he : x2 % n ≠ x1 % n) :
    Calls Try.prog 10 #[.pointer (some ⟨mb, 0, none⟩), actV x0 x1 x2 x3] w (DoOut mb a n c a' m c' p at' (T.hear (pc p.P (x1 % n)) (pc p.P (x2 % n)) sv) [] 0 w) := by
  have hlen := hp.len
  have hn2 := hp.n2
  have hn6 := hp.n6
  obtain ⟨kn, hkn⟩ : ∃ k, k = x1 % n := ⟨_, rfl⟩
  obtain ⟨kd, hkd⟩ : ∃ k, k = x2 % n := ⟨_, rfl⟩
  obtain ⟨s, hs⟩ : ∃ k, k = x3 % 4 := ⟨_, rfl⟩
  have r1 : (x1 : Int).tmod (n : Int) = (kn : Int) := by rw [rem_nat, hkn]
  have r2 : (x2 : Int).tmod (n : Int) = (kd : Int) := by rw [rem_nat, hkd]
  have r3 : (x3 : Int).tmod 4 = (s : Int) := by rw [show (4 : Int) = ((4 : Nat) : Int) from rfl, rem_nat, hs]
  have r7 : (x0 : Int).tmod 7 = 2 := by rw [show (7 : Int) = ((7 : Nat) : Int) from rfl, rem_nat, hwh]; rfl
  have hnn : kn < n := by rw [hkn]; exact Nat.mod_lt _ (by omega)
  have hdn : kd < n := by rw [hkd]; exact Nat.mod_lt _ (by omega)
  have hs4 : s < 4 := by rw [hs]; exact Nat.mod_lt _ (by omega)
  have t1 : IntKind.i64.wrap (x1 : Int) = (x1 : Int) := IntWalk.i64_in _ (by omega)
  have t2 : IntKind.i64.wrap (x2 : Int) = (x2 : Int) := IntWalk.i64_in _ (by omega)
  have t4 : IntKind.i64.wrap (kn : Int) = (kn : Int) := IntWalk.i64_in _ (by omega)
  have t5 : IntKind.i64.wrap (kd : Int) = (kd : Int) := IntWalk.i64_in _ (by omega)
  have t6 : IntKind.u8.wrap (s : Int) = (s : Int) := IntWalk.u8_in _ (by omega)
  have q1 : ¬ (n : Int) = 0 := by omega
  have q2 : ((n : Int) == 0) = false := by simpa using q1
  have q3 : ¬ n = 0 := by omega
  have q4 : (n == 0) = false := by simpa using q3
  have i0 : (0 : Int) ≤ (at' : Int) := by omega
  have i1 : (at' : Int) < (n : Int) := by omega
  have n0 : (0 : Int) ≤ (kn : Int) := by omega
  have n1 : (kn : Int) < (n : Int) := by omega
  have n6 : (kn : Int) < 6 := by omega
  have d0 : (0 : Int) ≤ (kd : Int) := by omega
  have d1 : (kd : Int) < (n : Int) := by omega
  have d6 : (kd : Int) < 6 := by omega
  have hN2 : decide (pc p.P kn ∈ T.N) = true := by rw [hkn]; simpa using hN
  have HN := Lib.hid (show pc p.P kn ∈ T.N by rw [hkn]; exact hN)
  have HKn := Lib.hid hkn
  have HKd := Lib.hid hkd
  have HSs := Lib.hid hs
  clear hN
  have e1 : ¬ (s : Int) > 2 := by rw [hs]; omega
  have e2 : ((kd : Int) == (at' : Int)) = false := by rw [beq_eq_false_iff_ne, hkd]; omega
  have e3 : ((kd : Int) == (kn : Int)) = false := by rw [beq_eq_false_iff_ne, hkd, hkn]; omega
  have HSv : Hid (sv = (s : Int)) := Lib.hid (by rw [hsv, hs]; rfl)
  clear hs2 he ha hsv
  obtain ⟨W, hW⟩ : ∃ W, W = w.alloc (.cells #[.int .u8 (x0 : Nat), .int .u8 (x1 : Nat), .int .u8 (x2 : Nat), .int .u8 (x3 : Nat)] 49) := ⟨_, rfl⟩
  obtain ⟨xb, hxb⟩ : ∃ xb, xb = w.heap.size := ⟨_, rfl⟩
  have hbW : Below w.heap.size w W := by rw [hW]; exact below_alloc w _
  have ho : Own W xb 49 [.int .u8 (x0 : Nat), .int .u8 (x1 : Nat), .int .u8 (x2 : Nat), .int .u8 (x3 : Nat)] := by rw [hW, hxb]; exact heap_alloc_new w _
  have hM := h.below hbW
  obtain ⟨b, off, rfl, hc⟩ := hM.row.cells.resolve_left (by omega)
  have c7 := (hc at' hat).2
  obtain ⟨g0, g1, g2, g3, g4, g5, g6⟩ := hM.md.plan
  have g7 := hM.md.cAt
  have gn := hM.md.cNear (i := kn) (by omega)
  have gu := hM.md.cUp (i := kn) (by omega)
  rw [mdOf_near (by omega)] at gn
  rw [mdOf_up (by omega)] at gu
  have hcn := hM.row.le
  have x0c := ho.cell 0 (by simp)
  have x1c := ho.cell 1 (by simp)
  have x2c := ho.cell 2 (by simp)
  have x3c := ho.cell 3 (by simp)
  simp only [List.getD_cons_zero, List.getD_cons_succ] at x0c x1c x2c x3c
  obtain ⟨tr, htr⟩ : ∃ tr, tr = pt p.P at' := ⟨_, rfl⟩
  rw [← htr] at c7
  have HM := Lib.hid hM
  have HB := Lib.hid hbW
  have HTr : Hid (T.tr = tr) := Lib.hid (by rw [hI.tr, htr])
  have H0 := Lib.hid h
  have HLn := Lib.hid hlen
  have HWp := Lib.hid hap
  have HO := Lib.hid ho
  have HP := Lib.hid hp
  have HI := Lib.hid hI
  clear h hM hc hbW ho hp hI hkn hkd hs hlen hwh htr hap
  unfold actV
  go_enter Try.func10, Try.ntmps10
  go_upto_region 1 with (fail)
  show Code.wp _ _ _ _ (w.alloc (.cells #[.int .u8 (x0 : Nat), .int .u8 (x1 : Nat), .int .u8 (x2 : Nat), .int .u8 (x3 : Nat)] 49))
  rw [← hW, ← hxb]
  clear hW hxb
  go_quiet (fail)
  go_upto_region 2 with (fail)
  go_quiet (fail)
  go_upto_region 4 with (fail)
  go_quiet (fail)
  rw [hN2] at gn
  have ft := HM.out.md.frozen (20 + kn * 6 + kd)
  have ct := HM.out.md.cTold (i := kn) (j := kd) (by omega) (by omega)
  go_wp2
  go_ret2
  refine ⟨none, 0, rfl, NRow.nil _, ?_, Exc.setCell (S := fun q => q = mb) ((Exc.of_below HB.out).drawN _) _ (.inl rfl) _, fun _ h => by cases h⟩
  rw [← HKn.out, ← HKd.out, HSv.out]
  exact (HM.out.below (below_draw _ _)).hears HP.out HWp.out hnn hdn s
end Go.Proofs.Ytdjmopipmeonlaa
/- The model's do: Down of a neighbor. -/
namespace Go.Proofs.Ytdjmopipmeonlaa
set_option linter.unusedVariables false
open Go.RowKit Go.Maps

set_option maxRecDepth 100000 in
set_option maxHeartbeats 8000000 in
theorem do_down {x : Nn} {p : Pn} {n m at' : Nat} {T : Tb} (hp : PF x p n m) (hI : Inv p at' T) (hat : at' < n) (mb : Nat) (a : Option Addr) (c : Nat) (a' : Option Addr) (c' : Nat) (hap : Apart mb a a') (x0 x1 x2 x3 : Nat) (hx0 : x0 ≤ 255) (hx1 : x1 ≤ 255) (hx2 : x2 ≤ 255) (hx3 : x3 ≤ 255) (w : World) (h : MW w mb a n c a' m c' p at' T) (hwh : x0 % 7 = 1) (hN : pc p.P (x1 % n) ∈ T.N) :
    Calls Try.prog 10 #[.pointer (some ⟨mb, 0, none⟩), actV x0 x1 x2 x3] w (DoOut mb a n c a' m c' p at' (T.down (pc p.P (x1 % n))) [] 0 w) := by
  have hlen := hp.len
  have hn2 := hp.n2
  have hn6 := hp.n6
  obtain ⟨kn, hkn⟩ : ∃ k, k = x1 % n := ⟨_, rfl⟩
  obtain ⟨kd, hkd⟩ : ∃ k, k = x2 % n := ⟨_, rfl⟩
  obtain ⟨s, hs⟩ : ∃ k, k = x3 % 4 := ⟨_, rfl⟩
  have r1 : (x1 : Int).tmod (n : Int) = (kn : Int) := by rw [rem_nat, hkn]
  have r2 : (x2 : Int).tmod (n : Int) = (kd : Int) := by rw [rem_nat, hkd]
  have r3 : (x3 : Int).tmod 4 = (s : Int) := by rw [show (4 : Int) = ((4 : Nat) : Int) from rfl, rem_nat, hs]
  have r7 : (x0 : Int).tmod 7 = 1 := by rw [show (7 : Int) = ((7 : Nat) : Int) from rfl, rem_nat, hwh]; rfl
  have hnn : kn < n := by rw [hkn]; exact Nat.mod_lt _ (by omega)
  have hdn : kd < n := by rw [hkd]; exact Nat.mod_lt _ (by omega)
  have hs4 : s < 4 := by rw [hs]; exact Nat.mod_lt _ (by omega)
  have t1 : IntKind.i64.wrap (x1 : Int) = (x1 : Int) := IntWalk.i64_in _ (by omega)
  have t2 : IntKind.i64.wrap (x2 : Int) = (x2 : Int) := IntWalk.i64_in _ (by omega)
  have t4 : IntKind.i64.wrap (kn : Int) = (kn : Int) := IntWalk.i64_in _ (by omega)
  have t5 : IntKind.i64.wrap (kd : Int) = (kd : Int) := IntWalk.i64_in _ (by omega)
  have t6 : IntKind.u8.wrap (s : Int) = (s : Int) := IntWalk.u8_in _ (by omega)
  have q1 : ¬ (n : Int) = 0 := by omega
  have q2 : ((n : Int) == 0) = false := by simpa using q1
  have q3 : ¬ n = 0 := by omega
  have q4 : (n == 0) = false := by simpa using q3
  have i0 : (0 : Int) ≤ (at' : Int) := by omega
  have i1 : (at' : Int) < (n : Int) := by omega
  have n0 : (0 : Int) ≤ (kn : Int) := by omega
  have n1 : (kn : Int) < (n : Int) := by omega
  have n6 : (kn : Int) < 6 := by omega
  have d0 : (0 : Int) ≤ (kd : Int) := by omega
  have d1 : (kd : Int) < (n : Int) := by omega
  have d6 : (kd : Int) < 6 := by omega
  have hN2 : decide (pc p.P kn ∈ T.N) = true := by rw [hkn]; simpa using hN
  have HN := Lib.hid (show pc p.P kn ∈ T.N by rw [hkn]; exact hN)
  have HKn := Lib.hid hkn
  have HKd := Lib.hid hkd
  have HSs := Lib.hid hs
  clear hN
  obtain ⟨W, hW⟩ : ∃ W, W = w.alloc (.cells #[.int .u8 (x0 : Nat), .int .u8 (x1 : Nat), .int .u8 (x2 : Nat), .int .u8 (x3 : Nat)] 49) := ⟨_, rfl⟩
  obtain ⟨xb, hxb⟩ : ∃ xb, xb = w.heap.size := ⟨_, rfl⟩
  have hbW : Below w.heap.size w W := by rw [hW]; exact below_alloc w _
  have ho : Own W xb 49 [.int .u8 (x0 : Nat), .int .u8 (x1 : Nat), .int .u8 (x2 : Nat), .int .u8 (x3 : Nat)] := by rw [hW, hxb]; exact heap_alloc_new w _
  have hM := h.below hbW
  obtain ⟨b, off, rfl, hc⟩ := hM.row.cells.resolve_left (by omega)
  have c7 := (hc at' hat).2
  obtain ⟨g0, g1, g2, g3, g4, g5, g6⟩ := hM.md.plan
  have g7 := hM.md.cAt
  have gn := hM.md.cNear (i := kn) (by omega)
  have gu := hM.md.cUp (i := kn) (by omega)
  rw [mdOf_near (by omega)] at gn
  rw [mdOf_up (by omega)] at gu
  have hcn := hM.row.le
  have x0c := ho.cell 0 (by simp)
  have x1c := ho.cell 1 (by simp)
  have x2c := ho.cell 2 (by simp)
  have x3c := ho.cell 3 (by simp)
  simp only [List.getD_cons_zero, List.getD_cons_succ] at x0c x1c x2c x3c
  obtain ⟨tr, htr⟩ : ∃ tr, tr = pt p.P at' := ⟨_, rfl⟩
  rw [← htr] at c7
  have HM := Lib.hid hM
  have HB := Lib.hid hbW
  have HTr : Hid (T.tr = tr) := Lib.hid (by rw [hI.tr, htr])
  have H0 := Lib.hid h
  have HLn := Lib.hid hlen
  have HWp := Lib.hid hap
  have HO := Lib.hid ho
  have HP := Lib.hid hp
  have HI := Lib.hid hI
  clear h hM hc hbW ho hp hI hkn hkd hs hlen hwh htr hap
  unfold actV
  go_enter Try.func10, Try.ntmps10
  go_upto_region 1 with (fail)
  show Code.wp _ _ _ _ (w.alloc (.cells #[.int .u8 (x0 : Nat), .int .u8 (x1 : Nat), .int .u8 (x2 : Nat), .int .u8 (x3 : Nat)] 49))
  rw [← hW, ← hxb]
  clear hW hxb
  go_quiet (fail)
  go_upto_region 2 with (fail)
  go_quiet (fail)
  go_upto_region 4 with (fail)
  go_quiet (fail)
  rw [hN2] at gn
  go_upto_region 14 with (fail)
  generalize hW3 : W.drewN _ = W3
  have hb3 : Below W.heap.size W W3 := by rw [← hW3]; exact below_draw W _
  have hM3 := HM.out.below hb3
  have ho3 := HO.out.below hb3 HO.out.lt
  have HM3 := Lib.hid hM3
  have HX3 : Hid (Exc (fun q => q = mb) w W3) := Lib.hid (by rw [← hW3]; exact (Exc.of_below HB.out).drawN _)
  clear g0 g1 g2 g3 g4 g5 g6 g7 gn gu x0c x1c x2c x3c hW3 hb3 c7
  obtain ⟨g0, g1, g2, g3, g4, g5, g6⟩ := hM3.md.plan
  have g7 := hM3.md.cAt
  have x0c := ho3.cell 0 (by simp)
  have x1c := ho3.cell 1 (by simp)
  have x2c := ho3.cell 2 (by simp)
  have x3c := ho3.cell 3 (by simp)
  simp only [List.getD_cons_zero, List.getD_cons_succ] at x0c x1c x2c x3c
  have gu := hM3.md.cUp (i := kn) (by omega)
  have fu := hM3.md.frozen (8 + kn)
  have t0 := hM3.md.cTold (i := kn) (j := 0) (by omega) (by omega)
  have t1 := hM3.md.cTold (i := kn) (j := 1) (by omega) (by omega)
  have t2 := hM3.md.cTold (i := kn) (j := 2) (by omega) (by omega)
  have t3 := hM3.md.cTold (i := kn) (j := 3) (by omega) (by omega)
  have t4 := hM3.md.cTold (i := kn) (j := 4) (by omega) (by omega)
  have t5 := hM3.md.cTold (i := kn) (j := 5) (by omega) (by omega)
  have ft := fun j => hM3.md.frozen (20 + kn * 6 + j)
  have s0 := hM3.md.cSaid (i := kn) (j := 0) (by omega) (by omega)
  have s1 := hM3.md.cSaid (i := kn) (j := 1) (by omega) (by omega)
  have s2 := hM3.md.cSaid (i := kn) (j := 2) (by omega) (by omega)
  have s3 := hM3.md.cSaid (i := kn) (j := 3) (by omega) (by omega)
  have s4 := hM3.md.cSaid (i := kn) (j := 4) (by omega) (by omega)
  have s5 := hM3.md.cSaid (i := kn) (j := 5) (by omega) (by omega)
  have fs := fun j => hM3.md.frozen (56 + kn * 6 + j)
  simp only [Nat.add_zero] at t0 s0
  have ft0 := ft 0
  have fs0 := fs 0
  simp only [Nat.add_zero] at ft0 fs0
  clear hM3 ho3
  go_still_tail 9, (by kernel_rfl)
  repeat still_step
  change wpList _ _ _ _ _ W3.drew
  go_wp2
  go_ret2
  refine ⟨none, 0, rfl, NRow.nil _, ?_, ?_, fun _ h => by cases h⟩
  · rw [← HKn.out]
    exact HM3.out.downs HP.out HWp.out hnn HI.out _ (Exc.downs (Exc.refl _ _)) (HM3.out.md.downs (by omega))
  · exact Exc.downs HX3.out
end Go.Proofs.Ytdjmopipmeonlaa
