import Derived.Test.YtdjmopipmeonlaaTpInv
import Derived.Test.YtdjmopipmeonlaaTfAns
import Derived.Deep.RegionHeld3
import Derived.Deep.Cut
import Derived.BigRegion
/- play: Up, Down, Hear. -/
namespace Go.Proofs.Ytdjmopipmeonlaa
set_option linter.unusedVariables false
open Go.RowKit Go.Maps

/-- What play returns, and the table behind it. -/
def PlOut (y : Tl) (T : Tb) (X : List (Int × Int × Int)) (E : Int) (w : World) (e : Ending) (w' : World) : Prop :=
  ∃ a, e = .returned (.tuple #[.slice a X.length X.length, .int .i64 E]) ∧ NRow w' a X.length X.length X ∧ TbAt w' y T ∧ Exc (Mut y) w w'
set_option maxRecDepth 100000 in
set_option maxHeartbeats 8000000 in
theorem play_up {x : Nn} {p : Pn} {n m : Nat} {y : Tl} {T : Tb} (hp : PF x p n m) (a : Option Addr) (c : Nat) (a' : Option Addr) (c' : Nat) (x0 x1 x2 x3 : Nat) (hx0 : x0 ≤ 255) (hx1 : x1 ≤ 255) (hx2 : x2 ≤ 255) (hx3 : x3 ≤ 255) (w : World) (hrow : PRow w a n c p.P) (h : TbAt w y T) (hwh : x0 % 7 = 0) (T' : Tb) (E : Int) (hC : ∀ V, TbAt V y T → Calls Try.prog 24 #[.pointer (some ⟨y.tb, 0, none⟩), .int .u16 (pc p.P (x1 % n))] V (MOut y T' E V)) :
    Calls Try.prog 11 #[.pointer (some ⟨y.tb, 0, none⟩), planV a n c a' m c' p, actV x0 x1 x2 x3] w (PlOut y T' [] E w) := by
  have hlen := hp.len
  have hn2 := hp.n2
  have hn6 := hp.n6
  obtain ⟨kn, hkn⟩ : ∃ k, k = x1 % n := ⟨_, rfl⟩
  obtain ⟨kd, hkd⟩ : ∃ k, k = x2 % n := ⟨_, rfl⟩
  obtain ⟨s, hs⟩ : ∃ k, k = x3 % 4 := ⟨_, rfl⟩
  have r1 : (x1 : Int).tmod (n : Int) = (kn : Int) := by rw [rem_nat, hkn]
  have r2 : (x2 : Int).tmod (n : Int) = (kd : Int) := by rw [rem_nat, hkd]
  have r3 : (x3 : Int).tmod 4 = (s : Int) := by rw [show (4 : Int) = ((4 : Nat) : Int) from rfl, rem_nat, hs]
  have r7 : (x0 : Int).tmod 7 = 0 := by rw [show (7 : Int) = ((7 : Nat) : Int) from rfl, rem_nat, hwh]; rfl
  have hnn : kn < n := by rw [hkn]; exact Nat.mod_lt _ (by omega)
  have hdn : kd < n := by rw [hkd]; exact Nat.mod_lt _ (by omega)
  have hs4 : s < 4 := by rw [hs]; exact Nat.mod_lt _ (by omega)
  have t1 : IntKind.i64.wrap (x1 : Int) = (x1 : Int) := IntWalk.i64_in _ (by omega)
  have t2 : IntKind.i64.wrap (x2 : Int) = (x2 : Int) := IntWalk.i64_in _ (by omega)
  have t4 : IntKind.i64.wrap (kn : Int) = (kn : Int) := IntWalk.i64_in _ (by omega)
  have t5 : IntKind.i64.wrap (kd : Int) = (kd : Int) := IntWalk.i64_in _ (by omega)
  have t6 : IntKind.u8.wrap (s : Int) = (s : Int) := IntWalk.u8_in _ (by omega)
  have q1 : ¬ (n : Int) = 0 := by omega
  have q2 : ((n : Int) == 0) = false := by simpa using q1
  have q3 : ¬ n = 0 := by omega
  have q4 : (n == 0) = false := by simpa using q3
  have n0 : (0 : Int) ≤ (kn : Int) := by omega
  have n1 : (kn : Int) < (n : Int) := by omega
  have d0 : (0 : Int) ≤ (kd : Int) := by omega
  have d1 : (kd : Int) < (n : Int) := by omega
  obtain ⟨un, hun⟩ : ∃ u, u = pc p.P kn := ⟨_, rfl⟩
  obtain ⟨ud, hud⟩ : ∃ u, u = pc p.P kd := ⟨_, rfl⟩
  have huw : (Lit.int .u16 un).wf = true := by
    have h1 := hp.code hnn
    rw [← hun] at h1
    simp [Lit.wf, IntKind.min, IntKind.max, IntKind.bits, IntKind.signed]
    omega
  have hdw : (Lit.int .u16 ud).wf = true := by
    have h1 := hp.code hdn
    rw [← hud] at h1
    simp [Lit.wf, IntKind.min, IntKind.max, IntKind.bits, IntKind.signed]
    omega
  have HC : Hid (∀ V, TbAt V y T → Calls Try.prog 24 #[.pointer (some ⟨y.tb, 0, none⟩), .int .u16 un] V (MOut y T' E V)) := Lib.hid (by intro V hV; have h9 := hC V hV; simp only [← hkn, ← hun] at h9; exact h9)
  clear hC
  obtain ⟨W, hW⟩ : ∃ W, W = (w.alloc (.cells #[.slice a n c, .slice a' m c', .int .i64 p.rate, .int .i64 p.room, .int .i64 p.m0, .int .i64 p.m1, .int .i64 p.m2] 33)).alloc (.cells #[.int .u8 (x0 : Nat), .int .u8 (x1 : Nat), .int .u8 (x2 : Nat), .int .u8 (x3 : Nat)] 49) := ⟨_, rfl⟩
  obtain ⟨pb, hpb⟩ : ∃ pb, pb = w.heap.size := ⟨_, rfl⟩
  have hbW : Below w.heap.size w W := by rw [hW]; exact (below_alloc w _).alloc (by simp) _
  have ho1 : Own W pb 33 [.slice a n c, .slice a' m c', .int .i64 p.rate, .int .i64 p.room, .int .i64 p.m0, .int .i64 p.m1, .int .i64 p.m2] := by
    rw [hW, hpb]; exact Own.below (heap_alloc_new w _) (below_alloc _ _) (Own.lt (heap_alloc_new w _))
  have ho2 : Own W (pb + 1) 49 [.int .u8 (x0 : Nat), .int .u8 (x1 : Nat), .int .u8 (x2 : Nat), .int .u8 (x3 : Nat)] := by
    have h9 := heap_alloc_new (w.alloc (.cells #[.slice a n c, .slice a' m c', .int .i64 p.rate, .int .i64 p.room, .int .i64 p.m0, .int .i64 p.m1, .int .i64 p.m2] 33)) (.cells #[.int .u8 (x0 : Nat), .int .u8 (x1 : Nat), .int .u8 (x2 : Nat), .int .u8 (x3 : Nat)] 49)
    rw [hW, hpb]; rw [size_alloc1] at h9; exact h9
  have hA := h.below hbW
  have hrow2 := hrow.later hbW
  obtain ⟨b, off, rfl, hc⟩ := hrow2.cells.resolve_left (by omega)
  have cn := (hc kn hnn).1
  have cd := (hc kd hdn).1
  rw [← hun] at cn
  rw [← hud] at cd
  have hcn := hrow.le
  have p0 := ho1.cell 0 (by simp)
  have x0c := ho2.cell 0 (by simp)
  have x1c := ho2.cell 1 (by simp)
  have x2c := ho2.cell 2 (by simp)
  have x3c := ho2.cell 3 (by simp)
  simp only [List.getD_cons_zero, List.getD_cons_succ] at p0 x0c x1c x2c x3c
  have HA := Lib.hid hA
  have HB := Lib.hid hbW
  have HKn := Lib.hid hkn
  have HKd := Lib.hid hkd
  have HSs := Lib.hid hs
  have HUn := Lib.hid hun
  have HUd := Lib.hid hud
  have HUw := Lib.hid huw
  have HDw := Lib.hid hdw
  have hsW : W.heap.size = pb + 2 := by rw [hW, hpb]; simp
  have hl1 : pb < W.heap.size := by omega
  have hl2 : pb + 1 < W.heap.size := by omega
  have hl3 : b < W.heap.size := World.block_lt_of_cell? _ _ cn
  obtain ⟨xb, hxb⟩ : ∃ xb, xb = pb + 1 := ⟨_, rfl⟩
  rw [← hxb] at ho2 hl2
  rw [← hxb] at x0c x1c x2c x3c
  have HO := Lib.hid ho2
  have hl4 : ¬ pb = W.heap.size := by omega
  have hl5 : ¬ xb = W.heap.size := by omega
  have hl6 : ¬ b = W.heap.size := by omega
  clear hsW
  clear h hA hc hbW ho1 ho2 hp hkn hkd hs hlen hwh hrow hrow2 hun hud huw hdw
  unfold actV planV
  go_enter Try.func11, Try.ntmps11
  go_upto_region 1 with (fail)
  show Code.wp _ _ _ _ ((w.alloc (.cells #[.slice (some ⟨b, off, none⟩) n c, .slice a' m c', .int .i64 p.rate, .int .i64 p.room, .int .i64 p.m0, .int .i64 p.m1, .int .i64 p.m2] 33)).alloc (.cells #[.int .u8 (x0 : Nat), .int .u8 (x1 : Nat), .int .u8 (x2 : Nat), .int .u8 (x3 : Nat)] 49))
  rw [← hW, ← hpb, ← hxb]
  clear hW hpb hxb
  go_quiet (fail)
  go_upto_region 2 with (fail)
  have hba : ∀ q o, Below W.heap.size W ((W.drewN q).alloc o) := fun q o => (below_draw W q).alloc (below_draw W q).size o
  have m0 : ∀ q o, ((W.drewN q).alloc o).cell? ⟨pb, 0, none⟩ = some (.slice (some ⟨b, off, none⟩) n c) := fun q o => ((hba q o).cell (p := ⟨pb, 0, none⟩) hl1).trans p0
  have m2 : ∀ q o, ((W.drewN q).alloc o).cell? ⟨xb, 2, none⟩ = some (.int .u8 (x2 : Nat)) := fun q o => ((hba q o).cell (p := ⟨xb, 2, none⟩) hl2).trans x2c
  have m3 : ∀ q o, ((W.drewN q).alloc o).cell? ⟨xb, 3, none⟩ = some (.int .u8 (x3 : Nat)) := fun q o => ((hba q o).cell (p := ⟨xb, 3, none⟩) hl2).trans x3c
  have m4 : ∀ q o, ((W.drewN q).alloc o).cell? ⟨b, off + kd * 2, none⟩ = some (.int .u16 ud) := fun q o => ((hba q o).cell (p := ⟨b, off + kd * 2, none⟩) hl3).trans cd
  have hon : ∀ q, Own ((W.drewN q).alloc (.cells #[.int .u16 0, .int .u16 0, .int .u8 0] 54)) W.heap.size 54 [.int .u16 0, .int .u16 0, .int .u8 0] := fun q => heap_alloc_new (W.drewN q) _
  have z0 : ∀ q, ((W.drewN q).alloc (.cells #[.int .u16 0, .int .u16 0, .int .u8 0] 54)).cell? ⟨W.heap.size, 0, none⟩ = some (.int .u16 0) := fun q => (hon q).cell 0 (by simp)
  have z1 : ∀ q, ((W.drewN q).alloc (.cells #[.int .u16 0, .int .u16 0, .int .u8 0] 54)).cell? ⟨W.heap.size, 1, none⟩ = some (.int .u16 0) := fun q => (hon q).cell 1 (by simp)
  have z2 : ∀ q, ((W.drewN q).alloc (.cells #[.int .u16 0, .int .u16 0, .int .u8 0] 54)).cell? ⟨W.heap.size, 2, none⟩ = some (.int .u8 0) := fun q => (hon q).cell 2 (by simp)
  have zf : ∀ q i, ((W.drewN q).alloc (.cells #[.int .u16 0, .int .u16 0, .int .u8 0] 54)).frozen? ⟨W.heap.size, i, none⟩ = false := fun q i => (hon q).frozen i
  clear hba hon
  go_region
  clear m0 m2 m3 m4 z0 z1 z2 zf
  go_upto_region 3 with (fail)
  generalize hW4 : World.setCell (World.setCell (World.setCell _ _ _) _ _) _ _ = W4
  have ho4 : Own W4 W.heap.size 54 [.int .u16 un, .int .u16 ud, .int .u8 s] := by
    rw [← hW4]
    exact note_new (W.drewN _) un ud s
  have hb4 : Below W.heap.size W W4 := by rw [← hW4]; exact ((((below_draw W _).alloc (below_draw W _).size _).setCell (Nat.le_refl _) _).setCell (Nat.le_refl _) _).setCell (Nat.le_refl _) _
  have ho5 := HO.out.below hb4 HO.out.lt
  have hA4 := HA.out.below hb4
  have HA4 := Lib.hid hA4
  have HB4 : Hid (Below w.heap.size w W4) := Lib.hid (HB.out.trans (hb4.mono HB.out.size))
  clear hW4 p0 x0c x1c x2c x3c cn cd hl1 hl2 hl3 hl4 hl5 hl6 hb4 r1 r2 r3 t1 t2 t4 t5 t6 q1 q2 q3 q4 n0 n1 d0 d1 hA4
  have x0c := ho5.cell 0 (by simp)
  have z0 := ho4.cell 0 (by simp)
  have z1 := ho4.cell 1 (by simp)
  have z2 := ho4.cell 2 (by simp)
  simp only [List.getD_cons_zero, List.getD_cons_succ] at x0c z0 z1 z2
  clear ho4 ho5
  obtain ⟨nb, hnb⟩ : ∃ nb, nb = W.heap.size := ⟨_, rfl⟩
  simp only [← hnb] at z0 z1 z2 ⊢
  clear hnb
  go_wp2_with fail
  with_reducible refine (HC.out W4 HA4.out).mono ?_
  rintro e w5 ⟨rfl, hR, hx⟩
  have HR := Lib.hid hR
  have HX := Lib.hid hx
  clear hR hx x0c z0 z1 z2
  go_wp2
  go_ret2
  exact ⟨none, rfl, NRow.nil _, HR.out, (Exc.of_below (S := Mut y) HB4.out).trans HX.out (fun _ _ h => h)⟩
set_option maxRecDepth 100000 in
set_option maxHeartbeats 8000000 in
theorem play_down {x : Nn} {p : Pn} {n m : Nat} {y : Tl} {T : Tb} (hp : PF x p n m) (a : Option Addr) (c : Nat) (a' : Option Addr) (c' : Nat) (x0 x1 x2 x3 : Nat) (hx0 : x0 ≤ 255) (hx1 : x1 ≤ 255) (hx2 : x2 ≤ 255) (hx3 : x3 ≤ 255) (w : World) (hrow : PRow w a n c p.P) (h : TbAt w y T) (hwh : x0 % 7 = 1) (T' : Tb) (E : Int) (hC : ∀ V, TbAt V y T → Calls Try.prog 25 #[.pointer (some ⟨y.tb, 0, none⟩), .int .u16 (pc p.P (x1 % n))] V (MOut y T' E V)) :
    Calls Try.prog 11 #[.pointer (some ⟨y.tb, 0, none⟩), planV a n c a' m c' p, actV x0 x1 x2 x3] w (PlOut y T' [] E w) := by
  have hlen := hp.len
  have hn2 := hp.n2
  have hn6 := hp.n6
  obtain ⟨kn, hkn⟩ : ∃ k, k = x1 % n := ⟨_, rfl⟩
  obtain ⟨kd, hkd⟩ : ∃ k, k = x2 % n := ⟨_, rfl⟩
  obtain ⟨s, hs⟩ : ∃ k, k = x3 % 4 := ⟨_, rfl⟩
  have r1 : (x1 : Int).tmod (n : Int) = (kn : Int) := by rw [rem_nat, hkn]
  have r2 : (x2 : Int).tmod (n : Int) = (kd : Int) := by rw [rem_nat, hkd]
  have r3 : (x3 : Int).tmod 4 = (s : Int) := by rw [show (4 : Int) = ((4 : Nat) : Int) from rfl, rem_nat, hs]
  have r7 : (x0 : Int).tmod 7 = 1 := by rw [show (7 : Int) = ((7 : Nat) : Int) from rfl, rem_nat, hwh]; rfl
  have hnn : kn < n := by rw [hkn]; exact Nat.mod_lt _ (by omega)
  have hdn : kd < n := by rw [hkd]; exact Nat.mod_lt _ (by omega)
  have hs4 : s < 4 := by rw [hs]; exact Nat.mod_lt _ (by omega)
  have t1 : IntKind.i64.wrap (x1 : Int) = (x1 : Int) := IntWalk.i64_in _ (by omega)
  have t2 : IntKind.i64.wrap (x2 : Int) = (x2 : Int) := IntWalk.i64_in _ (by omega)
  have t4 : IntKind.i64.wrap (kn : Int) = (kn : Int) := IntWalk.i64_in _ (by omega)
  have t5 : IntKind.i64.wrap (kd : Int) = (kd : Int) := IntWalk.i64_in _ (by omega)
  have t6 : IntKind.u8.wrap (s : Int) = (s : Int) := IntWalk.u8_in _ (by omega)
  have q1 : ¬ (n : Int) = 0 := by omega
  have q2 : ((n : Int) == 0) = false := by simpa using q1
  have q3 : ¬ n = 0 := by omega
  have q4 : (n == 0) = false := by simpa using q3
  have n0 : (0 : Int) ≤ (kn : Int) := by omega
  have n1 : (kn : Int) < (n : Int) := by omega
  have d0 : (0 : Int) ≤ (kd : Int) := by omega
  have d1 : (kd : Int) < (n : Int) := by omega
  obtain ⟨un, hun⟩ : ∃ u, u = pc p.P kn := ⟨_, rfl⟩
  obtain ⟨ud, hud⟩ : ∃ u, u = pc p.P kd := ⟨_, rfl⟩
  have huw : (Lit.int .u16 un).wf = true := by
    have h1 := hp.code hnn
    rw [← hun] at h1
    simp [Lit.wf, IntKind.min, IntKind.max, IntKind.bits, IntKind.signed]
    omega
  have hdw : (Lit.int .u16 ud).wf = true := by
    have h1 := hp.code hdn
    rw [← hud] at h1
    simp [Lit.wf, IntKind.min, IntKind.max, IntKind.bits, IntKind.signed]
    omega
  have HC : Hid (∀ V, TbAt V y T → Calls Try.prog 25 #[.pointer (some ⟨y.tb, 0, none⟩), .int .u16 un] V (MOut y T' E V)) := Lib.hid (by intro V hV; have h9 := hC V hV; simp only [← hkn, ← hun] at h9; exact h9)
  clear hC
  obtain ⟨W, hW⟩ : ∃ W, W = (w.alloc (.cells #[.slice a n c, .slice a' m c', .int .i64 p.rate, .int .i64 p.room, .int .i64 p.m0, .int .i64 p.m1, .int .i64 p.m2] 33)).alloc (.cells #[.int .u8 (x0 : Nat), .int .u8 (x1 : Nat), .int .u8 (x2 : Nat), .int .u8 (x3 : Nat)] 49) := ⟨_, rfl⟩
  obtain ⟨pb, hpb⟩ : ∃ pb, pb = w.heap.size := ⟨_, rfl⟩
  have hbW : Below w.heap.size w W := by rw [hW]; exact (below_alloc w _).alloc (by simp) _
  have ho1 : Own W pb 33 [.slice a n c, .slice a' m c', .int .i64 p.rate, .int .i64 p.room, .int .i64 p.m0, .int .i64 p.m1, .int .i64 p.m2] := by
    rw [hW, hpb]; exact Own.below (heap_alloc_new w _) (below_alloc _ _) (Own.lt (heap_alloc_new w _))
  have ho2 : Own W (pb + 1) 49 [.int .u8 (x0 : Nat), .int .u8 (x1 : Nat), .int .u8 (x2 : Nat), .int .u8 (x3 : Nat)] := by
    have h9 := heap_alloc_new (w.alloc (.cells #[.slice a n c, .slice a' m c', .int .i64 p.rate, .int .i64 p.room, .int .i64 p.m0, .int .i64 p.m1, .int .i64 p.m2] 33)) (.cells #[.int .u8 (x0 : Nat), .int .u8 (x1 : Nat), .int .u8 (x2 : Nat), .int .u8 (x3 : Nat)] 49)
    rw [hW, hpb]; rw [size_alloc1] at h9; exact h9
  have hA := h.below hbW
  have hrow2 := hrow.later hbW
  obtain ⟨b, off, rfl, hc⟩ := hrow2.cells.resolve_left (by omega)
  have cn := (hc kn hnn).1
  have cd := (hc kd hdn).1
  rw [← hun] at cn
  rw [← hud] at cd
  have hcn := hrow.le
  have p0 := ho1.cell 0 (by simp)
  have x0c := ho2.cell 0 (by simp)
  have x1c := ho2.cell 1 (by simp)
  have x2c := ho2.cell 2 (by simp)
  have x3c := ho2.cell 3 (by simp)
  simp only [List.getD_cons_zero, List.getD_cons_succ] at p0 x0c x1c x2c x3c
  have HA := Lib.hid hA
  have HB := Lib.hid hbW
  have HKn := Lib.hid hkn
  have HKd := Lib.hid hkd
  have HSs := Lib.hid hs
  have HUn := Lib.hid hun
  have HUd := Lib.hid hud
  have HUw := Lib.hid huw
  have HDw := Lib.hid hdw
  have hsW : W.heap.size = pb + 2 := by rw [hW, hpb]; simp
  have hl1 : pb < W.heap.size := by omega
  have hl2 : pb + 1 < W.heap.size := by omega
  have hl3 : b < W.heap.size := World.block_lt_of_cell? _ _ cn
  obtain ⟨xb, hxb⟩ : ∃ xb, xb = pb + 1 := ⟨_, rfl⟩
  rw [← hxb] at ho2 hl2
  rw [← hxb] at x0c x1c x2c x3c
  have HO := Lib.hid ho2
  have hl4 : ¬ pb = W.heap.size := by omega
  have hl5 : ¬ xb = W.heap.size := by omega
  have hl6 : ¬ b = W.heap.size := by omega
  clear hsW
  clear h hA hc hbW ho1 ho2 hp hkn hkd hs hlen hwh hrow hrow2 hun hud huw hdw
  unfold actV planV
  go_enter Try.func11, Try.ntmps11
  go_upto_region 1 with (fail)
  show Code.wp _ _ _ _ ((w.alloc (.cells #[.slice (some ⟨b, off, none⟩) n c, .slice a' m c', .int .i64 p.rate, .int .i64 p.room, .int .i64 p.m0, .int .i64 p.m1, .int .i64 p.m2] 33)).alloc (.cells #[.int .u8 (x0 : Nat), .int .u8 (x1 : Nat), .int .u8 (x2 : Nat), .int .u8 (x3 : Nat)] 49))
  rw [← hW, ← hpb, ← hxb]
  clear hW hpb hxb
  go_quiet (fail)
  go_upto_region 2 with (fail)
  have hba : ∀ q o, Below W.heap.size W ((W.drewN q).alloc o) := fun q o => (below_draw W q).alloc (below_draw W q).size o
  have m0 : ∀ q o, ((W.drewN q).alloc o).cell? ⟨pb, 0, none⟩ = some (.slice (some ⟨b, off, none⟩) n c) := fun q o => ((hba q o).cell (p := ⟨pb, 0, none⟩) hl1).trans p0
  have m2 : ∀ q o, ((W.drewN q).alloc o).cell? ⟨xb, 2, none⟩ = some (.int .u8 (x2 : Nat)) := fun q o => ((hba q o).cell (p := ⟨xb, 2, none⟩) hl2).trans x2c
  have m3 : ∀ q o, ((W.drewN q).alloc o).cell? ⟨xb, 3, none⟩ = some (.int .u8 (x3 : Nat)) := fun q o => ((hba q o).cell (p := ⟨xb, 3, none⟩) hl2).trans x3c
  have m4 : ∀ q o, ((W.drewN q).alloc o).cell? ⟨b, off + kd * 2, none⟩ = some (.int .u16 ud) := fun q o => ((hba q o).cell (p := ⟨b, off + kd * 2, none⟩) hl3).trans cd
  have hon : ∀ q, Own ((W.drewN q).alloc (.cells #[.int .u16 0, .int .u16 0, .int .u8 0] 54)) W.heap.size 54 [.int .u16 0, .int .u16 0, .int .u8 0] := fun q => heap_alloc_new (W.drewN q) _
  have z0 : ∀ q, ((W.drewN q).alloc (.cells #[.int .u16 0, .int .u16 0, .int .u8 0] 54)).cell? ⟨W.heap.size, 0, none⟩ = some (.int .u16 0) := fun q => (hon q).cell 0 (by simp)
  have z1 : ∀ q, ((W.drewN q).alloc (.cells #[.int .u16 0, .int .u16 0, .int .u8 0] 54)).cell? ⟨W.heap.size, 1, none⟩ = some (.int .u16 0) := fun q => (hon q).cell 1 (by simp)
  have z2 : ∀ q, ((W.drewN q).alloc (.cells #[.int .u16 0, .int .u16 0, .int .u8 0] 54)).cell? ⟨W.heap.size, 2, none⟩ = some (.int .u8 0) := fun q => (hon q).cell 2 (by simp)
  have zf : ∀ q i, ((W.drewN q).alloc (.cells #[.int .u16 0, .int .u16 0, .int .u8 0] 54)).frozen? ⟨W.heap.size, i, none⟩ = false := fun q i => (hon q).frozen i
  clear hba hon
  go_region
  clear m0 m2 m3 m4 z0 z1 z2 zf
  go_upto_region 3 with (fail)
  generalize hW4 : World.setCell (World.setCell (World.setCell _ _ _) _ _) _ _ = W4
  have ho4 : Own W4 W.heap.size 54 [.int .u16 un, .int .u16 ud, .int .u8 s] := by
    rw [← hW4]
    exact note_new (W.drewN _) un ud s
  have hb4 : Below W.heap.size W W4 := by rw [← hW4]; exact ((((below_draw W _).alloc (below_draw W _).size _).setCell (Nat.le_refl _) _).setCell (Nat.le_refl _) _).setCell (Nat.le_refl _) _
  have ho5 := HO.out.below hb4 HO.out.lt
  have hA4 := HA.out.below hb4
  have HA4 := Lib.hid hA4
  have HB4 : Hid (Below w.heap.size w W4) := Lib.hid (HB.out.trans (hb4.mono HB.out.size))
  clear hW4 p0 x0c x1c x2c x3c cn cd hl1 hl2 hl3 hl4 hl5 hl6 hb4 r1 r2 r3 t1 t2 t4 t5 t6 q1 q2 q3 q4 n0 n1 d0 d1 hA4
  have x0c := ho5.cell 0 (by simp)
  have z0 := ho4.cell 0 (by simp)
  have z1 := ho4.cell 1 (by simp)
  have z2 := ho4.cell 2 (by simp)
  simp only [List.getD_cons_zero, List.getD_cons_succ] at x0c z0 z1 z2
  clear ho4 ho5
  obtain ⟨nb, hnb⟩ : ∃ nb, nb = W.heap.size := ⟨_, rfl⟩
  simp only [← hnb] at z0 z1 z2 ⊢
  clear hnb
  go_wp2_with fail
  with_reducible refine (HC.out W4 HA4.out).mono ?_
  rintro e w5 ⟨rfl, hR, hx⟩
  have HR := Lib.hid hR
  have HX := Lib.hid hx
  clear hR hx x0c z0 z1 z2
  go_wp2
  go_ret2
  exact ⟨none, rfl, NRow.nil _, HR.out, (Exc.of_below (S := Mut y) HB4.out).trans HX.out (fun _ _ h => h)⟩
set_option maxRecDepth 100000 in
set_option maxHeartbeats 8000000 in
theorem play_hear {x : Nn} {p : Pn} {n m : Nat} {y : Tl} {T : Tb} (hp : PF x p n m) (a : Option Addr) (c : Nat) (a' : Option Addr) (c' : Nat) (x0 x1 x2 x3 : Nat) (hx0 : x0 ≤ 255) (hx1 : x1 ≤ 255) (hx2 : x2 ≤ 255) (hx3 : x3 ≤ 255) (w : World) (hrow : PRow w a n c p.P) (h : TbAt w y T) (hwh : x0 % 7 = 2) (T' : Tb) (E : Int) (hC : ∀ V, TbAt V y T → Calls Try.prog 26 #[.pointer (some ⟨y.tb, 0, none⟩), noteV (pc p.P (x1 % n)) (pc p.P (x2 % n)) (Int.ofNat (x3 % 4))] V (MOut y T' E V)) :
    Calls Try.prog 11 #[.pointer (some ⟨y.tb, 0, none⟩), planV a n c a' m c' p, actV x0 x1 x2 x3] w (PlOut y T' [] E w) := by
  have hlen := hp.len
  have hn2 := hp.n2
  have hn6 := hp.n6
  obtain ⟨kn, hkn⟩ : ∃ k, k = x1 % n := ⟨_, rfl⟩
  obtain ⟨kd, hkd⟩ : ∃ k, k = x2 % n := ⟨_, rfl⟩
  obtain ⟨s, hs⟩ : ∃ k, k = x3 % 4 := ⟨_, rfl⟩
  have r1 : (x1 : Int).tmod (n : Int) = (kn : Int) := by rw [rem_nat, hkn]
  have r2 : (x2 : Int).tmod (n : Int) = (kd : Int) := by rw [rem_nat, hkd]
  have r3 : (x3 : Int).tmod 4 = (s : Int) := by rw [show (4 : Int) = ((4 : Nat) : Int) from rfl, rem_nat, hs]
  have r7 : (x0 : Int).tmod 7 = 2 := by rw [show (7 : Int) = ((7 : Nat) : Int) from rfl, rem_nat, hwh]; rfl
  have hnn : kn < n := by rw [hkn]; exact Nat.mod_lt _ (by omega)
  have hdn : kd < n := by rw [hkd]; exact Nat.mod_lt _ (by omega)
  have hs4 : s < 4 := by rw [hs]; exact Nat.mod_lt _ (by omega)
  have t1 : IntKind.i64.wrap (x1 : Int) = (x1 : Int) := IntWalk.i64_in _ (by omega)
  have t2 : IntKind.i64.wrap (x2 : Int) = (x2 : Int) := IntWalk.i64_in _ (by omega)
  have t4 : IntKind.i64.wrap (kn : Int) = (kn : Int) := IntWalk.i64_in _ (by omega)
  have t5 : IntKind.i64.wrap (kd : Int) = (kd : Int) := IntWalk.i64_in _ (by omega)
  have t6 : IntKind.u8.wrap (s : Int) = (s : Int) := IntWalk.u8_in _ (by omega)
  have q1 : ¬ (n : Int) = 0 := by omega
  have q2 : ((n : Int) == 0) = false := by simpa using q1
  have q3 : ¬ n = 0 := by omega
  have q4 : (n == 0) = false := by simpa using q3
  have n0 : (0 : Int) ≤ (kn : Int) := by omega
  have n1 : (kn : Int) < (n : Int) := by omega
  have d0 : (0 : Int) ≤ (kd : Int) := by omega
  have d1 : (kd : Int) < (n : Int) := by omega
  obtain ⟨un, hun⟩ : ∃ u, u = pc p.P kn := ⟨_, rfl⟩
  obtain ⟨ud, hud⟩ : ∃ u, u = pc p.P kd := ⟨_, rfl⟩
  have huw : (Lit.int .u16 un).wf = true := by
    have h1 := hp.code hnn
    rw [← hun] at h1
    simp [Lit.wf, IntKind.min, IntKind.max, IntKind.bits, IntKind.signed]
    omega
  have hdw : (Lit.int .u16 ud).wf = true := by
    have h1 := hp.code hdn
    rw [← hud] at h1
    simp [Lit.wf, IntKind.min, IntKind.max, IntKind.bits, IntKind.signed]
    omega
  have HC : Hid (∀ V, TbAt V y T → Calls Try.prog 26 #[.pointer (some ⟨y.tb, 0, none⟩), .agg #[.int .u16 un, .int .u16 ud, .int .u8 (s : Nat)]] V (MOut y T' E V)) := Lib.hid (by intro V hV; have h9 := hC V hV; simp only [← hkn, ← hkd, ← hun, ← hud, ← hs] at h9; exact h9)
  clear hC
  obtain ⟨W, hW⟩ : ∃ W, W = (w.alloc (.cells #[.slice a n c, .slice a' m c', .int .i64 p.rate, .int .i64 p.room, .int .i64 p.m0, .int .i64 p.m1, .int .i64 p.m2] 33)).alloc (.cells #[.int .u8 (x0 : Nat), .int .u8 (x1 : Nat), .int .u8 (x2 : Nat), .int .u8 (x3 : Nat)] 49) := ⟨_, rfl⟩
  obtain ⟨pb, hpb⟩ : ∃ pb, pb = w.heap.size := ⟨_, rfl⟩
  have hbW : Below w.heap.size w W := by rw [hW]; exact (below_alloc w _).alloc (by simp) _
  have ho1 : Own W pb 33 [.slice a n c, .slice a' m c', .int .i64 p.rate, .int .i64 p.room, .int .i64 p.m0, .int .i64 p.m1, .int .i64 p.m2] := by
    rw [hW, hpb]; exact Own.below (heap_alloc_new w _) (below_alloc _ _) (Own.lt (heap_alloc_new w _))
  have ho2 : Own W (pb + 1) 49 [.int .u8 (x0 : Nat), .int .u8 (x1 : Nat), .int .u8 (x2 : Nat), .int .u8 (x3 : Nat)] := by
    have h9 := heap_alloc_new (w.alloc (.cells #[.slice a n c, .slice a' m c', .int .i64 p.rate, .int .i64 p.room, .int .i64 p.m0, .int .i64 p.m1, .int .i64 p.m2] 33)) (.cells #[.int .u8 (x0 : Nat), .int .u8 (x1 : Nat), .int .u8 (x2 : Nat), .int .u8 (x3 : Nat)] 49)
    rw [hW, hpb]; rw [size_alloc1] at h9; exact h9
  have hA := h.below hbW
  have hrow2 := hrow.later hbW
  obtain ⟨b, off, rfl, hc⟩ := hrow2.cells.resolve_left (by omega)
  have cn := (hc kn hnn).1
  have cd := (hc kd hdn).1
  rw [← hun] at cn
  rw [← hud] at cd
  have hcn := hrow.le
  have p0 := ho1.cell 0 (by simp)
  have x0c := ho2.cell 0 (by simp)
  have x1c := ho2.cell 1 (by simp)
  have x2c := ho2.cell 2 (by simp)
  have x3c := ho2.cell 3 (by simp)
  simp only [List.getD_cons_zero, List.getD_cons_succ] at p0 x0c x1c x2c x3c
  have HA := Lib.hid hA
  have HB := Lib.hid hbW
  have HKn := Lib.hid hkn
  have HKd := Lib.hid hkd
  have HSs := Lib.hid hs
  have HUn := Lib.hid hun
  have HUd := Lib.hid hud
  have HUw := Lib.hid huw
  have HDw := Lib.hid hdw
  have hsW : W.heap.size = pb + 2 := by rw [hW, hpb]; simp
  have hl1 : pb < W.heap.size := by omega
  have hl2 : pb + 1 < W.heap.size := by omega
  have hl3 : b < W.heap.size := World.block_lt_of_cell? _ _ cn
  obtain ⟨xb, hxb⟩ : ∃ xb, xb = pb + 1 := ⟨_, rfl⟩
  rw [← hxb] at ho2 hl2
  rw [← hxb] at x0c x1c x2c x3c
  have HO := Lib.hid ho2
  have hl4 : ¬ pb = W.heap.size := by omega
  have hl5 : ¬ xb = W.heap.size := by omega
  have hl6 : ¬ b = W.heap.size := by omega
  clear hsW
  clear h hA hc hbW ho1 ho2 hp hkn hkd hs hlen hwh hrow hrow2 hun hud huw hdw
  unfold actV planV
  go_enter Try.func11, Try.ntmps11
  go_upto_region 1 with (fail)
  show Code.wp _ _ _ _ ((w.alloc (.cells #[.slice (some ⟨b, off, none⟩) n c, .slice a' m c', .int .i64 p.rate, .int .i64 p.room, .int .i64 p.m0, .int .i64 p.m1, .int .i64 p.m2] 33)).alloc (.cells #[.int .u8 (x0 : Nat), .int .u8 (x1 : Nat), .int .u8 (x2 : Nat), .int .u8 (x3 : Nat)] 49))
  rw [← hW, ← hpb, ← hxb]
  clear hW hpb hxb
  go_quiet (fail)
  go_upto_region 2 with (fail)
  have hba : ∀ q o, Below W.heap.size W ((W.drewN q).alloc o) := fun q o => (below_draw W q).alloc (below_draw W q).size o
  have m0 : ∀ q o, ((W.drewN q).alloc o).cell? ⟨pb, 0, none⟩ = some (.slice (some ⟨b, off, none⟩) n c) := fun q o => ((hba q o).cell (p := ⟨pb, 0, none⟩) hl1).trans p0
  have m2 : ∀ q o, ((W.drewN q).alloc o).cell? ⟨xb, 2, none⟩ = some (.int .u8 (x2 : Nat)) := fun q o => ((hba q o).cell (p := ⟨xb, 2, none⟩) hl2).trans x2c
  have m3 : ∀ q o, ((W.drewN q).alloc o).cell? ⟨xb, 3, none⟩ = some (.int .u8 (x3 : Nat)) := fun q o => ((hba q o).cell (p := ⟨xb, 3, none⟩) hl2).trans x3c
  have m4 : ∀ q o, ((W.drewN q).alloc o).cell? ⟨b, off + kd * 2, none⟩ = some (.int .u16 ud) := fun q o => ((hba q o).cell (p := ⟨b, off + kd * 2, none⟩) hl3).trans cd
  have hon : ∀ q, Own ((W.drewN q).alloc (.cells #[.int .u16 0, .int .u16 0, .int .u8 0] 54)) W.heap.size 54 [.int .u16 0, .int .u16 0, .int .u8 0] := fun q => heap_alloc_new (W.drewN q) _
  have z0 : ∀ q, ((W.drewN q).alloc (.cells #[.int .u16 0, .int .u16 0, .int .u8 0] 54)).cell? ⟨W.heap.size, 0, none⟩ = some (.int .u16 0) := fun q => (hon q).cell 0 (by simp)
  have z1 : ∀ q, ((W.drewN q).alloc (.cells #[.int .u16 0, .int .u16 0, .int .u8 0] 54)).cell? ⟨W.heap.size, 1, none⟩ = some (.int .u16 0) := fun q => (hon q).cell 1 (by simp)
  have z2 : ∀ q, ((W.drewN q).alloc (.cells #[.int .u16 0, .int .u16 0, .int .u8 0] 54)).cell? ⟨W.heap.size, 2, none⟩ = some (.int .u8 0) := fun q => (hon q).cell 2 (by simp)
  have zf : ∀ q i, ((W.drewN q).alloc (.cells #[.int .u16 0, .int .u16 0, .int .u8 0] 54)).frozen? ⟨W.heap.size, i, none⟩ = false := fun q i => (hon q).frozen i
  clear hba hon
  go_region
  clear m0 m2 m3 m4 z0 z1 z2 zf
  go_upto_region 3 with (fail)
  generalize hW4 : World.setCell (World.setCell (World.setCell _ _ _) _ _) _ _ = W4
  have ho4 : Own W4 W.heap.size 54 [.int .u16 un, .int .u16 ud, .int .u8 s] := by
    rw [← hW4]
    exact note_new (W.drewN _) un ud s
  have hb4 : Below W.heap.size W W4 := by rw [← hW4]; exact ((((below_draw W _).alloc (below_draw W _).size _).setCell (Nat.le_refl _) _).setCell (Nat.le_refl _) _).setCell (Nat.le_refl _) _
  have ho5 := HO.out.below hb4 HO.out.lt
  have hA4 := HA.out.below hb4
  have HA4 := Lib.hid hA4
  have HB4 : Hid (Below w.heap.size w W4) := Lib.hid (HB.out.trans (hb4.mono HB.out.size))
  clear hW4 p0 x0c x1c x2c x3c cn cd hl1 hl2 hl3 hl4 hl5 hl6 hb4 r1 r2 r3 t1 t2 t4 t5 t6 q1 q2 q3 q4 n0 n1 d0 d1 hA4
  have x0c := ho5.cell 0 (by simp)
  have z0 := ho4.cell 0 (by simp)
  have z1 := ho4.cell 1 (by simp)
  have z2 := ho4.cell 2 (by simp)
  simp only [List.getD_cons_zero, List.getD_cons_succ] at x0c z0 z1 z2
  clear ho4 ho5
  obtain ⟨nb, hnb⟩ : ∃ nb, nb = W.heap.size := ⟨_, rfl⟩
  simp only [← hnb] at z0 z1 z2 ⊢
  clear hnb
  go_wp2_with fail
  with_reducible refine (HC.out W4 HA4.out).mono ?_
  rintro e w5 ⟨rfl, hR, hx⟩
  have HR := Lib.hid hR
  have HX := Lib.hid hx
  clear hR hx x0c z0 z1 z2
  go_wp2
  go_ret2
  exact ⟨none, rfl, NRow.nil _, HR.out, (Exc.of_below (S := Mut y) HB4.out).trans HX.out (fun _ _ h => h)⟩
end Go.Proofs.Ytdjmopipmeonlaa
