/- The statements' own function lives: the chapter's example. -/
import Derived.Test.YtekaedmhdoijeaaPlRing
import Derived.Test.YtekaedmhdoijeaaPlInts
import Derived.Deep.RegionHeld3
namespace Go.Proofs.Ytekaedmhdoijeaa
open Go.RowKit

def ringL : List Int := [2, 1, 1, 0]
theorem ring_ok : DisOk ringP 4 ringL := by
  have low : ∀ i, i < 4 → ∀ k, k < 4 → stepB ringP.P ringP.L 4 i k = true → d99 (ringL.getD i 0) ≤ d99 (ringL.getD k 0) + 1 := by decide +kernel
  refine ⟨rfl, ⟨?_, ?_, fun i k hi hk => low i hi k hk, ?_, ?_⟩, ?_⟩ <;> decide +kernel
theorem ring_l {l : List Int} (h : DisOk ringP 4 l) : l = ringL := disOk_uniq h ring_ok
theorem ring_h {hh : List Int} (hl : hh.length = 4) (h : HsOk 4 ringL hh) : hh = [3, 1, 2, 0] := by
  have key : ∀ i, i < 4 → htI 4 ringL i = ([3, 1, 2, 0] : List Int).getD i 0 := by decide +kernel
  exact list_eq_of_getD (by rw [hl]; rfl) fun i hi => by rw [h i (by omega), key i (by omega)]
theorem ring_c3 : chC ringP 4 ringL 2 = [(4, 0), (2, 1)] := by decide +kernel
theorem ring_c2 : chC ringP 4 ringL 1 = [(4, 0)] := by decide +kernel
theorem ring_hold : holdE ringP (htI 4 ringL 0) = .returned (.tuple #[.int .i64 384, .int .i64 0]) := by
  have h : htI 4 ringL 0 = 3 := by decide +kernel
  rw [h]; unfold holdE; rw [if_neg (by decide)]; rfl
theorem ints_four (a : Option Addr) (x0 x1 x2 x3 : Int) (w : World) (ha : Row .i64 w a 4 4 [x0, x1, x2, x3]) :
    Calls Try.prog 27 #[.slice a 4 4, .slice (some ⟨w.heap.size, 0, none⟩) 4 4] (w.alloc (.cells #[.int .i64 x0, .int .i64 x1, .int .i64 x2, .int .i64 x3] 3)) fun e w' => e = .returned (.bool true) ∧ Below w.heap.size w w' :=
  (ints_yes a _ 4 4 [x0, x1, x2, x3] _ (ha.later (below_alloc _ _)) (row_lit .i64 w 3 [x0, x1, x2, x3] 4 rfl (by decide) ha.wf)).mono fun e w' h => ⟨h.1, by obtain ⟨q, rfl⟩ := h.2; exact (below_alloc _ _).trans ((below_draw _ q).mono (below_alloc _ _).size)⟩
theorem ints_four_d (a : Option Addr) (x0 x1 x2 x3 : Int) (w : World) (ha : Row .i64 w a 4 4 [x0, x1, x2, x3]) :
    Calls Try.prog 27 #[.slice a 4 4, .slice (some ⟨w.heap.size, 0, none⟩) 4 4] ((w.alloc (.cells #[.int .i64 x0, .int .i64 x1, .int .i64 x2, .int .i64 x3] 3)).drew) fun e w' => e = .returned (.bool true) ∧ Below w.heap.size w w' := by
  have h := ints_four a x0 x1 x2 x3 w.drew (ha.later (below_draw w 1))
  exact h.mono fun e w' h => ⟨h.1, (below_draw w 1).trans h.2⟩
theorem keepA {v W : World} {o : Obj} (h : Below v.heap.size v W) : Below v.heap.size v (W.alloc o) := h.alloc h.size o
theorem keepD {v W : World} {o : Obj} (h : Below v.heap.size v W) : Below v.heap.size v (W.alloc o).drew := (h.alloc h.size o).drew
set_option maxRecDepth 100000 in
set_option maxHeartbeats 8000000 in
theorem lives_any (w : World) : Calls Try.prog 10 #[] w fun e w' => e = .returned (.bool true) ∧ Below w.heap.size w w' := by
  have HR := Lib.hid (ring_any w)
  go_enter Try.func10, Try.ntmps10
  go_wp2_with fail
  with_reducible refine HR.out.mono ?_
  rintro e w1 ⟨a, c, a', c', rfl, hP, hL, hb⟩
  have hD := fun (W : World) (hp : PRow W a 4 c ringP.P) (hl : LRow W a' 5 c' ringP.L) => distances_ok ringP a 4 c a' 5 c' 4 W hp hl (by decide) 3 (by decide) ringP_valid
  have hH := fun (W : World) (hp : PRow W a 4 c ringP.P) (hl : LRow W a' 5 c' ringP.L) => heights_few ringP a 4 c a' 5 c' 4 W hp hl (by decide) 3 (by decide) ringP_valid (by decide)
  have hC3 := fun (W : World) (hp : PRow W a 4 c ringP.P) (hl : LRow W a' 5 c' ringP.L) => choices_few ringP a 4 c a' 5 c' 3 4 W hp hl (by decide) (by decide) 2 3 (by decide) (by decide) ringP_valid (by decide)
  have hC2 := fun (W : World) (hp : PRow W a 4 c ringP.P) (hl : LRow W a' 5 c' ringP.L) => choices_few ringP a 4 c a' 5 c' 2 4 W hp hl (by decide) (by decide) 1 3 (by decide) (by decide) ringP_valid (by decide)
  have hBa := fun (W : World) (hp : PRow W a 4 c ringP.P) (hl : LRow W a' 5 c' ringP.L) => base_ok ringP a 4 c a' 5 c' W hp hl (by decide) ringP_valid
  have hHo := fun (W : World) (hp : PRow W a 4 c ringP.P) (hl : LRow W a' 5 c' ringP.L) => hold_few ringP a 4 c a' 5 c' 1 4 W hp hl (by decide) 0 3 (by decide) (by decide) ringP_valid (by decide)
  have hGa := fun (W : World) (hp : PRow W a 4 c ringP.P) (hl : LRow W a' 5 c' ringP.L) => gap_ok ringP a 4 c a' 5 c' W hp hl (by decide) ringP_valid
  unfold planV at *
  rw [show baseI ringP = 96 by decide +kernel] at hBa hGa
  rw [show ((ringP.P.length : Int) + 2) * 96 = 576 by decide +kernel] at hGa
  rw [show ringP.rate = 1 from rfl, show ringP.room = 4 from rfl, show ringP.m0 = 1 from rfl, show ringP.m1 = 2 from rfl, show ringP.m2 = 3 from rfl] at *
  have HD := Lib.hid hD
  have HH := Lib.hid hH
  have HC3 := Lib.hid hC3
  have HC2 := Lib.hid hC2
  have HBa := Lib.hid hBa
  have HHo := Lib.hid hHo
  have HGa := Lib.hid hGa
  clear hD hH hC3 hC2 hBa hHo hGa HR
  obtain ⟨W, hW⟩ : ∃ W, W = w1.alloc (.cells #[.slice a 4 c, .slice a' 5 c', .int .i64 1, .int .i64 4, .int .i64 1, .int .i64 2, .int .i64 3] 26) := ⟨_, rfl⟩
  have hB1 : Below w1.heap.size w1 W := by rw [hW]; exact below_alloc _ _
  have hbx : PlanAt W w1.heap.size a 4 c a' 5 c' ringP := by rw [hW]; exact PlanAt.new w1 a 4 c a' 5 c' ringP
  have HP := Lib.hid (hP.later hB1)
  have HL := Lib.hid (hL.later hB1)
  have HB := Lib.hid (hb.trans (hB1.mono hb.size))
  have HX := Lib.hid hbx
  obtain ⟨g0, g1, g2, g3, g4, g5, g6⟩ := hbx.cells
  rw [show ringP.rate = 1 from rfl] at g2
  rw [show ringP.room = 4 from rfl] at g3
  rw [show ringP.m0 = 1 from rfl] at g4
  rw [show ringP.m1 = 2 from rfl] at g5
  rw [show ringP.m2 = 3 from rfl] at g6
  clear hP hL hb hB1 hbx
  go_wp2_with fail
  show Calls _ _ _ (w1.alloc (.cells #[.slice a 4 c, .slice a' 5 c', .int .i64 1, .int .i64 4, .int .i64 1, .int .i64 2, .int .i64 3] 26)) _
  rw [← hW]
  clear hW
  have HS0 := Lib.hid (Below.refl W.heap.size W)
  with_reducible refine (HD.out _ (HP.out.later HS0.out) (HL.out.later HS0.out)).mono ?_
  rintro e v1 ⟨gd, l, n9, hn9, hok, rfl, ho, _, hb⟩
  have HS1 := Lib.hid (HS0.out.trans (hb.mono HS0.out.size))
  have HB0 := Lib.hid hb
  have hl := ring_l hok
  subst hl
  have hn4 : n9 = 4 := hn9.symm
  subst hn4
  have HDr := Lib.hid (ho.row0 4 4 rfl (Nat.le_refl _) (by unfold maxLen; decide) (by decide))
  clear ho hok hn9
  clear hb g0 g1 g2 g3 g4 g5 g6
  obtain ⟨g0, g1, g2, g3, g4, g5, g6⟩ := (HX.out.later HS1.out).cells
  rw [show ringP.rate = 1 from rfl] at g2
  rw [show ringP.room = 4 from rfl] at g3
  rw [show ringP.m0 = 1 from rfl] at g4
  rw [show ringP.m1 = 2 from rfl] at g5
  rw [show ringP.m2 = 3 from rfl] at g6
  go_wp2_with fail
  with_reducible refine (HH.out _ (HP.out.later HS1.out) (HL.out.later HS1.out)).mono ?_
  rintro e v2 ⟨gh, l, hh, n9, hn9, hok, hhs, rfl, hr, hb⟩
  have HS2 := Lib.hid (HS1.out.trans (hb.mono HS1.out.size))
  have HB1 := Lib.hid hb
  have hl := ring_l hok
  subst hl
  have hn4 : n9 = 4 := hn9.symm
  subst hn4
  have hhe := ring_h hr.len hhs
  subst hhe
  have HHr := Lib.hid hr
  clear hr hok hn9 hhs
  clear hb g0 g1 g2 g3 g4 g5 g6
  obtain ⟨g0, g1, g2, g3, g4, g5, g6⟩ := (HX.out.later HS2.out).cells
  rw [show ringP.rate = 1 from rfl] at g2
  rw [show ringP.room = 4 from rfl] at g3
  rw [show ringP.m0 = 1 from rfl] at g4
  rw [show ringP.m1 = 2 from rfl] at g5
  rw [show ringP.m2 = 3 from rfl] at g6
  go_wp2_with fail
  with_reducible refine (HC3.out _ (HP.out.later HS2.out) (HL.out.later HS2.out)).mono ?_
  rintro e v3 ⟨l, s2, hok, rfl, hr, hb⟩
  have HS3 := Lib.hid (HS2.out.trans (hb.mono HS2.out.size))
  have HB2 := Lib.hid hb
  have hl := ring_l hok
  subst hl
  rw [ring_c3] at hr ⊢
  have HCa := Lib.hid hr
  clear hr hok
  clear hb g0 g1 g2 g3 g4 g5 g6
  obtain ⟨g0, g1, g2, g3, g4, g5, g6⟩ := (HX.out.later HS3.out).cells
  rw [show ringP.rate = 1 from rfl] at g2
  rw [show ringP.room = 4 from rfl] at g3
  rw [show ringP.m0 = 1 from rfl] at g4
  rw [show ringP.m1 = 2 from rfl] at g5
  rw [show ringP.m2 = 3 from rfl] at g6
  go_wp2_with fail
  with_reducible refine (HC2.out _ (HP.out.later HS3.out) (HL.out.later HS3.out)).mono ?_
  rintro e v4 ⟨l, s3, hok, rfl, hr, hb⟩
  have HS4 := Lib.hid (HS3.out.trans (hb.mono HS3.out.size))
  have HB3 := Lib.hid hb
  have hl := ring_l hok
  subst hl
  rw [ring_c2] at hr ⊢
  have HCb := Lib.hid hr
  clear hr hok
  clear hb g0 g1 g2 g3 g4 g5 g6
  obtain ⟨g0, g1, g2, g3, g4, g5, g6⟩ := (HX.out.later HS4.out).cells
  rw [show ringP.rate = 1 from rfl] at g2
  rw [show ringP.room = 4 from rfl] at g3
  rw [show ringP.m0 = 1 from rfl] at g4
  rw [show ringP.m1 = 2 from rfl] at g5
  rw [show ringP.m2 = 3 from rfl] at g6
  go_wp2_with fail
  with_reducible refine (HBa.out _ (HP.out.later HS4.out) (HL.out.later HS4.out)).mono ?_
  rintro e v5 ⟨rfl, hb⟩
  have HS5 := Lib.hid (HS4.out.trans (hb.mono HS4.out.size))
  have HB4 := Lib.hid hb
  clear hb g0 g1 g2 g3 g4 g5 g6
  obtain ⟨g0, g1, g2, g3, g4, g5, g6⟩ := (HX.out.later HS5.out).cells
  rw [show ringP.rate = 1 from rfl] at g2
  rw [show ringP.room = 4 from rfl] at g3
  rw [show ringP.m0 = 1 from rfl] at g4
  rw [show ringP.m1 = 2 from rfl] at g5
  rw [show ringP.m2 = 3 from rfl] at g6
  go_wp2_with fail
  with_reducible refine (HHo.out _ (HP.out.later HS5.out) (HL.out.later HS5.out)).mono ?_
  rintro e v6 ⟨l, hok, rfl, hb⟩
  have HS6 := Lib.hid (HS5.out.trans (hb.mono HS5.out.size))
  have HB5 := Lib.hid hb
  have hl := ring_l hok
  subst hl
  rw [show ringP.P.length = 4 from rfl, ring_hold]
  clear hok
  clear hb g0 g1 g2 g3 g4 g5 g6
  obtain ⟨g0, g1, g2, g3, g4, g5, g6⟩ := (HX.out.later HS6.out).cells
  rw [show ringP.rate = 1 from rfl] at g2
  rw [show ringP.room = 4 from rfl] at g3
  rw [show ringP.m0 = 1 from rfl] at g4
  rw [show ringP.m1 = 2 from rfl] at g5
  rw [show ringP.m2 = 3 from rfl] at g6
  go_wp2_with fail
  with_reducible refine (HGa.out _ (HP.out.later HS6.out) (HL.out.later HS6.out)).mono ?_
  rintro e v7 ⟨rfl, hb⟩
  have HS7 := Lib.hid (HS6.out.trans (hb.mono HS6.out.size))
  have HB6 := Lib.hid hb
  clear hb g0 g1 g2 g3 g4 g5 g6
  obtain ⟨g0, g1, g2, g3, g4, g5, g6⟩ := (HX.out.later HS7.out).cells
  rw [show ringP.rate = 1 from rfl] at g2
  rw [show ringP.room = 4 from rfl] at g3
  rw [show ringP.m0 = 1 from rfl] at g4
  rw [show ringP.m1 = 2 from rfl] at g5
  rw [show ringP.m2 = 3 from rfl] at g6
  go_wp2_with fail
  clear g0 g1 g2 g3 g4 g5 g6
  have HD7 := Lib.hid (((((((HDr.out.later HB1.out).later HB2.out).later HB3.out).later HB4.out).later HB5.out).later HB6.out))
  have HH7 := Lib.hid ((((((HHr.out.later HB2.out).later HB3.out).later HB4.out).later HB5.out).later HB6.out))
  have hCa := ((((HCa.out.later HB3.out).later HB4.out).later HB5.out).later HB6.out)
  have hCb := (((HCb.out.later HB4.out).later HB5.out).later HB6.out)
  obtain ⟨bl, ol, rfl, hcl⟩ := hCa.cells.resolve_left (by decide)
  obtain ⟨bm, om, rfl, hcm⟩ := hCb.cells.resolve_left (by decide)
  obtain ⟨l0, l1⟩ := hcl 0 (by decide)
  obtain ⟨l2, l3⟩ := hcl 1 (by decide)
  obtain ⟨m0, m1⟩ := hcm 0 (by decide)
  simp only [Nat.zero_mul, Nat.add_zero, Nat.one_mul, List.getD_cons_zero, List.getD_cons_succ] at l0 l1 l2 l3 m0 m1
  have hbl := World.block_lt_of_cell? v7 _ l0
  have hbm := World.block_lt_of_cell? v7 _ m0
  have keep : ∀ W', Below v7.heap.size v7 W' → W'.cell? ⟨bl, ol, none⟩ = some (.int .u16 4) ∧ W'.cell? ⟨bl, ol + 1, none⟩ = some (.int .i64 0) ∧ W'.cell? ⟨bl, ol + 2, none⟩ = some (.int .u16 2) ∧ W'.cell? ⟨bl, ol + 2 + 1, none⟩ = some (.int .i64 1) ∧ W'.cell? ⟨bm, om, none⟩ = some (.int .u16 4) ∧ W'.cell? ⟨bm, om + 1, none⟩ = some (.int .i64 0) := fun W' hb => ⟨(hb.cell (p := ⟨bl, ol, none⟩) hbl).trans l0, (hb.cell (p := ⟨bl, ol + 1, none⟩) hbl).trans l1, (hb.cell (p := ⟨bl, ol + 2, none⟩) hbl).trans l2, (hb.cell (p := ⟨bl, ol + 2 + 1, none⟩) hbl).trans l3, (hb.cell (p := ⟨bm, om, none⟩) hbm).trans m0, (hb.cell (p := ⟨bm, om + 1, none⟩) hbm).trans m1⟩
  have HI1 := Lib.hid (fun (W' : World) (hb : Below v7.heap.size v7 W') => (ints_four_d _ 2 1 1 0 W' (HD7.out.later hb)).mono (R' := fun e w' => e = .returned (.bool true) ∧ Below v7.heap.size v7 w' ∧ (fun W' => W'.cell? ⟨bl, ol, none⟩ = some (.int .u16 4) ∧ W'.cell? ⟨bl, ol + 1, none⟩ = some (.int .i64 0) ∧ W'.cell? ⟨bl, ol + 2, none⟩ = some (.int .u16 2) ∧ W'.cell? ⟨bl, ol + 2 + 1, none⟩ = some (.int .i64 1) ∧ W'.cell? ⟨bm, om, none⟩ = some (.int .u16 4) ∧ W'.cell? ⟨bm, om + 1, none⟩ = some (.int .i64 0)) w') fun e w' h => ⟨h.1, hb.trans (h.2.mono hb.size), keep _ (hb.trans (h.2.mono hb.size))⟩)
  have HI2 := Lib.hid (fun (W' : World) (hb : Below v7.heap.size v7 W') => (ints_four _ 3 1 2 0 W' (HH7.out.later hb)).mono (R' := fun e w' => e = .returned (.bool true) ∧ Below v7.heap.size v7 w' ∧ (fun W' => W'.cell? ⟨bl, ol, none⟩ = some (.int .u16 4) ∧ W'.cell? ⟨bl, ol + 1, none⟩ = some (.int .i64 0) ∧ W'.cell? ⟨bl, ol + 2, none⟩ = some (.int .u16 2) ∧ W'.cell? ⟨bl, ol + 2 + 1, none⟩ = some (.int .i64 1) ∧ W'.cell? ⟨bm, om, none⟩ = some (.int .u16 4) ∧ W'.cell? ⟨bm, om + 1, none⟩ = some (.int .i64 0)) w') fun e w' h => ⟨h.1, hb.trans (h.2.mono hb.size), keep _ (hb.trans (h.2.mono hb.size))⟩)
  have hb7 : Below v7.heap.size v7 v7 := Below.refl _ _
  have hb7d : Below v7.heap.size v7 v7.drew := below_draw v7 1
  have HK := Lib.hid (fun (W' : World) (hb : Below v7.heap.size v7 W') => And.intro hb (keep W' hb))
  clear hCa hCb hcl hcm keep hbl hbm
  go_region_held3 (fun W' => Below v7.heap.size v7 W' ∧ W'.cell? ⟨bl, ol, none⟩ = some (.int .u16 4) ∧ W'.cell? ⟨bl, ol + 1, none⟩ = some (.int .i64 0) ∧ W'.cell? ⟨bl, ol + 2, none⟩ = some (.int .u16 2) ∧ W'.cell? ⟨bl, ol + 2 + 1, none⟩ = some (.int .i64 1) ∧ W'.cell? ⟨bm, om, none⟩ = some (.int .u16 4) ∧ W'.cell? ⟨bm, om + 1, none⟩ = some (.int .i64 0)) (first | exact HK.out _ hb7d | exact HK.out _ (keepD hb7) | exact HK.out _ (keepA k0) | exact HK.out _ (keepD k0) | exact HK.out _ k0 | exact HK.out _ j0 | assumption | go_keep)
    (first
      | (go_at_call 27; ((with_reducible refine (HI1.out _ hb7).mono ?_); rintro e u1 ⟨rfl, k0, k1, k2, k3, k4, k5, k6⟩))
      | (go_at_call 27; ((with_reducible refine (HI2.out _ k0).mono ?_); rintro e u2 ⟨rfl, j0, j1, j2, j3, j4, j5, j6⟩))
      | fail)
  go_wp2
  go_ret
  have hA := HB.out.trans (HS7.out.mono HB.out.size)
  exact ⟨rfl, hA.trans (j0.mono hA.size)⟩
end Go.Proofs.Ytekaedmhdoijeaa
