/- Joined: PlLives LbShelf UnMath. -/
import Derived.Test.YthlckipcgogogaaGreatDoorPlInts
import Derived.Deep.RegionHeld3
import Derived.Test.YthlckipcgogogaaGreatDoorBase
import Derived.Shelf.Strings.Search2
import Derived.Test.YthlckipcgogogaaGreatDoorPlOf
/- The statements' own function lives: the chapter's example. -/
namespace Go.Proofs.YthlckipcgogogaaGreatDoor
set_option linter.unusedVariables false
open Go.RowKit

def ringL : List Int := [2, 1, 1, 0]
theorem ring_ok : DisOk ringP 4 ringL := by
  have low : ∀ i, i < 4 → ∀ k, k < 4 → stepB ringP.P ringP.L 4 i k = true → d99 (ringL.getD i 0) ≤ d99 (ringL.getD k 0) + 1 := by decide +kernel
  refine ⟨rfl, ⟨?_, ?_, fun i k hi hk => low i hi k hk, ?_, ?_⟩, ?_⟩ <;> decide +kernel
theorem ring_l {l : List Int} (h : DisOk ringP 4 l) : l = ringL := disOk_uniq h ring_ok
theorem ring_h {hh : List Int} (hl : hh.length = 4) (h : HsOk 4 ringL hh) : hh = [3, 1, 2, 0] := by
  have key : ∀ i, i < 4 → htI 4 ringL i = ([3, 1, 2, 0] : List Int).getD i 0 := by decide +kernel
  exact list_eq_of_getD (by rw [hl]; rfl) fun i hi => by rw [h i (by omega), key i (by omega)]
theorem ring_c3 : chC ringP 4 ringL 2 = [(4, 0), (2, 1)] := by decide +kernel
theorem ring_c2 : chC ringP 4 ringL 1 = [(4, 0)] := by decide +kernel
theorem ring_hold : holdE ringP (htI 4 ringL 0) = .returned (.tuple #[.int .i64 384, .int .i64 0]) := by
  have h : htI 4 ringL 0 = 3 := by decide +kernel
  rw [h]; unfold holdE; rw [if_neg (by decide)]; rfl
theorem ints_four (a : Option Addr) (x0 x1 x2 x3 : Int) (w : World) (ha : Row .i64 w a 4 4 [x0, x1, x2, x3]) :
    Calls Tryz.prog 46 #[.slice a 4 4, .slice (some ⟨w.heap.size, 0, none⟩) 4 4] (w.alloc (.cells #[.int .i64 x0, .int .i64 x1, .int .i64 x2, .int .i64 x3] 3)) fun e w' => e = .returned (.bool true) ∧ Below w.heap.size w w' :=
  (ints_yes a _ 4 4 [x0, x1, x2, x3] _ (ha.later (below_alloc _ _)) (row_lit .i64 w 3 [x0, x1, x2, x3] 4 rfl (by decide) ha.wf)).mono fun e w' h => ⟨h.1, by obtain ⟨q, rfl⟩ := h.2; exact (below_alloc _ _).trans ((below_draw _ q).mono (below_alloc _ _).size)⟩
theorem ints_four_d (a : Option Addr) (x0 x1 x2 x3 : Int) (w : World) (ha : Row .i64 w a 4 4 [x0, x1, x2, x3]) :
    Calls Tryz.prog 46 #[.slice a 4 4, .slice (some ⟨w.heap.size, 0, none⟩) 4 4] ((w.alloc (.cells #[.int .i64 x0, .int .i64 x1, .int .i64 x2, .int .i64 x3] 3)).drew) fun e w' => e = .returned (.bool true) ∧ Below w.heap.size w w' := by
  have h := ints_four a x0 x1 x2 x3 w.drew (ha.later (below_draw w 1))
  exact h.mono fun e w' h => ⟨h.1, (below_draw w 1).trans h.2⟩
theorem keepA {v W : World} {o : Obj} (h : Below v.heap.size v W) : Below v.heap.size v (W.alloc o) := h.alloc h.size o
theorem keepD {v W : World} {o : Obj} (h : Below v.heap.size v W) : Below v.heap.size v (W.alloc o).drew := (h.alloc h.size o).drew
set_option maxRecDepth 100000 in
set_option maxHeartbeats 8000000 in
theorem lives_any (w : World) : Calls Tryz.prog 12 #[] w fun e w' => e = .returned (.bool true) ∧ Below w.heap.size w w' := by
  have HR := Lib.hid (ring_any w)
  go_enter Tryz.func12, Tryz.ntmps12
  go_wp2_with fail
  with_reducible refine HR.out.mono ?_
  rintro e w1 ⟨a, c, a', c', rfl, hP, hL, hb⟩
  have hD := fun (W : World) (hp : PRow W a 4 c ringP.P) (hl : LRow W a' 5 c' ringP.L) => distances_ok ringP a 4 c a' 5 c' 4 W hp hl (by decide) 3 (by decide) ringP_valid
  have hH := fun (W : World) (hp : PRow W a 4 c ringP.P) (hl : LRow W a' 5 c' ringP.L) => heights_few ringP a 4 c a' 5 c' 4 W hp hl (by decide) 3 (by decide) ringP_valid (by decide)
  have hC3 := fun (W : World) (hp : PRow W a 4 c ringP.P) (hl : LRow W a' 5 c' ringP.L) => choices_few ringP a 4 c a' 5 c' 3 4 W hp hl (by decide) (by decide) 2 3 (by decide) (by decide) ringP_valid (by decide)
  have hC2 := fun (W : World) (hp : PRow W a 4 c ringP.P) (hl : LRow W a' 5 c' ringP.L) => choices_few ringP a 4 c a' 5 c' 2 4 W hp hl (by decide) (by decide) 1 3 (by decide) (by decide) ringP_valid (by decide)
  have hBa := fun (W : World) (hp : PRow W a 4 c ringP.P) (hl : LRow W a' 5 c' ringP.L) => base_ok ringP a 4 c a' 5 c' W hp hl (by decide) ringP_valid
  have hHo := fun (W : World) (hp : PRow W a 4 c ringP.P) (hl : LRow W a' 5 c' ringP.L) => hold_few ringP a 4 c a' 5 c' 1 4 W hp hl (by decide) 0 3 (by decide) (by decide) ringP_valid (by decide)
  have hGa := fun (W : World) (hp : PRow W a 4 c ringP.P) (hl : LRow W a' 5 c' ringP.L) => gap_ok ringP a 4 c a' 5 c' W hp hl (by decide) ringP_valid
  unfold planV at *
  rw [show baseI ringP = 96 by decide +kernel] at hBa hGa
  rw [show ((ringP.P.length : Int) + 2) * 96 = 576 by decide +kernel] at hGa
  rw [show ringP.rate = 1 from rfl, show ringP.room = 4 from rfl, show ringP.m0 = 1 from rfl, show ringP.m1 = 2 from rfl, show ringP.m2 = 3 from rfl] at *
  have HD := Lib.hid hD
  have HH := Lib.hid hH
  have HC3 := Lib.hid hC3
  have HC2 := Lib.hid hC2
  have HBa := Lib.hid hBa
  have HHo := Lib.hid hHo
  have HGa := Lib.hid hGa
  clear hD hH hC3 hC2 hBa hHo hGa HR
  obtain ⟨W, hW⟩ : ∃ W, W = w1.alloc (.cells #[.slice a 4 c, .slice a' 5 c', .int .i64 1, .int .i64 4, .int .i64 1, .int .i64 2, .int .i64 3] 31) := ⟨_, rfl⟩
  have hB1 : Below w1.heap.size w1 W := by rw [hW]; exact below_alloc _ _
  have hbx : PlanAt W w1.heap.size a 4 c a' 5 c' ringP := by rw [hW]; exact PlanAt.new w1 a 4 c a' 5 c' ringP
  have HP := Lib.hid (hP.later hB1)
  have HL := Lib.hid (hL.later hB1)
  have HB := Lib.hid (hb.trans (hB1.mono hb.size))
  have HX := Lib.hid hbx
  obtain ⟨g0, g1, g2, g3, g4, g5, g6⟩ := hbx.cells
  rw [show ringP.rate = 1 from rfl] at g2
  rw [show ringP.room = 4 from rfl] at g3
  rw [show ringP.m0 = 1 from rfl] at g4
  rw [show ringP.m1 = 2 from rfl] at g5
  rw [show ringP.m2 = 3 from rfl] at g6
  clear hP hL hb hB1 hbx
  go_wp2_with fail
  show Calls _ _ _ (w1.alloc (.cells #[.slice a 4 c, .slice a' 5 c', .int .i64 1, .int .i64 4, .int .i64 1, .int .i64 2, .int .i64 3] 31)) _
  rw [← hW]
  clear hW
  have HS0 := Lib.hid (Below.refl W.heap.size W)
  with_reducible refine (HD.out _ (HP.out.later HS0.out) (HL.out.later HS0.out)).mono ?_
  rintro e v1 ⟨gd, l, n9, hn9, hok, rfl, ho, _, hb⟩
  have HS1 := Lib.hid (HS0.out.trans (hb.mono HS0.out.size))
  have HB0 := Lib.hid hb
  have hl := ring_l hok
  subst hl
  have hn4 : n9 = 4 := hn9.symm
  subst hn4
  have HDr := Lib.hid (ho.row0 4 4 rfl (Nat.le_refl _) (by unfold maxLen; decide) (by decide))
  clear ho hok hn9
  clear hb g0 g1 g2 g3 g4 g5 g6
  obtain ⟨g0, g1, g2, g3, g4, g5, g6⟩ := (HX.out.later HS1.out).cells
  rw [show ringP.rate = 1 from rfl] at g2
  rw [show ringP.room = 4 from rfl] at g3
  rw [show ringP.m0 = 1 from rfl] at g4
  rw [show ringP.m1 = 2 from rfl] at g5
  rw [show ringP.m2 = 3 from rfl] at g6
  go_wp2_with fail
  with_reducible refine (HH.out _ (HP.out.later HS1.out) (HL.out.later HS1.out)).mono ?_
  rintro e v2 ⟨gh, l, hh, n9, hn9, hok, hhs, rfl, hr, hb⟩
  have HS2 := Lib.hid (HS1.out.trans (hb.mono HS1.out.size))
  have HB1 := Lib.hid hb
  have hl := ring_l hok
  subst hl
  have hn4 : n9 = 4 := hn9.symm
  subst hn4
  have hhe := ring_h hr.len hhs
  subst hhe
  have HHr := Lib.hid hr
  clear hr hok hn9 hhs
  clear hb g0 g1 g2 g3 g4 g5 g6
  obtain ⟨g0, g1, g2, g3, g4, g5, g6⟩ := (HX.out.later HS2.out).cells
  rw [show ringP.rate = 1 from rfl] at g2
  rw [show ringP.room = 4 from rfl] at g3
  rw [show ringP.m0 = 1 from rfl] at g4
  rw [show ringP.m1 = 2 from rfl] at g5
  rw [show ringP.m2 = 3 from rfl] at g6
  go_wp2_with fail
  with_reducible refine (HC3.out _ (HP.out.later HS2.out) (HL.out.later HS2.out)).mono ?_
  rintro e v3 ⟨l, s2, hok, rfl, hr, hb⟩
  have HS3 := Lib.hid (HS2.out.trans (hb.mono HS2.out.size))
  have HB2 := Lib.hid hb
  have hl := ring_l hok
  subst hl
  rw [ring_c3] at hr ⊢
  have HCa := Lib.hid hr
  clear hr hok
  clear hb g0 g1 g2 g3 g4 g5 g6
  obtain ⟨g0, g1, g2, g3, g4, g5, g6⟩ := (HX.out.later HS3.out).cells
  rw [show ringP.rate = 1 from rfl] at g2
  rw [show ringP.room = 4 from rfl] at g3
  rw [show ringP.m0 = 1 from rfl] at g4
  rw [show ringP.m1 = 2 from rfl] at g5
  rw [show ringP.m2 = 3 from rfl] at g6
  go_wp2_with fail
  with_reducible refine (HC2.out _ (HP.out.later HS3.out) (HL.out.later HS3.out)).mono ?_
  rintro e v4 ⟨l, s3, hok, rfl, hr, hb⟩
  have HS4 := Lib.hid (HS3.out.trans (hb.mono HS3.out.size))
  have HB3 := Lib.hid hb
  have hl := ring_l hok
  subst hl
  rw [ring_c2] at hr ⊢
  have HCb := Lib.hid hr
  clear hr hok
  clear hb g0 g1 g2 g3 g4 g5 g6
  obtain ⟨g0, g1, g2, g3, g4, g5, g6⟩ := (HX.out.later HS4.out).cells
  rw [show ringP.rate = 1 from rfl] at g2
  rw [show ringP.room = 4 from rfl] at g3
  rw [show ringP.m0 = 1 from rfl] at g4
  rw [show ringP.m1 = 2 from rfl] at g5
  rw [show ringP.m2 = 3 from rfl] at g6
  go_wp2_with fail
  with_reducible refine (HBa.out _ (HP.out.later HS4.out) (HL.out.later HS4.out)).mono ?_
  rintro e v5 ⟨rfl, hb⟩
  have HS5 := Lib.hid (HS4.out.trans (hb.mono HS4.out.size))
  have HB4 := Lib.hid hb
  clear hb g0 g1 g2 g3 g4 g5 g6
  obtain ⟨g0, g1, g2, g3, g4, g5, g6⟩ := (HX.out.later HS5.out).cells
  rw [show ringP.rate = 1 from rfl] at g2
  rw [show ringP.room = 4 from rfl] at g3
  rw [show ringP.m0 = 1 from rfl] at g4
  rw [show ringP.m1 = 2 from rfl] at g5
  rw [show ringP.m2 = 3 from rfl] at g6
  go_wp2_with fail
  with_reducible refine (HHo.out _ (HP.out.later HS5.out) (HL.out.later HS5.out)).mono ?_
  rintro e v6 ⟨l, hok, rfl, hb⟩
  have HS6 := Lib.hid (HS5.out.trans (hb.mono HS5.out.size))
  have HB5 := Lib.hid hb
  have hl := ring_l hok
  subst hl
  rw [show ringP.P.length = 4 from rfl, ring_hold]
  clear hok
  clear hb g0 g1 g2 g3 g4 g5 g6
  obtain ⟨g0, g1, g2, g3, g4, g5, g6⟩ := (HX.out.later HS6.out).cells
  rw [show ringP.rate = 1 from rfl] at g2
  rw [show ringP.room = 4 from rfl] at g3
  rw [show ringP.m0 = 1 from rfl] at g4
  rw [show ringP.m1 = 2 from rfl] at g5
  rw [show ringP.m2 = 3 from rfl] at g6
  go_wp2_with fail
  with_reducible refine (HGa.out _ (HP.out.later HS6.out) (HL.out.later HS6.out)).mono ?_
  rintro e v7 ⟨rfl, hb⟩
  have HS7 := Lib.hid (HS6.out.trans (hb.mono HS6.out.size))
  have HB6 := Lib.hid hb
  clear hb g0 g1 g2 g3 g4 g5 g6
  obtain ⟨g0, g1, g2, g3, g4, g5, g6⟩ := (HX.out.later HS7.out).cells
  rw [show ringP.rate = 1 from rfl] at g2
  rw [show ringP.room = 4 from rfl] at g3
  rw [show ringP.m0 = 1 from rfl] at g4
  rw [show ringP.m1 = 2 from rfl] at g5
  rw [show ringP.m2 = 3 from rfl] at g6
  go_wp2_with fail
  clear g0 g1 g2 g3 g4 g5 g6
  have HD7 := Lib.hid (((((((HDr.out.later HB1.out).later HB2.out).later HB3.out).later HB4.out).later HB5.out).later HB6.out))
  have HH7 := Lib.hid ((((((HHr.out.later HB2.out).later HB3.out).later HB4.out).later HB5.out).later HB6.out))
  have hCa := ((((HCa.out.later HB3.out).later HB4.out).later HB5.out).later HB6.out)
  have hCb := (((HCb.out.later HB4.out).later HB5.out).later HB6.out)
  obtain ⟨bl, ol, rfl, hcl⟩ := hCa.cells.resolve_left (by decide)
  obtain ⟨bm, om, rfl, hcm⟩ := hCb.cells.resolve_left (by decide)
  obtain ⟨l0, l1⟩ := hcl 0 (by decide)
  obtain ⟨l2, l3⟩ := hcl 1 (by decide)
  obtain ⟨m0, m1⟩ := hcm 0 (by decide)
  simp only [Nat.zero_mul, Nat.add_zero, Nat.one_mul, List.getD_cons_zero, List.getD_cons_succ] at l0 l1 l2 l3 m0 m1
  have hbl := World.block_lt_of_cell? v7 _ l0
  have hbm := World.block_lt_of_cell? v7 _ m0
  have keep : ∀ W', Below v7.heap.size v7 W' → W'.cell? ⟨bl, ol, none⟩ = some (.int .u16 4) ∧ W'.cell? ⟨bl, ol + 1, none⟩ = some (.int .i64 0) ∧ W'.cell? ⟨bl, ol + 2, none⟩ = some (.int .u16 2) ∧ W'.cell? ⟨bl, ol + 2 + 1, none⟩ = some (.int .i64 1) ∧ W'.cell? ⟨bm, om, none⟩ = some (.int .u16 4) ∧ W'.cell? ⟨bm, om + 1, none⟩ = some (.int .i64 0) := fun W' hb => ⟨(hb.cell (p := ⟨bl, ol, none⟩) hbl).trans l0, (hb.cell (p := ⟨bl, ol + 1, none⟩) hbl).trans l1, (hb.cell (p := ⟨bl, ol + 2, none⟩) hbl).trans l2, (hb.cell (p := ⟨bl, ol + 2 + 1, none⟩) hbl).trans l3, (hb.cell (p := ⟨bm, om, none⟩) hbm).trans m0, (hb.cell (p := ⟨bm, om + 1, none⟩) hbm).trans m1⟩
  have HI1 := Lib.hid (fun (W' : World) (hb : Below v7.heap.size v7 W') => (ints_four_d _ 2 1 1 0 W' (HD7.out.later hb)).mono (R' := fun e w' => e = .returned (.bool true) ∧ Below v7.heap.size v7 w' ∧ (fun W' => W'.cell? ⟨bl, ol, none⟩ = some (.int .u16 4) ∧ W'.cell? ⟨bl, ol + 1, none⟩ = some (.int .i64 0) ∧ W'.cell? ⟨bl, ol + 2, none⟩ = some (.int .u16 2) ∧ W'.cell? ⟨bl, ol + 2 + 1, none⟩ = some (.int .i64 1) ∧ W'.cell? ⟨bm, om, none⟩ = some (.int .u16 4) ∧ W'.cell? ⟨bm, om + 1, none⟩ = some (.int .i64 0)) w') fun e w' h => ⟨h.1, hb.trans (h.2.mono hb.size), keep _ (hb.trans (h.2.mono hb.size))⟩)
  have HI2 := Lib.hid (fun (W' : World) (hb : Below v7.heap.size v7 W') => (ints_four _ 3 1 2 0 W' (HH7.out.later hb)).mono (R' := fun e w' => e = .returned (.bool true) ∧ Below v7.heap.size v7 w' ∧ (fun W' => W'.cell? ⟨bl, ol, none⟩ = some (.int .u16 4) ∧ W'.cell? ⟨bl, ol + 1, none⟩ = some (.int .i64 0) ∧ W'.cell? ⟨bl, ol + 2, none⟩ = some (.int .u16 2) ∧ W'.cell? ⟨bl, ol + 2 + 1, none⟩ = some (.int .i64 1) ∧ W'.cell? ⟨bm, om, none⟩ = some (.int .u16 4) ∧ W'.cell? ⟨bm, om + 1, none⟩ = some (.int .i64 0)) w') fun e w' h => ⟨h.1, hb.trans (h.2.mono hb.size), keep _ (hb.trans (h.2.mono hb.size))⟩)
  have hb7 : Below v7.heap.size v7 v7 := Below.refl _ _
  have hb7d : Below v7.heap.size v7 v7.drew := below_draw v7 1
  have HK := Lib.hid (fun (W' : World) (hb : Below v7.heap.size v7 W') => And.intro hb (keep W' hb))
  clear hCa hCb hcl hcm keep hbl hbm
  go_region_held3 (fun W' => Below v7.heap.size v7 W' ∧ W'.cell? ⟨bl, ol, none⟩ = some (.int .u16 4) ∧ W'.cell? ⟨bl, ol + 1, none⟩ = some (.int .i64 0) ∧ W'.cell? ⟨bl, ol + 2, none⟩ = some (.int .u16 2) ∧ W'.cell? ⟨bl, ol + 2 + 1, none⟩ = some (.int .i64 1) ∧ W'.cell? ⟨bm, om, none⟩ = some (.int .u16 4) ∧ W'.cell? ⟨bm, om + 1, none⟩ = some (.int .i64 0)) (first | exact HK.out _ hb7d | exact HK.out _ (keepD hb7) | exact HK.out _ (keepA k0) | exact HK.out _ (keepD k0) | exact HK.out _ k0 | exact HK.out _ j0 | assumption | go_keep)
    (first
      | (go_at_call 46; ((with_reducible refine (HI1.out _ hb7).mono ?_); rintro e u1 ⟨rfl, k0, k1, k2, k3, k4, k5, k6⟩))
      | (go_at_call 46; ((with_reducible refine (HI2.out _ k0).mono ?_); rintro e u2 ⟨rfl, j0, j1, j2, j3, j4, j5, j6⟩))
      | fail)
  go_wp2
  go_ret
  have hA := HB.out.trans (HS7.out.mono HB.out.size)
  exact ⟨rfl, hA.trans (j0.mono hA.size)⟩
end Go.Proofs.YthlckipcgogogaaGreatDoor
/- The library's functions under strings.Cut (internal/stringslite.Index), as this program bears them (the shelf's laying, in plain words). -/
namespace Go.Proofs.YthlckipcgogogaaGreatDoor
set_option linter.unusedVariables false
open Go.Shelf
def lay219_ren : Go.Shelf.Ren := ⟨fun | 219 => 80 | 217 => 101 | 225 => 104 | 224 => 105 | 267 => 106 | 266 => 127 | 314 => 129 | n => n, fun | 9 => 9 | 3 => 3 | 4 => 4 | 5 => 5 | 46 => 130 | 146 => 186 | 51 => 177 | n => n, fun | 1 => 0 | n => n⟩
theorem lay219 : Go.Proofs.Lays.n219 Tryz.prog lay219_ren := {
  mixed := by kernel_rfl
  f217 := Tryz.func101.trans (congrArg some (by kernel_rfl))
  f219 := Tryz.func80.trans (congrArg some (by kernel_rfl))
  f224 := Tryz.func105.trans (congrArg some (by kernel_rfl))
  f225 := Tryz.func104.trans (congrArg some (by kernel_rfl))
  f266 := Tryz.func127.trans (congrArg some (by kernel_rfl))
  f267 := Tryz.func106.trans (congrArg some (by kernel_rfl))
  f314 := Tryz.func129.trans (congrArg some (by kernel_rfl))
  t3 := Tryz.underlying3
  a3 := Tryz.isAgg3
  z3 := Tryz.sizeOf3
  v3 := Tryz.zeroValue3
  t4 := Tryz.underlying4
  a4 := Tryz.isAgg4
  z4 := Tryz.sizeOf4
  v4 := Tryz.zeroValue4
  t5 := Tryz.underlying5
  a5 := Tryz.isAgg5
  z5 := Tryz.sizeOf5
  v5 := Tryz.zeroValue5
  t9 := Tryz.underlying9
  a9 := Tryz.isAgg9
  z9 := Tryz.sizeOf9
  v9 := Tryz.zeroValue9
  t46 := Tryz.underlying130
  a46 := Tryz.isAgg130
  z46 := Tryz.sizeOf130
  v46 := Tryz.zeroValue130
  t51 := Tryz.underlying177
  a51 := Tryz.isAgg177
  z51 := Tryz.sizeOf177
  v51 := Tryz.zeroValue177
  t146 := Tryz.underlying186
  a146 := Tryz.isAgg186
  z146 := Tryz.sizeOf186
  v146 := Tryz.zeroValue186
  g1 := by kernel_rfl }
end Go.Proofs.YthlckipcgogogaaGreatDoor
/- The plain mathematics of units: the error, the octets, the text, and that the text tells the unit. -/
namespace Go.Proofs.YthlckipcgogogaaGreatDoor
set_option linter.unusedVariables false

/-- The error of a unit. -/
def chk (a0 a2 a4 a5 : Int) (n : Nat) : Int :=
  if 127 < a0 ∨ 127 < a2 ∨ 2 < a4 ∨ 5 < a5 ∨ (a5 ≠ 0 ∧ a4 ≠ 1) then 1
  else if (a4 = 2 ∧ (n < 2 ∨ 273 < n)) ∨ (a4 ≠ 2 ∧ 0 < n) then 5 else 0
theorem chk_cases (a0 a2 a4 a5 : Int) (n : Nat) : chk a0 a2 a4 a5 n = 0 ∨ chk a0 a2 a4 a5 n = 1 ∨ chk a0 a2 a4 a5 n = 5 := by
  unfold chk; split; · simp
  split <;> simp
theorem chk_ok {a0 a2 a4 a5 : Int} {n : Nat} : chk a0 a2 a4 a5 n = 0 ↔ a0 ≤ 127 ∧ a2 ≤ 127 ∧ a4 ≤ 2 ∧ a5 ≤ 5 ∧ (a5 = 0 ∨ a4 = 1) ∧ (a4 = 2 → 2 ≤ n ∧ n ≤ 273) ∧ (a4 ≠ 2 → n = 0) := by
  unfold chk
  split
  · simp; omega
  · split
    · simp; omega
    · simp; omega
/-- A number with the bit above it. -/
def low (x : Int) (b : Bool) : Int := if b then x + 128 else x
def contL (a4 a5 : Int) (l : List Int) : List Int := if a4 = 1 then [a5] else l
def restL (c : List Int) : List Int := ((min c.length 63 : Nat) : Int) :: c
/-- The octets of a unit. -/
def encL (a0 : Int) (b1 : Bool) (a2 : Int) (b3 : Bool) (a4 a5 : Int) (l : List Int) : List Int := low a0 b1 :: low a2 b3 :: restL (contL a4 a5 l)
theorem encL_length (a0 : Int) (b1 : Bool) (a2 : Int) (b3 : Bool) (a4 a5 : Int) (l : List Int) : (encL a0 b1 a2 b3 a4 a5 l).length = 3 + (contL a4 a5 l).length := by
  simp [encL, restL]; omega
theorem contL_octs {a4 a5 : Int} {l : List Int} (h5 : 0 ≤ a5 ∧ a5 ≤ 255) (h : ∀ x ∈ l, 0 ≤ x ∧ x ≤ 255) : ∀ x ∈ contL a4 a5 l, 0 ≤ x ∧ x ≤ 255 := by
  unfold contL
  split
  · intro x hx; simp at hx; subst hx; exact h5
  · exact h
theorem low_oct {x : Int} {b : Bool} (h0 : 0 ≤ x) (h1 : x ≤ 127) : 0 ≤ low x b ∧ low x b ≤ 255 := by
  unfold low; split <;> omega
theorem encL_octs {a0 : Int} {b1 : Bool} {a2 : Int} {b3 : Bool} {a4 a5 : Int} {l : List Int} (h0 : 0 ≤ a0 ∧ a0 ≤ 127) (h2 : 0 ≤ a2 ∧ a2 ≤ 127) (h5 : 0 ≤ a5 ∧ a5 ≤ 255) (h : ∀ x ∈ l, 0 ≤ x ∧ x ≤ 255) : ∀ x ∈ encL a0 b1 a2 b3 a4 a5 l, 0 ≤ x ∧ x ≤ 255 := by
  intro x hx
  simp only [encL, restL, List.mem_cons] at hx
  rcases hx with rfl | rfl | rfl | hx
  · exact low_oct h0.1 h0.2
  · exact low_oct h2.1 h2.2
  · omega
  · exact contL_octs h5 h x hx
/-- The numeral of a number below 1000. -/
def numL (n : Nat) : List UInt8 :=
  if n < 10 then [48 + UInt8.ofNat n] else if n < 100 then [48 + UInt8.ofNat (n / 10), 48 + UInt8.ofNat (n % 10)]
  else [48 + UInt8.ofNat (n / 100), 48 + UInt8.ofNat (n / 10 % 10), 48 + UInt8.ofNat (n % 10)]
def digitB (c : UInt8) : Bool := 48 ≤ c && c ≤ 57
theorem numL_digits (n : Nat) (h : n < 128) : (numL n).all digitB = true := by
  have : ∀ i : Fin 128, (numL i.val).all digitB = true := by decide +kernel
  exact this ⟨n, h⟩
def numV (l : List UInt8) : Nat := l.foldl (fun a c => 10 * a + (c.toNat - 48)) 0
theorem numL_inj {m n : Nat} (hm : m < 128) (hn : n < 128) (h : numL m = numL n) : m = n := by
  have key : ∀ i : Fin 128, numV (numL i.val) = i.val := by decide +kernel
  have h1 := key ⟨m, hm⟩
  have h2 := key ⟨n, hn⟩
  simp only [h] at h1
  exact h1.symm.trans h2
theorem split_digits : ∀ {d1 d2 : List UInt8} {s1 s2 : UInt8} {r1 r2 : List UInt8}, d1.all digitB = true → d2.all digitB = true → digitB s1 = false → digitB s2 = false → d1 ++ s1 :: r1 = d2 ++ s2 :: r2 → d1 = d2 ∧ s1 = s2 ∧ r1 = r2
  | [], [], _, _, _, _, _, _, _, _, h => by simp at h; simp [h]
  | [], c :: _, s1, _, _, _, _, h2, h3, _, h => by
    simp at h h2
    rw [h.1, h2.1] at h3
    cases h3
  | c :: _, [], _, s2, _, _, h1, _, _, h4, h => by
    simp at h h1
    rw [← h.1, h1.1] at h4
    cases h4
  | c :: d1, c' :: d2, _, _, _, _, h1, h2, h3, h4, h => by
    simp only [List.cons_append, List.cons.injEq] at h
    simp only [List.all_cons, Bool.and_eq_true] at h1 h2
    obtain ⟨rfl, e2, e3⟩ := split_digits h1.2 h2.2 h3 h4 h.2
    exact ⟨by rw [h.1], e2, e3⟩
def signU (b : Bool) : UInt8 := if b then 43 else 45
theorem signU_no (b : Bool) : digitB (signU b) = false := by cases b <;> decide
theorem signU_inj {a b : Bool} (h : signU a = signU b) : a = b := by cases a <;> cases b <;> first | rfl | (exact absurd h (by decide))
def numT (n : Int) (b : Bool) : List UInt8 := numL n.toNat ++ [signU b]
def hexd (v : Nat) : UInt8 := if v < 10 then 48 + UInt8.ofNat v else 87 + UInt8.ofNat v
def hexL : List Int → List UInt8
  | [] => []
  | v :: l => hexd (v / 16).toNat :: hexd (v % 16).toNat :: hexL l
theorem hexd_inj {m n : Nat} (hm : m < 16) (hn : n < 16) (h : hexd m = hexd n) : m = n := by
  have : ∀ i j : Fin 16, hexd i.val = hexd j.val → i.val = j.val := by decide +kernel
  exact this ⟨m, hm⟩ ⟨n, hn⟩ h
theorem hexL_inj : ∀ {l k : List Int}, (∀ x ∈ l, 0 ≤ x ∧ x ≤ 255) → (∀ x ∈ k, 0 ≤ x ∧ x ≤ 255) → hexL l = hexL k → l = k
  | [], [], _, _, _ => rfl
  | [], _ :: _, _, _, h => by simp [hexL] at h
  | _ :: _, [], _, _, h => by simp [hexL] at h
  | x :: l, y :: k, hl, hk, h => by
    simp only [hexL, List.cons.injEq] at h
    have hx := hl x (by simp)
    have hy := hk y (by simp)
    have e1 := hexd_inj (by omega) (by omega) h.1
    have e2 := hexd_inj (by omega) (by omega) h.2.1
    have e3 := hexL_inj (fun z hz => hl z (by simp [hz])) (fun z hz => hk z (by simp [hz])) h.2.2
    rw [e3, show x = y by omega]
theorem hexL_length : ∀ l : List Int, (hexL l).length = 2 * l.length
  | [] => rfl
  | _ :: l => by simp [hexL, hexL_length l]; omega
theorem hexL_append : ∀ l k : List Int, hexL (l ++ k) = hexL l ++ hexL k
  | [], _ => rfl
  | _ :: l, k => by simp [hexL, hexL_append l k]
def contT (a4 a5 : Int) (l : List Int) : List UInt8 :=
  if a4 = 1 then [115, 116, 97, 116, 101, 32] ++ numL a5.toNat else if a4 = 2 then [108, 111, 97, 100, 32] ++ hexL l else [102, 105, 108, 108]
/-- The text of a unit. -/
def textL (a0 : Int) (b1 : Bool) (a2 : Int) (b3 : Bool) (a4 a5 : Int) (l : List Int) : List UInt8 :=
  [98, 97, 99, 107, 32] ++ (numT a0 b1 ++ ([32, 102, 111, 114, 101, 32] ++ (numT a2 b3 ++ ([32] ++ contT a4 a5 l))))
theorem textL_ne (a0 : Int) (b1 : Bool) (a2 : Int) (b3 : Bool) (a4 a5 : Int) (l : List Int) : textL a0 b1 a2 b3 a4 a5 l ≠ [] := by simp [textL]
theorem contT_inj {a4 a5 c4 c5 : Int} {l k : List Int} (ha4 : 0 ≤ a4 ∧ a4 ≤ 2) (hc4 : 0 ≤ c4 ∧ c4 ≤ 2) (ha5 : 0 ≤ a5 ∧ a5 ≤ 5) (hc5 : 0 ≤ c5 ∧ c5 ≤ 5) (ha : a5 = 0 ∨ a4 = 1) (hc : c5 = 0 ∨ c4 = 1)
    (hl : ∀ x ∈ l, 0 ≤ x ∧ x ≤ 255) (hk : ∀ x ∈ k, 0 ≤ x ∧ x ≤ 255) (hl0 : a4 ≠ 2 → l = []) (hk0 : c4 ≠ 2 → k = []) (h : contT a4 a5 l = contT c4 c5 k) : a4 = c4 ∧ a5 = c5 ∧ l = k := by
  unfold contT at h
  rcases (by omega : a4 = 0 ∨ a4 = 1 ∨ a4 = 2) with rfl | rfl | rfl <;> rcases (by omega : c4 = 0 ∨ c4 = 1 ∨ c4 = 2) with rfl | rfl | rfl
  · exact ⟨rfl, by omega, by rw [hl0 (by omega), hk0 (by omega)]⟩
  · simp at h
  · simp at h
  · simp at h
  · simp at h
    have := numL_inj (by omega) (by omega) h
    exact ⟨rfl, by omega, by rw [hl0 (by omega), hk0 (by omega)]⟩
  · simp at h
  · simp at h
  · simp at h
  · simp at h
    exact ⟨rfl, by omega, hexL_inj hl hk h⟩
theorem textL_inj {a0 a2 a4 a5 c0 c2 c4 c5 : Int} {b1 b3 d1 d3 : Bool} {l k : List Int} (ha0 : 0 ≤ a0 ∧ a0 ≤ 127) (ha2 : 0 ≤ a2 ∧ a2 ≤ 127) (hc0 : 0 ≤ c0 ∧ c0 ≤ 127) (hc2 : 0 ≤ c2 ∧ c2 ≤ 127)
    (ha4 : 0 ≤ a4 ∧ a4 ≤ 2) (hc4 : 0 ≤ c4 ∧ c4 ≤ 2) (ha5 : 0 ≤ a5 ∧ a5 ≤ 5) (hc5 : 0 ≤ c5 ∧ c5 ≤ 5) (ha : a5 = 0 ∨ a4 = 1) (hc : c5 = 0 ∨ c4 = 1)
    (hl : ∀ x ∈ l, 0 ≤ x ∧ x ≤ 255) (hk : ∀ x ∈ k, 0 ≤ x ∧ x ≤ 255) (hl0 : a4 ≠ 2 → l = []) (hk0 : c4 ≠ 2 → k = [])
    (h : textL a0 b1 a2 b3 a4 a5 l = textL c0 d1 c2 d3 c4 c5 k) : a0 = c0 ∧ b1 = d1 ∧ a2 = c2 ∧ b3 = d3 ∧ a4 = c4 ∧ a5 = c5 ∧ l = k := by
  unfold textL numT at h
  have h1 := List.append_cancel_left h
  simp only [List.append_assoc, List.singleton_append] at h1
  obtain ⟨e0, e1, h2⟩ := split_digits (numL_digits _ (by omega)) (numL_digits _ (by omega)) (signU_no b1) (signU_no d1) h1
  have h3 := List.append_cancel_left h2
  obtain ⟨e2, e3, h4⟩ := split_digits (numL_digits _ (by omega)) (numL_digits _ (by omega)) (signU_no b3) (signU_no d3) h3
  have h5 := (List.cons.inj h4).2
  obtain ⟨e4, e5, e6⟩ := contT_inj ha4 hc4 ha5 hc5 ha hc hl hk hl0 hk0 h5
  have f0 := numL_inj (by omega) (by omega) e0
  have f2 := numL_inj (by omega) (by omega) e2
  exact ⟨by omega, signU_inj e1, by omega, signU_inj e3, e4, e5, e6⟩
end Go.Proofs.YthlckipcgogogaaGreatDoor
