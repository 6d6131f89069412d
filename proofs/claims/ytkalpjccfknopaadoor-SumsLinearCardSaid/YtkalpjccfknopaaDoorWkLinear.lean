/- The walk of SumsLinear. -/
import Derived.Test.YtkalpjccfknopaaDoorSumsLives
import Derived.Test.YtkalpjccfknopaaDoorLinMath
import Derived.Test.YtkalpjccfknopaaDoorStepNum
import Derived.Deep.DrawnRows
namespace Go.Proofs.YtkalpjccfknopaaDoor
open Go.RowKit
attribute [local go_sem ↓] Go.wp_at_zero Go.wp_at_succ

set_option maxHeartbeats 400000 in
theorem at_any (a : Option Addr) (n c i : Nat) (l : List Int) (w : World) (h : Row .u8 w a n c l) (hi : i ≤ 1000) :
    Calls Tryd.prog 19 #[.slice a n c, .int .i64 i] w fun e w' => e = .returned (.int .u8 (atL l i)) ∧ w = w' := by
  obtain ⟨hl, hle, hm, hw, hc, _⟩ := h
  unfold maxLen at hm
  by_cases h0 : n = 0
  · subst h0
    have hr : atL l i = 0 := by unfold atL; rw [if_pos hl]
    have HR := Lib.hid hr
    clear hr hl hw hc
    go_enter Tryd.func19, Tryd.ntmps19
    go_wp2
    go_ret
    exact ⟨ret_int HR.out.symm, rfl⟩
  · rcases hc with hc | ⟨b, o, rfl, hc⟩
    · omega
    have hmod := Nat.mod_lt i (Nat.pos_of_ne_zero h0)
    have hr : atL l i = l.getD (i % n) 0 := by unfold atL; rw [if_neg (by omega), hl]
    have g := hc (i % n) hmod
    rw [← hr] at g
    have hn0 : ((n : Int) == 0) = false := by simp; omega
    have hti : ((i : Int) % (n : Int)).toNat = i % n := by rw [← Int.natCast_emod]; exact Int.toNat_natCast _
    have htm : (i : Int).tmod (n : Int) = (i : Int) % (n : Int) := Int.tmod_eq_emod_of_nonneg (by omega)
    have hpos : (0 : Int) ≤ (i : Int) % (n : Int) := Int.emod_nonneg _ (by omega)
    have hlt : (i : Int) % (n : Int) < (n : Int) := Int.emod_lt_of_pos _ (by omega)
    have hne : ¬ ((n : Int) = 0) := by omega
    clear hr hl hw hc
    go_enter Tryd.func19, Tryd.ntmps19
    go_wp2
    go_ret
    exact ⟨rfl, rfl⟩
set_option maxHeartbeats 4000000 in
set_option maxRecDepth 100000 in
theorem sumsLinear_walk (a1 : Option Addr) (n1 c1 : Nat) (l1 : List Int) (a2 : Option Addr) (n2 c2 : Nat) (l2 : List Int) (a3 : Option Addr) (n3 c3 : Nat) (l3 : List Int) (w : World) (hbeh : BehindOk w) (h1 : Row .u8 w a1 n1 c1 l1) (h2 : Row .u8 w a2 n2 c2 l2) (h3 : Row .u8 w a3 n3 c3 l3) :
    Calls Tryd.prog 6 #[.slice a1 n1 c1, .slice a2 n2 c2, .slice a3 n3 c3] w fun e w' => e = .returned (.bool true) ∧ Below w.heap.size w w' := by
  have BB0 := Lib.hid (Below.refl w.heap.size w)
  have HB0 := Lib.hid hbeh
  have RX := Lib.hid h1
  have RY := Lib.hid h2
  have RZ := Lib.hid h3
  have hcm := h1.max
  have hle := h1.le
  unfold maxLen at hcm
  by_cases hbig : 300 < n1
  · clear h1 h2 h3 hbeh
    go_enter Tryd.func6, Tryd.ntmps6
    go_wp2_with fail
    refine (lives_any _ HB0.out).mono ?_
    rintro e w11 ⟨rfl, hb⟩
    have BB12 := Lib.hid (BB0.out.trans ((hb).mono BB0.out.size))
    clear hb BB0 HB0
    go_wp2
    go_ret
    exact ⟨rfl, BB12.out⟩
  · have ho1 := h1.octs
    have ho2 := h2.octs
    have ho3 := h3.octs
    have hll := h1.len
    have hcrc := crc_allL l1 l2 l3
    rw [hll] at hcrc
    have HO1 := Lib.hid ho1
    have HO2 := Lib.hid ho2
    have HO3 := Lib.hid ho3
    have HLL := Lib.hid hll
    have HCrc := Lib.hid hcrc
    have hx1 := h1.cells
    have HCells := Lib.hid hx1
    clear ho1 ho2 ho3 hll hcrc hx1 h1 h2 h3 hbeh BB0
    go_enter Tryd.func6, Tryd.ntmps6
    go_wp2
    go_loopw [8, 9, 10, 11] (fun u v z ii wr => ∃ i : Nat, i ≤ n1 ∧ ii = .int .i64 i ∧ Below w.heap.size w wr ∧ Trio w.heap.size wr i u v z (colL l2 i) (colL l3 i) (allL l1 l2 l3 i)) (fun _ _ _ ii _ => n1 - (intOf ii).toNat)
    case atStart => exact ⟨0, Nat.zero_le _, rfl, Below.refl _ _, Trio.nil _ _⟩
    case round =>
      obtain ⟨i, hi, rfl, hbel, htri⟩ := hrel
      obtain ⟨W0, rfl⟩ : ∃ x, x = wr := ⟨_, rfl⟩
      have hbz := hbel.size
      have HBel := Lib.hid hbel
      have HTri := Lib.hid htri
      clear hbel htri
      by_cases hlt : i < n1
      · obtain ⟨p, q, rfl, hcc⟩ : ∃ p q, a1 = some ⟨p, q, none⟩ ∧ ∀ j, j < n1 → w.cell? ⟨p, q + j, none⟩ = some (.int .u8 (l1.getD j 0)) := by
          rcases HCells.out with h0 | ⟨b, o, ha, hc⟩
          · omega
          · exact ⟨b, o, ha, hc⟩
        have g := hcc i hlt
        have hxr := getD_oct HO1.out i
        have hpl : p < w.heap.size := World.block_lt_of_cell? w _ g
        obtain ⟨x, hxe⟩ : ∃ x, x = l1.getD i 0 := ⟨_, rfl⟩
        rw [← hxe] at g hxr
        obtain ⟨hx0, hx1⟩ := hxr
        have hyr := atL_range HO2.out i
        obtain ⟨y, hye⟩ : ∃ y, y = atL l2 i := ⟨_, rfl⟩
        rw [← hye] at hyr
        obtain ⟨hy0, hy1⟩ := hyr
        have hzr := atL_range HO3.out i
        obtain ⟨z, hze⟩ : ∃ z, z = atL l3 i := ⟨_, rfl⟩
        rw [← hze] at hzr
        obtain ⟨hz0, hz1⟩ := hzr
        have hxor1 : bits BinOp.xor IntKind.u8 x y = ((x.toNat ^^^ y.toNat : Nat) : Int) := u8_xor x y hx0 (by omega) hy0 (by omega)
        have hT8 := Nat.xor_lt_two_pow (n := 8) (x := x.toNat) (y := y.toNat) (by omega) (by omega)
        obtain ⟨t, hte⟩ : ∃ t : Int, t = ((x.toNat ^^^ y.toNat : Nat) : Int) := ⟨_, rfl⟩
        rw [← hte] at hxor1
        have hxor2 : bits BinOp.xor IntKind.u8 t z = xorL l1 l2 l3 i := by
          rw [u8_xor t z (by omega) (by omega) hz0 (by omega), xorL, ← hxe, ← hye, ← hze, hte, Int.toNat_natCast]
        obtain ⟨s, hse⟩ : ∃ s, s = xorL l1 l2 l3 i := ⟨_, rfl⟩
        rw [← hse] at hxor2
        have hca := colL_succ l2 i
        have hcb := colL_succ l3 i
        have hcc2 := allL_succ l1 l2 l3 i
        rw [← hye] at hca
        rw [← hze] at hcb
        rw [← hse] at hcc2
        have hat2 := fun W (hW : Below w.heap.size w W) => at_any a2 n2 c2 i l2 W (RY.out.later hW) (by omega)
        rw [← hye] at hat2
        have hat3 := fun W (hW : Below w.heap.size w W) => at_any a3 n3 c3 i l3 W (RZ.out.later hW) (by omega)
        rw [← hze] at hat3
        have HA2 := Lib.hid hat2
        have HA3 := Lib.hid hat3
        have HCa := Lib.hid hca
        have HCb := Lib.hid hcb
        have HCc := Lib.hid hcc2
        have HX1 := Lib.hid hxor1
        have HX2 := Lib.hid hxor2
        have HG := Lib.hid g
        clear hat2 hat3 hca hcb hcc2 hxor1 hxor2 hxe hye hze hte hse hcc g hT8
        go_wp2_with fail
        refine (HA2.out _ HBel.out).mono ?_
        rintro e w' ⟨rfl, rfl⟩
        go_wp2_with (at_builtin; refine wpList_append_one Tryd.underlying23 info8 (by decide) rfl _ _ rfl w.heap.size _ _ _ _ rfl (by exact HTri.out.a) rfl (by omega) hbz ?_)
        intro v1 W1 hown hgr gv1 cv1 hv1
        clear hv1
        have htr1 := HTri.out.add (Below.refl _ _) hown hgr
        rw [← HCa.out] at htr1
        have hbb := HTri.out.below (Below.refl _ _) hgr hbz
        have hbl1 := HBel.out.trans hbb
        have hbz1 := hbl1.size
        have HBel1 := Lib.hid hbl1
        have HTri1 := Lib.hid (htr1.rot i (colL_length _ _))
        clear hown hgr htr1 hbb hbl1 HBel HTri
        go_wp2_with fail
        refine (HA3.out _ HBel1.out).mono ?_
        rintro e w' ⟨rfl, rfl⟩
        go_wp2_with (at_builtin; refine wpList_append_one Tryd.underlying23 info8 (by decide) rfl _ _ rfl w.heap.size _ _ _ _ rfl (by exact HTri1.out.a) rfl (by omega) hbz1 ?_)
        intro v2 W2 hown hgr gv2 cv2 hv2
        clear hv2
        have htr1 := HTri1.out.add (Below.refl _ _) hown hgr
        rw [← HCb.out] at htr1
        have hbb := HTri1.out.below (Below.refl _ _) hgr hbz1
        have hbl2 := HBel1.out.trans hbb
        have hbz2 := hbl2.size
        have HBel2 := Lib.hid hbl2
        have HTri2 := Lib.hid (htr1.rot i (allL_length _ _ _ _))
        clear hown hgr htr1 hbb hbl2 HBel1 HTri1
        have g2 : W2.cell? ⟨p, q + i, none⟩ = some (.int .u8 x) := by rw [HBel2.out.cell (p := ⟨p, q + i, none⟩) hpl]; exact HG.out
        have hx1' := HX1.out
        have hx2' := HX2.out
        have hwx : Below W2.heap.size W2 (W2.alloc (.cells #[.int .u8 s] 5)).drew := (below_alloc _ _).drew
        have hbw := HBel2.out.trans (hwx.mono hbz2)
        have HWX := Lib.hid hwx
        have HBW := Lib.hid hbw
        clear hwx hbw
        go_wp2_with fail
        go_region_held3 (fun w' => w'.cell? ⟨p, q + i, none⟩ = some (.int .u8 x)) (first | go_keep | assumption)
          (first
            | (go_at_call 19; ((with_reducible refine (HA2.out _ (by first | exact HBel2.out | exact HBel2.out.drew)).mono ?_); rintro e w' ⟨rfl, rfl⟩))
            | (go_at_call 19; ((with_reducible refine (HA3.out _ (by first | exact HBel2.out | exact HBel2.out.drew)).mono ?_); rintro e w' ⟨rfl, rfl⟩))
            | (refine step_append_num Tryd.underlying23 info8 (by decide) (by rfl) _ _ (by rfl) w.heap.size _ _ _ s (by rfl) (by exact World.ownsRow.alloc HTri2.out.a _) W2.heap.size (by rfl) (by exact (show (W2.alloc (.cells #[.int .u8 s] 5)).cell? ⟨W2.heap.size, 0, none⟩ = some (.int .u8 s) from by rw [cell_of_row _ _ 0 _ _ _ (heap_alloc_new W2 _)]; rfl)) (by omega) (by simp <;> omega) ?_; intro v3 W3 q1 q2; have htr3 := HTri2.out.add HWX.out q1 q2; have hbx := HBW.out.trans (HTri2.out.below HWX.out q2 hbz2); have g3 : W3.cell? ⟨p, q + i, none⟩ = some (.int .u8 x) := (by rw [hbx.cell (p := ⟨p, q + i, none⟩) hpl]; exact HG.out); have HQ1 := Lib.hid htr3; have HQ2 := Lib.hid hbx; clear htr3 hbx q1 q2)
            | fail)
        go_wp2
        have htr3 := HQ1.out
        rw [← HCc.out] at htr3
        have htr4 := htr3.rot (i + 1) (colL_length _ _)
        exact ⟨⟨i + 1, by omega, by go_num, HQ2.out, htr4⟩, by simp [intOf]; omega⟩
      · obtain rfl : n1 = i := by omega
        have htz := HTri.out
        obtain ⟨m8, hrb⟩ := htz.b
        obtain ⟨m9, hrc⟩ := htz.c
        have e8 := ownsRow_num hrb
        have e9 := ownsRow_num hrc
        rw [colL_length] at e8
        rw [allL_length] at e9
        rw [e8] at hrb
        rw [e9] at hrc
        clear e8 e9
        obtain ⟨aU, cU, rfl, rU, _⟩ := ownsRow_at .u8 htz.a (fun x hx => wf_u8.2 (colL_octs HO2.out _ x hx))
        obtain ⟨aV, cV, rfl, rV, _⟩ := ownsRow_at .u8 hrb (fun x hx => wf_u8.2 (colL_octs HO3.out _ x hx))
        obtain ⟨aZ, cZ, rfl, rZ, _⟩ := ownsRow_at .u8 hrc (fun x hx => wf_u8.2 (allL_octs HO1.out HO2.out HO3.out _ x hx))
        have hA := crc_oct_lt HO1.out
        have hU := crc_oct_lt (colL_octs HO2.out n1)
        have hV := crc_oct_lt (colL_octs HO3.out n1)
        obtain ⟨SA, hSA⟩ : ∃ S, S = Crc.crc (toN l1) := ⟨_, rfl⟩
        obtain ⟨SU, hSU⟩ : ∃ S, S = Crc.crc (toN (colL l2 n1)) := ⟨_, rfl⟩
        obtain ⟨SV, hSV⟩ : ∃ S, S = Crc.crc (toN (colL l3 n1)) := ⟨_, rfl⟩
        obtain ⟨SZ, hSZ⟩ : ∃ S, S = Crc.crc (toN (allL l1 l2 l3 n1)) := ⟨_, rfl⟩
        rw [← hSA] at hA
        rw [← hSU] at hU
        rw [← hSV] at hV
        have hx1 := u16_xor_nat SA SU hA hU
        have hAU := Crc.xor_lt hA hU
        have hx2 := u16_xor_nat (SA ^^^ SU) SV hAU hV
        have hz := HCrc.out
        rw [← hSA, ← hSU, ← hSV, ← hSZ] at hz
        obtain ⟨T, hT⟩ : ∃ T, T = SA ^^^ SU := ⟨_, rfl⟩
        rw [← hT] at hx1 hx2 hz
        rw [← hz] at hx2
        have HhSA := Lib.hid hSA
        have HhSU := Lib.hid hSU
        have HhSV := Lib.hid hSV
        have HhSZ := Lib.hid hSZ
        have Hhx1 := Lib.hid hx1
        have Hhx2 := Lib.hid hx2
        have HRU := Lib.hid rU
        have HRV := Lib.hid rV
        have HRZ := Lib.hid rZ
        have HB1 := Lib.hid (HB0.out.later HBel.out)
        have BB9 := Lib.hid HBel.out
        clear htz hrb hrc rU rV rZ hSA hSU hSV hSZ hx1 hx2 hz hT hAU HTri HB0
        go_wp2_with fail
        refine (sum_n _ n1 cZ _ SZ _ HB1.out HRZ.out (by rw [HhSZ.out])).mono ?_
        rintro e w' ⟨rfl, rfl⟩
        go_wp2_with fail
        refine (sum_n _ n1 c1 l1 SA _ HB1.out (RX.out.later BB9.out) (by rw [HhSA.out])).mono ?_
        rintro e w' ⟨rfl, rfl⟩
        go_wp2_with fail
        refine (sum_n _ n1 cU _ SU _ HB1.out HRU.out (by rw [HhSU.out])).mono ?_
        rintro e w' ⟨rfl, rfl⟩
        go_wp2_with fail
        refine (sum_n _ n1 cV _ SV _ HB1.out HRV.out (by rw [HhSV.out])).mono ?_
        rintro e w' ⟨rfl, rfl⟩
        have hx1 := Hhx1.out
        have hx2 := Hhx2.out
        go_wp2_with fail
        refine (lives_any _ HB1.out).mono ?_
        rintro e w21 ⟨rfl, hb⟩
        have BB22 := Lib.hid (BB9.out.trans ((hb).mono BB9.out.size))
        clear hb BB9 HB1
        go_wp2
        go_ret
        exact ⟨rfl, BB22.out⟩
end Go.Proofs.YtkalpjccfknopaaDoor
