/- The chapter's examples. -/
import Derived.Test.YtahkmadapojjkaaCgHear
namespace Go.Proofs.Ytahkmadapojjkaa
open Go.RowKit Go.Maps

def lv0 : Mt := ⟨4, 8, 12, 0⟩
def lc0 : Ct := Ct.fresh [7] 10
def lc1 : Ct := lc0.hear 100 7 2
def lenL : List Int := [3, 9, 5, 4, 2]
def levL : List Int := [0, 2, 2, 1, 0]
/-- The meter behind k lengths. -/
def lvK : Nat → Mt
  | 0 => lv0
  | k + 1 => (lvK k).set (lenL.getD k 0)
theorem lc1_err : lc0.err 100 7 2 = 0 := by decide +kernel
theorem lc1_R : lc1.R 7 = (2, 100) := by show updR lc0.R 7 (2, 100) 7 = (2, 100); exact updR_same _ _ _
theorem lvN0 : (lvK 0).next 3 = 0 := by decide +kernel
theorem lvL0 : (lvK 0).lev = 0 := by decide +kernel
theorem lvM0 : (lvK 1).lev = 0 := by decide +kernel
theorem lvN1 : (lvK 1).next 9 = 2 := by decide +kernel
theorem lvL1 : (lvK 1).lev = 0 := by decide +kernel
theorem lvM1 : (lvK 2).lev = 2 := by decide +kernel
theorem lvN2 : (lvK 2).next 5 = 2 := by decide +kernel
theorem lvL2 : (lvK 2).lev = 2 := by decide +kernel
theorem lvM2 : (lvK 3).lev = 2 := by decide +kernel
theorem lvN3 : (lvK 3).next 4 = 1 := by decide +kernel
theorem lvL3 : (lvK 3).lev = 2 := by decide +kernel
theorem lvM3 : (lvK 4).lev = 1 := by decide +kernel
theorem lvN4 : (lvK 4).next 2 = 0 := by decide +kernel
theorem lvL4 : (lvK 4).lev = 1 := by decide +kernel
theorem lvM4 : (lvK 5).lev = 0 := by decide +kernel
theorem lcT100 : lowM (lc1.R 7) 100 lc1.base = 2 := by rw [lc1_R]; decide +kernel
theorem lcT109 : lowM (lc1.R 7) 109 lc1.base = 2 := by rw [lc1_R]; decide +kernel
theorem lcT110 : lowM (lc1.R 7) 110 lc1.base = 1 := by rw [lc1_R]; decide +kernel
theorem lcT119 : lowM (lc1.R 7) 119 lc1.base = 1 := by rw [lc1_R]; decide +kernel
theorem lcT120 : lowM (lc1.R 7) 120 lc1.base = 0 := by rw [lc1_R]; decide +kernel
set_option maxHeartbeats 4000000 in
set_option maxRecDepth 100000 in
theorem lives_any (w : World) : Calls Try.prog 9 #[] w fun e w' => e = .returned (.bool true) ∧ Below w.heap.size w w' := by
  go_enter Try.func9, Try.ntmps9
  go_wp2_with fail
  refine (newM_any 4 8 12 w (by decide)).mono ?_
  rintro e w1 ⟨hb1, h⟩
  rcases h with ⟨_, mb, rfl, hm, hlm⟩ | ⟨hbad, _⟩
  rotate_left
  · exact absurd (by decide) hbad
  have HM := Lib.hid (show MtAt w1 mb lv0 from hm)
  have HB1 := Lib.hid hb1
  have HLm := Lib.hid (And.intro hlm hm.lt)
  clear hb1 hm hlm
  go_wp2_with fail
  refine (newC_any [7] 10 w1 (by decide) (by decide)).mono ?_
  rintro e w2 ⟨hb2, h⟩
  rcases h with ⟨_, cb, bm, rfl, hc, hlc, hlb⟩ | ⟨hbad, _⟩
  rotate_left
  · exact absurd (by decide) hbad
  have HC := Lib.hid (show CtAt w2 cb bm lc0 from hc)
  have HM := Lib.hid (HM.out.below hb2)
  have HX := Lib.hid (HB1.out.trans (hb2.mono HB1.out.size))
  have HLo := Lib.hid (show w.heap.size ≤ mb ∧ w.heap.size ≤ cb ∧ w.heap.size ≤ bm ∧ mb ≠ cb ∧ mb ≠ bm by
    have h1 := HB1.out.size
    have h2 := HLm.out
    omega)
  clear hb2 hc hlc hlb
  go_wp2_with fail
  refine (hear_any 100 7 2 w2 HC.out (by decide) (show (7 : Int) ∈ [7] by decide)).mono ?_
  rintro e w3 ⟨rfl, hc, hx⟩
  rw [lc1_err] at hc ⊢
  have HC := Lib.hid (show CtAt w3 cb bm lc1 from hc)
  have HM := Lib.hid (HM.out.exc hx (by unfold Cu; have := HLo.out; omega))
  have HX := Lib.hid (HX.out.trans (hx.below HX.out.size (fun i _ hi => by have := HLo.out; rcases hi with hi | hi <;> omega)))
  clear hc hx
  have r1 : Row .i64 (w3.alloc (.cells #[.int .i64 3, .int .i64 9, .int .i64 5, .int .i64 4, .int .i64 2] 3)) (some ⟨w3.heap.size, 0, none⟩) 5 5 lenL := row_lit .i64 w3 3 lenL 5 rfl (by decide) (by decide)
  have x1 := below_alloc w3 (.cells #[.int .i64 3, .int .i64 9, .int .i64 5, .int .i64 4, .int .i64 2] 3)
  have r2 : Row .i64 ((w3.alloc (.cells #[.int .i64 3, .int .i64 9, .int .i64 5, .int .i64 4, .int .i64 2] 3)).alloc (.cells #[.int .i64 0, .int .i64 2, .int .i64 2, .int .i64 1, .int .i64 0] 3)) (some ⟨(w3.alloc (.cells #[.int .i64 3, .int .i64 9, .int .i64 5, .int .i64 4, .int .i64 2] 3)).heap.size, 0, none⟩) 5 5 levL := row_lit .i64 (w3.alloc (.cells #[.int .i64 3, .int .i64 9, .int .i64 5, .int .i64 4, .int .i64 2] 3)) 3 levL 5 rfl (by decide) (by decide)
  have x2 := below_alloc (w3.alloc (.cells #[.int .i64 3, .int .i64 9, .int .i64 5, .int .i64 4, .int .i64 2] 3)) (.cells #[.int .i64 0, .int .i64 2, .int .i64 2, .int .i64 1, .int .i64 0] 3)
  have s1 := World.size_alloc w3 (.cells #[.int .i64 3, .int .i64 9, .int .i64 5, .int .i64 4, .int .i64 2] 3)
  have HW4 := Lib.hid (And.intro r1 (And.intro x1 (And.intro r2 (And.intro x2 s1))))
  clear r1 x1 r2 x2 s1
  go_wp2_with fail
  have hW4 := HW4.out
  have hm4 := (HM.out.below hW4.2.1).below hW4.2.2.2.1
  have hc4 := (HC.out.below hW4.2.1).below hW4.2.2.2.1
  have hx4 := HX.out.trans ((hW4.2.1.trans (hW4.2.2.2.1.mono hW4.2.1.size)).mono HX.out.size)
  have hr1 := hW4.1.later hW4.2.2.2.1
  have hr2 := hW4.2.2.1
  have hlo : mb < w3.heap.size ∧ mb < w3.heap.size + 1 := by have := HM.out.lt; omega
  rw [hW4.2.2.2.2] at hr2
  clear hW4
  obtain ⟨d1, hd1⟩ : ∃ d, d = w3.heap.size := ⟨_, rfl⟩
  obtain ⟨d2, hd2⟩ : ∃ d, d = w3.heap.size + 1 := ⟨_, rfl⟩
  rw [← hd2] at hr2 hlo ⊢
  rw [← hd1] at hr1 hlo ⊢
  generalize (w3.alloc (.cells #[.int .i64 3, .int .i64 9, .int .i64 5, .int .i64 4, .int .i64 2] 3)).alloc (.cells #[.int .i64 0, .int .i64 2, .int .i64 2, .int .i64 1, .int .i64 0] 3) = w4 at hm4 hc4 hx4 hr1 hr2 ⊢
  have HM := Lib.hid hm4
  have HC := Lib.hid hc4
  have HX := Lib.hid hx4
  have HR1 := Lib.hid hr1
  have HR2 := Lib.hid hr2
  have HD := Lib.hid hlo
  clear hm4 hc4 hx4 hr1 hr2 hlo hd1 hd2 HW4
  go_loopw [7] (fun v wr => ∃ (k : Nat) (z : Int), k ≤ 5 ∧ z = k ∧ v = .int .i64 z ∧ MtAt wr mb (lvK k) ∧ Exc (fun i => i = mb) w4 wr) (fun v _ => 5 - (intOf v).toNat)
  case atStart => exact ⟨0, 0, by omega, rfl, rfl, HM.out, Exc.refl _ _⟩
  case round =>
    obtain ⟨k, z, hk, hz, rfl, hm, hx⟩ := hrel
    have HMr := Lib.hid hm
    have HXr := Lib.hid hx
    have HR1r := Lib.hid (HR1.out.exc (S := fun i => i = mb) hx (fun y hy => by obtain rfl := Option.some.inj hy; show ¬ d1 = mb; have := HD.out; omega))
    have HR2r := Lib.hid (HR2.out.exc (S := fun i => i = mb) hx (fun y hy => by obtain rfl := Option.some.inj hy; show ¬ d2 = mb; have := HD.out; omega))
    clear hm hx
    have hcase : (k = 0 ∧ z = 0) ∨ (k = 1 ∧ z = 1) ∨ (k = 2 ∧ z = 2) ∨ (k = 3 ∧ z = 3) ∨ (k = 4 ∧ z = 4) ∨ (k = 5 ∧ z = 5) := by omega
    clear hk hz
    rcases hcase with ⟨rfl, rfl⟩ | ⟨rfl, rfl⟩ | ⟨rfl, rfl⟩ | ⟨rfl, rfl⟩ | ⟨rfl, rfl⟩ | ⟨rfl, rfl⟩
    · obtain ⟨b5, o5, he5, hc5⟩ := HR1r.out.cells.resolve_left (by omega)
      obtain ⟨b6, o6, he6, hc6⟩ := HR2r.out.cells.resolve_left (by omega)
      obtain ⟨rfl, rfl, _⟩ := Addr.mk.inj (Option.some.inj he5)
      obtain ⟨rfl, rfl, _⟩ := Addr.mk.inj (Option.some.inj he6)
      have c5 : wr.cell? ⟨d1, 0, none⟩ = some (.int .i64 3) := hc5 0 (by omega)
      clear he5 he6 hc5
      go_wp2_with fail
      refine (mset_any 3 wr HMr.out).mono ?_
      rintro e w5 ⟨rfl, hm, hx⟩
      rw [lvN0, lvL0]
      have c6 : w5.cell? ⟨d2, 0, none⟩ = some (.int .i64 0) := by
        rw [hx.cell (hc6 0 (by omega)) (show ¬ d2 = mb by have := HD.out; omega)]; rfl
      have HM5 := Lib.hid (show MtAt w5 mb (lvK 1) from hm)
      have HX5 := Lib.hid (HXr.out.trans hx (fun _ _ h => h))
      clear hm hx hc6 c5
      go_wp2_with fail
      refine (mlevel_any w5 HM5.out).mono ?_
      rintro e w6 ⟨rfl, rfl⟩
      rw [lvM0]
      go_wp2
      exact ⟨⟨1, 1, by omega, rfl, by go_num, HM5.out, HX5.out⟩, by decide⟩
    · obtain ⟨b5, o5, he5, hc5⟩ := HR1r.out.cells.resolve_left (by omega)
      obtain ⟨b6, o6, he6, hc6⟩ := HR2r.out.cells.resolve_left (by omega)
      obtain ⟨rfl, rfl, _⟩ := Addr.mk.inj (Option.some.inj he5)
      obtain ⟨rfl, rfl, _⟩ := Addr.mk.inj (Option.some.inj he6)
      have c5 : wr.cell? ⟨d1, 1, none⟩ = some (.int .i64 9) := hc5 1 (by omega)
      clear he5 he6 hc5
      go_wp2_with fail
      refine (mset_any 9 wr HMr.out).mono ?_
      rintro e w5 ⟨rfl, hm, hx⟩
      rw [lvN1, lvL1]
      have c6 : w5.cell? ⟨d2, 1, none⟩ = some (.int .i64 2) := by
        rw [hx.cell (hc6 1 (by omega)) (show ¬ d2 = mb by have := HD.out; omega)]; rfl
      have HM5 := Lib.hid (show MtAt w5 mb (lvK 2) from hm)
      have HX5 := Lib.hid (HXr.out.trans hx (fun _ _ h => h))
      clear hm hx hc6 c5
      go_wp2_with fail
      refine (mlevel_any w5 HM5.out).mono ?_
      rintro e w6 ⟨rfl, rfl⟩
      rw [lvM1]
      go_wp2
      exact ⟨⟨2, 2, by omega, rfl, by go_num, HM5.out, HX5.out⟩, by decide⟩
    · obtain ⟨b5, o5, he5, hc5⟩ := HR1r.out.cells.resolve_left (by omega)
      obtain ⟨b6, o6, he6, hc6⟩ := HR2r.out.cells.resolve_left (by omega)
      obtain ⟨rfl, rfl, _⟩ := Addr.mk.inj (Option.some.inj he5)
      obtain ⟨rfl, rfl, _⟩ := Addr.mk.inj (Option.some.inj he6)
      have c5 : wr.cell? ⟨d1, 2, none⟩ = some (.int .i64 5) := hc5 2 (by omega)
      clear he5 he6 hc5
      go_wp2_with fail
      refine (mset_any 5 wr HMr.out).mono ?_
      rintro e w5 ⟨rfl, hm, hx⟩
      rw [lvN2, lvL2]
      have c6 : w5.cell? ⟨d2, 2, none⟩ = some (.int .i64 2) := by
        rw [hx.cell (hc6 2 (by omega)) (show ¬ d2 = mb by have := HD.out; omega)]; rfl
      have HM5 := Lib.hid (show MtAt w5 mb (lvK 3) from hm)
      have HX5 := Lib.hid (HXr.out.trans hx (fun _ _ h => h))
      clear hm hx hc6 c5
      go_wp2_with fail
      refine (mlevel_any w5 HM5.out).mono ?_
      rintro e w6 ⟨rfl, rfl⟩
      rw [lvM2]
      go_wp2
      exact ⟨⟨3, 3, by omega, rfl, by go_num, HM5.out, HX5.out⟩, by decide⟩
    · obtain ⟨b5, o5, he5, hc5⟩ := HR1r.out.cells.resolve_left (by omega)
      obtain ⟨b6, o6, he6, hc6⟩ := HR2r.out.cells.resolve_left (by omega)
      obtain ⟨rfl, rfl, _⟩ := Addr.mk.inj (Option.some.inj he5)
      obtain ⟨rfl, rfl, _⟩ := Addr.mk.inj (Option.some.inj he6)
      have c5 : wr.cell? ⟨d1, 3, none⟩ = some (.int .i64 4) := hc5 3 (by omega)
      clear he5 he6 hc5
      go_wp2_with fail
      refine (mset_any 4 wr HMr.out).mono ?_
      rintro e w5 ⟨rfl, hm, hx⟩
      rw [lvN3, lvL3]
      have c6 : w5.cell? ⟨d2, 3, none⟩ = some (.int .i64 1) := by
        rw [hx.cell (hc6 3 (by omega)) (show ¬ d2 = mb by have := HD.out; omega)]; rfl
      have HM5 := Lib.hid (show MtAt w5 mb (lvK 4) from hm)
      have HX5 := Lib.hid (HXr.out.trans hx (fun _ _ h => h))
      clear hm hx hc6 c5
      go_wp2_with fail
      refine (mlevel_any w5 HM5.out).mono ?_
      rintro e w6 ⟨rfl, rfl⟩
      rw [lvM3]
      go_wp2
      exact ⟨⟨4, 4, by omega, rfl, by go_num, HM5.out, HX5.out⟩, by decide⟩
    · obtain ⟨b5, o5, he5, hc5⟩ := HR1r.out.cells.resolve_left (by omega)
      obtain ⟨b6, o6, he6, hc6⟩ := HR2r.out.cells.resolve_left (by omega)
      obtain ⟨rfl, rfl, _⟩ := Addr.mk.inj (Option.some.inj he5)
      obtain ⟨rfl, rfl, _⟩ := Addr.mk.inj (Option.some.inj he6)
      have c5 : wr.cell? ⟨d1, 4, none⟩ = some (.int .i64 2) := hc5 4 (by omega)
      clear he5 he6 hc5
      go_wp2_with fail
      refine (mset_any 2 wr HMr.out).mono ?_
      rintro e w5 ⟨rfl, hm, hx⟩
      rw [lvN4, lvL4]
      have c6 : w5.cell? ⟨d2, 4, none⟩ = some (.int .i64 0) := by
        rw [hx.cell (hc6 4 (by omega)) (show ¬ d2 = mb by have := HD.out; omega)]; rfl
      have HM5 := Lib.hid (show MtAt w5 mb (lvK 5) from hm)
      have HX5 := Lib.hid (HXr.out.trans hx (fun _ _ h => h))
      clear hm hx hc6 c5
      go_wp2_with fail
      refine (mlevel_any w5 HM5.out).mono ?_
      rintro e w6 ⟨rfl, rfl⟩
      rw [lvM4]
      go_wp2
      exact ⟨⟨5, 5, by omega, rfl, by go_num, HM5.out, HX5.out⟩, by decide⟩
    · have HC5 := Lib.hid (HC.out.exc HXr.out (show ¬ cb = mb by have := HLo.out; omega) (show ¬ bm = mb by have := HLo.out; omega))
      have HX5 := Lib.hid (HX.out.trans (HXr.out.below HX.out.size (fun i _ hi => by have := HLo.out; omega)))
      clear HC HM HMr HR1r HR2r
      obtain ⟨W, hW⟩ : ∃ x, x = wr := ⟨_, rfl⟩
      subst hW
      clear HXr
      go_wp2_with fail
      refine (clevel_any 100 7 W HC5.out (by decide) (by decide)).mono ?_
      rintro e v0 ⟨rfl, hb⟩
      rw [lcT100]
      have HC5 := Lib.hid (HC5.out.below hb)
      have HX5 := Lib.hid (HX5.out.trans (hb.mono HX5.out.size))
      clear hb
      go_wp2_with fail
      refine (clevel_any 109 7 v0 HC5.out (by decide) (by decide)).mono ?_
      rintro e v1 ⟨rfl, hb⟩
      rw [lcT109]
      have HC5 := Lib.hid (HC5.out.below hb)
      have HX5 := Lib.hid (HX5.out.trans (hb.mono HX5.out.size))
      clear hb
      go_wp2_with fail
      refine (clevel_any 110 7 v1 HC5.out (by decide) (by decide)).mono ?_
      rintro e v2 ⟨rfl, hb⟩
      rw [lcT110]
      have HC5 := Lib.hid (HC5.out.below hb)
      have HX5 := Lib.hid (HX5.out.trans (hb.mono HX5.out.size))
      clear hb
      go_wp2_with fail
      refine (clevel_any 119 7 v2 HC5.out (by decide) (by decide)).mono ?_
      rintro e v3 ⟨rfl, hb⟩
      rw [lcT119]
      have HC5 := Lib.hid (HC5.out.below hb)
      have HX5 := Lib.hid (HX5.out.trans (hb.mono HX5.out.size))
      clear hb
      go_wp2_with fail
      refine (clevel_any 120 7 v3 HC5.out (by decide) (by decide)).mono ?_
      rintro e v4 ⟨rfl, hb⟩
      rw [lcT120]
      have HC5 := Lib.hid (HC5.out.below hb)
      have HX5 := Lib.hid (HX5.out.trans (hb.mono HX5.out.size))
      clear hb
      go_wp2_with fail
      refine (sheds_any 2 1 v4 (by decide)).mono ?_
      rintro e v5 ⟨rfl, rfl⟩
      go_wp2_with fail
      refine (sheds_any 2 2 v4 (by decide)).mono ?_
      rintro e v5 ⟨rfl, rfl⟩
      go_wp2
      go_ret
      exact ⟨rfl, HX5.out⟩
end Go.Proofs.Ytahkmadapojjkaa
