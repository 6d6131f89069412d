/- CongestionsErrors: marks that do not ascend, destinations without room, nil and zero objects. -/
import Derived.Test.YtahkmadapojjkaaCgLives
import Derived.Test.YtahkmadapojjkaaCgErr
namespace Go.Proofs.Ytahkmadapojjkaa
open Go.RowKit Go.Maps

set_option maxHeartbeats 8000000 in
set_option maxRecDepth 100000 in
theorem errors_walk (a b c length now : Int) (w : World) (_ : (Lit.int .i64 a).wf = true) (_ : (Lit.int .i64 b).wf = true) (hc : (Lit.int .i64 c).wf = true) (_ : (Lit.int .i64 length).wf = true) (hnow : (Lit.int .i64 now).wf = true) :
    Calls Try.prog 8 #[.agg #[.int .i64 a, .int .i64 b, .int .i64 c], .int .i64 length, .int .i64 now] w fun e w' => e = .returned (.bool true) ∧ Below w.heap.size w w' := by
  have x1 := below_alloc w (.cells #[.int .i64 a, .int .i64 b, .int .i64 c] 26)
  have o1 : Own (w.alloc (.cells #[.int .i64 a, .int .i64 b, .int .i64 c] 26)) w.heap.size 26 [.int .i64 a, .int .i64 b, .int .i64 c] := heap_alloc_new w _
  have hs1 := World.size_alloc w (.cells #[.int .i64 a, .int .i64 b, .int .i64 c] 26)
  obtain ⟨v1, hv1⟩ : ∃ x, x = w.alloc (.cells #[.int .i64 a, .int .i64 b, .int .i64 c] 26) := ⟨_, rfl⟩
  rw [← hv1] at x1 o1 hs1
  have HO := Lib.hid o1
  have HX := Lib.hid x1
  have HNow := Lib.hid hnow
  have HWc := Lib.hid hc
  obtain ⟨a0, a1, a2⟩ : _ ∧ _ ∧ _ := ⟨o1.cell 0 (by simp), o1.cell 1 (by simp), o1.cell 2 (by simp)⟩
  simp only [List.getD_cons_zero, List.getD_cons_succ] at a0 a1 a2
  clear x1 o1 hc hnow
  go_enter Try.func8, Try.ntmps8
  go_upto_region 1 with fail
  rw [← hv1]
  obtain ⟨p1, hp1⟩ : ∃ p, p = w.heap.size := ⟨_, rfl⟩
  rw [← hp1] at a0 a1 a2 HO ⊢
  have HP := Lib.hid hp1
  clear hv1 hp1
  go_wp2_with fail
  refine (newM_any a b c v1 HWc.out).mono ?_
  rintro e w1 ⟨hb, h⟩
  have HX1 := Lib.hid (HX.out.trans (hb.mono HX.out.size))
  have HO1 := Lib.hid (HO.out.below hb HO.out.lt)
  clear a0 a1 a2
  obtain ⟨a0, a1, a2⟩ : _ ∧ _ ∧ _ := ⟨HO1.out.cell 0 (by simp), HO1.out.cell 1 (by simp), HO1.out.cell 2 (by simp)⟩
  simp only [List.getD_cons_zero, List.getD_cons_succ] at a0 a1 a2
  clear hb
  have HS1 := Lib.hid hs1
  clear hs1
  by_cases h1 : a < 1
  · have hG : ¬ good a b c := fun h => by unfold good at h; omega
    have d1 : ¬ (1 : Int) ≤ a := by omega
    rcases h with ⟨h9, _⟩ | ⟨_, rfl⟩
    · exact absurd h9 hG
    clear hG
    go_upto_region 6 with fail
    have z1 := below_alloc w1 (.cells #[.int .i64 0, .int .i64 0, .int .i64 0, .int .i64 0] 57)
    have y1 : Own (w1.alloc (.cells #[.int .i64 0, .int .i64 0, .int .i64 0, .int .i64 0] 57)) w1.heap.size 57 [.int .i64 0, .int .i64 0, .int .i64 0, .int .i64 0] := heap_alloc_new w1 _
    have HZ1 := Lib.hid z1
    have HY1 : Hid (NulM (w1.alloc (.cells #[.int .i64 0, .int .i64 0, .int .i64 0, .int .i64 0] 57)) (some ⟨w1.heap.size, 0, none⟩)) := Lib.hid (.inr ⟨w1.heap.size, rfl, y1.cell 0 (by simp)⟩)
    clear z1 y1 a0 a1 a2
    go_upto_region 7 with fail
    obtain ⟨q1, hq1⟩ : ∃ q, q = w1.heap.size := ⟨_, rfl⟩
    rw [← hq1] at HY1 ⊢
    clear hq1
    generalize w1.alloc (.cells #[.int .i64 0, .int .i64 0, .int .i64 0, .int .i64 0] 57) = w2 at HY1 HZ1 ⊢
    have HX2 := Lib.hid (HX1.out.trans (HZ1.out.mono HX1.out.size))
    go_wp2_with fail
    refine (mset_nul none length w2 (.inl rfl)).mono ?_
    rintro e w3 ⟨rfl, hb⟩
    have HX3 := Lib.hid (HX2.out.trans (hb.mono HX2.out.size))
    have HY3 := Lib.hid (HY1.out.later hb)
    clear hb
    go_wp2_with fail
    refine (mset_nul (some ⟨q1, 0, none⟩) length w3 HY3.out).mono ?_
    rintro e w4 ⟨rfl, hb⟩
    have HX4 := Lib.hid (HX3.out.trans (hb.mono HX3.out.size))
    have HY4 := Lib.hid (HY3.out.later hb)
    clear hb HY1 HY3 HZ1
    go_upto_region 10 with fail
    have z1 := below_alloc w4 (.cells #[.int .i64 0, .map none] 60)
    have y1 : Own (w4.alloc (.cells #[.int .i64 0, .map none] 60)) w4.heap.size 60 [.int .i64 0, .map none] := heap_alloc_new w4 _
    have HZ1 := Lib.hid z1
    have HN1 : Hid (NulC (w4.alloc (.cells #[.int .i64 0, .map none] 60)) (some ⟨w4.heap.size, 0, none⟩)) := Lib.hid (.inr ⟨w4.heap.size, rfl, y1.cell 0 (by simp)⟩)
    clear z1 y1
    go_upto_region 11 with fail
    obtain ⟨q2, hq2⟩ : ∃ q, q = w4.heap.size := ⟨_, rfl⟩
    rw [← hq2] at HN1 ⊢
    generalize w4.alloc (.cells #[.int .i64 0, .map none] 60) = w5 at HN1 HZ1 ⊢
    have HX5 := Lib.hid (HX4.out.trans (HZ1.out.mono HX4.out.size))
    have HY5 := Lib.hid (HY4.out.later HZ1.out)
    clear hq2 HZ1 HY4
    go_wp2_with fail
    refine (mlevel_nul none w5 (.inl rfl)).mono ?_
    rintro e w9 ⟨rfl, rfl⟩
    go_wp2_with fail
    refine (mlevel_nul _ w5 HY5.out).mono ?_
    rintro e w9 ⟨rfl, rfl⟩
    go_wp2_with fail
    refine (clevel_nul none now 1 w5 (.inl rfl)).mono ?_
    rintro e w9 ⟨rfl, rfl⟩
    go_wp2_with fail
    refine (clevel_nul _ now 1 w5 HN1.out).mono ?_
    rintro e w9 ⟨rfl, rfl⟩
    go_wp2_with fail
    refine (hear_nul none now 1 1 w5 (.inl rfl)).mono ?_
    rintro e w9 ⟨rfl, rfl⟩
    go_wp2_with fail
    refine (hear_nul _ now 1 1 w5 HN1.out).mono ?_
    rintro e w9 ⟨rfl, rfl⟩
    go_wp2_with fail
    refine (newC_any dom65 5 w5 (by decide) dom_ok).mono ?_
    rintro e w6 ⟨hb, h⟩
    rcases h with ⟨_, cb, bm, rfl, hc, hlc, hlb⟩ | ⟨hbad, _⟩
    rotate_left
    · exact absurd (by decide) hbad
    have HX6 := Lib.hid (HX5.out.trans (hb.mono HX5.out.size))
    have HLo := Lib.hid (show w.heap.size ≤ cb ∧ w.heap.size ≤ bm from ⟨Nat.le_trans HX5.out.size hlc, Nat.le_trans HX5.out.size hlb⟩)
    have HC := Lib.hid (show CtAt w6 cb bm (cE 0) from hc)
    clear hb hc hlc hlb
    go_wp2_with fail
    go_loopw [20] (fun v wr => ∃ i : Nat, i ≤ 64 ∧ v = .int .i64 i ∧ CtAt wr cb bm (cE i) ∧ Below w.heap.size w wr) (fun v _ => 64 - (intOf v).toNat)
    case atStart => exact ⟨0, by omega, rfl, HC.out, HX6.out⟩
    case round =>
      obtain ⟨i, hi, rfl, hc, hx⟩ := hrel
      have HCi := Lib.hid hc
      have HXi := Lib.hid hx
      clear hc hx
      by_cases hin : i < 64
      · have i1 : (i : Int) < 64 := by omega
        have HI := Lib.hid hin
        have iw : IntKind.i64.wrap ((i : Int) + 1) = (i : Int) + 1 := IntWalk.i64_in _ (by omega)
        have iu : IntKind.u16.wrap (i : Int) = (i : Int) := by simp only [IntKind.wrap_u16]; omega
        clear hi
        go_wp2_with fail
        refine (hear_any 1000 i 1 wr HCi.out (by decide) (by rw [cE_D]; exact dom_mem (by have := HI.out; omega))).mono ?_
        rintro e w7 ⟨rfl, hc, hx⟩
        rw [cE_err i HI.out] at hc ⊢
        have HC7 := Lib.hid (show CtAt w7 cb bm (cE (i + 1)) from hc)
        have HX7 := Lib.hid (HXi.out.trans (hx.below HXi.out.size (fun j _ hj => by have := HLo.out; rcases hj with hj | hj <;> omega)))
        clear hc hx
        go_wp2
        exact ⟨⟨i + 1, by have := HI.out; omega, by go_num, HC7.out, HX7.out⟩, by simp [intOf]; have := HI.out; omega⟩
      · obtain rfl : i = 64 := by omega
        clear hi hin
        go_wp2_with fail
        refine (hear_any 1004 64 1 wr HCi.out (by decide) (by rw [cE_D]; exact dom_mem (i := 64) (by omega))).mono ?_
        rintro e w7 ⟨rfl, hc, hx⟩
        rw [cE_full] at hc ⊢
        rw [if_neg (by decide)] at hc
        have HC7 := Lib.hid hc
        have HX7 := Lib.hid (HXi.out.trans (hx.below HXi.out.size (fun j _ hj => by have := HLo.out; rcases hj with hj | hj <;> omega)))
        clear hc hx
        go_wp2_with fail
        refine (hear_any 1004 3 2 w7 HC7.out (by decide) (by rw [cE_D]; exact dom_mem (i := 3) (by omega))).mono ?_
        rintro e w8 ⟨rfl, hc, hx⟩
        rw [cE_three] at hc ⊢
        rw [if_pos rfl] at hc
        have HC8 := Lib.hid (show CtAt w8 cb bm cF from hc)
        have HX8 := Lib.hid (HX7.out.trans (hx.below HX7.out.size (fun j _ hj => by have := HLo.out; rcases hj with hj | hj <;> omega)))
        clear hc hx
        go_wp2_with fail
        refine (clevel_any 1004 64 w8 HC8.out (by decide) (by decide)).mono ?_
        rintro e w9 ⟨rfl, hb⟩
        rw [cF_low]
        have HC9 := Lib.hid (HC8.out.below hb)
        have HX9 := Lib.hid (HX8.out.trans (hb.mono HX8.out.size))
        clear hb
        go_wp2_with fail
        refine (hear_any 1005 64 1 w9 HC9.out (by decide) (show (64 : Int) ∈ (cE 64).D by rw [cE_D]; exact dom_mem (i := 64) (by omega))).mono ?_
        rintro e wa ⟨rfl, hc, hx⟩
        rw [cF_err]
        have HXa := Lib.hid (HX9.out.trans (hx.below HX9.out.size (fun j _ hj => by have := HLo.out; rcases hj with hj | hj <;> omega)))
        clear hc hx
        go_wp2_with fail
        refine (lives_any wa).mono ?_
        rintro e wz ⟨rfl, hb⟩
        have HBz := Lib.hid (HXa.out.trans (hb.mono HXa.out.size))
        clear hb
        go_wp2
        go_ret
        exact ⟨rfl, HBz.out⟩
  by_cases h2 : b ≤ a
  · have hG : ¬ good a b c := fun h => by unfold good at h; omega
    have d1 : (1 : Int) ≤ a := by omega
    have d2 : ¬ a < b := by omega
    rcases h with ⟨h9, _⟩ | ⟨_, rfl⟩
    · exact absurd h9 hG
    clear hG
    go_upto_region 6 with fail
    have z1 := below_alloc w1 (.cells #[.int .i64 0, .int .i64 0, .int .i64 0, .int .i64 0] 57)
    have y1 : Own (w1.alloc (.cells #[.int .i64 0, .int .i64 0, .int .i64 0, .int .i64 0] 57)) w1.heap.size 57 [.int .i64 0, .int .i64 0, .int .i64 0, .int .i64 0] := heap_alloc_new w1 _
    have HZ1 := Lib.hid z1
    have HY1 : Hid (NulM (w1.alloc (.cells #[.int .i64 0, .int .i64 0, .int .i64 0, .int .i64 0] 57)) (some ⟨w1.heap.size, 0, none⟩)) := Lib.hid (.inr ⟨w1.heap.size, rfl, y1.cell 0 (by simp)⟩)
    clear z1 y1 a0 a1 a2
    go_upto_region 7 with fail
    obtain ⟨q1, hq1⟩ : ∃ q, q = w1.heap.size := ⟨_, rfl⟩
    rw [← hq1] at HY1 ⊢
    clear hq1
    generalize w1.alloc (.cells #[.int .i64 0, .int .i64 0, .int .i64 0, .int .i64 0] 57) = w2 at HY1 HZ1 ⊢
    have HX2 := Lib.hid (HX1.out.trans (HZ1.out.mono HX1.out.size))
    go_wp2_with fail
    refine (mset_nul none length w2 (.inl rfl)).mono ?_
    rintro e w3 ⟨rfl, hb⟩
    have HX3 := Lib.hid (HX2.out.trans (hb.mono HX2.out.size))
    have HY3 := Lib.hid (HY1.out.later hb)
    clear hb
    go_wp2_with fail
    refine (mset_nul (some ⟨q1, 0, none⟩) length w3 HY3.out).mono ?_
    rintro e w4 ⟨rfl, hb⟩
    have HX4 := Lib.hid (HX3.out.trans (hb.mono HX3.out.size))
    have HY4 := Lib.hid (HY3.out.later hb)
    clear hb HY1 HY3 HZ1
    go_upto_region 10 with fail
    have z1 := below_alloc w4 (.cells #[.int .i64 0, .map none] 60)
    have y1 : Own (w4.alloc (.cells #[.int .i64 0, .map none] 60)) w4.heap.size 60 [.int .i64 0, .map none] := heap_alloc_new w4 _
    have HZ1 := Lib.hid z1
    have HN1 : Hid (NulC (w4.alloc (.cells #[.int .i64 0, .map none] 60)) (some ⟨w4.heap.size, 0, none⟩)) := Lib.hid (.inr ⟨w4.heap.size, rfl, y1.cell 0 (by simp)⟩)
    clear z1 y1
    go_upto_region 11 with fail
    obtain ⟨q2, hq2⟩ : ∃ q, q = w4.heap.size := ⟨_, rfl⟩
    rw [← hq2] at HN1 ⊢
    generalize w4.alloc (.cells #[.int .i64 0, .map none] 60) = w5 at HN1 HZ1 ⊢
    have HX5 := Lib.hid (HX4.out.trans (HZ1.out.mono HX4.out.size))
    have HY5 := Lib.hid (HY4.out.later HZ1.out)
    clear hq2 HZ1 HY4
    go_wp2_with fail
    refine (mlevel_nul none w5 (.inl rfl)).mono ?_
    rintro e w9 ⟨rfl, rfl⟩
    go_wp2_with fail
    refine (mlevel_nul _ w5 HY5.out).mono ?_
    rintro e w9 ⟨rfl, rfl⟩
    go_wp2_with fail
    refine (clevel_nul none now 1 w5 (.inl rfl)).mono ?_
    rintro e w9 ⟨rfl, rfl⟩
    go_wp2_with fail
    refine (clevel_nul _ now 1 w5 HN1.out).mono ?_
    rintro e w9 ⟨rfl, rfl⟩
    go_wp2_with fail
    refine (hear_nul none now 1 1 w5 (.inl rfl)).mono ?_
    rintro e w9 ⟨rfl, rfl⟩
    go_wp2_with fail
    refine (hear_nul _ now 1 1 w5 HN1.out).mono ?_
    rintro e w9 ⟨rfl, rfl⟩
    go_wp2_with fail
    refine (newC_any dom65 5 w5 (by decide) dom_ok).mono ?_
    rintro e w6 ⟨hb, h⟩
    rcases h with ⟨_, cb, bm, rfl, hc, hlc, hlb⟩ | ⟨hbad, _⟩
    rotate_left
    · exact absurd (by decide) hbad
    have HX6 := Lib.hid (HX5.out.trans (hb.mono HX5.out.size))
    have HLo := Lib.hid (show w.heap.size ≤ cb ∧ w.heap.size ≤ bm from ⟨Nat.le_trans HX5.out.size hlc, Nat.le_trans HX5.out.size hlb⟩)
    have HC := Lib.hid (show CtAt w6 cb bm (cE 0) from hc)
    clear hb hc hlc hlb
    go_wp2_with fail
    go_loopw [20] (fun v wr => ∃ i : Nat, i ≤ 64 ∧ v = .int .i64 i ∧ CtAt wr cb bm (cE i) ∧ Below w.heap.size w wr) (fun v _ => 64 - (intOf v).toNat)
    case atStart => exact ⟨0, by omega, rfl, HC.out, HX6.out⟩
    case round =>
      obtain ⟨i, hi, rfl, hc, hx⟩ := hrel
      have HCi := Lib.hid hc
      have HXi := Lib.hid hx
      clear hc hx
      by_cases hin : i < 64
      · have i1 : (i : Int) < 64 := by omega
        have HI := Lib.hid hin
        have iw : IntKind.i64.wrap ((i : Int) + 1) = (i : Int) + 1 := IntWalk.i64_in _ (by omega)
        have iu : IntKind.u16.wrap (i : Int) = (i : Int) := by simp only [IntKind.wrap_u16]; omega
        clear hi
        go_wp2_with fail
        refine (hear_any 1000 i 1 wr HCi.out (by decide) (by rw [cE_D]; exact dom_mem (by have := HI.out; omega))).mono ?_
        rintro e w7 ⟨rfl, hc, hx⟩
        rw [cE_err i HI.out] at hc ⊢
        have HC7 := Lib.hid (show CtAt w7 cb bm (cE (i + 1)) from hc)
        have HX7 := Lib.hid (HXi.out.trans (hx.below HXi.out.size (fun j _ hj => by have := HLo.out; rcases hj with hj | hj <;> omega)))
        clear hc hx
        go_wp2
        exact ⟨⟨i + 1, by have := HI.out; omega, by go_num, HC7.out, HX7.out⟩, by simp [intOf]; have := HI.out; omega⟩
      · obtain rfl : i = 64 := by omega
        clear hi hin
        go_wp2_with fail
        refine (hear_any 1004 64 1 wr HCi.out (by decide) (by rw [cE_D]; exact dom_mem (i := 64) (by omega))).mono ?_
        rintro e w7 ⟨rfl, hc, hx⟩
        rw [cE_full] at hc ⊢
        rw [if_neg (by decide)] at hc
        have HC7 := Lib.hid hc
        have HX7 := Lib.hid (HXi.out.trans (hx.below HXi.out.size (fun j _ hj => by have := HLo.out; rcases hj with hj | hj <;> omega)))
        clear hc hx
        go_wp2_with fail
        refine (hear_any 1004 3 2 w7 HC7.out (by decide) (by rw [cE_D]; exact dom_mem (i := 3) (by omega))).mono ?_
        rintro e w8 ⟨rfl, hc, hx⟩
        rw [cE_three] at hc ⊢
        rw [if_pos rfl] at hc
        have HC8 := Lib.hid (show CtAt w8 cb bm cF from hc)
        have HX8 := Lib.hid (HX7.out.trans (hx.below HX7.out.size (fun j _ hj => by have := HLo.out; rcases hj with hj | hj <;> omega)))
        clear hc hx
        go_wp2_with fail
        refine (clevel_any 1004 64 w8 HC8.out (by decide) (by decide)).mono ?_
        rintro e w9 ⟨rfl, hb⟩
        rw [cF_low]
        have HC9 := Lib.hid (HC8.out.below hb)
        have HX9 := Lib.hid (HX8.out.trans (hb.mono HX8.out.size))
        clear hb
        go_wp2_with fail
        refine (hear_any 1005 64 1 w9 HC9.out (by decide) (show (64 : Int) ∈ (cE 64).D by rw [cE_D]; exact dom_mem (i := 64) (by omega))).mono ?_
        rintro e wa ⟨rfl, hc, hx⟩
        rw [cF_err]
        have HXa := Lib.hid (HX9.out.trans (hx.below HX9.out.size (fun j _ hj => by have := HLo.out; rcases hj with hj | hj <;> omega)))
        clear hc hx
        go_wp2_with fail
        refine (lives_any wa).mono ?_
        rintro e wz ⟨rfl, hb⟩
        have HBz := Lib.hid (HXa.out.trans (hb.mono HXa.out.size))
        clear hb
        go_wp2
        go_ret
        exact ⟨rfl, HBz.out⟩
  by_cases h3 : c ≤ b
  · have hG : ¬ good a b c := fun h => by unfold good at h; omega
    have d1 : (1 : Int) ≤ a := by omega
    have d2 : a < b := by omega
    have d3 : ¬ b < c := by omega
    rcases h with ⟨h9, _⟩ | ⟨_, rfl⟩
    · exact absurd h9 hG
    clear hG
    go_upto_region 6 with fail
    have z1 := below_alloc w1 (.cells #[.int .i64 0, .int .i64 0, .int .i64 0, .int .i64 0] 57)
    have y1 : Own (w1.alloc (.cells #[.int .i64 0, .int .i64 0, .int .i64 0, .int .i64 0] 57)) w1.heap.size 57 [.int .i64 0, .int .i64 0, .int .i64 0, .int .i64 0] := heap_alloc_new w1 _
    have HZ1 := Lib.hid z1
    have HY1 : Hid (NulM (w1.alloc (.cells #[.int .i64 0, .int .i64 0, .int .i64 0, .int .i64 0] 57)) (some ⟨w1.heap.size, 0, none⟩)) := Lib.hid (.inr ⟨w1.heap.size, rfl, y1.cell 0 (by simp)⟩)
    clear z1 y1 a0 a1 a2
    go_upto_region 7 with fail
    obtain ⟨q1, hq1⟩ : ∃ q, q = w1.heap.size := ⟨_, rfl⟩
    rw [← hq1] at HY1 ⊢
    clear hq1
    generalize w1.alloc (.cells #[.int .i64 0, .int .i64 0, .int .i64 0, .int .i64 0] 57) = w2 at HY1 HZ1 ⊢
    have HX2 := Lib.hid (HX1.out.trans (HZ1.out.mono HX1.out.size))
    go_wp2_with fail
    refine (mset_nul none length w2 (.inl rfl)).mono ?_
    rintro e w3 ⟨rfl, hb⟩
    have HX3 := Lib.hid (HX2.out.trans (hb.mono HX2.out.size))
    have HY3 := Lib.hid (HY1.out.later hb)
    clear hb
    go_wp2_with fail
    refine (mset_nul (some ⟨q1, 0, none⟩) length w3 HY3.out).mono ?_
    rintro e w4 ⟨rfl, hb⟩
    have HX4 := Lib.hid (HX3.out.trans (hb.mono HX3.out.size))
    have HY4 := Lib.hid (HY3.out.later hb)
    clear hb HY1 HY3 HZ1
    go_upto_region 10 with fail
    have z1 := below_alloc w4 (.cells #[.int .i64 0, .map none] 60)
    have y1 : Own (w4.alloc (.cells #[.int .i64 0, .map none] 60)) w4.heap.size 60 [.int .i64 0, .map none] := heap_alloc_new w4 _
    have HZ1 := Lib.hid z1
    have HN1 : Hid (NulC (w4.alloc (.cells #[.int .i64 0, .map none] 60)) (some ⟨w4.heap.size, 0, none⟩)) := Lib.hid (.inr ⟨w4.heap.size, rfl, y1.cell 0 (by simp)⟩)
    clear z1 y1
    go_upto_region 11 with fail
    obtain ⟨q2, hq2⟩ : ∃ q, q = w4.heap.size := ⟨_, rfl⟩
    rw [← hq2] at HN1 ⊢
    generalize w4.alloc (.cells #[.int .i64 0, .map none] 60) = w5 at HN1 HZ1 ⊢
    have HX5 := Lib.hid (HX4.out.trans (HZ1.out.mono HX4.out.size))
    have HY5 := Lib.hid (HY4.out.later HZ1.out)
    clear hq2 HZ1 HY4
    go_wp2_with fail
    refine (mlevel_nul none w5 (.inl rfl)).mono ?_
    rintro e w9 ⟨rfl, rfl⟩
    go_wp2_with fail
    refine (mlevel_nul _ w5 HY5.out).mono ?_
    rintro e w9 ⟨rfl, rfl⟩
    go_wp2_with fail
    refine (clevel_nul none now 1 w5 (.inl rfl)).mono ?_
    rintro e w9 ⟨rfl, rfl⟩
    go_wp2_with fail
    refine (clevel_nul _ now 1 w5 HN1.out).mono ?_
    rintro e w9 ⟨rfl, rfl⟩
    go_wp2_with fail
    refine (hear_nul none now 1 1 w5 (.inl rfl)).mono ?_
    rintro e w9 ⟨rfl, rfl⟩
    go_wp2_with fail
    refine (hear_nul _ now 1 1 w5 HN1.out).mono ?_
    rintro e w9 ⟨rfl, rfl⟩
    go_wp2_with fail
    refine (newC_any dom65 5 w5 (by decide) dom_ok).mono ?_
    rintro e w6 ⟨hb, h⟩
    rcases h with ⟨_, cb, bm, rfl, hc, hlc, hlb⟩ | ⟨hbad, _⟩
    rotate_left
    · exact absurd (by decide) hbad
    have HX6 := Lib.hid (HX5.out.trans (hb.mono HX5.out.size))
    have HLo := Lib.hid (show w.heap.size ≤ cb ∧ w.heap.size ≤ bm from ⟨Nat.le_trans HX5.out.size hlc, Nat.le_trans HX5.out.size hlb⟩)
    have HC := Lib.hid (show CtAt w6 cb bm (cE 0) from hc)
    clear hb hc hlc hlb
    go_wp2_with fail
    go_loopw [20] (fun v wr => ∃ i : Nat, i ≤ 64 ∧ v = .int .i64 i ∧ CtAt wr cb bm (cE i) ∧ Below w.heap.size w wr) (fun v _ => 64 - (intOf v).toNat)
    case atStart => exact ⟨0, by omega, rfl, HC.out, HX6.out⟩
    case round =>
      obtain ⟨i, hi, rfl, hc, hx⟩ := hrel
      have HCi := Lib.hid hc
      have HXi := Lib.hid hx
      clear hc hx
      by_cases hin : i < 64
      · have i1 : (i : Int) < 64 := by omega
        have HI := Lib.hid hin
        have iw : IntKind.i64.wrap ((i : Int) + 1) = (i : Int) + 1 := IntWalk.i64_in _ (by omega)
        have iu : IntKind.u16.wrap (i : Int) = (i : Int) := by simp only [IntKind.wrap_u16]; omega
        clear hi
        go_wp2_with fail
        refine (hear_any 1000 i 1 wr HCi.out (by decide) (by rw [cE_D]; exact dom_mem (by have := HI.out; omega))).mono ?_
        rintro e w7 ⟨rfl, hc, hx⟩
        rw [cE_err i HI.out] at hc ⊢
        have HC7 := Lib.hid (show CtAt w7 cb bm (cE (i + 1)) from hc)
        have HX7 := Lib.hid (HXi.out.trans (hx.below HXi.out.size (fun j _ hj => by have := HLo.out; rcases hj with hj | hj <;> omega)))
        clear hc hx
        go_wp2
        exact ⟨⟨i + 1, by have := HI.out; omega, by go_num, HC7.out, HX7.out⟩, by simp [intOf]; have := HI.out; omega⟩
      · obtain rfl : i = 64 := by omega
        clear hi hin
        go_wp2_with fail
        refine (hear_any 1004 64 1 wr HCi.out (by decide) (by rw [cE_D]; exact dom_mem (i := 64) (by omega))).mono ?_
        rintro e w7 ⟨rfl, hc, hx⟩
        rw [cE_full] at hc ⊢
        rw [if_neg (by decide)] at hc
        have HC7 := Lib.hid hc
        have HX7 := Lib.hid (HXi.out.trans (hx.below HXi.out.size (fun j _ hj => by have := HLo.out; rcases hj with hj | hj <;> omega)))
        clear hc hx
        go_wp2_with fail
        refine (hear_any 1004 3 2 w7 HC7.out (by decide) (by rw [cE_D]; exact dom_mem (i := 3) (by omega))).mono ?_
        rintro e w8 ⟨rfl, hc, hx⟩
        rw [cE_three] at hc ⊢
        rw [if_pos rfl] at hc
        have HC8 := Lib.hid (show CtAt w8 cb bm cF from hc)
        have HX8 := Lib.hid (HX7.out.trans (hx.below HX7.out.size (fun j _ hj => by have := HLo.out; rcases hj with hj | hj <;> omega)))
        clear hc hx
        go_wp2_with fail
        refine (clevel_any 1004 64 w8 HC8.out (by decide) (by decide)).mono ?_
        rintro e w9 ⟨rfl, hb⟩
        rw [cF_low]
        have HC9 := Lib.hid (HC8.out.below hb)
        have HX9 := Lib.hid (HX8.out.trans (hb.mono HX8.out.size))
        clear hb
        go_wp2_with fail
        refine (hear_any 1005 64 1 w9 HC9.out (by decide) (show (64 : Int) ∈ (cE 64).D by rw [cE_D]; exact dom_mem (i := 64) (by omega))).mono ?_
        rintro e wa ⟨rfl, hc, hx⟩
        rw [cF_err]
        have HXa := Lib.hid (HX9.out.trans (hx.below HX9.out.size (fun j _ hj => by have := HLo.out; rcases hj with hj | hj <;> omega)))
        clear hc hx
        go_wp2_with fail
        refine (lives_any wa).mono ?_
        rintro e wz ⟨rfl, hb⟩
        have HBz := Lib.hid (HXa.out.trans (hb.mono HXa.out.size))
        clear hb
        go_wp2
        go_ret
        exact ⟨rfl, HBz.out⟩
  · have hG : good a b c := by unfold good; omega
    have d1 : (1 : Int) ≤ a := by omega
    have d2 : a < b := by omega
    have d3 : b < c := by omega
    rcases h with ⟨_, mb, rfl, _, _⟩ | ⟨h9, _⟩
    rotate_left
    · exact absurd hG h9
    clear hG
    go_upto_region 6 with fail
    have z1 := below_alloc w1 (.cells #[.int .i64 0, .int .i64 0, .int .i64 0, .int .i64 0] 57)
    have y1 : Own (w1.alloc (.cells #[.int .i64 0, .int .i64 0, .int .i64 0, .int .i64 0] 57)) w1.heap.size 57 [.int .i64 0, .int .i64 0, .int .i64 0, .int .i64 0] := heap_alloc_new w1 _
    have HZ1 := Lib.hid z1
    have HY1 : Hid (NulM (w1.alloc (.cells #[.int .i64 0, .int .i64 0, .int .i64 0, .int .i64 0] 57)) (some ⟨w1.heap.size, 0, none⟩)) := Lib.hid (.inr ⟨w1.heap.size, rfl, y1.cell 0 (by simp)⟩)
    clear z1 y1 a0 a1 a2
    go_upto_region 7 with fail
    obtain ⟨q1, hq1⟩ : ∃ q, q = w1.heap.size := ⟨_, rfl⟩
    rw [← hq1] at HY1 ⊢
    clear hq1
    generalize w1.alloc (.cells #[.int .i64 0, .int .i64 0, .int .i64 0, .int .i64 0] 57) = w2 at HY1 HZ1 ⊢
    have HX2 := Lib.hid (HX1.out.trans (HZ1.out.mono HX1.out.size))
    go_wp2_with fail
    refine (mset_nul none length w2 (.inl rfl)).mono ?_
    rintro e w3 ⟨rfl, hb⟩
    have HX3 := Lib.hid (HX2.out.trans (hb.mono HX2.out.size))
    have HY3 := Lib.hid (HY1.out.later hb)
    clear hb
    go_wp2_with fail
    refine (mset_nul (some ⟨q1, 0, none⟩) length w3 HY3.out).mono ?_
    rintro e w4 ⟨rfl, hb⟩
    have HX4 := Lib.hid (HX3.out.trans (hb.mono HX3.out.size))
    have HY4 := Lib.hid (HY3.out.later hb)
    clear hb HY1 HY3 HZ1
    go_upto_region 10 with fail
    have z1 := below_alloc w4 (.cells #[.int .i64 0, .map none] 60)
    have y1 : Own (w4.alloc (.cells #[.int .i64 0, .map none] 60)) w4.heap.size 60 [.int .i64 0, .map none] := heap_alloc_new w4 _
    have HZ1 := Lib.hid z1
    have HN1 : Hid (NulC (w4.alloc (.cells #[.int .i64 0, .map none] 60)) (some ⟨w4.heap.size, 0, none⟩)) := Lib.hid (.inr ⟨w4.heap.size, rfl, y1.cell 0 (by simp)⟩)
    clear z1 y1
    go_upto_region 11 with fail
    obtain ⟨q2, hq2⟩ : ∃ q, q = w4.heap.size := ⟨_, rfl⟩
    rw [← hq2] at HN1 ⊢
    generalize w4.alloc (.cells #[.int .i64 0, .map none] 60) = w5 at HN1 HZ1 ⊢
    have HX5 := Lib.hid (HX4.out.trans (HZ1.out.mono HX4.out.size))
    have HY5 := Lib.hid (HY4.out.later HZ1.out)
    clear hq2 HZ1 HY4
    go_wp2_with fail
    refine (mlevel_nul none w5 (.inl rfl)).mono ?_
    rintro e w9 ⟨rfl, rfl⟩
    go_wp2_with fail
    refine (mlevel_nul _ w5 HY5.out).mono ?_
    rintro e w9 ⟨rfl, rfl⟩
    go_wp2_with fail
    refine (clevel_nul none now 1 w5 (.inl rfl)).mono ?_
    rintro e w9 ⟨rfl, rfl⟩
    go_wp2_with fail
    refine (clevel_nul _ now 1 w5 HN1.out).mono ?_
    rintro e w9 ⟨rfl, rfl⟩
    go_wp2_with fail
    refine (hear_nul none now 1 1 w5 (.inl rfl)).mono ?_
    rintro e w9 ⟨rfl, rfl⟩
    go_wp2_with fail
    refine (hear_nul _ now 1 1 w5 HN1.out).mono ?_
    rintro e w9 ⟨rfl, rfl⟩
    go_wp2_with fail
    refine (newC_any dom65 5 w5 (by decide) dom_ok).mono ?_
    rintro e w6 ⟨hb, h⟩
    rcases h with ⟨_, cb, bm, rfl, hc, hlc, hlb⟩ | ⟨hbad, _⟩
    rotate_left
    · exact absurd (by decide) hbad
    have HX6 := Lib.hid (HX5.out.trans (hb.mono HX5.out.size))
    have HLo := Lib.hid (show w.heap.size ≤ cb ∧ w.heap.size ≤ bm from ⟨Nat.le_trans HX5.out.size hlc, Nat.le_trans HX5.out.size hlb⟩)
    have HC := Lib.hid (show CtAt w6 cb bm (cE 0) from hc)
    clear hb hc hlc hlb
    go_wp2_with fail
    go_loopw [20] (fun v wr => ∃ i : Nat, i ≤ 64 ∧ v = .int .i64 i ∧ CtAt wr cb bm (cE i) ∧ Below w.heap.size w wr) (fun v _ => 64 - (intOf v).toNat)
    case atStart => exact ⟨0, by omega, rfl, HC.out, HX6.out⟩
    case round =>
      obtain ⟨i, hi, rfl, hc, hx⟩ := hrel
      have HCi := Lib.hid hc
      have HXi := Lib.hid hx
      clear hc hx
      by_cases hin : i < 64
      · have i1 : (i : Int) < 64 := by omega
        have HI := Lib.hid hin
        have iw : IntKind.i64.wrap ((i : Int) + 1) = (i : Int) + 1 := IntWalk.i64_in _ (by omega)
        have iu : IntKind.u16.wrap (i : Int) = (i : Int) := by simp only [IntKind.wrap_u16]; omega
        clear hi
        go_wp2_with fail
        refine (hear_any 1000 i 1 wr HCi.out (by decide) (by rw [cE_D]; exact dom_mem (by have := HI.out; omega))).mono ?_
        rintro e w7 ⟨rfl, hc, hx⟩
        rw [cE_err i HI.out] at hc ⊢
        have HC7 := Lib.hid (show CtAt w7 cb bm (cE (i + 1)) from hc)
        have HX7 := Lib.hid (HXi.out.trans (hx.below HXi.out.size (fun j _ hj => by have := HLo.out; rcases hj with hj | hj <;> omega)))
        clear hc hx
        go_wp2
        exact ⟨⟨i + 1, by have := HI.out; omega, by go_num, HC7.out, HX7.out⟩, by simp [intOf]; have := HI.out; omega⟩
      · obtain rfl : i = 64 := by omega
        clear hi hin
        go_wp2_with fail
        refine (hear_any 1004 64 1 wr HCi.out (by decide) (by rw [cE_D]; exact dom_mem (i := 64) (by omega))).mono ?_
        rintro e w7 ⟨rfl, hc, hx⟩
        rw [cE_full] at hc ⊢
        rw [if_neg (by decide)] at hc
        have HC7 := Lib.hid hc
        have HX7 := Lib.hid (HXi.out.trans (hx.below HXi.out.size (fun j _ hj => by have := HLo.out; rcases hj with hj | hj <;> omega)))
        clear hc hx
        go_wp2_with fail
        refine (hear_any 1004 3 2 w7 HC7.out (by decide) (by rw [cE_D]; exact dom_mem (i := 3) (by omega))).mono ?_
        rintro e w8 ⟨rfl, hc, hx⟩
        rw [cE_three] at hc ⊢
        rw [if_pos rfl] at hc
        have HC8 := Lib.hid (show CtAt w8 cb bm cF from hc)
        have HX8 := Lib.hid (HX7.out.trans (hx.below HX7.out.size (fun j _ hj => by have := HLo.out; rcases hj with hj | hj <;> omega)))
        clear hc hx
        go_wp2_with fail
        refine (clevel_any 1004 64 w8 HC8.out (by decide) (by decide)).mono ?_
        rintro e w9 ⟨rfl, hb⟩
        rw [cF_low]
        have HC9 := Lib.hid (HC8.out.below hb)
        have HX9 := Lib.hid (HX8.out.trans (hb.mono HX8.out.size))
        clear hb
        go_wp2_with fail
        refine (hear_any 1005 64 1 w9 HC9.out (by decide) (show (64 : Int) ∈ (cE 64).D by rw [cE_D]; exact dom_mem (i := 64) (by omega))).mono ?_
        rintro e wa ⟨rfl, hc, hx⟩
        rw [cF_err]
        have HXa := Lib.hid (HX9.out.trans (hx.below HX9.out.size (fun j _ hj => by have := HLo.out; rcases hj with hj | hj <;> omega)))
        clear hc hx
        go_wp2_with fail
        refine (lives_any wa).mono ?_
        rintro e wz ⟨rfl, hb⟩
        have HBz := Lib.hid (HXa.out.trans (hb.mono HXa.out.size))
        clear hb
        go_wp2
        go_ret
        exact ⟨rfl, HBz.out⟩
end Go.Proofs.Ytahkmadapojjkaa
