/- The statement LabelsOrder: the walk. -/
import Derived.Test.YtcojjhokcebogaaDoorLsLives
import Derived.Test.YtcojjhokcebogaaDoorLbCmp
import Derived.Deep.Cut
namespace Go.Proofs.YtcojjhokcebogaaDoor
open Go.RowKit

theorem ordL_cases (a1 a2 a3 b1 b2 b3 : Int) :
    (ordL a1 a2 a3 b1 b2 b3 = -1 ∧ (a1 < b1 ∨ a1 = b1 ∧ (a2 < b2 ∨ a2 = b2 ∧ a3 < b3))) ∨ (ordL a1 a2 a3 b1 b2 b3 = 1 ∧ (b1 < a1 ∨ b1 = a1 ∧ (b2 < a2 ∨ b2 = a2 ∧ b3 < a3))) ∨ (ordL a1 a2 a3 b1 b2 b3 = 0 ∧ a1 = b1 ∧ a2 = b2 ∧ a3 = b3) := by
  unfold ordL orL
  have h1 := cmpL_cases a1 b1
  have h2 := cmpL_cases a2 b2
  have h3 := cmpL_cases a3 b3
  split
  · omega
  · split <;> omega
theorem ordL_swap (a1 a2 a3 b1 b2 b3 : Int) : ordL b1 b2 b3 a1 a2 a3 = -ordL a1 a2 a3 b1 b2 b3 := by
  have h1 := ordL_cases a1 a2 a3 b1 b2 b3
  have h2 := ordL_cases b1 b2 b3 a1 a2 a3
  omega
theorem ordL_trans (a1 a2 a3 b1 b2 b3 c1 c2 c3 : Int) (h1 : ordL a1 a2 a3 b1 b2 b3 ≤ 0) (h2 : ordL b1 b2 b3 c1 c2 c3 ≤ 0) : ordL a1 a2 a3 c1 c2 c3 ≤ 0 := by
  have k1 := ordL_cases a1 a2 a3 b1 b2 b3
  have k2 := ordL_cases b1 b2 b3 c1 c2 c3
  have k3 := ordL_cases a1 a2 a3 c1 c2 c3
  omega
set_option maxHeartbeats 4000000 in
set_option maxRecDepth 100000 in
theorem order_walk (a1 a2 a3 b1 b2 b3 c1 c2 c3 : Int) (w : World) (hp : PowOk w) (_wa1 : (Lit.int .u16 a1).wf = true) (_wa2 : (Lit.int .u16 a2).wf = true) (_wa3 : (Lit.int .u8 a3).wf = true) (_wb1 : (Lit.int .u16 b1).wf = true) (_wb2 : (Lit.int .u16 b2).wf = true) (_wb3 : (Lit.int .u8 b3).wf = true) (_wc1 : (Lit.int .u16 c1).wf = true) (_wc2 : (Lit.int .u16 c2).wf = true) (_wc3 : (Lit.int .u8 c3).wf = true) :
    Calls Tryd.prog 9 #[.agg #[.int .u16 a1, .int .u16 a2, .int .u8 a3], .agg #[.int .u16 b1, .int .u16 b2, .int .u8 b3], .agg #[.int .u16 c1, .int .u16 c2, .int .u8 c3]] w fun e w' => e = .returned (.bool true) ∧ Below w.heap.size w w' := by
  have k1 := fun W => compare_any a1 a2 a3 b1 b2 b3 W
  have k2 := fun W => compare_any b1 b2 b3 c1 c2 c3 W
  have k3 := fun W => compare_any b1 b2 b3 a1 a2 a3 W
  have k4 := fun W => compare_any a1 a2 a3 c1 c2 c3 W
  have hs := ordL_swap a1 a2 a3 b1 b2 b3
  have ht := ordL_trans a1 a2 a3 b1 b2 b3 c1 c2 c3
  have hx := ordL_cases a1 a2 a3 b1 b2 b3
  obtain ⟨X, hX⟩ : ∃ X, X = ordL a1 a2 a3 b1 b2 b3 := ⟨_, rfl⟩
  obtain ⟨Y, hY⟩ : ∃ X, X = ordL b1 b2 b3 c1 c2 c3 := ⟨_, rfl⟩
  obtain ⟨V, hV⟩ : ∃ X, X = ordL a1 a2 a3 c1 c2 c3 := ⟨_, rfl⟩
  rw [← hX] at k1 hs ht hx
  rw [← hY] at k2 ht
  rw [hs] at k3
  rw [← hV] at k4 ht
  have C1 := Lib.hid k1
  have C2 := Lib.hid k2
  have C3 := Lib.hid k3
  have C4 := Lib.hid k4
  have HT := Lib.hid ht
  have HX := Lib.hid hx
  have HL := Lib.hid (fun W hW => lives_any W hW)
  have HP := Lib.hid hp
  clear hp k1 k2 k3 k4 hs ht hx hX hY hV _wa1 _wa2 _wa3 _wb1 _wb2 _wb3 _wc1 _wc2 _wc3
  go_enter Tryd.func9, Tryd.ntmps9
  go_upto_region 1 with fail
  have hb0 : Below w.heap.size w (((w.alloc (.cells #[.int .u16 a1, .int .u16 a2, .int .u8 a3] 54)).alloc (.cells #[.int .u16 b1, .int .u16 b2, .int .u8 b3] 54)).alloc (.cells #[.int .u16 c1, .int .u16 c2, .int .u8 c3] 54)) := ((below_alloc w _).alloc (by simp) _).alloc (by simp; omega) _
  have oa : Own (((w.alloc (.cells #[.int .u16 a1, .int .u16 a2, .int .u8 a3] 54)).alloc (.cells #[.int .u16 b1, .int .u16 b2, .int .u8 b3] 54)).alloc (.cells #[.int .u16 c1, .int .u16 c2, .int .u8 c3] 54)) w.heap.size 54 [.int .u16 a1, .int .u16 a2, .int .u8 a3] := ((own_lit w 54 #[.int .u16 a1, .int .u16 a2, .int .u8 a3] _ rfl).below (below_alloc _ _) (by simp)).below (below_alloc _ _) (by simp; omega)
  have ob : Own (((w.alloc (.cells #[.int .u16 a1, .int .u16 a2, .int .u8 a3] 54)).alloc (.cells #[.int .u16 b1, .int .u16 b2, .int .u8 b3] 54)).alloc (.cells #[.int .u16 c1, .int .u16 c2, .int .u8 c3] 54)) (w.heap.size + 1) 54 [.int .u16 b1, .int .u16 b2, .int .u8 b3] := by
    have := (own_lit (w.alloc (.cells #[.int .u16 a1, .int .u16 a2, .int .u8 a3] 54)) 54 #[.int .u16 b1, .int .u16 b2, .int .u8 b3] _ rfl)
    rw [World.size_alloc] at this
    exact this.below (below_alloc _ _) (by simp)
  have oc : Own (((w.alloc (.cells #[.int .u16 a1, .int .u16 a2, .int .u8 a3] 54)).alloc (.cells #[.int .u16 b1, .int .u16 b2, .int .u8 b3] 54)).alloc (.cells #[.int .u16 c1, .int .u16 c2, .int .u8 c3] 54)) (w.heap.size + 1 + 1) 54 [.int .u16 c1, .int .u16 c2, .int .u8 c3] := by
    have := (own_lit ((w.alloc (.cells #[.int .u16 a1, .int .u16 a2, .int .u8 a3] 54)).alloc (.cells #[.int .u16 b1, .int .u16 b2, .int .u8 b3] 54)) 54 #[.int .u16 c1, .int .u16 c2, .int .u8 c3] _ rfl)
    rw [World.size_alloc, World.size_alloc] at this
    exact this
  generalize (((w.alloc (.cells #[.int .u16 a1, .int .u16 a2, .int .u8 a3] 54)).alloc (.cells #[.int .u16 b1, .int .u16 b2, .int .u8 b3] 54)).alloc (.cells #[.int .u16 c1, .int .u16 c2, .int .u8 c3] 54)) = W0 at *
  obtain ⟨pc, hpc⟩ : ∃ p, p = w.heap.size + 1 + 1 := ⟨_, rfl⟩
  obtain ⟨pb, hpb⟩ : ∃ p, p = w.heap.size + 1 := ⟨_, rfl⟩
  obtain ⟨pa, hpa⟩ : ∃ p, p = w.heap.size := ⟨_, rfl⟩
  rw [← hpc] at oc ⊢
  rw [← hpb] at ob ⊢
  rw [← hpa] at oa ⊢
  clear hpa hpb hpc
  have hla := oa.lt
  have hlb := ob.lt
  have hlc := oc.lt
  have B0 := Lib.hid hb0
  have OA0 := Lib.hid oa
  have OB0 := Lib.hid ob
  have OC0 := Lib.hid oc
  obtain ⟨x0, x1, x2⟩ := link_own oa
  obtain ⟨y0, y1, y2⟩ := link_own ob
  obtain ⟨z0, z1, z2⟩ := link_own oc
  clear oa ob oc hb0
  go_wp2_with fail
  refine (C1.out _).mono ?_
  rintro e w1 ⟨rfl, hb⟩
  have oa := OA0.out.below hb (by omega)
  have ob := OB0.out.below hb (by omega)
  have oc := OC0.out.below hb (by omega)
  have hs1 := hb.size
  have B1 := Lib.hid (B0.out.trans (hb.mono B0.out.size))
  have OA1 := Lib.hid oa
  have OB1 := Lib.hid ob
  have OC1 := Lib.hid oc
  clear x0 x1 x2 y0 y1 y2 z0 z1 z2
  obtain ⟨x0, x1, x2⟩ := link_own oa
  obtain ⟨y0, y1, y2⟩ := link_own ob
  obtain ⟨z0, z1, z2⟩ := link_own oc
  clear oa ob oc hb
  go_wp2_with fail
  refine (C2.out _).mono ?_
  rintro e w2 ⟨rfl, hb⟩
  have oa := OA1.out.below hb (by omega)
  have ob := OB1.out.below hb (by omega)
  have oc := OC1.out.below hb (by omega)
  have hs2 := hb.size
  have B2 := Lib.hid (B1.out.trans (hb.mono B1.out.size))
  have OA2 := Lib.hid oa
  have OB2 := Lib.hid ob
  have OC2 := Lib.hid oc
  clear x0 x1 x2 y0 y1 y2 z0 z1 z2
  obtain ⟨x0, x1, x2⟩ := link_own oa
  obtain ⟨y0, y1, y2⟩ := link_own ob
  obtain ⟨z0, z1, z2⟩ := link_own oc
  clear oa ob oc hb
  rcases HX.out with ⟨e, h⟩ | ⟨e, h⟩ | ⟨e, h1, h2, h3⟩
  · subst e
    rcases h with h | ⟨rfl, h | ⟨rfl, h⟩⟩
    · clear HX
      go_wp2_with fail
      refine (C3.out _).mono ?_
      rintro e w3 ⟨rfl, hb⟩
      have oa := OA2.out.below hb (by omega)
      have ob := OB2.out.below hb (by omega)
      have oc := OC2.out.below hb (by omega)
      have hs3 := hb.size
      have B3 := Lib.hid (B2.out.trans (hb.mono B2.out.size))
      have OA3 := Lib.hid oa
      have OB3 := Lib.hid ob
      have OC3 := Lib.hid oc
      clear x0 x1 x2 y0 y1 y2 z0 z1 z2
      obtain ⟨x0, x1, x2⟩ := link_own oa
      obtain ⟨y0, y1, y2⟩ := link_own ob
      obtain ⟨z0, z1, z2⟩ := link_own oc
      clear oa ob oc hb
      by_cases hy : 0 < Y
      · skip
        go_wp2_with fail
        refine (HL.out _ (HP.out.later B3.out)).mono ?_
        rintro e w9 ⟨rfl, hb⟩
        have B9 := Lib.hid (B3.out.trans (hb.mono B3.out.size))
        clear hb
        go_wp2
        go_ret
        exact ⟨rfl, B9.out⟩
      · have hv : ¬ 0 < V := by have := HT.out (by decide) (by omega); omega
        have hv2 : V ≤ 0 := by omega
        have hy2 : Y ≤ 0 := by omega
        go_wp2_with fail
        refine (C4.out _).mono ?_
        rintro e w4 ⟨rfl, hb⟩
        have oa := OA3.out.below hb (by omega)
        have ob := OB3.out.below hb (by omega)
        have oc := OC3.out.below hb (by omega)
        have hs4 := hb.size
        have B4 := Lib.hid (B3.out.trans (hb.mono B3.out.size))
        have OA4 := Lib.hid oa
        have OB4 := Lib.hid ob
        have OC4 := Lib.hid oc
        clear x0 x1 x2 y0 y1 y2 z0 z1 z2
        obtain ⟨x0, x1, x2⟩ := link_own oa
        obtain ⟨y0, y1, y2⟩ := link_own ob
        obtain ⟨z0, z1, z2⟩ := link_own oc
        clear oa ob oc hb
        go_wp2_with fail
        refine (HL.out _ (HP.out.later B4.out)).mono ?_
        rintro e w9 ⟨rfl, hb⟩
        have B9 := Lib.hid (B4.out.trans (hb.mono B4.out.size))
        clear hb
        go_wp2
        go_ret
        exact ⟨rfl, B9.out⟩
    · clear HX
      have g1 : ¬ a1 < a1 := by omega
      go_wp2_with fail
      refine (C3.out _).mono ?_
      rintro e w3 ⟨rfl, hb⟩
      have oa := OA2.out.below hb (by omega)
      have ob := OB2.out.below hb (by omega)
      have oc := OC2.out.below hb (by omega)
      have hs3 := hb.size
      have B3 := Lib.hid (B2.out.trans (hb.mono B2.out.size))
      have OA3 := Lib.hid oa
      have OB3 := Lib.hid ob
      have OC3 := Lib.hid oc
      clear x0 x1 x2 y0 y1 y2 z0 z1 z2
      obtain ⟨x0, x1, x2⟩ := link_own oa
      obtain ⟨y0, y1, y2⟩ := link_own ob
      obtain ⟨z0, z1, z2⟩ := link_own oc
      clear oa ob oc hb
      by_cases hy : 0 < Y
      · skip
        go_wp2_with fail
        refine (HL.out _ (HP.out.later B3.out)).mono ?_
        rintro e w9 ⟨rfl, hb⟩
        have B9 := Lib.hid (B3.out.trans (hb.mono B3.out.size))
        clear hb
        go_wp2
        go_ret
        exact ⟨rfl, B9.out⟩
      · have hv : ¬ 0 < V := by have := HT.out (by decide) (by omega); omega
        have hv2 : V ≤ 0 := by omega
        have hy2 : Y ≤ 0 := by omega
        go_wp2_with fail
        refine (C4.out _).mono ?_
        rintro e w4 ⟨rfl, hb⟩
        have oa := OA3.out.below hb (by omega)
        have ob := OB3.out.below hb (by omega)
        have oc := OC3.out.below hb (by omega)
        have hs4 := hb.size
        have B4 := Lib.hid (B3.out.trans (hb.mono B3.out.size))
        have OA4 := Lib.hid oa
        have OB4 := Lib.hid ob
        have OC4 := Lib.hid oc
        clear x0 x1 x2 y0 y1 y2 z0 z1 z2
        obtain ⟨x0, x1, x2⟩ := link_own oa
        obtain ⟨y0, y1, y2⟩ := link_own ob
        obtain ⟨z0, z1, z2⟩ := link_own oc
        clear oa ob oc hb
        go_wp2_with fail
        refine (HL.out _ (HP.out.later B4.out)).mono ?_
        rintro e w9 ⟨rfl, hb⟩
        have B9 := Lib.hid (B4.out.trans (hb.mono B4.out.size))
        clear hb
        go_wp2
        go_ret
        exact ⟨rfl, B9.out⟩
    · clear HX
      have g1 : ¬ a1 < a1 := by omega
      have g2 : ¬ a2 < a2 := by omega
      go_wp2_with fail
      refine (C3.out _).mono ?_
      rintro e w3 ⟨rfl, hb⟩
      have oa := OA2.out.below hb (by omega)
      have ob := OB2.out.below hb (by omega)
      have oc := OC2.out.below hb (by omega)
      have hs3 := hb.size
      have B3 := Lib.hid (B2.out.trans (hb.mono B2.out.size))
      have OA3 := Lib.hid oa
      have OB3 := Lib.hid ob
      have OC3 := Lib.hid oc
      clear x0 x1 x2 y0 y1 y2 z0 z1 z2
      obtain ⟨x0, x1, x2⟩ := link_own oa
      obtain ⟨y0, y1, y2⟩ := link_own ob
      obtain ⟨z0, z1, z2⟩ := link_own oc
      clear oa ob oc hb
      by_cases hy : 0 < Y
      · skip
        go_wp2_with fail
        refine (HL.out _ (HP.out.later B3.out)).mono ?_
        rintro e w9 ⟨rfl, hb⟩
        have B9 := Lib.hid (B3.out.trans (hb.mono B3.out.size))
        clear hb
        go_wp2
        go_ret
        exact ⟨rfl, B9.out⟩
      · have hv : ¬ 0 < V := by have := HT.out (by decide) (by omega); omega
        have hv2 : V ≤ 0 := by omega
        have hy2 : Y ≤ 0 := by omega
        go_wp2_with fail
        refine (C4.out _).mono ?_
        rintro e w4 ⟨rfl, hb⟩
        have oa := OA3.out.below hb (by omega)
        have ob := OB3.out.below hb (by omega)
        have oc := OC3.out.below hb (by omega)
        have hs4 := hb.size
        have B4 := Lib.hid (B3.out.trans (hb.mono B3.out.size))
        have OA4 := Lib.hid oa
        have OB4 := Lib.hid ob
        have OC4 := Lib.hid oc
        clear x0 x1 x2 y0 y1 y2 z0 z1 z2
        obtain ⟨x0, x1, x2⟩ := link_own oa
        obtain ⟨y0, y1, y2⟩ := link_own ob
        obtain ⟨z0, z1, z2⟩ := link_own oc
        clear oa ob oc hb
        go_wp2_with fail
        refine (HL.out _ (HP.out.later B4.out)).mono ?_
        rintro e w9 ⟨rfl, hb⟩
        have B9 := Lib.hid (B4.out.trans (hb.mono B4.out.size))
        clear hb
        go_wp2
        go_ret
        exact ⟨rfl, B9.out⟩
  · subst e
    rcases h with h | ⟨rfl, h | ⟨rfl, h⟩⟩
    · clear HX
      have g1 : ¬ a1 < b1 := by omega
      have g2 : (a1 == b1) = false := by simp; omega
      go_wp2_with fail
      refine (C3.out _).mono ?_
      rintro e w3 ⟨rfl, hb⟩
      have oa := OA2.out.below hb (by omega)
      have ob := OB2.out.below hb (by omega)
      have oc := OC2.out.below hb (by omega)
      have hs3 := hb.size
      have B3 := Lib.hid (B2.out.trans (hb.mono B2.out.size))
      have OA3 := Lib.hid oa
      have OB3 := Lib.hid ob
      have OC3 := Lib.hid oc
      clear x0 x1 x2 y0 y1 y2 z0 z1 z2
      obtain ⟨x0, x1, x2⟩ := link_own oa
      obtain ⟨y0, y1, y2⟩ := link_own ob
      obtain ⟨z0, z1, z2⟩ := link_own oc
      clear oa ob oc hb
      go_wp2_with fail
      refine (HL.out _ (HP.out.later B3.out)).mono ?_
      rintro e w9 ⟨rfl, hb⟩
      have B9 := Lib.hid (B3.out.trans (hb.mono B3.out.size))
      clear hb
      go_wp2
      go_ret
      exact ⟨rfl, B9.out⟩
    · clear HX
      have g1 : ¬ b1 < b1 := by omega
      have g3 : ¬ a2 < b2 := by omega
      have g2 : (a2 == b2) = false := by simp; omega
      go_wp2_with fail
      refine (C3.out _).mono ?_
      rintro e w3 ⟨rfl, hb⟩
      have oa := OA2.out.below hb (by omega)
      have ob := OB2.out.below hb (by omega)
      have oc := OC2.out.below hb (by omega)
      have hs3 := hb.size
      have B3 := Lib.hid (B2.out.trans (hb.mono B2.out.size))
      have OA3 := Lib.hid oa
      have OB3 := Lib.hid ob
      have OC3 := Lib.hid oc
      clear x0 x1 x2 y0 y1 y2 z0 z1 z2
      obtain ⟨x0, x1, x2⟩ := link_own oa
      obtain ⟨y0, y1, y2⟩ := link_own ob
      obtain ⟨z0, z1, z2⟩ := link_own oc
      clear oa ob oc hb
      go_wp2_with fail
      refine (HL.out _ (HP.out.later B3.out)).mono ?_
      rintro e w9 ⟨rfl, hb⟩
      have B9 := Lib.hid (B3.out.trans (hb.mono B3.out.size))
      clear hb
      go_wp2
      go_ret
      exact ⟨rfl, B9.out⟩
    · clear HX
      have g1 : ¬ b1 < b1 := by omega
      have g3 : ¬ b2 < b2 := by omega
      have g4 : ¬ a3 < b3 := by omega
      have g2 : (a3 == b3) = false := by simp; omega
      go_wp2_with fail
      refine (C3.out _).mono ?_
      rintro e w3 ⟨rfl, hb⟩
      have oa := OA2.out.below hb (by omega)
      have ob := OB2.out.below hb (by omega)
      have oc := OC2.out.below hb (by omega)
      have hs3 := hb.size
      have B3 := Lib.hid (B2.out.trans (hb.mono B2.out.size))
      have OA3 := Lib.hid oa
      have OB3 := Lib.hid ob
      have OC3 := Lib.hid oc
      clear x0 x1 x2 y0 y1 y2 z0 z1 z2
      obtain ⟨x0, x1, x2⟩ := link_own oa
      obtain ⟨y0, y1, y2⟩ := link_own ob
      obtain ⟨z0, z1, z2⟩ := link_own oc
      clear oa ob oc hb
      go_wp2_with fail
      refine (HL.out _ (HP.out.later B3.out)).mono ?_
      rintro e w9 ⟨rfl, hb⟩
      have B9 := Lib.hid (B3.out.trans (hb.mono B3.out.size))
      clear hb
      go_wp2
      go_ret
      exact ⟨rfl, B9.out⟩
  · subst e h1 h2 h3
    clear HX
    have g1 : ¬ a1 < a1 := by omega
    have g2 : ¬ a2 < a2 := by omega
    have g3 : ¬ a3 < a3 := by omega
    go_wp2_with fail
    refine (C3.out _).mono ?_
    rintro e w3 ⟨rfl, hb⟩
    have oa := OA2.out.below hb (by omega)
    have ob := OB2.out.below hb (by omega)
    have oc := OC2.out.below hb (by omega)
    have hs3 := hb.size
    have B3 := Lib.hid (B2.out.trans (hb.mono B2.out.size))
    have OA3 := Lib.hid oa
    have OB3 := Lib.hid ob
    have OC3 := Lib.hid oc
    clear x0 x1 x2 y0 y1 y2 z0 z1 z2
    obtain ⟨x0, x1, x2⟩ := link_own oa
    obtain ⟨y0, y1, y2⟩ := link_own ob
    obtain ⟨z0, z1, z2⟩ := link_own oc
    clear oa ob oc hb
    by_cases hy : 0 < Y
    · skip
      go_wp2_with fail
      refine (HL.out _ (HP.out.later B3.out)).mono ?_
      rintro e w9 ⟨rfl, hb⟩
      have B9 := Lib.hid (B3.out.trans (hb.mono B3.out.size))
      clear hb
      go_wp2
      go_ret
      exact ⟨rfl, B9.out⟩
    · have hv : ¬ 0 < V := by have := HT.out (by decide) (by omega); omega
      have hv2 : V ≤ 0 := by omega
      have hy2 : Y ≤ 0 := by omega
      go_wp2_with fail
      refine (C4.out _).mono ?_
      rintro e w4 ⟨rfl, hb⟩
      have oa := OA3.out.below hb (by omega)
      have ob := OB3.out.below hb (by omega)
      have oc := OC3.out.below hb (by omega)
      have hs4 := hb.size
      have B4 := Lib.hid (B3.out.trans (hb.mono B3.out.size))
      have OA4 := Lib.hid oa
      have OB4 := Lib.hid ob
      have OC4 := Lib.hid oc
      clear x0 x1 x2 y0 y1 y2 z0 z1 z2
      obtain ⟨x0, x1, x2⟩ := link_own oa
      obtain ⟨y0, y1, y2⟩ := link_own ob
      obtain ⟨z0, z1, z2⟩ := link_own oc
      clear oa ob oc hb
      go_wp2_with fail
      refine (HL.out _ (HP.out.later B4.out)).mono ?_
      rintro e w9 ⟨rfl, hb⟩
      have B9 := Lib.hid (B4.out.trans (hb.mono B4.out.size))
      clear hb
      go_wp2
      go_ret
      exact ⟨rfl, B9.out⟩
end Go.Proofs.YtcojjhokcebogaaDoor
