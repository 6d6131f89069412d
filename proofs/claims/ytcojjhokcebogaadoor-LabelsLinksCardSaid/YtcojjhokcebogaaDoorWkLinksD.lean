/- The statement LabelsLinks: the walk, b below a. -/
import Derived.Test.YtcojjhokcebogaaDoorWkLinksB
namespace Go.Proofs.YtcojjhokcebogaaDoor
open Go.RowKit

set_option maxHeartbeats 8000000 in
set_option maxRecDepth 100000 in
theorem links_down (a b cd zp la lb lc : Int) (w : World) (hp : PowOk w) (ha : 0 ≤ a ∧ a ≤ 65535) (hb : 0 ≤ b ∧ b ≤ 65535) (_hzp : 0 ≤ zp ∧ zp ≤ 65535) (hla : 0 ≤ la ∧ la ≤ 65535) (hlb : 0 ≤ lb ∧ lb ≤ 65535) (h : b < a) (h1 : a ≤ 16383) (h2 : cd ≤ 15) :
    Calls Tryd.prog 8 #[.int .u16 a, .int .u16 b, .agg #[.int .u8 cd, .int .u16 zp, .int .u16 la, .int .u16 lb, .int .u8 lc]] w fun e w' => e = .returned (.bool true) ∧ Below w.heap.size w w' := by
  have C1 := Lib.hid (fun W => link_ok' a b cd W h h1 h2)
  have C2 := Lib.hid (fun W => link_ok b a cd W h h1 h2)
  have hne : a ≠ b := by omega
  have k1 := fun W => other_any b a cd a W
  have k2 := fun W => other_any b a cd b W
  have k3 := fun W => other_any b a cd zp W
  have k4 := fun W => other_any la lb lc zp W
  rw [show othB b a a = true by simp [othB]; omega, show othL b a a = b by simp [othL, othB]; omega] at k1
  rw [show othB b a b = true by simp [othB]; omega, show othL b a b = a by simp [othL, othB]; omega] at k2
  obtain ⟨T3, hT3⟩ : ∃ T, T = othB b a zp := ⟨_, rfl⟩
  obtain ⟨V3, hV3⟩ : ∃ T, T = othL b a zp := ⟨_, rfl⟩
  obtain ⟨T4, hT4⟩ : ∃ T, T = othB la lb zp := ⟨_, rfl⟩
  obtain ⟨V4, hV4⟩ : ∃ T, T = othL la lb zp := ⟨_, rfl⟩
  rw [← hT3, ← hV3] at k3
  rw [← hT4, ← hV4] at k4
  have HT3 : Hid ((zp = a ∧ T3 = true) ∨ (zp = b ∧ T3 = true) ∨ (T3 = false ∧ (zp == a) = false ∧ (zp == b) = false)) := Lib.hid (by
    rw [hT3]
    by_cases e1 : zp = a
    · left; subst e1; simp [othB]; omega
    · by_cases e2 : zp = b
      · right; left; subst e2; simp [othB]; omega
      · right; right; simp [othB]; omega)
  have xb := xor_back (a := la) (b := lb) hla.1 (by omega) hlb.1 (by omega)
  have HT4 : Hid ((la = lb ∧ T4 = false ∧ V4 = 0) ∨ ((la == lb) = false ∧ la = zp ∧ T4 = true ∧ V4 = lb ∧ bits .xor .u16 (bits .xor .u16 la lb) zp = lb) ∨ ((la == lb) = false ∧ (la == zp) = false ∧ lb = zp ∧ T4 = true ∧ V4 = la ∧ bits .xor .u16 (bits .xor .u16 la lb) zp = la) ∨ ((la == lb) = false ∧ (la == zp) = false ∧ (lb == zp) = false ∧ T4 = false ∧ V4 = 0)) := Lib.hid (by
    rw [hT4, hV4]
    by_cases e1 : la = lb
    · left; subst e1; simp [othB, othL]
    · by_cases e2 : la = zp
      · right; left; subst e2; exact ⟨by simpa using e1, rfl, by simp [othB]; omega, by simp [othB, othL]; omega, xb.1⟩
      · by_cases e3 : lb = zp
        · right; right; left; subst e3; exact ⟨by simpa using e1, by simpa using e2, rfl, by simp [othB]; omega, by simp [othB, othL]; omega, xb.2⟩
        · right; right; right; exact ⟨by simpa using e1, by simpa using e2, by simpa using e3, by simp [othB]; omega, by simp [othB, othL]; omega⟩)
  have K1 := Lib.hid k1
  have K2 := Lib.hid k2
  have K3 := Lib.hid k3
  have K4 := Lib.hid k4
  have gab : (a == b) = false := by simpa using hne
  have gba : (b == a) = false := by simpa using fun e => hne (Eq.symm e)
  have ga1 : ¬ 16383 < a := by omega
  have gb1 : ¬ 16383 < b := by omega
  have gc1 : ¬ 15 < cd := by omega
  have gge : ¬ a ≤ b := by omega
  clear k1 k2 k3 k4 hT3 hV3 hT4 hV4 xb ha hb _hzp hla hlb h h1 h2 hne
  have HL := Lib.hid (fun W hW => lives_any W hW)
  have HP := Lib.hid hp
  clear hp
  go_enter Tryd.func8, Tryd.ntmps8
  go_upto_region 1 with fail
  have hb0 := below_alloc w (.cells #[.int .u8 cd, .int .u16 zp, .int .u16 la, .int .u16 lb, .int .u8 lc] 56)
  have oz := own_lit w 56 #[.int .u8 cd, .int .u16 zp, .int .u16 la, .int .u16 lb, .int .u8 lc] _ rfl
  generalize w.alloc (.cells #[.int .u8 cd, .int .u16 zp, .int .u16 la, .int .u16 lb, .int .u8 lc] 56) = W0 at *
  obtain ⟨pz, hpz⟩ : ∃ p, p = w.heap.size := ⟨_, rfl⟩
  rw [← hpz] at oz ⊢
  clear hpz
  have hlz := oz.lt
  obtain ⟨z0, z1, z2, z3, z4⟩ := ends_own oz
  have B0 := Lib.hid hb0
  have OZ0 := Lib.hid oz
  clear oz hb0
  go_wp2_with fail
  refine (C1.out _).mono ?_
  rintro e x1 ⟨rfl, hb⟩
  go_upto_region 2 with fail
  have hq := below_alloc x1 (.cells #[.int .u16 b, .int .u16 a, .int .u8 cd] 54)
  have oz := (OZ0.out.below hb (by omega)).below hq (by have := hb.size; omega)
  have o1 := own_lit x1 54 #[.int .u16 b, .int .u16 a, .int .u8 cd] _ rfl
  have hbt := (B0.out.trans (hb.mono B0.out.size)).trans (hq.mono (by have := hb.size; have := B0.out.size; omega))
  generalize x1.alloc (.cells #[.int .u16 b, .int .u16 a, .int .u8 cd] 54) = W1 at *
  obtain ⟨p1, hp1⟩ : ∃ p, p = x1.heap.size := ⟨_, rfl⟩
  rw [← hp1] at o1 ⊢
  clear hp1
  have hsz1 := hb.size
  have hsq1 := hq.size
  have hl1 := o1.lt
  have B1 := Lib.hid hbt
  have OZ1 := Lib.hid oz
  clear z0 z1 z2 z3 z4
  obtain ⟨z0, z1, z2, z3, z4⟩ := ends_own oz
  have OA1 := Lib.hid o1
  obtain ⟨u0, u1, u2⟩ := link_own o1
  clear oz o1 hb hq hbt
  go_wp2_with fail
  refine (C2.out _).mono ?_
  rintro e x2 ⟨rfl, hb⟩
  go_upto_region 3 with fail
  have hq := below_alloc x2 (.cells #[.int .u16 b, .int .u16 a, .int .u8 cd] 54)
  have oz := (OZ1.out.below hb (by omega)).below hq (by have := hb.size; omega)
  have o1 := (OA1.out.below hb (by omega)).below hq (by have := hb.size; omega)
  have o2 := own_lit x2 54 #[.int .u16 b, .int .u16 a, .int .u8 cd] _ rfl
  have hbt := (B1.out.trans (hb.mono B1.out.size)).trans (hq.mono (by have := hb.size; have := B1.out.size; omega))
  generalize x2.alloc (.cells #[.int .u16 b, .int .u16 a, .int .u8 cd] 54) = W2 at *
  obtain ⟨p2, hp2⟩ : ∃ p, p = x2.heap.size := ⟨_, rfl⟩
  rw [← hp2] at o2 ⊢
  clear hp2
  have hsz2 := hb.size
  have hsq2 := hq.size
  have hl2 := o2.lt
  have B2 := Lib.hid hbt
  have OZ2 := Lib.hid oz
  clear z0 z1 z2 z3 z4 u0 u1 u2
  obtain ⟨z0, z1, z2, z3, z4⟩ := ends_own oz
  have OA2 := Lib.hid o1
  obtain ⟨u0, u1, u2⟩ := link_own o1
  have OB2 := Lib.hid o2
  obtain ⟨v0, v1, v2⟩ := link_own o2
  clear oz o1 hb hq hbt o2
  go_wp2_with fail
  refine (K1.out _).mono ?_
  rintro e w3 ⟨rfl, hb⟩
  have oz := OZ2.out.below hb (by omega)
  have o1 := OA2.out.below hb (by omega)
  have hs3 := hb.size
  have B3 := Lib.hid (B2.out.trans (hb.mono B2.out.size))
  have OZ3 := Lib.hid oz
  have OA3 := Lib.hid o1
  clear z0 z1 z2 z3 z4 u0 u1 u2 v0 v1 v2
  obtain ⟨z0, z1, z2, z3, z4⟩ := ends_own oz
  obtain ⟨u0, u1, u2⟩ := link_own o1
  clear oz o1 hb
  go_wp2_with fail
  refine (K2.out _).mono ?_
  rintro e w4 ⟨rfl, hb⟩
  have oz := OZ3.out.below hb (by omega)
  have o1 := OA3.out.below hb (by omega)
  have hs4 := hb.size
  have B4 := Lib.hid (B3.out.trans (hb.mono B3.out.size))
  have OZ4 := Lib.hid oz
  have OA4 := Lib.hid o1
  clear z0 z1 z2 z3 z4 u0 u1 u2
  obtain ⟨z0, z1, z2, z3, z4⟩ := ends_own oz
  obtain ⟨u0, u1, u2⟩ := link_own o1
  clear oz o1 hb
  go_wp2_with fail
  refine (K3.out _).mono ?_
  rintro e w5 ⟨rfl, hb⟩
  have oz := OZ4.out.below hb (by omega)
  have o1 := OA4.out.below hb (by omega)
  have hs5 := hb.size
  have B5 := Lib.hid (B4.out.trans (hb.mono B4.out.size))
  have OZ5 := Lib.hid oz
  have OA5 := Lib.hid o1
  clear z0 z1 z2 z3 z4 u0 u1 u2
  obtain ⟨z0, z1, z2, z3, z4⟩ := ends_own oz
  obtain ⟨u0, u1, u2⟩ := link_own o1
  clear oz o1 hb
  go_wp2_with fail
  refine (K4.out _).mono ?_
  rintro e w6 ⟨rfl, hb⟩
  have oz := OZ5.out.below hb (by omega)
  have o1 := OA5.out.below hb (by omega)
  have hs6 := hb.size
  have B6 := Lib.hid (B5.out.trans (hb.mono B5.out.size))
  have OZ6 := Lib.hid oz
  have OA6 := Lib.hid o1
  clear z0 z1 z2 z3 z4 u0 u1 u2
  obtain ⟨z0, z1, z2, z3, z4⟩ := ends_own oz
  obtain ⟨u0, u1, u2⟩ := link_own o1
  clear oz o1 hb
  rcases HT3.out with ⟨q1, q2⟩ | ⟨q1, q2⟩ | ⟨q2, q3, q4⟩
  · subst q2
    subst q1
    rcases HT4.out with ⟨y1, y2, y3⟩ | ⟨y1, y2, y3, y4, y5⟩ | ⟨y1, y2, y3, y4, y5, y6⟩ | ⟨y1, y2, y3, y4, y5⟩
    · subst y1 y2 y3
      go_wp2_with fail
      refine (HL.out _ (HP.out.later B6.out)).mono ?_
      rintro e w9 ⟨rfl, hb⟩
      have B9 := Lib.hid (B6.out.trans (hb.mono B6.out.size))
      clear hb
      go_wp2
      go_ret
      exact ⟨rfl, B9.out⟩
    · have y9 : (la != lb) = true := by simpa using y1
      subst y3 y4
      subst y2
      go_wp2_with fail
      refine (HL.out _ (HP.out.later B6.out)).mono ?_
      rintro e w9 ⟨rfl, hb⟩
      have B9 := Lib.hid (B6.out.trans (hb.mono B6.out.size))
      clear hb
      go_wp2
      go_ret
      exact ⟨rfl, B9.out⟩
    · have y9 : (la != lb) = true := by simpa using y1
      subst y4 y5
      subst y3
      go_wp2_with fail
      refine (HL.out _ (HP.out.later B6.out)).mono ?_
      rintro e w9 ⟨rfl, hb⟩
      have B9 := Lib.hid (B6.out.trans (hb.mono B6.out.size))
      clear hb
      go_wp2
      go_ret
      exact ⟨rfl, B9.out⟩
    · have y9 : (la != lb) = true := by simpa using y1
      subst y4 y5
      go_wp2_with fail
      refine (HL.out _ (HP.out.later B6.out)).mono ?_
      rintro e w9 ⟨rfl, hb⟩
      have B9 := Lib.hid (B6.out.trans (hb.mono B6.out.size))
      clear hb
      go_wp2
      go_ret
      exact ⟨rfl, B9.out⟩
  · subst q2
    subst q1
    rcases HT4.out with ⟨y1, y2, y3⟩ | ⟨y1, y2, y3, y4, y5⟩ | ⟨y1, y2, y3, y4, y5, y6⟩ | ⟨y1, y2, y3, y4, y5⟩
    · subst y1 y2 y3
      go_wp2_with fail
      refine (HL.out _ (HP.out.later B6.out)).mono ?_
      rintro e w9 ⟨rfl, hb⟩
      have B9 := Lib.hid (B6.out.trans (hb.mono B6.out.size))
      clear hb
      go_wp2
      go_ret
      exact ⟨rfl, B9.out⟩
    · have y9 : (la != lb) = true := by simpa using y1
      subst y3 y4
      subst y2
      go_wp2_with fail
      refine (HL.out _ (HP.out.later B6.out)).mono ?_
      rintro e w9 ⟨rfl, hb⟩
      have B9 := Lib.hid (B6.out.trans (hb.mono B6.out.size))
      clear hb
      go_wp2
      go_ret
      exact ⟨rfl, B9.out⟩
    · have y9 : (la != lb) = true := by simpa using y1
      subst y4 y5
      subst y3
      go_wp2_with fail
      refine (HL.out _ (HP.out.later B6.out)).mono ?_
      rintro e w9 ⟨rfl, hb⟩
      have B9 := Lib.hid (B6.out.trans (hb.mono B6.out.size))
      clear hb
      go_wp2
      go_ret
      exact ⟨rfl, B9.out⟩
    · have y9 : (la != lb) = true := by simpa using y1
      subst y4 y5
      go_wp2_with fail
      refine (HL.out _ (HP.out.later B6.out)).mono ?_
      rintro e w9 ⟨rfl, hb⟩
      have B9 := Lib.hid (B6.out.trans (hb.mono B6.out.size))
      clear hb
      go_wp2
      go_ret
      exact ⟨rfl, B9.out⟩
  · subst q2
    rcases HT4.out with ⟨y1, y2, y3⟩ | ⟨y1, y2, y3, y4, y5⟩ | ⟨y1, y2, y3, y4, y5, y6⟩ | ⟨y1, y2, y3, y4, y5⟩
    · subst y1 y2 y3
      go_wp2_with fail
      refine (HL.out _ (HP.out.later B6.out)).mono ?_
      rintro e w9 ⟨rfl, hb⟩
      have B9 := Lib.hid (B6.out.trans (hb.mono B6.out.size))
      clear hb
      go_wp2
      go_ret
      exact ⟨rfl, B9.out⟩
    · have y9 : (la != lb) = true := by simpa using y1
      subst y3 y4
      subst y2
      go_wp2_with fail
      refine (HL.out _ (HP.out.later B6.out)).mono ?_
      rintro e w9 ⟨rfl, hb⟩
      have B9 := Lib.hid (B6.out.trans (hb.mono B6.out.size))
      clear hb
      go_wp2
      go_ret
      exact ⟨rfl, B9.out⟩
    · have y9 : (la != lb) = true := by simpa using y1
      subst y4 y5
      subst y3
      go_wp2_with fail
      refine (HL.out _ (HP.out.later B6.out)).mono ?_
      rintro e w9 ⟨rfl, hb⟩
      have B9 := Lib.hid (B6.out.trans (hb.mono B6.out.size))
      clear hb
      go_wp2
      go_ret
      exact ⟨rfl, B9.out⟩
    · have y9 : (la != lb) = true := by simpa using y1
      subst y4 y5
      go_wp2_with fail
      refine (HL.out _ (HP.out.later B6.out)).mono ?_
      rintro e w9 ⟨rfl, hb⟩
      have B9 := Lib.hid (B6.out.trans (hb.mono B6.out.size))
      clear hb
      go_wp2
      go_ret
      exact ⟨rfl, B9.out⟩
end Go.Proofs.YtcojjhokcebogaaDoor
