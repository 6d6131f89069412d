/- The statement LabelsLinks: the walk where Link refuses. -/
import Derived.Test.YtcojjhokcebogaaDoorLsLives
import Derived.Test.YtcojjhokcebogaaDoorLbCmp
import Derived.Deep.Cut
namespace Go.Proofs.YtcojjhokcebogaaDoor
open Go.RowKit

theorem ends_own {W : World} {g t : Nat} {a b c d e : Value} (h : Own W g t [a, b, c, d, e]) : W.cell? ⟨g, 0, none⟩ = some a ∧ W.cell? ⟨g, 1, none⟩ = some b ∧ W.cell? ⟨g, 2, none⟩ = some c ∧ W.cell? ⟨g, 3, none⟩ = some d ∧ W.cell? ⟨g, 4, none⟩ = some e := by
  have c0 := h.cell 0 (by simp)
  have c1 := h.cell 1 (by simp)
  have c2 := h.cell 2 (by simp)
  have c3 := h.cell 3 (by simp)
  have c4 := h.cell 4 (by simp)
  simp at c0 c1 c2 c3 c4
  exact ⟨c0, c1, c2, c3, c4⟩
theorem xor_back {a b : Int} (h0 : 0 ≤ a) (h1 : a < 65536) (h2 : 0 ≤ b) (h3 : b < 65536) : bits .xor .u16 (bits .xor .u16 a b) a = b ∧ bits .xor .u16 (bits .xor .u16 a b) b = a := by
  have hx : ∀ x y : Nat, x < 65536 → y < 65536 → x ^^^ y < 65536 := fun x y hx hy => Nat.xor_lt_two_pow (n := 16) hx hy
  have l := hx a.toNat b.toNat (by omega) (by omega)
  rw [u16_xor a b h0 h1 h2 h3, u16_xor _ a (by omega) (by omega) h0 h1, u16_xor _ b (by omega) (by omega) h2 h3]
  simp only [Int.toNat_natCast]
  constructor
  · rw [Nat.xor_comm a.toNat b.toNat, Nat.xor_assoc, Nat.xor_self, Nat.xor_zero]; omega
  · rw [Nat.xor_assoc, Nat.xor_self, Nat.xor_zero]; omega
set_option maxHeartbeats 4000000 in
set_option maxRecDepth 100000 in
theorem links_bad (a b cd zp la lb lc : Int) (w : World) (hp : PowOk w) (ha : 0 ≤ a ∧ a ≤ 65535) (hb : 0 ≤ b ∧ b ≤ 65535) (_hzp : 0 ≤ zp ∧ zp ≤ 65535) (_hla : 0 ≤ la ∧ la ≤ 65535) (_hlb : 0 ≤ lb ∧ lb ≤ 65535) (h : a = b ∨ 16383 < a ∨ 16383 < b ∨ 15 < cd) :
    Calls Tryd.prog 8 #[.int .u16 a, .int .u16 b, .agg #[.int .u8 cd, .int .u16 zp, .int .u16 la, .int .u16 lb, .int .u8 lc]] w fun e w' => e = .returned (.bool true) ∧ Below w.heap.size w w' := by
  have C1 := Lib.hid (fun W => link_bad a b cd W h)
  have C2 := Lib.hid (fun W => link_bad b a cd W (by omega))
  clear ha hb _hzp _hla _hlb
  have HL := Lib.hid (fun W hW => lives_any W hW)
  have HP := Lib.hid hp
  clear hp
  go_enter Tryd.func8, Tryd.ntmps8
  go_upto_region 1 with fail
  have hb0 := below_alloc w (.cells #[.int .u8 cd, .int .u16 zp, .int .u16 la, .int .u16 lb, .int .u8 lc] 56)
  have oz := own_lit w 56 #[.int .u8 cd, .int .u16 zp, .int .u16 la, .int .u16 lb, .int .u8 lc] _ rfl
  generalize w.alloc (.cells #[.int .u8 cd, .int .u16 zp, .int .u16 la, .int .u16 lb, .int .u8 lc] 56) = W0 at *
  obtain ⟨pz, hpz⟩ : ∃ p, p = w.heap.size := ⟨_, rfl⟩
  rw [← hpz] at oz ⊢
  clear hpz
  have hlz := oz.lt
  obtain ⟨z0, z1, z2, z3, z4⟩ := ends_own oz
  have B0 := Lib.hid hb0
  have OZ0 := Lib.hid oz
  clear oz hb0
  go_wp2_with fail
  refine (C1.out _).mono ?_
  rintro e x1 ⟨rfl, hb⟩
  go_upto_region 2 with fail
  have hq := below_alloc x1 (.cells #[.int .u16 0, .int .u16 0, .int .u8 0] 54)
  have oz := (OZ0.out.below hb (by omega)).below hq (by have := hb.size; omega)
  have o1 := own_lit x1 54 #[.int .u16 0, .int .u16 0, .int .u8 0] _ rfl
  have hbt := (B0.out.trans (hb.mono B0.out.size)).trans (hq.mono (by have := hb.size; have := B0.out.size; omega))
  generalize x1.alloc (.cells #[.int .u16 0, .int .u16 0, .int .u8 0] 54) = W1 at *
  obtain ⟨p1, hp1⟩ : ∃ p, p = x1.heap.size := ⟨_, rfl⟩
  rw [← hp1] at o1 ⊢
  clear hp1
  have hsz1 := hb.size
  have hsq1 := hq.size
  have hl1 := o1.lt
  have B1 := Lib.hid hbt
  have OZ1 := Lib.hid oz
  clear z0 z1 z2 z3 z4
  obtain ⟨z0, z1, z2, z3, z4⟩ := ends_own oz
  have OA1 := Lib.hid o1
  obtain ⟨u0, u1, u2⟩ := link_own o1
  clear oz o1 hb hq hbt
  go_wp2_with fail
  refine (C2.out _).mono ?_
  rintro e x2 ⟨rfl, hb⟩
  go_upto_region 3 with fail
  have hq := below_alloc x2 (.cells #[.int .u16 0, .int .u16 0, .int .u8 0] 54)
  have oz := (OZ1.out.below hb (by omega)).below hq (by have := hb.size; omega)
  have o1 := (OA1.out.below hb (by omega)).below hq (by have := hb.size; omega)
  have o2 := own_lit x2 54 #[.int .u16 0, .int .u16 0, .int .u8 0] _ rfl
  have hbt := (B1.out.trans (hb.mono B1.out.size)).trans (hq.mono (by have := hb.size; have := B1.out.size; omega))
  generalize x2.alloc (.cells #[.int .u16 0, .int .u16 0, .int .u8 0] 54) = W2 at *
  obtain ⟨p2, hp2⟩ : ∃ p, p = x2.heap.size := ⟨_, rfl⟩
  rw [← hp2] at o2 ⊢
  clear hp2
  have hsz2 := hb.size
  have hsq2 := hq.size
  have hl2 := o2.lt
  have B2 := Lib.hid hbt
  have OZ2 := Lib.hid oz
  clear z0 z1 z2 z3 z4 u0 u1 u2
  obtain ⟨z0, z1, z2, z3, z4⟩ := ends_own oz
  have OA2 := Lib.hid o1
  obtain ⟨u0, u1, u2⟩ := link_own o1
  have OB2 := Lib.hid o2
  obtain ⟨v0, v1, v2⟩ := link_own o2
  clear oz o1 hb hq hbt o2
  by_cases e1 : a = b
  · subst e1
    clear h
    go_wp2_with fail
    refine (HL.out _ (HP.out.later B2.out)).mono ?_
    rintro e w9 ⟨rfl, hb⟩
    have B9 := Lib.hid (B2.out.trans (hb.mono B2.out.size))
    clear hb
    go_wp2
    go_ret
    exact ⟨rfl, B9.out⟩
  · have g1 : (a == b) = false := by simpa using e1
    by_cases e2 : 16383 < a
    · clear h e1
      go_wp2_with fail
      refine (HL.out _ (HP.out.later B2.out)).mono ?_
      rintro e w9 ⟨rfl, hb⟩
      have B9 := Lib.hid (B2.out.trans (hb.mono B2.out.size))
      clear hb
      go_wp2
      go_ret
      exact ⟨rfl, B9.out⟩
    · by_cases e3 : 16383 < b
      · clear h e1
        go_wp2_with fail
        refine (HL.out _ (HP.out.later B2.out)).mono ?_
        rintro e w9 ⟨rfl, hb⟩
        have B9 := Lib.hid (B2.out.trans (hb.mono B2.out.size))
        clear hb
        go_wp2
        go_ret
        exact ⟨rfl, B9.out⟩
      · have e4 : 15 < cd := by omega
        clear h e1
        go_wp2_with fail
        refine (HL.out _ (HP.out.later B2.out)).mono ?_
        rintro e w9 ⟨rfl, hb⟩
        have B9 := Lib.hid (B2.out.trans (hb.mono B2.out.size))
        clear hb
        go_wp2
        go_ret
        exact ⟨rfl, B9.out⟩
end Go.Proofs.YtcojjhokcebogaaDoor
