/- Statements of layer 8: the examples of the chapter. -/
import Derived.Test.YtblhfdkopnaobaaMoReset
import Derived.Test.YtblhfdkopnaobaaMoLevels
import Derived.Test.YtblhfdkopnaobaaMoMake
namespace Go.Proofs.Ytblhfdkopnaobaa
open Go.RowKit

abbrev mR : Mo := Mo.new .rate 3 4 1 1
abbrev mS : Mo := Mo.new .sum 2 1 1 1
abbrev mP : Mo := Mo.new .span 4 2 3 1
theorem textR : bstr (levText mR (unitsOf ⟨#[120, 46, 120, 46, 120, 120]⟩)) = ⟨#[49, 49, 50, 49, 50, 51, 111]⟩ := by rfl
theorem textS : bstr (levText mS (unitsOf ⟨#[46, 120, 46, 120, 46]⟩)) = ⟨#[48, 49, 49, 50, 50, 111]⟩ := by rfl
theorem textP : bstr (levText mP (unitsOf ⟨#[46, 120, 46, 46, 120, 120, 46, 46]⟩)) = ⟨#[48, 51, 51, 50, 50, 52, 52, 52, 111]⟩ := by rfl
theorem firstR1 : mR.firstI (unitsOf ⟨#[120, 46, 120, 46, 120]⟩) = -1 := by rfl
theorem firstR2 : mR.firstI (unitsOf ⟨#[120, 46, 120, 46, 120, 120]⟩) = 6 := by rfl
theorem resetR (l : List Bool) : (mR.run l).reset = mR := Mo.reset_run ..
theorem afterR (l : List Bool) : (mR.after l).reset = mR := by
  cases h : mR.first l with
  | some k => rw [Mo.after_some h]; exact resetR _
  | none => rw [Mo.after_none h]; exact resetR _
theorem afterKd (l : List Bool) : (mR.after l).kd = .rate := by
  cases h : mR.first l with
  | some k => rw [Mo.after_some h, Mo.run_kd]; rfl
  | none => rw [Mo.after_none h, Mo.run_kd]; rfl
theorem afterR2 : (mR.after (unitsOf ⟨#[120, 46, 120, 46, 120, 120]⟩)).firstI [] = 0 := by rfl
/-- What a constructor does, spelled out. -/
def Made (t : Nat) (m : Mo) (w : World) (e : Ending) (w' : World) : Prop :=
  ∃ g, e = .returned (.tuple #[.iface t (.pointer (some ⟨g, 0, none⟩)), .int .i64 0]) ∧ w.heap.size ≤ g ∧ MoAt w' g m ∧ Below w.heap.size w w'
theorem litR (W : World) : Calls Try.prog 16 #[.int .i64 3, .int .i64 4] W (Made 54 mR W) := newRate_ok 3 4 W (by omega) (by omega) (by omega) (by omega)
theorem litS (W : World) : Calls Try.prog 15 #[.int .i64 2] W (Made 49 mS W) := newSum_ok 2 W (by omega) (by omega)
theorem litP (W : World) : Calls Try.prog 17 #[.int .i64 4, .int .i64 2, .int .i64 3, .int .i64 1] W (Made 57 mP W) := newSpan_ok 4 2 3 1 W (by omega) (by omega) (by omega) (by omega) (by omega) (by omega) (by omega) (by omega)
theorem litZ (W : World) : Calls Try.prog 15 #[.int .i64 0] W fun e w' => e = .returned (.tuple #[.nilIface, .int .i64 1]) ∧ Below W.heap.size W w' := newSum_bad 0 W (by decide) (by decide)
theorem litRt (g : Nat) (W : World) (h : MoAt W g mR) : Calls Try.prog 18 #[.iface 54 (.pointer (some ⟨g, 0, none⟩)), .string ⟨#[120, 46, 120, 46, 120, 120]⟩] W fun e w' => e = .returned (.string ⟨#[49, 49, 50, 49, 50, 51, 111]⟩) ∧ MoAt w' g (mR.run (unitsOf ⟨#[120, 46, 120, 46, 120, 120]⟩)) ∧ Exc (fun k => k = g) W w' := by
  refine (levels_any g mR ⟨#[120, 46, 120, 46, 120, 120]⟩ W h (by decide)).mono ?_
  rintro e w' ⟨rfl, h1, h2⟩
  exact ⟨by rw [textR], h1, h2⟩
theorem litSt (g : Nat) (W : World) (h : MoAt W g mS) : Calls Try.prog 18 #[.iface 49 (.pointer (some ⟨g, 0, none⟩)), .string ⟨#[46, 120, 46, 120, 46]⟩] W fun e w' => e = .returned (.string ⟨#[48, 49, 49, 50, 50, 111]⟩) ∧ MoAt w' g (mS.run (unitsOf ⟨#[46, 120, 46, 120, 46]⟩)) ∧ Exc (fun k => k = g) W w' := by
  refine (levels_any g mS ⟨#[46, 120, 46, 120, 46]⟩ W h (by decide)).mono ?_
  rintro e w' ⟨rfl, h1, h2⟩
  exact ⟨by rw [textS], h1, h2⟩
theorem litPt (g : Nat) (W : World) (h : MoAt W g mP) : Calls Try.prog 18 #[.iface 57 (.pointer (some ⟨g, 0, none⟩)), .string ⟨#[46, 120, 46, 46, 120, 120, 46, 46]⟩] W fun e w' => e = .returned (.string ⟨#[48, 51, 51, 50, 50, 52, 52, 52, 111]⟩) ∧ MoAt w' g (mP.run (unitsOf ⟨#[46, 120, 46, 46, 120, 120, 46, 46]⟩)) ∧ Exc (fun k => k = g) W w' := by
  refine (levels_any g mP ⟨#[46, 120, 46, 46, 120, 120, 46, 46]⟩ W h (by decide)).mono ?_
  rintro e w' ⟨rfl, h1, h2⟩
  exact ⟨by rw [textP], h1, h2⟩
theorem MoAt.far {w w' : World} {a g : Nat} {m : Mo} (h : MoAt w a m) (hx : Exc (fun k => k = g) w w') (hn : a ≠ g) : MoAt w' a m := h.exc hx hn
set_option maxHeartbeats 4000000 in
set_option maxRecDepth 100000 in
theorem mlives_any (w : World) : Calls Try.prog 9 #[] w fun e w' => e = .returned (.bool true) ∧ Below w.heap.size w w' := by
  go_enter Try.func9, Try.ntmps9
  go_wp2_with fail
  with_reducible refine (litR _).mono ?_
  rintro e w1 ⟨ga, rfl, g1, m1, b1⟩
  have HB1 := Lib.hid b1
  have HA1 := Lib.hid m1
  have HG1 := Lib.hid g1
  clear g1 m1 b1
  go_wp2_with fail
  with_reducible refine (litS _).mono ?_
  rintro e w2 ⟨gb, rfl, g2, m2, b2⟩
  have HB2 := Lib.hid (HB1.out.trans (Below.mono b2 HB1.out.size))
  have HA2 := Lib.hid (HA1.out.below b2)
  have HG2 := Lib.hid (And.intro (show ga < gb by have := HA1.out.lt; omega) (show w.heap.size ≤ gb by have := HB1.out.size; omega))
  have HS2 := Lib.hid m2
  clear g2 m2 b2 HB1 HA1
  go_wp2_with fail
  with_reducible refine (litP _).mono ?_
  rintro e w3 ⟨gc, rfl, g3, m3, b3⟩
  have HB3 := Lib.hid (HB2.out.trans (Below.mono b3 HB2.out.size))
  have HA3 := Lib.hid (HA2.out.below b3)
  have HS3 := Lib.hid (HS2.out.below b3)
  have HG3 := Lib.hid (And.intro (show gb < gc by have := HS2.out.lt; omega) (show w.heap.size ≤ gc by have := HB2.out.size; omega))
  have HP3 := Lib.hid m3
  clear g3 m3 b3 HB2 HA2 HS2
  go_wp2_with fail
  with_reducible refine (litZ _).mono ?_
  rintro e w4 ⟨rfl, b4⟩
  have HB4 := Lib.hid (HB3.out.trans (Below.mono b4 HB3.out.size))
  have HA4 := Lib.hid (HA3.out.below b4)
  have HS4 := Lib.hid (HS3.out.below b4)
  have HP4 := Lib.hid (HP3.out.below b4)
  clear b4 HB3 HA3 HS3 HP3
  go_wp2_with fail
  with_reducible refine (litRt ga _ HA4.out).mono ?_
  rintro e w5 ⟨rfl, m5, x5⟩
  have HB5 := Lib.hid (HB4.out.trans (x5.below HB4.out.size (fun i _ h => by have := HG1.out; omega)))
  have HA5 := Lib.hid m5
  have HS5 := Lib.hid (HS4.out.far x5 (by have := HG2.out; omega))
  have HP5 := Lib.hid (HP4.out.far x5 (by have := HG2.out; have := HG3.out; omega))
  clear m5 x5 HB4 HA4 HS4 HP4
  go_wp2_with fail
  with_reducible refine (litSt gb _ HS5.out).mono ?_
  rintro e w6 ⟨rfl, m6, x6⟩
  have HB6 := Lib.hid (HB5.out.trans (x6.below HB5.out.size (fun i _ h => by have := HG2.out; omega)))
  have HA6 := Lib.hid (HA5.out.far x6 (by have := HG2.out; omega))
  have HP6 := Lib.hid (HP5.out.far x6 (by have := HG3.out; omega))
  clear m6 x6 HB5 HA5 HS5 HP5
  go_wp2_with fail
  with_reducible refine (litPt gc _ HP6.out).mono ?_
  rintro e w7 ⟨rfl, m7, x7⟩
  have HB7 := Lib.hid (HB6.out.trans (x7.below HB6.out.size (fun i _ h => by have := HG3.out; omega)))
  have HA7 := Lib.hid (HA6.out.far x7 (by have := HG2.out; have := HG3.out; omega))
  clear m7 x7 HB6 HA6 HP6
  have mr : ∀ W : World, (method 184 54 (.pointer (some ⟨ga, 0, none⟩)) "Reset").run Try.prog W = .ok (46, .pointer (some ⟨ga, 0, none⟩)) W := fun W => meth_reset .rate ga W
  have HM := Lib.hid (show Meth ga 54 45 46 .rate from meth_any .rate ga)
  go_wp2_with fail
  with_reducible refine (HM.out.reset _ w7 (Mo.run_kd _ _) HA7.out).mono ?_
  rintro e w8 ⟨rfl, m8, x8⟩
  rw [resetR] at m8
  have HB8 := Lib.hid (HB7.out.trans (x8.below HB7.out.size (fun i _ h => by have := HG1.out; omega)))
  have HA8 := Lib.hid m8
  clear m8 x8 HB7 HA7
  go_wp2_with fail
  with_reducible refine (units_any _ w8 (by decide)).mono ?_
  rintro e w9 ⟨a9, c9, rfl, r9, f9, _, b9⟩
  have HR9 := Lib.hid (show BRow w9 a9 5 c9 _ from r9)
  have HF9 := Lib.hid (fun x (h : a9 = some x) => (by have := f9 x h; have := HA8.out.lt; omega : x.block ≠ ga))
  have HB9 := Lib.hid (HB8.out.trans (Below.mono b9 HB8.out.size))
  have HA9 := Lib.hid (HA8.out.below b9)
  clear r9 f9 b9 HB8 HA8
  go_wp2_with fail
  with_reducible refine (HM.out.first _ w9 rfl HA9.out a9 _ c9 _ HR9.out HF9.out).mono ?_
  rintro e w10 ⟨he10, m10, x10⟩
  rw [firstR1] at he10
  subst he10
  have HB10 := Lib.hid (HB9.out.trans (x10.below HB9.out.size (fun i _ h => by have := HG1.out; omega)))
  have HA10 := Lib.hid m10
  clear m10 x10 HB9 HA9 HR9 HF9
  go_wp2_with fail
  with_reducible refine (HM.out.reset _ w10 (afterKd _) HA10.out).mono ?_
  rintro e w11 ⟨rfl, m11, x11⟩
  rw [afterR] at m11
  have HB11 := Lib.hid (HB10.out.trans (x11.below HB10.out.size (fun i _ h => by have := HG1.out; omega)))
  have HA11 := Lib.hid m11
  clear m11 x11 HB10 HA10
  go_wp2_with fail
  with_reducible refine (units_any _ w11 (by decide)).mono ?_
  rintro e w12 ⟨a12, c12, rfl, r12, f12, _, b12⟩
  have HR12 := Lib.hid (show BRow w12 a12 6 c12 _ from r12)
  have HF12 := Lib.hid (fun x (h : a12 = some x) => (by have := f12 x h; have := HA11.out.lt; omega : x.block ≠ ga))
  have HB12 := Lib.hid (HB11.out.trans (Below.mono b12 HB11.out.size))
  have HA12 := Lib.hid (HA11.out.below b12)
  clear r12 f12 b12 HB11 HA11
  go_wp2_with fail
  with_reducible refine (HM.out.first _ w12 rfl HA12.out a12 _ c12 _ HR12.out HF12.out).mono ?_
  rintro e w13 ⟨he13, m13, x13⟩
  rw [firstR2] at he13
  subst he13
  have HB13 := Lib.hid (HB12.out.trans (x13.below HB12.out.size (fun i _ h => by have := HG1.out; omega)))
  have HA13 := Lib.hid m13
  clear m13 x13 HB12 HA12 HR12 HF12
  go_wp2_with fail
  with_reducible refine (HM.out.first _ w13 (afterKd _) HA13.out none _ 0 [] (BRow.of_nil _) (by simp)).mono ?_
  rintro e w14 ⟨he14, m14, x14⟩
  rw [afterR2] at he14
  subst he14
  have HB14 := Lib.hid (HB13.out.trans (x14.below HB13.out.size (fun i _ h => by have := HG1.out; omega)))
  clear m14 x14 HB13 HA13
  go_wp2
  go_ret
  exact ⟨rfl, HB14.out⟩
end Go.Proofs.Ytblhfdkopnaobaa
