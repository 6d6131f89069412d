/- The walk of UnitsText. -/
import Derived.Test.YtkfookiakpnlfaaDoorUnUOf
import Derived.Test.YtkfookiakpnlfaaDoorUnWalk
namespace Go.Proofs.YtkfookiakpnlfaaDoor
open Go.RowKit

theorem sign_any (b : Bool) (w : World) : Calls Tryd.prog 29 #[.bool b] w fun e w' => e = .returned (.string (bs [signU b])) ∧ Below w.heap.size w w' := by
  cases b
  all_goals
    go_enter Tryd.func29, Tryd.ntmps29
    go_wp2
    go_ret
    exact ⟨rfl, Below.refl _ _⟩
theorem run_slice_hex (x : Int) (h0 : 0 ≤ x) (h1 : x ≤ 15) (w : World) :
    (Instr.slice 9 (.string hexDigits) (some (.int .u8 x)) (some (.int .u8 (x + 1))) none).run Tryd.prog w = .ok (.string (bs [hexd x.toNat])) w := by
  have key : ∀ j : Fin 16, (hexDigits.extract j.val (j.val + 1)).data.toList = [hexd j.val] := by decide +kernel
  have hk := key ⟨x.toNat, by omega⟩
  simp only at hk
  rw [run_slice_string w 9 hexDigits .u8 .u8 _ _ Tryd.underlying9 (by omega) (by omega) (by rw [hexDigits_size]; omega), show (x + 1).toNat = x.toNat + 1 by omega, bs_of hk]
theorem bsAssoc (a b c : ByteArray) : a ++ b ++ c = a ++ (b ++ c) := ByteArray.append_assoc
theorem run_cat (X Y : ByteArray) (h : X.size + Y.size ≤ 9223372036854775807) (W : World) : (binOp .add 9 (.string X) (.string Y)).run Tryd.prog W = .ok (.string (X ++ Y)) W ∧ (Op.stringOp .add X Y).run Tryd.prog W = .ok (.string (X ++ Y)) W :=
  ⟨by rw [binOp_string_add]; exact run_string_add_sum W X Y h, run_string_add_sum W X Y h⟩
set_option maxHeartbeats 4000000 in
set_option maxRecDepth 100000 in
theorem unitsText_walk (a0 a1 a2 a3 : Int) (size : Nat) (s : Option Addr) (n c : Nat) (l : List Int) (w : World) (hp : PowOk w) (h00 : 0 ≤ a0) (h01 : a0 ≤ 255) (h10 : 0 ≤ a1) (h11 : a1 ≤ 255) (h20 : 0 ≤ a2) (h21 : a2 ≤ 255) (h30 : 0 ≤ a3) (h31 : a3 ≤ 255) (hs : size ≤ 65535) (h : Row .u8 w s n c l) :
    Calls Tryd.prog 8 #[.agg #[.int .u8 a0, .int .u8 a1, .int .u8 a2, .int .u8 a3, .int .u16 (size : Int), .slice s n c]] w fun e w' => e = .returned (.bool true) ∧ Below w.heap.size w w' := by
  obtain ⟨m, hm⟩ : ∃ m, (uLoad a2 size l).length = m := ⟨_, rfl⟩
  have hbx := below_alloc w (.cells #[.int .u8 a0, .int .u8 a1, .int .u8 a2, .int .u8 a3, .int .u16 (size : Int), .slice s n c] 37)
  have hcu := chk_u (a0 := a0) (a1 := a1) (a2 := a2) (a3 := a3) (size := size) (l := l)
  have huo := uof_any a0 a1 a2 a3 size s n c l _ h00 h01 h10 h11 h20 h21 h30 h31 hs (h.later hbx) m hm
  have hlo := uLoad_octs (a2 := a2) (size := size) (l := l) (fun x hx => wf_u8.1 (h.wf x hx))
  have hst := uStat_range (a2 := a2) (a3 := a3)
  have hL2 : a2 % 3 ≠ 2 → uLoad a2 size l = [] := fun hh => by unfold uLoad; rw [if_neg hh]
  rw [hm] at hcu
  obtain ⟨L, eL⟩ : ∃ x, x = uLoad a2 size l := ⟨_, rfl⟩
  obtain ⟨K, eK⟩ : ∃ x, x = a2 % 3 := ⟨_, rfl⟩
  obtain ⟨T, eT⟩ : ∃ x : Nat, (x : Int) = uStat a2 a3 := ⟨(uStat a2 a3).toNat, by omega⟩
  obtain ⟨N0, e0⟩ : ∃ x : Nat, (x : Int) = a0 % 128 := ⟨(a0 % 128).toNat, by omega⟩
  obtain ⟨N1, e1⟩ : ∃ x : Nat, (x : Int) = a1 % 128 := ⟨(a1 % 128).toNat, by omega⟩
  obtain ⟨B0, d0⟩ : ∃ x, x = decide (128 ≤ a0) := ⟨_, rfl⟩
  obtain ⟨B1, d1⟩ : ∃ x, x = decide (128 ≤ a1) := ⟨_, rfl⟩
  rw [← e0, ← e1, ← eK, ← eT] at hcu
  rw [← e0, ← e1, ← d0, ← d1, ← eK, ← eT, ← eL] at huo
  rw [← eL] at hlo hm hL2
  rw [← eK] at hL2
  rw [← eT] at hst
  have hN0 : N0 < 128 := by omega
  have hN1 : N1 < 128 := by omega
  have hT : T ≤ 5 := by omega
  have hK : K = 0 ∨ K = 1 ∨ K = 2 := by omega
  have hK0 : 0 ≤ K := by omega
  have hK2 : K ≤ 2 := by omega
  obtain ⟨hx1, hx2, hx3, hx4, hx5, hm2, hm0⟩ := chk_ok.1 hcu
  clear hx1 hx2 hx3 hx4 hx5
  have hm273 : m ≤ 273 := by
    rcases hK with hh | hh | hh
    · rw [hL2 (by omega)] at hm; simp at hm; omega
    · rw [hL2 (by omega)] at hm; simp at hm; omega
    · exact (hm2 hh).2
  have HK := Lib.hid hK
  have HCu := Lib.hid hcu
  have HUo := Lib.hid huo
  have HLo := Lib.hid hlo
  have HM := Lib.hid hm
  have HM2 := Lib.hid hm2
  have HM0 := Lib.hid hm0
  have HB0 := Lib.hid hbx
  have HP0 := Lib.hid hp
  clear hK hcu huo hlo hm hm2 hm0 hL2 hst eL eK eT e0 e1 d0 d1 hbx hp h
  have g00 : 0 ≤ (N0 : Int) := by omega
  have g01 : (N0 : Int) ≤ 127 := by omega
  have g10 : 0 ≤ (N1 : Int) := by omega
  have g11 : (N1 : Int) ≤ 127 := by omega
  have gT0 : 0 ≤ (T : Int) := by omega
  have gT1 : (T : Int) ≤ 5 := by omega
  go_enter Tryd.func8, Tryd.ntmps8
  go_name_bytes_deep 16 DG hDG
  have eDG : DG = hexDigits := by rw [← hDG]; decide +kernel
  subst eDG
  clear hDG
  go_wp2_with fail
  refine (HUo.out).mono ?_
  rintro e w1 ⟨⟨s1, rfl, hla⟩, hb⟩
  have hsz0 := HB0.out.size
  have hsz1 := hb.size
  have BB1 := Lib.hid (HB0.out.trans (hb.mono hsz0))
  have HP1 := Lib.hid (HP0.out.later BB1.out)
  have LA1 := Lib.hid hla
  clear hb hla HP0
  obtain ⟨w2, hw⟩ : ∃ W, W = w1.alloc (.cells #[.int .u8 (N0 : Int), .bool B0, .int .u8 (N1 : Int), .bool B1, .int .u8 K, .int .u8 (T : Int), .slice s1 m m] 25) := ⟨_, rfl⟩
  have hb : Below w1.heap.size w1 w2 := by rw [hw]; exact below_alloc _ _
  have ho : Own w2 w1.heap.size 25 [.int .u8 (N0 : Int), .bool B0, .int .u8 (N1 : Int), .bool B1, .int .u8 K, .int .u8 (T : Int), .slice s1 m m] := by rw [hw]; exact own_lit _ _ _ _ rfl
  have HW2 := Lib.hid hw
  have BB2 := Lib.hid (BB1.out.trans (hb.mono BB1.out.size))
  have HP2 := Lib.hid (HP1.out.later hb)
  have hrow : Row .u8 w2 s1 m m L := by have := (LA1.out.later hb).row (by rw [HM.out]; omega) HLo.out; rwa [HM.out] at this
  have HRow := Lib.hid hrow
  have HO2 := Lib.hid ho
  have hs2 := hb.size
  have hlt2 := ho.lt
  clear hb hw ho BB1 HP1 LA1 hrow HLo
  obtain ⟨S1, e1⟩ : ∃ S : ByteArray, S = ⟨#[98, 97, 99, 107, 32]⟩ ++ bs (numL N0) := ⟨_, rfl⟩
  obtain ⟨S2, e2⟩ : ∃ S : ByteArray, S = S1 ++ bs [signU B0] := ⟨_, rfl⟩
  obtain ⟨S3, e3⟩ : ∃ S : ByteArray, S = S2 ++ ⟨#[32, 102, 111, 114, 101, 32]⟩ := ⟨_, rfl⟩
  obtain ⟨S4, e4⟩ : ∃ S : ByteArray, S = S3 ++ bs (numL N1) := ⟨_, rfl⟩
  obtain ⟨S5, e5⟩ : ∃ S : ByteArray, S = S4 ++ bs [signU B1] := ⟨_, rfl⟩
  have y0 : (⟨#[98, 97, 99, 107, 32]⟩ : ByteArray).size = 5 := rfl
  have y1 : (⟨#[32, 102, 111, 114, 101, 32]⟩ : ByteArray).size = 6 := rfl
  have z0 : (bs (numL N0)).size ≤ 3 := by rw [bs_size]; exact numL_len _
  have z1 : (bs (numL N1)).size ≤ 3 := by rw [bs_size]; exact numL_len _
  have z2 : ∀ b, (bs [signU b]).size = 1 := fun b => by rw [bs_size]; rfl
  have z20 := z2 B0
  have z21 := z2 B1
  have q1 : S1.size ≤ 8 := by rw [e1, ByteArray.size_append]; omega
  have q2 : S2.size ≤ 9 := by rw [e2, ByteArray.size_append]; omega
  have q3 : S3.size ≤ 15 := by rw [e3, ByteArray.size_append]; omega
  have q4 : S4.size ≤ 18 := by rw [e4, ByteArray.size_append]; omega
  have q5 : S5.size ≤ 19 := by rw [e5, ByteArray.size_append]; omega
  have t1 := run_cat ⟨#[98, 97, 99, 107, 32]⟩ (bs (numL N0)) (by omega)
  have t2 := run_cat S1 (bs [signU B0]) (by omega)
  have t3 := run_cat S2 ⟨#[32, 102, 111, 114, 101, 32]⟩ (by omega)
  have t4 := run_cat S3 (bs (numL N1)) (by omega)
  have t5 := run_cat S4 (bs [signU B1]) (by omega)
  rw [← e1] at t1
  rw [← e2] at t2
  rw [← e3] at t3
  rw [← e4] at t4
  rw [← e5] at t5
  have r1 := fun W => (t1 W).1
  have r2 := fun W => (t2 W).1
  have r3 := fun W => (t3 W).1
  have r4 := fun W => (t4 W).1
  have r5 := fun W => (t5 W).1
  have o1 := fun W => (t1 W).2
  have o2 := fun W => (t2 W).2
  have o3 := fun W => (t3 W).2
  have o4 := fun W => (t4 W).2
  have o5 := fun W => (t5 W).2
  have e6 : S5 = bs ([98, 97, 99, 107, 32] ++ (numT N0 B0 ++ ([32, 102, 111, 114, 101, 32] ++ numT N1 B1))) := by
    rw [e5, e4, e3, e2, e1]
    show bs [98, 97, 99, 107, 32] ++ bs (numL N0) ++ bs [signU B0] ++ bs [32, 102, 111, 114, 101, 32] ++ bs (numL N1) ++ bs [signU B1] = _
    simp only [bs_append]
    congr 1
    simp [numT]
  have HE := Lib.hid e6
  have HQ5 := Lib.hid q5
  have hI0 : ∀ W, PowOk W → Calls Tryd.prog 28 #[.int .i64 (IntKind.i64.wrap (N0 : Int))] W fun e w' => e = .returned (.string (bs (numL N0))) ∧ Below W.heap.size W w' := fun W hr => by
    rw [show IntKind.i64.wrap (N0 : Int) = (N0 : Int) from by unfold IntKind.wrap; simp [IntKind.bits, IntKind.signed]; omega]
    exact itoa_any N0 W hN0 hr
  have HI0 := Lib.hid hI0
  have hI1 : ∀ W, PowOk W → Calls Tryd.prog 28 #[.int .i64 (IntKind.i64.wrap (N1 : Int))] W fun e w' => e = .returned (.string (bs (numL N1))) ∧ Below W.heap.size W w' := fun W hr => by
    rw [show IntKind.i64.wrap (N1 : Int) = (N1 : Int) from by unfold IntKind.wrap; simp [IntKind.bits, IntKind.signed]; omega]
    exact itoa_any N1 W hN1 hr
  have HI1 := Lib.hid hI1
  have HS0 := Lib.hid (sign_any B0)
  have HS1 := Lib.hid (sign_any B1)
  clear hI0 hI1 e1 e2 e3 e4 e5 e6 t1 t2 t3 t4 t5 y0 y1 z0 z1 z2 z20 z21 q1 q2 q3 q4 q5
  have hSn : ∀ W W', Below w2.heap.size w2 W → Below W.heap.size W W' → Below w2.heap.size w2 W' ∧ W'.cell? ⟨w1.heap.size, 0, none⟩ = some (.int .u8 (N0 : Int)) ∧ W'.cell? ⟨w1.heap.size, 1, none⟩ = some (.bool B0) ∧ W'.cell? ⟨w1.heap.size, 2, none⟩ = some (.int .u8 (N1 : Int)) ∧ W'.cell? ⟨w1.heap.size, 3, none⟩ = some (.bool B1) := fun W W' hb hb' => by
    have hbb := hb.trans (hb'.mono hb.size)
    obtain ⟨k0, k1, k2, k3, _⟩ := unit_cells (HO2.out.below hbb hlt2)
    exact ⟨hbb, k0, k1, k2, k3⟩
  have hS2 := hSn w2 w2 (Below.refl _ _) (Below.refl _ _)
  have hSd := hSn w2 w2.drew (Below.refl _ _) (Below.refl _ _).drew
  have HS := Lib.hid hSn
  have HPw := Lib.hid (fun W (hb : Below w2.heap.size w2 W) => HP2.out.later hb)
  clear hSn
  go_wp2_with fail
  rw [← HW2.out]
  go_region_held3 (fun W => Below w2.heap.size w2 W ∧ W.cell? ⟨w1.heap.size, 0, none⟩ = some (.int .u8 (N0 : Int)) ∧ W.cell? ⟨w1.heap.size, 1, none⟩ = some (.bool B0) ∧ W.cell? ⟨w1.heap.size, 2, none⟩ = some (.int .u8 (N1 : Int)) ∧ W.cell? ⟨w1.heap.size, 3, none⟩ = some (.bool B1)) (first | assumption | go_keep)
    (first
      | (go_at_call 28; ((with_reducible refine (HI0.out _ (HPw.out _ (And.left (by assumption)))).mono ?_); rintro e w3 ⟨rfl, hb3⟩; have hS3 := HS.out _ _ (And.left (by assumption)) hb3; clear hb3))
      | (go_at_call 28; ((with_reducible refine (HI1.out _ (HPw.out _ (And.left (by assumption)))).mono ?_); rintro e w4 ⟨rfl, hb4⟩; have hS4 := HS.out _ _ (And.left (by assumption)) hb4; clear hb4))
      | (go_at_call 29; ((with_reducible refine (HS0.out _).mono ?_); rintro e w5 ⟨rfl, hb5⟩; have hS5 := HS.out _ _ (And.left (by assumption)) hb5; clear hb5))
      | (go_at_call 29; ((with_reducible refine (HS1.out _).mono ?_); rintro e w6 ⟨rfl, hb6⟩; have hS6 := HS.out _ _ (And.left (by assumption)) hb6; clear hb6))
      | fail)
  have BB6 := Lib.hid (BB2.out.trans (hS6.1.mono BB2.out.size))
  have HP6 := Lib.hid (HPw.out _ hS6.1)
  have HO6 := Lib.hid (HO2.out.below hS6.1 hlt2)
  have HR6 := Lib.hid (HRow.out.later hS6.1)
  have hs6 := hS6.1.size
  clear hS2 hSd hS3 hS4 hS5 hS6 r1 r2 r3 r4 r5 o1 o2 o3 o4 o5 HI0 HI1 HS0 HS1 HS HPw HO2 HRow HP2 BB2
  try clear ‹_ ∧ _›
  have HTx := Lib.hid (fun W (hb : Below w6.heap.size w6 W) => text_ok (N0 : Int) B0 (N1 : Int) B1 K (T : Int) s1 m m L W g00 g10 hK0 gT0 (HR6.out.later hb) HCu.out (HP6.out.later hb))
  have HTL := Lib.hid (show ∀ z, bs (contT K T L) = z → S5 ++ bs [32] ++ z = bs (textL N0 B0 N1 B1 K T L) from fun z hz => by
    rw [← hz, HE.out]
    simp only [bs_append]
    congr 1
    simp [textL])
  obtain ⟨k0, k1, k2, k3, k4, k5, k6⟩ := unit_cells HO6.out
  clear HB0 HUo
  rcases HK.out with rfl | rfl | rfl
  · obtain rfl : m = 0 := HM0.out (by omega)
    obtain ⟨S6, e6⟩ : ∃ S : ByteArray, S = S5 ++ ⟨#[32, 102, 105, 108, 108]⟩ := ⟨_, rfl⟩
    have t6 := run_cat S5 ⟨#[32, 102, 105, 108, 108]⟩ (by have := HQ5.out; have : (⟨#[32, 102, 105, 108, 108]⟩ : ByteArray).size = 5 := rfl; omega)
    rw [← e6] at t6
    have r6 := fun W => (t6 W).1
    have o6 := fun W => (t6 W).2
    have hq : bs (textL N0 B0 N1 B1 0 T L) = S6 := by
      rw [e6, ← HTL.out _ rfl, bsAssoc]
      rfl
    have htx := HTx.out w6 (Below.refl _ _)
    rw [hq] at htx
    have HT := Lib.hid htx
    clear htx hq e6 t6 HTx HTL
    go_wp2_with fail
    with_reducible refine (HT.out).mono ?_
    rintro e w7 ⟨rfl, hb⟩
    have BB7 := Lib.hid (BB6.out.trans (hb.mono BB6.out.size))
    have HP7 := Lib.hid (HP6.out.later hb)
    clear hb k0 k1 k2 k3 k4 k5 k6
    go_wp2_with fail
    refine (lives_any _ HP7.out).mono ?_
    rintro e w8 ⟨rfl, hb⟩
    have BB8 := Lib.hid (BB7.out.trans (hb.mono BB7.out.size))
    clear hb
    go_wp2
    go_ret
    exact ⟨rfl, BB8.out⟩
  · obtain rfl : m = 0 := HM0.out (by omega)
    obtain ⟨S6, e6⟩ : ∃ S : ByteArray, S = S5 ++ ⟨#[32, 115, 116, 97, 116, 101, 32]⟩ := ⟨_, rfl⟩
    obtain ⟨S7, e7⟩ : ∃ S : ByteArray, S = S6 ++ bs (numL T) := ⟨_, rfl⟩
    have q5 := HQ5.out
    have zt : (bs (numL T)).size ≤ 3 := by rw [bs_size]; exact numL_len _
    have z6 : (⟨#[32, 115, 116, 97, 116, 101, 32]⟩ : ByteArray).size = 7 := rfl
    have q6 : S6.size ≤ 26 := by rw [e6, ByteArray.size_append]; omega
    have t6 := run_cat S5 ⟨#[32, 115, 116, 97, 116, 101, 32]⟩ (by omega)
    have t7 := run_cat S6 (bs (numL T)) (by omega)
    rw [← e6] at t6
    rw [← e7] at t7
    have r6 := fun W => (t6 W).1
    have o6 := fun W => (t6 W).2
    have r7 := fun W => (t7 W).1
    have o7 := fun W => (t7 W).2
    have hq : bs (textL N0 B0 N1 B1 1 T L) = S7 := by
      rw [e7, e6, ← HTL.out _ rfl]
      show S5 ++ bs [32] ++ bs (contT 1 (T : Int) L) = S5 ++ bs [32, 115, 116, 97, 116, 101, 32] ++ bs (numL T)
      rw [bsAssoc, bsAssoc, bs_append, bs_append]
      congr 1
    have hI : ∀ W, PowOk W → Calls Tryd.prog 28 #[.int .i64 (T : Int)] W fun e w' => e = .returned (.string (bs (numL T))) ∧ Below W.heap.size W w' := fun W hr => itoa_any T W (by omega) hr
    have HT := Lib.hid HTx.out
    have HI := Lib.hid hI
    have HQ := Lib.hid hq
    clear hI hq e6 e7 t6 t7 q5 q6 z6 zt HTx HTL
    go_wp2_with fail
    with_reducible refine (HI.out _ HP6.out).mono ?_
    rintro e w7 ⟨rfl, hb⟩
    have BB7 := Lib.hid (BB6.out.trans (hb.mono BB6.out.size))
    have HP7 := Lib.hid (HP6.out.later hb)
    have htx := HT.out w7 hb
    rw [HQ.out] at htx
    have HT7 := Lib.hid htx
    clear k0 k1 k2 k3 k4 k5 k6 htx
    obtain ⟨k0, k1, k2, k3, k4, k5, k6⟩ := unit_cells (HO6.out.below hb HO6.out.lt)
    clear hb
    go_wp2_with fail
    with_reducible refine (HT7.out).mono ?_
    rintro e w8 ⟨rfl, hb⟩
    have BB8 := Lib.hid (BB7.out.trans (hb.mono BB7.out.size))
    have HP8 := Lib.hid (HP7.out.later hb)
    clear hb k0 k1 k2 k3 k4 k5 k6
    go_wp2_with fail
    with_reducible refine (lives_any _ HP8.out).mono ?_
    rintro e w9 ⟨rfl, hb⟩
    have BB9 := Lib.hid (BB8.out.trans (hb.mono BB8.out.size))
    clear hb
    go_wp2
    go_ret
    exact ⟨rfl, BB9.out⟩
  · obtain ⟨hm1, hm273'⟩ := HM2.out rfl
    have hoct := fun x hx => wf_u8.1 (HR6.out.wf x hx)
    have hlen := HR6.out.len
    obtain ⟨b, o, rfl, hc⟩ : ∃ b off, s1 = some ⟨b, off, none⟩ ∧ ∀ i, i < m → w6.cell? ⟨b, off + i, none⟩ = some (.int .u8 (L.getD i 0)) := by
      rcases HR6.out.cells with h0 | h0
      · omega
      · exact h0
    have hbl : b < w6.heap.size := World.block_lt_of_cell? w6 _ (hc 0 (by omega))
    have hol := HO6.out.lt
    have HC := Lib.hid hc
    have HOct := Lib.hid hoct
    have HLen := Lib.hid hlen
    clear hc hoct hlen k0 k1 k2 k3 k5
    go_wp2_with fail
    go_loopw [5, 6] (fun v i wr => ∃ k : Nat, k ≤ m ∧ i = .int .i64 k ∧ Below w6.heap.size w6 wr ∧ v = .string (bs (hexL (L.take k)))) (fun _ i _ => m - (intOf i).toNat)
    case atStart => exact ⟨0, Nat.zero_le _, rfl, Below.refl _ _, rfl⟩
    case round =>
      obtain ⟨k, hk, rfl, hbel, rfl⟩ := hrel
      have k6' : wr.cell? ⟨w1.heap.size, 6, none⟩ = some (.slice (some ⟨b, o, none⟩) m m) := (hbel.cell (p := ⟨w1.heap.size, 6, none⟩) hol).trans k6
      by_cases hlt : k < m
      · obtain ⟨x, hx⟩ : ∃ x, x = L.getD k 0 := ⟨_, rfl⟩
        have g1 : wr.cell? ⟨b, o + k, none⟩ = some (.int .u8 x) := by rw [hbel.cell (p := ⟨b, o + k, none⟩) hbl, hx]; exact HC.out k hlt
        have hxo : 0 ≤ x ∧ x ≤ 255 := by
          have := HLen.out
          rw [hx, List.getD_eq_getElem?_getD, List.getElem?_eq_getElem (by omega), Option.getD_some]
          exact HOct.out _ (List.getElem_mem _)
        obtain ⟨hx0, hx1⟩ := hxo
        have i1 := run_slice_hex (x / 16) (by omega) (by omega)
        have i2 := run_slice_hex (x % 16) (by omega) (by omega)
        have ht : hexL (L.take (k + 1)) = hexL (L.take k) ++ [hexd (x / 16).toNat, hexd (x % 16).toNat] := by
          have := HLen.out
          rw [take_succ' (by omega), ← hx, hexL_append]; rfl
        obtain ⟨U0, f0⟩ : ∃ U, U = bs (hexL (L.take k)) := ⟨_, rfl⟩
        obtain ⟨D1, f1⟩ : ∃ U, U = bs [hexd (x / 16).toNat] := ⟨_, rfl⟩
        obtain ⟨D2, f2⟩ : ∃ U, U = bs [hexd (x % 16).toNat] := ⟨_, rfl⟩
        obtain ⟨U1, f3⟩ : ∃ U, U = U0 ++ D1 := ⟨_, rfl⟩
        obtain ⟨U2, f4⟩ : ∃ U, U = U1 ++ D2 := ⟨_, rfl⟩
        have q0 : U0.size ≤ 546 := by rw [f0, bs_size, hexL_length, List.length_take]; have := HLen.out; omega
        have qd1 : D1.size = 1 := by rw [f1, bs_size]; rfl
        have qd2 : D2.size = 1 := by rw [f2, bs_size]; rfl
        have q1 : U1.size ≤ 547 := by rw [f3, ByteArray.size_append]; omega
        have t1 := run_cat U0 D1 (by omega)
        have t2 := run_cat U1 D2 (by omega)
        rw [← f3] at t1
        rw [← f4] at t2
        have r1 := fun W => (t1 W).1
        have o1 := fun W => (t1 W).2
        have r2 := fun W => (t2 W).1
        have o2 := fun W => (t2 W).2
        rw [← f1] at i1
        rw [← f2] at i2
        have hfin : bs (hexL (L.take (k + 1))) = U2 := by
          rw [f4, f3, f0, f1, f2, ht]
          simp only [bs_append]
          simp
        have HF := Lib.hid hfin
        have HB := Lib.hid hbel
        rw [← f0]
        clear hx hbel ht f0 f1 f2 f3 f4 q0 qd1 qd2 q1 t1 t2 hfin
        go_wp2
        go_quiet (fail)
        go_wp2
        refine ⟨⟨k + 1, by omega, by go_num, HB.out.trans ((below_draw wr _).mono HB.out.size), ?_⟩, by simp [intOf]; omega⟩
        rw [HF.out]
      · obtain rfl : k = m := by omega
        rw [List.take_of_length_le (by rw [HLen.out]; exact Nat.le_refl _)]
        obtain ⟨S6, e6⟩ : ∃ S : ByteArray, S = S5 ++ ⟨#[32, 108, 111, 97, 100, 32]⟩ := ⟨_, rfl⟩
        obtain ⟨X, eX⟩ : ∃ S : ByteArray, S = bs (hexL L) := ⟨_, rfl⟩
        obtain ⟨S7, e7⟩ : ∃ S : ByteArray, S = S6 ++ X := ⟨_, rfl⟩
        have q5 := HQ5.out
        have zx : X.size ≤ 546 := by rw [eX, bs_size, hexL_length]; have := HLen.out; omega
        have z6 : (⟨#[32, 108, 111, 97, 100, 32]⟩ : ByteArray).size = 6 := rfl
        have q6 : S6.size ≤ 25 := by rw [e6, ByteArray.size_append]; omega
        have t6 := run_cat S5 ⟨#[32, 108, 111, 97, 100, 32]⟩ (by omega)
        have t7 := run_cat S6 X (by omega)
        rw [← e6] at t6
        rw [← e7] at t7
        have r6 := fun W => (t6 W).1
        have o6 := fun W => (t6 W).2
        have r7 := fun W => (t7 W).1
        have o7 := fun W => (t7 W).2
        have hq : bs (textL N0 B0 N1 B1 2 T L) = S7 := by
          rw [e7, e6, eX, ← HTL.out _ rfl]
          show S5 ++ bs [32] ++ bs (contT 2 (T : Int) L) = S5 ++ bs [32, 108, 111, 97, 100, 32] ++ bs (hexL L)
          rw [bsAssoc, bsAssoc, bs_append, bs_append]
          congr 1
        have htx := HTx.out wr hbel
        rw [hq] at htx
        have HT := Lib.hid htx
        have BB7 := Lib.hid (BB6.out.trans (hbel.mono BB6.out.size))
        have HP7 := Lib.hid (HP6.out.later hbel)
        rw [← eX]
        clear k4 k6 k6' HTx
        obtain ⟨k0, k1, k2, k3, k4, k5, k6⟩ := unit_cells (HO6.out.below hbel hol)
        clear htx hq eX e6 e7 t6 t7 q5 zx z6 q6 hbel
        go_wp2_with fail
        with_reducible refine (HT.out).mono ?_
        rintro e w8 ⟨rfl, hb⟩
        have BB8 := Lib.hid (BB7.out.trans (hb.mono BB7.out.size))
        have HP8 := Lib.hid (HP7.out.later hb)
        clear hb k0 k1 k2 k3 k4 k5 k6
        go_wp2_with fail
        with_reducible refine (lives_any _ HP8.out).mono ?_
        rintro e w9 ⟨rfl, hb⟩
        have BB9 := Lib.hid (BB8.out.trans (hb.mono BB8.out.size))
        clear hb
        go_wp2
        go_ret
        exact ⟨rfl, BB9.out⟩
theorem unitsText_all (a0 a1 a2 a3 a4 : Int) (s : Option Addr) (n c : Nat) (l : List Int) (w : World) (hp : PowOk w) (h0 : (Lit.int .u8 a0).wf = true) (h1 : (Lit.int .u8 a1).wf = true) (h2 : (Lit.int .u8 a2).wf = true) (h3 : (Lit.int .u8 a3).wf = true) (h4 : (Lit.int .u16 a4).wf = true) (h : Row .u8 w s n c l) :
    Calls Tryd.prog 8 #[.agg #[.int .u8 a0, .int .u8 a1, .int .u8 a2, .int .u8 a3, .int .u16 a4, .slice s n c]] w fun e w' => e = .returned (.bool true) ∧ Below w.heap.size w w' := by
  have g4 : 0 ≤ a4 ∧ a4 ≤ 65535 := by
    simp [Lit.wf, IntKind.min, IntKind.max, IntKind.bits, IntKind.signed] at h4
    omega
  obtain ⟨m, rfl⟩ : ∃ m : Nat, a4 = m := ⟨a4.toNat, by omega⟩
  exact unitsText_walk a0 a1 a2 a3 m s n c l w hp (wf_u8.1 h0).1 (wf_u8.1 h0).2 (wf_u8.1 h1).1 (wf_u8.1 h1).2 (wf_u8.1 h2).1 (wf_u8.1 h2).2 (wf_u8.1 h3).1 (wf_u8.1 h3).2 (by omega) h
end Go.Proofs.YtkfookiakpnlfaaDoor
