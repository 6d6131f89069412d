/- The walk of UnitsBack. -/
import Derived.Test.YtkfookiakpnlfaaDoorUnBk
import Derived.Test.YtkfookiakpnlfaaDoorUnWalk
namespace Go.Proofs.YtkfookiakpnlfaaDoor
open Go.RowKit

set_option maxHeartbeats 4000000 in
set_option maxRecDepth 100000 in
theorem unitsBack_walk (a0 a1 a2 a3 : Int) (size : Nat) (s : Option Addr) (n c : Nat) (l : List Int) (w : World) (hp : PowOk w) (hbe : BehindOk w) (hfl : FlagOk w) (h00 : 0 ≤ a0) (h01 : a0 ≤ 255) (h10 : 0 ≤ a1) (h11 : a1 ≤ 255) (h20 : 0 ≤ a2) (h21 : a2 ≤ 255) (h30 : 0 ≤ a3) (h31 : a3 ≤ 255) (hs : size ≤ 65535) (h : Row .u8 w s n c l) :
    Calls Tryd.prog 4 #[.agg #[.int .u8 a0, .int .u8 a1, .int .u8 a2, .int .u8 a3, .int .u16 (size : Int), .slice s n c]] w fun e w' => e = .returned (.bool true) ∧ Below w.heap.size w w' := by
  obtain ⟨m, hm⟩ : ∃ m, (uLoad a2 size l).length = m := ⟨_, rfl⟩
  have hbx := below_alloc w (.cells #[.int .u8 a0, .int .u8 a1, .int .u8 a2, .int .u8 a3, .int .u16 (size : Int), .slice s n c] 37)
  have hcu := chk_u (a0 := a0) (a1 := a1) (a2 := a2) (a3 := a3) (size := size) (l := l)
  have huo := uof_any a0 a1 a2 a3 size s n c l _ h00 h01 h10 h11 h20 h21 h30 h31 hs (h.later hbx) m hm
  have hlo := uLoad_octs (a2 := a2) (size := size) (l := l) (fun x hx => wf_u8.1 (h.wf x hx))
  have hst := uStat_range (a2 := a2) (a3 := a3)
  have hL2 : a2 % 3 ≠ 2 → uLoad a2 size l = [] := fun hh => by unfold uLoad; rw [if_neg hh]
  have hmm := hm
  rw [hm] at hcu
  obtain ⟨L, eL⟩ : ∃ x, x = uLoad a2 size l := ⟨_, rfl⟩
  obtain ⟨K, eK⟩ : ∃ x, x = a2 % 3 := ⟨_, rfl⟩
  obtain ⟨T, eT⟩ : ∃ x : Nat, (x : Int) = uStat a2 a3 := ⟨(uStat a2 a3).toNat, by omega⟩
  obtain ⟨N0, e0⟩ : ∃ x : Nat, (x : Int) = a0 % 128 := ⟨(a0 % 128).toNat, by omega⟩
  obtain ⟨N1, e1⟩ : ∃ x : Nat, (x : Int) = a1 % 128 := ⟨(a1 % 128).toNat, by omega⟩
  obtain ⟨B0, d0⟩ : ∃ x, x = decide (128 ≤ a0) := ⟨_, rfl⟩
  obtain ⟨B1, d1⟩ : ∃ x, x = decide (128 ≤ a1) := ⟨_, rfl⟩
  rw [← e0, ← e1, ← eK, ← eT] at hcu
  rw [← e0, ← e1, ← d0, ← d1, ← eK, ← eT, ← eL] at huo
  rw [← eL] at hlo hm hL2
  rw [← eK] at hL2
  rw [← eT] at hst
  have hN0 : N0 < 128 := by omega
  have hN1 : N1 < 128 := by omega
  have hT : T ≤ 5 := by omega
  have hK : K = 0 ∨ K = 1 ∨ K = 2 := by omega
  have hK0 : 0 ≤ K := by omega
  have hK2 : K ≤ 2 := by omega
  obtain ⟨hx1, hx2, hx3, hx4, hx5, hm2, hm0⟩ := chk_ok.1 hcu
  clear hx1 hx2 hx3 hx4 hx5
  have hm273 : m ≤ 273 := by
    rcases hK with hh | hh | hh
    · rw [hL2 (by omega)] at hm; simp at hm; omega
    · rw [hL2 (by omega)] at hm; simp at hm; omega
    · exact (hm2 hh).2
  have HK := Lib.hid hK
  have HCu := Lib.hid hcu
  have HUo := Lib.hid huo
  have hua := fun W (hb : Below w.heap.size w W) => uof_any a0 a1 a2 a3 size s n c l W h00 h01 h10 h11 h20 h21 h30 h31 hs (h.later hb) m hmm
  rw [← e0, ← e1, ← d0, ← d1, ← eK, ← eT, ← eL] at hua
  have HUa := Lib.hid hua
  have HLo := Lib.hid hlo
  have HM := Lib.hid hm
  have HM2 := Lib.hid hm2
  have HM0 := Lib.hid hm0
  have HB0 := Lib.hid hbx
  have HP0 := Lib.hid hp
  obtain ⟨nc, hnc⟩ : ∃ x, (contL K T L).length = x := ⟨_, rfl⟩
  have hnc1 := cont_len hcu hm
  rw [hnc] at hnc1
  obtain ⟨E, eE⟩ : ∃ x, x = encL N0 B0 N1 B1 K T L := ⟨_, rfl⟩
  have hEo := enc_octs (p0 := (N0 : Int)) (p1 := (N1 : Int)) (B0 := B0) (B1 := B1) (by omega) (by omega) (by omega : 0 ≤ (T : Int)) hcu hlo
  rw [← eE] at hEo
  obtain ⟨q, hq⟩ : ∃ q, 3 + nc = q := ⟨_, rfl⟩
  have hEl : E.length = q := by rw [eE, encL_length, hnc, hq]
  have hq1 : 3 ≤ q := by omega
  have hq2 : q ≤ 276 := by omega
  have hdec := fun (a : Option Addr) (c' : Nat) (W : World) (hr : Row .u8 W a q c' E) => decode_enc (N0 : Int) (N1 : Int) K (T : Int) B0 B1 L E m q a c' W (by omega) (by omega) hK0 hcu hm eE (by rw [hnc]; exact hq) hr
  have henc := fun (W : World) (s' : Option Addr) (hr : Row .u8 W s' m m L) => encode_ok (N0 : Int) B0 (N1 : Int) B1 K (T : Int) s' m m nc L W (by omega) (by omega) hK0 (by omega) hr hcu hnc
  have hoct := fun (W : World) (s' : Option Addr) (hr : Row .u8 W s' m m L) => octets_any (N0 : Int) B0 (N1 : Int) B1 K (T : Int) s' m m nc L W (by omega) (by omega) hK0 (by omega) hr hcu hnc
  rw [← eE, hq] at henc hoct
  have hsame := fun (W : World) (sa sb : Option Addr) (ha : Row .u8 W sa m m L) (hb : Row .u8 W sb m m L) => lawsame_any (N0 : Int) B0 (N1 : Int) B1 K (T : Int) sa m m L (N0 : Int) B0 (N1 : Int) B1 K (T : Int) sb m m L W ha hb
  rw [sameU_refl] at hsame
  obtain ⟨F, eF⟩ : ∃ F, addL E = F := ⟨_, rfl⟩
  have hFok : okC F := by rw [← eF]; exact okC_addL hEo (by omega) (by omega)
  have hFl : F.length = q + 2 := by rw [← eF, addL_length, hEl]
  have hFt : F.take q = E := by rw [← eF, ← hEl]; exact addL_take E
  have hFg : lastTwo F q = Crc.crc (toN (F.take q)) := by rw [← eF, ← hEl]; exact addL_good hEo
  obtain ⟨J, hJ⟩ : ∃ J, (joinL [F]).length = J := ⟨_, rfl⟩
  obtain ⟨hJe, hJ1, hJ2⟩ := joinL_err hFok
  rw [hJ] at hJ1 hJ2
  have HDec := Lib.hid hdec
  have HEnc := Lib.hid henc
  have HOct := Lib.hid hoct
  have HSame := Lib.hid hsame
  have HEF := Lib.hid eF
  have HFok := Lib.hid hFok
  have HFl := Lib.hid hFl
  have HFt := Lib.hid hFt
  have HFg := Lib.hid hFg
  have HJ := Lib.hid hJ
  have HJe := Lib.hid hJe
  have HEo := Lib.hid hEo
  have HArg := Lib.hid h
  have HBe0 := Lib.hid hbe
  have HFl0 := Lib.hid hfl
  clear hdec henc hoct hsame eF hFok hFl hFt hFg hJ hJe hEo hEl eE hua hmm hnc hbe hfl
  clear hK hcu huo hlo hm hm2 hm0 hL2 hst eL eK eT e0 e1 d0 d1 hbx hp h
  have g00 : 0 ≤ (N0 : Int) := by omega
  have g01 : (N0 : Int) ≤ 127 := by omega
  have g10 : 0 ≤ (N1 : Int) := by omega
  have g11 : (N1 : Int) ≤ 127 := by omega
  have gT0 : 0 ≤ (T : Int) := by omega
  have gT1 : (T : Int) ≤ 5 := by omega
  have hou := own_lit w 37 #[.int .u8 a0, .int .u8 a1, .int .u8 a2, .int .u8 a3, .int .u16 (size : Int), .slice s n c] _ rfl
  obtain ⟨w0, hw0⟩ : ∃ W, W = w.alloc (.cells #[.int .u8 a0, .int .u8 a1, .int .u8 a2, .int .u8 a3, .int .u16 (size : Int), .slice s n c] 37) := ⟨_, rfl⟩
  rw [← hw0] at hou
  have HOU := Lib.hid hou
  have HW0 := Lib.hid hw0
  have C0 := Lib.hid (Below.refl w0.heap.size w0)
  clear hou hw0
  have hB0 := HB0.out
  have huo := HUo.out
  rw [← HW0.out] at hB0 huo
  have HUo' := Lib.hid huo
  have HBw0 := Lib.hid hB0
  clear huo hB0 HUo HB0 hs
  go_enter Tryd.func4, Tryd.ntmps4
  go_wp2_with fail
  rw [← HW0.out]
  refine (HUo'.out).mono ?_
  rintro e w1 ⟨⟨s1, rfl, hla⟩, hb⟩
  have C01 := Lib.hid (C0.out.trans (hb.mono C0.out.size))
  have BB1 := Lib.hid (HBw0.out.trans (hb.mono HBw0.out.size))
  have LA1 := Lib.hid hla
  clear hb hla C0
  obtain ⟨w2, hw⟩ : ∃ W, W = w1.alloc (.cells #[.int .u8 (N0 : Int), .bool B0, .int .u8 (N1 : Int), .bool B1, .int .u8 K, .int .u8 (T : Int), .slice s1 m m] 25) := ⟨_, rfl⟩
  have hb : Below w1.heap.size w1 w2 := by rw [hw]; exact below_alloc _ _
  have ho : Own w2 w1.heap.size 25 [.int .u8 (N0 : Int), .bool B0, .int .u8 (N1 : Int), .bool B1, .int .u8 K, .int .u8 (T : Int), .slice s1 m m] := by rw [hw]; exact own_lit _ _ _ _ rfl
  have HW2 := Lib.hid hw
  have C02 := Lib.hid (C01.out.trans (hb.mono C01.out.size))
  have BB2 := Lib.hid (BB1.out.trans (hb.mono BB1.out.size))
  have hrow : Row .u8 w2 s1 m m L := by have := (LA1.out.later hb).row (by rw [HM.out]; omega) HLo.out; rwa [HM.out] at this
  have HRow := Lib.hid hrow
  have HO2 := Lib.hid ho
  have C22 := Lib.hid (Below.refl w2.heap.size w2)
  have hs2 := hb.size
  have hlt2 := ho.lt
  have hltU : w.heap.size < w0.heap.size := HOU.out.lt
  clear hb hw ho BB1 C01 LA1 hrow
  go_wp2_with fail
  rw [← HW2.out]
  refine (HEnc.out w2 s1 HRow.out).mono ?_
  rintro e w3 ⟨⟨d, rfl, hd⟩, hb⟩
  have BB3 := Lib.hid (BB2.out.trans ((hb).mono BB2.out.size))
  have C23 := Lib.hid (C22.out.trans ((hb).mono C22.out.size))
  clear BB2 C22
  have C03 := Lib.hid (C02.out.trans (hb.mono C02.out.size))
  clear C02
  have hzB3 := BB3.out.size
  have hzC3 := C03.out.size
  have hs3 := hb.size
  have hre : Row .u8 w3 (some ⟨d, 0, none⟩) q q E := by
    obtain ⟨a', c', hv, hr, _⟩ := ownsRow_rowN .u8 hd (fun x hx => wf_u8.2 (HEo.out x hx))
    simp only [Value.slice.injEq] at hv
    obtain ⟨rfl, _, rfl⟩ := hv
    exact hr
  have HRE := Lib.hid hre
  have C33 := Lib.hid (Below.refl w3.heap.size w3)
  clear hb hd hre
  go_wp2_with fail
  refine (HDec.out _ _ w3 HRE.out).mono ?_
  rintro e w4 ⟨⟨s2, rfl, hla⟩, hb⟩
  have BB4 := Lib.hid (BB3.out.trans ((hb).mono BB3.out.size))
  have C24 := Lib.hid (C23.out.trans ((hb).mono C23.out.size))
  have C34 := Lib.hid (C33.out.trans ((hb).mono C33.out.size))
  have C04 := Lib.hid (C03.out.trans ((hb).mono C03.out.size))
  clear BB3 C23 C33 C03
  have hs4 := hb.size
  have LA4 := Lib.hid hla
  clear hb hla
  obtain ⟨w5, hw⟩ : ∃ W, W = w4.alloc (.cells #[.int .u8 (N0 : Int), .bool B0, .int .u8 (N1 : Int), .bool B1, .int .u8 K, .int .u8 (T : Int), .slice s2 m m] 25) := ⟨_, rfl⟩
  have hb : Below w4.heap.size w4 w5 := by rw [hw]; exact below_alloc _ _
  have ho : Own w5 w4.heap.size 25 [.int .u8 (N0 : Int), .bool B0, .int .u8 (N1 : Int), .bool B1, .int .u8 K, .int .u8 (T : Int), .slice s2 m m] := by rw [hw]; exact own_lit _ _ _ _ rfl
  have HW5 := Lib.hid hw
  have HB45 := Lib.hid hb
  have LA5 := Lib.hid (LA4.out.later hb)
  have HO5 := Lib.hid ho
  have hs5 := hb.size
  have hlt5 := ho.lt
  have BB5 := Lib.hid (BB4.out.trans ((hb).mono BB4.out.size))
  have C25 := Lib.hid (C24.out.trans ((hb).mono C24.out.size))
  have C35 := Lib.hid (C34.out.trans ((hb).mono C34.out.size))
  have C05 := Lib.hid (C04.out.trans ((hb).mono C04.out.size))
  clear BB4 C24 C34 C04
  have C55 := Lib.hid (Below.refl w5.heap.size w5)
  have hrow2 : ∀ W, Below w5.heap.size w5 W → Row .u8 W s2 m m L := fun W hb => by have := (LA5.out.later hb).row (by rw [HM.out]; omega) HLo.out; rwa [HM.out] at this
  have HRow2 := Lib.hid hrow2
  have hrow1 : ∀ W, Below w2.heap.size w2 W → Row .u8 W s1 m m L := fun W hb => HRow.out.later hb
  have HRow1 := Lib.hid hrow1
  have hrowE : ∀ W, Below w3.heap.size w3 W → Row .u8 W (some ⟨d, 0, none⟩) q q E := fun W hb => HRE.out.later hb
  have HRowE := Lib.hid hrowE
  clear hb hw ho hrow2 hrow1 hrowE
  go_wp2_with fail
  rw [← HW5.out]
  refine (add_n _ q q (q + 2) E F w5 (HBe0.out.later BB5.out) (HRowE.out _ C35.out) (by omega) rfl HEF.out).mono ?_
  rintro e w6 ⟨⟨gF, rfl, hrF, _, _⟩, hb⟩
  have BB6 := Lib.hid (BB5.out.trans ((hb).mono BB5.out.size))
  have C26 := Lib.hid (C25.out.trans ((hb).mono C25.out.size))
  have C36 := Lib.hid (C35.out.trans ((hb).mono C35.out.size))
  have C06 := Lib.hid (C05.out.trans ((hb).mono C05.out.size))
  have C56 := Lib.hid (C55.out.trans ((hb).mono C55.out.size))
  clear BB5 C25 C35 C05 C55
  have hs6 := hb.size
  have RF6 := Lib.hid hrF
  clear hb hrF
  go_wp2_with fail
  refine (frame_n _ (q + 2) (q + 2) J F (joinL [F]) w6 (HFl0.out.later BB6.out) RF6.out (okC_len HFok.out) rfl HJ.out).mono ?_
  rintro e w7 ⟨⟨aJ, rfl, hrJ⟩, hb⟩
  have BB7 := Lib.hid (BB6.out.trans ((hb).mono BB6.out.size))
  have C27 := Lib.hid (C26.out.trans ((hb).mono C26.out.size))
  have C37 := Lib.hid (C36.out.trans ((hb).mono C36.out.size))
  have C07 := Lib.hid (C06.out.trans ((hb).mono C06.out.size))
  have C57 := Lib.hid (C56.out.trans ((hb).mono C56.out.size))
  clear BB6 C26 C36 C06 C56
  have hs7 := hb.size
  have hJlt := hrJ.lt hJ2
  have RJ7 := Lib.hid hrJ
  have HJlt := Lib.hid hJlt
  clear hb hrJ hJlt
  go_wp2_with fail
  refine (new_any w7).mono ?_
  rintro e w8 ⟨rfl, hb, hsx⟩
  have hs8 : w7.heap.size < w8.heap.size := hsx.lt.1
  have RJ8 := Lib.hid (RJ7.out.later hb)
  have SX8 := Lib.hid hsx
  have zBB := BB7.out.size
  have zC2 := C27.out.size
  have zC3 := C37.out.size
  have zC0 := C07.out.size
  have zC5 := C57.out.size
  have BB8 := Lib.hid (BB7.out.trans ((hb).mono BB7.out.size))
  have C28 := Lib.hid (C27.out.trans ((hb).mono C27.out.size))
  have C38 := Lib.hid (C37.out.trans ((hb).mono C37.out.size))
  have C08 := Lib.hid (C07.out.trans ((hb).mono C07.out.size))
  have C58 := Lib.hid (C57.out.trans ((hb).mono C57.out.size))
  clear BB7 C27 C37 C07 C57
  clear hb hsx RJ7
  go_wp2_with fail
  refine (feed_n w7.heap.size none Sc.zero ⟨true, 0, [], 0⟩ [F] 0 1 aJ J J _ _ SX8.out RJ8.out HJe.out (fun z hz => ⟨by have := HJlt.out z hz; omega, by simp⟩) (by decide) (feed_oneC HFok.out) rfl).mono ?_
  rintro e w9 ⟨aO, gX, rfl, hm1, hsx, hsn, _⟩
  have hs9 := hsn.exc.size
  have hb := hsn.below (Nat.le_of_lt SX8.out.lt.1) (by simp) (Nat.le_refl _)
  have M9 := Lib.hid hm1
  have BB9 := Lib.hid (BB8.out.trans (hb.mono (by omega)))
  have C29 := Lib.hid (C28.out.trans (hb.mono (by omega)))
  have C39 := Lib.hid (C38.out.trans (hb.mono (by omega)))
  have C09 := Lib.hid (C08.out.trans (hb.mono (by omega)))
  have C59 := Lib.hid (C58.out.trans (hb.mono (by omega)))
  clear BB8 C28 C38 C08 C58 hb hsn hsx hm1 RJ8 SX8 zBB zC2 zC3 zC0 zC5
  obtain ⟨b9, o9, ra, mm, rc, lF, rfl, g9, hrF, hrc, _, hlF, hmm⟩ := M9.out.at (i := 0) (by omega)
  have eF2 : lF = F := by rw [← hlF]; rfl
  subst eF2
  rw [HFl.out] at hmm
  subst hmm
  obtain rfl := hrc rfl
  have hb9 := World.block_lt_of_cell? w9 _ g9
  have hc9 := M9.out.le
  have hc9' := M9.out.max
  unfold maxLen at hc9'
  have HRF := Lib.hid hrF
  have HG9 := Lib.hid g9
  clear M9 hlF hrF hrc g9
  obtain ⟨u0, u1, u2, u3, u4, u5, u6⟩ := unit_cells (HO2.out.below C29.out hlt2)
  obtain ⟨v0, v1, v2, v3, v4, v5, v6⟩ := unit_cells (HO5.out.below C59.out hlt5)
  go_wp2_with fail
  with_reducible refine (HSame.out w9 s1 s2 (HRow1.out _ C29.out) (HRow2.out _ C59.out)).mono ?_
  rintro e w10 ⟨rfl, hb⟩
  have HRF10 := Lib.hid (HRF.out.later hb)
  have g10 := (hb.cell (p := ⟨b9, o9 + 0, none⟩) hb9).trans HG9.out
  rw [Nat.add_zero] at g10
  have BB10 := Lib.hid (BB9.out.trans ((hb).mono BB9.out.size))
  have C210 := Lib.hid (C29.out.trans ((hb).mono C29.out.size))
  have C310 := Lib.hid (C39.out.trans ((hb).mono C39.out.size))
  have C010 := Lib.hid (C09.out.trans ((hb).mono C09.out.size))
  have C510 := Lib.hid (C59.out.trans ((hb).mono C59.out.size))
  clear BB9 C29 C39 C09 C59
  clear hb u0 u1 u2 u3 u4 u5 u6 v0 v1 v2 v3 v4 v5 v6 HRF HG9
  obtain ⟨v0, v1, v2, v3, v4, v5, v6⟩ := unit_cells (HO5.out.below C510.out hlt5)
  have hrcap := HRF10.out.le
  go_wp2_with fail
  refine (check_ok ra (q + 2) (q + 2) q _ E w10 (HBe0.out.later BB10.out) HRF10.out rfl (by omega) HFg.out HFt.out).mono ?_
  rintro e w11 ⟨⟨gC, rfl, hrC, _, _⟩, hb⟩
  have BB11 := Lib.hid (BB10.out.trans ((hb).mono BB10.out.size))
  have C211 := Lib.hid (C210.out.trans ((hb).mono C210.out.size))
  have C311 := Lib.hid (C310.out.trans ((hb).mono C310.out.size))
  have C011 := Lib.hid (C010.out.trans ((hb).mono C010.out.size))
  have C511 := Lib.hid (C510.out.trans ((hb).mono C510.out.size))
  clear BB10 C210 C310 C010 C510
  have RC11 := Lib.hid hrC
  clear hb hrC v0 v1 v2 v3 v4 v5 v6 g10 HRF10
  go_wp2_with fail
  refine (HDec.out _ _ w11 RC11.out).mono ?_
  rintro e w12 ⟨⟨s3, rfl, hla⟩, hb⟩
  have BB12 := Lib.hid (BB11.out.trans ((hb).mono BB11.out.size))
  have C212 := Lib.hid (C211.out.trans ((hb).mono C211.out.size))
  have C312 := Lib.hid (C311.out.trans ((hb).mono C311.out.size))
  have C012 := Lib.hid (C011.out.trans ((hb).mono C011.out.size))
  have C512 := Lib.hid (C511.out.trans ((hb).mono C511.out.size))
  clear BB11 C211 C311 C011 C511
  have LA12 := Lib.hid hla
  clear hb hla RC11
  obtain ⟨w13, hw⟩ : ∃ W, W = w12.alloc (.cells #[.int .u8 (N0 : Int), .bool B0, .int .u8 (N1 : Int), .bool B1, .int .u8 K, .int .u8 (T : Int), .slice s3 m m] 25) := ⟨_, rfl⟩
  have hb : Below w12.heap.size w12 w13 := by rw [hw]; exact below_alloc _ _
  have ho : Own w13 w12.heap.size 25 [.int .u8 (N0 : Int), .bool B0, .int .u8 (N1 : Int), .bool B1, .int .u8 K, .int .u8 (T : Int), .slice s3 m m] := by rw [hw]; exact own_lit _ _ _ _ rfl
  have HW13 := Lib.hid hw
  have hrow3 : Row .u8 w13 s3 m m L := by have := (LA12.out.later hb).row (by rw [HM.out]; omega) HLo.out; rwa [HM.out] at this
  have HRow3 := Lib.hid hrow3
  have HO13 := Lib.hid ho
  have BB13 := Lib.hid (BB12.out.trans ((hb).mono BB12.out.size))
  have C213 := Lib.hid (C212.out.trans ((hb).mono C212.out.size))
  have C313 := Lib.hid (C312.out.trans ((hb).mono C312.out.size))
  have C013 := Lib.hid (C012.out.trans ((hb).mono C012.out.size))
  have C513 := Lib.hid (C512.out.trans ((hb).mono C512.out.size))
  clear BB12 C212 C312 C012 C512
  clear hb hw ho LA12 hrow3
  obtain ⟨u0, u1, u2, u3, u4, u5, u6⟩ := unit_cells (HO2.out.below C213.out hlt2)
  obtain ⟨x0, x1, x2, x3, x4, x5, x6⟩ := unit_cells HO13.out
  rw [HW13.out] at u0 u1 u2 u3 u4 u5 u6 x0 x1 x2 x3 x4 x5 x6
  go_wp2_with fail
  rw [← HW13.out]
  with_reducible refine (HSame.out w13 s1 s3 (HRow1.out _ C213.out) HRow3.out).mono ?_
  rintro e w14 ⟨rfl, hb⟩
  have BB14 := Lib.hid (BB13.out.trans ((hb).mono BB13.out.size))
  have C214 := Lib.hid (C213.out.trans ((hb).mono C213.out.size))
  have C314 := Lib.hid (C313.out.trans ((hb).mono C313.out.size))
  have C014 := Lib.hid (C013.out.trans ((hb).mono C013.out.size))
  have C514 := Lib.hid (C513.out.trans ((hb).mono C513.out.size))
  clear BB13 C213 C313 C013 C513
  clear hb u0 u1 u2 u3 u4 u5 u6 x0 x1 x2 x3 x4 x5 x6 HO13 HRow3 HW13
  obtain ⟨v0, v1, v2, v3, v4, v5, v6⟩ := unit_cells (HO5.out.below C514.out hlt5)
  clear v0 v1 v2 v3 v4 v5
  have hgg : ∃ g, 0 < m → s2 = some ⟨g, 0, none⟩ ∧ w3.heap.size ≤ g ∧ g < w4.heap.size ∧ Own w14 g 5 (nums .u8 L) := by
    rcases LA4.out with ⟨h1, h2⟩ | ⟨g, h1, h2, h3⟩
    · refine ⟨0, fun h => ?_⟩
      have := HM.out
      rw [h2] at this
      simp at this
      omega
    · exact ⟨g, fun _ => ⟨h1, h2, h3.lt, (h3.below HB45.out h3.lt).below C514.out (by have := h3.lt; omega)⟩⟩
  obtain ⟨g, hg⟩ := hgg
  have HG := Lib.hid hg
  clear hg LA4 LA5
  go_wp2_with fail
  go_loopw [16] (fun i wr => ∃ k : Nat, k ≤ m ∧ i = .int .i64 k ∧ Exc (fun j => 0 < m ∧ j = g) w14 wr ∧ (0 < m → ∃ l', Own wr g 5 (nums .u8 l') ∧ l'.length = m ∧ ∀ x ∈ l', 0 ≤ x ∧ x ≤ 255)) (fun i _ => m - (intOf i).toNat)
  case atStart => exact ⟨0, Nat.zero_le _, rfl, Exc.refl _ _, fun h => ⟨L, (HG.out h).2.2.2, HM.out, HLo.out⟩⟩
  case round =>
    obtain ⟨k, hk, rfl, hex, hown⟩ := hrel
    have k6 : wr.cell? ⟨w4.heap.size, 6, none⟩ = some (.slice s2 m m) := hex.cell v6 (fun hh => by have := (HG.out hh.1).2.2.1; have := hh.2; simp only at this; omega)
    by_cases hlt : k < m
    · have hmp : 0 < m := by omega
      obtain ⟨hs2, _, _, _⟩ := HG.out hmp
      rw [hs2] at k6
      obtain ⟨l', ho, hl', hoo⟩ := hown hmp
      have hf := ho.frozen k
      have hz := ho.cell k (by rw [nums_length, hl']; exact hlt)
      obtain ⟨x, hx⟩ : ∃ x, x = l'.getD k 0 := ⟨_, rfl⟩
      have hz2 : (nums .u8 l').getD k undef = .int .u8 x := by rw [hx]; simp [nums, List.getD_eq_getElem?_getD, hl', hlt]
      rw [hz2] at hz
      have hx' : 0 ≤ x ∧ x ≤ 255 := by rw [hx]; exact getD_octs hoo k
      obtain ⟨hx0, hx1⟩ := hx'
      have HOw := Lib.hid ho
      have HOo := Lib.hid hoo
      have HL' := Lib.hid hl'
      have HEx := Lib.hid hex
      clear hown ho hoo hl' hex hx hz2
      go_wp2
      refine ⟨⟨k + 1, by omega, by go_num, HEx.out.setCell _ (.inl ⟨hmp, rfl⟩) _, fun _ => ⟨l'.set k ((x + 1) % 256), ?_, by simp [HL'.out], set_octs HOo.out _ _ (by omega)⟩⟩, by simp [intOf]; omega⟩
      have hh := HOw.out.set k (.int .u8 ((x + 1) % 256))
      rw [nums_set] at hh
      exact hh
    · obtain rfl : k = m := by omega
      have BBr := Lib.hid (BB14.out.trans (hex.below (B := w.heap.size) BB14.out.size (fun i _ hi => by have := (HG.out hi.1).2.1; have := hi.2; omega)))
      have C0r := Lib.hid (C014.out.trans (hex.below (B := w0.heap.size) C014.out.size (fun i _ hi => by have := (HG.out hi.1).2.1; have := hi.2; omega)))
      have C2r := Lib.hid (C214.out.trans (hex.below (B := w2.heap.size) C214.out.size (fun i _ hi => by have := (HG.out hi.1).2.1; have := hi.2; omega)))
      have C3r := Lib.hid (C314.out.trans (hex.below (B := w3.heap.size) C314.out.size (fun i _ hi => by have := (HG.out hi.1).2.1; have := hi.2; omega)))
      have hSn : ∀ W W', Below wr.heap.size wr W → Below W.heap.size W W' → Below wr.heap.size wr W' ∧ W'.cell? ⟨w1.heap.size, 0, none⟩ = some (.int .u8 (N0 : Int)) ∧ W'.cell? ⟨w1.heap.size, 1, none⟩ = some (.bool B0) ∧ W'.cell? ⟨w1.heap.size, 2, none⟩ = some (.int .u8 (N1 : Int)) ∧ W'.cell? ⟨w1.heap.size, 3, none⟩ = some (.bool B1) ∧ W'.cell? ⟨w1.heap.size, 4, none⟩ = some (.int .u8 K) ∧ W'.cell? ⟨w1.heap.size, 5, none⟩ = some (.int .u8 (T : Int)) ∧ W'.cell? ⟨w1.heap.size, 6, none⟩ = some (.slice s1 k k) ∧ W'.cell? ⟨w.heap.size, 0, none⟩ = some (.int .u8 a0) ∧ W'.cell? ⟨w.heap.size, 1, none⟩ = some (.int .u8 a1) ∧ W'.cell? ⟨w.heap.size, 2, none⟩ = some (.int .u8 a2) ∧ W'.cell? ⟨w.heap.size, 3, none⟩ = some (.int .u8 a3) ∧ W'.cell? ⟨w.heap.size, 4, none⟩ = some (.int .u16 (size : Int)) ∧ W'.cell? ⟨w.heap.size, 5, none⟩ = some (.slice s n c) := fun W W' hb hb' => by
        have hbb := hb.trans (hb'.mono hb.size)
        obtain ⟨u0, u1, u2, u3, u4, u5, u6⟩ := unit_cells (HO2.out.below (C2r.out.trans (hbb.mono C2r.out.size)) hlt2)
        obtain ⟨y0, y1, y2, y3, y4, y5⟩ := u_cells (HOU.out.below (C0r.out.trans (hbb.mono C0r.out.size)) hltU)
        exact ⟨hbb, u0, u1, u2, u3, u4, u5, u6, y0, y1, y2, y3, y4, y5⟩
      have hS0 := hSn wr wr (Below.refl _ _) (Below.refl _ _)
      have hSd := hSn wr wr.drew (Below.refl _ _) (Below.refl _ _).drew
      have HS := Lib.hid hSn
      have HOc := Lib.hid fun W (hb : Below wr.heap.size wr W) => HOct.out W s1 (HRow1.out W (C2r.out.trans (hb.mono C2r.out.size)))
      have HRE2 := Lib.hid fun W (hb : Below wr.heap.size wr W) => HRowE.out W (C3r.out.trans (hb.mono C3r.out.size))
      have HR1 := Lib.hid fun W (hb : Below wr.heap.size wr W) => HRow1.out W (C2r.out.trans (hb.mono C2r.out.size))
      have HUb := Lib.hid fun W (hb : Below wr.heap.size wr W) => HUa.out W (BBr.out.trans (hb.mono BBr.out.size))
      have HPw := Lib.hid fun W (hb : Below wr.heap.size wr W) => HP0.out.later (BBr.out.trans (hb.mono BBr.out.size))
      clear hSn hown hex v6
      go_wp2_with fail
      clear k6
      go_region_held3 (fun W => Below wr.heap.size wr W ∧ W.cell? ⟨w1.heap.size, 0, none⟩ = some (.int .u8 (N0 : Int)) ∧ W.cell? ⟨w1.heap.size, 1, none⟩ = some (.bool B0) ∧ W.cell? ⟨w1.heap.size, 2, none⟩ = some (.int .u8 (N1 : Int)) ∧ W.cell? ⟨w1.heap.size, 3, none⟩ = some (.bool B1) ∧ W.cell? ⟨w1.heap.size, 4, none⟩ = some (.int .u8 K) ∧ W.cell? ⟨w1.heap.size, 5, none⟩ = some (.int .u8 (T : Int)) ∧ W.cell? ⟨w1.heap.size, 6, none⟩ = some (.slice s1 k k) ∧ W.cell? ⟨w.heap.size, 0, none⟩ = some (.int .u8 a0) ∧ W.cell? ⟨w.heap.size, 1, none⟩ = some (.int .u8 a1) ∧ W.cell? ⟨w.heap.size, 2, none⟩ = some (.int .u8 a2) ∧ W.cell? ⟨w.heap.size, 3, none⟩ = some (.int .u8 a3) ∧ W.cell? ⟨w.heap.size, 4, none⟩ = some (.int .u16 (size : Int)) ∧ W.cell? ⟨w.heap.size, 5, none⟩ = some (.slice s n c)) (first | assumption | go_keep)
        (first
          | (go_at_call 15; ((with_reducible refine (HOc.out _ (And.left (by assumption))).mono ?_); rintro e w15 ⟨⟨ao, co, rfl, hro⟩, hb5⟩; have hS5 := HS.out _ _ (And.left (by assumption)) hb5; have HQ := Lib.hid hro; clear hb5 hro))
          | (go_at_call 14; ((with_reducible refine (bytes_yes _ _ q q co E _ (HRE2.out _ (And.left (by assumption))) (by first | exact HQ.out | exact HQ.out.later ((Below.refl _ _).drew))).mono ?_); rintro e w16 ⟨rfl, q16, rfl⟩; have hS6 := HS.out w15 (w15.drewN q16) (And.left (by assumption)) (below_draw w15 q16)))
          | (go_at_call 16; ((with_reducible refine (HUb.out _ (And.left (by assumption))).mono ?_); rintro e w17 ⟨⟨s4, rfl, hla⟩, hb7⟩; have hS7 := HS.out _ _ (And.left (by assumption)) hb7; have HLA := Lib.hid hla; clear hb7 hla))
          | (go_at_call 22; ((with_reducible refine (HSame.out _ s1 s4 (HR1.out _ (And.left (by assumption))) (by have := HLA.out.row (by rw [HM.out]; omega) HLo.out; rwa [HM.out] at this)).mono ?_); rintro e w18 ⟨rfl, hb8⟩; have hS8 := HS.out _ _ (And.left (by assumption)) hb8; clear hb8))
          | (go_at_call 9; ((with_reducible refine (lives_any _ (HPw.out _ (And.left (by assumption)))).mono ?_); rintro e w19 ⟨rfl, hb9⟩; have hS9 := HS.out _ _ (And.left (by assumption)) hb9; clear hb9))
          | fail)
      all_goals
        go_wp2
        go_ret
        exact ⟨rfl, BBr.out.trans (Below.mono (And.left (by assumption)) BBr.out.size)⟩
theorem unitsBack_all (a0 a1 a2 a3 a4 : Int) (s : Option Addr) (n c : Nat) (l : List Int) (w : World) (hp : PowOk w ∧ BehindOk w ∧ FlagOk w) (h0 : (Lit.int .u8 a0).wf = true) (h1 : (Lit.int .u8 a1).wf = true) (h2 : (Lit.int .u8 a2).wf = true) (h3 : (Lit.int .u8 a3).wf = true) (h4 : (Lit.int .u16 a4).wf = true) (h : Row .u8 w s n c l) :
    Calls Tryd.prog 4 #[.agg #[.int .u8 a0, .int .u8 a1, .int .u8 a2, .int .u8 a3, .int .u16 a4, .slice s n c]] w fun e w' => e = .returned (.bool true) ∧ Below w.heap.size w w' := by
  have g4 : 0 ≤ a4 ∧ a4 ≤ 65535 := by
    simp [Lit.wf, IntKind.min, IntKind.max, IntKind.bits, IntKind.signed] at h4
    omega
  obtain ⟨m, rfl⟩ : ∃ m : Nat, a4 = m := ⟨a4.toNat, by omega⟩
  exact unitsBack_walk a0 a1 a2 a3 m s n c l w hp.1 hp.2.1 hp.2.2 (wf_u8.1 h0).1 (wf_u8.1 h0).2 (wf_u8.1 h1).1 (wf_u8.1 h1).2 (wf_u8.1 h2).1 (wf_u8.1 h2).2 (wf_u8.1 h3).1 (wf_u8.1 h3).2 (by omega) h
end Go.Proofs.YtkfookiakpnlfaaDoor
