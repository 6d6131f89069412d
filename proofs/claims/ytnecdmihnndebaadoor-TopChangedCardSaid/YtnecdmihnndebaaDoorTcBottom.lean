/- Contracts: the statements' own bottom. -/
import Derived.Test.YtnecdmihnndebaaDoorTcMath
import Derived.Test.YtnecdmihnndebaaDoorUnUOf
namespace Go.Proofs.YtnecdmihnndebaaDoor
open Go.RowKit

set_option maxHeartbeats 4000000 in
set_option maxRecDepth 100000 in
theorem bottom_any (w : World) (hbe : BehindOk w) (hfl : FlagOk w) :
    Calls Tryd.prog 11 #[] w fun e w' => e = .returned (.bool true) ∧ Below w.heap.size w w' := by
  have hcu : chk 1 2 2 0 2 = 0 := by decide
  obtain ⟨L, eL⟩ : ∃ x : List Int, x = [255, 126] := ⟨_, rfl⟩
  have hm : L.length = 2 := by rw [eL]; rfl
  have hLo : ∀ x ∈ L, 0 ≤ x ∧ x ≤ 255 := by rw [eL]; decide
  have hnc : (contL 2 0 L).length = 2 := by rw [eL]; rfl
  obtain ⟨E, eE⟩ : ∃ x, x = encL 1 false 2 true 2 0 L := ⟨_, rfl⟩
  have hEo := enc_octs (p0 := 1) (p1 := 2) (B0 := false) (B1 := true) (T := 0) (by omega) (by omega) (by omega) hcu hLo
  rw [← eE] at hEo
  have hEl : E.length = 5 := by rw [eE, encL_length, hnc]
  have hdec := fun (a : Option Addr) (c' : Nat) (W : World) (hr : Row .u8 W a 5 c' E) => decode_enc 1 2 2 0 false true L E 2 5 a c' W (by omega) (by omega) (by omega) hcu hm eE (by rw [hnc]) hr
  have henc := fun (W : World) (s' : Option Addr) (hr : Row .u8 W s' 2 2 L) => encode_ok 1 false 2 true 2 0 s' 2 2 2 L W (by omega) (by omega) (by omega) (by omega) hr hcu hnc
  rw [← eE] at henc
  simp only [Nat.reduceAdd] at henc
  obtain ⟨F, eF⟩ : ∃ F, addL E = F := ⟨_, rfl⟩
  have hFok : okC F := by rw [← eF]; exact okC_addL hEo (by omega) (by omega)
  have hFl : F.length = 7 := by rw [← eF, addL_length, hEl]
  have hFt : F.take 5 = E := by rw [← eF, ← hEl]; exact addL_take E
  have hFg : lastTwo F 5 = Crc.crc (toN (F.take 5)) := by rw [← eF, ← hEl]; exact addL_good hEo
  obtain ⟨J, hJ⟩ : ∃ J, (joinL [F]).length = J := ⟨_, rfl⟩
  obtain ⟨hJe, hJ1, hJ2⟩ := joinL_err hFok
  rw [hJ] at hJ1 hJ2
  have hsame := fun (W : World) (sa sb : Option Addr) (ha : Row .u8 W sa 2 2 L) (hb : Row .u8 W sb 2 2 L) => usame_any 1 false 2 true 2 0 sa 2 2 L 1 false 2 true 2 0 sb 2 2 L W ha hb
  rw [sameU_refl] at hsame
  have h126 : L.getD 1 0 = 126 := by rw [eL]; rfl
  have hrow0 := row_lit .u8 w 5 L 2 hm (by omega) (fun x hx => wf_u8.2 (hLo x hx))
  have hcs : nums .u8 L = [.int .u8 255, .int .u8 126] := by rw [eL]; rfl
  rw [hcs] at hrow0
  have HLo := Lib.hid hLo
  have HM := Lib.hid hm
  have HDec := Lib.hid hdec
  have HEnc := Lib.hid henc
  have HSame := Lib.hid hsame
  have HEF := Lib.hid eF
  have HFok := Lib.hid hFok
  have HFl := Lib.hid hFl
  have HFt := Lib.hid hFt
  have HFg := Lib.hid hFg
  have HJ := Lib.hid hJ
  have HJe := Lib.hid hJe
  have HEo := Lib.hid hEo
  have HBe0 := Lib.hid hbe
  have HFl0 := Lib.hid hfl
  have H126 := Lib.hid h126
  have BB0 := Lib.hid (below_alloc w (.cells #[.int .u8 255, .int .u8 126] 5))
  obtain ⟨w1, hw1⟩ : ∃ W, W = w.alloc (.cells #[.int .u8 255, .int .u8 126] 5) := ⟨_, rfl⟩
  have hrow1 : Row .u8 w1 (some ⟨w.heap.size, 0, none⟩) 2 2 L := by rw [hw1]; exact hrow0
  have BB1 := Lib.hid (show Below w.heap.size w w1 by rw [hw1]; exact BB0.out)
  have hb1 := BB1.out.size
  obtain ⟨w2, hw⟩ : ∃ W, W = w1.alloc (.cells #[.int .u8 1, .bool false, .int .u8 2, .bool true, .int .u8 2, .int .u8 0, .slice (some ⟨w.heap.size, 0, none⟩) 2 2] 29) := ⟨_, rfl⟩
  have hb : Below w1.heap.size w1 w2 := by rw [hw]; exact below_alloc _ _
  have ho : Own w2 w1.heap.size 29 [.int .u8 1, .bool false, .int .u8 2, .bool true, .int .u8 2, .int .u8 0, .slice (some ⟨w.heap.size, 0, none⟩) 2 2] := by rw [hw]; exact own_lit _ _ _ _ rfl
  have hz1 : w1.heap.size = w.heap.size + 1 := by rw [hw1]; simp
  have HZ1 := Lib.hid hz1
  have HW1 := Lib.hid hw1
  have HW2 := Lib.hid hw
  have HRow := Lib.hid (hrow1.later hb)
  have HO2 := Lib.hid ho
  have BB2 := Lib.hid (BB1.out.trans (hb.mono hb1))
  have C22 := Lib.hid (Below.refl w2.heap.size w2)
  have hs2 := hb.size
  have hlt2 := ho.lt
  clear hdec henc hsame eF hFok hFl hFt hFg hJ hJe hEo hEl hbe hfl hcs hrow0 hrow1 hLo hm hnc eE eL h126 hcu BB0 hw1 hw hb ho hz1 BB1
  go_enter Tryd.func11, Tryd.ntmps11
  go_wp2_with fail
  rw [← HW1.out, ← HZ1.out, ← HW2.out]
  refine (HEnc.out w2 _ HRow.out).mono ?_
  rintro e w3 ⟨⟨d, rfl, hd⟩, hb⟩
  have BB3 := Lib.hid (BB2.out.trans ((hb).mono BB2.out.size))
  have C23 := Lib.hid (C22.out.trans ((hb).mono C22.out.size))
  clear BB2 C22
  have hs3 := hb.size
  have hre : Row .u8 w3 (some ⟨d, 0, none⟩) 5 5 E := by
    obtain ⟨a', c', hv, hr, _⟩ := ownsRow_rowN .u8 hd (fun x hx => wf_u8.2 (HEo.out x hx))
    simp only [Value.slice.injEq] at hv
    obtain ⟨rfl, _, rfl⟩ := hv
    exact hr
  have HRE := Lib.hid hre
  clear hb hd hre
  go_wp2_with fail
  refine (add_n _ 5 5 7 E F w3 (HBe0.out.later BB3.out) HRE.out (by omega) rfl HEF.out).mono ?_
  rintro e w6 ⟨⟨gF, rfl, hrF, _, _⟩, hb⟩
  have BB6 := Lib.hid (BB3.out.trans ((hb).mono BB3.out.size))
  have C26 := Lib.hid (C23.out.trans ((hb).mono C23.out.size))
  clear BB3 C23
  have hs6 := hb.size
  have RF6 := Lib.hid hrF
  clear hb hrF
  go_wp2_with fail
  refine (frame_n _ 7 7 J F (joinL [F]) w6 (HFl0.out.later BB6.out) RF6.out (okC_len HFok.out) rfl HJ.out).mono ?_
  rintro e w7 ⟨⟨aJ, rfl, hrJ⟩, hb⟩
  have BB7 := Lib.hid (BB6.out.trans ((hb).mono BB6.out.size))
  have C27 := Lib.hid (C26.out.trans ((hb).mono C26.out.size))
  clear BB6 C26
  have hs7 := hb.size
  have hJlt := hrJ.lt hJ2
  have RJ7 := Lib.hid hrJ
  have HJlt := Lib.hid hJlt
  clear hb hrJ hJlt
  go_wp2_with fail
  refine (new_any w7).mono ?_
  rintro e w8 ⟨rfl, hb, hsx⟩
  have hs8 : w7.heap.size < w8.heap.size := hsx.lt.1
  have RJ8 := Lib.hid (RJ7.out.later hb)
  have SX8 := Lib.hid hsx
  have zBB := BB7.out.size
  have zC2 := C27.out.size
  have BB8 := Lib.hid (BB7.out.trans ((hb).mono BB7.out.size))
  have C28 := Lib.hid (C27.out.trans ((hb).mono C27.out.size))
  clear BB7 C27 hb hsx RJ7
  go_wp2_with fail
  refine (feed_n w7.heap.size none Sc.zero ⟨true, 0, [], 0⟩ [F] 0 1 aJ J J _ _ SX8.out RJ8.out HJe.out (fun z hz => ⟨by have := HJlt.out z hz; omega, by simp⟩) (by decide) (feed_oneC HFok.out) rfl).mono ?_
  rintro e w9 ⟨aO, gX, rfl, hm1, hsx, hsn, _⟩
  have hs9 := hsn.exc.size
  have hb := hsn.below (Nat.le_of_lt SX8.out.lt.1) (by simp) (Nat.le_refl _)
  have M9 := Lib.hid hm1
  have BB9 := Lib.hid (BB8.out.trans (hb.mono (by omega)))
  have C29 := Lib.hid (C28.out.trans (hb.mono (by omega)))
  clear BB8 C28 hb hsn hsx hm1 RJ8 SX8 zBB zC2
  obtain ⟨b9, o9, ra, mm, rc, lF, rfl, g9, hrF, hrc, _, hlF, hmm⟩ := M9.out.at (i := 0) (by omega)
  have eF2 : lF = F := by rw [← hlF]; rfl
  subst eF2
  rw [HFl.out] at hmm
  subst hmm
  obtain rfl := hrc rfl
  have hb9 := World.block_lt_of_cell? w9 _ g9
  have hc9 := M9.out.le
  have hc9' := M9.out.max
  unfold maxLen at hc9'
  rw [Nat.add_zero] at g9
  have HRF := Lib.hid hrF
  clear M9 hlF hrF hrc
  have hrcap := HRF.out.le
  go_wp2_with fail
  refine (check_ok ra 7 7 5 _ E w9 (HBe0.out.later BB9.out) HRF.out rfl (by omega) HFg.out HFt.out).mono ?_
  rintro e w11 ⟨⟨gC, rfl, hrC, _, _⟩, hb⟩
  have BB11 := Lib.hid (BB9.out.trans ((hb).mono BB9.out.size))
  have C211 := Lib.hid (C29.out.trans ((hb).mono C29.out.size))
  clear BB9 C29
  have RC11 := Lib.hid hrC
  clear hb hrC g9 HRF
  go_wp2_with fail
  refine (HDec.out _ _ w11 RC11.out).mono ?_
  rintro e w12 ⟨⟨s3, rfl, hla⟩, hb⟩
  have BB12 := Lib.hid (BB11.out.trans ((hb).mono BB11.out.size))
  have C212 := Lib.hid (C211.out.trans ((hb).mono C211.out.size))
  clear BB11 C211
  have LA12 := Lib.hid hla
  clear hb hla RC11
  obtain ⟨w13, hw⟩ : ∃ W, W = w12.alloc (.cells #[.int .u8 1, .bool false, .int .u8 2, .bool true, .int .u8 2, .int .u8 0, .slice s3 2 2] 29) := ⟨_, rfl⟩
  have hb : Below w12.heap.size w12 w13 := by rw [hw]; exact below_alloc _ _
  have ho : Own w13 w12.heap.size 29 [.int .u8 1, .bool false, .int .u8 2, .bool true, .int .u8 2, .int .u8 0, .slice s3 2 2] := by rw [hw]; exact own_lit _ _ _ _ rfl
  have HW13 := Lib.hid hw
  have hrow3 : Row .u8 w13 s3 2 2 L := by have := (LA12.out.later hb).row (by rw [HM.out]; omega) HLo.out; rwa [HM.out] at this
  have HRow3 := Lib.hid hrow3
  have HO13 := Lib.hid ho
  have BB13 := Lib.hid (BB12.out.trans ((hb).mono BB12.out.size))
  have C213 := Lib.hid (C212.out.trans ((hb).mono C212.out.size))
  clear BB12 C212
  have hs13 := hb.size
  clear hb hw ho LA12 hrow3
  obtain ⟨u0, u1, u2, u3, u4, u5, u6⟩ := unit_cells (HO2.out.below C213.out hlt2)
  obtain ⟨x0, x1, x2, x3, x4, x5, x6⟩ := unit_cells HO13.out
  rw [HW13.out] at u0 u1 u2 u3 u4 u5 u6 x0 x1 x2 x3 x4 x5 x6
  go_wp2_with fail
  rw [← HW13.out]
  with_reducible refine (HSame.out w13 _ s3 (HRow.out.later C213.out) HRow3.out).mono ?_
  rintro e w14 ⟨rfl, hb⟩
  have BB14 := Lib.hid (BB13.out.trans ((hb).mono BB13.out.size))
  clear u0 u1 u2 u3 u4 u5 u6 x0 x1 x2 x3 x4 x5 x6
  have ho14 := HO13.out.below hb HO13.out.lt
  obtain ⟨x0, x1, x2, x3, x4, x5, x6⟩ := unit_cells ho14
  have hr14 := HRow3.out.later hb
  obtain ⟨b3, o3, rfl, hc3⟩ : ∃ p q, s3 = some ⟨p, q, none⟩ ∧ ∀ j, j < 2 → w14.cell? ⟨p, q + j, none⟩ = some (.int .u8 (L.getD j 0)) := by
    rcases hr14.cells with h0 | ⟨b, o, ha, hc⟩
    · omega
    · exact ⟨b, o, ha, hc⟩
  have c1 := hc3 1 (by omega)
  rw [H126.out] at c1
  clear hb ho14 hr14 hc3 x0 x1 x3 x4 x5
  go_wp2
  go_ret
  exact ⟨rfl, BB14.out⟩
end Go.Proofs.YtnecdmihnndebaaDoor
