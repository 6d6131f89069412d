/- Statements of layer 9: AlignmentsAlone. -/
import Derived.Test.YtgfiikbecapodaaAlWalk
import Derived.Deep.RegionHeld3
import Derived.Deep.CutBlock
namespace Go.Proofs.Ytgfiikbecapodaa
open Go.RowKit

/-- Idle or Stopped, never proved. -/
def alP (t : Ti) (p : Nat) : Al := ⟨t, p, 0, false, false, 0, 0⟩
/-- Seeking, k ticks behind. -/
def alS (t : Ti) (k : Nat) : Al := if k < t.seek then ⟨t, 1, t.seek - k, false, false, 0, 0⟩ else alP t 5
theorem alS_zero {t : Ti} (h : t.Low) (p : Nat) : (alP t p).start false = alS t 0 := by
  have := h.seek
  unfold alS
  rw [if_pos (by omega)]; rfl
theorem alS_tick {t : Ti} {k : Nat} (hk : k < t.seek) : (alS t k).tick = alS t (k + 1) := by
  have e : alS t k = ⟨t, 1, t.seek - k, false, false, 0, 0⟩ := by unfold alS; rw [if_pos hk]
  rw [e]
  unfold Al.tick alS
  rw [if_neg (by show ¬ t.seek - k = 0; omega)]
  by_cases h : k + 1 < t.seek
  · rw [if_neg (by show ¬ t.seek - k = 1; omega), if_pos h]
    show (⟨t, 1, t.seek - k - 1, false, false, 0, 0⟩ : Al) = ⟨t, 1, t.seek - (k + 1), false, false, 0, 0⟩
    rw [Nat.sub_sub]
  · rw [if_pos (by show t.seek - k = 1; omega), if_neg h]; rfl
theorem alS_wrong (t : Ti) (k : Nat) : (alS t k).wrong = alS t k := by
  unfold Al.wrong
  have h : (alS t k).ph ≠ 3 := by
    unfold alS alP
    split
    · show 1 ≠ 3; decide
    · show 5 ≠ 3; decide
  rw [if_neg h]
theorem alS_ph {t : Ti} {k : Nat} (h : k < t.seek) : (alS t k).ph = 1 ∧ (alS t k).left = t.seek - k := by
  unfold alS; rw [if_pos h]; exact ⟨rfl, rfl⟩
theorem alS_end (t : Ti) : alS t t.seek = alP t 5 := by unfold alS; rw [if_neg (by omega)]
theorem alS_prov (t : Ti) (k : Nat) : (alS t k).prov ≤ 1000000 := by
  unfold alS alP
  split
  · show 0 ≤ 1000000; decide
  · show 0 ≤ 1000000; decide
set_option maxHeartbeats 4000000 in
set_option maxRecDepth 100000 in
theorem alone_any (a0 a1 a2 a3 a4 a5 a6 : Nat) (s : Option Addr) (n c : Nat) (l : List Bool) (w : World) (h0 : a0 ≤ 255) (h1 : a1 ≤ 255) (h2 : a2 ≤ 255) (h3 : a3 ≤ 255) (h4 : a4 ≤ 255) (h5 : a5 ≤ 255) (h6 : a6 ≤ 255) (hr : BRow w s n c l) :
    Calls Try.prog 5 #[.agg #[.int .u8 (a0 : Int), .int .u8 (a1 : Int), .int .u8 (a2 : Int), .int .u8 (a3 : Int), .int .u8 (a4 : Int), .int .u8 (a5 : Int), .int .u8 (a6 : Int)], .slice s n c] w fun e w' => e = .returned (.bool true) ∧ Below w.heap.size w w' := by
  obtain ⟨W, hW⟩ : ∃ X, X = w.alloc (.cells #[.int .u8 (a0 : Int), .int .u8 (a1 : Int), .int .u8 (a2 : Int), .int .u8 (a3 : Int), .int .u8 (a4 : Int), .int .u8 (a5 : Int), .int .u8 (a6 : Int)] 23) := ⟨_, rfl⟩
  have hbW : Below w.heap.size w W := by rw [hW]; exact below_alloc _ _
  have oW : Own W w.heap.size 23 [.int .u8 (a0 : Int), .int .u8 (a1 : Int), .int .u8 (a2 : Int), .int .u8 (a3 : Int), .int .u8 (a4 : Int), .int .u8 (a5 : Int), .int .u8 (a6 : Int)] := by rw [hW]; exact own_new w _ _ _ rfl
  have c0 := oW.cell 0 (by simp)
  have c1 := oW.cell 1 (by simp)
  have c2 := oW.cell 2 (by simp)
  have c3 := oW.cell 3 (by simp)
  have c4 := oW.cell 4 (by simp)
  have c5 := oW.cell 5 (by simp)
  have c6 := oW.cell 6 (by simp)
  simp only [List.getD_cons_succ, List.getD_cons_zero] at c0 c1 c2 c3 c4 c5 c6
  obtain ⟨t, ht⟩ : ∃ t, t = tiOf a0 a1 a2 a3 a4 a5 a6 := ⟨_, rfl⟩
  have hlo : t.Low := by rw [ht]; exact tiOf_low ..
  have HOf := Lib.hid (of_lit a0 a1 a2 a3 a4 a5 a6 W h0 h1 h2 h3 h4 h5 h6 t ht)
  have HW := Lib.hid hW
  have HB := Lib.hid hbW
  have HLo := Lib.hid hlo
  have HLv := Lib.hid lives_any
  clear hW hbW oW ht hlo h0 h1 h2 h3 h4 h5 h6
  have HR := Lib.hid hr
  clear hr
  go_enter Try.func5, Try.ntmps5
  go_upto_region 1 with fail
  rw [← HW.out]
  go_wp2_with fail
  with_reducible refine HOf.out.mono ?_
  rintro e w2 ⟨rfl, hb2⟩
  obtain ⟨W1, hW1⟩ : ∃ X, X = w2.alloc (.cells #[.int .i64 (t.seek : Int), .int .i64 (t.hold : Int), .int .i64 (t.normal : Int), .int .i64 (t.emer : Int), .int .i64 (t.few : Int), .int .i64 (t.fewer : Int), .int .i64 (t.most : Int)] 31) := ⟨_, rfl⟩
  obtain ⟨B, hB⟩ : ∃ B, B = w2.heap.size := ⟨_, rfl⟩
  have oB : Own W1 B 31 [.int .i64 (t.seek : Int), .int .i64 (t.hold : Int), .int .i64 (t.normal : Int), .int .i64 (t.emer : Int), .int .i64 (t.few : Int), .int .i64 (t.fewer : Int), .int .i64 (t.most : Int)] := by rw [hW1, hB]; exact own_new w2 _ _ _ rfl
  have hb1 : Below w.heap.size w W1 := by
    have h := HB.out.trans (Below.mono hb2 HB.out.size)
    rw [hW1]; exact h.alloc h.size _
  have d0 := oB.cell 0 (by simp)
  have d1 := oB.cell 1 (by simp)
  have d2 := oB.cell 2 (by simp)
  have d3 := oB.cell 3 (by simp)
  have d4 := oB.cell 4 (by simp)
  have d5 := oB.cell 5 (by simp)
  have d6 := oB.cell 6 (by simp)
  simp only [List.getD_cons_succ, List.getD_cons_zero] at d0 d1 d2 d3 d4 d5 d6
  have HW1 := Lib.hid hW1
  have HB1 := Lib.hid hb1
  have HO := Lib.hid oB
  clear hb2 HOf HW HB c0 c1 c2 c3 c4 c5 c6 hW1 oB hb1
  go_upto_region 2 with fail
  rw [← HW1.out, ← hB]
  clear HW1 hB
  go_wp2_with fail
  with_reducible refine (new_lit t HLo.out.fit (Below.refl W1.heap.size W1)).mono ?_
  rintro e w3 ⟨b, rfl, _, h3, _⟩
  have H := Lib.hid (show One W1 w3 b (alP t 0) from h3)
  clear h3 d0 d1 d2 d3 d4 d5 d6
  have HTx := Lib.hid (fun W' (h : Below W1.heap.size W1 W') => HO.out.below h HO.out.lt)
  go_wp2_with fail
  with_reducible refine (tick_one H.out).mono ?_
  rintro e w4 ⟨rfl, h4⟩
  rw [show (alP t 0).tick = alP t 0 from rfl] at h4
  have H4 := Lib.hid h4
  clear h4 H
  go_wp2_with fail
  with_reducible refine (phase_one H4.out).mono ?_
  rintro e w' ⟨rfl, rfl⟩
  rw [show ((alP t 0).ph : Int) = 0 from rfl]
  go_wp2_with fail
  go_loopw [8] (fun v wr => ∃ r p : Nat, r ≤ 2 ∧ v = .int .i64 r ∧ One W1 wr b (alP t p) ∧ (p = 0 ∨ p = 5)) (fun v _ => 2 - (intOf v).toNat)
  case atStart => exact ⟨0, 0, by omega, rfl, H4.out, .inl rfl⟩
  case round =>
    obtain ⟨r, p, hr2, rfl, hx, hp⟩ := hrel
    have HX := Lib.hid (And.intro hx hp)
    clear hx hp H4
    by_cases hlt : r < 2
    · have hki : (r : Int) < 2 := by omega
      obtain ⟨R, hR⟩ : ∃ R, R = r + 1 := ⟨_, rfl⟩
      have hw1 : IntKind.i64.wrap ((r : Int) + 1) = (R : Int) := by rw [IntWalk.i64_in _ (by omega)]; omega
      have HRr := Lib.hid (And.intro hR hlt)
      clear hR hlt hr2
      go_wp2_with fail
      have hpp : (alP t p).ph = 0 ∨ (alP t p).ph = 5 := HX.out.2
      with_reducible refine (start_yes HX.out.1 false hpp).mono ?_
      rintro e w5 ⟨rfl, h5⟩
      rw [alS_zero HLo.out] at h5
      have H5 := Lib.hid h5
      clear h5 HX hpp
      go_wp2_with fail
      with_reducible refine (start_no H5.out false (by rw [(alS_ph (by have := HLo.out.seek; omega : 0 < t.seek)).1]; decide)).mono ?_
      rintro e w6 ⟨rfl, h6⟩
      have H6 := Lib.hid h6
      clear h6 H5
      go_wp2_with fail
      go_loopw [9] (fun v wr => ∃ k : Nat, k ≤ t.seek ∧ v = .int .i64 k ∧ One W1 wr b (alS t k)) (fun v _ => t.seek - (intOf v).toNat)
      case atStart => exact ⟨0, Nat.zero_le _, rfl, H6.out⟩
      case round =>
        obtain ⟨k, hk, rfl, hx⟩ := hrel
        have HX := Lib.hid hx
        have oBr := HTx.out wr hx.bel
        have d0 := oBr.cell 0 (by simp)
        simp only [List.getD_cons_zero] at d0
        have hs12 := HLo.out.seek
        clear hx H6 oBr
        by_cases hks : k < t.seek
        · have hki2 : (k : Int) < (t.seek : Int) := by omega
          have k0 : (0 : Int) ≤ (k : Int) := by omega
          have hph := fun W (h : One W1 W b (alS t k)) => phase_one h
          have hlf := fun W (h : One W1 W b (alS t k)) => left_one h
          rw [(alS_ph hks).1, show ((1 : Nat) : Int) = 1 from rfl] at hph
          rw [(alS_ph hks).2] at hlf
          obtain ⟨Y, hY⟩ : ∃ Y, Y = t.seek - k := ⟨_, rfl⟩
          rw [← hY] at hlf
          have hwy : IntKind.i64.wrap ((t.seek : Int) - (k : Int)) = (Y : Int) := by rw [IntWalk.i64_in _ (by omega)]; omega
          obtain ⟨K, hK⟩ : ∃ K, K = k + 1 := ⟨_, rfl⟩
          have hwk : IntKind.i64.wrap ((k : Int) + 1) = (K : Int) := by rw [IntWalk.i64_in _ (by omega)]; omega
          have HPh := Lib.hid hph
          have HLf := Lib.hid hlf
          have hS : ∀ W, One W1 W b (alS t k) → One W1 W b (alS t k) ∧ W.cell? ⟨B, 0, none⟩ = some (.int .i64 (t.seek : Int)) := fun W h => ⟨h, by
            have := (HTx.out W h.bel).cell 0 (by simp)
            simp only [List.getD_cons_zero] at this
            exact this⟩
          have HS := Lib.hid hS
          have htk : ∀ W, One W1 W b (alS t k) → Calls Try.prog 20 #[.pointer (some ⟨b, 0, none⟩)] W fun e w' => e = .returned (.int .i64 0) ∧ One W1 w' b (alS t K) := fun W h => by
            have := tick_one h
            rw [alS_tick hks, ← hK] at this
            exact this
          have HTk := Lib.hid htk
          have HK := Lib.hid (And.intro hK hks)
          clear hph hlf hS hK hks hk hs12 hY htk
          go_wp2_with fail
          clear d0
          go_region_held3 (fun W => One W1 W b (alS t k) ∧ W.cell? ⟨B, 0, none⟩ = some (.int .i64 (t.seek : Int))) (first | assumption | exact HS.out _ HX.out | exact HS.out _ (One.drew HX.out _) | exact HS.out _ (One.drew (And.left (by assumption)) _))
            (first
              | (go_at_call 14; ((with_reducible refine (HPh.out _ (And.left (by assumption))).mono ?_); rintro e w11 ⟨rfl, rfl⟩))
              | (go_at_call 15; ((with_reducible refine (HLf.out _ (And.left (by assumption))).mono ?_); rintro e w12 ⟨rfl, rfl⟩))
              | fail)
          have h7 : One W1 wr.drew b (alS t k) := HX.out.drew 1
          generalize wr.drew = W7 at h7 ⊢
          have H7 := Lib.hid h7
          clear h7 HX HPh HLf HS
          by_cases hkn : k < n
          · have hkn2 : (k : Int) < (n : Int) := by omega
            obtain ⟨sb, so, rfl, hcells⟩ := (HR.out.later (HB1.out.trans (Below.mono H7.out.bel HB1.out.size))).at (by omega)
            have hcell := hcells k hkn
            clear hcells hkn
            obtain ⟨v, hv⟩ : ∃ v, v = l.getD k true := ⟨_, rfl⟩
            rw [← hv] at hcell
            clear hv
            cases v
            · go_wp2_with fail
              with_reducible refine (HTk.out _ H7.out).mono ?_
              rintro e w9 ⟨rfl, h9⟩
              have H9 := Lib.hid h9
              clear h9 HTk H7
              go_wp2_with fail
              exact ⟨⟨K, by have := HK.out; omega, by rfl, H9.out⟩, by simp only [intOf]; have := HK.out; omega⟩
            · go_wp2_with fail
              with_reducible refine (wrong_one H7.out (alS_prov t k)).mono ?_
              rintro e w8 ⟨rfl, h8⟩
              rw [alS_wrong] at h8
              have H8 := Lib.hid h8
              clear h8 H7
              go_wp2_with fail
              with_reducible refine (HTk.out _ H8.out).mono ?_
              rintro e w9 ⟨rfl, h9⟩
              have H9 := Lib.hid h9
              clear h9 HTk H8
              go_wp2_with fail
              exact ⟨⟨K, by have := HK.out; omega, by rfl, H9.out⟩, by simp only [intOf]; have := HK.out; omega⟩
          · have hkn2 : ¬ (k : Int) < (n : Int) := by omega
            clear hkn
            go_wp2_with fail
            with_reducible refine (HTk.out _ H7.out).mono ?_
            rintro e w9 ⟨rfl, h9⟩
            have H9 := Lib.hid h9
            clear h9 HTk H7
            go_wp2_with fail
            exact ⟨⟨K, by have := HK.out; omega, by rfl, H9.out⟩, by simp only [intOf]; have := HK.out; omega⟩
        · obtain rfl : k = t.seek := by omega
          have hki2 : ¬ (t.seek : Int) < (t.seek : Int) := by omega
          have h10 := HX.out
          rw [alS_end] at h10
          have hph := phase_one h10
          have hlf := left_one h10
          have hpv := provings_one h10
          rw [show ((alP t 5).ph : Int) = 5 from rfl] at hph
          rw [show ((alP t 5).left : Int) = 0 from rfl] at hlf
          rw [show ((alP t 5).prov : Int) = 0 from rfl] at hpv
          have H10 := Lib.hid h10
          have HPh := Lib.hid hph
          have HLf := Lib.hid hlf
          have HPv := Lib.hid hpv
          clear h10 hph hlf hpv hks hk hs12 HX
          go_wp2_with fail
          with_reducible refine HPh.out.mono ?_
          rintro e w' ⟨rfl, rfl⟩
          go_wp2_with fail
          with_reducible refine HLf.out.mono ?_
          rintro e w' ⟨rfl, rfl⟩
          go_wp2_with fail
          with_reducible refine HPv.out.mono ?_
          rintro e w' ⟨rfl, rfl⟩
          clear HPh HLf HPv
          go_wp2_with fail
          exact ⟨⟨R, 5, by have := HRr.out; omega, by rfl, H10.out, .inr rfl⟩, by simp only [intOf]; have := HRr.out; omega⟩
    · obtain rfl : r = 2 := by omega
      have H10 := Lib.hid HX.out.1
      clear hlt hr2 HX
      go_wp2_with fail
      with_reducible refine (stop_one H10.out).mono ?_
      rintro e w5 ⟨rfl, h5⟩
      rw [show (alP t p).ends 0 = alP t 0 from rfl] at h5
      have hph := phase_one h5
      have hst := status_one h5
      rw [show ((alP t 0).ph : Int) = 0 from rfl] at hph
      rw [show ((alP t 0).stat : Int) = 9 from rfl] at hst
      have H5 := Lib.hid h5
      have HPh := Lib.hid hph
      have HSt := Lib.hid hst
      clear h5 H10 hph hst
      go_wp2_with fail
      with_reducible refine HPh.out.mono ?_
      rintro e w' ⟨rfl, rfl⟩
      go_wp2_with fail
      with_reducible refine HSt.out.mono ?_
      rintro e w' ⟨rfl, rfl⟩
      go_wp2_with fail
      with_reducible refine (HLv.out _).mono ?_
      rintro e w10 ⟨rfl, hb10⟩
      have HB10 := Lib.hid ((HB1.out.trans (Below.mono H5.out.bel HB1.out.size)).trans (Below.mono hb10 (HB1.out.trans (Below.mono H5.out.bel HB1.out.size)).size))
      clear hb10 HLv HPh HSt
      go_wp2
      go_ret
      exact ⟨rfl, HB10.out⟩
end Go.Proofs.Ytgfiikbecapodaa
