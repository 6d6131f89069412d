/- Joined: TeOk6 TeOk7 TeOk8 -/
import Derived.Test.YtppbcehcaeeocaaTeBase
/- TransfersErrors: err_m_hi. -/
namespace Go.Proofs.Ytppbcehcaeeocaa
open Go.RowKit Go.Maps

set_option maxRecDepth 100000 in
set_option maxHeartbeats 8000000 in
theorem err_m_hi (p : Pn) (a : Option Addr) (n c : Nat) (a' : Option Addr) (n' c' : Nat) (t x d s : Int) (w : World) (hP : PRow w a n c p.P) (hL : LRow w a' n' c' p.L) (hn1 : n ≤ 80) (hn2 : n' ≤ 40) (hwt : (Lit.int .u16 t).wf = true) (hwx : (Lit.int .u16 x).wf = true) (hwd : (Lit.int .u16 d).wf = true) (_hws : 0 ≤ s) (i : Nat) (hi : fnd p.P t = some i) (hv : ValidPl p) (hm : x ∈ nbrs p t) (hd : d ∈ codesP p.P) (hdt : d ≠ t) (hs : 2 < s) :
    Calls Try.prog 5 #[planV a n c a' n' c' p, .int .u16 t, noteV x d s] w fun e w' => e = .returned (.bool true) ∧ Below w.heap.size w w' := by
  obtain ⟨W, hW⟩ : ∃ W, W = (w.alloc (.cells (planCells a n c a' n' c' p).toArray 33)).alloc (.cells #[.int .u16 x, .int .u16 d, .int .u8 s] 54) := ⟨_, rfl⟩
  obtain ⟨pb, hpb⟩ : ∃ pb, pb = w.heap.size := ⟨_, rfl⟩
  have hb0 : Below w.heap.size w W := by rw [hW]; exact (below_alloc w _).alloc (by simp) _
  have hA0 : PlanAt W pb a n c a' n' c' p := by rw [hW, hpb]; exact (PlanAt.new w _ _ _ _ _ _ p).later (below_alloc _ _)
  have hO0 : Own W (pb + 1) 54 [.int .u16 x, .int .u16 d, .int .u8 s] := by rw [hW, hpb]; have h := heap_alloc_new (w.alloc (.cells (planCells a n c a' n' c' p).toArray 33)) (.cells #[.int .u16 x, .int .u16 d, .int .u8 s] 54); rw [size_alloc1] at h; exact h
  have HB := Lib.hid hb0
  have HP := Lib.hid (fun (V : World) (hb : Below W.heap.size W V) => hP.later (hb0.trans (hb.mono hb0.size)))
  have HL := Lib.hid (fun (V : World) (hb : Below W.heap.size W V) => hL.later (hb0.trans (hb.mono hb0.size)))
  have HPc := Lib.hid (fun (V : World) (hb : Below W.heap.size W V) => (hA0.later hb).cells)
  have HNc := Lib.hid (fun (V : World) (hb : Below W.heap.size W V) => (show V.cell? ⟨pb + 1, 0, none⟩ = some (.int .u16 x) ∧ V.cell? ⟨pb + 1, 1, none⟩ = some (.int .u16 d) ∧ V.cell? ⟨pb + 1, 2, none⟩ = some (.int .u8 s) from ⟨(hO0.below hb hO0.lt).cell 0 (by simp), (hO0.below hb hO0.lt).cell 1 (by simp), (hO0.below hb hO0.lt).cell 2 (by simp)⟩))
  have HPr := Lib.hid hP
  have HWt := Lib.hid hwt
  have HWx := Lib.hid hwx
  have HWd := Lib.hid hwd
  obtain ⟨g0, g1, g2, g3, g4, g5, g6⟩ := hA0.cells
  have b80 : decide ((80 : Int) < (n : Int)) = false := decide_eq_false (by omega)
  have b40 : decide ((40 : Int) < (n' : Int)) = false := decide_eq_false (by omega)
  have HI := Lib.hid hi
  have HV := Lib.hid hv
  have HNe := Lib.hid (fun (V : World) (hb : Below W.heap.size W V) => neighbors_ok p a n c a' n' c' t V (HP.out V hb) (HL.out V hb) (one_ok hv hi) hv)
  have HNw := Lib.hid (fun (V : World) (hb : Below W.heap.size W V) => new_ok p a n c a' n' c' t V (HP.out V hb) (HL.out V hb) (one_ok hv hi) hv i hi hwt AnyGood (fun _ _ h => h) (fun u V hP hL hu hne => choices_good p a n c a' n' c' t u V hP hL i hi hu hne hv))
  have HIx := Lib.hid (fun (V : World) (hb : Below W.heap.size W V) => cindex_any p a n c a' n' c' d V (HP.out V hb))
  unfold planV at HNe HNw HIx
  have HMm := Lib.hid hm
  have HDt := Lib.hid hdt
  have HDn : Hid (d ∈ destsP p.P t) := Lib.hid (mem_dests.2 ⟨hd, hdt⟩)
  have HIf : Hid (∃ s, idN p.P d = s ∧ isB p.P d = true) := Lib.hid (by obtain ⟨s, hs⟩ := code_fnd hv hd; exact ⟨s, idN_some hs⟩)
  have hdt2 : (d == t) = false := by simpa using hdt
  have HSs := Lib.hid hs
  have hs2 : decide (2 < s) = true := decide_eq_true hs
  clear hs
  clear hm hd hdt
  have HLv := Lib.hid (fun (V : World) => lives_any V)
  unfold planV noteV
  clear hb0 hA0 hO0 hP hL hwt hwx hwd hi hv
  go_enter Try.func5, Try.ntmps5
  go_upto_region 1 with (fail)
  show Code.wp _ _ _ _ ((w.alloc (.cells (planCells a n c a' n' c' p).toArray 33)).alloc (.cells #[.int .u16 x, .int .u16 d, .int .u8 s] 54))
  rw [← hW, ← hpb]
  clear hW hpb
  go_wp2_with fail
  with_reducible refine (HNe.out _ (Below.refl _ _)).mono ?_
  rintro e w1 ⟨aN, rfl, hr, hb⟩
  have HB1 := Lib.hid hb
  have HR1 := Lib.hid hr
  obtain ⟨m, hm⟩ : ∃ m, m = (nbrs p t).length := ⟨_, rfl⟩
  rw [← hm] at HR1 ⊢
  have HM := Lib.hid hm
  clear hb hr hm g0 g1 g2 g3 g4 g5 g6
  obtain ⟨g0, g1, g2, g3, g4, g5, g6⟩ := HPc.out w1 HB1.out
  go_wp2_with fail
  with_reducible refine (HNw.out _ HB1.out).mono ?_
  rintro e wq ⟨y, T, rfl, hA, hN, hTl, hb⟩
  have HBq := Lib.hid (HB1.out.trans (hb.mono HB1.out.size))
  have HRq := Lib.hid (HR1.out.later hb)
  obtain ⟨C, hC⟩ : ∃ C, C = T.C := ⟨_, rfl⟩
  have hA' := hA.nT hN
  rw [← hC] at hA'
  have HAq := Lib.hid hA'
  have HMu : Hid (∀ k, Mut y k → W.heap.size ≤ k) := Lib.hid (fun k hk => by
    have h0 := HB1.out.size
    rcases hk with e | e | e <;> subst e
    · exact Nat.le_trans h0 hTl.bu
    · exact Nat.le_trans h0 hTl.bt
    · exact Nat.le_trans h0 hTl.bs)
  clear hb hA hA' hN hTl hC g0 g1 g2 g3 g4 g5 g6
  obtain ⟨zb, hzb⟩ : ∃ zb, zb = wq.heap.size := ⟨_, rfl⟩
  obtain ⟨V0, hV0⟩ : ∃ V0, V0 = wq.alloc (.cells #[.int .u16 0, .bool false, .slice none 0 0, .slice none 0 0, .map none, .map none, .map none, .map none] 86) := ⟨_, rfl⟩
  have hbV : Below wq.heap.size wq V0 := by rw [hV0]; exact below_alloc _ _
  have hoV : Own V0 zb 86 [.int .u16 0, .bool false, .slice none 0 0, .slice none 0 0, .map none, .map none, .map none, .map none] := by rw [hV0, hzb]; exact heap_alloc_new wq _
  have hsV : V0.heap.size = zb + 1 := by rw [hV0, hzb, size_alloc1]
  obtain ⟨V1, hV1⟩ : ∃ V1, V1 = V0.alloc (.cells #[.pointer none, .pointer (some ⟨zb, 0, none⟩)] 35) := ⟨_, rfl⟩
  have hbV1 : Below V0.heap.size V0 V1 := by rw [hV1]; exact below_alloc _ _
  have hoL : Own V1 (zb + 1) 35 [.pointer none, .pointer (some ⟨zb, 0, none⟩)] := by rw [hV1, ← hsV]; exact heap_alloc_new V0 _
  have HBV := Lib.hid (HBq.out.trans ((hbV.trans (hbV1.mono hbV.size)).mono HBq.out.size))
  have HBV2 := Lib.hid (hbV.trans (hbV1.mono hbV.size))
  have HoL := Lib.hid hoL
  have HNul : Hid (Nul V1 (some ⟨zb, 0, none⟩)) := Lib.hid (.inr ⟨zb, rfl, ((hoV.below hbV1 hoV.lt).cell 4 (by simp))⟩)
  go_upto_region 10 with (fail)
  rw [← hzb, ← hV0, ← hV1]
  clear hV0 hV1 hzb hbV hbV1 hoL hoV hsV
  go_loopw [72] (fun kv wr => ∃ k : Nat, k ≤ 2 ∧ kv = .int .i64 k ∧ Below V1.heap.size V1 wr) (fun kv _ => 2 - (intOf kv).toNat)
  case atStart => exact ⟨0, by decide, rfl, Below.refl _ _⟩
  case round =>
    obtain ⟨k, hk, rfl, hb⟩ := hrel
    obtain ⟨w5, hw5⟩ : ∃ v, v = wr := ⟨_, rfl⟩
    subst hw5
    have HBk := Lib.hid hb
    clear hb
    by_cases hkm : k < 2
    · obtain ⟨ad, had, hnul⟩ : ∃ ad, w5.cell? ⟨zb + 1, k, none⟩ = some (.pointer ad) ∧ Nul V1 ad := by
        have ho := HoL.out.below HBk.out HoL.out.lt
        rcases (by omega : k = 0 ∨ k = 1) with e | e
        · subst e; exact ⟨none, ho.cell 0 (by simp), .inl rfl⟩
        · subst e; exact ⟨_, ho.cell 1 (by simp), HNul.out⟩
      have HN9 := Lib.hid (fun (V : World) (hb : Below V1.heap.size V1 V) => hnul.later hb)
      have HNx := Lib.hid (fun (V : World) (hb : Below V1.heap.size V1 V) => HNc.out V (HBV.out.trans (hb.mono HBV.out.size)))
      have k1 : (k : Int) < 2 := by omega
      have k2 : (0 : Int) ≤ (k : Int) := by omega
      obtain ⟨q0, q1, q2⟩ := HNx.out _ HBk.out
      have h1 := Lib.hid (statuses_nul ad d _ (HN9.out _ HBk.out))
      have h2 := Lib.hid (status_nul ad d _ (HN9.out _ HBk.out))
      have h3 := Lib.hid (greet_nul ad x _ (HN9.out _ HBk.out))
      have h4 := Lib.hid (answer_nul ad x d s _ (HN9.out _ HBk.out))
      unfold noteV noNote at h4
      clear hnul
      go_wp2_with fail
      with_reducible refine h1.out.mono ?_
      rintro e w' ⟨rfl, rfl⟩
      go_wp2_with fail
      with_reducible refine h2.out.mono ?_
      rintro e w' ⟨rfl, rfl⟩
      go_wp2_with fail
      with_reducible refine h3.out.mono ?_
      rintro e w' ⟨rfl, rfl⟩
      go_wp2_with fail
      with_reducible refine h4.out.mono ?_
      rintro e w6 ⟨rfl, hb⟩
      have HB6 := Lib.hid (HBk.out.trans (hb.mono HBk.out.size))
      obtain ⟨V6, hV6⟩ : ∃ V6, V6 = w6.alloc (.cells #[.int .u16 0, .int .u16 0, .int .u8 0] 54) := ⟨_, rfl⟩
      have HB7 : Hid (Below V1.heap.size V1 V6) := Lib.hid (by rw [hV6]; exact HB6.out.alloc HB6.out.size _)
      clear hb had q0 q1 q2 h1 h2 h3 h4
      obtain ⟨q0, q1, q2⟩ := HNx.out _ HB7.out
      have h5 := Lib.hid (up_nul ad x _ (HN9.out _ HB7.out))
      have h6 := Lib.hid (down_nul ad x _ (HN9.out _ HB7.out))
      have h7 := Lib.hid (hear_nul ad x d s _ (HN9.out _ HB7.out))
      unfold noteV at h7
      go_upto_region 16 with (fail)
      show Code.wp _ _ _ _ (w6.alloc (.cells #[.int .u16 0, .int .u16 0, .int .u8 0] 54))
      rw [← hV6]
      clear hV6
      go_wp2_with fail
      with_reducible refine h5.out.mono ?_
      rintro e w' ⟨rfl, rfl⟩
      go_wp2_with fail
      with_reducible refine h6.out.mono ?_
      rintro e w' ⟨rfl, rfl⟩
      go_wp2_with fail
      with_reducible refine h7.out.mono ?_
      rintro e w8 ⟨rfl, hb⟩
      have HB8 := Lib.hid (HB7.out.trans (hb.mono HB7.out.size))
      clear hb q0 q1 q2 h5 h6 h7
      have h8 := Lib.hid (tell_nul ad _ (HN9.out _ HB8.out))
      have h9 := Lib.hid (ask_nul ad _ (HN9.out _ HB8.out))
      go_wp2_with fail
      with_reducible refine h8.out.mono ?_
      rintro e w' ⟨rfl, rfl⟩
      go_wp2_with fail
      with_reducible refine h9.out.mono ?_
      rintro e w' ⟨rfl, rfl⟩
      go_wp2
      exact ⟨⟨k + 1, by omega, by go_num, HB8.out⟩, by simp [intOf]; omega⟩
    · obtain rfl : k = 2 := by omega
      have HBz := Lib.hid (HBV.out.trans (HBk.out.mono HBV.out.size))
      have HBw := Lib.hid (HBV2.out.trans (HBk.out.mono HBV2.out.size))
      clear HBk
      have HA5 := Lib.hid (HAq.out.below HBw.out)
      have HR5 := Lib.hid (HRq.out.later HBw.out)
      clear HAq HRq
      have hml : m ≤ 1024 := by rw [HM.out]; have h1 := nbrs_none p t; have h2 := HV.out.nl; omega
      go_wp2_with fail
      go_loopw [23, 24] (fun bv jv wr => ∃ j : Nat, j ≤ m ∧ jv = .int .i64 j ∧ bv = .bool (decide (x ∈ (nbrs p t).take j)) ∧ Below w5.heap.size w5 wr) (fun _ jv _ => m - (intOf jv).toNat)
      case atStart => exact ⟨0, Nat.zero_le _, rfl, by simp, Below.refl _ _⟩
      case round =>
        obtain ⟨j, hj, rfl, rfl, hb⟩ := hrel
        have HBj := Lib.hid hb
        have hrow := HR5.out.later hb
        obtain ⟨q0, q1, q2⟩ := HNc.out wr (HBz.out.trans (hb.mono HBz.out.size))
        clear hb
        by_cases hjm : j < m
        · have hjl : j < (nbrs p t).length := by rw [← HM.out]; exact hjm
          obtain ⟨b, off, rfl, hc⟩ := hrow.cells.resolve_left (by omega)
          have c0 := hc j hjm
          have hT := take_one hjl
          obtain ⟨q, hq⟩ : ∃ q, q = (nbrs p t).getD j 0 := ⟨_, rfl⟩
          rw [← hq] at c0 hT
          have j1 : (j : Int) < (m : Int) := by omega
          have j2 : (0 : Int) ≤ (j : Int) := by omega
          have HD : Hid (decide (x ∈ (nbrs p t).take (j + 1)) = (decide (x ∈ (nbrs p t).take j) || (q == x))) := Lib.hid (by
            rw [hT]
            by_cases h1 : x ∈ (nbrs p t).take j
            · simp [h1]
            · by_cases h2 : x = q
              · simp [h2]
              · simp [h1, h2, Ne.symm h2])
          obtain ⟨bb, hbb⟩ : ∃ bb, bb = decide (x ∈ (nbrs p t).take j) := ⟨_, rfl⟩
          rw [← hbb] at HD ⊢
          clear hq hc hT hrow hbb
          cases bb
          · by_cases hqx : q = x
            · have e5 : (q == x) = true := by simpa using hqx
              have HE : Hid (decide (x ∈ (nbrs p t).take (j + 1)) = true) := Lib.hid (by rw [HD.out, e5]; rfl)
              clear hqx
              go_wp2_with fail
              go_quiet (fail)
              go_wp2
              exact ⟨⟨j + 1, by omega, by go_num, by rw [HE.out], HBj.out.trans ((below_draw _ _).mono HBj.out.size)⟩, by simp [intOf]; omega⟩
            · have e5 : (q == x) = false := by simpa using hqx
              have HE : Hid (decide (x ∈ (nbrs p t).take (j + 1)) = false) := Lib.hid (by rw [HD.out, e5]; rfl)
              clear hqx
              go_wp2_with fail
              go_quiet (fail)
              go_wp2
              exact ⟨⟨j + 1, by omega, by go_num, by rw [HE.out], HBj.out.trans ((below_draw _ _).mono HBj.out.size)⟩, by simp [intOf]; omega⟩
          · have HE : Hid (decide (x ∈ (nbrs p t).take (j + 1)) = true) := Lib.hid (by rw [HD.out]; rfl)
            go_wp2_with fail
            go_quiet (fail)
            go_wp2
            exact ⟨⟨j + 1, by omega, by go_num, by rw [HE.out], HBj.out.trans ((below_draw _ _).mono HBj.out.size)⟩, by simp [intOf]; omega⟩
        · obtain rfl : j = m := by omega
          have hfull : decide (x ∈ (nbrs p t).take j) = true := by
            rw [List.take_of_length_le (by rw [← HM.out]; exact Nat.le_refl _)]
            exact decide_eq_true HMm.out
          rw [hfull]
          have HB6 := Lib.hid (HBz.out.trans (HBj.out.mono HBz.out.size))
          have HA6 := Lib.hid (HA5.out.below HBj.out)
          obtain ⟨g0, g1, g2, g3, g4, g5, g6⟩ := HPc.out wr HB6.out
          clear hrow hfull
          go_wp2_with fail
          with_reducible refine (HIx.out _ HB6.out).mono ?_
          rintro e w7 ⟨rfl, hb⟩
          obtain ⟨s9, hi9, hb9⟩ := HIf.out
          rw [hi9, hb9]
          clear hi9 hb9
          have HB7 := Lib.hid (HB6.out.trans (hb.mono HB6.out.size))
          have HA7 := Lib.hid (HA6.out.below hb)
          clear hb g0 g1 g2 g3 g4 g5 g6 q0 q1 q2 HA6 HB6
          obtain ⟨q0, q1, q2⟩ := HNc.out w7 HB7.out
          have HCo := Lib.hid (statuses_ok d w7 HA7.out HDt.out HDn.out)
          go_wp2_with fail
          with_reducible refine HCo.out.mono ?_
          rintro e w8 ⟨a8, rfl, _, hb⟩
          have HB8 := Lib.hid (HB7.out.trans (hb.mono HB7.out.size))
          have HA8 := Lib.hid (HA7.out.below hb)
          clear hb q0 q1 q2 HCo HA7 HB7
          obtain ⟨q0, q1, q2⟩ := HNc.out w8 HB8.out
          have HCo := Lib.hid (status_ok d w8 HA8.out HDt.out HDn.out)
          go_wp2_with fail
          with_reducible refine HCo.out.mono ?_
          rintro e w9 ⟨rfl, hb⟩
          have HB9 := Lib.hid (HB8.out.trans (hb.mono HB8.out.size))
          have HA9 := Lib.hid (HA8.out.below hb)
          clear hb q0 q1 q2 HCo HA8 HB8
          obtain ⟨q0, q1, q2⟩ := HNc.out w9 HB9.out
          have HCo := Lib.hid (hear_hi x d s w9 HA9.out HMm.out HWd.out HDt.out HDn.out HSs.out)
          unfold noteV at HCo
          go_wp2_with fail
          with_reducible refine HCo.out.mono ?_
          rintro e w10 ⟨rfl, hb⟩
          have HB10 := Lib.hid (HB9.out.trans (hb.mono HB9.out.size))
          have HA10 := Lib.hid (HA9.out.below hb)
          clear hb
          clear q0 q1 q2 HCo HA9 HB9
          obtain ⟨q0, q1, q2⟩ := HNc.out w10 HB10.out
          have HCo := Lib.hid (up_ok x w10 HA10.out HMm.out)
          go_wp2_with fail
          with_reducible refine HCo.out.mono ?_
          rintro e w11 ⟨rfl, hA, hx⟩
          have HB11 := Lib.hid (HB10.out.trans (hx.below HB10.out.size (fun k _ hk => HMu.out k hk)))
          have HA11 := Lib.hid hA
          clear hA hx
          clear q0 q1 q2 HCo HA10 HB10
          obtain ⟨q0, q1, q2⟩ := HNc.out w11 HB11.out
          go_wp2_with fail
          with_reducible refine (HLv.out _).mono ?_
          rintro e w12 ⟨rfl, hb⟩
          have HEnd := Lib.hid (HB.out.trans ((HB11.out.trans (hb.mono HB11.out.size)).mono HB.out.size))
          clear hb q0 q1 q2
          go_wp2
          go_ret
          exact ⟨rfl, HEnd.out⟩
end Go.Proofs.Ytppbcehcaeeocaa
/- TransfersErrors: err_m_self. -/
namespace Go.Proofs.Ytppbcehcaeeocaa
open Go.RowKit Go.Maps

set_option maxRecDepth 100000 in
set_option maxHeartbeats 8000000 in
theorem err_m_self (p : Pn) (a : Option Addr) (n c : Nat) (a' : Option Addr) (n' c' : Nat) (t x d s : Int) (w : World) (hP : PRow w a n c p.P) (hL : LRow w a' n' c' p.L) (hn1 : n ≤ 80) (hn2 : n' ≤ 40) (hwt : (Lit.int .u16 t).wf = true) (hwx : (Lit.int .u16 x).wf = true) (hwd : (Lit.int .u16 d).wf = true) (_hws : 0 ≤ s) (i : Nat) (hi : fnd p.P t = some i) (hv : ValidPl p) (hm : x ∈ nbrs p t) (hd : d ∈ codesP p.P) (hdt : d ≠ t) (hs : s ≤ 2) (he : d = x) :
    Calls Try.prog 5 #[planV a n c a' n' c' p, .int .u16 t, noteV x d s] w fun e w' => e = .returned (.bool true) ∧ Below w.heap.size w w' := by
  obtain ⟨W, hW⟩ : ∃ W, W = (w.alloc (.cells (planCells a n c a' n' c' p).toArray 33)).alloc (.cells #[.int .u16 x, .int .u16 d, .int .u8 s] 54) := ⟨_, rfl⟩
  obtain ⟨pb, hpb⟩ : ∃ pb, pb = w.heap.size := ⟨_, rfl⟩
  have hb0 : Below w.heap.size w W := by rw [hW]; exact (below_alloc w _).alloc (by simp) _
  have hA0 : PlanAt W pb a n c a' n' c' p := by rw [hW, hpb]; exact (PlanAt.new w _ _ _ _ _ _ p).later (below_alloc _ _)
  have hO0 : Own W (pb + 1) 54 [.int .u16 x, .int .u16 d, .int .u8 s] := by rw [hW, hpb]; have h := heap_alloc_new (w.alloc (.cells (planCells a n c a' n' c' p).toArray 33)) (.cells #[.int .u16 x, .int .u16 d, .int .u8 s] 54); rw [size_alloc1] at h; exact h
  have HB := Lib.hid hb0
  have HP := Lib.hid (fun (V : World) (hb : Below W.heap.size W V) => hP.later (hb0.trans (hb.mono hb0.size)))
  have HL := Lib.hid (fun (V : World) (hb : Below W.heap.size W V) => hL.later (hb0.trans (hb.mono hb0.size)))
  have HPc := Lib.hid (fun (V : World) (hb : Below W.heap.size W V) => (hA0.later hb).cells)
  have HNc := Lib.hid (fun (V : World) (hb : Below W.heap.size W V) => (show V.cell? ⟨pb + 1, 0, none⟩ = some (.int .u16 x) ∧ V.cell? ⟨pb + 1, 1, none⟩ = some (.int .u16 d) ∧ V.cell? ⟨pb + 1, 2, none⟩ = some (.int .u8 s) from ⟨(hO0.below hb hO0.lt).cell 0 (by simp), (hO0.below hb hO0.lt).cell 1 (by simp), (hO0.below hb hO0.lt).cell 2 (by simp)⟩))
  have HPr := Lib.hid hP
  have HWt := Lib.hid hwt
  have HWx := Lib.hid hwx
  have HWd := Lib.hid hwd
  obtain ⟨g0, g1, g2, g3, g4, g5, g6⟩ := hA0.cells
  have b80 : decide ((80 : Int) < (n : Int)) = false := decide_eq_false (by omega)
  have b40 : decide ((40 : Int) < (n' : Int)) = false := decide_eq_false (by omega)
  have HI := Lib.hid hi
  have HV := Lib.hid hv
  have HNe := Lib.hid (fun (V : World) (hb : Below W.heap.size W V) => neighbors_ok p a n c a' n' c' t V (HP.out V hb) (HL.out V hb) (one_ok hv hi) hv)
  have HNw := Lib.hid (fun (V : World) (hb : Below W.heap.size W V) => new_ok p a n c a' n' c' t V (HP.out V hb) (HL.out V hb) (one_ok hv hi) hv i hi hwt AnyGood (fun _ _ h => h) (fun u V hP hL hu hne => choices_good p a n c a' n' c' t u V hP hL i hi hu hne hv))
  have HIx := Lib.hid (fun (V : World) (hb : Below W.heap.size W V) => cindex_any p a n c a' n' c' d V (HP.out V hb))
  unfold planV at HNe HNw HIx
  have HMm := Lib.hid hm
  have HDt := Lib.hid hdt
  have HDn : Hid (d ∈ destsP p.P t) := Lib.hid (mem_dests.2 ⟨hd, hdt⟩)
  have HIf : Hid (∃ s, idN p.P d = s ∧ isB p.P d = true) := Lib.hid (by obtain ⟨s, hs⟩ := code_fnd hv hd; exact ⟨s, idN_some hs⟩)
  have hdt2 : (d == t) = false := by simpa using hdt
  have HSs := Lib.hid hs
  have HSe := Lib.hid he
  have hs2 : decide (2 < s) = false := decide_eq_false (by omega)
  have he2 : (d == x) = true := by simpa using he
  clear hs he
  clear hm hd hdt
  have HLv := Lib.hid (fun (V : World) => lives_any V)
  unfold planV noteV
  clear hb0 hA0 hO0 hP hL hwt hwx hwd hi hv
  go_enter Try.func5, Try.ntmps5
  go_upto_region 1 with (fail)
  show Code.wp _ _ _ _ ((w.alloc (.cells (planCells a n c a' n' c' p).toArray 33)).alloc (.cells #[.int .u16 x, .int .u16 d, .int .u8 s] 54))
  rw [← hW, ← hpb]
  clear hW hpb
  go_wp2_with fail
  with_reducible refine (HNe.out _ (Below.refl _ _)).mono ?_
  rintro e w1 ⟨aN, rfl, hr, hb⟩
  have HB1 := Lib.hid hb
  have HR1 := Lib.hid hr
  obtain ⟨m, hm⟩ : ∃ m, m = (nbrs p t).length := ⟨_, rfl⟩
  rw [← hm] at HR1 ⊢
  have HM := Lib.hid hm
  clear hb hr hm g0 g1 g2 g3 g4 g5 g6
  obtain ⟨g0, g1, g2, g3, g4, g5, g6⟩ := HPc.out w1 HB1.out
  go_wp2_with fail
  with_reducible refine (HNw.out _ HB1.out).mono ?_
  rintro e wq ⟨y, T, rfl, hA, hN, hTl, hb⟩
  have HBq := Lib.hid (HB1.out.trans (hb.mono HB1.out.size))
  have HRq := Lib.hid (HR1.out.later hb)
  obtain ⟨C, hC⟩ : ∃ C, C = T.C := ⟨_, rfl⟩
  have hA' := hA.nT hN
  rw [← hC] at hA'
  have HAq := Lib.hid hA'
  have HMu : Hid (∀ k, Mut y k → W.heap.size ≤ k) := Lib.hid (fun k hk => by
    have h0 := HB1.out.size
    rcases hk with e | e | e <;> subst e
    · exact Nat.le_trans h0 hTl.bu
    · exact Nat.le_trans h0 hTl.bt
    · exact Nat.le_trans h0 hTl.bs)
  clear hb hA hA' hN hTl hC g0 g1 g2 g3 g4 g5 g6
  obtain ⟨zb, hzb⟩ : ∃ zb, zb = wq.heap.size := ⟨_, rfl⟩
  obtain ⟨V0, hV0⟩ : ∃ V0, V0 = wq.alloc (.cells #[.int .u16 0, .bool false, .slice none 0 0, .slice none 0 0, .map none, .map none, .map none, .map none] 86) := ⟨_, rfl⟩
  have hbV : Below wq.heap.size wq V0 := by rw [hV0]; exact below_alloc _ _
  have hoV : Own V0 zb 86 [.int .u16 0, .bool false, .slice none 0 0, .slice none 0 0, .map none, .map none, .map none, .map none] := by rw [hV0, hzb]; exact heap_alloc_new wq _
  have hsV : V0.heap.size = zb + 1 := by rw [hV0, hzb, size_alloc1]
  obtain ⟨V1, hV1⟩ : ∃ V1, V1 = V0.alloc (.cells #[.pointer none, .pointer (some ⟨zb, 0, none⟩)] 35) := ⟨_, rfl⟩
  have hbV1 : Below V0.heap.size V0 V1 := by rw [hV1]; exact below_alloc _ _
  have hoL : Own V1 (zb + 1) 35 [.pointer none, .pointer (some ⟨zb, 0, none⟩)] := by rw [hV1, ← hsV]; exact heap_alloc_new V0 _
  have HBV := Lib.hid (HBq.out.trans ((hbV.trans (hbV1.mono hbV.size)).mono HBq.out.size))
  have HBV2 := Lib.hid (hbV.trans (hbV1.mono hbV.size))
  have HoL := Lib.hid hoL
  have HNul : Hid (Nul V1 (some ⟨zb, 0, none⟩)) := Lib.hid (.inr ⟨zb, rfl, ((hoV.below hbV1 hoV.lt).cell 4 (by simp))⟩)
  go_upto_region 10 with (fail)
  rw [← hzb, ← hV0, ← hV1]
  clear hV0 hV1 hzb hbV hbV1 hoL hoV hsV
  go_loopw [72] (fun kv wr => ∃ k : Nat, k ≤ 2 ∧ kv = .int .i64 k ∧ Below V1.heap.size V1 wr) (fun kv _ => 2 - (intOf kv).toNat)
  case atStart => exact ⟨0, by decide, rfl, Below.refl _ _⟩
  case round =>
    obtain ⟨k, hk, rfl, hb⟩ := hrel
    obtain ⟨w5, hw5⟩ : ∃ v, v = wr := ⟨_, rfl⟩
    subst hw5
    have HBk := Lib.hid hb
    clear hb
    by_cases hkm : k < 2
    · obtain ⟨ad, had, hnul⟩ : ∃ ad, w5.cell? ⟨zb + 1, k, none⟩ = some (.pointer ad) ∧ Nul V1 ad := by
        have ho := HoL.out.below HBk.out HoL.out.lt
        rcases (by omega : k = 0 ∨ k = 1) with e | e
        · subst e; exact ⟨none, ho.cell 0 (by simp), .inl rfl⟩
        · subst e; exact ⟨_, ho.cell 1 (by simp), HNul.out⟩
      have HN9 := Lib.hid (fun (V : World) (hb : Below V1.heap.size V1 V) => hnul.later hb)
      have HNx := Lib.hid (fun (V : World) (hb : Below V1.heap.size V1 V) => HNc.out V (HBV.out.trans (hb.mono HBV.out.size)))
      have k1 : (k : Int) < 2 := by omega
      have k2 : (0 : Int) ≤ (k : Int) := by omega
      obtain ⟨q0, q1, q2⟩ := HNx.out _ HBk.out
      have h1 := Lib.hid (statuses_nul ad d _ (HN9.out _ HBk.out))
      have h2 := Lib.hid (status_nul ad d _ (HN9.out _ HBk.out))
      have h3 := Lib.hid (greet_nul ad x _ (HN9.out _ HBk.out))
      have h4 := Lib.hid (answer_nul ad x d s _ (HN9.out _ HBk.out))
      unfold noteV noNote at h4
      clear hnul
      go_wp2_with fail
      with_reducible refine h1.out.mono ?_
      rintro e w' ⟨rfl, rfl⟩
      go_wp2_with fail
      with_reducible refine h2.out.mono ?_
      rintro e w' ⟨rfl, rfl⟩
      go_wp2_with fail
      with_reducible refine h3.out.mono ?_
      rintro e w' ⟨rfl, rfl⟩
      go_wp2_with fail
      with_reducible refine h4.out.mono ?_
      rintro e w6 ⟨rfl, hb⟩
      have HB6 := Lib.hid (HBk.out.trans (hb.mono HBk.out.size))
      obtain ⟨V6, hV6⟩ : ∃ V6, V6 = w6.alloc (.cells #[.int .u16 0, .int .u16 0, .int .u8 0] 54) := ⟨_, rfl⟩
      have HB7 : Hid (Below V1.heap.size V1 V6) := Lib.hid (by rw [hV6]; exact HB6.out.alloc HB6.out.size _)
      clear hb had q0 q1 q2 h1 h2 h3 h4
      obtain ⟨q0, q1, q2⟩ := HNx.out _ HB7.out
      have h5 := Lib.hid (up_nul ad x _ (HN9.out _ HB7.out))
      have h6 := Lib.hid (down_nul ad x _ (HN9.out _ HB7.out))
      have h7 := Lib.hid (hear_nul ad x d s _ (HN9.out _ HB7.out))
      unfold noteV at h7
      go_upto_region 16 with (fail)
      show Code.wp _ _ _ _ (w6.alloc (.cells #[.int .u16 0, .int .u16 0, .int .u8 0] 54))
      rw [← hV6]
      clear hV6
      go_wp2_with fail
      with_reducible refine h5.out.mono ?_
      rintro e w' ⟨rfl, rfl⟩
      go_wp2_with fail
      with_reducible refine h6.out.mono ?_
      rintro e w' ⟨rfl, rfl⟩
      go_wp2_with fail
      with_reducible refine h7.out.mono ?_
      rintro e w8 ⟨rfl, hb⟩
      have HB8 := Lib.hid (HB7.out.trans (hb.mono HB7.out.size))
      clear hb q0 q1 q2 h5 h6 h7
      have h8 := Lib.hid (tell_nul ad _ (HN9.out _ HB8.out))
      have h9 := Lib.hid (ask_nul ad _ (HN9.out _ HB8.out))
      go_wp2_with fail
      with_reducible refine h8.out.mono ?_
      rintro e w' ⟨rfl, rfl⟩
      go_wp2_with fail
      with_reducible refine h9.out.mono ?_
      rintro e w' ⟨rfl, rfl⟩
      go_wp2
      exact ⟨⟨k + 1, by omega, by go_num, HB8.out⟩, by simp [intOf]; omega⟩
    · obtain rfl : k = 2 := by omega
      have HBz := Lib.hid (HBV.out.trans (HBk.out.mono HBV.out.size))
      have HBw := Lib.hid (HBV2.out.trans (HBk.out.mono HBV2.out.size))
      clear HBk
      have HA5 := Lib.hid (HAq.out.below HBw.out)
      have HR5 := Lib.hid (HRq.out.later HBw.out)
      clear HAq HRq
      have hml : m ≤ 1024 := by rw [HM.out]; have h1 := nbrs_none p t; have h2 := HV.out.nl; omega
      go_wp2_with fail
      go_loopw [23, 24] (fun bv jv wr => ∃ j : Nat, j ≤ m ∧ jv = .int .i64 j ∧ bv = .bool (decide (x ∈ (nbrs p t).take j)) ∧ Below w5.heap.size w5 wr) (fun _ jv _ => m - (intOf jv).toNat)
      case atStart => exact ⟨0, Nat.zero_le _, rfl, by simp, Below.refl _ _⟩
      case round =>
        obtain ⟨j, hj, rfl, rfl, hb⟩ := hrel
        have HBj := Lib.hid hb
        have hrow := HR5.out.later hb
        obtain ⟨q0, q1, q2⟩ := HNc.out wr (HBz.out.trans (hb.mono HBz.out.size))
        clear hb
        by_cases hjm : j < m
        · have hjl : j < (nbrs p t).length := by rw [← HM.out]; exact hjm
          obtain ⟨b, off, rfl, hc⟩ := hrow.cells.resolve_left (by omega)
          have c0 := hc j hjm
          have hT := take_one hjl
          obtain ⟨q, hq⟩ : ∃ q, q = (nbrs p t).getD j 0 := ⟨_, rfl⟩
          rw [← hq] at c0 hT
          have j1 : (j : Int) < (m : Int) := by omega
          have j2 : (0 : Int) ≤ (j : Int) := by omega
          have HD : Hid (decide (x ∈ (nbrs p t).take (j + 1)) = (decide (x ∈ (nbrs p t).take j) || (q == x))) := Lib.hid (by
            rw [hT]
            by_cases h1 : x ∈ (nbrs p t).take j
            · simp [h1]
            · by_cases h2 : x = q
              · simp [h2]
              · simp [h1, h2, Ne.symm h2])
          obtain ⟨bb, hbb⟩ : ∃ bb, bb = decide (x ∈ (nbrs p t).take j) := ⟨_, rfl⟩
          rw [← hbb] at HD ⊢
          clear hq hc hT hrow hbb
          cases bb
          · by_cases hqx : q = x
            · have e5 : (q == x) = true := by simpa using hqx
              have HE : Hid (decide (x ∈ (nbrs p t).take (j + 1)) = true) := Lib.hid (by rw [HD.out, e5]; rfl)
              clear hqx
              go_wp2_with fail
              go_quiet (fail)
              go_wp2
              exact ⟨⟨j + 1, by omega, by go_num, by rw [HE.out], HBj.out.trans ((below_draw _ _).mono HBj.out.size)⟩, by simp [intOf]; omega⟩
            · have e5 : (q == x) = false := by simpa using hqx
              have HE : Hid (decide (x ∈ (nbrs p t).take (j + 1)) = false) := Lib.hid (by rw [HD.out, e5]; rfl)
              clear hqx
              go_wp2_with fail
              go_quiet (fail)
              go_wp2
              exact ⟨⟨j + 1, by omega, by go_num, by rw [HE.out], HBj.out.trans ((below_draw _ _).mono HBj.out.size)⟩, by simp [intOf]; omega⟩
          · have HE : Hid (decide (x ∈ (nbrs p t).take (j + 1)) = true) := Lib.hid (by rw [HD.out]; rfl)
            go_wp2_with fail
            go_quiet (fail)
            go_wp2
            exact ⟨⟨j + 1, by omega, by go_num, by rw [HE.out], HBj.out.trans ((below_draw _ _).mono HBj.out.size)⟩, by simp [intOf]; omega⟩
        · obtain rfl : j = m := by omega
          have hfull : decide (x ∈ (nbrs p t).take j) = true := by
            rw [List.take_of_length_le (by rw [← HM.out]; exact Nat.le_refl _)]
            exact decide_eq_true HMm.out
          rw [hfull]
          have HB6 := Lib.hid (HBz.out.trans (HBj.out.mono HBz.out.size))
          have HA6 := Lib.hid (HA5.out.below HBj.out)
          obtain ⟨g0, g1, g2, g3, g4, g5, g6⟩ := HPc.out wr HB6.out
          clear hrow hfull
          go_wp2_with fail
          with_reducible refine (HIx.out _ HB6.out).mono ?_
          rintro e w7 ⟨rfl, hb⟩
          obtain ⟨s9, hi9, hb9⟩ := HIf.out
          rw [hi9, hb9]
          clear hi9 hb9
          have HB7 := Lib.hid (HB6.out.trans (hb.mono HB6.out.size))
          have HA7 := Lib.hid (HA6.out.below hb)
          clear hb g0 g1 g2 g3 g4 g5 g6 q0 q1 q2 HA6 HB6
          obtain ⟨q0, q1, q2⟩ := HNc.out w7 HB7.out
          have HCo := Lib.hid (statuses_ok d w7 HA7.out HDt.out HDn.out)
          go_wp2_with fail
          with_reducible refine HCo.out.mono ?_
          rintro e w8 ⟨a8, rfl, _, hb⟩
          have HB8 := Lib.hid (HB7.out.trans (hb.mono HB7.out.size))
          have HA8 := Lib.hid (HA7.out.below hb)
          clear hb q0 q1 q2 HCo HA7 HB7
          obtain ⟨q0, q1, q2⟩ := HNc.out w8 HB8.out
          have HCo := Lib.hid (status_ok d w8 HA8.out HDt.out HDn.out)
          go_wp2_with fail
          with_reducible refine HCo.out.mono ?_
          rintro e w9 ⟨rfl, hb⟩
          have HB9 := Lib.hid (HB8.out.trans (hb.mono HB8.out.size))
          have HA9 := Lib.hid (HA8.out.below hb)
          clear hb q0 q1 q2 HCo HA8 HB8
          obtain ⟨q0, q1, q2⟩ := HNc.out w9 HB9.out
          have HCo := Lib.hid (hear_self x d s w9 HA9.out HMm.out HWd.out HDt.out HDn.out HSs.out HSe.out)
          unfold noteV at HCo
          go_wp2_with fail
          with_reducible refine HCo.out.mono ?_
          rintro e w10 ⟨rfl, hb⟩
          have HB10 := Lib.hid (HB9.out.trans (hb.mono HB9.out.size))
          have HA10 := Lib.hid (HA9.out.below hb)
          clear hb
          clear q0 q1 q2 HCo HA9 HB9
          obtain ⟨q0, q1, q2⟩ := HNc.out w10 HB10.out
          have HCo := Lib.hid (up_ok x w10 HA10.out HMm.out)
          go_wp2_with fail
          with_reducible refine HCo.out.mono ?_
          rintro e w11 ⟨rfl, hA, hx⟩
          have HB11 := Lib.hid (HB10.out.trans (hx.below HB10.out.size (fun k _ hk => HMu.out k hk)))
          have HA11 := Lib.hid hA
          clear hA hx
          clear q0 q1 q2 HCo HA10 HB10
          obtain ⟨q0, q1, q2⟩ := HNc.out w11 HB11.out
          go_wp2_with fail
          with_reducible refine (HLv.out _).mono ?_
          rintro e w12 ⟨rfl, hb⟩
          have HEnd := Lib.hid (HB.out.trans ((HB11.out.trans (hb.mono HB11.out.size)).mono HB.out.size))
          clear hb q0 q1 q2
          go_wp2
          go_ret
          exact ⟨rfl, HEnd.out⟩
end Go.Proofs.Ytppbcehcaeeocaa
/- TransfersErrors: err_m_ok. -/
namespace Go.Proofs.Ytppbcehcaeeocaa
open Go.RowKit Go.Maps

set_option maxRecDepth 100000 in
set_option maxHeartbeats 8000000 in
theorem err_m_ok (p : Pn) (a : Option Addr) (n c : Nat) (a' : Option Addr) (n' c' : Nat) (t x d s : Int) (w : World) (hP : PRow w a n c p.P) (hL : LRow w a' n' c' p.L) (hn1 : n ≤ 80) (hn2 : n' ≤ 40) (hwt : (Lit.int .u16 t).wf = true) (hwx : (Lit.int .u16 x).wf = true) (hwd : (Lit.int .u16 d).wf = true) (_hws : 0 ≤ s) (i : Nat) (hi : fnd p.P t = some i) (hv : ValidPl p) (hm : x ∈ nbrs p t) (hd : d ∈ codesP p.P) (hdt : d ≠ t) (hs : s ≤ 2) (he : d ≠ x) :
    Calls Try.prog 5 #[planV a n c a' n' c' p, .int .u16 t, noteV x d s] w fun e w' => e = .returned (.bool true) ∧ Below w.heap.size w w' := by
  obtain ⟨W, hW⟩ : ∃ W, W = (w.alloc (.cells (planCells a n c a' n' c' p).toArray 33)).alloc (.cells #[.int .u16 x, .int .u16 d, .int .u8 s] 54) := ⟨_, rfl⟩
  obtain ⟨pb, hpb⟩ : ∃ pb, pb = w.heap.size := ⟨_, rfl⟩
  have hb0 : Below w.heap.size w W := by rw [hW]; exact (below_alloc w _).alloc (by simp) _
  have hA0 : PlanAt W pb a n c a' n' c' p := by rw [hW, hpb]; exact (PlanAt.new w _ _ _ _ _ _ p).later (below_alloc _ _)
  have hO0 : Own W (pb + 1) 54 [.int .u16 x, .int .u16 d, .int .u8 s] := by rw [hW, hpb]; have h := heap_alloc_new (w.alloc (.cells (planCells a n c a' n' c' p).toArray 33)) (.cells #[.int .u16 x, .int .u16 d, .int .u8 s] 54); rw [size_alloc1] at h; exact h
  have HB := Lib.hid hb0
  have HP := Lib.hid (fun (V : World) (hb : Below W.heap.size W V) => hP.later (hb0.trans (hb.mono hb0.size)))
  have HL := Lib.hid (fun (V : World) (hb : Below W.heap.size W V) => hL.later (hb0.trans (hb.mono hb0.size)))
  have HPc := Lib.hid (fun (V : World) (hb : Below W.heap.size W V) => (hA0.later hb).cells)
  have HNc := Lib.hid (fun (V : World) (hb : Below W.heap.size W V) => (show V.cell? ⟨pb + 1, 0, none⟩ = some (.int .u16 x) ∧ V.cell? ⟨pb + 1, 1, none⟩ = some (.int .u16 d) ∧ V.cell? ⟨pb + 1, 2, none⟩ = some (.int .u8 s) from ⟨(hO0.below hb hO0.lt).cell 0 (by simp), (hO0.below hb hO0.lt).cell 1 (by simp), (hO0.below hb hO0.lt).cell 2 (by simp)⟩))
  have HPr := Lib.hid hP
  have HWt := Lib.hid hwt
  have HWx := Lib.hid hwx
  have HWd := Lib.hid hwd
  obtain ⟨g0, g1, g2, g3, g4, g5, g6⟩ := hA0.cells
  have b80 : decide ((80 : Int) < (n : Int)) = false := decide_eq_false (by omega)
  have b40 : decide ((40 : Int) < (n' : Int)) = false := decide_eq_false (by omega)
  have HI := Lib.hid hi
  have HV := Lib.hid hv
  have HNe := Lib.hid (fun (V : World) (hb : Below W.heap.size W V) => neighbors_ok p a n c a' n' c' t V (HP.out V hb) (HL.out V hb) (one_ok hv hi) hv)
  have HNw := Lib.hid (fun (V : World) (hb : Below W.heap.size W V) => new_ok p a n c a' n' c' t V (HP.out V hb) (HL.out V hb) (one_ok hv hi) hv i hi hwt AnyGood (fun _ _ h => h) (fun u V hP hL hu hne => choices_good p a n c a' n' c' t u V hP hL i hi hu hne hv))
  have HIx := Lib.hid (fun (V : World) (hb : Below W.heap.size W V) => cindex_any p a n c a' n' c' d V (HP.out V hb))
  unfold planV at HNe HNw HIx
  have HMm := Lib.hid hm
  have HDt := Lib.hid hdt
  have HDn : Hid (d ∈ destsP p.P t) := Lib.hid (mem_dests.2 ⟨hd, hdt⟩)
  have HIf : Hid (∃ s, idN p.P d = s ∧ isB p.P d = true) := Lib.hid (by obtain ⟨s, hs⟩ := code_fnd hv hd; exact ⟨s, idN_some hs⟩)
  have hdt2 : (d == t) = false := by simpa using hdt
  have HS0 := Lib.hid _hws
  have HSs := Lib.hid hs
  have HSe := Lib.hid he
  have hs2 : decide (2 < s) = false := decide_eq_false (by omega)
  have he2 : (d == x) = false := by simpa using he
  clear hs he
  clear hm hd hdt
  have HLv := Lib.hid (fun (V : World) => lives_any V)
  unfold planV noteV
  clear hb0 hA0 hO0 hP hL hwt hwx hwd hi hv
  go_enter Try.func5, Try.ntmps5
  go_upto_region 1 with (fail)
  show Code.wp _ _ _ _ ((w.alloc (.cells (planCells a n c a' n' c' p).toArray 33)).alloc (.cells #[.int .u16 x, .int .u16 d, .int .u8 s] 54))
  rw [← hW, ← hpb]
  clear hW hpb
  go_wp2_with fail
  with_reducible refine (HNe.out _ (Below.refl _ _)).mono ?_
  rintro e w1 ⟨aN, rfl, hr, hb⟩
  have HB1 := Lib.hid hb
  have HR1 := Lib.hid hr
  obtain ⟨m, hm⟩ : ∃ m, m = (nbrs p t).length := ⟨_, rfl⟩
  rw [← hm] at HR1 ⊢
  have HM := Lib.hid hm
  clear hb hr hm g0 g1 g2 g3 g4 g5 g6
  obtain ⟨g0, g1, g2, g3, g4, g5, g6⟩ := HPc.out w1 HB1.out
  go_wp2_with fail
  with_reducible refine (HNw.out _ HB1.out).mono ?_
  rintro e wq ⟨y, T, rfl, hA, hN, hTl, hb⟩
  have HBq := Lib.hid (HB1.out.trans (hb.mono HB1.out.size))
  have HRq := Lib.hid (HR1.out.later hb)
  obtain ⟨C, hC⟩ : ∃ C, C = T.C := ⟨_, rfl⟩
  have hA' := hA.nT hN
  rw [← hC] at hA'
  have HAq := Lib.hid hA'
  have HMu : Hid (∀ k, Mut y k → W.heap.size ≤ k) := Lib.hid (fun k hk => by
    have h0 := HB1.out.size
    rcases hk with e | e | e <;> subst e
    · exact Nat.le_trans h0 hTl.bu
    · exact Nat.le_trans h0 hTl.bt
    · exact Nat.le_trans h0 hTl.bs)
  clear hb hA hA' hN hTl hC g0 g1 g2 g3 g4 g5 g6
  obtain ⟨zb, hzb⟩ : ∃ zb, zb = wq.heap.size := ⟨_, rfl⟩
  obtain ⟨V0, hV0⟩ : ∃ V0, V0 = wq.alloc (.cells #[.int .u16 0, .bool false, .slice none 0 0, .slice none 0 0, .map none, .map none, .map none, .map none] 86) := ⟨_, rfl⟩
  have hbV : Below wq.heap.size wq V0 := by rw [hV0]; exact below_alloc _ _
  have hoV : Own V0 zb 86 [.int .u16 0, .bool false, .slice none 0 0, .slice none 0 0, .map none, .map none, .map none, .map none] := by rw [hV0, hzb]; exact heap_alloc_new wq _
  have hsV : V0.heap.size = zb + 1 := by rw [hV0, hzb, size_alloc1]
  obtain ⟨V1, hV1⟩ : ∃ V1, V1 = V0.alloc (.cells #[.pointer none, .pointer (some ⟨zb, 0, none⟩)] 35) := ⟨_, rfl⟩
  have hbV1 : Below V0.heap.size V0 V1 := by rw [hV1]; exact below_alloc _ _
  have hoL : Own V1 (zb + 1) 35 [.pointer none, .pointer (some ⟨zb, 0, none⟩)] := by rw [hV1, ← hsV]; exact heap_alloc_new V0 _
  have HBV := Lib.hid (HBq.out.trans ((hbV.trans (hbV1.mono hbV.size)).mono HBq.out.size))
  have HBV2 := Lib.hid (hbV.trans (hbV1.mono hbV.size))
  have HoL := Lib.hid hoL
  have HNul : Hid (Nul V1 (some ⟨zb, 0, none⟩)) := Lib.hid (.inr ⟨zb, rfl, ((hoV.below hbV1 hoV.lt).cell 4 (by simp))⟩)
  go_upto_region 10 with (fail)
  rw [← hzb, ← hV0, ← hV1]
  clear hV0 hV1 hzb hbV hbV1 hoL hoV hsV
  go_loopw [72] (fun kv wr => ∃ k : Nat, k ≤ 2 ∧ kv = .int .i64 k ∧ Below V1.heap.size V1 wr) (fun kv _ => 2 - (intOf kv).toNat)
  case atStart => exact ⟨0, by decide, rfl, Below.refl _ _⟩
  case round =>
    obtain ⟨k, hk, rfl, hb⟩ := hrel
    obtain ⟨w5, hw5⟩ : ∃ v, v = wr := ⟨_, rfl⟩
    subst hw5
    have HBk := Lib.hid hb
    clear hb
    by_cases hkm : k < 2
    · obtain ⟨ad, had, hnul⟩ : ∃ ad, w5.cell? ⟨zb + 1, k, none⟩ = some (.pointer ad) ∧ Nul V1 ad := by
        have ho := HoL.out.below HBk.out HoL.out.lt
        rcases (by omega : k = 0 ∨ k = 1) with e | e
        · subst e; exact ⟨none, ho.cell 0 (by simp), .inl rfl⟩
        · subst e; exact ⟨_, ho.cell 1 (by simp), HNul.out⟩
      have HN9 := Lib.hid (fun (V : World) (hb : Below V1.heap.size V1 V) => hnul.later hb)
      have HNx := Lib.hid (fun (V : World) (hb : Below V1.heap.size V1 V) => HNc.out V (HBV.out.trans (hb.mono HBV.out.size)))
      have k1 : (k : Int) < 2 := by omega
      have k2 : (0 : Int) ≤ (k : Int) := by omega
      obtain ⟨q0, q1, q2⟩ := HNx.out _ HBk.out
      have h1 := Lib.hid (statuses_nul ad d _ (HN9.out _ HBk.out))
      have h2 := Lib.hid (status_nul ad d _ (HN9.out _ HBk.out))
      have h3 := Lib.hid (greet_nul ad x _ (HN9.out _ HBk.out))
      have h4 := Lib.hid (answer_nul ad x d s _ (HN9.out _ HBk.out))
      unfold noteV noNote at h4
      clear hnul
      go_wp2_with fail
      with_reducible refine h1.out.mono ?_
      rintro e w' ⟨rfl, rfl⟩
      go_wp2_with fail
      with_reducible refine h2.out.mono ?_
      rintro e w' ⟨rfl, rfl⟩
      go_wp2_with fail
      with_reducible refine h3.out.mono ?_
      rintro e w' ⟨rfl, rfl⟩
      go_wp2_with fail
      with_reducible refine h4.out.mono ?_
      rintro e w6 ⟨rfl, hb⟩
      have HB6 := Lib.hid (HBk.out.trans (hb.mono HBk.out.size))
      obtain ⟨V6, hV6⟩ : ∃ V6, V6 = w6.alloc (.cells #[.int .u16 0, .int .u16 0, .int .u8 0] 54) := ⟨_, rfl⟩
      have HB7 : Hid (Below V1.heap.size V1 V6) := Lib.hid (by rw [hV6]; exact HB6.out.alloc HB6.out.size _)
      clear hb had q0 q1 q2 h1 h2 h3 h4
      obtain ⟨q0, q1, q2⟩ := HNx.out _ HB7.out
      have h5 := Lib.hid (up_nul ad x _ (HN9.out _ HB7.out))
      have h6 := Lib.hid (down_nul ad x _ (HN9.out _ HB7.out))
      have h7 := Lib.hid (hear_nul ad x d s _ (HN9.out _ HB7.out))
      unfold noteV at h7
      go_upto_region 16 with (fail)
      show Code.wp _ _ _ _ (w6.alloc (.cells #[.int .u16 0, .int .u16 0, .int .u8 0] 54))
      rw [← hV6]
      clear hV6
      go_wp2_with fail
      with_reducible refine h5.out.mono ?_
      rintro e w' ⟨rfl, rfl⟩
      go_wp2_with fail
      with_reducible refine h6.out.mono ?_
      rintro e w' ⟨rfl, rfl⟩
      go_wp2_with fail
      with_reducible refine h7.out.mono ?_
      rintro e w8 ⟨rfl, hb⟩
      have HB8 := Lib.hid (HB7.out.trans (hb.mono HB7.out.size))
      clear hb q0 q1 q2 h5 h6 h7
      have h8 := Lib.hid (tell_nul ad _ (HN9.out _ HB8.out))
      have h9 := Lib.hid (ask_nul ad _ (HN9.out _ HB8.out))
      go_wp2_with fail
      with_reducible refine h8.out.mono ?_
      rintro e w' ⟨rfl, rfl⟩
      go_wp2_with fail
      with_reducible refine h9.out.mono ?_
      rintro e w' ⟨rfl, rfl⟩
      go_wp2
      exact ⟨⟨k + 1, by omega, by go_num, HB8.out⟩, by simp [intOf]; omega⟩
    · obtain rfl : k = 2 := by omega
      have HBz := Lib.hid (HBV.out.trans (HBk.out.mono HBV.out.size))
      have HBw := Lib.hid (HBV2.out.trans (HBk.out.mono HBV2.out.size))
      clear HBk
      have HA5 := Lib.hid (HAq.out.below HBw.out)
      have HR5 := Lib.hid (HRq.out.later HBw.out)
      clear HAq HRq
      have hml : m ≤ 1024 := by rw [HM.out]; have h1 := nbrs_none p t; have h2 := HV.out.nl; omega
      go_wp2_with fail
      go_loopw [23, 24] (fun bv jv wr => ∃ j : Nat, j ≤ m ∧ jv = .int .i64 j ∧ bv = .bool (decide (x ∈ (nbrs p t).take j)) ∧ Below w5.heap.size w5 wr) (fun _ jv _ => m - (intOf jv).toNat)
      case atStart => exact ⟨0, Nat.zero_le _, rfl, by simp, Below.refl _ _⟩
      case round =>
        obtain ⟨j, hj, rfl, rfl, hb⟩ := hrel
        have HBj := Lib.hid hb
        have hrow := HR5.out.later hb
        obtain ⟨q0, q1, q2⟩ := HNc.out wr (HBz.out.trans (hb.mono HBz.out.size))
        clear hb
        by_cases hjm : j < m
        · have hjl : j < (nbrs p t).length := by rw [← HM.out]; exact hjm
          obtain ⟨b, off, rfl, hc⟩ := hrow.cells.resolve_left (by omega)
          have c0 := hc j hjm
          have hT := take_one hjl
          obtain ⟨q, hq⟩ : ∃ q, q = (nbrs p t).getD j 0 := ⟨_, rfl⟩
          rw [← hq] at c0 hT
          have j1 : (j : Int) < (m : Int) := by omega
          have j2 : (0 : Int) ≤ (j : Int) := by omega
          have HD : Hid (decide (x ∈ (nbrs p t).take (j + 1)) = (decide (x ∈ (nbrs p t).take j) || (q == x))) := Lib.hid (by
            rw [hT]
            by_cases h1 : x ∈ (nbrs p t).take j
            · simp [h1]
            · by_cases h2 : x = q
              · simp [h2]
              · simp [h1, h2, Ne.symm h2])
          obtain ⟨bb, hbb⟩ : ∃ bb, bb = decide (x ∈ (nbrs p t).take j) := ⟨_, rfl⟩
          rw [← hbb] at HD ⊢
          clear hq hc hT hrow hbb
          cases bb
          · by_cases hqx : q = x
            · have e5 : (q == x) = true := by simpa using hqx
              have HE : Hid (decide (x ∈ (nbrs p t).take (j + 1)) = true) := Lib.hid (by rw [HD.out, e5]; rfl)
              clear hqx
              go_wp2_with fail
              go_quiet (fail)
              go_wp2
              exact ⟨⟨j + 1, by omega, by go_num, by rw [HE.out], HBj.out.trans ((below_draw _ _).mono HBj.out.size)⟩, by simp [intOf]; omega⟩
            · have e5 : (q == x) = false := by simpa using hqx
              have HE : Hid (decide (x ∈ (nbrs p t).take (j + 1)) = false) := Lib.hid (by rw [HD.out, e5]; rfl)
              clear hqx
              go_wp2_with fail
              go_quiet (fail)
              go_wp2
              exact ⟨⟨j + 1, by omega, by go_num, by rw [HE.out], HBj.out.trans ((below_draw _ _).mono HBj.out.size)⟩, by simp [intOf]; omega⟩
          · have HE : Hid (decide (x ∈ (nbrs p t).take (j + 1)) = true) := Lib.hid (by rw [HD.out]; rfl)
            go_wp2_with fail
            go_quiet (fail)
            go_wp2
            exact ⟨⟨j + 1, by omega, by go_num, by rw [HE.out], HBj.out.trans ((below_draw _ _).mono HBj.out.size)⟩, by simp [intOf]; omega⟩
        · obtain rfl : j = m := by omega
          have hfull : decide (x ∈ (nbrs p t).take j) = true := by
            rw [List.take_of_length_le (by rw [← HM.out]; exact Nat.le_refl _)]
            exact decide_eq_true HMm.out
          rw [hfull]
          have HB6 := Lib.hid (HBz.out.trans (HBj.out.mono HBz.out.size))
          have HA6 := Lib.hid (HA5.out.below HBj.out)
          obtain ⟨g0, g1, g2, g3, g4, g5, g6⟩ := HPc.out wr HB6.out
          clear hrow hfull
          go_wp2_with fail
          with_reducible refine (HIx.out _ HB6.out).mono ?_
          rintro e w7 ⟨rfl, hb⟩
          obtain ⟨s9, hi9, hb9⟩ := HIf.out
          rw [hi9, hb9]
          clear hi9 hb9
          have HB7 := Lib.hid (HB6.out.trans (hb.mono HB6.out.size))
          have HA7 := Lib.hid (HA6.out.below hb)
          clear hb g0 g1 g2 g3 g4 g5 g6 q0 q1 q2 HA6 HB6
          obtain ⟨q0, q1, q2⟩ := HNc.out w7 HB7.out
          have HCo := Lib.hid (statuses_ok d w7 HA7.out HDt.out HDn.out)
          go_wp2_with fail
          with_reducible refine HCo.out.mono ?_
          rintro e w8 ⟨a8, rfl, _, hb⟩
          have HB8 := Lib.hid (HB7.out.trans (hb.mono HB7.out.size))
          have HA8 := Lib.hid (HA7.out.below hb)
          clear hb q0 q1 q2 HCo HA7 HB7
          obtain ⟨q0, q1, q2⟩ := HNc.out w8 HB8.out
          have HCo := Lib.hid (status_ok d w8 HA8.out HDt.out HDn.out)
          go_wp2_with fail
          with_reducible refine HCo.out.mono ?_
          rintro e w9 ⟨rfl, hb⟩
          have HB9 := Lib.hid (HB8.out.trans (hb.mono HB8.out.size))
          have HA9 := Lib.hid (HA8.out.below hb)
          clear hb q0 q1 q2 HCo HA8 HB8
          obtain ⟨q0, q1, q2⟩ := HNc.out w9 HB9.out
          have HCo := Lib.hid (hear_ok x d s w9 HA9.out HMm.out HWd.out HDt.out HDn.out HS0.out HSs.out HSe.out)
          unfold noteV at HCo
          go_wp2_with fail
          with_reducible refine HCo.out.mono ?_
          rintro e w10 ⟨rfl, hA, hx⟩
          have HB10 := Lib.hid (HB9.out.trans (hx.below HB9.out.size (fun k _ hk => HMu.out k hk)))
          have HA10 := Lib.hid hA
          clear hA hx
          clear q0 q1 q2 HCo HA9 HB9
          obtain ⟨q0, q1, q2⟩ := HNc.out w10 HB10.out
          have HCo := Lib.hid (up_ok x w10 HA10.out HMm.out)
          go_wp2_with fail
          with_reducible refine HCo.out.mono ?_
          rintro e w11 ⟨rfl, hA, hx⟩
          have HB11 := Lib.hid (HB10.out.trans (hx.below HB10.out.size (fun k _ hk => HMu.out k hk)))
          have HA11 := Lib.hid hA
          clear hA hx
          clear q0 q1 q2 HCo HA10 HB10
          obtain ⟨q0, q1, q2⟩ := HNc.out w11 HB11.out
          go_wp2_with fail
          with_reducible refine (HLv.out _).mono ?_
          rintro e w12 ⟨rfl, hb⟩
          have HEnd := Lib.hid (HB.out.trans ((HB11.out.trans (hb.mono HB11.out.size)).mono HB.out.size))
          clear hb q0 q1 q2
          go_wp2
          go_ret
          exact ⟨rfl, HEnd.out⟩
end Go.Proofs.Ytppbcehcaeeocaa
