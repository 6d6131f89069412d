import Derived.Test.YtdjmopipmeonlaaTpInv
import Derived.Deep.RegionHeld3
import Derived.BigRegion
/- The model's do: Ask. -/
namespace Go.Proofs.Ytdjmopipmeonlaa
set_option linter.unusedVariables false
open Go.RowKit Go.Maps

set_option maxRecDepth 100000 in
set_option maxHeartbeats 8000000 in
theorem do_ask {x : Nn} {p : Pn} {n m at' : Nat} {T : Tb} (hp : PF x p n m) (hI : Inv p at' T) (hat : at' < n) (mb : Nat) (a : Option Addr) (c : Nat) (a' : Option Addr) (c' : Nat) (hap : Apart mb a a') (x0 x1 x2 x3 : Nat) (hx0 : x0 ≤ 255) (hx1 : x1 ≤ 255) (hx2 : x2 ≤ 255) (hx3 : x3 ≤ 255) (w : World) (h : MW w mb a n c a' m c' p at' T) (hwh : x0 % 7 = 5) :
    Calls Try.prog 10 #[.pointer (some ⟨mb, 0, none⟩), actV x0 x1 x2 x3] w (DoOut mb a n c a' m c' p at' T (T.askL T.N) 0 w) := by
  have hlen := hp.len
  have hn2 := hp.n2
  have hn6 := hp.n6
  obtain ⟨kn, hkn⟩ : ∃ k, k = x1 % n := ⟨_, rfl⟩
  obtain ⟨kd, hkd⟩ : ∃ k, k = x2 % n := ⟨_, rfl⟩
  obtain ⟨s, hs⟩ : ∃ k, k = x3 % 4 := ⟨_, rfl⟩
  have r1 : (x1 : Int).tmod (n : Int) = (kn : Int) := by rw [rem_nat, hkn]
  have r2 : (x2 : Int).tmod (n : Int) = (kd : Int) := by rw [rem_nat, hkd]
  have r3 : (x3 : Int).tmod 4 = (s : Int) := by rw [show (4 : Int) = ((4 : Nat) : Int) from rfl, rem_nat, hs]
  have r7 : (x0 : Int).tmod 7 = 5 := by rw [show (7 : Int) = ((7 : Nat) : Int) from rfl, rem_nat, hwh]; rfl
  have hnn : kn < n := by rw [hkn]; exact Nat.mod_lt _ (by omega)
  have hdn : kd < n := by rw [hkd]; exact Nat.mod_lt _ (by omega)
  have hs4 : s < 4 := by rw [hs]; exact Nat.mod_lt _ (by omega)
  have t1 : IntKind.i64.wrap (x1 : Int) = (x1 : Int) := IntWalk.i64_in _ (by omega)
  have t2 : IntKind.i64.wrap (x2 : Int) = (x2 : Int) := IntWalk.i64_in _ (by omega)
  have t4 : IntKind.i64.wrap (kn : Int) = (kn : Int) := IntWalk.i64_in _ (by omega)
  have t5 : IntKind.i64.wrap (kd : Int) = (kd : Int) := IntWalk.i64_in _ (by omega)
  have t6 : IntKind.u8.wrap (s : Int) = (s : Int) := IntWalk.u8_in _ (by omega)
  have q1 : ¬ (n : Int) = 0 := by omega
  have q2 : ((n : Int) == 0) = false := by simpa using q1
  have q3 : ¬ n = 0 := by omega
  have q4 : (n == 0) = false := by simpa using q3
  have i0 : (0 : Int) ≤ (at' : Int) := by omega
  have i1 : (at' : Int) < (n : Int) := by omega
  have n0 : (0 : Int) ≤ (kn : Int) := by omega
  have n1 : (kn : Int) < (n : Int) := by omega
  have n6 : (kn : Int) < 6 := by omega
  have d0 : (0 : Int) ≤ (kd : Int) := by omega
  have d1 : (kd : Int) < (n : Int) := by omega
  have d6 : (kd : Int) < 6 := by omega
  have HNo := Lib.hid (fun (i : Nat) (hi : i < n) (j : Nat) (hj : j < n) (s : Int) (V : World) (hV : MW V mb a n c a' m c' p at' T) => mnote_any hp mb a c a' c' i j hi hj s V hV)
  have HAll : Hid (nbK p.P T.N n = T.N) := Lib.hid (by rw [hI.N]; exact nbK_all hp _)
  have HDa : Hid (destsK p.P (pc p.P at') n = T.D) := Lib.hid (by rw [destsK_all hlen, hI.D])
  have HSn := Lib.hid (fun k (hk : k < n) => nbK_snoc p.P T.N (k := k) (by omega))
  have HSd := Lib.hid (fun k (hk : k < n) => dests_snoc p.P (pc p.P at') (k := k) (by omega))
  have HIn := Lib.hid (fun k (hk : k < n) j (hj : j < n) => pc_inj hp (i := k) (j := j) (by omega) (by omega))
  have HDl := Lib.hid (hI.destsLe hp)
  have HTs := Lib.hid hI.toldSelf
  have HMb := Lib.hid (Own.lt h.md)
  obtain ⟨W, hW⟩ : ∃ W, W = w.alloc (.cells #[.int .u8 (x0 : Nat), .int .u8 (x1 : Nat), .int .u8 (x2 : Nat), .int .u8 (x3 : Nat)] 49) := ⟨_, rfl⟩
  obtain ⟨xb, hxb⟩ : ∃ xb, xb = w.heap.size := ⟨_, rfl⟩
  have hbW : Below w.heap.size w W := by rw [hW]; exact below_alloc w _
  have ho : Own W xb 49 [.int .u8 (x0 : Nat), .int .u8 (x1 : Nat), .int .u8 (x2 : Nat), .int .u8 (x3 : Nat)] := by rw [hW, hxb]; exact heap_alloc_new w _
  have hM := h.below hbW
  obtain ⟨b, off, rfl, hc⟩ := hM.row.cells.resolve_left (by omega)
  have c7 := (hc at' hat).2
  obtain ⟨g0, g1, g2, g3, g4, g5, g6⟩ := hM.md.plan
  have g7 := hM.md.cAt
  have gn := hM.md.cNear (i := kn) (by omega)
  have gu := hM.md.cUp (i := kn) (by omega)
  rw [mdOf_near (by omega)] at gn
  rw [mdOf_up (by omega)] at gu
  have hcn := hM.row.le
  have x0c := ho.cell 0 (by simp)
  have x1c := ho.cell 1 (by simp)
  have x2c := ho.cell 2 (by simp)
  have x3c := ho.cell 3 (by simp)
  simp only [List.getD_cons_zero, List.getD_cons_succ] at x0c x1c x2c x3c
  obtain ⟨tr, htr⟩ : ∃ tr, tr = pt p.P at' := ⟨_, rfl⟩
  rw [← htr] at c7
  have HM := Lib.hid hM
  have HB := Lib.hid hbW
  have HTr : Hid (T.tr = tr) := Lib.hid (by rw [hI.tr, htr])
  have H0 := Lib.hid h
  have HLn := Lib.hid hlen
  have HWp := Lib.hid hap
  have HO := Lib.hid ho
  have HP := Lib.hid hp
  have HI := Lib.hid hI
  clear h hM hc hbW ho hp hI hkn hkd hs hlen hwh htr hap
  unfold actV
  go_enter Try.func10, Try.ntmps10
  go_upto_region 1 with (fail)
  show Code.wp _ _ _ _ (w.alloc (.cells #[.int .u8 (x0 : Nat), .int .u8 (x1 : Nat), .int .u8 (x2 : Nat), .int .u8 (x3 : Nat)] 49))
  rw [← hW, ← hxb]
  clear hW hxb
  go_quiet (fail)
  go_upto_region 2 with (fail)
  go_quiet (fail)
  go_upto_region 4 with (fail)
  go_quiet (fail)
  go_wp2_with fail
  clear c7
  generalize hW3 : W.drewN _ = W3
  have HM3 : Hid (MW W3 mb (some ⟨b, off, none⟩) n c a' m c' p at' T) := Lib.hid (by rw [← hW3]; exact HM.out.below (below_draw _ _))
  have HX3 : Hid (Exc (fun q => q = mb) w W3) := Lib.hid (by rw [← hW3]; exact (Exc.of_below HB.out).drawN _)
  clear hW3 g0 g1 g2 g3 g4 g5 g6 g7 gn gu x0c x1c x2c x3c r1 r2 r3 r7 hnn hdn hs4 t1 t2 t4 t5 t6 q1 q2 q3 q4 n0 n1 n6 d0 d1 d6
  go_loopw [10, 12] (fun v kv wr => ∃ k : Nat, k ≤ n ∧ kv = .int .i64 k ∧ MW wr mb (some ⟨b, off, none⟩) n c a' m c' p at' T ∧ Exc (fun q => q = mb) w wr ∧ wr.ownsRow w.heap.size 54 3 v (T.askL (nbK p.P T.N k)).length (cellsN (T.askL (nbK p.P T.N k)))) (fun _ kv _ => n - (intOf kv).toNat)
  case atStart => exact ⟨0, Nat.zero_le _, rfl, HM3.out, HX3.out, by simpa [nbK_zero, Tb.askL, cellsN] using World.ownsRow_nil W3 w.heap.size 54 3⟩
  case round =>
    obtain ⟨i, hi, rfl, hM, hx, hown⟩ := hrel
    obtain ⟨w5, rfl⟩ : ∃ x, x = wr := ⟨_, rfl⟩
    have HMr := Lib.hid hM
    have HXr := Lib.hid hx
    have HWr := Lib.hid hown
    have hsz := hx.size
    obtain ⟨g0, g1, g2, g3, g4, g5, g6⟩ := hM.md.plan
    clear hx
    by_cases hin : i < n
    · have k1 : (i : Int) < (n : Int) := by omega
      have k2 : (0 : Int) ≤ (i : Int) := by omega
      have k6 : (i : Int) < 6 := by omega
      have HA36 : Hid ((T.askL (nbK p.P T.N i)).length ≤ 36) := Lib.hid (Nat.le_trans (T.askL_le _) (Nat.mul_le_mul (Nat.le_trans nbK_le (by rw [HLn.out]; exact hn6) : _ ≤ 6) HDl.out))
      obtain ⟨u, hu⟩ : ∃ u, u = pc p.P i := ⟨_, rfl⟩
      have HSnk := Lib.hid (HSn.out i hin)
      rw [← hu] at HSnk
      have HU := Lib.hid hu
      clear hown hM hu
      go_wp2_with fail
      clear g0 g1 g2 g3 g4 g5 g6
      go_loopw [10, 13] (fun v kv wr => ∃ k : Nat, k ≤ n ∧ ((decide (u ∈ T.N) && T.isUp u) = false → k = 0) ∧ kv = .int .i64 k ∧ MW wr mb (some ⟨b, off, none⟩) n c a' m c' p at' T ∧ Exc (fun q => q = mb) w wr ∧ wr.ownsRow w.heap.size 54 3 v (T.askL (nbK p.P T.N i) ++ T.askD u (destsK p.P (pc p.P at') k)).length (cellsN (T.askL (nbK p.P T.N i) ++ T.askD u (destsK p.P (pc p.P at') k)))) (fun _ kv _ => n - (intOf kv).toNat)
      case atStart => exact ⟨0, Nat.zero_le _, fun _ => rfl, rfl, HMr.out, HXr.out, by rw [show T.askD u (destsK p.P (pc p.P at') 0) = [] from rfl, List.append_nil]; exact HWr.out⟩
      case round =>
        obtain ⟨k, hk, hk0, rfl, hM, hx, hown⟩ := hrel
        have HM6 := Lib.hid hM
        have HX6 := Lib.hid hx
        have hsz6 := hx.size
        have HK0 := Lib.hid hk0
        have hN42 : (T.askL (nbK p.P T.N i) ++ T.askD u (destsK p.P (pc p.P at') k)).length ≤ 42 := by
          rw [List.length_append]
          have h1 := HA36.out
          have h2 := T.askD_le u (destsK p.P (pc p.P at') k)
          have h3 := destsK_le (P := p.P) (t := pc p.P at') (k := k)
          have h4 := HLn.out
          omega
        obtain ⟨N, hN⟩ : ∃ N, N = (T.askL (nbK p.P T.N i) ++ T.askD u (destsK p.P (pc p.P at') k)).length := ⟨_, rfl⟩
        rw [← hN] at hown hN42
        have HNl := Lib.hid hN
        have HW6r := Lib.hid hown
        obtain ⟨g0, g1, g2, g3, g4, g5, g6⟩ := hM.md.plan
        have g7 := hM.md.cAt
        have gn := hM.md.cNear (i := i) (by omega)
        have gu := hM.md.cUp (i := i) (by omega)
        rw [mdOf_near (by have := HLn.out; omega), ← HU.out] at gn
        rw [mdOf_up (by have := HLn.out; omega), ← HU.out] at gu
        clear hown hx hN hk0 hM
        by_cases hkn : k < n
        · have j1 : (k : Int) < (n : Int) := by omega
          have j2 : (0 : Int) ≤ (k : Int) := by omega
          have j6 : (k : Int) < 6 := by omega
          cases hnb : decide (u ∈ T.N)
          · rw [hnb] at gn
            obtain rfl : k = 0 := HK0.out (by rw [hnb]; rfl)
            have HNu : Hid (u ∉ T.N) := Lib.hid (by simpa using hnb)
            clear hnb
            go_wp2_with fail
            refine ⟨⟨i + 1, by omega, by go_num, HM6.out, HX6.out, ?_⟩, by simp [intOf]; omega⟩
            have h9 := HW6r.out
            rw [HNl.out, show T.askD u (destsK p.P (pc p.P at') 0) = [] from rfl, List.append_nil] at h9
            rw [HSnk.out, if_neg HNu.out, List.append_nil]; exact h9
          · rw [hnb] at gn
            have HNu : Hid (u ∈ T.N) := Lib.hid (by simpa using hnb)
            cases hup : T.isUp u
            · rw [hup] at gu
              obtain rfl : k = 0 := HK0.out (by rw [hup, Bool.and_false])
              have HE : Hid (T.askD u T.D = []) := Lib.hid (by unfold Tb.askD; rw [List.filter_eq_nil_iff.2 (fun d _ => by simp [hup])]; rfl)
              clear hnb hup
              go_wp2_with fail
              refine ⟨⟨i + 1, by omega, by go_num, HM6.out, HX6.out, ?_⟩, by simp [intOf]; omega⟩
              have h9 := HW6r.out
              rw [HNl.out, show T.askD u (destsK p.P (pc p.P at') 0) = [] from rfl, List.append_nil] at h9
              rw [HSnk.out, if_pos HNu.out, Tb.askL_snoc, HE.out, List.append_nil]; exact h9
            · rw [hup] at gu
              have HUp := Lib.hid hup
              have HNb := Lib.hid (show (decide (u ∈ T.N) && T.isUp u) = true by rw [hnb, hup]; rfl)
              clear hnb hup
              have HSdk := Lib.hid (show destsK p.P (pc p.P at') (k + 1) = _ from HSd.out k hkn)
              have ct := HM6.out.md.cTold (i := i) (j := k) (by omega) (by omega)
              rw [mdOf_told (by have := HLn.out; omega) (by have := HLn.out; omega), ← HU.out] at ct
              obtain ⟨d, hd⟩ : ∃ d, d = pc p.P k := ⟨_, rfl⟩
              rw [← hd] at ct HSdk
              have HD := Lib.hid hd
              obtain ⟨tv, htv⟩ : ∃ tv, tv = T.told u d := ⟨_, rfl⟩
              rw [← htv] at ct
              have HTv := Lib.hid htv
              clear hd htv
              by_cases hka : k = at'
              · have e1 : ((k : Int) != (at' : Int)) = false := by rw [bne_eq_false_iff_eq]; omega
                have HE : Hid (destsK p.P (pc p.P at') (k + 1) = destsK p.P (pc p.P at') k) := Lib.hid (by rw [HSdk.out, if_pos (by rw [HD.out, hka]), List.append_nil]; rfl)
                clear hka
                go_wp2_with fail
                refine ⟨⟨k + 1, by omega, fun h => absurd h (by decide), by go_num, HM6.out, HX6.out, ?_⟩, by simp [intOf]; omega⟩
                rw [HE.out, ← HNl.out]; exact HW6r.out
              · have e1 : ((k : Int) != (at' : Int)) = true := by rw [bne_iff_ne]; omega
                have HE : Hid (destsK p.P (pc p.P at') (k + 1) = destsK p.P (pc p.P at') k ++ [d]) := Lib.hid (by
                  rw [HSdk.out, if_neg]
                  · rfl
                  · rw [HD.out]; intro e; exact hka ((HIn.out k hkn at' hat).1 e))
                clear hka
                by_cases hki : k = i
                · have e2 : ((k : Int) != (i : Int)) = false := by rw [bne_eq_false_iff_eq]; omega
                  have HZ : Hid (T.told u d = 0) := Lib.hid (by rw [HU.out, HD.out, hki]; exact HTs.out _)
                  clear hki
                  go_wp2_with fail
                  refine ⟨⟨k + 1, by omega, fun h => absurd h (by decide), by go_num, HM6.out, HX6.out, ?_⟩, by simp [intOf]; omega⟩
                  rw [HE.out, Tb.askD_snoc, if_neg (fun h => h.2 HZ.out), List.append_nil, ← HNl.out]; exact HW6r.out
                · have e2 : ((k : Int) != (i : Int)) = true := by rw [bne_iff_ne]; omega
                  clear hki
                  by_cases htz : tv = 0
                  · have e3 : (tv != 0) = false := by simpa using htz
                    have HZ : Hid (T.told u d = 0) := Lib.hid (by rw [← HTv.out]; exact htz)
                    clear htz
                    go_wp2_with fail
                    refine ⟨⟨k + 1, by omega, fun h => absurd h (by decide), by go_num, HM6.out, HX6.out, ?_⟩, by simp [intOf]; omega⟩
                    rw [HE.out, Tb.askD_snoc, if_neg (fun h => h.2 HZ.out), List.append_nil, ← HNl.out]; exact HW6r.out
                  · have e3 : (tv != 0) = true := by simpa using htz
                    have HZ : Hid (T.isUp u = true ∧ T.told u d ≠ 0) := Lib.hid ⟨HUp.out, by rw [← HTv.out]; exact htz⟩
                    have hno := HNo.out i hin k hkn tv wr HM6.out
                    rw [← HU.out, ← HD.out] at hno
                    unfold NoteOut at hno
                    have HNn := Lib.hid hno
                    clear htz hno
                    go_wp2_with fail
                    with_reducible refine HNn.out.mono ?_
                    rintro e w7 ⟨rfl, hb⟩
                    have HM7 := Lib.hid (HM6.out.below hb)
                    have HX7 := Lib.hid (HX6.out.trans (Exc.of_below (S := fun q => q = mb) hb) (fun _ _ h => h))
                    have HW7 := Lib.hid (ownsK_below HW6r.out hb)
                    have hsz7 := HX7.out.size
                    clear hb HNn g0 g1 g2 g3 g4 g5 g6 g7 gn gu ct
                    go_wp2_with (at_builtin; refine wpList_append_agg Try.underlying45 infoN rfl (by decide) (by decide) rfl _ _ rfl w.heap.size _ _ _ [.int .u16 u, .int .u16 d, .int .u8 tv] rfl (fun u hu => by simp at hu; rcases hu with rfl | rfl | rfl <;> rfl) rfl (by exact HW7.out) rfl (by omega) hsz7 ?_; intro v1 w6 h1 h2 h3; have HW6 := Lib.hid h1; have HG6 := Lib.hid h2; clear h1 h2 h3)
                    go_wp2
                    have hb6 : Exc (fun j => w.heap.size ≤ j) w7 w6 := HG6.out.exc.weak fun i _ hi => (ownsK_lt HW7.out hi).1
                    refine ⟨⟨k + 1, by omega, fun h => absurd h (by decide), by go_num, ?_, HX7.out.trans hb6 (fun i hi hh => by omega), ?_⟩, by simp [intOf]; omega⟩
                    · have hlt := HMb.out
                      exact HM7.out.exc hb6 (by omega) (fun z hz => by have := HWp.out.p z hz; omega) (fun z hz => by have := HWp.out.l z hz; omega)
                    · rw [HE.out, Tb.askD_snoc, if_pos HZ.out, ← List.append_assoc, cellsN_append, List.length_append, ← HNl.out, ← HTv.out]
                      exact HW6.out
        · obtain rfl : k = n := by omega
          have HNb : Hid ((decide (u ∈ T.N) && T.isUp u) = true) := Lib.hid (by
            cases h9 : (decide (u ∈ T.N) && T.isUp u)
            · have := HK0.out h9; omega
            · rfl)
          have HNu : Hid (u ∈ T.N) := Lib.hid (by have := HNb.out; simp at this; exact this.1)
          clear gn gu
          go_wp2_with fail
          refine ⟨⟨i + 1, by omega, by go_num, HM6.out, HX6.out, ?_⟩, by simp [intOf]; omega⟩
          have h9 := HW6r.out
          rw [HNl.out, HDa.out] at h9
          rw [HSnk.out, if_pos HNu.out, Tb.askL_snoc]; exact h9
    · obtain rfl : i = n := by omega
      have hown := HWr.out
      rw [HAll.out] at hown
      obtain ⟨a2, c2, rfl, hr2, hfr⟩ := nrow_of hown rfl
      have HR := Lib.hid hr2
      have HFr := Lib.hid hfr
      obtain ⟨N, hN⟩ : ∃ N, N = (T.askL T.N).length := ⟨_, rfl⟩
      rw [← hN] at HR
      have HNe := Lib.hid hN
      clear hown hr2 hfr hM
      rw [← hN]
      clear hN
      go_wp2
      go_ret2
      exact ⟨a2, c2, by rw [← HNe.out]; rfl, by rw [← HNe.out]; exact HR.out, HMr.out, HXr.out, HFr.out⟩
end Go.Proofs.Ytdjmopipmeonlaa
