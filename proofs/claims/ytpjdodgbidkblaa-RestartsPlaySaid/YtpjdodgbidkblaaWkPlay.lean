/- RestartsPlay: whatever is done with a machine, its results and its state are those of the definition. -/
import Derived.Test.YtpjdodgbidkblaaRsWm
import Derived.Test.YtpjdodgbidkblaaOpenTri
namespace Go.Proofs.Ytpjdodgbidkblaa
open Go.RowKit Go.Maps

theorem k_w64 {k : Nat} (h : k < 7) : wrap64 (k : Int) = k := by rw [← IntWalk.i64_left]; exact IntWalk.i64_in _ (by omega)
theorem k_i64 {k : Nat} (h : k < 7) : IntKind.i64.wrap (10 + (k : Int)) = 10 + (k : Int) := IntWalk.i64_in _ (by omega)
theorem k_u16 {k : Nat} (h : k < 7) : IntKind.u16.wrap (10 + (k : Int)) = 10 + (k : Int) := by rw [IntKind.wrap_u16]; omega
theorem k_wf {k : Nat} (h : k < 7) : (Lit.int .u16 (10 + (k : Int))).wf = true := wf16.2 (by omega)
theorem j_i64 {j N : Nat} (h : j < N) (h2 : N ≤ 200) : IntKind.i64.wrap ((j : Int) + 1) = (j : Int) + 1 := IntWalk.i64_in _ (by omega)
theorem T_wf {T now : Int} {j N : Nat} (h : j < N) (h2 : N ≤ 200) (h3 : now ≤ T ∧ T ≤ 60 * ((j : Int) + 1)) (h4 : 0 ≤ now) : (Lit.int .i64 T).wf = true := wf_i64.2 (by omega)
theorem x_w64 {x : Int} (h : 0 ≤ x ∧ x < 60) : wrap64 x = x := by rw [← IntWalk.i64_left]; exact IntWalk.i64_in _ (by omega)
theorem T_i64 {x T now : Int} {j N : Nat} (h : j < N) (h2 : N ≤ 200) (h3 : now ≤ T ∧ T ≤ 60 * ((j : Int) + 1)) (h4 : 0 ≤ now) (h5 : T = now + x) : IntKind.i64.wrap (now + x) = T := by rw [← h5]; exact IntWalk.i64_in _ (by omega)
set_option maxHeartbeats 8000000 in
set_option maxRecDepth 100000 in
theorem play_walk (many base : Int) (a : Option Addr) (N c : Nat) (l : List (Int × Int × Int)) (w : World) (h0 : (Lit.int .u8 many).wf = true) (h1 : (Lit.int .u8 base).wf = true) (h2 : Tris .u8 .u8 .u8 w a N c l) :
    Calls Try.prog 3 #[.int .u8 many, .int .u8 base, .slice a N c] w fun e w' => e = .returned (.bool true) ∧ Below w.heap.size w w' := by
  have HR := Lib.hid h2
  have hm := wf_u8.1 h0
  have HBs := Lib.hid (wf_u8.1 h1)
  by_cases hbig : (N : Int) > 200
  · clear h0 h1 h2
    go_enter Try.func3, Try.ntmps3
    go_wp2_with fail
    refine (lives_any w).mono ?_
    rintro e w2 ⟨rfl, hb⟩
    have HB := Lib.hid hb
    clear hb
    go_wp2
    go_ret
    exact ⟨rfl, HB.out⟩
  obtain ⟨n, hn⟩ : ∃ n : Nat, (n : Int) = many % 6 := ⟨(many % 6).toNat, by omega⟩
  have hmod : many.tmod 6 = (n : Int) := by rw [hn]; exact Int.tmod_eq_emod_of_nonneg hm.1
  have HS := Lib.hid (show N ≤ 200 by omega)
  have HN6 := Lib.hid (show n ≤ 5 by omega)
  have hw1 : wrap64 (n : Int) = n := by rw [← IntWalk.i64_left]; exact IntWalk.i64_in _ (by omega)
  clear h0 h1 h2 hm hn
  go_enter Try.func3, Try.ntmps3
  go_wp2_with fail
  clear hmod hw1 hbig
  go_loopw [8, 9] (fun v i wr => ∃ k : Nat, k ≤ n ∧ i = .int .i64 k ∧ wr.ownsRow w.heap.size 26 1 v k (nums .u16 (ptsL 10 k)) ∧ Below w.heap.size w wr) (fun _ i _ => n - (intOf i).toNat)
  case atStart => exact ⟨0, Nat.zero_le _, rfl, by simpa [nums, ptsL] using World.ownsRow_nil w w.heap.size 26 1, Below.refl _ _⟩
  case round =>
    obtain ⟨k, hk, rfl, hown, hb⟩ := hrel
    have HW := Lib.hid hown
    have HB := Lib.hid hb
    have hsz := hb.size
    clear hown hb
    by_cases hkn : k < n
    · have k1 : (k : Int) < (n : Int) := by omega
      have HK := Lib.hid hkn
      have kw : IntKind.i64.wrap ((k : Int) + 1) = (k : Int) + 1 := IntWalk.i64_in _ (by have := HN6.out; omega)
      have kv : IntKind.i64.wrap (10 + (k : Int)) = 10 + (k : Int) := IntWalk.i64_in _ (by have := HN6.out; omega)
      have kc : IntKind.u16.wrap (10 + (k : Int)) = 10 + (k : Int) := by rw [IntKind.wrap_u16]; have := HN6.out; omega
      go_wp2_with (at_builtin; refine wpList_append_one Try.underlying24 infoU16 (by decide) rfl _ _ rfl w.heap.size _ _ _ _ rfl (by exact HW.out) rfl (by have := HN6.out; omega) hsz ?_)
      intro v1 w1 h1 h2 gx cx h3
      rw [← ptsL_succ] at h1
      have H1 := Lib.hid h1
      have H2 := Lib.hid h2
      clear h1 h2 h3
      go_wp2
      exact ⟨⟨k + 1, by have := HK.out; omega, by go_num, H1.out, HB.out.trans (H2.out.below hsz (fun j hj => (ownBlock_lt HW.out hj).1))⟩, by simp [intOf]; have := HK.out; omega⟩
    · obtain rfl : k = n := by omega
      obtain ⟨a5, c5, rfl, hr, _⟩ := ownsRow_rowN .u16 HW.out (ptsL_wf (by omega) (by have := HN6.out; omega))
      obtain ⟨W1, hW1⟩ : ∃ x, x = wr := ⟨_, rfl⟩
      subst hW1
      have HRo := Lib.hid hr
      have q0 : wrap64 base = base := by rw [← IntWalk.i64_left]; exact IntWalk.i64_in _ (by have := HBs.out; omega)
      clear hr hsz hk hkn
      go_wp2_with fail
      rw [q0]
      refine (new_any a5 k c5 (ptsL 10 k) base W1 HRo.out (wf_i64.2 (by have := HBs.out; omega)) (ptsL_length 10 k).symm (by have := HN6.out; omega)).mono ?_
      rintro e w2 ⟨hb2, hn2⟩
      rcases hn2 with ⟨_, mb, bm, rfl, hm, hlm, hlk⟩ | ⟨h1, _⟩
      rotate_left
      · exact absurd (ptsL_ok (by omega) (by have := HN6.out; omega) HBs.out.1) h1
      rw [fresh_mcN] at hm
      have HM := Lib.hid hm
      have HLo := Lib.hid (show w.heap.size ≤ mb ∧ w.heap.size ≤ bm from ⟨Nat.le_trans HB.out.size hlm, Nat.le_trans HB.out.size hlk⟩)
      have HB2 := Lib.hid (HB.out.trans (hb2.mono HB.out.size))
      clear hm hlm hlk hb2 q0
      go_wp2_with fail
      refine (state_any w2 HM.out).mono ?_
      rintro e w3 ⟨rfl, rfl⟩
      rw [mcN_st]
      go_wp2_with fail
      have hW2 : PlAt w ((w2.alloc (.cells #[.bool true, .bool true, .bool true, .bool true, .bool true, .bool true] 33)).alloc (.cells #[.bool false, .bool false, .bool false, .bool false, .bool false, .bool false] 33)) mb bm w2.heap.size (w2.heap.size + 1) k base (fun _ => (true, false)) (fun _ => true) (fun _ => false) 0 0 0 0 := by
        have o1 : FR (w2.alloc (.cells #[.bool true, .bool true, .bool true, .bool true, .bool true, .bool true] 33)) w2.heap.size 33 6 (bV fun _ => true) := heap_alloc_new w2 _
        have o2 := heap_alloc_new (w2.alloc (.cells #[.bool true, .bool true, .bool true, .bool true, .bool true, .bool true] 33)) (.cells #[.bool false, .bool false, .bool false, .bool false, .bool false, .bool false] 33)
        rw [World.size_alloc] at o2
        have b2 : Below w2.heap.size w2 ((w2.alloc (.cells #[.bool true, .bool true, .bool true, .bool true, .bool true, .bool true] 33)).alloc (.cells #[.bool false, .bool false, .bool false, .bool false, .bool false, .bool false] 33)) := (below_alloc w2 _).trans ((below_alloc _ _).mono (by rw [World.size_alloc]; omega))
        have l1 := HM.out.lt
        have l2 := HM.out.ltm
        have l3 := HB2.out.size
        have l4 := HLo.out
        exact ⟨⟨HM.out.below b2, o1.below (below_alloc _ _), o2, HB2.out.trans (b2.mono l3), ⟨l4.1, l4.2, by omega, by omega⟩, ⟨by omega, by omega, by omega, by omega, by omega⟩⟩, Inv.start k, by omega, ⟨by omega, by omega⟩, ⟨by omega, by omega⟩⟩
      obtain ⟨pu, hpu⟩ : ∃ x, x = w2.heap.size := ⟨_, rfl⟩
      obtain ⟨pd, hpd⟩ : ∃ x, x = w2.heap.size + 1 := ⟨_, rfl⟩
      rw [← hpd, ← hpu] at hW2 ⊢
      generalize (w2.alloc (.cells #[.bool true, .bool true, .bool true, .bool true, .bool true, .bool true] 33)).alloc (.cells #[.bool false, .bool false, .bool false, .bool false, .bool false, .bool false] 33) = W2 at hW2 ⊢
      have HW2 := Lib.hid hW2
      clear hW2 hpu hpd
      obtain ⟨n, hn⟩ : ∃ n, n = k := ⟨_, rfl⟩
      subst hn
      go_loopw [14, 15, 16, 17] (fun s t u i wr => ∃ (j : Nat) (f : Nat → Bool × Bool) (U D : Nat → Bool) (st beg now since : Int), j ≤ N ∧ s = .int .u8 st ∧ t = .int .i64 now ∧ u = .int .i64 since ∧ i = .int .i64 j ∧ now ≤ 60 * (j : Int) ∧ PlAt w wr mb bm pu pd n base f U D st beg now since) (fun _ _ _ i _ => N - (intOf i).toNat)
      case atStart => exact ⟨0, _, _, _, 0, 0, 0, 0, Nat.zero_le _, rfl, rfl, rfl, rfl, by omega, HW2.out⟩
      case round =>
        obtain ⟨j, f, U, D, st, beg, now, since, hj, rfl, rfl, rfl, rfl, hnow, hp⟩ := hrel
        have HP := Lib.hid hp
        by_cases hjN : j < N
        · have HJ := Lib.hid hjN
          have hrow := HR.out.later hp.wm.bel
          obtain ⟨b, off, had, hc⟩ := hrow.cells.resolve_left (by omega)
          obtain ⟨c0, c1, c2⟩ := hc j hjN
          have hwf := hrow.wf (l.getD j (0, 0, 0)) (by rw [List.getD_eq_getElem?_getD, List.getElem?_eq_getElem (by rw [hrow.len]; exact hjN)]; exact List.getElem_mem _)
          obtain ⟨A, hA⟩ : ∃ x, x = (l.getD j (0, 0, 0)).1 := ⟨_, rfl⟩
          obtain ⟨B, hB⟩ : ∃ x, x = (l.getD j (0, 0, 0)).2.1 := ⟨_, rfl⟩
          obtain ⟨C, hC⟩ : ∃ x, x = (l.getD j (0, 0, 0)).2.2 := ⟨_, rfl⟩
          rw [← hA] at c0 hwf
          rw [← hB] at c1 hwf
          rw [← hC] at c2 hwf
          have wA := wf_u8.1 hwf.1
          have wB := wf_u8.1 hwf.2.1
          have wC := wf_u8.1 hwf.2.2
          obtain ⟨x, hx⟩ : ∃ x : Int, x = C % 60 := ⟨_, rfl⟩
          obtain ⟨k, hk⟩ : ∃ k : Nat, (k : Int) = B % 7 := ⟨(B % 7).toNat, by omega⟩
          have mC : C.tmod 60 = x := by rw [hx]; exact Int.tmod_eq_emod_of_nonneg wC.1
          have mB : B.tmod 7 = (k : Int) := by rw [hk]; exact Int.tmod_eq_emod_of_nonneg wB.1
          have hx0 : 0 ≤ x ∧ x < 60 := by omega
          have hk7 : k < 7 := by omega
          obtain ⟨T, hT⟩ : ∃ T : Int, T = now + x := ⟨_, rfl⟩
          have HT := Lib.hid (show now ≤ T ∧ T ≤ 60 * ((j : Int) + 1) by omega)
          have hnw := hp.now0
          have wx := x_w64 hx0
          have wk := k_w64 hk7
          have wT := T_i64 hjN HS.out HT.out hnw hT
          have wp := k_i64 hk7
          have wq := k_u16 hk7
          have jw := j_i64 hjN HS.out
          have j1 : (j : Int) < (N : Int) := Int.ofNat_lt.2 hjN
          have j2 : (0 : Int) ≤ (j : Int) := Int.natCast_nonneg j
          have HK := Lib.hid hk7
          have HTw := Lib.hid (T_wf hjN HS.out HT.out hnw)
          have HQw := Lib.hid (k_wf hk7)
          have hA4 : A.tmod 4 = 0 ∨ A.tmod 4 = 1 ∨ A.tmod 4 = 2 ∨ A.tmod 4 = 3 := by rw [Int.tmod_eq_emod_of_nonneg wA.1]; omega
          clear hp hrow hc hwf hA hB hC wA wB wC hx hk hT hnow hnw hx0 hk7 hjN hj
          subst had
          by_cases hkn : (k : Int) < (n : Int)
          · have HKn : Hid (k < n) := Lib.hid (Int.ofNat_lt.1 hkn)
            rcases hA4 with hA | hA | hA | hA
            · as_aux_lemma =>
                go_wp2_with fail
                clear c0 c1 c2
                refine (up_ok T (10 + (k : Int)) wr HP.out.wm.mc HTw.out HQw.out (pt_in HKn.out)).mono ?_
                rintro e w5 ⟨rfl, hm, hx⟩
                have HA := Lib.hid (HP.out.wm.act (mcN_up hm) hx)
                clear hm hx
                have k0 : (0 : Int) ≤ (k : Int) := Int.natCast_nonneg k
                have k6 : (k : Int) < 6 := by have := HKn.out; have := HN6.out; omega
                have k6n : k < 6 := by have := HKn.out; have := HN6.out; omega
                have u0 := HA.out.us.cell k6n
                have f0 := HA.out.us.frozen k
                by_cases hs : st = 1
                · as_aux_lemma =>
                    obtain rfl : st = 1 := hs
                    have hA := HA.out
                    rw [if_pos rfl, if_pos rfl] at hA
                    have HA := Lib.hid hA
                    clear hA
                    go_wp2_with fail
                    refine (state_any _ (HA.out.setU k true).mc).mono ?_
                    rintro e w8 ⟨rfl, rfl⟩
                    rw [mcN_st]
                    go_wp2
                    exact ⟨⟨j + 1, _, _, _, 2, T, T, T, HJ.out, rfl, rfl, rfl, by go_num, T_next HT.out.2, HP.out.up1 HT.out.1 HKn.out (HA.out.setU k true)⟩, play_meas HJ.out⟩
                · as_aux_lemma =>
                    have hA := HA.out
                    rw [if_neg hs, if_neg hs] at hA
                    have HA := Lib.hid hA
                    have HNs := Lib.hid hs
                    have hs1 : (st == 1) = false := by simpa using hs
                    clear hA hs
                    go_wp2_with fail
                    refine (state_any _ (HA.out.setU k true).mc).mono ?_
                    rintro e w8 ⟨rfl, rfl⟩
                    rw [mcN_st]
                    go_wp2
                    exact ⟨⟨j + 1, _, _, _, st, beg, T, since, HJ.out, rfl, rfl, rfl, by go_num, T_next HT.out.2, HP.out.up2 HNs.out HT.out.1 HKn.out (HA.out.setU k true)⟩, play_meas HJ.out⟩
            · as_aux_lemma =>
                go_wp2_with fail
                clear c0 c1 c2
                refine (down_ok (10 + (k : Int)) wr HP.out.wm.mc HQw.out (pt_in HKn.out)).mono ?_
                rintro e w5 ⟨rfl, hm, hx⟩
                have HA := Lib.hid (HP.out.wm.act (mcN_down hm) hx)
                clear hm hx
                have k0 : (0 : Int) ≤ (k : Int) := Int.natCast_nonneg k
                have k6 : (k : Int) < 6 := by have := HKn.out; have := HN6.out; omega
                have k6n : k < 6 := by have := HKn.out; have := HN6.out; omega
                have u0 := HA.out.us.cell k6n
                have f0 := HA.out.us.frozen k
                have u1 := (HA.out.setU k false).ds.cell k6n
                have f1 := (HA.out.setU k false).ds.frozen k
                go_wp2_with fail
                have hA2 := (HA.out.setU k false).setD k false
                clear u0 f0 u1 f1
                generalize (w5.setCell ⟨pu, k, none⟩ (.bool false)).setCell ⟨pd, k, none⟩ (.bool false) = W6 at hA2 ⊢
                have HA2 := Lib.hid hA2
                clear hA2
                go_loopw [22, 23] (fun v i wr => ∃ q : Nat, q ≤ n ∧ i = .int .i64 q ∧ v = .bool (anyN q (updB U k false)) ∧ wr = W6) (fun _ i _ => n - (intOf i).toNat)
                case atStart => exact ⟨0, Nat.zero_le _, rfl, rfl, rfl⟩
                case round =>
                  obtain ⟨q, hq, rfl, rfl, rfl⟩ := hrel
                  by_cases hqn : q < n
                  · have q0 : (0 : Int) ≤ (q : Int) := Int.natCast_nonneg q
                    have q1 : (q : Int) < (n : Int) := Int.ofNat_lt.2 hqn
                    have q6n : q < 6 := by have := HN6.out; omega
                    have q6 : (q : Int) < 6 := by omega
                    have qw : IntKind.i64.wrap ((q : Int) + 1) = (q : Int) + 1 := IntWalk.i64_in _ (by omega)
                    have u2 : wr.cell? ⟨pu, q, none⟩ = some (.bool (updB U k false q)) := HA2.out.us.cell q6n
                    have HQ := Lib.hid hqn
                    obtain ⟨P, hP⟩ : ∃ P, P = anyN q (updB U k false) := ⟨_, rfl⟩
                    have HPn : Hid (anyN (q + 1) (updB U k false) = (P || updB U k false q)) := Lib.hid (by rw [anyN_succ, hP])
                    rw [← hP]
                    obtain ⟨v, hv⟩ : ∃ v, v = updB U k false q := ⟨_, rfl⟩
                    have hPn := HPn.out
                    rw [← hv] at u2 hPn
                    have HPn := Lib.hid hPn
                    clear hP hv hPn hq hqn
                    cases P
                    · go_wp2
                      refine ⟨⟨q + 1, HQ.out, by go_num, ?_, trivial⟩, play_meas HQ.out⟩
                      rw [HPn.out, Bool.false_or]
                    · go_wp2
                      refine ⟨⟨q + 1, HQ.out, by go_num, ?_, trivial⟩, play_meas HQ.out⟩
                      rw [HPn.out, Bool.true_or]
                  · obtain rfl : q = n := by omega
                    obtain ⟨Q, hQ⟩ : ∃ Q, Q = anyN q (updB U k false) := ⟨_, rfl⟩
                    rw [← hQ]
                    have HQ := Lib.hid hQ
                    obtain ⟨w9, hw9⟩ : ∃ x, x = wr := ⟨_, rfl⟩
                    subst hw9
                    clear hQ hq hqn
                    cases Q
                    · as_aux_lemma =>
                        have HSt : Hid ((if (anyN q fun i => (updF f k (false, false) i).1) = true then st else 1) = 1) := Lib.hid (by rw [HP.out.inv.any_down, ← HQ.out]; rfl)
                        go_wp2_with fail
                        refine (state_any _ HA2.out.mc).mono ?_
                        rintro e w8 ⟨rfl, rfl⟩
                        rw [mcN_st, HSt.out]
                        go_wp2
                        exact ⟨⟨j + 1, _, _, _, 1, beg, T, since, HJ.out, rfl, rfl, rfl, by go_num, T_next HT.out.2, HP.out.down HT.out.1 (by rw [← HQ.out]; rfl) HA2.out⟩, play_meas HJ.out⟩
                    · as_aux_lemma =>
                        have HSt : Hid ((if (anyN q fun i => (updF f k (false, false) i).1) = true then st else 1) = st) := Lib.hid (by rw [HP.out.inv.any_down, ← HQ.out]; rfl)
                        go_wp2_with fail
                        refine (state_any _ HA2.out.mc).mono ?_
                        rintro e w8 ⟨rfl, rfl⟩
                        rw [mcN_st, HSt.out]
                        go_wp2
                        exact ⟨⟨j + 1, _, _, _, st, beg, T, since, HJ.out, rfl, rfl, rfl, by go_num, T_next HT.out.2, HP.out.down HT.out.1 (by rw [← HQ.out]; rfl) HA2.out⟩, play_meas HJ.out⟩
            · as_aux_lemma =>
                go_wp2_with fail
                clear c0 c1 c2
                refine (done_ok (10 + (k : Int)) wr HP.out.wm.mc HQw.out (pt_in HKn.out)).mono ?_
                rintro e w5 ⟨rfl, hm, hx⟩
                have HA := Lib.hid (HP.out.wm.act (mcN_done hm) hx)
                clear hm hx
                have k0 : (0 : Int) ≤ (k : Int) := Int.natCast_nonneg k
                have k6 : (k : Int) < 6 := by have := HKn.out; have := HN6.out; omega
                have k6n : k < 6 := by have := HKn.out; have := HN6.out; omega
                have u0 : w5.cell? ⟨pu, k, none⟩ = some (.bool (U k)) := HA.out.us.cell k6n
                have f1 := HA.out.ds.frozen k
                have u1 := HA.out.ds.cell k6n
                rcases Bool.eq_false_or_eq_true (U k) with hu | hu
                · by_cases hs : st = 2
                  · as_aux_lemma =>
                      obtain rfl : st = 2 := hs
                      have hf : (2 : Int) = 2 ∧ (f k).1 = true := ⟨rfl, by rw [← HP.out.inv.up k HKn.out]; exact hu⟩
                      have HA3 : Hid (Wm w w5 mb bm pu pd (mcN 10 n (updF f k (true, true)) base 2 beg) U D) := Lib.hid (by
                        have h := HA.out
                        rw [if_pos hf] at h
                        exact h)
                      clear HA
                      have HU := Lib.hid hu
                      rw [hu] at u0
                      clear hu hf
                      go_wp2_with fail
                      refine (state_any _ (HA3.out.setD k true).mc).mono ?_
                      rintro e w8 ⟨rfl, rfl⟩
                      rw [mcN_st]
                      go_wp2
                      exact ⟨⟨j + 1, _, _, _, 2, beg, T, since, HJ.out, rfl, rfl, rfl, by go_num, T_next HT.out.2, HP.out.done2 HT.out.1 HKn.out HU.out (HA3.out.setD k true)⟩, play_meas HJ.out⟩
                  · as_aux_lemma =>
                      have hA := HA.out
                      rw [if_neg (fun h => hs h.1)] at hA
                      have HA := Lib.hid hA
                      have hs1 : (st == 2) = false := by simpa using hs
                      rw [hu] at u0
                      clear hs hu hA
                      go_wp2_with fail
                      refine (state_any _ HA.out.mc).mono ?_
                      rintro e w8 ⟨rfl, rfl⟩
                      rw [mcN_st]
                      go_wp2
                      exact ⟨⟨j + 1, _, _, _, st, beg, T, since, HJ.out, rfl, rfl, rfl, by go_num, T_next HT.out.2, HP.out.same HT.out.1 HA.out⟩, play_meas HJ.out⟩
                · as_aux_lemma =>
                    have hA := HA.out
                    rw [if_neg (fun h => by rw [HP.out.inv.up k HKn.out, h.2] at hu; cases hu)] at hA
                    have HA := Lib.hid hA
                    rw [hu] at u0
                    clear hu hA
                    go_wp2_with fail
                    refine (state_any _ HA.out.mc).mono ?_
                    rintro e w8 ⟨rfl, rfl⟩
                    rw [mcN_st]
                    go_wp2
                    exact ⟨⟨j + 1, _, _, _, st, beg, T, since, HJ.out, rfl, rfl, rfl, by go_num, T_next HT.out.2, HP.out.same HT.out.1 HA.out⟩, play_meas HJ.out⟩
            · as_aux_lemma =>
                go_wp2_with fail
                rw [wk, wx, show decide (n ≤ k) = false from decide_eq_false (by have := HKn.out; omega)]
                clear c0 c1 c2
                go_loopw [24, 25] (fun v i w5 => ∃ q : Nat, q ≤ n ∧ i = .int .i64 q ∧ v = .bool (!anyN q fun i => U i && !D i) ∧ w5 = wr) (fun _ i _ => n - (intOf i).toNat)
                case atStart => exact ⟨0, Nat.zero_le _, rfl, rfl, rfl⟩
                case round =>
                  obtain ⟨q, hq, rfl, rfl, rfl⟩ := hrel
                  by_cases hqn : q < n
                  · have q0 : (0 : Int) ≤ (q : Int) := Int.natCast_nonneg q
                    have q1 : (q : Int) < (n : Int) := Int.ofNat_lt.2 hqn
                    have q6n : q < 6 := by have := HN6.out; omega
                    have q6 : (q : Int) < 6 := by omega
                    have qw : IntKind.i64.wrap ((q : Int) + 1) = (q : Int) + 1 := IntWalk.i64_in _ (by omega)
                    have u2 : wr.cell? ⟨pu, q, none⟩ = some (.bool (U q)) := HP.out.wm.us.cell q6n
                    have u3 : wr.cell? ⟨pd, q, none⟩ = some (.bool (D q)) := HP.out.wm.ds.cell q6n
                    have HQ := Lib.hid hqn
                    obtain ⟨P, hP⟩ : ∃ P, P = anyN q fun i => U i && !D i := ⟨_, rfl⟩
                    have HPn : Hid ((anyN (q + 1) fun i => U i && !D i) = (P || (U q && !D q))) := Lib.hid (by rw [anyN_succ, hP])
                    rw [← hP]
                    obtain ⟨u, hu⟩ : ∃ u, u = U q := ⟨_, rfl⟩
                    obtain ⟨d, hd⟩ : ∃ d, d = D q := ⟨_, rfl⟩
                    have hPn := HPn.out
                    rw [← hu, ← hd] at hPn
                    rw [← hu] at u2
                    rw [← hd] at u3
                    have HPn := Lib.hid hPn
                    clear hP hu hd hPn hq hqn
                    cases P <;> cases u <;> cases d
                    all_goals
                      go_wp2
                      refine ⟨⟨q + 1, HQ.out, by go_num, ?_, trivial⟩, play_meas HQ.out⟩
                      rw [HPn.out]
                      rfl
                  · obtain rfl : q = n := by omega
                    obtain ⟨P, hP⟩ : ∃ P, P = anyN q fun i => U i && !D i := ⟨_, rfl⟩
                    rw [← hP]
                    have HPq := Lib.hid hP
                    obtain ⟨w9, hw9⟩ : ∃ x, x = wr := ⟨_, rfl⟩
                    subst hw9
                    have wsb : IntKind.i64.wrap (since + base) = since + base := IntWalk.i64_in _ (by have h1 := HP.out.since0; have h2 := HT.out; have h3 := HBs.out; have h4 := HS.out; have h5 := HJ.out; clear hP; omega)
                    have HN1 : Hid (now ≤ 1000000) := Lib.hid (by have h2 := HT.out; have h4 := HS.out; have h5 := HJ.out; clear hP; omega)
                    have q0 : wrap64 base = base := by rw [← IntWalk.i64_left]; exact IntWalk.i64_in _ (by have := HBs.out; omega)
                    clear hP hq hqn
                    by_cases hs : st = 2
                    · obtain rfl : st = 2 := hs
                      have hE : (mcN 10 q f base 2 beg).ends T = (!P || decide (since + base ≤ T)) := by rw [HP.out.ends2 HBs.out.2 HN1.out, ← HPq.out]
                      have HE := Lib.hid hE
                      clear hE
                      cases P
                      · as_aux_lemma =>
                          have he : (mcN 10 q f base 2 beg).ends T = true := by rw [HE.out]; rfl
                          have HEe := Lib.hid he
                          clear he
                          go_wp2_with fail
                          refine (tick_any T _ HP.out.wm.mc).mono ?_
                          rintro e w5 ⟨rfl, hm, hx⟩
                          rw [mcN_tick, HEe.out, if_pos rfl] at hm
                          rw [HEe.out]
                          have HA := Lib.hid (HP.out.wm.act hm hx)
                          clear hm hx
                          have f0 := HA.out.ds.frozen 0
                          have f1 := HA.out.ds.frozen 1
                          have f2 := HA.out.ds.frozen 2
                          have f3 := HA.out.ds.frozen 3
                          have f4 := HA.out.ds.frozen 4
                          have f5 := HA.out.ds.frozen 5
                          have u0 := HA.out.ds.cell (show 0 < 6 by decide)
                          have u1 := HA.out.ds.cell (show 1 < 6 by decide)
                          have u2 := HA.out.ds.cell (show 2 < 6 by decide)
                          have u3 := HA.out.ds.cell (show 3 < 6 by decide)
                          have u4 := HA.out.ds.cell (show 4 < 6 by decide)
                          have u5 := HA.out.ds.cell (show 5 < 6 by decide)
                          go_wp2_with fail
                          refine (state_any _ HA.out.clearD.mc).mono ?_
                          rintro e w8 ⟨rfl, rfl⟩
                          rw [mcN_st]
                          go_wp2
                          exact ⟨⟨j + 1, _, _, _, 0, beg, T, since, HJ.out, rfl, rfl, rfl, by go_num, T_next HT.out.2, HP.out.ready HT.out.1 HA.out.clearD⟩, play_meas HJ.out⟩
                      · by_cases ht : since + base ≤ T
                        · as_aux_lemma =>
                            have he : (mcN 10 q f base 2 beg).ends T = true := by rw [HE.out, decide_eq_true ht]; rfl
                            have HEe := Lib.hid he
                            clear he
                            go_wp2_with fail
                            refine (tick_any T _ HP.out.wm.mc).mono ?_
                            rintro e w5 ⟨rfl, hm, hx⟩
                            rw [mcN_tick, HEe.out, if_pos rfl] at hm
                            rw [HEe.out]
                            have HA := Lib.hid (HP.out.wm.act hm hx)
                            clear hm hx
                            have f0 := HA.out.ds.frozen 0
                            have f1 := HA.out.ds.frozen 1
                            have f2 := HA.out.ds.frozen 2
                            have f3 := HA.out.ds.frozen 3
                            have f4 := HA.out.ds.frozen 4
                            have f5 := HA.out.ds.frozen 5
                            have u0 := HA.out.ds.cell (show 0 < 6 by decide)
                            have u1 := HA.out.ds.cell (show 1 < 6 by decide)
                            have u2 := HA.out.ds.cell (show 2 < 6 by decide)
                            have u3 := HA.out.ds.cell (show 3 < 6 by decide)
                            have u4 := HA.out.ds.cell (show 4 < 6 by decide)
                            have u5 := HA.out.ds.cell (show 5 < 6 by decide)
                            go_wp2_with fail
                            refine (state_any _ HA.out.clearD.mc).mono ?_
                            rintro e w8 ⟨rfl, rfl⟩
                            rw [mcN_st]
                            go_wp2
                            exact ⟨⟨j + 1, _, _, _, 0, beg, T, since, HJ.out, rfl, rfl, rfl, by go_num, T_next HT.out.2, HP.out.ready HT.out.1 HA.out.clearD⟩, play_meas HJ.out⟩
                        · as_aux_lemma =>
                            have he : (mcN 10 q f base 2 beg).ends T = false := by rw [HE.out, decide_eq_false ht]; rfl
                            have HEe := Lib.hid he
                            have ht0 := decide_eq_false ht
                            clear he ht
                            go_wp2_with fail
                            refine (tick_any T _ HP.out.wm.mc).mono ?_
                            rintro e w5 ⟨rfl, hm, hx⟩
                            rw [mcN_tick, HEe.out, if_neg (by decide)] at hm
                            rw [HEe.out]
                            have HA := Lib.hid (HP.out.wm.act hm hx)
                            clear hm hx
                            go_wp2_with fail
                            refine (state_any _ HA.out.mc).mono ?_
                            rintro e w8 ⟨rfl, rfl⟩
                            rw [mcN_st]
                            go_wp2
                            exact ⟨⟨j + 1, _, _, _, 2, beg, T, since, HJ.out, rfl, rfl, rfl, by go_num, T_next HT.out.2, HP.out.same HT.out.1 HA.out⟩, play_meas HJ.out⟩
                    · as_aux_lemma =>
                        have hs1 : (st == 2) = false := by simpa using hs
                        have HEe : Hid ((mcN 10 q f base st beg).ends T = false) := Lib.hid (PlAt.ends0 hs)
                        clear hs
                        go_wp2_with fail
                        refine (tick_any T _ HP.out.wm.mc).mono ?_
                        rintro e w5 ⟨rfl, hm, hx⟩
                        rw [mcN_tick, HEe.out, if_neg (by decide)] at hm
                        rw [HEe.out]
                        have HA := Lib.hid (HP.out.wm.act hm hx)
                        clear hm hx
                        go_wp2_with fail
                        refine (state_any _ HA.out.mc).mono ?_
                        rintro e w8 ⟨rfl, rfl⟩
                        rw [mcN_st]
                        go_wp2
                        exact ⟨⟨j + 1, _, _, _, st, beg, T, since, HJ.out, rfl, rfl, rfl, by go_num, T_next HT.out.2, HP.out.same HT.out.1 HA.out⟩, play_meas HJ.out⟩
          · have HKn : Hid (¬ (k : Int) < (n : Int)) := Lib.hid hkn
            rcases hA4 with hA | hA | hA | hA
            · as_aux_lemma =>
                go_wp2_with fail
                clear c0 c1 c2
                refine (up_no T (10 + (k : Int)) wr HP.out.wm.mc HQw.out (pt_out (by have := HKn.out; omega))).mono ?_
                rintro e w5 ⟨rfl, hm, hx⟩
                have HA := Lib.hid (HP.out.wm.act hm hx)
                clear hm hx
                go_wp2_with fail
                refine (state_any w5 HA.out.mc).mono ?_
                rintro e w8 ⟨rfl, rfl⟩
                rw [mcN_st]
                go_wp2
                exact ⟨⟨j + 1, f, U, D, st, beg, T, since, HJ.out, rfl, rfl, rfl, by go_num, T_next HT.out.2, HP.out.same HT.out.1 HA.out⟩, play_meas HJ.out⟩
            · as_aux_lemma =>
                go_wp2_with fail
                clear c0 c1 c2
                refine (down_no  (10 + (k : Int)) wr HP.out.wm.mc HQw.out (pt_out (by have := HKn.out; omega))).mono ?_
                rintro e w5 ⟨rfl, hm, hx⟩
                have HA := Lib.hid (HP.out.wm.act hm hx)
                clear hm hx
                go_wp2_with fail
                refine (state_any w5 HA.out.mc).mono ?_
                rintro e w8 ⟨rfl, rfl⟩
                rw [mcN_st]
                go_wp2
                exact ⟨⟨j + 1, f, U, D, st, beg, T, since, HJ.out, rfl, rfl, rfl, by go_num, T_next HT.out.2, HP.out.same HT.out.1 HA.out⟩, play_meas HJ.out⟩
            · as_aux_lemma =>
                go_wp2_with fail
                clear c0 c1 c2
                refine (done_no  (10 + (k : Int)) wr HP.out.wm.mc HQw.out (pt_out (by have := HKn.out; omega))).mono ?_
                rintro e w5 ⟨rfl, hm, hx⟩
                have HA := Lib.hid (HP.out.wm.act hm hx)
                clear hm hx
                go_wp2_with fail
                refine (state_any w5 HA.out.mc).mono ?_
                rintro e w8 ⟨rfl, rfl⟩
                rw [mcN_st]
                go_wp2
                exact ⟨⟨j + 1, f, U, D, st, beg, T, since, HJ.out, rfl, rfl, rfl, by go_num, T_next HT.out.2, HP.out.same HT.out.1 HA.out⟩, play_meas HJ.out⟩
            · as_aux_lemma =>
                go_wp2_with fail
                clear c0 c1 c2
                go_loopw [24, 25] (fun v i w5 => ∃ q : Nat, q ≤ n ∧ i = .int .i64 q ∧ v = .bool (!anyN q fun i => U i && !D i) ∧ w5 = wr) (fun _ i _ => n - (intOf i).toNat)
                case atStart => exact ⟨0, Nat.zero_le _, rfl, rfl, rfl⟩
                case round =>
                  obtain ⟨q, hq, rfl, rfl, rfl⟩ := hrel
                  by_cases hqn : q < n
                  · have q0 : (0 : Int) ≤ (q : Int) := Int.natCast_nonneg q
                    have q1 : (q : Int) < (n : Int) := Int.ofNat_lt.2 hqn
                    have q6n : q < 6 := by have := HN6.out; omega
                    have q6 : (q : Int) < 6 := by omega
                    have qw : IntKind.i64.wrap ((q : Int) + 1) = (q : Int) + 1 := IntWalk.i64_in _ (by omega)
                    have u2 : wr.cell? ⟨pu, q, none⟩ = some (.bool (U q)) := HP.out.wm.us.cell q6n
                    have u3 : wr.cell? ⟨pd, q, none⟩ = some (.bool (D q)) := HP.out.wm.ds.cell q6n
                    have HQ := Lib.hid hqn
                    obtain ⟨P, hP⟩ : ∃ P, P = anyN q fun i => U i && !D i := ⟨_, rfl⟩
                    have HPn : Hid ((anyN (q + 1) fun i => U i && !D i) = (P || (U q && !D q))) := Lib.hid (by rw [anyN_succ, hP])
                    rw [← hP]
                    obtain ⟨u, hu⟩ : ∃ u, u = U q := ⟨_, rfl⟩
                    obtain ⟨d, hd⟩ : ∃ d, d = D q := ⟨_, rfl⟩
                    have hPn := HPn.out
                    rw [← hu, ← hd] at hPn
                    rw [← hu] at u2
                    rw [← hd] at u3
                    have HPn := Lib.hid hPn
                    clear hP hu hd hPn hq hqn
                    cases P <;> cases u <;> cases d
                    all_goals
                      go_wp2
                      refine ⟨⟨q + 1, HQ.out, by go_num, ?_, trivial⟩, play_meas HQ.out⟩
                      rw [HPn.out]
                      rfl
                  · obtain rfl : q = n := by omega
                    obtain ⟨P, hP⟩ : ∃ P, P = anyN q fun i => U i && !D i := ⟨_, rfl⟩
                    rw [← hP]
                    have HPq := Lib.hid hP
                    obtain ⟨w9, hw9⟩ : ∃ x, x = wr := ⟨_, rfl⟩
                    subst hw9
                    have wsb : IntKind.i64.wrap (since + base) = since + base := IntWalk.i64_in _ (by have h1 := HP.out.since0; have h2 := HT.out; have h3 := HBs.out; have h4 := HS.out; have h5 := HJ.out; clear hP; omega)
                    have HN1 : Hid (now ≤ 1000000) := Lib.hid (by have h2 := HT.out; have h4 := HS.out; have h5 := HJ.out; clear hP; omega)
                    have q0 : wrap64 base = base := by rw [← IntWalk.i64_left]; exact IntWalk.i64_in _ (by have := HBs.out; omega)
                    clear hP hq hqn
                    by_cases hs : st = 2
                    · obtain rfl : st = 2 := hs
                      have hE : (mcN 10 q f base 2 beg).ends T = (!P || decide (since + base ≤ T)) := by rw [HP.out.ends2 HBs.out.2 HN1.out, ← HPq.out]
                      have HE := Lib.hid hE
                      clear hE
                      cases P
                      · as_aux_lemma =>
                          have he : (mcN 10 q f base 2 beg).ends T = true := by rw [HE.out]; rfl
                          have HEe := Lib.hid he
                          clear he
                          go_wp2_with fail
                          refine (tick_any T _ HP.out.wm.mc).mono ?_
                          rintro e w5 ⟨rfl, hm, hx⟩
                          rw [mcN_tick, HEe.out, if_pos rfl] at hm
                          rw [HEe.out]
                          have HA := Lib.hid (HP.out.wm.act hm hx)
                          clear hm hx
                          have f0 := HA.out.ds.frozen 0
                          have f1 := HA.out.ds.frozen 1
                          have f2 := HA.out.ds.frozen 2
                          have f3 := HA.out.ds.frozen 3
                          have f4 := HA.out.ds.frozen 4
                          have f5 := HA.out.ds.frozen 5
                          have u0 := HA.out.ds.cell (show 0 < 6 by decide)
                          have u1 := HA.out.ds.cell (show 1 < 6 by decide)
                          have u2 := HA.out.ds.cell (show 2 < 6 by decide)
                          have u3 := HA.out.ds.cell (show 3 < 6 by decide)
                          have u4 := HA.out.ds.cell (show 4 < 6 by decide)
                          have u5 := HA.out.ds.cell (show 5 < 6 by decide)
                          go_wp2_with fail
                          refine (state_any _ HA.out.clearD.mc).mono ?_
                          rintro e w8 ⟨rfl, rfl⟩
                          rw [mcN_st]
                          go_wp2
                          exact ⟨⟨j + 1, _, _, _, 0, beg, T, since, HJ.out, rfl, rfl, rfl, by go_num, T_next HT.out.2, HP.out.ready HT.out.1 HA.out.clearD⟩, play_meas HJ.out⟩
                      · by_cases ht : since + base ≤ T
                        · as_aux_lemma =>
                            have he : (mcN 10 q f base 2 beg).ends T = true := by rw [HE.out, decide_eq_true ht]; rfl
                            have HEe := Lib.hid he
                            clear he
                            go_wp2_with fail
                            refine (tick_any T _ HP.out.wm.mc).mono ?_
                            rintro e w5 ⟨rfl, hm, hx⟩
                            rw [mcN_tick, HEe.out, if_pos rfl] at hm
                            rw [HEe.out]
                            have HA := Lib.hid (HP.out.wm.act hm hx)
                            clear hm hx
                            have f0 := HA.out.ds.frozen 0
                            have f1 := HA.out.ds.frozen 1
                            have f2 := HA.out.ds.frozen 2
                            have f3 := HA.out.ds.frozen 3
                            have f4 := HA.out.ds.frozen 4
                            have f5 := HA.out.ds.frozen 5
                            have u0 := HA.out.ds.cell (show 0 < 6 by decide)
                            have u1 := HA.out.ds.cell (show 1 < 6 by decide)
                            have u2 := HA.out.ds.cell (show 2 < 6 by decide)
                            have u3 := HA.out.ds.cell (show 3 < 6 by decide)
                            have u4 := HA.out.ds.cell (show 4 < 6 by decide)
                            have u5 := HA.out.ds.cell (show 5 < 6 by decide)
                            go_wp2_with fail
                            refine (state_any _ HA.out.clearD.mc).mono ?_
                            rintro e w8 ⟨rfl, rfl⟩
                            rw [mcN_st]
                            go_wp2
                            exact ⟨⟨j + 1, _, _, _, 0, beg, T, since, HJ.out, rfl, rfl, rfl, by go_num, T_next HT.out.2, HP.out.ready HT.out.1 HA.out.clearD⟩, play_meas HJ.out⟩
                        · as_aux_lemma =>
                            have he : (mcN 10 q f base 2 beg).ends T = false := by rw [HE.out, decide_eq_false ht]; rfl
                            have HEe := Lib.hid he
                            have ht0 := decide_eq_false ht
                            clear he ht
                            go_wp2_with fail
                            refine (tick_any T _ HP.out.wm.mc).mono ?_
                            rintro e w5 ⟨rfl, hm, hx⟩
                            rw [mcN_tick, HEe.out, if_neg (by decide)] at hm
                            rw [HEe.out]
                            have HA := Lib.hid (HP.out.wm.act hm hx)
                            clear hm hx
                            go_wp2_with fail
                            refine (state_any _ HA.out.mc).mono ?_
                            rintro e w8 ⟨rfl, rfl⟩
                            rw [mcN_st]
                            go_wp2
                            exact ⟨⟨j + 1, _, _, _, 2, beg, T, since, HJ.out, rfl, rfl, rfl, by go_num, T_next HT.out.2, HP.out.same HT.out.1 HA.out⟩, play_meas HJ.out⟩
                    · as_aux_lemma =>
                        have hs1 : (st == 2) = false := by simpa using hs
                        have HEe : Hid ((mcN 10 q f base st beg).ends T = false) := Lib.hid (PlAt.ends0 hs)
                        clear hs
                        go_wp2_with fail
                        refine (tick_any T _ HP.out.wm.mc).mono ?_
                        rintro e w5 ⟨rfl, hm, hx⟩
                        rw [mcN_tick, HEe.out, if_neg (by decide)] at hm
                        rw [HEe.out]
                        have HA := Lib.hid (HP.out.wm.act hm hx)
                        clear hm hx
                        go_wp2_with fail
                        refine (state_any _ HA.out.mc).mono ?_
                        rintro e w8 ⟨rfl, rfl⟩
                        rw [mcN_st]
                        go_wp2
                        exact ⟨⟨j + 1, _, _, _, st, beg, T, since, HJ.out, rfl, rfl, rfl, by go_num, T_next HT.out.2, HP.out.same HT.out.1 HA.out⟩, play_meas HJ.out⟩
        · have HNj := Lib.hid (show ¬ (j : Int) < (N : Int) by omega)
          have j1 := HNj.out
          clear hnow hp
          go_wp2_with fail
          refine (lives_any wr).mono ?_
          rintro e w9 ⟨rfl, hb⟩
          have HBl := Lib.hid (HP.out.wm.bel.trans (hb.mono HP.out.wm.bel.size))
          clear hb
          go_wp2
          go_ret
          exact ⟨rfl, HBl.out⟩
end Go.Proofs.Ytpjdodgbidkblaa
