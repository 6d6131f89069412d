/- The walk of FramesErrors. -/
import Derived.Test.YtohhocndicnegaaDoorFrTools
import Derived.Test.YtohhocndicnegaaDoorFrRows
import Derived.Test.YtohhocndicnegaaDoorRefCheck
import Derived.Test.YtohhocndicnegaaDoorRefScan
namespace Go.Proofs.YtohhocndicnegaaDoor
open Go.RowKit

theorem bits_of_text (s : ByteArray) : Bin (s.data.toList.map fun c => (c.toNat : Int) % 2) := by
  intro x hx; obtain ⟨c, _, rfl⟩ := List.mem_map.1 hx; omega
theorem scan_of_feed {T : List Int} (hT : Bin T) {y : Sc} {L : List (List Int)} (h : feed Sc.zero T = (y, L)) : scanL T = (L, y.errs, !y.ins) := by rw [scan_feed T hT, h]
set_option maxHeartbeats 1000000 in
set_option maxRecDepth 100000 in
theorem framesErrors_walk (s : ByteArray) (ab : Option Addr) (nb cb : Nat) (lb : List Int) (w : World) (hflag : FlagOk w) (_hs : s.size ≤ maxLen) (hrb : Row .u8 w ab nb cb lb) :
    Calls Tryd.prog 8 #[.string s, .slice ab nb cb] w fun e w' => e = .returned (.bool true) ∧ Below w.heap.size w w' := by
  have BB0 := Lib.hid (Below.refl w.heap.size w)
  have HF0 := Lib.hid hflag
  have HRB := Lib.hid hrb
  have hcm := hrb.max
  have hle := hrb.le
  unfold maxLen at hcm
  clear hflag hrb
  by_cases hbig : 400 < s.size
  · go_enter Tryd.func8, Tryd.ntmps8
    go_wp2_with fail
    refine (lives_any w (HF0.out.later BB0.out)).mono ?_
    rintro e w11 ⟨rfl, hb⟩
    have BB12 := Lib.hid (BB0.out.trans ((hb).mono BB0.out.size))
    clear hb BB0
    go_wp2
    go_ret
    exact ⟨rfl, BB12.out⟩
  · by_cases hbig2 : 100 < nb
    · go_enter Tryd.func8, Tryd.ntmps8
      go_wp2_with fail
      refine (lives_any w (HF0.out.later BB0.out)).mono ?_
      rintro e w51 ⟨rfl, hb⟩
      have BB52 := Lib.hid (BB0.out.trans ((hb).mono BB0.out.size))
      clear hb BB0
      go_wp2
      go_ret
      exact ⟨rfl, BB52.out⟩
    · obtain ⟨T, hT⟩ : ∃ T, T = s.data.toList.map fun c => (c.toNat : Int) % 2 := ⟨_, rfl⟩
      have hTb : Bin T := by rw [hT]; exact bits_of_text s
      have hTl : T.length = s.size := by rw [hT]; simp
      obtain ⟨n, hn⟩ : ∃ n, n = s.size := ⟨_, rfl⟩
      obtain ⟨k, hk⟩ : ∃ k, k = n / 2 := ⟨_, rfl⟩
      obtain ⟨y1, L1, hf1⟩ : ∃ y1 L1, feed Sc.zero (T.take k) = (y1, L1) := ⟨_, _, rfl⟩
      obtain ⟨y2, L2, hf2⟩ : ∃ y2 L2, feed y1 (T.drop k) = (y2, L2) := ⟨_, _, rfl⟩
      have hf : feed Sc.zero T = (y2, L1 ++ L2) := by
        have := feed_append Sc.zero (T.take k) (T.drop k)
        rw [List.take_append_drop, hf1] at this
        simp only [hf2] at this
        exact this
      have hsc := scan_of_feed hTb hf
      have hc1 := feed_count Sc.zero (T.take k)
      have hc2 := feed_count y1 (T.drop k)
      have hne1 := feed_ne Sc.zero (T.take k)
      have hne2 := feed_ne y1 (T.drop k)
      rw [hf1] at hc1 hne1
      rw [hf2] at hc2 hne2
      rw [List.length_take, hTl, ← hn] at hc1
      rw [List.length_drop, hTl, ← hn] at hc2
      obtain ⟨N1, hN1⟩ : ∃ N1, N1 = L1.length := ⟨_, rfl⟩
      obtain ⟨N2, hN2⟩ : ∃ N2, N2 = L2.length := ⟨_, rfl⟩
      simp only [← hN1] at hc1
      simp only [← hN2] at hc2
      have he1 : errOf (T.take k) = 0 := errOf_bin' (hTb.take k) (by rw [List.length_take, hTl]; omega)
      have he2 : errOf (T.drop k) = 0 := errOf_bin' (hTb.drop k) (by rw [List.length_drop, hTl]; omega)
      have hkdiv : (n : Int) / 2 = (k : Int) := by omega
      have hkn : k ≤ n := by omega
      have hn400 : n ≤ 400 := by omega
      have hmk : ∀ w, (Instr.makeSlice 22 (.int .i64 1048577) (.int .i64 1048577)).run Tryd.prog w = .ok (.slice (some ⟨w.heap.size, 0, none⟩) 1048577 1048577) (w.alloc (.cells (madeCells #[.int .u8 0] 1048577) 5)) := make8 1048577 (by omega)
      have HMk := Lib.hid hmk
      have HT := Lib.hid hT
      have HTb := Lib.hid hTb
      have HTl := Lib.hid hTl
      have HF1 := Lib.hid hf1
      have HF2 := Lib.hid hf2
      have HSc := Lib.hid hsc
      have HNe1 := Lib.hid hne1
      have HNe2 := Lib.hid hne2
      have HN1 := Lib.hid hN1
      have HN2 := Lib.hid hN2
      have HE1 := Lib.hid he1
      have HE2 := Lib.hid he2
      have HN := Lib.hid hn
      have HK := Lib.hid hk
      have hck := refCheck_any ab nb cb lb
      have HCk := Lib.hid hck
      clear hT hTb hTl hf1 hf2 hf hsc hne1 hne2 hN1 hN2 he1 he2 hn hk hmk hck
      have hsN : (s.size : Int) = (n : Int) := by rw [HN.out]
      go_enter Tryd.func8, Tryd.ntmps8
      go_wp2_with fail
      refine (feed_none none 0 0 _).mono ?_
      rintro e w' ⟨rfl, rfl⟩
      obtain ⟨w1, hw1⟩ : ∃ x, x = w.alloc (.cells #[.int .i64 0, .int .i64 0, .slice none 0 0, .int .i64 0] 55) := ⟨_, rfl⟩
      have hz : Own w1 w.heap.size 55 [.int .i64 0, .int .i64 0, .slice none 0 0, .int .i64 0] := by rw [hw1]; exact heap_alloc_new w _
      have hb := below_alloc w (.cells #[.int .i64 0, .int .i64 0, .slice none 0 0, .int .i64 0] 55)
      rw [← hw1] at hb ⊢
      obtain ⟨⟨z0, z1, z2, z3⟩, _⟩ := Own4.cells hz
      have BB101 := Lib.hid (BB0.out.trans ((hb).mono BB0.out.size))
      clear hb hw1 hz BB0
      go_wp2_with fail
      refine (feed_zero w.heap.size 0 ab nb cb w1 z0).mono ?_
      rintro e w' ⟨rfl, rfl⟩
      go_wp2_with fail
      refine (errors_nil w1).mono ?_
      rintro e w' ⟨rfl, rfl⟩
      go_wp2_with fail
      refine (errors_zero w.heap.size 0 w1 z3).mono ?_
      rintro e w' ⟨rfl, rfl⟩
      go_wp2_with fail
      refine (hunting_nil w1).mono ?_
      rintro e w' ⟨rfl, rfl⟩
      go_wp2_with fail
      refine (hunting_zero w.heap.size 0 w1 z0).mono ?_
      rintro e w' ⟨rfl, rfl⟩
      clear z0 z1 z2 z3
      have hz1 := BB101.out.size
      go_wp2_with fail
      refine (new_any w1).mono ?_
      rintro e w2 ⟨rfl, hb, hsx⟩
      have hs2 : w1.heap.size < w2.heap.size := hsx.lt.1
      have BB102 := Lib.hid (BB101.out.trans ((hb).mono BB101.out.size))
      have SX103 := Lib.hid (hsx)
      clear hb hsx BB101
      go_wp2_with fail
      refine (stream_b s n T _ HN.out.symm (by omega) HT.out.symm).mono ?_
      rintro e w3 ⟨⟨gT, rfl, hrT, hgT, hgT3⟩, hb⟩
      have hs3 := hb.size
      have BB104 := Lib.hid (BB102.out.trans ((hb).mono BB102.out.size))
      have SX105 := Lib.hid (SX103.out.later (hb))
      have RT106 := Lib.hid (hrT)
      clear hb hrT BB102 SX103
      go_wp2_with fail
      refine (feed_n w1.heap.size none Sc.zero y1 L1 0 N1 _ k n _ _ SX105.out (RT106.out.front k hkn) HE1.out (fun z hz => ⟨by simp at hz; subst hz; simp only; omega, by simp⟩) (by decide) HF1.out HN1.out.symm).mono ?_
      rintro e w4 ⟨aO, gX, rfl, hm1, hsx, hsn, hnil1⟩
      have hb := hsn.below (Nat.le_of_lt SX105.out.lt.1) (by simp) (Nat.le_refl _)
      have hs4 := hsn.exc.size
      have hgx : ∀ j, gX = some j → w3.heap.size ≤ j := fun j hj => by have := hsn.lies j hj; simpa using this
      have BB107 := Lib.hid (BB104.out.trans (hb.mono hz1))
      have RT108 := Lib.hid (RT106.out.exc hsn.exc (fun z hz hh => by simp at hz; subst hz; rcases hh with hh | hh; simp only at hh; omega; cases hh))
      have SX109 := Lib.hid (hsx)
      have M1110 := Lib.hid (hm1.weakLt (fun c hc => HNe1.out c hc))
      have HGx := Lib.hid hgx
      have HNil1 := Lib.hid hnil1
      clear hb hsn hsx hm1 hgx hnil1 BB104 SX105 RT106
      go_wp2_with fail
      refine (HCk.out _ (HRB.out.later BB107.out)).mono ?_
      rintro e w' ⟨rfl, rfl⟩
      obtain ⟨r, hr⟩ : ∃ r, r = errOf lb := ⟨_, rfl⟩
      rw [← hr]
      have HR := Lib.hid hr
      clear hr
      by_cases hr0 : r = 0
      · subst hr0
        go_wp2_with fail
        refine (lives_any w4 (HF0.out.later BB107.out)).mono ?_
        rintro e w111 ⟨rfl, hb⟩
        have BB112 := Lib.hid (BB107.out.trans ((hb).mono BB107.out.size))
        clear hb BB107 RT108 SX109 M1110
        go_wp2
        go_ret
        exact ⟨rfl, BB112.out⟩
      · have hr0' : (r == 0) = false := by simpa using hr0
        have hrr : (r == r) = true := by simp
        have HR0 := Lib.hid hr0
        clear hr0
        go_wp2_with fail
        refine (feed_err w1.heap.size gX y1 _ ab nb cb lb r _ SX109.out (HRB.out.later BB107.out) HR.out.symm HR0.out).mono ?_
        rintro e w' ⟨rfl, rfl⟩
        have hmk := HMk.out
        go_wp2_with fail
        have hra := below_alloc w4 (.cells (madeCells #[.int .u8 0] 1048577) 5)
        have hbigrow : Row .u8 (w4.alloc (.cells (madeCells #[.int .u8 0] 1048577) 5)) (some ⟨w4.heap.size, 0, none⟩) 1048577 1048577 (List.replicate 1048577 0) := (own_made .u8 1048577 5 w4).row0 _ _ (by rw [List.length_replicate]) (Nat.le_refl _) (by unfold maxLen; omega) (fun x hx => by rw [List.eq_of_mem_replicate hx]; decide)
        refine (feed_err w1.heap.size gX y1 _ _ 1048577 1048577 (List.replicate 1048577 0) 3 _ (SX109.out.later hra) hbigrow (errOf_big (by rw [List.length_replicate]; omega)) (by decide)).mono ?_
        rintro e w' ⟨rfl, rfl⟩
        obtain ⟨w5, hw5⟩ : ∃ x, x = w4.alloc (.cells (madeCells #[.int .u8 0] 1048577) 5) := ⟨_, rfl⟩
        rw [← hw5] at hra ⊢
        have hs5 := hra.size
        have BB211 := Lib.hid (BB107.out.trans ((hra).mono BB107.out.size))
        have RT212 := Lib.hid (RT108.out.later (hra))
        have SX213 := Lib.hid (SX109.out.later (hra))
        have M1214 := Lib.hid (M1110.out.later (hra))
        clear hra hw5 hbigrow hmk BB107 RT108 SX109 M1110
        have hgT5 : gT < w5.heap.size := by omega
        have hrows : ∀ oo : Nat, (k < n → oo = 0 + k) → Row .u8 w5 (some ⟨gT, oo, none⟩) (n - k) (n - k) (T.drop k) := fun oo hoo => RT212.out.cut k hkn (some ⟨gT, oo, none⟩) (fun h b o hbo => by simp at hbo; obtain ⟨rfl, rfl⟩ := hbo; rw [hoo h]) (by simp)
        have hfeed := fun oo hoo => feed_n w1.heap.size gX y1 y2 L2 _ N2 _ (n - k) (n - k) _ _ SX213.out (hrows oo hoo) HE2.out (fun z hz => by simp at hz; subst hz; refine ⟨by simp only; omega, fun hh => ?_⟩; have := HGx.out _ hh; simp only at this; omega) (by omega) HF2.out HN2.out.symm
        have HFeed := Lib.hid hfeed
        clear hfeed hrows
        by_cases hn0 : n = 0
        · have hk0 : k = 0 := by omega
          have hco := HFeed.out 0 (by omega)
          subst hk0 hn0
          have HCo := Lib.hid hco
          clear hco
          go_wp2_with fail
          refine HCo.out.mono ?_
          rintro e w6 ⟨aP, gX2, rfl, hm2, hsx, hsn, hnil2⟩
          have hb := hsn.below (Nat.le_of_lt SX213.out.lt.1) (fun j hj => by have := HGx.out j hj; omega) (Nat.le_refl _)
          have hs6 := hsn.exc.size
          have BB215 := Lib.hid (BB211.out.trans (hb.mono hz1))
          have RT216 := Lib.hid (RT212.out.exc hsn.exc (fun z hz hh => by simp at hz; subst hz; rcases hh with hh | hh; simp only at hh; omega; have := HGx.out _ hh; simp only at this; omega))
          have SX217 := Lib.hid (hsx)
          have M1218 := Lib.hid (M1214.out.exc hsn.exc (fun j hj hh => by rcases hh with hh | hh; omega; have := hj.1.2; exact hj.1.2 hh))
          have M2219 := Lib.hid (hm2.weakLt (fun c hc => HNe2.out c hc))
          have hlt2 : ∀ j, gX2 = some j → j < w6.heap.size := fun j hj => (SX217.out.lt.2 j hj).2
          have HLt2 := Lib.hid hlt2
          clear hlt2
          have HNil2 := Lib.hid hnil2
          clear hb hsn hsx hm2 hnil2 BB211 RT212 SX213 M1214
          go_wp2_with fail
          refine (scan_any _ 0 0 T _ RT216.out HTb.out (by omega)).mono ?_
          rintro e w7 ⟨hss, hb⟩
          rw [HSc.out] at hss
          have hlen : (L1 ++ L2).length = N1 + N2 := by rw [List.length_append, HN1.out, HN2.out]
          obtain ⟨vw, aw, cw, rfl, hvw0, hmw0⟩ := hss
          have hvw : vw = .slice aw (N1 + N2) cw := by rw [← hlen]; exact hvw0
          clear hvw0
          have hmw : Mat w7 (fun j => w6.heap.size ≤ j) false aw (N1 + N2) cw (L1 ++ L2) := by rw [← hlen]; exact hmw0
          subst hvw
          have HLen := Lib.hid hlen
          clear hmw0 hlen
          have hs7 := hb.size
          have BB220 := Lib.hid (BB215.out.trans ((hb).mono BB215.out.size))
          have SX221 := Lib.hid (SX217.out.later (hb))
          have M1222 := Lib.hid (M1218.out.later (hb))
          have M2223 := Lib.hid (M2219.out.later (hb))
          have MW224 := Lib.hid (hmw.weakLt (fun c hc => by rcases List.mem_append.1 hc with h | h; exact HNe1.out c h; exact HNe2.out c h))
          clear hb hmw BB215 RT216 SX217 M1218 M2219
          have hA1 := M1222.out.weak (P' := fun j => j < w7.heap.size) (fun j hj => by have := hj.2; omega)
          have hA2 := M2223.out.weak (P' := fun j => j < w7.heap.size) (fun j hj => by have := hj.2; omega)
          have HA1 := Lib.hid hA1
          have HA2 := Lib.hid hA2
          clear hA1 hA2
          go_wp2_with (at_builtin; refine wpList_append_rows rfl _ _ rfl w7.heap.size (fun j => j < w7.heap.size) true _ [] L1 _ _ _ rfl rfl (OwnMat.nil _ _ _ _) (by exact HA1.out) (by exact HNil1.out) (by exact fun k hk => by cases hk) (by simp; omega) (Nat.le_refl _) ?_)
          intro v8 w8 q1 q2
          have hb8 := q2.nil
          have hs8 := hb8.size
          have HQ2 := Lib.hid q2
          have HO8 := Lib.hid q1
          have hA2 := HA2.out.later hb8
          have HA3 := Lib.hid hA2
          have BB225 := Lib.hid (BB220.out.trans ((hb8).mono BB220.out.size))
          have SX226 := Lib.hid (SX221.out.later (hb8))
          have MW227 := Lib.hid (MW224.out.later (hb8))
          clear hb8 q1 q2 hA2 HA1 HA2 BB220 SX221 M1222 M2223 MW224
          go_wp2_with (at_builtin; refine wpList_append_rows rfl _ _ rfl w7.heap.size (fun j => j < w7.heap.size) true _ L1 L2 _ _ _ rfl rfl (by exact HO8.out) (by exact HA3.out) (by exact HNil2.out) (by exact fun k hk hh => by have := HQ2.out.lies k hk; rcases this with h | h; cases h; omega) (by rw [← HN1.out]; omega) hs8 ?_)
          intro v9 w9 q1 q2
          obtain ⟨a9, c9, rfl, hm9, hsp9⟩ := (q1.weak (P' := fun _ => True) (fun _ _ => trivial)).mat (fun _ _ => trivial)
          have hbx : Below w7.heap.size w8 w9 := q2.below hs8 (fun k hk => by have := HQ2.out.lies k hk; rcases this with h | h; cases h; exact h)
          have hxx : ∀ k, v8.ownBlock = some k → w7.heap.size ≤ k := fun k hk => by have := HQ2.out.lies k hk; rcases this with h | h; cases h; exact h
          have BB228 := Lib.hid (BB225.out.trans (hbx.mono (by omega)))
          have SX229 := Lib.hid (SX226.out.exc q2.exc (fun hh => by have := hxx _ hh; omega) (fun j hj hh => by have := hxx _ hh; have := HLt2.out j hj; omega))
          have MW230 := Lib.hid (MW227.out.exc q2.exc (fun j hj hh => by have := hxx _ hh; have := hj.2; omega))
          rw [HLen.out] at hm9 ⊢
          have hsp9' : ∀ z, a9 = some z → z.spot = none := fun z hz => (hsp9 z hz).1
          have hle9 := hm9.le
          have hmx9 := hm9.max
          unfold maxLen at hmx9
          have hm9n := hm9.isNil
          have HM9 := Lib.hid hm9.tight
          clear hm9 q1 q2 hsp9 hbx hxx BB225 SX226 MW227
          clear HQ2 HO8 HA3 HNe1 HNe2 HN1 HN2 HE1 HE2 HF1 HF2 HT HTb HSc HNil1 HNil2 HLt2
          have hnil9 := hm9n
          rcases a9 with _ | ⟨b9, o9, s9⟩
          · obtain rfl := hnil9 rfl
            have hz1 : N1 = 0 := by omega
            have hz2 : N2 = 0 := by omega
            subst hz1 hz2
            go_wp2_with fail
            refine (lists_yes _ _ false _ aw 0 cw (L1 ++ L2) _ HM9.out MW230.out).mono ?_
            rintro e w' ⟨rfl, q231, rfl⟩
            have hb := below_draw w9 q231
            obtain ⟨w231, hw⟩ : ∃ x, x = (w9).drewN q231 := ⟨_, rfl⟩
            rw [← hw] at hb ⊢
            have BB232 := Lib.hid (BB228.out.trans ((hb).mono BB228.out.size))
            have SX233 := Lib.hid (SX229.out.later (hb))
            clear hb hw BB228 SX229 MW230
            go_wp2_with fail
            refine (errors_any w1.heap.size gX2 _ _ _ SX233.out).mono ?_
            rintro e w' ⟨rfl, rfl⟩
            go_wp2_with fail
            refine (hunting_any w1.heap.size gX2 _ _ _ SX233.out).mono ?_
            rintro e w' ⟨rfl, rfl⟩
            go_wp2_with fail
            refine (lives_any w231 (HF0.out.later BB232.out)).mono ?_
            rintro e w234 ⟨rfl, hb⟩
            have BB235 := Lib.hid (BB232.out.trans ((hb).mono BB232.out.size))
            clear hb BB232 SX233
            go_wp2
            go_ret
            exact ⟨rfl, BB235.out⟩
          · have hs9 := hsp9' _ rfl
            simp only at hs9
            subst hs9
            clear hsp9' hnil9
            go_wp2_with fail
            refine (lists_yes _ _ false _ aw (N1 + N2) cw (L1 ++ L2) _ HM9.out MW230.out).mono ?_
            rintro e w' ⟨rfl, q281, rfl⟩
            have hb := below_draw w9 q281
            obtain ⟨w281, hw⟩ : ∃ x, x = (w9).drewN q281 := ⟨_, rfl⟩
            rw [← hw] at hb ⊢
            have BB282 := Lib.hid (BB228.out.trans ((hb).mono BB228.out.size))
            have SX283 := Lib.hid (SX229.out.later (hb))
            clear hb hw BB228 SX229 MW230
            go_wp2_with fail
            refine (errors_any w1.heap.size gX2 _ _ _ SX283.out).mono ?_
            rintro e w' ⟨rfl, rfl⟩
            go_wp2_with fail
            refine (hunting_any w1.heap.size gX2 _ _ _ SX283.out).mono ?_
            rintro e w' ⟨rfl, rfl⟩
            go_wp2_with fail
            refine (lives_any w281 (HF0.out.later BB282.out)).mono ?_
            rintro e w284 ⟨rfl, hb⟩
            have BB285 := Lib.hid (BB282.out.trans ((hb).mono BB282.out.size))
            clear hb BB282 SX283
            go_wp2
            go_ret
            exact ⟨rfl, BB285.out⟩
        · have hco := HFeed.out (0 + k) (fun _ => rfl)
          simp only [Nat.zero_add] at hco
          have HCo := Lib.hid hco
          clear hco
          go_wp2_with fail
          refine HCo.out.mono ?_
          rintro e w6 ⟨aP, gX2, rfl, hm2, hsx, hsn, hnil2⟩
          have hb := hsn.below (Nat.le_of_lt SX213.out.lt.1) (fun j hj => by have := HGx.out j hj; omega) (Nat.le_refl _)
          have hs6 := hsn.exc.size
          have BB315 := Lib.hid (BB211.out.trans (hb.mono hz1))
          have RT316 := Lib.hid (RT212.out.exc hsn.exc (fun z hz hh => by simp at hz; subst hz; rcases hh with hh | hh; simp only at hh; omega; have := HGx.out _ hh; simp only at this; omega))
          have SX317 := Lib.hid (hsx)
          have M1318 := Lib.hid (M1214.out.exc hsn.exc (fun j hj hh => by rcases hh with hh | hh; omega; have := hj.1.2; exact hj.1.2 hh))
          have M2319 := Lib.hid (hm2.weakLt (fun c hc => HNe2.out c hc))
          have hlt2 : ∀ j, gX2 = some j → j < w6.heap.size := fun j hj => (SX317.out.lt.2 j hj).2
          have HLt2 := Lib.hid hlt2
          clear hlt2
          have HNil2 := Lib.hid hnil2
          clear hb hsn hsx hm2 hnil2 BB211 RT212 SX213 M1214
          go_wp2_with fail
          refine (scan_any _ n n T _ RT316.out HTb.out (by omega)).mono ?_
          rintro e w7 ⟨hss, hb⟩
          rw [HSc.out] at hss
          have hlen : (L1 ++ L2).length = N1 + N2 := by rw [List.length_append, HN1.out, HN2.out]
          obtain ⟨vw, aw, cw, rfl, hvw0, hmw0⟩ := hss
          have hvw : vw = .slice aw (N1 + N2) cw := by rw [← hlen]; exact hvw0
          clear hvw0
          have hmw : Mat w7 (fun j => w6.heap.size ≤ j) false aw (N1 + N2) cw (L1 ++ L2) := by rw [← hlen]; exact hmw0
          subst hvw
          have HLen := Lib.hid hlen
          clear hmw0 hlen
          have hs7 := hb.size
          have BB320 := Lib.hid (BB315.out.trans ((hb).mono BB315.out.size))
          have SX321 := Lib.hid (SX317.out.later (hb))
          have M1322 := Lib.hid (M1318.out.later (hb))
          have M2323 := Lib.hid (M2319.out.later (hb))
          have MW324 := Lib.hid (hmw.weakLt (fun c hc => by rcases List.mem_append.1 hc with h | h; exact HNe1.out c h; exact HNe2.out c h))
          clear hb hmw BB315 RT316 SX317 M1318 M2319
          have hA1 := M1322.out.weak (P' := fun j => j < w7.heap.size) (fun j hj => by have := hj.2; omega)
          have hA2 := M2323.out.weak (P' := fun j => j < w7.heap.size) (fun j hj => by have := hj.2; omega)
          have HA1 := Lib.hid hA1
          have HA2 := Lib.hid hA2
          clear hA1 hA2
          go_wp2_with (at_builtin; refine wpList_append_rows rfl _ _ rfl w7.heap.size (fun j => j < w7.heap.size) true _ [] L1 _ _ _ rfl rfl (OwnMat.nil _ _ _ _) (by exact HA1.out) (by exact HNil1.out) (by exact fun k hk => by cases hk) (by simp; omega) (Nat.le_refl _) ?_)
          intro v8 w8 q1 q2
          have hb8 := q2.nil
          have hs8 := hb8.size
          have HQ2 := Lib.hid q2
          have HO8 := Lib.hid q1
          have hA2 := HA2.out.later hb8
          have HA3 := Lib.hid hA2
          have BB325 := Lib.hid (BB320.out.trans ((hb8).mono BB320.out.size))
          have SX326 := Lib.hid (SX321.out.later (hb8))
          have MW327 := Lib.hid (MW324.out.later (hb8))
          clear hb8 q1 q2 hA2 HA1 HA2 BB320 SX321 M1322 M2323 MW324
          go_wp2_with (at_builtin; refine wpList_append_rows rfl _ _ rfl w7.heap.size (fun j => j < w7.heap.size) true _ L1 L2 _ _ _ rfl rfl (by exact HO8.out) (by exact HA3.out) (by exact HNil2.out) (by exact fun k hk hh => by have := HQ2.out.lies k hk; rcases this with h | h; cases h; omega) (by rw [← HN1.out]; omega) hs8 ?_)
          intro v9 w9 q1 q2
          obtain ⟨a9, c9, rfl, hm9, hsp9⟩ := (q1.weak (P' := fun _ => True) (fun _ _ => trivial)).mat (fun _ _ => trivial)
          have hbx : Below w7.heap.size w8 w9 := q2.below hs8 (fun k hk => by have := HQ2.out.lies k hk; rcases this with h | h; cases h; exact h)
          have hxx : ∀ k, v8.ownBlock = some k → w7.heap.size ≤ k := fun k hk => by have := HQ2.out.lies k hk; rcases this with h | h; cases h; exact h
          have BB328 := Lib.hid (BB325.out.trans (hbx.mono (by omega)))
          have SX329 := Lib.hid (SX326.out.exc q2.exc (fun hh => by have := hxx _ hh; omega) (fun j hj hh => by have := hxx _ hh; have := HLt2.out j hj; omega))
          have MW330 := Lib.hid (MW327.out.exc q2.exc (fun j hj hh => by have := hxx _ hh; have := hj.2; omega))
          rw [HLen.out] at hm9 ⊢
          have hsp9' : ∀ z, a9 = some z → z.spot = none := fun z hz => (hsp9 z hz).1
          have hle9 := hm9.le
          have hmx9 := hm9.max
          unfold maxLen at hmx9
          have hm9n := hm9.isNil
          have HM9 := Lib.hid hm9.tight
          clear hm9 q1 q2 hsp9 hbx hxx BB325 SX326 MW327
          clear HQ2 HO8 HA3 HNe1 HNe2 HN1 HN2 HE1 HE2 HF1 HF2 HT HTb HSc HNil1 HNil2 HLt2
          have hnil9 := hm9n
          rcases a9 with _ | ⟨b9, o9, s9⟩
          · obtain rfl := hnil9 rfl
            have hz1 : N1 = 0 := by omega
            have hz2 : N2 = 0 := by omega
            subst hz1 hz2
            go_wp2_with fail
            refine (lists_yes _ _ false _ aw 0 cw (L1 ++ L2) _ HM9.out MW330.out).mono ?_
            rintro e w' ⟨rfl, q331, rfl⟩
            have hb := below_draw w9 q331
            obtain ⟨w331, hw⟩ : ∃ x, x = (w9).drewN q331 := ⟨_, rfl⟩
            rw [← hw] at hb ⊢
            have BB332 := Lib.hid (BB328.out.trans ((hb).mono BB328.out.size))
            have SX333 := Lib.hid (SX329.out.later (hb))
            clear hb hw BB328 SX329 MW330
            go_wp2_with fail
            refine (errors_any w1.heap.size gX2 _ _ _ SX333.out).mono ?_
            rintro e w' ⟨rfl, rfl⟩
            go_wp2_with fail
            refine (hunting_any w1.heap.size gX2 _ _ _ SX333.out).mono ?_
            rintro e w' ⟨rfl, rfl⟩
            go_wp2_with fail
            refine (lives_any w331 (HF0.out.later BB332.out)).mono ?_
            rintro e w334 ⟨rfl, hb⟩
            have BB335 := Lib.hid (BB332.out.trans ((hb).mono BB332.out.size))
            clear hb BB332 SX333
            go_wp2
            go_ret
            exact ⟨rfl, BB335.out⟩
          · have hs9 := hsp9' _ rfl
            simp only at hs9
            subst hs9
            clear hsp9' hnil9
            go_wp2_with fail
            refine (lists_yes _ _ false _ aw (N1 + N2) cw (L1 ++ L2) _ HM9.out MW330.out).mono ?_
            rintro e w' ⟨rfl, q381, rfl⟩
            have hb := below_draw w9 q381
            obtain ⟨w381, hw⟩ : ∃ x, x = (w9).drewN q381 := ⟨_, rfl⟩
            rw [← hw] at hb ⊢
            have BB382 := Lib.hid (BB328.out.trans ((hb).mono BB328.out.size))
            have SX383 := Lib.hid (SX329.out.later (hb))
            clear hb hw BB328 SX329 MW330
            go_wp2_with fail
            refine (errors_any w1.heap.size gX2 _ _ _ SX383.out).mono ?_
            rintro e w' ⟨rfl, rfl⟩
            go_wp2_with fail
            refine (hunting_any w1.heap.size gX2 _ _ _ SX383.out).mono ?_
            rintro e w' ⟨rfl, rfl⟩
            go_wp2_with fail
            refine (lives_any w381 (HF0.out.later BB382.out)).mono ?_
            rintro e w384 ⟨rfl, hb⟩
            have BB385 := Lib.hid (BB382.out.trans ((hb).mono BB382.out.size))
            clear hb BB382 SX383
            go_wp2
            go_ret
            exact ⟨rfl, BB385.out⟩
end Go.Proofs.YtohhocndicnegaaDoor
