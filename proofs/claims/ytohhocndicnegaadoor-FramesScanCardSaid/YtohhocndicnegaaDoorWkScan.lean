/- The walk of FramesScan. -/
import Derived.Test.YtohhocndicnegaaDoorFrTools
import Derived.Test.YtohhocndicnegaaDoorFrRows
import Derived.Test.YtohhocndicnegaaDoorRefScan
namespace Go.Proofs.YtohhocndicnegaaDoor
open Go.RowKit

/-- A scanner and what it has found, over several calls. -/
structure Fnd (w : World) (b : Nat) (g' : Option Nat) (wr : World) (y : Sc) (m : Nat) (v : Value) (L : List (List Int)) : Prop where
  sc : ScAt wr b g' y m
  sn : Scn b none w g' wr
  mat : OwnMat wr w.heap.size (CollP w g' v wr) true v L
  apart : ∀ j, v.ownBlock = some j → w.heap.size ≤ j ∧ j < wr.heap.size ∧ g' ≠ some j
theorem Fnd.step {w : World} {b : Nat} {g' g2 : Option Nat} {wr w2 : World} {y y2 : Sc} {m m2 : Nat} {v : Value} {L L2 : List (List Int)} {a : Option Addr} {n : Nat} (h : Fnd w b g' wr y m v L) (hb : b < w.heap.size)
    (hs : ScAt w2 b g2 y2 m2) (hn : Scn b g' wr g2 w2) (hm : Mat w2 (fun j => wr.heap.size ≤ j ∧ g2 ≠ some j) true a n n L2) (hne : ∀ c ∈ L2, c ≠ []) :
    Fnd w b g2 w2 y2 m2 v L ∧ Mat w2 (CollP w g2 v w2) true a n n L2 := by
  have hsz := h.sn.exc.size
  have hsz2 := hn.exc.size
  have hap : ∀ j, v.ownBlock = some j → w.heap.size ≤ j ∧ j < w2.heap.size ∧ g2 ≠ some j := fun j hj => by
    obtain ⟨h1, h2, h3⟩ := h.apart j hj
    refine ⟨h1, by omega, fun hh => ?_⟩
    rcases hn.lies j hh with h4 | h4
    · exact h3 h4
    · omega
  have hm1 : OwnMat wr w.heap.size (fun j => CollP w g' v wr j ∧ g2 ≠ some j) true v L := h.mat.weak fun j hj => ⟨hj, fun hh => by
    rcases hn.lies j hh with h4 | h4
    · exact hj.2.1 h4
    · have := hj.2.2.2; omega⟩
  have hm2 := hm1.exc hn.exc (fun k hk hh => by
    rcases hh with hh | hh
    · have := hk.1.1; omega
    · exact hk.1.2.1 hh) (fun k hk hh => by
    obtain ⟨h1, _, h3⟩ := h.apart k hk
    rcases hh with hh | hh
    · omega
    · exact h3 hh)
  refine ⟨⟨hs, h.sn.trans hn, hm2.weak fun j hj => ⟨hj.1.1, hj.2, hj.1.2.2.1, by have := hj.1.2.2.2; omega⟩, hap⟩, (hm.weakLt hne).weak fun j hj => ⟨by omega, hj.1.2, fun hh => by have := (h.apart j hh).2.1; omega, hj.2⟩⟩
theorem Fnd.add {w : World} {b : Nat} {g2 : Option Nat} {w2 w3 : World} {y2 : Sc} {m2 : Nat} {v v3 : Value} {L L2 : List (List Int)} (h : Fnd w b g2 w2 y2 m2 v L) (hb : b < w.heap.size)
    (hm : OwnMat w3 w.heap.size (CollP w g2 v w2) true v3 (L ++ L2)) (hg : Grow v w2 v3 w3) : Fnd w b g2 w3 y2 m2 v3 (L ++ L2) := by
  have hsz := h.sn.exc.size
  have hbv : v.ownBlock ≠ some b := fun hh => by have := (h.apart b hh).1; omega
  have hgv : ∀ k, g2 = some k → v.ownBlock ≠ some k := fun k hk hh => (h.apart k hh).2.2 hk
  refine ⟨h.sc.exc hg.exc hbv hgv, ⟨h.sn.exc.trans hg.exc fun i hi hh => by have := (h.apart i hh).1; omega, h.sn.lies⟩, hm.weak fun j ⟨h1, h2, h3, h4⟩ => ⟨h1, h2, fun hh => ?_, by have := hg.exc.size; omega⟩, fun j hj => ?_⟩
  · rcases hg.lies j hh with h5 | h5
    · exact h3 h5
    · omega
  · rcases hg.lies j hj with h1 | h1
    · obtain ⟨h2, h3, h4⟩ := h.apart j h1
      exact ⟨h2, Nat.lt_of_lt_of_le h3 hg.exc.size, h4⟩
    · exact ⟨by omega, (hm.lt j hj).2, fun hh => by have := (h.sc.lt.2 j hh).2; omega⟩
theorem bits_of_text2 (s : ByteArray) : Bin (s.data.toList.map fun c => (c.toNat : Int) % 2) := by
  intro x hx; obtain ⟨c, _, rfl⟩ := List.mem_map.1 hx; omega
set_option maxHeartbeats 2000000 in
set_option maxRecDepth 100000 in
theorem framesScan_walk (s : ByteArray) (a2 : Option Addr) (n2 c2 : Nat) (sz : List Int) (w : World) (hflag : FlagOk w) (_hs : s.size ≤ maxLen) (h2 : Row .u8 w a2 n2 c2 sz) :
    Calls Tryd.prog 5 #[.string s, .slice a2 n2 c2] w fun e w' => e = .returned (.bool true) ∧ Below w.heap.size w w' := by
  have BB0 := Lib.hid (Below.refl w.heap.size w)
  have HF0 := Lib.hid hflag
  have HR2 := Lib.hid h2
  have hle2 := h2.le
  have hcm2 := h2.max
  unfold maxLen at hcm2
  clear hflag h2
  by_cases hbig : 1500 < s.size
  · go_enter Tryd.func5, Tryd.ntmps5
    go_wp2_with fail
    refine (lives_any w (HF0.out.later BB0.out)).mono ?_
    rintro e w11 ⟨rfl, hb⟩
    have BB12 := Lib.hid (BB0.out.trans ((hb).mono BB0.out.size))
    clear hb BB0
    go_wp2
    go_ret
    exact ⟨rfl, BB12.out⟩
  · by_cases hbig2 : 20 < n2
    · go_enter Tryd.func5, Tryd.ntmps5
      go_wp2_with fail
      refine (lives_any w (HF0.out.later BB0.out)).mono ?_
      rintro e w51 ⟨rfl, hb⟩
      have BB52 := Lib.hid (BB0.out.trans ((hb).mono BB0.out.size))
      clear hb BB0
      go_wp2
      go_ret
      exact ⟨rfl, BB52.out⟩
    · obtain ⟨T, hT⟩ : ∃ T, T = s.data.toList.map fun c => (c.toNat : Int) % 2 := ⟨_, rfl⟩
      have hTb : Bin T := by rw [hT]; exact bits_of_text2 s
      have hTl : T.length = s.size := by rw [hT]; simp
      obtain ⟨n, hn⟩ : ∃ n, n = s.size := ⟨_, rfl⟩
      rw [← hn] at hTl
      obtain ⟨yF, LF, hf⟩ : ∃ yF LF, feed Sc.zero T = (yF, LF) := ⟨_, _, rfl⟩
      have hsc : scanL T = (LF, yF.errs, !yF.ins) := by rw [scan_feed T hTb, hf]
      have hne := feed_ne Sc.zero T
      have hcn := feed_count Sc.zero T
      rw [hf] at hne hcn
      obtain ⟨N, hN⟩ : ∃ N, N = LF.length := ⟨_, rfl⟩
      have hN2 : N ≤ 1500 := by simp only at hcn; omega
      have hTe : errOf T = 0 := errOf_bin' hTb (by omega)
      have hsN : (s.size : Int) = (n : Int) := by rw [hn]
      have HN := Lib.hid hn
      have HT := Lib.hid hT
      have HTb := Lib.hid hTb
      have HTl := Lib.hid hTl
      have HTe := Lib.hid hTe
      have HFd := Lib.hid hf
      have HSc := Lib.hid hsc
      have HNe := Lib.hid hne
      have HNl := Lib.hid hN
      have hn15 : n ≤ 1500 := by omega
      clear hT hTb hTl hn hf hsc hne hcn hN hTe
      go_enter Tryd.func5, Tryd.ntmps5
      go_wp2_with fail
      refine (stream_b s n T _ HN.out.symm (by omega) HT.out.symm).mono ?_
      rintro e w1 ⟨⟨gT, rfl, hrT, hgT, hgT1⟩, hb⟩
      have BB101 := Lib.hid (BB0.out.trans ((hb).mono BB0.out.size))
      have RT102 := Lib.hid (hrT)
      clear hb hrT BB0
      go_wp2_with fail
      refine (scan_any _ n n T _ RT102.out HTb.out (by omega)).mono ?_
      rintro e w2 ⟨hss, hb⟩
      rw [HSc.out] at hss
      obtain ⟨vw, aw, cw, rfl, hvw0, hmw0⟩ := hss
      have hvw : vw = .slice aw N cw := by rw [HNl.out]; exact hvw0
      have hmw : Mat w2 (fun j => w1.heap.size ≤ j) false aw N cw LF := by rw [HNl.out]; exact hmw0
      clear hvw0 hmw0
      subst hvw
      have hs2 := hb.size
      have BB103 := Lib.hid (BB101.out.trans ((hb).mono BB101.out.size))
      have RT104 := Lib.hid (RT102.out.later (hb))
      have MW105 := Lib.hid (hmw.weakLt (fun c hc => HNe.out c hc))
      clear hb hmw BB101 RT102
      have hz2 := BB103.out.size
      go_wp2_with fail
      refine (new_any w2).mono ?_
      rintro e w3 ⟨rfl, hb, hsx⟩
      have hs3 : w2.heap.size < w3.heap.size := hsx.lt.1
      have BB106 := Lib.hid (BB103.out.trans ((hb).mono BB103.out.size))
      have RT107 := Lib.hid (RT104.out.later (hb))
      have MW108 := Lib.hid (MW105.out.later (hb))
      have SX109 := Lib.hid (hsx)
      clear hb hsx BB103 RT104 MW105
      go_wp2_with fail
      refine (feed_n w2.heap.size none Sc.zero yF LF 0 N _ n n _ _ SX109.out RT107.out HTe.out (fun z hz => ⟨by simp at hz; subst hz; simp only; omega, by simp⟩) (by decide) HFd.out HNl.out.symm).mono ?_
      rintro e w4 ⟨aO, gX, rfl, hm1, hsx, hsn, _⟩
      have hb := hsn.below (Nat.le_of_lt SX109.out.lt.1) (by simp) (Nat.le_refl _)
      have hs4 := hsn.exc.size
      have BB110 := Lib.hid (BB106.out.trans (hb.mono hz2))
      have RT111 := Lib.hid (RT107.out.laterB hb (fun z hz => by simp at hz; subst hz; simp only; omega))
      have MW112 := Lib.hid (MW108.out.laterB hb (fun j hj => hj.2))
      have SX113 := Lib.hid (hsx)
      have M1114 := Lib.hid (hm1)
      clear hb hsn hsx hm1 BB106 RT107 MW108 SX109
      go_wp2_with fail
      refine (lists_yes _ _ false _ aw N cw LF _ M1114.out MW112.out).mono ?_
      rintro e w' ⟨rfl, q115, rfl⟩
      have hb := below_draw w4 q115
      obtain ⟨w115, hw⟩ : ∃ x, x = (w4).drewN q115 := ⟨_, rfl⟩
      rw [← hw] at hb ⊢
      have hs5 := hb.size
      have BB116 := Lib.hid (BB110.out.trans ((hb).mono BB110.out.size))
      have RT117 := Lib.hid (RT111.out.later (hb))
      have MW118 := Lib.hid (MW112.out.later (hb))
      have SX119 := Lib.hid (SX113.out.later (hb))
      clear hb hw BB110 RT111 MW112 SX113 M1114
      skip
      go_wp2_with fail
      refine (errors_any w2.heap.size gX _ _ _ SX119.out).mono ?_
      rintro e w' ⟨rfl, rfl⟩
      go_wp2_with fail
      refine (hunting_any w2.heap.size gX _ _ _ SX119.out).mono ?_
      rintro e w' ⟨rfl, rfl⟩
      clear SX119
      have hz5 := BB116.out.size
      go_wp2_with fail
      refine (new_any w115).mono ?_
      rintro e w6 ⟨rfl, hb, hsy⟩
      have hs6 : w115.heap.size < w6.heap.size := hsy.lt.1
      have BB120 := Lib.hid (BB116.out.trans ((hb).mono BB116.out.size))
      have RT121 := Lib.hid (RT117.out.later (hb))
      have MW122 := Lib.hid (MW118.out.later (hb))
      have SY123 := Lib.hid (hsy)
      clear hb hsy BB116 RT117 MW118
      skip
      have hfn : Fnd w6 w115.heap.size none w6 Sc.zero 0 (.slice none 0 0) [] := ⟨SY123.out, Scn.refl _ _ _, OwnMat.nil _ _ _ _, by simp [Value.ownBlock]⟩
      have HFn := Lib.hid hfn
      clear hfn
      go_wp2_with fail
      go_loopw [13, 14, 15, 16, 17, 18] (fun v rest i _ _ _ wr => ∃ k p R qq : Nat, ∃ g' yk Lk, k ≤ n2 + 1 ∧ i = .int .i64 k ∧ p + R = n ∧ (k = n2 + 1 → R = 0) ∧ (0 < R → qq = p) ∧ rest = .slice (some ⟨gT, qq, none⟩) R R ∧ feed Sc.zero (T.take p) = (yk, Lk) ∧ Lk.length ≤ p ∧ Fnd w6 w115.heap.size g' wr yk (2 * p) v Lk) (fun _ _ i _ _ _ _ => n2 + 1 - (intOf i).toNat)
      case atStart => exact ⟨0, 0, n, 0, none, Sc.zero, [], by omega, rfl, by omega, by omega, fun _ => rfl, rfl, rfl, by simp, HFn.out⟩
      case round =>
        obtain ⟨k, p, R, qq, g', yk, Lk, hk, rfl, hpR, hlast, hqq, rfl, hfk, hlk, hfn⟩ := hrel
        have hex := hfn.sn.exc
        have hszr := hex.size
        have hRT := RT121.out.exc hex (fun z hz hh => by simp at hz; subst hz; rcases hh with hh | hh; simp only at hh; omega; cases hh)
        have hrest := hRT.cut p (by omega) (some ⟨gT, qq, none⟩) (fun h b o hbo => by simp at hbo; obtain ⟨rfl, rfl⟩ := hbo; rw [hqq (by omega), Nat.zero_add]) (by simp)
        rw [show n - p = R by omega] at hrest
        have HRe := Lib.hid hrest
        have HEx := Lib.hid hex
        have HFk := Lib.hid hfk
        have HFn2 := Lib.hid hfn
        have HQq := Lib.hid hqq
        have HLast := Lib.hid hlast
        have hgl := hfn.sc.lt
        have HGl := Lib.hid hgl
        have hgli := hfn.sn.lies
        have HGi := Lib.hid hgli
        clear hrest hRT hex hfk hfn hqq hlast hgl hgli
        by_cases hlt : k < n2 + 1
        · have hstep : ∀ nn, nn ≤ R → ∃ y2 L2, feed yk ((T.drop p).take nn) = (y2, L2) ∧ feed Sc.zero (T.take (p + nn)) = (y2, Lk ++ L2) ∧ L2.length ≤ nn ∧ (∀ c ∈ L2, c ≠ []) ∧ errOf ((T.drop p).take nn) = 0 := fun nn hnn => by
            obtain ⟨y2, L2, hy⟩ : ∃ y2 L2, feed yk ((T.drop p).take nn) = (y2, L2) := ⟨_, _, rfl⟩
            have h1 := feed_append Sc.zero (T.take p) ((T.drop p).take nn)
            rw [HFk.out] at h1
            simp only [hy] at h1
            have h2 := feed_count yk ((T.drop p).take nn)
            have h3 := feed_ne yk ((T.drop p).take nn)
            rw [hy] at h2 h3
            rw [List.length_take, List.length_drop, HTl.out] at h2
            simp only at h2 h3
            refine ⟨y2, L2, hy, ?_, by omega, h3, errOf_bin' ((HTb.out.drop p).take nn) (by rw [List.length_take, List.length_drop, HTl.out]; omega)⟩
            rw [List.take_add]
            exact h1
          have HStep := Lib.hid hstep
          clear hstep
          by_cases hkl : k < n2
          · have hsr : Row .u8 wr a2 n2 c2 sz := HR2.out.later ((BB120.out).trans (HEx.out.below (B := w.heap.size) (by omega) (fun i hi hh => by rcases hh with hh | hh; omega; cases hh)))
            obtain ⟨sb, so, rfl, g0⟩ := row_at hsr hkl
            have hx := wf_u8.1 (HR2.out.wf (sz.getD k 0) (by rw [List.getD_eq_getElem?_getD, List.getElem?_eq_getElem (by rw [HR2.out.len]; exact hkl), Option.getD_some]; exact List.getElem_mem _))
            obtain ⟨x, hxe⟩ : ∃ x, x = sz.getD k 0 := ⟨_, rfl⟩
            rw [← hxe] at g0 hx
            obtain ⟨y, rfl⟩ := Int.eq_ofNat_of_zero_le hx.1
            obtain ⟨hx0, hx1⟩ := hx
            clear hsr hxe
            by_cases hmin : y < R
            · obtain ⟨y2, L2, hf2, hf3, hl2, hne2, he2⟩ := HStep.out (y) (by omega)
              obtain ⟨N2, hN2⟩ : ∃ N2, N2 = L2.length := ⟨_, rfl⟩
              rw [← hN2] at hl2
              have HF2 := Lib.hid hf2
              have HF3 := Lib.hid hf3
              have HNe2 := Lib.hid hne2
              have HE2 := Lib.hid he2
              have HN2 := Lib.hid hN2
              clear hf2 hf3 hne2 he2 hN2
              go_wp2_with fail
              refine (feed_n w115.heap.size g' yk y2 L2 (2 * p) N2 (some ⟨gT, qq, none⟩) (y) R _ wr HFn2.out.sc (HRe.out.front (y) (by omega)) HE2.out (fun z hz => by simp at hz; subst hz; refine ⟨by simp only; omega, fun hh => ?_⟩; rcases HGi.out _ hh with h | h; cases h; simp only at h; omega) (by omega) HF2.out HN2.out.symm).mono ?_
              rintro e wa ⟨aM, g2, rfl, hmm, hsy, hsn, hnil⟩
              have hst := HFn2.out.step hs6 hsy hsn hmm (fun c hc => HNe2.out c hc)
              have HSt := Lib.hid hst
              have HNil := Lib.hid hnil
              have hsa := Nat.le_trans hszr hsn.exc.size
              clear hmm hsy hsn hst hnil
              go_wp2_with (at_builtin; refine wpList_append_rows rfl _ _ rfl w6.heap.size _ true _ Lk L2 _ _ _ rfl rfl (by exact HSt.out.1.mat) (by exact HSt.out.2) (by exact HNil.out) (by exact fun j hj hh => hh.2.2.1 hj) (by omega) hsa ?_)
              intro vb wb q1 q2
              have hfb := HSt.out.1.add hs6 q1 q2
              have HFb := Lib.hid hfb
              clear q1 q2 hfb
              go_wp2
              exact ⟨⟨k + 1, p + y, R - y, qq + y, g2, y2, Lk ++ L2, by omega, by go_num, by omega, by omega, fun _ => by have := HQq.out (by omega); omega, by simp, HF3.out, by rw [List.length_append, ← HN2.out]; omega, by have := HFb.out; rw [show 2 * p + 2 * y = 2 * (p + y) by omega] at this; exact this⟩, by simp [intOf]; omega⟩
            · have hmin' : R ≤ y := by omega
              obtain ⟨y2, L2, hf2, hf3, hl2, hne2, he2⟩ := HStep.out (R) (by omega)
              obtain ⟨N2, hN2⟩ : ∃ N2, N2 = L2.length := ⟨_, rfl⟩
              rw [← hN2] at hl2
              have HF2 := Lib.hid hf2
              have HF3 := Lib.hid hf3
              have HNe2 := Lib.hid hne2
              have HE2 := Lib.hid he2
              have HN2 := Lib.hid hN2
              clear hf2 hf3 hne2 he2 hN2
              go_wp2_with fail
              refine (feed_n w115.heap.size g' yk y2 L2 (2 * p) N2 (some ⟨gT, qq, none⟩) (R) R _ wr HFn2.out.sc (HRe.out.front (R) (by omega)) HE2.out (fun z hz => by simp at hz; subst hz; refine ⟨by simp only; omega, fun hh => ?_⟩; rcases HGi.out _ hh with h | h; cases h; simp only at h; omega) (by omega) HF2.out HN2.out.symm).mono ?_
              rintro e wa ⟨aM, g2, rfl, hmm, hsy, hsn, hnil⟩
              have hst := HFn2.out.step hs6 hsy hsn hmm (fun c hc => HNe2.out c hc)
              have HSt := Lib.hid hst
              have HNil := Lib.hid hnil
              have hsa := Nat.le_trans hszr hsn.exc.size
              clear hmm hsy hsn hst hnil
              go_wp2_with (at_builtin; refine wpList_append_rows rfl _ _ rfl w6.heap.size _ true _ Lk L2 _ _ _ rfl rfl (by exact HSt.out.1.mat) (by exact HSt.out.2) (by exact HNil.out) (by exact fun j hj hh => hh.2.2.1 hj) (by omega) hsa ?_)
              intro vb wb q1 q2
              have hfb := HSt.out.1.add hs6 q1 q2
              have HFb := Lib.hid hfb
              clear q1 q2 hfb
              go_wp2
              exact ⟨⟨k + 1, n, 0, qq, g2, y2, Lk ++ L2, by omega, by go_num, by omega, fun _ => rfl, by omega, by simp, by have := HF3.out; rw [show p + R = n by omega] at this; exact this, by rw [List.length_append, ← HN2.out]; omega, by have := HFb.out; rw [show 2 * p + 2 * R = 2 * n by omega] at this; exact this⟩, by simp [intOf]; omega⟩
          · have hkn : k = n2 := by omega
            obtain ⟨y2, L2, hf2, hf3, hl2, hne2, he2⟩ := HStep.out (R) (by omega)
            obtain ⟨N2, hN2⟩ : ∃ N2, N2 = L2.length := ⟨_, rfl⟩
            rw [← hN2] at hl2
            have HF2 := Lib.hid hf2
            have HF3 := Lib.hid hf3
            have HNe2 := Lib.hid hne2
            have HE2 := Lib.hid he2
            have HN2 := Lib.hid hN2
            clear hf2 hf3 hne2 he2 hN2
            go_wp2_with fail
            refine (feed_n w115.heap.size g' yk y2 L2 (2 * p) N2 (some ⟨gT, qq, none⟩) (R) R _ wr HFn2.out.sc (HRe.out.front (R) (by omega)) HE2.out (fun z hz => by simp at hz; subst hz; refine ⟨by simp only; omega, fun hh => ?_⟩; rcases HGi.out _ hh with h | h; cases h; simp only at h; omega) (by omega) HF2.out HN2.out.symm).mono ?_
            rintro e wa ⟨aM, g2, rfl, hmm, hsy, hsn, hnil⟩
            have hst := HFn2.out.step hs6 hsy hsn hmm (fun c hc => HNe2.out c hc)
            have HSt := Lib.hid hst
            have HNil := Lib.hid hnil
            have hsa := Nat.le_trans hszr hsn.exc.size
            clear hmm hsy hsn hst hnil
            go_wp2_with (at_builtin; refine wpList_append_rows rfl _ _ rfl w6.heap.size _ true _ Lk L2 _ _ _ rfl rfl (by exact HSt.out.1.mat) (by exact HSt.out.2) (by exact HNil.out) (by exact fun j hj hh => hh.2.2.1 hj) (by omega) hsa ?_)
            intro vb wb q1 q2
            have hfb := HSt.out.1.add hs6 q1 q2
            have HFb := Lib.hid hfb
            clear q1 q2 hfb
            go_wp2
            exact ⟨⟨k + 1, n, 0, qq, g2, y2, Lk ++ L2, by omega, by go_num, by omega, fun _ => rfl, by omega, by simp, by have := HF3.out; rw [show p + R = n by omega] at this; exact this, by rw [List.length_append, ← HN2.out]; omega, by have := HFb.out; rw [show 2 * p + 2 * R = 2 * n by omega] at this; exact this⟩, by simp [intOf]; omega⟩
        · have hk1 : k = n2 + 1 := by omega
          have hR0 := HLast.out hk1
          subst hk1 hR0
          have hpn : p = n := by omega
          subst hpn
          have hfk := HFk.out
          rw [List.take_of_length_le (by rw [HTl.out]; exact Nat.le_refl _), HFd.out] at hfk
          simp only [Prod.mk.injEq] at hfk
          obtain ⟨rfl, rfl⟩ := hfk
          obtain ⟨a9, c9, rfl, hm9, hsp9⟩ := (HFn2.out.mat.weak (P' := fun _ => True) (fun _ _ => trivial)).mat (fun _ _ => trivial)
          rw [← HNl.out] at hm9 ⊢
          have hnil9 := hm9.isNil
          have hle9 := hm9.le
          have hmx9 := hm9.max
          unfold maxLen at hmx9
          have HM9 := Lib.hid hm9.tight
          have hsp9' : ∀ z, a9 = some z → z.spot = none := fun z hz => (hsp9 z hz).1
          have hsy := HFn2.out.sc
          have hmw := MW122.out.exc HEx.out (fun j hj hh => by rcases hh with hh | hh; omega; cases hh)
          have hbb := (BB120.out).trans (HEx.out.below (B := w.heap.size) (by omega) (fun i hi hh => by rcases hh with hh | hh; omega; cases hh))
          have BB124 := Lib.hid (hbb)
          have SY125 := Lib.hid (hsy)
          have MW126 := Lib.hid (hmw)
          clear hbb hsy hmw hm9 hsp9 HFn2 HEx HRe HFk HGl HGi HQq HLast BB120 RT121 MW122 SY123
          rcases a9 with _ | ⟨b9, o9, s9⟩
          · have hc9 := hnil9 rfl
            have hN0 : N = 0 := by omega
            subst hc9 hN0
            go_wp2_with fail
            refine (lists_yes _ _ false _ aw 0 cw _ _ HM9.out MW126.out).mono ?_
            rintro e w' ⟨rfl, q127, rfl⟩
            have hb := below_draw wr q127
            obtain ⟨w127, hw⟩ : ∃ x, x = (wr).drewN q127 := ⟨_, rfl⟩
            rw [← hw] at hb ⊢
            have BB128 := Lib.hid (BB124.out.trans ((hb).mono BB124.out.size))
            have SY129 := Lib.hid (SY125.out.later (hb))
            clear hb hw BB124 SY125 MW126
            go_wp2_with fail
            refine (errors_any w115.heap.size _ _ _ _ SY129.out).mono ?_
            rintro e w' ⟨rfl, rfl⟩
            go_wp2_with fail
            refine (hunting_any w115.heap.size _ _ _ _ SY129.out).mono ?_
            rintro e w' ⟨rfl, rfl⟩
            go_wp2_with fail
            refine (lives_any w127 (HF0.out.later BB128.out)).mono ?_
            rintro e w130 ⟨rfl, hb⟩
            have BB131 := Lib.hid (BB128.out.trans ((hb).mono BB128.out.size))
            clear hb BB128 SY129
            go_wp2
            go_ret
            exact ⟨rfl, BB131.out⟩
          · have hs9 := hsp9' _ rfl
            simp only at hs9
            subst hs9
            clear hsp9' hnil9
            go_wp2_with fail
            refine (lists_yes _ _ false _ aw N cw _ _ HM9.out MW126.out).mono ?_
            rintro e w' ⟨rfl, q187, rfl⟩
            have hb := below_draw wr q187
            obtain ⟨w187, hw⟩ : ∃ x, x = (wr).drewN q187 := ⟨_, rfl⟩
            rw [← hw] at hb ⊢
            have BB188 := Lib.hid (BB124.out.trans ((hb).mono BB124.out.size))
            have SY189 := Lib.hid (SY125.out.later (hb))
            clear hb hw BB124 SY125 MW126
            go_wp2_with fail
            refine (errors_any w115.heap.size _ _ _ _ SY189.out).mono ?_
            rintro e w' ⟨rfl, rfl⟩
            go_wp2_with fail
            refine (hunting_any w115.heap.size _ _ _ _ SY189.out).mono ?_
            rintro e w' ⟨rfl, rfl⟩
            go_wp2_with fail
            refine (lives_any w187 (HF0.out.later BB188.out)).mono ?_
            rintro e w190 ⟨rfl, hb⟩
            have BB191 := Lib.hid (BB188.out.trans ((hb).mono BB188.out.size))
            clear hb BB188 SY189
            go_wp2
            go_ret
            exact ⟨rfl, BB191.out⟩
end Go.Proofs.YtohhocndicnegaaDoor
