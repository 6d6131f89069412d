/- The walk of FramesBack. -/
import Derived.Test.YtpcjhmddcfiemaaDoorFrContents
import Derived.Test.YtpcjhmddcfiemaaDoorFrStep
import Derived.Test.YtpcjhmddcfiemaaDoorFrCut
import Derived.Deep.RegionHeld3
namespace Go.Proofs.YtpcjhmddcfiemaaDoor
open Go.RowKit

set_option maxHeartbeats 8000000 in
set_option maxRecDepth 100000 in
theorem framesBack_walk (a1 : Option Addr) (n1 c1 : Nat) (b : List Int) (a2 : Option Addr) (n2 c2 : Nat) (sz : List Int) (s : ByteArray) (w : World) (hflag : FlagOk w) (h1 : Row .u8 w a1 n1 c1 b) (h2 : Row .u8 w a2 n2 c2 sz) (_hs : s.size ≤ maxLen) :
    Calls Tryd.prog 6 #[.slice a1 n1 c1, .slice a2 n2 c2, .string s] w fun e w' => e = .returned (.bool true) ∧ Below w.heap.size w w' := by
  have BB0 := Lib.hid (Below.refl w.heap.size w)
  have HF0 := Lib.hid hflag
  have HR1 := Lib.hid h1
  have HR2 := Lib.hid h2
  have hle1 := h1.le
  have hcm1 := h1.max
  have hle2 := h2.le
  have hcm2 := h2.max
  unfold maxLen at hcm1 hcm2
  have hpos := hflag.pos
  clear hflag h1 h2
  by_cases hbig : 5 < n2
  · go_enter Tryd.func6, Tryd.ntmps6
    go_wp2_with fail
    refine (lives_any w HF0.out).mono ?_
    rintro e w11 ⟨rfl, hb⟩
    have BB12 := Lib.hid (BB0.out.trans ((hb).mono BB0.out.size))
    clear hb BB0 HF0
    go_wp2
    go_ret
    exact ⟨rfl, BB12.out⟩
  · by_cases hbig2 : 400 < s.size
    · go_enter Tryd.func6, Tryd.ntmps6
      go_wp2_with fail
      refine (lives_any w HF0.out).mono ?_
      rintro e w51 ⟨rfl, hb⟩
      have BB52 := Lib.hid (BB0.out.trans ((hb).mono BB0.out.size))
      clear hb BB0 HF0
      go_wp2
      go_ret
      exact ⟨rfl, BB52.out⟩
    · go_enter Tryd.func6, Tryd.ntmps6
      go_wp2_with fail
      go_loopw [7, 8] (fun v i wr => ∃ k : Nat, k ≤ n2 ∧ i = .int .i64 k ∧ Below w.heap.size w wr ∧ Gath w.heap.size true v (contentsL b sz 56 k) wr) (fun _ i _ => n2 - (intOf i).toNat)
      case atStart => exact ⟨0, Nat.zero_le _, rfl, Below.refl _ _, Gath.nil _ _ _⟩
      case round =>
        obtain ⟨k, hk, rfl, hbel, hga⟩ := hrel
        by_cases hlt : k < n2
        · have hsr := HR2.out.later hbel
          obtain ⟨sb, so, rfl, g00⟩ := row_at HR2.out hlt
          have hsb0 := World.block_lt_of_cell? w _ g00
          simp only at hsb0
          have g0 := (hbel.cell (p := ⟨sb, so + k, none⟩) hsb0).trans g00
          have hx := wf_u8.1 (HR2.out.wf (sz.getD k 0) (by rw [List.getD_eq_getElem?_getD, List.getElem?_eq_getElem (by rw [HR2.out.len]; exact hlt), Option.getD_some]; exact List.getElem_mem _))
          obtain ⟨x, hxe⟩ : ∃ x, x = sz.getD k 0 := ⟨_, rfl⟩
          rw [← hxe] at g0 hx
          clear g00
          obtain ⟨y, rfl⟩ := Int.eq_ofNat_of_zero_le hx.1
          have hmod : (5 : Int) + (y : Int) % 56 = ((5 + y % 56 : Nat) : Int) := by omega
          have hyl := Nat.mod_lt y (by decide : 0 < 56)
          obtain ⟨n, hn⟩ : ∃ n, n = 5 + y % 56 := ⟨_, rfl⟩
          rw [← hn] at hmod
          have hn60 : n ≤ 60 := by omega
          have hq1 : (y : Int).tmod 56 = (y : Int) % 56 := Int.tmod_eq_emod_of_nonneg (by omega)
          have hq2 : IntKind.i64.wrap ((y : Int) % 56) = (y : Int) % 56 := IntWalk.i64_in _ (by omega)
          have hq3 : IntKind.i64.wrap (n : Int) = (n : Int) := IntWalk.i64_in _ (by omega)
          have hc := contentsL_succ b sz 56 k
          have hso : sizeOf8 (sz.getD k 0) 56 = n := by unfold sizeOf8; rw [← hxe, Int.toNat_natCast, hn]
          rw [hso] at hc
          have hrb := HR1.out.later hbel
          obtain ⟨mn, A', N', C', hmin, hsl1, hsl2, hrowc⟩ := cut_min a1 n1 c1 k b w HR1.out
          have hct := fun (w' : World) (hb' : Below wr.heap.size wr w') => octets2_row A' N' C' (b.drop k) n _ w' (hrowc w' (hrb.later hb')) (by omega) rfl
          have hsb := World.block_lt_of_cell? wr _ g0
          have hsz := hbel.size
          have HC := Lib.hid hc
          have HCo := Lib.hid hct
          have HG := Lib.hid hga
          have HB := Lib.hid hbel
          obtain ⟨hx0, hx1⟩ := hx
          clear hc hct hga hbel hrb hsr hxe hn hso hyl hrowc
          have hend : ∀ w1, Below wr.heap.size wr w1 → w1.heap.size = wr.heap.size → ∀ w2, Below w1.heap.size w1 w2 → RowV w2 (fun j => w1.heap.size ≤ j ∧ j < w2.heap.size) true (.slice (some ⟨w1.heap.size, 0, none⟩) n n) (octetsL (b.drop k) n) → Gath w.heap.size true u7 (contentsL b sz 56 k) w2 ∧ Below w.heap.size w w2 ∧ RowV w2 (fun j => w.heap.size ≤ j ∧ u7.ownBlock ≠ some j ∧ j < w2.heap.size) true (.slice (some ⟨wr.heap.size, 0, none⟩) n n) (octetsL (b.drop k) n) ∧ w2.cell? ⟨sb, so + k, none⟩ = some (.int .u8 (y : Int)) := fun w1 h1 he w2 hb hr => by
            rw [he] at hb hr
            have h2 := h1.trans hb
            exact ⟨HG.out.later h2, HB.out.trans (h2.mono hsz), HG.out.row hsz hr (fun _ h => h), (h2.cell (p := ⟨sb, so + k, none⟩) hsb).trans g0⟩
          have HEnd := Lib.hid hend
          clear hend
          go_wp2_with fail
          go_region_held3 (fun w' => w'.cell? ⟨sb, so + k, none⟩ = some (.int .u8 (y : Int))) (first | go_keep | assumption)
            (first
              | (go_at_call 19; ((with_reducible refine (HCo.out wr.drew ((Below.refl _ _).drew)).mono ?_); rintro e w2 ⟨rfl, hb, hr⟩); have hall := HEnd.out wr.drew ((Below.refl _ _).drew) (by rfl) w2 hb hr; have hkc := hall.2.2.2; have HA := Lib.hid hall; clear hb hr hall)
              | (refine step_append_row (by rfl) _ _ (by rfl) w.heap.size _ true _ _ _ _ (by rfl) (by first | exact HA.out.1.mat.later (below_alloc _ _) | exact HA.out.1.mat.later ((below_alloc _ _).drew)) (by first | exact HA.out.2.2.1.later (below_alloc _ _) | exact HA.out.2.2.1.later ((below_alloc _ _).drew)) (by exact fun _ hj hh => hh.2.1 hj) w2.heap.size (by rfl) (by rw [cell_of_row _ _ 0 _ _ _ (heap_alloc_new w2 _)]; rfl) (by rw [contentsL_length]; omega) (by have := HA.out.2.1.size; simp; omega) ?_; intro v4 w4 q1 q2; have hszA := HA.out.2.1.size; have hk4 : w4.cell? ⟨sb, so + k, none⟩ = some (Value.int .u8 (y : Int)) := q2.exc.cell (by first | exact ((below_alloc w2 _).cell (p := ⟨sb, so + k, none⟩) (by simp only; omega)).trans hkc | exact (((below_alloc w2 _).drew).cell (p := ⟨sb, so + k, none⟩) (by simp only; omega)).trans hkc) (fun hh => by have := (HG.out.lt _ hh).1; simp only at this; omega); have HQ1 := Lib.hid q1; have HQ2 := Lib.hid q2; clear q1 q2)
              | fail)
          go_wp2
          have hszA := HA.out.2.1.size
          have hg4 : Gath w.heap.size true v4 (contentsL b sz 56 k ++ [octetsL (b.drop k) n]) w4 := by
            refine Gath.add ?_ HQ2.out
            exact HQ1.out.weak fun j hj => ⟨hj.1, hj.2.1, by have := hj.2.2; simp; omega⟩
          have hB4 : Below w.heap.size w w4 := by
            first
              | exact (HA.out.2.1.trans ((below_alloc w2 _).mono hszA)).trans (HQ2.out.below (B := w.heap.size) (by simp; omega) (fun j hj => (HA.out.1.lt j hj).1))
              | exact (HA.out.2.1.trans (((below_alloc w2 _).drew).mono hszA)).trans (HQ2.out.below (B := w.heap.size) (by simp; omega) (fun j hj => (HA.out.1.lt j hj).1))
          refine ⟨⟨k + 1, by omega, by go_num, hB4, ?_⟩, by simp [intOf]; omega⟩
          rw [HC.out]
          exact hg4
        · obtain rfl : k = n2 := by omega
          have hcl := contentsL_length b sz 56 k
          have hok := contentsL_ok (b := b) (fun x hx => wf_u8.1 (HR1.out.wf x hx)) sz 56 (by decide) k
          obtain ⟨L, hL⟩ : ∃ L, L = contentsL b sz 56 k := ⟨_, rfl⟩
          rw [← hL] at hga hcl hok
          obtain ⟨aL, cL, rfl, hmat, hlow⟩ := hga.done
          rw [hcl] at hmat ⊢
          have hsp' : ∀ z, aL = some z → z.spot = none := fun z hz => (hlow z hz).1
          have hleL := hmat.le
          have hcmL := hmat.max
          unfold maxLen at hcmL
          have hsz0 := hbel.size
          have BB101 := Lib.hid (hbel)
          have HF102 := Lib.hid (HF0.out.later hbel)
          have ML103 := Lib.hid (hmat)
          have HOk := Lib.hid hok
          have HCl := Lib.hid hcl
          have hjb := bin_joinL L
          have hjl := joinL_length L 5 60 (fun c hc => by have := (hok c hc).2; omega) (by omega)
          obtain ⟨S, hS⟩ : ∃ S, S = (joinL L).length := ⟨_, rfl⟩
          rw [← hS] at hjl
          have hS8 : 8 ≤ S := by rw [hS]; unfold joinL flagL; simp
          have hje : errOf (joinL L) = 0 := errOf_bin' hjb (by rw [← hS]; omega)
          have hjl' : S ≤ 4000 := by omega
          have HS := Lib.hid hS
          have HJe := Lib.hid hje
          have HSpL := Lib.hid hsp'
          clear hbel hga hmat hlow hok hcl hjb hjl hS hje hL HR1 HR2 HF0 BB0 hsp'
          go_wp2_with fail
          refine (join_n _ true _ _ _ S L (joinL L) _ HF102.out ML103.out (fun c hc => okC_lenOk (HOk.out c hc).1) (by omega) rfl HS.out.symm).mono ?_
          rintro e w104 ⟨⟨aJ, rfl, hrJ, hlJ⟩, hb⟩
          have BB105 := Lib.hid (BB101.out.trans ((hb).mono BB101.out.size))
          have HF106 := Lib.hid (HF102.out.later (hb))
          have ML107 := Lib.hid (ML103.out.later (hb))
          have RJ108 := Lib.hid (hrJ)
          clear BB101 HF102 ML103
          have hJlt := hrJ.lt (by omega)
          have HJlt := Lib.hid hJlt
          have hszr := hb.size
          clear hb hrJ hlJ hJlt
          have hszJ := BB105.out.size
          skip
          go_wp2_with fail
          refine (new_any w104).mono ?_
          rintro e w3 ⟨rfl, hb, hsx⟩
          have hs3 : w104.heap.size < w3.heap.size := hsx.lt.1
          have BB109 := Lib.hid (BB105.out.trans ((hb).mono BB105.out.size))
          have HF110 := Lib.hid (HF106.out.later (hb))
          have ML111 := Lib.hid (ML107.out.later (hb))
          have RJ112 := Lib.hid (RJ108.out.later (hb))
          have SX113 := Lib.hid (hsx)
          clear hb hsx BB105 HF106 ML107 RJ108
          go_wp2_with fail
          refine (new_any w3).mono ?_
          rintro e w4 ⟨rfl, hb, hsy⟩
          have hs4 : w3.heap.size < w4.heap.size := hsy.lt.1
          have BB114 := Lib.hid (BB109.out.trans ((hb).mono BB109.out.size))
          have HF115 := Lib.hid (HF110.out.later (hb))
          have ML116 := Lib.hid (ML111.out.later (hb))
          have RJ117 := Lib.hid (RJ112.out.later (hb))
          have SX118 := Lib.hid (SX113.out.later (hb))
          have SY119 := Lib.hid (hsy)
          clear hb hsy BB109 HF110 ML111 RJ112 SX113
          go_wp2_with fail
          refine (feed_n w104.heap.size none Sc.zero ⟨true, 0, [], 0⟩ L 0 k aJ S S _ _ SX118.out RJ117.out HJe.out (fun z hz => ⟨by have := HJlt.out z hz; omega, by simp⟩) (by decide) (feed_joinL L fun c hc => (HOk.out c hc).1) HCl.out).mono ?_
          rintro e w5 ⟨aO, gX, rfl, hm1, hsx, hsn, _⟩
          have hb := hsn.below (Nat.le_of_lt SX118.out.lt.1) (by simp) (Nat.le_refl _)
          have hs5 := hsn.exc.size
          have hgx : ∀ j, gX = some j → w4.heap.size ≤ j ∧ j < w5.heap.size := fun j hj => ⟨by have := hsn.lies j hj; simpa using this, (hsx.lt.2 j hj).2⟩
          have BB120 := Lib.hid (BB114.out.trans (hb.mono (by omega)))
          have HF121 := Lib.hid (HF115.out.laterB hb (by omega))
          have ML122 := Lib.hid (ML116.out.laterB hb (fun j hj => by omega))
          have RJ123 := Lib.hid (RJ117.out.laterB hb (fun z hz => by have := HJlt.out z hz; omega))
          have SX124 := Lib.hid (hsx)
          have SY125 := Lib.hid (SY119.out.exc hsn.exc (fun hh => by rcases hh with hh | hh; omega; cases hh) (by simp))
          have M1126 := Lib.hid (hm1.weakLt (fun c hc => okC_ne (HOk.out c hc).1))
          clear hb hsn hsx hm1 BB114 HF115 ML116 RJ117 SX118 SY119
          have HGx := Lib.hid hgx
          clear hgx
          go_wp2_with fail
          obtain ⟨T, hT⟩ : ∃ T, T = s.data.toList.map fun c => (c.toNat : Int) % 2 := ⟨_, rfl⟩
          have hTb : Bin T := by rw [hT]; intro x hx; obtain ⟨c, _, rfl⟩ := List.mem_map.1 hx; omega
          have hTl : T.length = s.size := by rw [hT]; simp
          have hTe : errOf T = 0 := errOf_bin' hTb (by omega)
          refine (stream_n s s.size T _ rfl (by omega) hT.symm).mono ?_
          rintro e w6 ⟨⟨gT, rfl, hrT, hgT⟩, hb⟩
          have hs6 := hb.size
          have BB127 := Lib.hid (BB120.out.trans ((hb).mono BB120.out.size))
          have HF128 := Lib.hid (HF121.out.later (hb))
          have ML129 := Lib.hid (ML122.out.later (hb))
          have RJ130 := Lib.hid (RJ123.out.later (hb))
          have SX131 := Lib.hid (SX124.out.later (hb))
          have SY132 := Lib.hid (SY125.out.later (hb))
          have M1133 := Lib.hid (M1126.out.later (hb))
          have RT134 := Lib.hid (hrT)
          clear hb hrT BB120 HF121 ML122 RJ123 SX124 SY125 M1126
          obtain ⟨y1, X1, hf1⟩ : ∃ y1 X1, feed Sc.zero T = (y1, X1) := ⟨_, _, rfl⟩
          have HTe := Lib.hid hTe
          have HF1 := Lib.hid hf1
          clear hT hTb hTe hf1 hTl
          go_wp2_with fail
          refine (feed_n w3.heap.size none Sc.zero y1 X1 0 X1.length _ _ _ _ _ SY132.out RT134.out HTe.out (fun z hz => ⟨by simp at hz; subst hz; simp only; omega, by simp⟩) (by decide) HF1.out rfl).mono ?_
          rintro e w7 ⟨aT, gY, rfl, hmT, hsy, hsn, _⟩
          have hb := hsn.below (Nat.le_of_lt SY132.out.lt.1) (by simp) (Nat.le_refl _)
          have hs7 := hsn.exc.size
          have hgy : ∀ j, gY = some j → w6.heap.size ≤ j := fun j hj => by have := hsn.lies j hj; simpa using this
          have BB135 := Lib.hid (BB127.out.trans (hb.mono (by omega)))
          have HF136 := Lib.hid (HF128.out.laterB hb (by omega))
          have ML137 := Lib.hid (ML129.out.laterB hb (fun j hj => by omega))
          have RJ138 := Lib.hid (RJ130.out.laterB hb (fun z hz => by have := HJlt.out z hz; omega))
          have SX139 := Lib.hid (SX131.out.exc hsn.exc (fun hh => by rcases hh with hh | hh; omega; cases hh) (fun j hj hh => by have := HGx.out j hj; rcases hh with hh | hh; omega; cases hh))
          have SY140 := Lib.hid (hsy)
          have M1141 := Lib.hid (M1133.out.exc hsn.exc (fun j hj hh => by rcases hh with hh | hh; omega; cases hh))
          clear hb hsn hsy hmT BB127 HF128 ML129 RJ130 SX131 SY132 M1133 RT134
          have HGy := Lib.hid hgy
          clear hgy
          obtain ⟨e2, X2, hf2, hX2⟩ := feed_joinL_any y1 L fun c hc => (HOk.out c hc).1
          obtain ⟨x2, hx2⟩ : ∃ x2, x2 = X2.length := ⟨_, rfl⟩
          rw [← hx2] at hX2
          have hK : (X2 ++ L).length = x2 + k := by rw [List.length_append, HCl.out, hx2]
          have HX2 := Lib.hid hx2
          clear hx2
          have HF2 := Lib.hid hf2
          have HK := Lib.hid hK
          clear hf2 hK
          go_wp2_with fail
          refine (feed_n w3.heap.size gY y1 ⟨true, 0, [], e2⟩ (X2 ++ L) _ (x2 + k) aJ S S _ _ SY140.out RJ138.out HJe.out (fun z hz => ⟨by have := HJlt.out z hz; omega, fun hh => by have := HGy.out _ hh; have := HJlt.out z hz; omega⟩) (by omega) HF2.out HK.out).mono ?_
          rintro e w8 ⟨aW, gY2, rfl, hm2, hsy, hsn, _⟩
          have hb := hsn.below (Nat.le_of_lt SY140.out.lt.1) (fun j hj => by have := HGy.out j hj; omega) (Nat.le_refl _)
          have hs8 := hsn.exc.size
          have BB142 := Lib.hid (BB135.out.trans (hb.mono (by omega)))
          have HF143 := Lib.hid (HF136.out.laterB hb (by omega))
          have ML144 := Lib.hid (ML137.out.laterB hb (fun j hj => by omega))
          have RJ145 := Lib.hid (RJ138.out.laterB hb (fun z hz => by have := HJlt.out z hz; omega))
          have SX146 := Lib.hid (SX139.out.exc hsn.exc (fun hh => by rcases hh with hh | hh; omega; have := HGy.out _ hh; omega) (fun j hj hh => by have := HGx.out j hj; rcases hh with hh | hh; omega; have := HGy.out _ hh; omega))
          have SY147 := Lib.hid (hsy)
          have M1148 := Lib.hid (M1141.out.exc hsn.exc (fun j hj hh => by rcases hh with hh | hh; omega; have := HGy.out _ hh; omega))
          have M2149 := Lib.hid (hm2)
          clear hb hsn hsy hm2 BB135 HF136 ML137 RJ138 SX139 SY140 M1141
          go_wp2_with fail
          refine (lists_yes _ _ true _ _ _ _ L _ M1148.out ML144.out).mono ?_
          rintro e w' ⟨rfl, q150, rfl⟩
          have hb := below_draw w8 q150
          obtain ⟨w150, hw⟩ : ∃ x, x = (w8).drewN q150 := ⟨_, rfl⟩
          rw [← hw] at hb ⊢
          have BB151 := Lib.hid (BB142.out.trans ((hb).mono BB142.out.size))
          have HF152 := Lib.hid (HF143.out.later (hb))
          have ML153 := Lib.hid (ML144.out.later (hb))
          have SX154 := Lib.hid (SX146.out.later (hb))
          have SY155 := Lib.hid (SY147.out.later (hb))
          have M2156 := Lib.hid (M2149.out.later (hb))
          clear hb hw BB142 HF143 ML144 RJ145 SX146 SY147 M1148 M2149
          go_wp2_with fail
          refine (errors_any w104.heap.size _ _ _ _ SX154.out).mono ?_
          rintro e w' ⟨rfl, rfl⟩
          go_wp2_with fail
          refine (hunting_any w104.heap.size _ _ _ _ SX154.out).mono ?_
          rintro e w' ⟨rfl, rfl⟩
          go_wp2_with fail
          refine (hunting_any w3.heap.size _ _ _ _ SY155.out).mono ?_
          rintro e w' ⟨rfl, rfl⟩
          have hm2 := M2156.out
          have hcut : ∀ a' : Option Addr, (0 < k → ∀ b o, aW = some ⟨b, o, none⟩ → a' = some ⟨b, o + x2, none⟩) → (a' = none → k = 0) → Mat w150 _ true a' k k L := fun a' ha hn => by
            have h := hm2.cut2 x2 k k (by omega) (Nat.le_refl _) (by omega) a' ha hn
            rw [show x2 = X2.length from HX2.out, List.drop_left, List.take_of_length_le (by rw [HCl.out]; exact Nat.le_refl _)] at h
            exact h
          have HCut := Lib.hid hcut
          have hnilW := hm2.isNil
          have hmcl := hm2.cells
          clear hcut hm2
          clear M2156
          rcases aW with _ | ⟨bW, oW, sW⟩
          · have hK0 := hnilW rfl
            have hx0 : x2 = 0 := by omega
            have hk0 : k = 0 := by omega
            clear hnilW hmcl
            subst hx0 hk0
            have hml := HCut.out none (by omega) (fun _ => rfl)
            have HMl := Lib.hid hml
            clear hml
            go_wp2_with fail
            refine (lists_yes _ _ true _ _ _ _ L _ HMl.out ML153.out).mono ?_
            rintro e w' ⟨rfl, q257, rfl⟩
            have hb := below_draw w150 q257
            obtain ⟨w257, hw⟩ : ∃ x, x = (w150).drewN q257 := ⟨_, rfl⟩
            rw [← hw] at hb ⊢
            have BB258 := Lib.hid (BB151.out.trans ((hb).mono BB151.out.size))
            have HF259 := Lib.hid (HF152.out.later (hb))
            clear hb hw BB151 HF152 ML153 SX154 SY155
            go_wp2_with fail
            refine (lives_any w257 HF259.out).mono ?_
            rintro e w260 ⟨rfl, hb⟩
            have BB261 := Lib.hid (BB258.out.trans ((hb).mono BB258.out.size))
            clear hb BB258 HF259
            go_wp2
            go_ret
            exact ⟨rfl, BB261.out⟩
          · by_cases hk0 : k = 0
            · clear hnilW hmcl
              subst hk0
              have hml := HCut.out (some ⟨bW, oW, sW⟩) (by omega) (by simp)
              have HMl := Lib.hid hml
              clear hml
              go_wp2_with fail
              refine (lists_yes _ _ true _ _ _ _ L _ HMl.out ML153.out).mono ?_
              rintro e w' ⟨rfl, q357, rfl⟩
              have hb := below_draw w150 q357
              obtain ⟨w357, hw⟩ : ∃ x, x = (w150).drewN q357 := ⟨_, rfl⟩
              rw [← hw] at hb ⊢
              have BB358 := Lib.hid (BB151.out.trans ((hb).mono BB151.out.size))
              have HF359 := Lib.hid (HF152.out.later (hb))
              clear hb hw BB151 HF152 ML153 SX154 SY155
              go_wp2_with fail
              refine (lives_any w357 HF359.out).mono ?_
              rintro e w360 ⟨rfl, hb⟩
              have BB361 := Lib.hid (BB358.out.trans ((hb).mono BB358.out.size))
              clear hb BB358 HF359
              go_wp2
              go_ret
              exact ⟨rfl, BB361.out⟩
            · have hsw : sW = none := by
                rcases hmcl with h | ⟨b', o', hbo, _⟩
                · omega
                · simp at hbo; exact hbo.2.2
              subst hsw
              clear hnilW hmcl
              have hml := HCut.out (some ⟨bW, oW + x2, none⟩) (fun _ b o hbo => by simp at hbo; obtain ⟨rfl, rfl⟩ := hbo; rfl) (by simp)
              have HMl := Lib.hid hml
              clear hml
              go_wp2_with fail
              refine (lists_yes _ _ true _ _ _ _ L _ HMl.out ML153.out).mono ?_
              rintro e w' ⟨rfl, q457, rfl⟩
              have hb := below_draw w150 q457
              obtain ⟨w457, hw⟩ : ∃ x, x = (w150).drewN q457 := ⟨_, rfl⟩
              rw [← hw] at hb ⊢
              have BB458 := Lib.hid (BB151.out.trans ((hb).mono BB151.out.size))
              have HF459 := Lib.hid (HF152.out.later (hb))
              clear hb hw BB151 HF152 ML153 SX154 SY155
              go_wp2_with fail
              refine (lives_any w457 HF459.out).mono ?_
              rintro e w460 ⟨rfl, hb⟩
              have BB461 := Lib.hid (BB458.out.trans ((hb).mono BB458.out.size))
              clear hb BB458 HF459
              go_wp2
              go_ret
              exact ⟨rfl, BB461.out⟩
end Go.Proofs.YtpcjhmddcfiemaaDoor
