/- Contracts: the reference of frames: Ones, Stuff, flag, Join. -/
import Derived.Test.YtohhocndicnegaaDoorJoin
import Derived.Test.YtohhocndicnegaaDoorRefOf
namespace Go.Proofs.YtohhocndicnegaaDoor
open Go.RowKit

set_option maxHeartbeats 400000 in
theorem ones_any (a : Option Addr) (n c : Nat) (l : List Int) (p : Nat) (w : World) (h : Row .u8 w a n c l) (hp : p ≤ n) :
    Calls Tryd.prog 18 #[.slice a n c, .int .i64 p] w fun e w' => e = .returned (.int .i64 (runEnd 1 (l.take p))) ∧ w = w' := by
  have hle := h.le
  have hmx := h.max
  unfold maxLen at hmx
  have H := Lib.hid h
  clear h
  go_enter Tryd.func18, Tryd.ntmps18
  go_wp2_with fail
  go_loop [5] (fun i => ∃ k : Nat, k ≤ p ∧ i = .int .i64 k ∧ runEnd 1 (l.take p) = k + runEnd 1 (l.take (p - k))) (fun i => p - (intOf i).toNat)
  case atStart => exact ⟨0, Nat.zero_le _, rfl, by simp⟩
  case round =>
    obtain ⟨k, hk, rfl, hr⟩ := hrel
    by_cases hlt : k < p
    · obtain ⟨j, rfl⟩ : ∃ j, p = k + (j + 1) := ⟨p - k - 1, by omega⟩
      have hjn : j < n := by omega
      obtain ⟨b, o, rfl, hcell⟩ := row_at H.out hjn
      rw [show k + (j + 1) - k = j + 1 by omega, take_succ' (by rw [H.out.len]; exact hjn), runEnd_snoc] at hr
      obtain ⟨x, hx⟩ : ∃ x, x = l.getD j 0 := ⟨_, rfl⟩
      rw [← hx] at hcell hr
      by_cases h1 : x = 1
      · subst h1
        rw [if_pos rfl] at hr
        have HR := Lib.hid hr
        clear hr hx
        go_wp2
        refine ⟨⟨k + 1, by omega, by omega, ?_⟩, by simp [intOf]; omega⟩
        rw [show k + (j + 1) - (k + 1) = j by omega, HR.out]
        omega
      · have h1' : (x == 1) = false := by simpa using h1
        rw [if_neg h1] at hr
        have HR := Lib.hid hr
        clear hr hx h1
        go_wp2
        go_ret
        refine ⟨ret_int ?_, rfl⟩
        rw [HR.out]; omega
    · obtain rfl : k = p := by omega
      have HR := Lib.hid hr
      clear hr
      go_wp2
      go_ret
      refine ⟨ret_int ?_, rfl⟩
      rw [HR.out, Nat.sub_self]
      simp [runEnd]
theorem ownsRow_of_own {w : World} {g t B : Nat} {cs : List Value} (h : Own w g t cs) (hB : B ≤ g) (hm : cs.length ≤ maxLen) : w.ownsRow B t 1 (.slice (some ⟨g, 0, none⟩) cs.length cs.length) cs.length cs :=
  ⟨by omega, .inr ⟨g, cs.length, cs.toArray, rfl, hB, h, Nat.le_refl _, hm, by simp, by simp⟩⟩
theorem refFlag_any (w : World) :
    Calls Tryd.prog 38 #[] w fun e w' => e = .returned (.slice (some ⟨w.heap.size, 0, none⟩) 8 8) ∧ Below w.heap.size w w' ∧ Own w' w.heap.size 5 (nums .u8 flagL) := by
  go_enter Tryd.func38, Tryd.ntmps38
  go_wp2
  go_ret
  exact ⟨rfl, below_alloc _ _, heap_alloc_new w _⟩
set_option maxHeartbeats 1000000 in
theorem refStuff_any (a : Option Addr) (n c : Nat) (l : List Int) (w : World) (h : Row .u8 w a n c l) (hbin : Bin l) (hn : n ≤ 2097152) :
    Calls Tryd.prog 15 #[.slice a n c] w fun e w' => (∃ v a' c', e = .returned v ∧ v = .slice a' (stuff l).length c' ∧ Row .u8 w' a' (stuff l).length c' (stuff l)) ∧ Below w.heap.size w w' := by
  have hmc := h.le
  have hcm := h.max
  unfold maxLen at hcm
  have H := Lib.hid h
  have HB := Lib.hid hbin
  clear h hbin
  go_enter Tryd.func15, Tryd.ntmps15
  go_wp2_with fail
  go_loopw [3, 4] (fun v i wr => ∃ k : Nat, k ≤ n ∧ i = .int .i64 k ∧ Grow (.slice none 0 0) w v wr ∧ wr.ownsRow w.heap.size 5 1 v (stuff (l.take k)).length (nums .u8 (stuff (l.take k)))) (fun _ i _ => n - (intOf i).toNat)
  case atStart => exact ⟨0, Nat.zero_le _, rfl, Grow.refl _ _, by simpa [stuff, nums] using World.ownsRow_nil w w.heap.size 5 1⟩
  case round =>
    obtain ⟨k, hk, rfl, hgr, hown⟩ := hrel
    by_cases hlt : k < n
    · have hrow1 := H.out.later hgr.nil
      obtain ⟨b, o, rfl, g0⟩ := row_at hrow1 hlt
      have hlk : k < l.length := by rw [H.out.len]; exact hlt
      have hx01 := bin_getD HB.out hlk
      have ht := take_succ' hlk
      obtain ⟨x, hx⟩ : ∃ x, x = l.getD k 0 := ⟨_, rfl⟩
      rw [← hx] at g0 hx01 ht
      obtain ⟨p, hp⟩ : ∃ p, p = stuff (l.take k) := ⟨_, rfl⟩
      obtain ⟨N, hN⟩ : ∃ N, N = p.length := ⟨_, rfl⟩
      have hlen := stuff_length_le (l.take k)
      have hr0 := runEnd_nonneg 1 (stuff (l.take k))
      have hsn := stuff_snoc (l.take k) x
      have hbp := bin_stuff (HB.out.take k)
      rw [← ht] at hsn
      rw [← hp] at hr0 hlen hsn hown hbp
      rw [List.length_take] at hlen
      rw [← hN] at hlen hown
      have hN2 : N ≤ 2516583 := by omega
      have hbpx : Bin (p ++ [x]) := hbp.app (fun y hy => by simp at hy; subst hy; exact hx01)
      have HT := Lib.hid hsn
      have HG := Lib.hid hgr
      have HW := Lib.hid hown
      have HN := Lib.hid hN
      have HBx := Lib.hid hbpx
      have hsz : w.heap.size ≤ wr.heap.size := hgr.exc.size
      clear hgr hown hsn ht hx hp hlen hrow1 hN hbp hbpx hr0 hx01
      go_wp2_with (at_builtin; refine wpList_append_one Tryd.underlying22 info8 (by decide) rfl _ _ rfl w.heap.size _ _ _ _ rfl (by exact HW.out) rfl (by omega) hsz ?_)
      intro v1 w1 h1 h2 g c1 h3
      subst h3
      obtain ⟨a1, c1', hv1, hrow1, _⟩ := ownsRow_low h1 (bin_wf HBx.out)
      simp at hv1
      obtain ⟨rfl, rfl⟩ := hv1
      have hones := ones_any _ _ _ _ (N + 1) w1 hrow1 (Nat.le_refl _)
      rw [List.take_of_length_le (by rw [List.length_append, List.length_singleton, ← HN.out]; omega)] at hones
      obtain ⟨q, hq⟩ : ∃ q, q = runEnd 1 (p ++ [x]) := ⟨_, rfl⟩
      rw [← hq] at hones
      have hcm1 := hrow1.max
      unfold maxLen at hcm1
      have HQ := Lib.hid hq
      have HOn := Lib.hid hones
      have H1 := Lib.hid h1
      have H2 := Lib.hid h2
      have hsz1 : w.heap.size ≤ w1.heap.size := Nat.le_trans hsz h2.exc.size
      clear h1 h2 hq hones hrow1
      go_wp2_with fail
      refine HOn.out.mono ?_
      rintro e w' ⟨rfl, rfl⟩
      by_cases h5 : q = 5
      · have ht5 : (q == 5) = true := by simpa using h5
        have H5 := Lib.hid h5
        clear h5
        go_wp2_with (at_builtin; refine wpList_append_one Tryd.underlying22 info8 (by decide) rfl _ _ rfl w.heap.size _ _ _ _ rfl (by exact H1.out) rfl (by omega) hsz1 ?_)
        intro v2 w2 h4 h5 g2 c2 h6
        have H3 := Lib.hid h4
        have H4 := Lib.hid h5
        clear h4 h5 h6
        go_wp2
        have e2 : stuff (l.take (k + 1)) = p ++ [x, 0] := by rw [HT.out, if_pos]; rw [← HQ.out]; exact H5.out
        refine ⟨⟨k + 1, by omega, by go_num, HG.out.trans (H2.out.trans H4.out), ?_⟩, by simp [intOf]; omega⟩
        rw [e2, List.length_append, ← HN.out]
        have := H3.out
        simpa [Nat.add_assoc] using this
      · have ht5 : (q == 5) = false := by simpa using h5
        have H5 := Lib.hid h5
        clear h5
        go_wp2
        have e2 : stuff (l.take (k + 1)) = p ++ [x] := by rw [HT.out, if_neg]; rw [← HQ.out]; exact H5.out
        refine ⟨⟨k + 1, by omega, by go_num, HG.out.trans H2.out, ?_⟩, by simp [intOf]; omega⟩
        rw [e2, List.length_append, ← HN.out]
        exact H1.out
    · obtain rfl : k = n := by omega
      rw [List.take_of_length_le (by rw [H.out.len]; exact Nat.le_refl _)] at hown
      obtain ⟨a', c', rfl, hrow, _⟩ := ownsRow_low hown (bin_wf (bin_stuff HB.out))
      have HRow := Lib.hid hrow
      have HBel := Lib.hid hgr.nil
      clear hown hgr hrow
      go_wp2
      go_ret
      exact ⟨⟨_, a', c', rfl, rfl, HRow.out⟩, HBel.out⟩
set_option maxRecDepth 20000 in
set_option maxHeartbeats 2000000 in
theorem refJoin_any (P : Nat → Prop) (T : Bool) (a : Option Addr) (n c : Nat) (L : List (List Int)) (w : World) (h : Mat w P T a n c L) (hok : ∀ l ∈ L, lenOk l) (hn : n ≤ 300) :
    Calls Tryd.prog 21 #[.slice a n c] w fun e w' => (∃ v a' c', e = .returned v ∧ v = .slice a' (joinL L).length c' ∧ Row .u8 w' a' (joinL L).length c' (joinL L)) ∧ Below w.heap.size w w' := by
  have hmc := h.le
  have hcm := h.max
  unfold maxLen at hcm
  have hfl := refFlag_any w
  obtain ⟨i0, hi, hz0, hz1, hz2⟩ := info_parts info8
  have HI := Lib.hid hi
  have HZ0 := Lib.hid hz0
  have HZ1 := Lib.hid hz1
  have HZ2 := Lib.hid hz2
  have H := Lib.hid h
  have HOk := Lib.hid hok
  have HFl := Lib.hid hfl
  clear h hok hfl hi hz0 hz1 hz2
  go_enter Tryd.func21, Tryd.ntmps21
  go_wp2_with fail
  refine HFl.out.mono ?_
  rintro e w1 ⟨rfl, hb, ho⟩
  have ho1 : w1.ownsRow w.heap.size 5 1 (.slice (some ⟨w.heap.size, 0, none⟩) 8 8) (joinL (L.take 0)).length (nums .u8 (joinL (L.take 0))) := ownsRow_of_own ho (Nat.le_refl _) (by rw [nums_length, List.take_zero, joinL_nil]; decide)
  have HO1 := Lib.hid ho1
  have HB1 := Lib.hid hb
  clear hb ho ho1
  go_wp2_with fail
  go_loopw [3, 4] (fun v i wr => ∃ k : Nat, k ≤ n ∧ i = .int .i64 k ∧ Below w.heap.size w wr ∧ wr.ownsRow w.heap.size 5 1 v (joinL (L.take k)).length (nums .u8 (joinL (L.take k)))) (fun _ i _ => n - (intOf i).toNat)
  case atStart => exact ⟨0, Nat.zero_le _, rfl, HB1.out, HO1.out⟩
  case round =>
    obtain ⟨j, hj, rfl, hbel, hown⟩ := hrel
    by_cases hlt2 : j < n
    · have hmat := H.out.later hbel
      obtain ⟨b, o, ra, m, rc, l, rfl, hv, hr, _, _, hl, hm⟩ := hmat.at hlt2
      have hLl : j < L.length := by rw [H.out.len]; exact hlt2
      have hlo := HOk.out _ (getDL_mem hLl)
      have ht := take_succL hLl
      rw [hl] at hlo ht
      unfold lenOk at hlo
      rw [hm] at hlo
      obtain ⟨hlo1, hlo2⟩ := hlo
      have hof := refOf_n ra m rc (8 * m) l wr hr (by omega) rfl
      have hjl : (joinL (L.take j)).length ≤ 842408 := joinL_length (L.take j) 300 280 (fun b hb => (HOk.out b (List.mem_of_mem_take hb)).2) (by rw [List.length_take]; omega)
      have e1 : joinL (L.take (j + 1)) = joinL (L.take j) ++ stuff (ofL l) ++ flagL := by rw [ht, joinL_snoc]
      obtain ⟨N, hN⟩ : ∃ N, N = (joinL (L.take j)).length := ⟨_, rfl⟩
      rw [← hN] at hjl hown
      have hsl := stuff_length_le (ofL l)
      have hsl0 := runEnd_nonneg 1 (stuff (ofL l))
      rw [ofL_length, hm] at hsl
      obtain ⟨M, hM⟩ : ∃ M, M = (stuff (ofL l)).length := ⟨_, rfl⟩
      rw [← hM] at hsl
      have hM2 : M ≤ 3000 := by omega
      have HOf := Lib.hid hof
      have HBel := Lib.hid hbel
      have HO2 := Lib.hid hown
      have HM := Lib.hid hM
      have HN := Lib.hid hN
      have HE := Lib.hid e1
      clear hof hbel hown hmat hr hl ht hm hN hM e1 hsl hsl0
      go_wp2_with fail
      refine HOf.out.mono ?_
      rintro e w2 ⟨⟨a2, c2, rfl, hr2⟩, hb2⟩
      have hrs := refStuff_any a2 (8 * m) c2 (ofL l) w2 hr2 (bin_ofL l) (by omega)
      have hB2 := HBel.out.trans (hb2.mono HBel.out.size)
      have hO2 := ownsRow_below HO2.out hb2
      have HRs := Lib.hid hrs
      have HB2 := Lib.hid hB2
      have HO3 := Lib.hid hO2
      clear hr2 hb2 hrs hB2 hO2
      go_wp2_with fail
      refine HRs.out.mono ?_
      rintro e w3 ⟨⟨v3, a3, c3, rfl, rfl, hr3⟩, hb3⟩
      have hB3 := HB2.out.trans (hb3.mono HB2.out.size)
      have hO3 := ownsRow_below HO3.out hb3
      rw [← HM.out] at hr3
      have HB3 := Lib.hid hB3
      have HO4 := Lib.hid hO3
      have HR3 := Lib.hid hr3
      have hle3 := hr3.le
      have hmx3 := hr3.max
      unfold maxLen at hmx3
      rw [← HM.out]
      clear hr3 hb3 hB3 hO3
      go_wp2_with (at_builtin; refine wpList_append_list rfl _ _ 22 rfl w.heap.size 5 i0 (.int .u8 0) 1 Tryd.underlying22 HI.out HZ0.out HZ1.out HZ2.out rfl .u8 _ _ _ rfl (by exact HO4.out) _ _ _ _ rfl (by exact HR3.out) (by unfold maxLen; omega) (by omega) (by exact HB3.out.size) ?_)
      intro v4 w4 h4 h5
      have hB4 : Below w.heap.size w w4 := HB3.out.grown h5 HB3.out.size (fun g hg => (ownBlock_lt HO4.out hg).1)
      have HB4 := Lib.hid hB4
      have HO5 := Lib.hid h4
      have HFl4 := Lib.hid (refFlag_any w4)
      clear h4 h5 hB4
      go_wp2_with fail
      refine HFl4.out.mono ?_
      rintro e w5 ⟨rfl, hb5, ho5⟩
      have hB5 := HB4.out.trans (hb5.mono HB4.out.size)
      have hO5 := ownsRow_below HO5.out hb5
      have hr5 : Row .u8 w5 (some ⟨w4.heap.size, 0, none⟩) 8 8 flagL := ho5.row0 _ _ rfl (Nat.le_refl _) (by unfold maxLen; omega) (bin_wf bin_flag)
      have HB5 := Lib.hid hB5
      have HO6 := Lib.hid hO5
      have HR5 := Lib.hid hr5
      clear hb5 ho5 hB5 hO5 hr5
      go_wp2_with (at_builtin; refine wpList_append_list rfl _ _ 22 rfl w.heap.size 5 i0 (.int .u8 0) 1 Tryd.underlying22 HI.out HZ0.out HZ1.out HZ2.out rfl .u8 _ _ _ rfl (by exact HO6.out) _ _ _ _ rfl (by exact HR5.out) (by unfold maxLen; omega) (by omega) (by exact HB5.out.size) ?_)
      intro v6 w6 h6 h7
      have hB6 : Below w.heap.size w w6 := HB5.out.grown h7 HB5.out.size (fun g hg => (ownBlock_lt HO6.out hg).1)
      have HB6 := Lib.hid hB6
      have HO7 := Lib.hid h6
      clear h6 h7 hB6
      go_wp2
      refine ⟨⟨j + 1, by omega, by go_num, HB6.out, ?_⟩, by simp [intOf]; omega⟩
      have e2 : (joinL (L.take (j + 1))).length = N + M + 8 := by rw [HE.out, List.length_append, List.length_append, ← HN.out, ← HM.out]; rfl
      rw [e2, HE.out, List.append_assoc]
      exact HO7.out
    · obtain rfl : j = n := by omega
      rw [List.take_of_length_le (by rw [H.out.len]; exact Nat.le_refl _)] at hown
      obtain ⟨a', c', rfl, hrow, _⟩ := ownsRow_low hown (bin_wf (bin_joinL L))
      have HRow := Lib.hid hrow
      have HBel := Lib.hid hbel
      clear hown hbel hrow
      go_wp2
      go_ret
      exact ⟨⟨_, a', c', rfl, rfl, HRow.out⟩, HBel.out⟩
end Go.Proofs.YtohhocndicnegaaDoor
