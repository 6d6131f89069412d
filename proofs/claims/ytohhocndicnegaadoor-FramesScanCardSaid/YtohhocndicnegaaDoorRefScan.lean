/- Contracts: the reference of frames: Scan. -/
import Derived.Test.YtohhocndicnegaaDoorRefSc
namespace Go.Proofs.YtohhocndicnegaaDoor
open Go.RowKit

theorem judge_ab (b : List Int) : judge b true = ([], 1) := rfl
theorem judge_0 {b : List Int} (h : (front b).length = 0) : judge b false = ([], 0) := by unfold judge; rw [if_neg (by decide), if_pos h]
theorem judge_bad {b : List Int} (h : (front b).length ≠ 0) (hb : badC (front b)) : judge b false = ([], 1) := by unfold judge; rw [if_neg (by decide), if_neg h, if_pos hb]
theorem judge_good {b : List Int} (h : (front b).length ≠ 0) (hb : ¬ badC (front b)) : judge b false = ([octs (front b)], 0) := by unfold judge; rw [if_neg (by decide), if_neg h, if_neg hb]
theorem judge_bound (b : List Int) (ab : Bool) : (judge b ab).1.length ≤ 1 ∧ 0 ≤ (judge b ab).2 ∧ (judge b ab).2 ≤ 1 := by
  unfold judge
  split
  · simp
  · split
    · simp
    · split <;> simp
theorem outsR_bound (s : List Int) (E : List Nat) (k : Nat) : (outsR s E k).1.length ≤ k ∧ 0 ≤ (outsR s E k).2 ∧ (outsR s E k).2 ≤ k := by
  induction k with
  | zero => simp [outsR]
  | succ k ih =>
    have := judge_bound (plain (partOf s E (k + 1)).dropLast) (abortL (partOf s E (k + 1)))
    simp only [outsR, judgeR, List.length_append]
    omega
theorem endsL_sorted (s : List Int) : ∀ i j, i < j → j < (endsL s).length → (endsL s).getD i 0 < (endsL s).getD j 0 := by
  induction s using snocInd with
  | h0 => intro i j _ hj; simp [endsL] at hj
  | h1 s b ih =>
    intro i j hij hj
    rw [endsL_snoc] at hj ⊢
    split at hj
    · rename_i h
      rw [if_pos h]
      rw [List.length_append, List.length_singleton] at hj
      by_cases hjl : j < (endsL s).length
      · rw [getD_app _ _ _ (by omega), getD_app _ _ _ hjl]
        exact ih i j hij hjl
      · obtain rfl : j = (endsL s).length := by omega
        have e : (endsL s ++ [s.length + 1]).getD (endsL s).length 0 = s.length + 1 := by simp [List.getD_eq_getElem?_getD]
        rw [e, getD_app _ _ _ hij]
        have := getD_le (endsL_le s) i
        omega
    · rename_i h
      rw [if_neg h, List.append_nil]
      rw [List.append_nil] at hj
      exact ih i j hij hj
theorem octs_len' (l : List Int) : (octs l).length = l.length / 8 := by simp [octs]
def ScanSays (r : List (List Int) × Int × Bool) (B : Nat) (e : Ending) (w' : World) : Prop :=
  ∃ v a' c', e = .returned (.tuple #[v, .int .i64 r.2.1, .bool r.2.2]) ∧ v = .slice a' r.1.length c' ∧ Mat w' (fun j => B ≤ j) false a' r.1.length c' r.1
theorem dropLast_take (l : List Int) (n : Nat) (h : l.length = n) : l.dropLast = l.take (n - 1) := by rw [← h]; exact List.dropLast_eq_take
set_option maxRecDepth 20000 in
set_option maxHeartbeats 4000000 in
theorem scan_any (a : Option Addr) (n c : Nat) (l : List Int) (w : World) (h : Row .u8 w a n c l) (hbin : Bin l) (hn : n ≤ 2097152) :
    Calls Tryd.prog 24 #[.slice a n c] w fun e w' => ScanSays (scanL l) w.heap.size e w' ∧ Below w.heap.size w w' := by
  have hmc := h.le
  have hcm := h.max
  unfold maxLen at hcm
  have hen := ends_any a n c l w h hn
  have H := Lib.hid h
  have HB := Lib.hid hbin
  have HE := Lib.hid hen
  obtain ⟨N, hN⟩ : ∃ N, N = (endsL l).length := ⟨_, rfl⟩
  have hNl : N ≤ 2097152 := by have := endsL_len l; rw [h.len] at this; omega
  have HN := Lib.hid hN
  rw [← hN] at HE
  clear h hbin hen hN
  go_enter Tryd.func24, Tryd.ntmps24
  go_wp2_with fail
  refine HE.out.mono ?_
  rintro e w1 ⟨⟨v1, a1, c1, rfl, rfl, hr1⟩, hb1⟩
  have hle1 := hr1.le
  have hmx1 := hr1.max
  unfold maxLen at hmx1
  have HR1 := Lib.hid hr1
  have HB1 := Lib.hid hb1
  clear hr1 hb1
  by_cases h0 : N = 0
  · subst h0
    have hs : scanL l = ([], 0, true) := by unfold scanL; rw [if_pos HN.out.symm]
    have HS := Lib.hid hs
    clear hs
    go_wp2
    go_ret3
    refine ⟨?_, HB1.out⟩
    rw [HS.out]
    exact ⟨_, none, 0, rfl, rfl, Mat.nil _ _ _⟩
  · have hN0 : 0 < N := by omega
    have hN0' : ((N : Int) == 0) = false := by simpa using h0
    have hs : scanL l = ((outsR l (endsL l) (N - 1)).1, (outsR l (endsL l) (N - 1)).2 + (if abortL (l.drop (lastE (endsL l))) then 1 else 0), abortL (l.drop (lastE (endsL l)))) := by
      unfold scanL; rw [if_neg (by rw [← HN.out]; exact h0), ← HN.out]
    have hb0 := fun k => outsR_bound l (endsL l) k
    have hE := fun k => getD_le (endsL_le l) k
    have hE1 : ∀ k, k < N → 1 ≤ (endsL l).getD k 0 := fun k hk => (endsL_le l _ (by rw [List.getD_eq_getElem?_getD, List.getElem?_eq_getElem (by rw [← HN.out]; exact hk), Option.getD_some]; exact List.getElem_mem _)).1
    have hEs : ∀ k, k + 1 < N → (endsL l).getD k 0 < (endsL l).getD (k + 1) 0 := fun k hk => endsL_sorted l k (k + 1) (by omega) (by rw [← HN.out]; exact hk)
    have HS := Lib.hid hs
    have HBd := Lib.hid hb0
    have HEl := Lib.hid hE
    have HE1 := Lib.hid hE1
    have HEs := Lib.hid hEs
    have hsrow := H.out.later HB1.out
    have HSr := Lib.hid hsrow
    clear hs h0 hb0 hE hE1 hEs HE hsrow
    go_wp2_with fail
    go_loopw [6, 7, 8, 9, 10] (fun v er i _ _ wr => ∃ k : Nat, ∃ q : Int, k + 1 ≤ N ∧ i = .int .i64 ((k : Int) + 1) ∧ er = .int .i64 q ∧ q = (outsR l (endsL l) k).2 ∧ Below w1.heap.size w1 wr ∧ Gath w1.heap.size false v (outsR l (endsL l) k).1 wr) (fun _ _ i _ _ _ => N + 1 - (intOf i).toNat)
    case atStart => exact ⟨0, 0, by omega, rfl, rfl, rfl, Below.refl _ _, Gath.nil _ _ _⟩
    case round =>
      obtain ⟨k, q, hk, rfl, rfl, hq, hbel, hga⟩ := hrel
      have hrE := HR1.out.later hbel
      by_cases hlt : k + 1 < N
      · obtain ⟨e0, he0⟩ : ∃ e0, e0 = (endsL l).getD k 0 := ⟨_, rfl⟩
        obtain ⟨e1, he1⟩ : ∃ e1, e1 = (endsL l).getD (k + 1) 0 := ⟨_, rfl⟩
        have hlt01 := HEs.out k hlt
        have hle1' := HEl.out (k + 1)
        rw [H.out.len] at hle1'
        rw [← he0, ← he1] at hlt01
        rw [← he1] at hle1'
        obtain ⟨r, rfl⟩ : ∃ r, e1 = e0 + (r + 1) := ⟨e1 - e0 - 1, by omega⟩
        obtain ⟨eb, eo, rfl, hcE⟩ : ∃ eb eo, a1 = some ⟨eb, eo, none⟩ ∧ ∀ i, i < N → wr.cell? ⟨eb, eo + i, none⟩ = some (.int .i64 ((posI (endsL l)).getD i 0)) := by
          rcases hrE.cells with h | ⟨eb, eo, ha, hc⟩
          · omega
          · exact ⟨eb, eo, ha, hc⟩
        have g0 := hcE k (by omega)
        have g1 := hcE (k + 1) hlt
        rw [posI_getD, ← he0] at g0
        rw [posI_getD, ← he1] at g1
        obtain ⟨sb, so, rfl, _⟩ := row_at (HSr.out.later hbel) (i := 0) (by omega)
        have hpart := (HSr.out.later hbel).piece e0 (r + 1) (by omega)
        have hpe : partOf l (endsL l) (k + 1) = (l.drop e0).take (r + 1) := by
          unfold partOf
          rw [Nat.add_sub_cancel, ← he0, ← he1, List.drop_take, Nat.add_sub_cancel_left]
        obtain ⟨p, hp⟩ : ∃ p, p = (l.drop e0).take (r + 1) := ⟨_, rfl⟩
        rw [← hp] at hpart hpe
        have hfront := hpart.front r (by omega)
        have hbp : Bin p := by rw [hp]; exact (HB.out.drop e0).take (r + 1)
        have hdl : p.dropLast = p.take r := by rw [dropLast_take p (r + 1) hpart.len, Nat.add_sub_cancel]
        have hpl := fun q => plain_any _ _ _ _ (wr.drewN q) (hfront.later (below_draw wr q)) (hbp.take r) (by omega)
        have hstep : ∀ J, judge (plain (p.take r)) (abortL p) = J → outsR l (endsL l) (k + 1) = ((outsR l (endsL l) k).1 ++ J.1, (outsR l (endsL l) k).2 + J.2) := fun J hJ => by
          simp only [outsR]
          rw [hpe]
          unfold judgeR
          rw [hdl, hJ]
        obtain ⟨M, hM⟩ : ∃ M, M = (plain (p.take r)).length := ⟨_, rfl⟩
        rw [← hM] at hpl
        have hMl : M ≤ 2097152 := by have := plain_length (p.take r); rw [List.length_take] at this; omega
        have hq0 := (HBd.out k).2
        rw [← hq] at hq0
        obtain ⟨hq0, hq1⟩ := hq0
        have hoL := (HBd.out k).1
        have HPl := Lib.hid hpl
        have HSt := Lib.hid hstep
        have HMM := Lib.hid hM
        have HPa := Lib.hid hpart
        have HQ := Lib.hid hq
        have HG := Lib.hid hga
        have HBl := Lib.hid hbel
        have HOL := Lib.hid hoL
        have HBP := Lib.hid hbp
        clear hpl hstep hM hpart hq hga hrE hbel hoL hpe hp he0 he1 hcE hfront hdl hlt01 hbp
        go_wp2_with fail
        go_quiet (fail)
        simp only [Nat.add_sub_cancel_left]
        go_wp2_with fail
        refine (HPl.out _).mono ?_
        rintro e w2 ⟨⟨v2, a2, c2, rfl, rfl, hr2, hs2⟩, hb2⟩
        have hB2 : Below wr.heap.size wr w2 := (below_draw wr _).trans hb2
        have hga2 := HG.out.later hB2
        have hbl2 := HBl.out.trans (hB2.mono HBl.out.size)
        have hpa2 := HPa.out.later hB2
        have hab := aborted_any _ _ _ _ w2 hpa2 (by omega)
        have hnone : a2 = none → c2 = 0 := hr2.isNil
        have hle2 := hr2.le
        have hmx2 := hr2.max
        unfold maxLen at hmx2
        have HG2 := Lib.hid hga2
        have HB2 := Lib.hid hbl2
        have HAb := Lib.hid hab
        have HR2 := Lib.hid hr2
        have HBw := Lib.hid hB2
        clear hga2 hbl2 hpa2 hab hr2 hb2 hB2 g0 g1
        obtain ⟨ab, hab⟩ : ∃ ab, ab = abortL p := ⟨_, rfl⟩
        have HA := Lib.hid hab
        rw [← hab] at HAb
        clear hab
        have fin : ∀ (v' : Value) (J : List (List Int) × Int) (w' : World), judge (plain (p.take r)) ab = J → Gath w1.heap.size false v' ((outsR l (endsL l) k).1 ++ J.1) w' → Below w1.heap.size w1 w' →
            ∃ k' : Nat, ∃ q' : Int, k' + 1 ≤ N ∧ Value.int .i64 ((k : Int) + 1 + 1) = .int .i64 ((k' : Int) + 1) ∧ Value.int .i64 (q + J.2) = .int .i64 q' ∧ q' = (outsR l (endsL l) k').2 ∧ Below w1.heap.size w1 w' ∧ Gath w1.heap.size false v' (outsR l (endsL l) k').1 w' := fun v' J w' hJ h1 h2 => by
          have hs := HSt.out J (by rw [← HA.out]; exact hJ)
          exact ⟨k + 1, q + J.2, by omega, by push_cast; rfl, rfl, by rw [hs, HQ.out], h2, by rw [hs]; exact h1⟩
        have HFin := Lib.hid fin
        clear fin
        have hfl : (front (plain (p.take r))).length = M - 7 := by unfold front; rw [List.length_take, ← HMM.out]; omega
        have HFl := Lib.hid hfl
        clear hfl
        rcases a2 with _ | ⟨ab2, ao2, sp2⟩
        · have hc0 := hnone rfl
          subst hc0
          have hM0 : M = 0 := by omega
          subst hM0
          clear hs2 hnone hle2 hmx2 hMl
          cases ab with
          | true =>
            go_wp2_with fail
            refine HAb.out.mono ?_
            rintro e w' ⟨rfl, rfl⟩
            go_wp2
            exact ⟨HFin.out _ _ _ (judge_ab _) (by simpa using HG2.out) HB2.out, by simp [intOf]; omega⟩
          | false =>
            go_wp2_with fail
            refine HAb.out.mono ?_
            rintro e w' ⟨rfl, rfl⟩
            go_wp2
            exact ⟨by simpa using HFin.out _ ([], 0) _ (judge_0 (by rw [HFl.out])) (by simpa using HG2.out) HB2.out, by simp [intOf]; omega⟩
        · have := hs2 _ rfl
          simp at this
          subst this
          clear hs2 hnone
          by_cases hM7 : 7 < M
          · obtain ⟨pp, rfl⟩ : ∃ pp, M = pp + 7 := ⟨M - 7, by omega⟩
            have hpp : 0 < pp := by omega
            clear hM7
            cases ab with
            | true =>
              go_wp2_with fail
              refine HAb.out.mono ?_
              rintro e w' ⟨rfl, rfl⟩
              go_wp2
              exact ⟨HFin.out _ _ _ (judge_ab _) (by simpa using HG2.out) HB2.out, by simp [intOf]; omega⟩
            | false =>
              have hfl2 := HFl.out
              rw [Nat.add_sub_cancel] at hfl2
              have hpp0 : ((pp : Int) == 0) = false := by simp; omega
              by_cases h8 : pp % 8 = 0
              · have ht8 : ((pp : Int) % 8 != 0) = false := by
                  have : (pp : Int) % 8 = 0 := by omega
                  simp [this]
                by_cases h40 : pp < 40
                · have ht40 : (pp : Int) < 40 := by omega
                  have hj := judge_bad (b := plain (p.take r)) (by rw [hfl2]; omega) (by unfold badC; rw [hfl2]; omega)
                  have HJ := Lib.hid hj
                  clear hj h8 h40 hfl2
                  go_wp2_with fail
                  refine HAb.out.mono ?_
                  rintro e w' ⟨rfl, rfl⟩
                  go_wp2
                  exact ⟨HFin.out _ _ _ HJ.out (by simpa using HG2.out) HB2.out, by simp [intOf]; omega⟩
                · have ht40 : ¬ (pp : Int) < 40 := by omega
                  by_cases h22 : 2240 < pp
                  · have ht22 : 2240 < (pp : Int) := by omega
                    have hj := judge_bad (b := plain (p.take r)) (by rw [hfl2]; omega) (by unfold badC; rw [hfl2]; omega)
                    have HJ := Lib.hid hj
                    clear hj h8 h40 h22 hfl2
                    go_wp2_with fail
                    refine HAb.out.mono ?_
                    rintro e w' ⟨rfl, rfl⟩
                    go_wp2
                    exact ⟨HFin.out _ _ _ HJ.out (by simpa using HG2.out) HB2.out, by simp [intOf]; omega⟩
                  · have ht22 : ¬ 2240 < (pp : Int) := by omega
                    have hnb : ¬ badC (front (plain (p.take r))) := by unfold badC; rw [hfl2]; omega
                    have hj := judge_good (b := plain (p.take r)) (by rw [hfl2]; omega) hnb
                    have hrf := HR2.out.front pp (by omega)
                    have hfe : (plain (p.take r)).take pp = front (plain (p.take r)) := by unfold front; rw [← HMM.out, Nat.add_sub_cancel]
                    rw [hfe] at hrf
                    have hoc := refOctets_any _ _ _ _ w2 hrf (Bin.isBits (by rw [← hfe]; exact (bin_plain (HBP.out.take r)).take pp)) (by omega)
                    have hol := octs_len' (front (plain (p.take r)))
                    have hon := octs_ne hnb
                    obtain ⟨ol, hol2⟩ : ∃ ol, ol = octs (front (plain (p.take r))) := ⟨_, rfl⟩
                    rw [← hol2] at hoc hj hol hon
                    have hsz2 := HB2.out.size
                    have HJ := Lib.hid hj
                    have HOc := Lib.hid hoc
                    clear hj hoc hrf hfe hnb h8 h40 h22 hol2 hfl2 hol hon
                    go_wp2_with fail
                    refine HAb.out.mono ?_
                    rintro e w' ⟨rfl, rfl⟩
                    go_wp2_with fail
                    refine HOc.out.mono ?_
                    rintro e w3 ⟨⟨a3, c3, rfl, hr3, hlo3⟩, hb3⟩
                    have hrv : RowV w3 (fun j => w2.heap.size ≤ j ∧ j < w3.heap.size) false (.slice a3 ol.length c3) ol := ⟨a3, c3, rfl, hr3, by simp, hlo3⟩
                    have hrw := HG2.out.row (w' := w3) hsz2 hrv (fun _ h => h)
                    have hg3 := HG2.out.later hb3
                    have hB3 := HB2.out.trans (hb3.mono hsz2)
                    have hsz3 := hB3.size
                    have HRw := Lib.hid hrw
                    have HG3 := Lib.hid hg3
                    have HB3 := Lib.hid hB3
                    clear hr3 hlo3 hb3 hrv hrw hg3 hB3
                    go_wp2_with (at_builtin; refine wpList_append_row rfl _ _ rfl w1.heap.size _ false _ _ _ _ rfl (by exact HG3.out.mat) (by exact HRw.out) (by exact fun _ hj hh => hh.2.1 hj) rfl (by have := HOL.out; omega) hsz3 ?_)
                    intro v4 w4 h1 h2
                    have hg4 := Gath.add h1 h2
                    have hB4 := h2.below (B := w1.heap.size) hsz3 (fun j hj => (HG3.out.lt j hj).1)
                    have HG4 := Lib.hid hg4
                    have HB4 := Lib.hid (HB3.out.trans hB4)
                    clear h1 h2 hg4 hB4
                    go_wp2
                    exact ⟨by simpa using HFin.out _ _ _ HJ.out HG4.out HB4.out, by simp [intOf]; omega⟩
              · have ht8 : ((pp : Int) % 8 != 0) = true := by
                  have : (pp : Int) % 8 ≠ 0 := by omega
                  simpa using this
                have hj := judge_bad (b := plain (p.take r)) (by rw [hfl2]; omega) (by unfold badC; rw [hfl2]; omega)
                have HJ := Lib.hid hj
                clear hj h8 hfl2
                go_wp2_with fail
                refine HAb.out.mono ?_
                rintro e w' ⟨rfl, rfl⟩
                go_wp2
                exact ⟨HFin.out _ _ _ HJ.out (by simpa using HG2.out) HB2.out, by simp [intOf]; omega⟩
          · have hM70 : M - 7 = 0 := by omega
            have hM7' : M ≤ 7 := by omega
            cases ab with
            | true =>
              go_wp2_with fail
              refine HAb.out.mono ?_
              rintro e w' ⟨rfl, rfl⟩
              go_wp2
              exact ⟨HFin.out _ _ _ (judge_ab _) (by simpa using HG2.out) HB2.out, by simp [intOf]; omega⟩
            | false =>
              go_wp2_with fail
              refine HAb.out.mono ?_
              rintro e w' ⟨rfl, rfl⟩
              go_wp2
              exact ⟨by simpa using HFin.out _ ([], 0) _ (judge_0 (by rw [HFl.out]; omega)) (by simpa using HG2.out) HB2.out, by simp [intOf]; omega⟩
      · obtain rfl : N = k + 1 := by omega
        rw [Nat.add_sub_cancel] at HS
        obtain ⟨e0, he0⟩ : ∃ e0, e0 = (endsL l).getD k 0 := ⟨_, rfl⟩
        have hle0 := HEl.out k
        rw [H.out.len, ← he0] at hle0
        have hpos := HE1.out k (by omega)
        rw [← he0] at hpos
        obtain ⟨eb, eo, rfl, g0⟩ := row_at hrE (i := k) (by omega)
        rw [posI_getD, ← he0] at g0
        obtain ⟨sb, so, rfl, _⟩ := row_at (HSr.out.later hbel) (i := 0) (by omega)
        have hlast : lastE (endsL l) = e0 := by unfold lastE; rw [← HN.out, Nat.add_sub_cancel, he0]
        rw [hlast, ← hq] at HS
        have hsr := HSr.out.later hbel
        have hab : ∀ oo : Nat, (e0 < n → oo = so + e0) → Calls Tryd.prog 41 #[.slice (some ⟨sb, oo, none⟩) (n - e0) (c - e0)] wr fun e w' => e = .returned (.bool (abortL (l.drop e0))) ∧ wr = w' := fun oo hoo =>
          aborted_any _ _ _ _ wr (hsr.cut e0 hle0 (some ⟨sb, oo, none⟩) (fun h b o hbo => by simp at hbo; obtain ⟨rfl, rfl⟩ := hbo; rw [hoo h]) (by simp)) (by omega)
        have hq0 := (HBd.out k).2
        rw [← hq] at hq0
        obtain ⟨hq0, hq1⟩ := hq0
        obtain ⟨a', c', rfl, hmat, hlow⟩ := hga.done
        have hbl := HB1.out.trans (hbel.mono HB1.out.size)
        have hsz1 := HB1.out.size
        obtain ⟨ab, hab2⟩ : ∃ ab, ab = abortL (l.drop e0) := ⟨_, rfl⟩
        rw [← hab2] at hab HS
        have HAb := Lib.hid hab
        have HM := Lib.hid (hmat.weak (P' := fun j => w.heap.size ≤ j) (fun j hj => by omega))
        have HBl := Lib.hid hbl
        clear hab hmat hlow hbl hga hbel hrE hsr hlast he0 hq hab2
        have hfinT : ab = true → ScanSays (scanL l) w.heap.size (.returned (.tuple #[.slice a' (outsR l (endsL l) k).1.length c', .int .i64 (q + 1), .bool true])) wr := fun hh => by
          rw [HS.out, hh]
          exact ⟨_, a', c', rfl, rfl, HM.out⟩
        have hfinF : ab = false → ScanSays (scanL l) w.heap.size (.returned (.tuple #[.slice a' (outsR l (endsL l) k).1.length c', .int .i64 q, .bool false])) wr := fun hh => by
          rw [HS.out, hh]
          exact ⟨_, a', c', by simp, rfl, HM.out⟩
        have HT := Lib.hid hfinT
        have HF := Lib.hid hfinF
        clear hfinT hfinF
        by_cases hce : c = e0
        · have hn0 : n = e0 := by omega
          have hcon := HAb.out so (by omega)
          subst hn0 hce
          simp only [Nat.sub_self] at hcon
          have HCon := Lib.hid hcon
          clear hcon
          cases ab with
          | true =>
            go_wp2_with fail
            refine HCon.out.mono ?_
            rintro e w' ⟨rfl, rfl⟩
            go_wp2
            go_ret3
            exact ⟨HT.out trivial, HBl.out⟩
          | false =>
            go_wp2_with fail
            refine HCon.out.mono ?_
            rintro e w' ⟨rfl, rfl⟩
            go_wp2
            go_ret3
            exact ⟨HF.out trivial, HBl.out⟩
        · have hcon := HAb.out (so + e0) (fun _ => rfl)
          have HCon := Lib.hid hcon
          clear hcon
          cases ab with
          | true =>
            go_wp2_with fail
            refine HCon.out.mono ?_
            rintro e w' ⟨rfl, rfl⟩
            go_wp2
            go_ret3
            exact ⟨HT.out trivial, HBl.out⟩
          | false =>
            go_wp2_with fail
            refine HCon.out.mono ?_
            rintro e w' ⟨rfl, rfl⟩
            go_wp2
            go_ret3
            exact ⟨HF.out trivial, HBl.out⟩
end Go.Proofs.YtohhocndicnegaaDoor
