/- ReroutesTime: another place is free exactly from the last tick plus the hold time on. -/
import Derived.Test.YtnkpmjkbkdnfjaaRrLives
namespace Go.Proofs.Ytnkpmjkbkdnfjaa
open Go.RowKit

theorem time_free (hold at0 now : Int) : ((((Pn.fresh hold).offer 1).went at0 ⟨1, 0, 1, 0⟩).offer 2).free now ⟨2, 0, 2, 0⟩ ↔ (if 9223372036854775807 - hold < at0 then 9223372036854775807 else at0 + hold) ≤ now := by
  simp [Pn.free, Pn.offer, Pn.went, Pn.fresh, Pn.due]
  exact Iff.rfl
set_option maxHeartbeats 4000000 in
set_option maxRecDepth 100000 in
theorem time_walk (hold at0 now : Int) (w : World) (h0 : (Lit.int .i64 hold).wf = true) (h1 : (Lit.int .i64 at0).wf = true) (h2 : (Lit.int .i64 now).wf = true) :
    Calls Try.prog 6 #[.int .i64 hold, .int .i64 at0, .int .i64 now] w fun e w' => e = .returned (.bool true) ∧ Below w.heap.size w w' := by
  have HH := Lib.hid (wf_i64.1 h0)
  have HA := Lib.hid (wf_i64.1 h1)
  have HNw := Lib.hid (wf_i64.1 h2)
  clear h0 h1 h2
  by_cases hneg : hold < 0
  · go_enter Try.func6, Try.ntmps6
    go_wp2_with fail
    refine (new_bad hold w hneg).mono ?_
    rintro e w1 ⟨rfl, rfl⟩
    go_wp2_with fail
    refine (lives_any w).mono ?_
    rintro e w2 ⟨rfl, hb⟩
    go_wp2
    go_ret
    exact ⟨rfl, hb⟩
  have hpos : 0 ≤ hold := by omega
  have HPos := Lib.hid hpos
  clear hpos
  go_enter Try.func6, Try.ntmps6
  go_wp2_with fail
  refine (new_any hold w HPos.out HH.out.2).mono ?_
  rintro e w1 ⟨rfl, h1, b1⟩
  have hg := GN.start h1 b1
  obtain ⟨b, hb⟩ : ∃ b, b = w.heap.size := ⟨_, rfl⟩
  rw [← hb] at hg ⊢
  obtain ⟨x0, hx0⟩ : ∃ x, x = Gt.fresh hold := ⟨_, rfl⟩
  rw [← hx0] at hg
  have HG := Lib.hid (show GN w w1 b x0 (Pn.fresh hold) from hg)
  clear hg h1 b1 hb hx0
  go_wp2_with fail
  refine (item_any 1 _ (by first | decide | omega)).mono ?_
  rintro e w2 ⟨g2, rfl, hr, hgg, hb⟩
  have hg2 := HG.out.more hb
  have HG := Lib.hid hg2
  clear hg2
  have HC := Lib.hid (offerN w b x0 (Pn.fresh hold) 1 g2 w2 HG.out (by simp [Pn.fresh]) hr)
  clear hr hgg hb
  go_wp2_with fail
  refine HC.out.mono ?_
  rintro e w3 ⟨x3, rfl, ht, hg⟩
  have HG := Lib.hid (show GN w w3 b x3 ((Pn.fresh hold).offer 1) from hg)
  clear ht hg HC
  go_wp2_with fail
  refine (wayN_any 0 _ (by decide) (by decide)).mono ?_
  rintro e w4 ⟨rfl, hb⟩
  have hg2 := HG.out.more hb
  have HG := Lib.hid hg2
  clear hg2
  clear hb
  have HC := Lib.hid (passN_ok w b x3 ((Pn.fresh hold).offer 1) at0 1 0 1 0 w4 HG.out (by simp [Pn.offer, Pn.fresh]) (by simp [Pn.free, Pn.offer, Pn.fresh]) HA.out)
  go_wp2_with fail
  refine HC.out.mono ?_
  rintro e w5 ⟨aa, Ca, x5, rfl, hna, ho, ht, hg⟩
  have HG := Lib.hid (show GN w w5 b x5 (((Pn.fresh hold).offer 1).went at0 ⟨1, 0, 1, 0⟩) from hg)
  have Oa := Lib.hid ho.off
  have Na := Lib.hid hna
  clear ht hg ho hna HC
  go_wp2_with fail
  refine (item_any 2 _ (by first | decide | omega)).mono ?_
  rintro e w6 ⟨g6, rfl, hr, hgg, hb⟩
  have hg2 := HG.out.more hb
  have oa2 := Oa.out.more hb
  have HG := Lib.hid hg2
  clear hg2
  have Oa := Lib.hid oa2
  clear oa2
  have HC := Lib.hid (offerN w b x5 (((Pn.fresh hold).offer 1).went at0 ⟨1, 0, 1, 0⟩) 2 g6 w6 HG.out (by simp [Pn.offer, Pn.fresh, Pn.went]) hr)
  clear hr hgg hb
  go_wp2_with fail
  refine HC.out.mono ?_
  rintro e w7 ⟨x7, rfl, ht, hg⟩
  have oa2 := Oa.out.act ht
  have HG := Lib.hid (show GN w w7 b x7 ((((Pn.fresh hold).offer 1).went at0 ⟨1, 0, 1, 0⟩).offer 2) from hg)
  have Oa := Lib.hid oa2
  clear oa2
  clear ht hg HC
  obtain ⟨D, hD⟩ : ∃ D : Int, D = IntKind.i64.wrap (at0 + hold) := ⟨_, rfl⟩
  have HT := Lib.hid (time_free hold at0 now)
  by_cases hov : 9223372036854775807 - hold < at0
  · have hD2 : D < at0 := by
      have a1 := HH.out
      have a2 := HA.out
      rw [hD, IntKind.wrap_i64]
      omega
    have hw : IntKind.i64.wrap (at0 + hold) = D := hD.symm
    have hT := HT.out
    rw [if_pos hov] at hT
    have HT := Lib.hid hT
    clear hov hD hT
    by_cases hfr : (9223372036854775807 : Int) ≤ now
    · have HF := Lib.hid (HT.out.2 hfr)
      go_wp2_with fail
      refine (wayN_any 1 _ (by decide) (by decide)).mono ?_
      rintro e w8 ⟨rfl, hb⟩
      have hg2 := HG.out.more hb
      have oa2 := Oa.out.more hb
      have HG := Lib.hid hg2
      clear hg2
      have Oa := Lib.hid oa2
      clear oa2
      clear hb
      have HC := Lib.hid (passN_ok w b x7 ((((Pn.fresh hold).offer 1).went at0 ⟨1, 0, 1, 0⟩).offer 2) now 2 0 2 0 w8 HG.out (by simp [Pn.offer, Pn.fresh, Pn.went]) HF.out HNw.out)
      go_wp2_with fail
      refine HC.out.mono ?_
      rintro e w9 ⟨ab, Cb, x9, rfl, hnb, ho, ht, hg⟩
      have oa2 := Oa.out.act ht
      have HG := Lib.hid (show GN w w9 b x9 (((((Pn.fresh hold).offer 1).went at0 ⟨1, 0, 1, 0⟩).offer 2).went now ⟨2, 0, 2, 0⟩) from hg)
      have Oa := Lib.hid oa2
      clear oa2
      have Ob := Lib.hid ho.off
      have Nb := Lib.hid hnb
      clear ht hg ho hnb HC
      have hb := below_alloc w9 (.cells #[.int .i64 1] 3)
      have hr : Row .i64 (w9.alloc (.cells #[.int .i64 1] 3)) (some ⟨w9.heap.size, 0, none⟩) 1 1 (([1] : List Nat).map (fun n : Nat => (n : Int))) := row_lit .i64 w9 3 (([1] : List Nat).map (fun n : Nat => (n : Int))) 1 rfl (by decide) (by decide)
      have hg2 := HG.out.more hb
      have oa2 := Oa.out.more hb
      have ob2 := Ob.out.more hb
      have HG := Lib.hid hg2
      clear hg2
      have Oa := Lib.hid oa2
      clear oa2
      have Ob := Lib.hid ob2
      clear ob2
      have HC := Lib.hid (list_yes _ _ aa (some ⟨w9.heap.size, 0, none⟩) Ca [1] 1 1 Oa.out Na.out rfl (by decide) hr (by decide))
      clear hr hb
      go_wp2_with fail
      refine HC.out.mono ?_
      rintro e w10 ⟨rfl, q, hq⟩
      have hb : Below _ _ w10 := hq ▸ below_draw _ q
      clear hq
      have hg2 := HG.out.more hb
      have oa2 := Oa.out.more hb
      have ob2 := Ob.out.more hb
      have HG := Lib.hid hg2
      clear hg2
      have Oa := Lib.hid oa2
      clear oa2
      have Ob := Lib.hid ob2
      clear ob2
      clear hb HC
      have hl : Calls Try.prog 15 #[.pointer (some ⟨b, 0, none⟩)] w10 fun e w' => e = .returned (.int .i64 0) ∧ ∃ q, w' = w10.drewN q := by
        have := len_any b x9 w10 HG.out.here
        rw [HG.out.is.len] at this
        exact this
      have HC := Lib.hid hl
      clear hl
      go_wp2_with fail
      refine HC.out.mono ?_
      rintro e w11 ⟨rfl, q, hq⟩
      have hb : Below _ _ w11 := hq ▸ below_draw _ q
      clear hq
      have hg2 := HG.out.more hb
      have oa2 := Oa.out.more hb
      have ob2 := Ob.out.more hb
      have HG := Lib.hid hg2
      clear hg2
      have Oa := Lib.hid oa2
      clear oa2
      have Ob := Lib.hid ob2
      clear ob2
      clear hb HC
      go_wp2_with fail
      refine (lives_any w11).mono ?_
      rintro e w12 ⟨rfl, hb⟩
      have hg2 := HG.out.more hb
      have oa2 := Oa.out.more hb
      have ob2 := Ob.out.more hb
      have HG := Lib.hid hg2
      clear hg2
      have Oa := Lib.hid oa2
      clear oa2
      have Ob := Lib.hid ob2
      clear ob2
      clear hb
      go_wp2
      go_ret
      exact ⟨rfl, HG.out.bel⟩
    · have HF := Lib.hid (mt HT.out.1 hfr)
      have hfd : decide ((9223372036854775807 : Int) ≤ now) = false := by simp only [hfr, decide_false]
      go_wp2_with fail
      refine (wayN_any 1 _ (by decide) (by decide)).mono ?_
      rintro e w8 ⟨rfl, hb⟩
      have hg2 := HG.out.more hb
      have oa2 := Oa.out.more hb
      have HG := Lib.hid hg2
      clear hg2
      have Oa := Lib.hid oa2
      clear oa2
      clear hb
      have HC := Lib.hid (passN_no w b x7 ((((Pn.fresh hold).offer 1).went at0 ⟨1, 0, 1, 0⟩).offer 2) now 2 0 2 0 w8 HG.out (.inr HF.out))
      go_wp2_with fail
      refine HC.out.mono ?_
      rintro e w9 ⟨a9, C9, x9, rfl, hn, ho, ht, hg⟩
      have oa2 := Oa.out.act ht
      have HG := Lib.hid hg
      have Oa := Lib.hid oa2
      clear oa2
      clear ht hg hn ho HC
      have hb := below_alloc w9 (.cells #[.int .i64 1] 3)
      have hr : Row .i64 (w9.alloc (.cells #[.int .i64 1] 3)) (some ⟨w9.heap.size, 0, none⟩) 1 1 (([1] : List Nat).map (fun n : Nat => (n : Int))) := row_lit .i64 w9 3 (([1] : List Nat).map (fun n : Nat => (n : Int))) 1 rfl (by decide) (by decide)
      have hg2 := HG.out.more hb
      have oa2 := Oa.out.more hb
      have HG := Lib.hid hg2
      clear hg2
      have Oa := Lib.hid oa2
      clear oa2
      have HC := Lib.hid (list_yes _ _ aa (some ⟨w9.heap.size, 0, none⟩) Ca [1] 1 1 Oa.out Na.out rfl (by decide) hr (by decide))
      clear hr hb
      go_wp2_with fail
      refine HC.out.mono ?_
      rintro e w10 ⟨rfl, q, hq⟩
      have hb : Below _ _ w10 := hq ▸ below_draw _ q
      clear hq
      have hg2 := HG.out.more hb
      have oa2 := Oa.out.more hb
      have HG := Lib.hid hg2
      clear hg2
      have Oa := Lib.hid oa2
      clear oa2
      clear hb HC
      have hl : Calls Try.prog 15 #[.pointer (some ⟨b, 0, none⟩)] w10 fun e w' => e = .returned (.int .i64 1) ∧ ∃ q, w' = w10.drewN q := by
        have := len_any b x9 w10 HG.out.here
        rw [HG.out.is.len] at this
        exact this
      have HC := Lib.hid hl
      clear hl
      go_wp2_with fail
      refine HC.out.mono ?_
      rintro e w11 ⟨rfl, q, hq⟩
      have hb : Below _ _ w11 := hq ▸ below_draw _ q
      clear hq
      have hg2 := HG.out.more hb
      have oa2 := Oa.out.more hb
      have HG := Lib.hid hg2
      clear hg2
      have Oa := Lib.hid oa2
      clear oa2
      clear hb HC
      go_wp2_with fail
      refine (lives_any w11).mono ?_
      rintro e w12 ⟨rfl, hb⟩
      have hg2 := HG.out.more hb
      have oa2 := Oa.out.more hb
      have HG := Lib.hid hg2
      clear hg2
      have Oa := Lib.hid oa2
      clear oa2
      clear hb
      go_wp2
      go_ret
      exact ⟨rfl, HG.out.bel⟩
  · have hD2 : ¬ D < at0 := by
      have a1 := HH.out
      have a2 := HA.out
      have a3 := HPos.out
      rw [hD, IntKind.wrap_i64]
      omega
    have hw : IntKind.i64.wrap (at0 + hold) = D := hD.symm
    have hT := HT.out
    rw [if_neg hov] at hT
    have hDe : at0 + hold = D := by
      have a1 := HH.out
      have a2 := HA.out
      have a3 := HPos.out
      rw [hD, IntKind.wrap_i64]
      omega
    rw [hDe] at hT
    have HT := Lib.hid hT
    clear hov hD hT hDe
    by_cases hfr : D ≤ now
    · have HF := Lib.hid (HT.out.2 hfr)
      go_wp2_with fail
      refine (wayN_any 1 _ (by decide) (by decide)).mono ?_
      rintro e w8 ⟨rfl, hb⟩
      have hg2 := HG.out.more hb
      have oa2 := Oa.out.more hb
      have HG := Lib.hid hg2
      clear hg2
      have Oa := Lib.hid oa2
      clear oa2
      clear hb
      have HC := Lib.hid (passN_ok w b x7 ((((Pn.fresh hold).offer 1).went at0 ⟨1, 0, 1, 0⟩).offer 2) now 2 0 2 0 w8 HG.out (by simp [Pn.offer, Pn.fresh, Pn.went]) HF.out HNw.out)
      go_wp2_with fail
      refine HC.out.mono ?_
      rintro e w9 ⟨ab, Cb, x9, rfl, hnb, ho, ht, hg⟩
      have oa2 := Oa.out.act ht
      have HG := Lib.hid (show GN w w9 b x9 (((((Pn.fresh hold).offer 1).went at0 ⟨1, 0, 1, 0⟩).offer 2).went now ⟨2, 0, 2, 0⟩) from hg)
      have Oa := Lib.hid oa2
      clear oa2
      have Ob := Lib.hid ho.off
      have Nb := Lib.hid hnb
      clear ht hg ho hnb HC
      have hb := below_alloc w9 (.cells #[.int .i64 1] 3)
      have hr : Row .i64 (w9.alloc (.cells #[.int .i64 1] 3)) (some ⟨w9.heap.size, 0, none⟩) 1 1 (([1] : List Nat).map (fun n : Nat => (n : Int))) := row_lit .i64 w9 3 (([1] : List Nat).map (fun n : Nat => (n : Int))) 1 rfl (by decide) (by decide)
      have hg2 := HG.out.more hb
      have oa2 := Oa.out.more hb
      have ob2 := Ob.out.more hb
      have HG := Lib.hid hg2
      clear hg2
      have Oa := Lib.hid oa2
      clear oa2
      have Ob := Lib.hid ob2
      clear ob2
      have HC := Lib.hid (list_yes _ _ aa (some ⟨w9.heap.size, 0, none⟩) Ca [1] 1 1 Oa.out Na.out rfl (by decide) hr (by decide))
      clear hr hb
      go_wp2_with fail
      refine HC.out.mono ?_
      rintro e w10 ⟨rfl, q, hq⟩
      have hb : Below _ _ w10 := hq ▸ below_draw _ q
      clear hq
      have hg2 := HG.out.more hb
      have oa2 := Oa.out.more hb
      have ob2 := Ob.out.more hb
      have HG := Lib.hid hg2
      clear hg2
      have Oa := Lib.hid oa2
      clear oa2
      have Ob := Lib.hid ob2
      clear ob2
      clear hb HC
      have hl : Calls Try.prog 15 #[.pointer (some ⟨b, 0, none⟩)] w10 fun e w' => e = .returned (.int .i64 0) ∧ ∃ q, w' = w10.drewN q := by
        have := len_any b x9 w10 HG.out.here
        rw [HG.out.is.len] at this
        exact this
      have HC := Lib.hid hl
      clear hl
      go_wp2_with fail
      refine HC.out.mono ?_
      rintro e w11 ⟨rfl, q, hq⟩
      have hb : Below _ _ w11 := hq ▸ below_draw _ q
      clear hq
      have hg2 := HG.out.more hb
      have oa2 := Oa.out.more hb
      have ob2 := Ob.out.more hb
      have HG := Lib.hid hg2
      clear hg2
      have Oa := Lib.hid oa2
      clear oa2
      have Ob := Lib.hid ob2
      clear ob2
      clear hb HC
      go_wp2_with fail
      refine (lives_any w11).mono ?_
      rintro e w12 ⟨rfl, hb⟩
      have hg2 := HG.out.more hb
      have oa2 := Oa.out.more hb
      have ob2 := Ob.out.more hb
      have HG := Lib.hid hg2
      clear hg2
      have Oa := Lib.hid oa2
      clear oa2
      have Ob := Lib.hid ob2
      clear ob2
      clear hb
      go_wp2
      go_ret
      exact ⟨rfl, HG.out.bel⟩
    · have HF := Lib.hid (mt HT.out.1 hfr)
      have hfd : decide (D ≤ now) = false := by simp only [hfr, decide_false]
      go_wp2_with fail
      refine (wayN_any 1 _ (by decide) (by decide)).mono ?_
      rintro e w8 ⟨rfl, hb⟩
      have hg2 := HG.out.more hb
      have oa2 := Oa.out.more hb
      have HG := Lib.hid hg2
      clear hg2
      have Oa := Lib.hid oa2
      clear oa2
      clear hb
      have HC := Lib.hid (passN_no w b x7 ((((Pn.fresh hold).offer 1).went at0 ⟨1, 0, 1, 0⟩).offer 2) now 2 0 2 0 w8 HG.out (.inr HF.out))
      go_wp2_with fail
      refine HC.out.mono ?_
      rintro e w9 ⟨a9, C9, x9, rfl, hn, ho, ht, hg⟩
      have oa2 := Oa.out.act ht
      have HG := Lib.hid hg
      have Oa := Lib.hid oa2
      clear oa2
      clear ht hg hn ho HC
      have hb := below_alloc w9 (.cells #[.int .i64 1] 3)
      have hr : Row .i64 (w9.alloc (.cells #[.int .i64 1] 3)) (some ⟨w9.heap.size, 0, none⟩) 1 1 (([1] : List Nat).map (fun n : Nat => (n : Int))) := row_lit .i64 w9 3 (([1] : List Nat).map (fun n : Nat => (n : Int))) 1 rfl (by decide) (by decide)
      have hg2 := HG.out.more hb
      have oa2 := Oa.out.more hb
      have HG := Lib.hid hg2
      clear hg2
      have Oa := Lib.hid oa2
      clear oa2
      have HC := Lib.hid (list_yes _ _ aa (some ⟨w9.heap.size, 0, none⟩) Ca [1] 1 1 Oa.out Na.out rfl (by decide) hr (by decide))
      clear hr hb
      go_wp2_with fail
      refine HC.out.mono ?_
      rintro e w10 ⟨rfl, q, hq⟩
      have hb : Below _ _ w10 := hq ▸ below_draw _ q
      clear hq
      have hg2 := HG.out.more hb
      have oa2 := Oa.out.more hb
      have HG := Lib.hid hg2
      clear hg2
      have Oa := Lib.hid oa2
      clear oa2
      clear hb HC
      have hl : Calls Try.prog 15 #[.pointer (some ⟨b, 0, none⟩)] w10 fun e w' => e = .returned (.int .i64 1) ∧ ∃ q, w' = w10.drewN q := by
        have := len_any b x9 w10 HG.out.here
        rw [HG.out.is.len] at this
        exact this
      have HC := Lib.hid hl
      clear hl
      go_wp2_with fail
      refine HC.out.mono ?_
      rintro e w11 ⟨rfl, q, hq⟩
      have hb : Below _ _ w11 := hq ▸ below_draw _ q
      clear hq
      have hg2 := HG.out.more hb
      have oa2 := Oa.out.more hb
      have HG := Lib.hid hg2
      clear hg2
      have Oa := Lib.hid oa2
      clear oa2
      clear hb HC
      go_wp2_with fail
      refine (lives_any w11).mono ?_
      rintro e w12 ⟨rfl, hb⟩
      have hg2 := HG.out.more hb
      have oa2 := Oa.out.more hb
      have HG := Lib.hid hg2
      clear hg2
      have Oa := Lib.hid oa2
      clear oa2
      clear hb
      go_wp2
      go_ret
      exact ⟨rfl, HG.out.bel⟩
end Go.Proofs.Ytnkpmjkbkdnfjaa
