/- Statements of layer 9: an act of the model: a wrong unit of a proving. -/
import Derived.Test.YtgfiikbecapodaaAlActB
namespace Go.Proofs.Ytgfiikbecapodaa
open Go.RowKit

set_option maxHeartbeats 4000000 in
set_option maxRecDepth 100000 in
theorem mact_3 (m : Nat) (x : Al) (w : World) (h : Md w m x) (hp : x.ph = 3) (hf : x.Fit) (hpr : x.prov ≤ 1000000) :
    Calls Try.prog 13 #[.pointer (some ⟨m, 0, none⟩), .int .u8 3] w fun e w' => e = .returned (.int .i64 0) ∧ MNext w m (x.wrong) w' := by
  have c7 := h.ph
  have c8 := h.left
  have c10 := h.urg
  have c12 := h.wr
  have f12 := h.frozen 12
  have hwm := hf.wr
  obtain ⟨K, hK⟩ : ∃ K, K = x.wr + 1 := ⟨_, rfl⟩
  have hw : IntKind.i64.wrap ((x.wr : Int) + 1) = (K : Int) := by rw [IntWalk.i64_in _ (by omega)]; omega
  obtain ⟨W1, hW1⟩ : ∃ W, W = w.setCell ⟨m, 12, none⟩ (.int .i64 (K : Int)) := ⟨_, rfl⟩
  obtain ⟨y, hy⟩ : ∃ y : Al, y = { x with wr := K } := ⟨_, rfl⟩
  have r1 : Md W1 m y := by rw [hW1, hy]; exact h.set 12 (.int .i64 (K : Int))
  have x1 : Exc (fun k => k = m) w W1 := by rw [hW1]; exact exc_set m 12 _ w
  have yw : y.wr = K := by rw [hy]
  have yu : y.urg = x.urg := by rw [hy]
  have yt : y.t = x.t := by rw [hy]
  have yp : y.prov = x.prov := by rw [hy]
  have hlim : x.lim = if x.urg then x.t.fewer else x.t.few := rfl
  have d12 := r1.wr
  have d10 := r1.urg
  have d4 := r1.c4
  have d5 := r1.c5
  rw [yw] at d12
  rw [yt] at d4 d5
  rw [yu] at d10
  rw [hp] at c7
  have HH := Lib.hid h
  have HR := Lib.hid r1
  have HX := Lib.hid x1
  have HW := Lib.hid hW1
  have HK := Lib.hid (And.intro hK hy)
  have HF := Lib.hid (And.intro hf (And.intro hp (And.intro hpr yp)))
  have hwr : ∀ L : Nat, L = x.lim → x.wrong = if K = L then (if x.prov < x.t.most then y.prove else y.ends 5) else y := by
    intro L hL
    rw [hL, hy, hK]
    unfold Al.wrong
    rw [if_pos hp]
    rfl
  clear h r1 x1 hW1 yw yu yp hf hp hpr hwm
  cases hu : x.urg
  · rw [hu] at c10 d10 hlim
    obtain ⟨L, hL⟩ : ∃ L, L = x.lim := ⟨_, rfl⟩
    rw [show x.t.few = L by rw [hL, hlim]; rfl] at d4
    have hwr1 := hwr L hL
    have HU := Lib.hid (And.intro hu hL)
    have HWr := Lib.hid hwr1
    clear hwr hwr1 hlim hL hu hy hK
    by_cases hkl : K = L
    · have HKL := Lib.hid hkl
      have b1 : ((K : Int) == (L : Int)) = true := by rw [eq_dec]; exact decide_eq_true hkl
      clear hkl
      go_enter Try.func13, Try.ntmps13
      go_upto_region 16 with fail
      rw [← HW.out]
      clear HW c7 c8 c10 c12 f12 hw
      go_quiet (fail)
      have h2 : Md (W1.drewN nq) m y := Own.drewK HR.out nq
      have x2 := HX.out.drawN nq
      generalize W1.drewN nq = W2 at h2 x2 ⊢
      have HR2 := Lib.hid h2
      have HX2 := Lib.hid x2
      have e11 := h2.prov
      have e6 := h2.c6
      rw [HF.out.2.2.2] at e11
      rw [yt] at e6
      clear h2 x2 d12 d10 d4 d5 b1
      by_cases hm : x.prov < x.t.most
      · have hm1 : (x.prov : Int) < (x.t.most : Int) := by omega
        have hm2 := decide_eq_true hm1
        have HM := Lib.hid hm
        clear hm
        go_wp2_with fail
        go_quiet (fail)
        have h3 : Md (W2.drewN nq) m y := Own.drewK HR2.out nq
        have x3 := HX2.out.drawN nq
        generalize W2.drewN nq = W3 at h3 x3 ⊢
        have HC := Lib.hid (mprove_any m y W3 h3 (by rw [HF.out.2.2.2]; exact HF.out.2.2.1))
        have HX3 := Lib.hid x3
        clear h3 x3 e11 e6
        go_wp2_with fail
        with_reducible refine HC.out.mono ?_
        rintro e w4 ⟨rfl, h4, x4⟩
        have H4 := Lib.hid (show MNext w m x.wrong w4 by
          rw [HWr.out, if_pos HKL.out, if_pos HM.out]
          exact ⟨h4, HX3.out.trans x4 (fun _ _ h => h)⟩)
        clear h4 x4 HC hm1 hm2
        go_wp2
        go_ret
        exact ⟨rfl, H4.out⟩
      · have hm1 : ¬ (x.prov : Int) < (x.t.most : Int) := by omega
        have hm2 := decide_eq_false hm1
        have HM := Lib.hid hm
        clear hm
        go_wp2_with fail
        go_quiet (fail)
        have h3 : Md (W2.drewN nq) m y := Own.drewK HR2.out nq
        have x3 := HX2.out.drawN nq
        generalize W2.drewN nq = W3 at h3 x3 ⊢
        have HC := Lib.hid (mend_5 m y W3 h3)
        have HX3 := Lib.hid x3
        clear h3 x3 e11 e6
        go_wp2_with fail
        with_reducible refine HC.out.mono ?_
        rintro e w4 ⟨rfl, h4, x4⟩
        have H4 := Lib.hid (show MNext w m x.wrong w4 by
          rw [HWr.out, if_pos HKL.out, if_neg HM.out]
          exact ⟨h4, HX3.out.trans x4 (fun _ _ h => h)⟩)
        clear h4 x4 HC hm1 hm2
        go_wp2
        go_ret
        exact ⟨rfl, H4.out⟩
    · have HKL := Lib.hid hkl
      have b1 : ((K : Int) == (L : Int)) = false := by rw [eq_dec]; exact decide_eq_false hkl
      have b2 : ¬ (K : Int) = (L : Int) := by omega
      clear hkl
      go_enter Try.func13, Try.ntmps13
      go_upto_region 16 with fail
      rw [← HW.out]
      clear HW c7 c8 c10 c12 f12 hw
      go_quiet (fail)
      have h2 : Md (W1.drewN nq) m y := Own.drewK HR.out nq
      have x2 := HX.out.drawN nq
      generalize W1.drewN nq = W2 at h2 x2 ⊢
      have H4 := Lib.hid (show MNext w m x.wrong W2 by
        rw [HWr.out, if_neg HKL.out]
        exact ⟨h2, x2⟩)
      clear h2 x2 d12 d10 d4 d5 b1
      go_wp2
      go_ret
      exact ⟨rfl, H4.out⟩
  · rw [hu] at c10 d10 hlim
    obtain ⟨L, hL⟩ : ∃ L, L = x.lim := ⟨_, rfl⟩
    rw [show x.t.fewer = L by rw [hL, hlim]; rfl] at d5
    have hwr1 := hwr L hL
    have HU := Lib.hid (And.intro hu hL)
    have HWr := Lib.hid hwr1
    clear hwr hwr1 hlim hL hu hy hK
    by_cases hkl : K = L
    · have HKL := Lib.hid hkl
      have b1 : ((K : Int) == (L : Int)) = true := by rw [eq_dec]; exact decide_eq_true hkl
      clear hkl
      go_enter Try.func13, Try.ntmps13
      go_upto_region 16 with fail
      rw [← HW.out]
      clear HW c7 c8 c10 c12 f12 hw
      go_quiet (fail)
      have h2 : Md (W1.drewN nq) m y := Own.drewK HR.out nq
      have x2 := HX.out.drawN nq
      generalize W1.drewN nq = W2 at h2 x2 ⊢
      have HR2 := Lib.hid h2
      have HX2 := Lib.hid x2
      have e11 := h2.prov
      have e6 := h2.c6
      rw [HF.out.2.2.2] at e11
      rw [yt] at e6
      clear h2 x2 d12 d10 d4 d5 b1
      by_cases hm : x.prov < x.t.most
      · have hm1 : (x.prov : Int) < (x.t.most : Int) := by omega
        have hm2 := decide_eq_true hm1
        have HM := Lib.hid hm
        clear hm
        go_wp2_with fail
        go_quiet (fail)
        have h3 : Md (W2.drewN nq) m y := Own.drewK HR2.out nq
        have x3 := HX2.out.drawN nq
        generalize W2.drewN nq = W3 at h3 x3 ⊢
        have HC := Lib.hid (mprove_any m y W3 h3 (by rw [HF.out.2.2.2]; exact HF.out.2.2.1))
        have HX3 := Lib.hid x3
        clear h3 x3 e11 e6
        go_wp2_with fail
        with_reducible refine HC.out.mono ?_
        rintro e w4 ⟨rfl, h4, x4⟩
        have H4 := Lib.hid (show MNext w m x.wrong w4 by
          rw [HWr.out, if_pos HKL.out, if_pos HM.out]
          exact ⟨h4, HX3.out.trans x4 (fun _ _ h => h)⟩)
        clear h4 x4 HC hm1 hm2
        go_wp2
        go_ret
        exact ⟨rfl, H4.out⟩
      · have hm1 : ¬ (x.prov : Int) < (x.t.most : Int) := by omega
        have hm2 := decide_eq_false hm1
        have HM := Lib.hid hm
        clear hm
        go_wp2_with fail
        go_quiet (fail)
        have h3 : Md (W2.drewN nq) m y := Own.drewK HR2.out nq
        have x3 := HX2.out.drawN nq
        generalize W2.drewN nq = W3 at h3 x3 ⊢
        have HC := Lib.hid (mend_5 m y W3 h3)
        have HX3 := Lib.hid x3
        clear h3 x3 e11 e6
        go_wp2_with fail
        with_reducible refine HC.out.mono ?_
        rintro e w4 ⟨rfl, h4, x4⟩
        have H4 := Lib.hid (show MNext w m x.wrong w4 by
          rw [HWr.out, if_pos HKL.out, if_neg HM.out]
          exact ⟨h4, HX3.out.trans x4 (fun _ _ h => h)⟩)
        clear h4 x4 HC hm1 hm2
        go_wp2
        go_ret
        exact ⟨rfl, H4.out⟩
    · have HKL := Lib.hid hkl
      have b1 : ((K : Int) == (L : Int)) = false := by rw [eq_dec]; exact decide_eq_false hkl
      have b2 : ¬ (K : Int) = (L : Int) := by omega
      clear hkl
      go_enter Try.func13, Try.ntmps13
      go_upto_region 16 with fail
      rw [← HW.out]
      clear HW c7 c8 c10 c12 f12 hw
      go_quiet (fail)
      have h2 : Md (W1.drewN nq) m y := Own.drewK HR.out nq
      have x2 := HX.out.drawN nq
      generalize W1.drewN nq = W2 at h2 x2 ⊢
      have H4 := Lib.hid (show MNext w m x.wrong W2 by
        rw [HWr.out, if_neg HKL.out]
        exact ⟨h2, x2⟩)
      clear h2 x2 d12 d10 d4 d5 b1
      go_wp2
      go_ret
      exact ⟨rfl, H4.out⟩
end Go.Proofs.Ytgfiikbecapodaa
