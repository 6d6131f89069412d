/- Hear. -/
import Derived.Test.YtahkmadapojjkaaCgCtl
namespace Go.Proofs.Ytahkmadapojjkaa
open Go.RowKit Go.Maps

set_option maxHeartbeats 1000000 in
set_option maxRecDepth 100000 in
theorem hear_nul (a : Option Addr) (now n lev : Int) (w : World) (h : NulC w a) : Calls Try.prog 16 #[.pointer a, .int .i64 now, .int .u16 n, .int .i64 lev] w fun e w' => e = .returned (.int .i64 2) ∧ w = w' := by
  have HE := Lib.hid (cisNone_nul a w h)
  clear h
  go_enter Try.func16, Try.ntmps16
  go_wp2_with fail
  with_reducible refine HE.out.mono ?_
  rintro e w' ⟨rfl, rfl⟩
  go_wp2
  go_ret
  exact ⟨rfl, rfl⟩
/-- What Hear leaves. -/
def HearOut (cb bm : Nat) (c : Ct) (now n lev : Int) (w : World) (e : Ending) (w' : World) : Prop :=
  e = .returned (.int .i64 (c.err now n lev)) ∧ CtAt w' cb bm (if c.err now n lev = 0 then c.hear now n lev else c) ∧ Exc (Cu cb bm) w w'
theorem HearOut.no {cb bm : Nat} {c : Ct} {now n lev E : Int} {w w' : World} (h : CtAt w cb bm c) (hb : Below w.heap.size w w') (hE : c.err now n lev = E) (h0 : E ≠ 0) : HearOut cb bm c now n lev w (.returned (.int .i64 E)) w' := by
  refine ⟨by rw [hE], ?_, Exc.of_below hb⟩
  rw [hE, if_neg h0]
  exact h.below hb
theorem HearOut.yes {cb bm : Nat} {c : Ct} {now n lev : Int} {w w1 w' : World} (h : CtAt w cb bm c) (hb : Below w.heap.size w w1) (hE : c.err now n lev = 0) (hD : n ∈ c.D) (hw : (Lit.int .i64 now).wf = true)
    (hx : Exc (fun k => k = bm) w1 w') (hm : RecAt w' bm (updR c.R n (lev, now))) : HearOut cb bm c now n lev w (.returned (.int .i64 0)) w' := by
  refine ⟨by rw [hE], ?_, (Exc.of_below hb).trans (S' := Cu cb bm) (hx.weak (fun _ _ h => .inr h)) (fun _ _ h => h)⟩
  rw [hE, if_pos rfl]
  have hr : 0 ≤ lev ∧ lev ≤ 3 := by
    unfold Ct.err at hE
    split at hE
    · cases hE
    · omega
  refine ⟨own_exc (h.below hb).own hx h.ne, hm, h.base, fun z => ?_, fun z => ?_, fun z hz => ?_, h.nod, h.wfD, h.len⟩
  · show 0 ≤ (updR c.R n (lev, now) z).1 ∧ (updR c.R n (lev, now) z).1 ≤ 3
    unfold updR
    split
    · exact hr
    · exact h.lev z
  · show (Lit.int .i64 (updR c.R n (lev, now) z).2).wf = true
    unfold updR
    split
    · exact hw
    · exact h.tick z
  · change (updR c.R n (lev, now) z).1 ≠ 0 at hz
    unfold updR at hz
    split at hz
    · rename_i e; rw [e]; exact hD
    · exact h.dom z hz
set_option maxHeartbeats 4000000 in
set_option maxRecDepth 100000 in
theorem hear_any {cb bm : Nat} {c : Ct} (now n lev : Int) (w : World) (h : CtAt w cb bm c) (hnow : (Lit.int .i64 now).wf = true) (hn : n ∈ c.D) :
    Calls Try.prog 16 #[.pointer (some ⟨cb, 0, none⟩), .int .i64 now, .int .u16 n, .int .i64 lev] w (HearOut cb bm c now n lev w) := by
  obtain ⟨g0, g1⟩ := h.cells
  have HE := Lib.hid (cisNone_any w h)
  have HO := Lib.hid (others_any now n w h hnow)
  have H := Lib.hid h
  have HD := Lib.hid hn
  have HNow := Lib.hid hnow
  clear g0 h hn hnow
  by_cases h1 : lev < 0
  · have HR : Hid (c.err now n lev = 1) := Lib.hid (if_pos (.inl h1))
    go_enter Try.func16, Try.ntmps16
    go_wp2_with fail
    with_reducible refine HE.out.mono ?_
    rintro e w' ⟨rfl, rfl⟩
    go_wp2
    go_ret
    exact HearOut.no H.out (Below.refl _ _) HR.out (by decide)
  by_cases h2 : 3 < lev
  · have HR : Hid (c.err now n lev = 1) := Lib.hid (if_pos (.inr (.inl h2)))
    go_enter Try.func16, Try.ntmps16
    go_wp2_with fail
    with_reducible refine HE.out.mono ?_
    rintro e w' ⟨rfl, rfl⟩
    go_wp2
    go_ret
    exact HearOut.no H.out (Below.refl _ _) HR.out (by decide)
  by_cases h3 : 16383 < n
  · have HR : Hid (c.err now n lev = 1) := Lib.hid (if_pos (.inr (.inr h3)))
    go_enter Try.func16, Try.ntmps16
    go_wp2_with fail
    with_reducible refine HE.out.mono ?_
    rintro e w' ⟨rfl, rfl⟩
    go_wp2
    go_ret
    exact HearOut.no H.out (Below.refl _ _) HR.out (by decide)
  have hR : c.err now n lev = if 64 ≤ c.others now n then 9 else 0 := if_neg (by omega)
  obtain ⟨k, hk⟩ : ∃ k : Int, k = (c.others now n : Int) := ⟨_, rfl⟩
  rw [← hk] at HO
  by_cases h4 : 64 ≤ k
  · have HR : Hid (c.err now n lev = 9) := Lib.hid (by rw [hR, if_pos (by omega)])
    clear hR hk
    go_enter Try.func16, Try.ntmps16
    go_wp2_with fail
    with_reducible refine HE.out.mono ?_
    rintro e w' ⟨rfl, rfl⟩
    go_wp2_with fail
    refine HO.out.mono ?_
    rintro e w' ⟨rfl, hb⟩
    have HB := Lib.hid hb
    clear hb
    go_wp2
    go_ret
    exact HearOut.no H.out HB.out HR.out (by decide)
  have HR : Hid (c.err now n lev = 0) := Lib.hid (by rw [hR, if_neg (by omega)])
  clear hR hk
  by_cases h5 : lev = 0
  · subst h5
    go_enter Try.func16, Try.ntmps16
    go_wp2_with fail
    with_reducible refine HE.out.mono ?_
    rintro e w' ⟨rfl, rfl⟩
    go_wp2_with fail
    refine HO.out.mono ?_
    rintro e w1 ⟨rfl, hb⟩
    have HB := Lib.hid hb
    have H1 := Lib.hid (H.out.below hb)
    clear hb g1
    obtain ⟨g0, g1⟩ := H1.out.cells
    have hat := H1.out.map
    unfold RecAt at hat
    obtain ⟨f, f1, f2⟩ := hat
    have F2 := Lib.hid f2
    have HWn := Lib.hid (H.out.wfD n HD.out)
    clear f2
    go_wp2_with (at_delete; refine wpList_strike rfl _ _ _ _ rfl _ law_pt Try.underlying58 bm f rfl f1 (.int .u16 n) _ rfl (key_pt HWn.out) ?_; intro w2 g r1 r2 r3 r4; have HM2 := Lib.hid r1; have HG := Lib.hid r2; have HO2 := Lib.hid r3; have HX2 := Lib.hid r4; clear r1 r2 r3 r4)
    go_wp2
    go_ret
    refine HearOut.yes H.out HB.out HR.out HD.out HNow.out HX2.out ⟨g, HM2.out, fun z hz => ?_⟩
    by_cases e : z = n
    · subst e; rw [HG.out, updR_same]; rfl
    · rw [HO2.out _ (by simpa using e), F2.out z hz, updR_other e]
  · have h5b : (lev == 0) = false := by simpa using h5
    have H5 := Lib.hid h5
    go_enter Try.func16, Try.ntmps16
    go_wp2_with fail
    with_reducible refine HE.out.mono ?_
    rintro e w' ⟨rfl, rfl⟩
    go_wp2_with fail
    refine HO.out.mono ?_
    rintro e w1 ⟨rfl, hb⟩
    have HB := Lib.hid hb
    have H1 := Lib.hid (H.out.below hb)
    clear hb g1
    obtain ⟨g0, g1⟩ := H1.out.cells
    have hat := H1.out.map
    unfold RecAt at hat
    obtain ⟨f, f1, f2⟩ := hat
    have F2 := Lib.hid f2
    have HWn := Lib.hid (H.out.wfD n HD.out)
    clear f2
    go_wp2_with (at_mapUpdate; refine wpList_store rfl _ _ _ _ rfl _ _ law_pt Try.underlying58 bm f rfl f1 (.int .u16 n) (recV (lev, now)) _ rfl rfl (key_pt HWn.out) ?_; intro w2 g r1 r2 r3 r4; have HM2 := Lib.hid r1; have HG := Lib.hid r2; have HO2 := Lib.hid r3; have HX2 := Lib.hid r4; clear r1 r2 r3 r4)
    go_wp2
    go_ret
    refine HearOut.yes H.out HB.out HR.out HD.out HNow.out HX2.out ⟨g, HM2.out, fun z hz => ?_⟩
    by_cases e : z = n
    · subst e; rw [HG.out, updR_same, if_neg H5.out]
    · rw [HO2.out _ (by simpa using e), F2.out z hz, updR_other e]
end Go.Proofs.Ytahkmadapojjkaa
