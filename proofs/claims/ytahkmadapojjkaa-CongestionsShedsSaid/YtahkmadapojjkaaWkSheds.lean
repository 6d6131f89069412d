/- CongestionsSheds: a message is shed exactly below the level. -/
import Derived.Test.YtahkmadapojjkaaCgLives
namespace Go.Proofs.Ytahkmadapojjkaa
open Go.RowKit Go.Maps

set_option maxHeartbeats 4000000 in
set_option maxRecDepth 100000 in
theorem sheds_walk (l p : Int) (w : World) (_ : (Lit.int .i64 l).wf = true) (hp : (Lit.int .u8 p).wf = true) : Calls Try.prog 5 #[.int .i64 l, .int .u8 p] w fun e w' => e = .returned (.bool true) ∧ Below w.heap.size w w' := by
  have hp1 : 0 ≤ p ∧ p ≤ 255 := by simpa [Lit.wf, IntKind.min, IntKind.max, IntKind.bits, IntKind.signed] using hp
  have hw : IntKind.i64.wrap p = p := IntWalk.i64_in _ (by omega)
  have HS := Lib.hid (sheds_any l p w hp1)
  have HT := Lib.hid (fun m => sheds_any m 3 w (by decide))
  clear hp hp1
  by_cases h1 : p < l
  · have h1d : decide (p < l) = true := decide_eq_true h1
    rw [h1d] at HS
    by_cases h2 : 3 < l
    · have h2d : (3 : Int) < l := h2
      have H2 := Lib.hid h2
      go_enter Try.func5, Try.ntmps5
      go_wp2_with fail
      refine HS.out.mono ?_
      rintro e w' ⟨rfl, rfl⟩
      go_wp2_with fail
      refine (HT.out 3).mono ?_
      rintro e w' ⟨rfl, rfl⟩
      rw [show decide ((3 : Int) < 3) = false by decide]
      go_wp2_with fail
      refine (lives_any w).mono ?_
      rintro e wz ⟨rfl, hb⟩
      have HBz := Lib.hid (hb)
      clear hb
      go_wp2
      go_ret
      exact ⟨rfl, HBz.out⟩
    · have h2d : ¬ (3 : Int) < l := h2
      have H2 := Lib.hid h2
      go_enter Try.func5, Try.ntmps5
      go_wp2_with fail
      refine HS.out.mono ?_
      rintro e w' ⟨rfl, rfl⟩
      go_wp2_with fail
      refine (HT.out l).mono ?_
      rintro e w' ⟨rfl, rfl⟩
      rw [decide_eq_false (show ¬ (3 : Int) < l by have := H2.out; omega)]
      go_wp2_with fail
      refine (lives_any w).mono ?_
      rintro e wz ⟨rfl, hb⟩
      have HBz := Lib.hid (hb)
      clear hb
      go_wp2
      go_ret
      exact ⟨rfl, HBz.out⟩
  · have h1d : decide (p < l) = false := decide_eq_false h1
    rw [h1d] at HS
    by_cases h2 : 3 < l
    · have h2d : (3 : Int) < l := h2
      have H2 := Lib.hid h2
      go_enter Try.func5, Try.ntmps5
      go_wp2_with fail
      refine HS.out.mono ?_
      rintro e w' ⟨rfl, rfl⟩
      go_wp2_with fail
      refine (HT.out 3).mono ?_
      rintro e w' ⟨rfl, rfl⟩
      rw [show decide ((3 : Int) < 3) = false by decide]
      go_wp2_with fail
      refine (lives_any w).mono ?_
      rintro e wz ⟨rfl, hb⟩
      have HBz := Lib.hid (hb)
      clear hb
      go_wp2
      go_ret
      exact ⟨rfl, HBz.out⟩
    · have h2d : ¬ (3 : Int) < l := h2
      have H2 := Lib.hid h2
      go_enter Try.func5, Try.ntmps5
      go_wp2_with fail
      refine HS.out.mono ?_
      rintro e w' ⟨rfl, rfl⟩
      go_wp2_with fail
      refine (HT.out l).mono ?_
      rintro e w' ⟨rfl, rfl⟩
      rw [decide_eq_false (show ¬ (3 : Int) < l by have := H2.out; omega)]
      go_wp2_with fail
      refine (lives_any w).mono ?_
      rintro e wz ⟨rfl, hb⟩
      have HBz := Lib.hid (hb)
      clear hb
      go_wp2
      go_ret
      exact ⟨rfl, HBz.out⟩
end Go.Proofs.Ytahkmadapojjkaa
