/- The statement LabelsText: the walk. -/
import Derived.Test.YtcojjhokcebogaaDoorLsLives
import Derived.Test.YtcojjhokcebogaaDoorLsPoint
namespace Go.Proofs.YtcojjhokcebogaaDoor
open Go.RowKit

theorem text_walk (x : Int) (w : World) (hp : PowOk w) (wx : (Lit.int .u16 x).wf = true) :
    Calls Tryd.prog 3 #[.int .u16 x] w fun e w' => e = .returned (.bool true) ∧ Below w.heap.size w w' := by
  obtain ⟨h0, h1⟩ := wf_u16.1 wx
  have HL := Lib.hid (fun W hW => lives_any W hW)
  have HP := Lib.hid hp
  by_cases hx : 16383 < x
  · have H1 := Lib.hid (fun W => text_high x W hx)
    clear hp
    go_enter Tryd.func3, Tryd.ntmps3
    go_wp2_with fail
    refine (H1.out _).mono ?_
    rintro e w1 ⟨rfl, rfl⟩
    go_wp2_with fail
    refine (HL.out _ HP.out).mono ?_
    rintro e w3 ⟨rfl, hb⟩
    have HB := Lib.hid hb
    clear hb
    go_wp2
    go_ret
    exact ⟨rfl, HB.out⟩
  · obtain ⟨p, rfl⟩ : ∃ p : Nat, x = p := ⟨x.toNat, by omega⟩
    have hp2 : p ≤ 16383 := by omega
    have H1 := Lib.hid (fun W hW => text_any p W hp2 hW)
    have h2 := fun W => parse_any (pcL p) W (pcL_len p)
    obtain ⟨e1, e2⟩ := parse_text p hp2
    rw [show parseP (pcL p) = (p : Int) by rw [parseP, e1, if_pos rfl, e2], e1] at h2
    have H2 := Lib.hid h2
    have H3 := Lib.hid (fun W hW => point_any p W hp2 hW)
    clear hp h2 e1 e2
    go_enter Tryd.func3, Tryd.ntmps3
    go_wp2_with fail
    refine (H1.out _ HP.out).mono ?_
    rintro e w1 ⟨rfl, hb1⟩
    have B1 := Lib.hid hb1
    clear hb1
    go_wp2_with fail
    refine (H2.out _).mono ?_
    rintro e w2 ⟨rfl, hb2⟩
    have B2 := Lib.hid (B1.out.trans (hb2.mono B1.out.size))
    clear hb2
    go_wp2_with fail
    refine (H3.out _ (HP.out.later B2.out)).mono ?_
    rintro e w3 ⟨rfl, hb3⟩
    have B3 := Lib.hid (B2.out.trans (hb3.mono B2.out.size))
    clear hb3
    go_wp2_with fail
    refine (HL.out _ (HP.out.later B3.out)).mono ?_
    rintro e w4 ⟨rfl, hb4⟩
    have B4 := Lib.hid (B3.out.trans (hb4.mono B3.out.size))
    clear hb4
    go_wp2
    go_ret
    exact ⟨rfl, B4.out⟩
end Go.Proofs.YtcojjhokcebogaaDoor
