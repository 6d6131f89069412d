/- The statement LabelsRotate: the walk. -/
import Derived.Test.YtcojjhokcebogaaDoorLsLives
namespace Go.Proofs.YtcojjhokcebogaaDoor
open Go.RowKit

theorem rotate_walk (x : Int) (w : World) (hp : PowOk w) (wx : (Lit.int .u8 x).wf = true) :
    Calls Tryd.prog 7 #[.int .u8 x] w fun e w' => e = .returned (.bool true) ∧ Below w.heap.size w w' := by
  obtain ⟨h0, h1⟩ := wf_u8.1 wx
  have hr1 := fun W => rotate_any x W h0 h1
  obtain ⟨r, hr⟩ : ∃ r, r = rotL x := ⟨_, rfl⟩
  have hrr := rotL_range (x := x)
  have hr2 := fun W => rotate_any r W (by omega) (by omega)
  rw [← hr] at hr1 hrr
  rw [hr, rotL_twice, ← hr] at hr2
  have e1 : 4 * (x % 4) + x / 4 % 4 = r := by rw [hr]; rfl
  have HL := Lib.hid (fun W hW => lives_any W hW)
  have H1 := Lib.hid hr1
  have H2 := Lib.hid hr2
  have HP := Lib.hid hp
  clear hr1 hr2 hr hp
  go_enter Tryd.func7, Tryd.ntmps7
  go_wp2_with fail
  refine (H1.out _).mono ?_
  rintro e w1 ⟨rfl, rfl⟩
  go_wp2_with fail
  refine (H2.out _).mono ?_
  rintro e w2 ⟨rfl, rfl⟩
  go_wp2_with fail
  refine (HL.out _ HP.out).mono ?_
  rintro e w3 ⟨rfl, hb⟩
  have HB := Lib.hid hb
  clear hb
  go_wp2
  go_ret
  exact ⟨rfl, HB.out⟩
end Go.Proofs.YtcojjhokcebogaaDoor
