/- The statements' own function Point. -/
import Derived.Test.YtcojjhokcebogaaDoorLbText
namespace Go.Proofs.YtcojjhokcebogaaDoor
open Go.RowKit

theorem pcL_len (p : Nat) : (pcL p).length ≤ 9223372036854775806 := by
  have h1 := numL_3 (p / 2048)
  have h2 := numL_3 (p / 8 % 256)
  have h3 := numL_3 (p % 8)
  simp [pcL]
  omega
set_option maxHeartbeats 1000000 in
theorem point_any (p : Nat) (w : World) (h : p ≤ 16383) (hp : PowOk w) :
    Calls Tryd.prog 14 #[.int .u16 (p : Int)] w fun e w' => e = .returned (.string (bs (pcL p))) ∧ Below w.heap.size w w' := by
  obtain ⟨S1, S2, S3, S4, r1, r2, r3, r4, o1, o2, o3, o4, eS⟩ := glue_runs (p / 2048) (p / 8 % 256) (p % 8)
  have HS := Lib.hid eS
  obtain ⟨a, ha⟩ : ∃ a, a = p / 2048 := ⟨_, rfl⟩
  obtain ⟨b, hb⟩ : ∃ b, b = p / 8 % 256 := ⟨_, rfl⟩
  obtain ⟨c, hc⟩ : ∃ c, c = p % 8 := ⟨_, rfl⟩
  rw [← ha] at r1 o1
  rw [← hb] at r2 o2
  rw [← hc] at r4 o4
  have e1 : (p : Int) / 2048 = (a : Int) := by omega
  have e2 : (p : Int) / 8 % 256 = (b : Int) := by omega
  have e3 : (p : Int) % 8 = (c : Int) := by omega
  have I1 := Lib.hid (fun W (hW : PowOk W) => itoa_any a W (by omega) hW)
  have I2 := Lib.hid (fun W (hW : PowOk W) => itoa_any b W (by omega) hW)
  have I3 := Lib.hid (fun W (hW : PowOk W) => itoa_any c W (by omega) hW)
  have HP := Lib.hid hp
  clear eS ha hb hc hp
  go_enter Tryd.func14, Tryd.ntmps14
  go_wp2_with fail
  refine (I1.out _ HP.out).mono ?_
  rintro e w1 ⟨rfl, hb1⟩
  have P1 := Lib.hid (HP.out.later hb1)
  have B1 := Lib.hid hb1
  clear hb1
  go_wp2_with fail
  refine (I2.out _ P1.out).mono ?_
  rintro e w2 ⟨rfl, hb2⟩
  have P2 := Lib.hid (P1.out.later hb2)
  have B2 := Lib.hid (B1.out.trans (hb2.mono B1.out.size))
  clear hb2
  go_wp2_with fail
  refine (I3.out _ P2.out).mono ?_
  rintro e w3 ⟨rfl, hb3⟩
  have B3 := Lib.hid (B2.out.trans (hb3.mono B2.out.size))
  clear hb3
  go_wp2
  go_ret
  exact ⟨congrArg (fun z => Ending.returned (Value.string z)) HS.out, B3.out⟩
end Go.Proofs.YtcojjhokcebogaaDoor
