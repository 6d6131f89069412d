/- Contracts of package sums. -/
import Derived.Test.YtkalpjccfknopaaDoorCrcRef
import Derived.Test.YtkalpjccfknopaaDoorBaseEx
import Derived.Laws.BitsAllLaws
namespace Go.Proofs.YtkalpjccfknopaaDoor
open Go.RowKit

def behindL : List Int := [0, 4225, 8450, 12675, 16900, 21125, 25350, 29575, 33800, 38025, 42250, 46475, 50700, 54925, 59150, 63375]
def BehindOk (w : World) : Prop := ∀ i, i < 16 → w.cell? ⟨0, i, none⟩ = some (.int .u16 (behindL.getD i 0))
theorem BehindOk.exc {S : Nat → Prop} {w w' : World} (h : BehindOk w) (hx : Exc S w w') (h0 : ¬ S 0) : BehindOk w' := fun i hi => hx.cell (h i hi) h0
theorem BehindOk.later {w w' : World} (h : BehindOk w) (hx : Below w.heap.size w w') : BehindOk w' := h.exc (S := fun _ => False) (Exc.of_below hx) (fun hh => hh)
theorem behind_eq (i : Nat) (h : i < 16) : behindL.getD i 0 = ((Crc.shn 4 i : Nat) : Int) := by
  have : ∀ i : Fin 16, behindL.getD i.val 0 = ((Crc.shn 4 i.val : Nat) : Int) := by decide
  exact this ⟨i, h⟩
set_option maxHeartbeats 400000 in
theorem skipped_any (r : Nat) (w : World) (hr : r < 65536) (hb : BehindOk w) :
    Calls Tryd.prog 21 #[.int .u16 r] w fun e w' => e = .returned (.int .u16 ((Crc.nib r : Nat) : Int)) ∧ w = w' := by
  have hc := hb (r % 16) (by omega)
  rw [behind_eq _ (by omega)] at hc
  have h16 : ((r : Int) % 16).toNat = r % 16 := by omega
  obtain ⟨B, hB⟩ : ∃ B, B = Crc.shn 4 (r % 16) := ⟨_, rfl⟩
  have hBlt : B < 65536 := by rw [hB]; exact Crc.shn_lt (by omega)
  rw [← hB] at hc
  have hx : bits BinOp.xor IntKind.u16 ((r : Int) / 16) (B : Int) = ((Crc.nib r : Nat) : Int) := by
    have e : ((r : Int) / 16) = ((r / 16 : Nat) : Int) := by omega
    rw [e, u16_xor_nat _ _ (by omega) hBlt, Crc.nib, hB, Nat.shiftRight_eq_div_pow]
  have HX := Lib.hid hx
  clear hx hb hB
  go_enter Tryd.func21, Tryd.ntmps21
  go_wp2
  go_ret
  exact ⟨ret_int HX.out, rfl⟩
end Go.Proofs.YtkalpjccfknopaaDoor
