/- The condition on the package's flag: what the row lists is what the walks take; the door's own run meets it. -/
import Derived.Test.YtpcjhmddcfiemaaDoorFrPieces
import Derived.ProofKit
import Derived.LaidMore
import Derived.OpenShut
import Derived.Stop.Joined
import Derived.SevenTiedAt
import Derived.LaidSub
import Derived.Test.YtpcjhmddcfiemaaDoorTie
import Derived.Test.YtpcjhmddcfiemaaDoorCards
namespace Go.Proofs.YtpcjhmddcfiemaaDoor
open Go.ChangeShapes Go.WideShapes Go.ChangeAt Go.WideMaps Go.WideElems Go.RowKit

def laidFlag : List (String × DataW Unit) := [("pointcode/frames.flag", Rows.laid_pointcode_frames_flag)]
theorem gFlag : Tryd.prog.globalNamed "pointcode/frames.flag" = some 0 := by kernel_rfl
theorem tFlag : (Tryd.prog.globals[0]?).map (·.type) = some 68 := by kernel_rfl
theorem door_met (os : Os) (args : Array Value) : laidMetH Tryd.prog laidFlag ((World.doorLaid Tryd.prog 14 os).forCall (fun _ _ => 0) ⟨#[], args, []⟩).memory :=
  laidMetH_of_parts3 (fuel := 8) (laidMet_of_run' 8 (by kernel_rfl) (by kernel_rfl)) (by kernel_rfl) (by kernel_rfl)
theorem flag_of_laid {W : World} (h : laidMetH Tryd.prog laidFlag W) : FlagOk W := by
  rw [MakeChecks.laidMetH_plain _ _ _ (by kernel_rfl)] at h
  obtain ⟨ps, ⟨g0, t0, cs0, f0, p0, q0, hg0, ht0, hv0, hd0, _⟩, _, _⟩ := h
  obtain rfl := Option.some.inj (gFlag.symm.trans hg0)
  obtain rfl := Option.some.inj (tFlag.symm.trans ht0)
  obtain ⟨xs, m1, rfl, hx1, hlen, hn8, hel⟩ := DataW.trod_array Tryd.underlying68 hd0
  have c1 : Tryd.prog.cellsOf 5 = 1 := by kernel_rfl
  simp only [Prod.mk.injEq, Rows.laid_pointcode_frames_flag, DataW.agg.injEq] at hx1
  intro i hi
  have hcell := World.var?_cell hg0 hv0 i
  have he := hel i hi
  rw [c1, Nat.mul_one] at he
  have hxi : i < xs.length := by omega
  rw [List.getElem?_eq_getElem hxi] at he
  obtain ⟨k, e1, e2, _⟩ := DataW.trod_int Tryd.underlying5 he
  have h1 : (xs.map (·.1))[i]? = some (.lit (.int .u8 k)) := by
    rw [List.getElem?_map, List.getElem?_eq_getElem hxi, e2]; rfl
  rw [← hx1.1] at h1
  have hk : k = flagL.getD i 0 := by
    have : i = 0 ∨ i = 1 ∨ i = 2 ∨ i = 3 ∨ i = 4 ∨ i = 5 ∨ i = 6 ∨ i = 7 := by omega
    rcases this with rfl | rfl | rfl | rfl | rfl | rfl | rfl | rfl <;> (simp at h1; rw [← h1]; rfl)
  rw [hcell, ← hk]
  have h2 : ((cs0.toList.drop i).take 1)[0]? = some (.int .u8 k) := by rw [e1]; rfl
  rw [List.getElem?_take, if_pos (by decide), List.getElem?_drop] at h2
  simpa using h2
end Go.Proofs.YtpcjhmddcfiemaaDoor
