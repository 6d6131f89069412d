/- The condition on the package's table: what the row lists is what the walks take; the door's own run meets it. -/
import Derived.Test.YtkalpjccfknopaaDoorSums
import Derived.ProofKit
import Derived.LaidMore
import Derived.OpenShut
import Derived.Stop.Joined
import Derived.SevenTiedAt
import Derived.LaidSub
import Derived.Test.YtkalpjccfknopaaDoorTie
import Derived.Test.YtkalpjccfknopaaDoorCards
namespace Go.Proofs.YtkalpjccfknopaaDoor
open Go.ChangeShapes Go.WideShapes Go.ChangeAt Go.WideMaps Go.WideElems Go.RowKit

def laidBehind : List (String × DataW Unit) := [("pointcode/sums.behind", Rows.laid_pointcode_sums_behind)]
theorem gBehind : Tryd.prog.globalNamed "pointcode/sums.behind" = some 0 := by kernel_rfl
theorem tBehind : (Tryd.prog.globals[0]?).map (·.type) = some 51 := by kernel_rfl
theorem door_met (os : Os) (args : Array Value) : laidMetH Tryd.prog laidBehind ((World.doorLaid Tryd.prog 3403 os).forCall (fun _ _ => 0) ⟨#[], args, []⟩).memory :=
  laidMetH_of_parts3 (fuel := 8) (laidMet_of_run' 8 (by kernel_rfl) (by kernel_rfl)) (by kernel_rfl) (by kernel_rfl)
theorem behind_of_laid {W : World} (h : laidMetH Tryd.prog laidBehind W) : BehindOk W := by
  rw [MakeChecks.laidMetH_plain _ _ _ (by kernel_rfl)] at h
  obtain ⟨ps, ⟨g0, t0, cs0, f0, p0, q0, hg0, ht0, hv0, hd0, _⟩, _, _⟩ := h
  obtain rfl := Option.some.inj (gBehind.symm.trans hg0)
  obtain rfl := Option.some.inj (tBehind.symm.trans ht0)
  obtain ⟨xs, m1, rfl, hx1, hlen, hn8, hel⟩ := DataW.trod_array Tryd.underlying51 hd0
  have c1 : Tryd.prog.cellsOf 22 = 1 := by kernel_rfl
  simp only [Prod.mk.injEq, Rows.laid_pointcode_sums_behind, DataW.agg.injEq] at hx1
  intro i hi
  have hcell := World.var?_cell hg0 hv0 i
  have he := hel i hi
  rw [c1, Nat.mul_one] at he
  have hxi : i < xs.length := by omega
  rw [List.getElem?_eq_getElem hxi] at he
  obtain ⟨k, e1, e2, _⟩ := DataW.trod_int Tryd.underlying22 he
  have h1 : (xs.map (·.1))[i]? = some (.lit (.int .u16 k)) := by
    rw [List.getElem?_map, List.getElem?_eq_getElem hxi, e2]; rfl
  rw [← hx1.1] at h1
  have hk : k = behindL.getD i 0 := by
    have : i = 0 ∨ i = 1 ∨ i = 2 ∨ i = 3 ∨ i = 4 ∨ i = 5 ∨ i = 6 ∨ i = 7 ∨ i = 8 ∨ i = 9 ∨ i = 10 ∨ i = 11 ∨ i = 12 ∨ i = 13 ∨ i = 14 ∨ i = 15 := by omega
    rcases this with rfl | rfl | rfl | rfl | rfl | rfl | rfl | rfl | rfl | rfl | rfl | rfl | rfl | rfl | rfl | rfl <;> (simp at h1; rw [← h1]; rfl)
  rw [hcell, ← hk]
  have h2 : ((cs0.toList.drop i).take 1)[0]? = some (.int .u16 k) := by rw [e1]; rfl
  rw [List.getElem?_take, if_pos (by decide), List.getElem?_drop] at h2
  simpa using h2
end Go.Proofs.YtkalpjccfknopaaDoor
