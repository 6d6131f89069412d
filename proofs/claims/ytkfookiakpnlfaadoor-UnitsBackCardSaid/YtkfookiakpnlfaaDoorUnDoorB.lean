/- The condition on the five listed variables, and the door's own run meets it. -/
import Derived.Test.YtkfookiakpnlfaaDoorUnLaid
import Derived.Test.YtkfookiakpnlfaaDoorSumsAll
import Derived.Test.YtkfookiakpnlfaaDoorFrPieces
namespace Go.Proofs.YtkfookiakpnlfaaDoor
open Go.ChangeShapes Go.WideShapes Go.ChangeAt Go.WideMaps Go.WideElems Go.RowKit

def laidFive : List (String × DataW Unit) := [("math/bits.deBruijn32tab", Rows.laid_math_bits_deBruijn32tab), ("math/bits.deBruijn64tab", Rows.laid_math_bits_deBruijn64tab), ("internal/strconv.uint64pow10", Rows.laid_internal_strconv_uint64pow10), ("pointcode/sums.behind", Rows.laid_pointcode_sums_behind), ("pointcode/frames.flag", Rows.laid_pointcode_frames_flag)]
theorem gBehind : Tryd.prog.globalNamed "pointcode/sums.behind" = some 1 := by kernel_rfl
theorem tBehind : (Tryd.prog.globals[1]?).map (·.type) = some 97 := by kernel_rfl
set_option maxRecDepth 100000 in
theorem behind_of_list {W : World} {L : List (String × DataW Unit)} {ps : List MemPlace} (h : DataW.LaidVars Tryd.prog W L ps) (hm : ("pointcode/sums.behind", Rows.laid_pointcode_sums_behind) ∈ L) : BehindOk W := by
  obtain ⟨g0, t0, cs0, f0, p0, hg0, ht0, hv0, hd0⟩ := laid_mem h hm
  obtain rfl := Option.some.inj (gBehind.symm.trans hg0)
  obtain rfl := Option.some.inj (tBehind.symm.trans ht0)
  obtain ⟨xs, m1, rfl, hx1, hlen, hn8, hel⟩ := DataW.trod_array Tryd.underlying97 hd0
  have c1 : Tryd.prog.cellsOf 35 = 1 := by kernel_rfl
  simp only [Prod.mk.injEq, Rows.laid_pointcode_sums_behind, DataW.agg.injEq] at hx1
  intro i hi
  have hcell := World.var?_cell hg0 hv0 i
  have he := hel i hi
  rw [c1, Nat.mul_one] at he
  have hxi : i < xs.length := by omega
  rw [List.getElem?_eq_getElem hxi] at he
  obtain ⟨k, e1, e2, _⟩ := DataW.trod_int Tryd.underlying35 he
  have h1 : (xs.map (·.1))[i]? = some (.lit (.int .u16 k)) := by
    rw [List.getElem?_map, List.getElem?_eq_getElem hxi, e2]; rfl
  rw [← hx1.1] at h1
  have hk : k = behindL.getD i 0 := by
    have : i = 0 ∨ i = 1 ∨ i = 2 ∨ i = 3 ∨ i = 4 ∨ i = 5 ∨ i = 6 ∨ i = 7 ∨ i = 8 ∨ i = 9 ∨ i = 10 ∨ i = 11 ∨ i = 12 ∨ i = 13 ∨ i = 14 ∨ i = 15 := by omega
    rcases this with rfl | rfl | rfl | rfl | rfl | rfl | rfl | rfl | rfl | rfl | rfl | rfl | rfl | rfl | rfl | rfl <;> (simp at h1; rw [← h1]; rfl)
  rw [hcell, ← hk]
  have h2 : ((cs0.toList.drop i).take 1)[0]? = some (.int .u16 k) := by rw [e1]; rfl
  rw [List.getElem?_take, if_pos (by decide), List.getElem?_drop] at h2
  simpa using h2
theorem gFlag : Tryd.prog.globalNamed "pointcode/frames.flag" = some 0 := by kernel_rfl
theorem tFlag : (Tryd.prog.globals[0]?).map (·.type) = some 87 := by kernel_rfl
set_option maxRecDepth 100000 in
theorem flag_of_list {W : World} {L : List (String × DataW Unit)} {ps : List MemPlace} (h : DataW.LaidVars Tryd.prog W L ps) (hm : ("pointcode/frames.flag", Rows.laid_pointcode_frames_flag) ∈ L) : FlagOk W := by
  obtain ⟨g0, t0, cs0, f0, p0, hg0, ht0, hv0, hd0⟩ := laid_mem h hm
  obtain rfl := Option.some.inj (gFlag.symm.trans hg0)
  obtain rfl := Option.some.inj (tFlag.symm.trans ht0)
  obtain ⟨xs, m1, rfl, hx1, hlen, hn8, hel⟩ := DataW.trod_array Tryd.underlying87 hd0
  have c1 : Tryd.prog.cellsOf 5 = 1 := by kernel_rfl
  simp only [Prod.mk.injEq, Rows.laid_pointcode_frames_flag, DataW.agg.injEq] at hx1
  intro i hi
  have hcell := World.var?_cell hg0 hv0 i
  have he := hel i hi
  rw [c1, Nat.mul_one] at he
  have hxi : i < xs.length := by omega
  rw [List.getElem?_eq_getElem hxi] at he
  obtain ⟨k, e1, e2, _⟩ := DataW.trod_int Tryd.underlying5 he
  have h1 : (xs.map (·.1))[i]? = some (.lit (.int .u8 k)) := by
    rw [List.getElem?_map, List.getElem?_eq_getElem hxi, e2]; rfl
  rw [← hx1.1] at h1
  have hk : k = flagL.getD i 0 := by
    have : i = 0 ∨ i = 1 ∨ i = 2 ∨ i = 3 ∨ i = 4 ∨ i = 5 ∨ i = 6 ∨ i = 7 := by omega
    rcases this with rfl | rfl | rfl | rfl | rfl | rfl | rfl | rfl <;> (simp at h1; rw [← h1]; rfl)
  rw [hcell, ← hk]
  have h2 : ((cs0.toList.drop i).take 1)[0]? = some (.int .u8 k) := by rw [e1]; rfl
  rw [List.getElem?_take, if_pos (by decide), List.getElem?_drop] at h2
  simpa using h2
theorem back_of_laid {W : World} (h : laidMetH Tryd.prog laidFive W) : PowOk W ∧ BehindOk W ∧ FlagOk W := by
  rw [MakeChecks.laidMetH_plain _ _ _ (by kernel_rfl)] at h
  obtain ⟨ps, h1, _, _⟩ := h
  exact ⟨pow_of_list h1 (by simp [laidFive]), behind_of_list h1 (by simp [laidFive]), flag_of_list h1 (by simp [laidFive])⟩
set_option maxRecDepth 100000 in
theorem door_met (os : Os) (args : Array Value) : laidMetH Tryd.prog laidFive ((World.doorLaid Tryd.prog 3423 os).forCall (fun _ _ => 0) ⟨#[], args, []⟩).memory :=
  laidMetH_of_parts3 (fuel := 8) (laidMet_of_run' 65 (by kernel_rfl) (by kernel_rfl)) (by kernel_rfl) (by kernel_rfl)
end Go.Proofs.YtkfookiakpnlfaaDoor
