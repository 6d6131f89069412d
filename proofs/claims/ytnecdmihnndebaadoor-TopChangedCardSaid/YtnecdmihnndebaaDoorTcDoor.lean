/- The condition on the two listed variables, and the door's own run meets it; an array of three integers by value, opened. -/
import Derived.Test.YtnecdmihnndebaaDoorSumsAll
import Derived.Test.YtnecdmihnndebaaDoorFrPieces
import Derived.Test.YtnecdmihnndebaaDoorUnOpen
import Derived.ProofKit
import Derived.LaidMore
import Derived.OpenShut
import Derived.Stop.Joined
import Derived.SevenTiedAt
import Derived.LaidSub
import Derived.Test.YtnecdmihnndebaaDoorTie
import Derived.Test.YtnecdmihnndebaaDoorCards
namespace Go.Proofs.YtnecdmihnndebaaDoor
open Go.ChangeShapes Go.WideShapes Go.ChangeAt Go.WideMaps Go.WideElems Go.RowKit

def laidTwo : List (String × DataW Unit) := [("pointcode/sums.behind", Rows.laid_pointcode_sums_behind), ("pointcode/frames.flag", Rows.laid_pointcode_frames_flag)]
/-- Each listed variable reads as the list says. -/
theorem laid_mem {P : Program} {w : World} : ∀ {l : List (String × DataW Unit)} {ps : List MemPlace} {n : String} {d : DataW Unit}, DataW.LaidVars P w l ps → (n, d) ∈ l →
    ∃ g t cs fuel p, P.globalNamed n = some g ∧ (P.globals[g]?).map (·.type) = some t ∧ w.var? P n = some cs ∧ DataW.trod (fun _ => ()) P w 0 (fun _ => true) false fuel t cs.toList = some (d, p)
  | [], _, _, _, _, hm => by cases hm
  | (n', d') :: r, _, n, d, h, hm => by
    obtain ⟨g, t, cs, fuel, p, q, h1, h2, h3, h4, h5, _⟩ := h
    rcases List.mem_cons.1 hm with he | hm
    · cases he
      exact ⟨g, t, cs, fuel, p, h1, h2, h3, h4⟩
    · exact laid_mem h5 hm
theorem gBehind : Tryd.prog.globalNamed "pointcode/sums.behind" = some 1 := by kernel_rfl
theorem tBehind : (Tryd.prog.globals[1]?).map (·.type) = some 81 := by kernel_rfl
set_option maxRecDepth 100000 in
theorem behind_of_list {W : World} {L : List (String × DataW Unit)} {ps : List MemPlace} (h : DataW.LaidVars Tryd.prog W L ps) (hm : ("pointcode/sums.behind", Rows.laid_pointcode_sums_behind) ∈ L) : BehindOk W := by
  obtain ⟨g0, t0, cs0, f0, p0, hg0, ht0, hv0, hd0⟩ := laid_mem h hm
  obtain rfl := Option.some.inj (gBehind.symm.trans hg0)
  obtain rfl := Option.some.inj (tBehind.symm.trans ht0)
  obtain ⟨xs, m1, rfl, hx1, hlen, hn8, hel⟩ := DataW.trod_array Tryd.underlying81 hd0
  have c1 : Tryd.prog.cellsOf 22 = 1 := by kernel_rfl
  simp only [Prod.mk.injEq, Rows.laid_pointcode_sums_behind, DataW.agg.injEq] at hx1
  intro i hi
  have hcell := World.var?_cell hg0 hv0 i
  have he := hel i hi
  rw [c1, Nat.mul_one] at he
  have hxi : i < xs.length := by omega
  rw [List.getElem?_eq_getElem hxi] at he
  obtain ⟨k, e1, e2, _⟩ := DataW.trod_int Tryd.underlying22 he
  have h1 : (xs.map (·.1))[i]? = some (.lit (.int .u16 k)) := by
    rw [List.getElem?_map, List.getElem?_eq_getElem hxi, e2]; rfl
  rw [← hx1.1] at h1
  have hk : k = behindL.getD i 0 := by
    have : i = 0 ∨ i = 1 ∨ i = 2 ∨ i = 3 ∨ i = 4 ∨ i = 5 ∨ i = 6 ∨ i = 7 ∨ i = 8 ∨ i = 9 ∨ i = 10 ∨ i = 11 ∨ i = 12 ∨ i = 13 ∨ i = 14 ∨ i = 15 := by omega
    rcases this with rfl | rfl | rfl | rfl | rfl | rfl | rfl | rfl | rfl | rfl | rfl | rfl | rfl | rfl | rfl | rfl <;> (simp at h1; rw [← h1]; rfl)
  rw [hcell, ← hk]
  have h2 : ((cs0.toList.drop i).take 1)[0]? = some (.int .u16 k) := by rw [e1]; rfl
  rw [List.getElem?_take, if_pos (by decide), List.getElem?_drop] at h2
  simpa using h2
theorem gFlag : Tryd.prog.globalNamed "pointcode/frames.flag" = some 0 := by kernel_rfl
theorem tFlag : (Tryd.prog.globals[0]?).map (·.type) = some 65 := by kernel_rfl
set_option maxRecDepth 100000 in
theorem flag_of_list {W : World} {L : List (String × DataW Unit)} {ps : List MemPlace} (h : DataW.LaidVars Tryd.prog W L ps) (hm : ("pointcode/frames.flag", Rows.laid_pointcode_frames_flag) ∈ L) : FlagOk W := by
  obtain ⟨g0, t0, cs0, f0, p0, hg0, ht0, hv0, hd0⟩ := laid_mem h hm
  obtain rfl := Option.some.inj (gFlag.symm.trans hg0)
  obtain rfl := Option.some.inj (tFlag.symm.trans ht0)
  obtain ⟨xs, m1, rfl, hx1, hlen, hn8, hel⟩ := DataW.trod_array Tryd.underlying65 hd0
  have c1 : Tryd.prog.cellsOf 5 = 1 := by kernel_rfl
  simp only [Prod.mk.injEq, Rows.laid_pointcode_frames_flag, DataW.agg.injEq] at hx1
  intro i hi
  have hcell := World.var?_cell hg0 hv0 i
  have he := hel i hi
  rw [c1, Nat.mul_one] at he
  have hxi : i < xs.length := by omega
  rw [List.getElem?_eq_getElem hxi] at he
  obtain ⟨k, e1, e2, _⟩ := DataW.trod_int Tryd.underlying5 he
  have h1 : (xs.map (·.1))[i]? = some (.lit (.int .u8 k)) := by
    rw [List.getElem?_map, List.getElem?_eq_getElem hxi, e2]; rfl
  rw [← hx1.1] at h1
  have hk : k = flagL.getD i 0 := by
    have : i = 0 ∨ i = 1 ∨ i = 2 ∨ i = 3 ∨ i = 4 ∨ i = 5 ∨ i = 6 ∨ i = 7 := by omega
    rcases this with rfl | rfl | rfl | rfl | rfl | rfl | rfl | rfl <;> (simp at h1; rw [← h1]; rfl)
  rw [hcell, ← hk]
  have h2 : ((cs0.toList.drop i).take 1)[0]? = some (.int .u8 k) := by rw [e1]; rfl
  rw [List.getElem?_take, if_pos (by decide), List.getElem?_drop] at h2
  simpa using h2
theorem two_of_laid {W : World} (h : laidMetH Tryd.prog laidTwo W) : BehindOk W ∧ FlagOk W := by
  rw [MakeChecks.laidMetH_plain _ _ _ (by kernel_rfl)] at h
  obtain ⟨ps, h1, _, _⟩ := h
  exact ⟨behind_of_list h1 (by simp [laidTwo]), flag_of_list h1 (by simp [laidTwo])⟩
set_option maxRecDepth 100000 in
theorem door_met (os : Os) (args : Array Value) : laidMetH Tryd.prog laidTwo ((World.doorLaid Tryd.prog 3408 os).forCall (fun _ _ => 0) ⟨#[], args, []⟩).memory :=
  laidMetH_of_parts3 (fuel := 8) (laidMet_of_run' 17 (by kernel_rfl) (by kernel_rfl)) (by kernel_rfl) (by kernel_rfl)
set_option maxRecDepth 100000 in
theorem arr3_key : ArrKey Tryd.prog 26 22 3 := ⟨Tryd.underlying26, by kernel_rfl, by kernel_rfl, by kernel_rfl⟩
set_option maxRecDepth 100000 in
theorem arr3_open {H : Type} {enc : TypeId × Value → H} {W : World} {base b0 : Nat} {sp : Nat → Bool} {held : Bool} {v : Value} {d : DataW H} {p : List MemPlace}
    (hv : Value.okWide Tryd.prog W .any b0 26 v) (h : DataW.Trod enc Tryd.prog W base sp held 26 v d p) :
    ∃ a0 a1 a2 : Int, v = .agg #[.int .u16 a0, .int .u16 a1, .int .u16 a2] ∧ (Lit.int .u16 a0).wf = true ∧ (Lit.int .u16 a1).wf = true ∧ (Lit.int .u16 a2).wf = true := by
  obtain ⟨xs, rfl, hsz⟩ := okWide_arr arr3_key hv
  obtain ⟨fuel, hf⟩ := h
  obtain ⟨ys, m, rfl, hx, hlen, hn4, hel⟩ := DataW.trod_array Tryd.underlying26 hf
  have c1 : Tryd.prog.cellsOf 22 = 1 := by kernel_rfl
  rcases xs with ⟨l⟩
  have hl : l.length = 3 := by simpa using hsz
  match l, hl with
  | [x0, x1, x2], _ =>
    have key : ∀ (i : Nat) (x : Value), i < 3 → [x0, x1, x2][i]? = some x → ∃ a : Int, x = .int .u16 a ∧ (Lit.int .u16 a).wf = true := by
      intro i x hi hxi
      have he := hel i hi
      rw [c1, Nat.mul_one, List.getElem?_eq_getElem (by omega)] at he
      obtain ⟨a, e1, _, wa⟩ := DataW.trod_int Tryd.underlying22 he
      refine ⟨a, ?_, wa⟩
      have h2 := congrArg (fun z => z[0]?) e1
      simp only [List.getElem?_take, List.getElem?_drop, Value.cells] at h2
      have h3 : [x0, x1, x2][i]? = some (.int .u16 a) := by simpa using h2
      rw [hxi] at h3
      exact Option.some.inj h3
    obtain ⟨a0, rfl, w0⟩ := key 0 x0 (by decide) rfl
    obtain ⟨a1, rfl, w1⟩ := key 1 x1 (by decide) rfl
    obtain ⟨a2, rfl, w2⟩ := key 2 x2 (by decide) rfl
    exact ⟨a0, a1, a2, rfl, w0, w1, w2⟩
end Go.Proofs.YtnecdmihnndebaaDoor
