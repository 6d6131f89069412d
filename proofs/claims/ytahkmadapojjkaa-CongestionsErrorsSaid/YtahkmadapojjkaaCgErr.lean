/- CongestionsErrors: marks that do not ascend, destinations without room, nil and zero objects. -/
import Derived.Test.YtahkmadapojjkaaCgLives
namespace Go.Proofs.Ytahkmadapojjkaa
open Go.RowKit Go.Maps

def dom65 : List Int := (List.range 65).map fun (i : Nat) => (i : Int)
/-- The control behind i destinations. -/
def cE : Nat → Ct
  | 0 => Ct.fresh dom65 5
  | i + 1 => (cE i).hear 1000 i 1
theorem cE_D : ∀ i, (cE i).D = dom65
  | 0 => rfl
  | i + 1 => cE_D i
theorem dom_ok : dom65.Nodup ∧ (∀ n, n ∈ dom65 → (Lit.int .u16 n).wf = true) ∧ dom65.length ≤ 1000 := by decide +kernel
theorem dom_mem {i : Nat} (h : i < 65) : (i : Int) ∈ dom65 := List.mem_map.2 ⟨i, List.mem_range.2 h, rfl⟩
theorem cE_err : ∀ i : Nat, i < 64 → (cE i).err 1000 i 1 = 0 := by decide +kernel
theorem cE_full : (cE 64).err 1004 64 1 = 9 := by decide +kernel
def cF : Ct := (cE 64).hear 1004 3 2
theorem cE_three : (cE 64).err 1004 3 2 = 0 := by decide +kernel
theorem cF_low : lowM (cF.R 64) 1004 cF.base = 0 := by decide +kernel
theorem cF_err : cF.err 1005 64 1 = 0 := by decide +kernel
end Go.Proofs.Ytahkmadapojjkaa
