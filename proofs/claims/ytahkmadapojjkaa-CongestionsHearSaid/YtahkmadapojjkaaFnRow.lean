/- A row of one-cell values in a block of a call's own, said by a function. -/
import Derived.Test.YtahkmadapojjkaaBaseEx
namespace Go.Proofs.Ytahkmadapojjkaa
open Go.RowKit

def fnR (n : Nat) (f : Nat → Value) : List Value := (List.range n).map f
theorem fnR_length (n : Nat) (f : Nat → Value) : (fnR n f).length = n := by simp [fnR]
def FR (w : World) (b t n : Nat) (f : Nat → Value) : Prop := Own w b t (fnR n f)
theorem fr_made (z : Value) (t n : Nat) (w : World) : FR (w.alloc (.cells (madeCells #[z] n) t)) w.heap.size t n (fun _ => z) := by
  unfold FR Own
  rw [heap_alloc_new w _]
  congr 2
  apply Array.ext
  · simp [madeCells, fnR]
  · intro i h1 h2
    simp [madeCells, fnR, Nat.mod_one]
theorem FR.cell {w : World} {b t n : Nat} {f : Nat → Value} (h : FR w b t n f) {i : Nat} (hi : i < n) : w.cell? ⟨b, i, none⟩ = some (f i) := by
  have h1 := Own.cell h i (by rw [fnR_length]; exact hi)
  rw [h1]
  unfold fnR
  rw [List.getD_eq_getElem?_getD, List.getElem?_map, List.getElem?_range hi]; rfl
theorem FR.frozen {w : World} {b t n : Nat} {f : Nat → Value} (h : FR w b t n f) (i : Nat) : w.frozen? ⟨b, i, none⟩ = false := Own.frozen h i
theorem FR.lt {w : World} {b t n : Nat} {f : Nat → Value} (h : FR w b t n f) : b < w.heap.size := Own.lt h
theorem FR.below {w w' : World} {b t n : Nat} {f : Nat → Value} (h : FR w b t n f) (hb : Below w.heap.size w w') : FR w' b t n f := Own.below h hb (Own.lt h)
theorem FR.exc {S : Nat → Prop} {w w' : World} {b t n : Nat} {f : Nat → Value} (h : FR w b t n f) (hx : Exc S w w') (hn : ¬ S b) : FR w' b t n f := by
  unfold FR Own at *
  rw [hx.block b (FR.lt h) hn]
  exact h
theorem FR.set {w : World} {b t n : Nat} {f : Nat → Value} (h : FR w b t n f) (k : Nat) (v : Value) : FR (w.setCell ⟨b, k, none⟩ v) b t n (fun i => if i = k then v else f i) := by
  have h2 := Own.set h k v
  have e : (fnR n f).set k v = fnR n (fun i => if i = k then v else f i) := by
    refine List.ext_getElem? fun i => ?_
    unfold fnR
    by_cases hi : i < n
    · by_cases e : k = i
      · subst e
        rw [List.getElem?_set_self (by simpa using hi), List.getElem?_map, List.getElem?_range hi]; simp
      · rw [List.getElem?_set_ne e, List.getElem?_map, List.getElem?_map, List.getElem?_range hi]
        have e9 : ¬ i = k := fun h => e h.symm
        simp only [Option.map_some, if_neg e9]
    · rw [List.getElem?_eq_none (by simp; omega), List.getElem?_eq_none (by simp; omega)]
  rw [e] at h2
  exact h2
theorem FR.congr {w : World} {b t n : Nat} {f g : Nat → Value} (h : FR w b t n f) (e : ∀ i, i < n → g i = f i) : FR w b t n g := by
  unfold FR
  rw [show fnR n g = fnR n f from List.map_congr_left fun i hi => by rw [e i (List.mem_range.1 hi)]]
  exact h
end Go.Proofs.Ytahkmadapojjkaa
