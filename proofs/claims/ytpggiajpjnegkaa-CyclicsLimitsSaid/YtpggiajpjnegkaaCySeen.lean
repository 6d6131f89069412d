/- One end by itself in a walk, beside a block that the law writes. -/
import Derived.Test.YtpggiajpjnegkaaCyLi
import Derived.Laws.MakeOwn
namespace Go.Proofs.Ytpggiajpjnegkaa
open Go.RowKit

def SeAt (I : EndFace) (w : World) (B b : Nat) (x : En) (g : Nat) (vs : List Value) : Prop := ∃ S, I.At w b S x ∧ (∀ k, S k → B ≤ k) ∧ B ≤ w.heap.size ∧ ¬ S g ∧ Own w g 3 vs
theorem SeAt.later {I : EndFace} {w w' : World} {B b : Nat} {x : En} {g : Nat} {vs : List Value} (h : SeAt I w B b x g vs) (hb : Below w.heap.size w w') : SeAt I w' B b x g vs := by
  obtain ⟨S, h1, h2, h3, h4, h5⟩ := h
  exact ⟨S, I.exc (T := fun _ => False) h1 (Exc.of_below hb) (fun _ _ hh => hh), h2, Nat.le_trans h3 hb.size, h4, h5.below hb h5.lt⟩
theorem SeAt.own {I : EndFace} {w : World} {B b : Nat} {x : En} {g : Nat} {vs : List Value} (h : SeAt I w B b x g vs) : Own w g 3 vs := by obtain ⟨_, _, _, _, _, h5⟩ := h; exact h5
theorem SeAt.of_one {I : EndFace} {w w' : World} {B b : Nat} {x : En} {g : Nat} {vs : List Value} (h : OneAt I w B b x) (hb : Below w.heap.size w w') (hg : w.heap.size ≤ g) (ho : Own w' g 3 vs) : SeAt I w' B b x g vs := by
  obtain ⟨S, h1, h2, h3⟩ := h
  have hl := I.lt h1
  exact ⟨S, I.exc (T := fun _ => False) h1 (Exc.of_below hb) (fun _ _ hh => hh), h2, Nat.le_trans h3 hb.size, fun hs => absurd (Nat.lt_of_le_of_lt hg (hl _ hs)) (Nat.lt_irrefl _), ho⟩
theorem se_next {I : EndFace} {w : World} {B b : Nat} {x : En} {g : Nat} {vs : List Value} (h : SeAt I w B b x g vs) (hf : x.failed = false) :
    Calls Try.prog 14 #[.pointer (some ⟨b, 0, none⟩)] w fun e w' => (∃ s, e = .returned (.tuple #[.agg (unCells x.next.1 s x.next.1.load.length x.next.1.load.length).toArray, .int .i64 0]) ∧ Row .u8 w' s x.next.1.load.length x.next.1.load.length x.next.1.load) ∧ SeAt I w' B b x.next.2 g vs ∧ Below B w w' := by
  obtain ⟨S, h1, h2, h3, h4, h5⟩ := h
  refine (I.next h1 hf).mono ?_
  rintro e w' ⟨S', ⟨s, rfl, hr, _⟩, ha, ht⟩
  refine ⟨⟨s, rfl, hr⟩, ⟨S', ha, fun k hk => ?_, Nat.le_trans h3 ht.exc.size, fun hs => ?_, h5.exc ht.exc h4⟩, ht.exc.below h3 (fun i _ hi => h2 i hi)⟩
  · rcases ht.lies k hk with h6 | h6
    · exact h2 k h6
    · exact Nat.le_trans h3 h6
  · rcases ht.lies g hs with h6 | h6
    · exact h4 h6
    · exact absurd (Nat.lt_of_lt_of_le h5.lt h6) (Nat.lt_irrefl _)
theorem SeAt.set {I : EndFace} {w : World} {B b : Nat} {x : En} {g : Nat} {vs : List Value} (h : SeAt I w B b x g vs) (hg : B ≤ g) (i : Nat) (v : Value) : SeAt I (w.setCell ⟨g, i, none⟩ v) B b x g (vs.set i v) ∧ Below B w (w.setCell ⟨g, i, none⟩ v) := by
  obtain ⟨S, h1, h2, h3, h4, h5⟩ := h
  have hx : Exc (fun k => k = g) w (w.setCell ⟨g, i, none⟩ v) := (Exc.refl (fun k => k = g) w).setCell ⟨g, i, none⟩ (.inl rfl) _
  exact ⟨⟨S, I.exc h1 hx (fun k hk hh => h4 (hh ▸ hk)), h2, Nat.le_trans h3 hx.size, h4, h5.set i v⟩, hx.below h3 (fun k _ hk => by subst hk; exact hg)⟩
theorem se_waiting {I : EndFace} {w : World} {B b : Nat} {x : En} {g : Nat} {vs : List Value} (h : SeAt I w B b x g vs) :
    Calls Try.prog 22 #[.pointer (some ⟨b, 0, none⟩)] w fun e w' => e = .returned (.tuple #[.int .i64 (x.que.length : Int), .int .i64 (x.una.length : Int)]) ∧ ∃ q, w' = w.drewN q := by
  obtain ⟨S, h1, _⟩ := h
  exact I.waiting h1
/-- The counts of the loads, beside which nothing is said. -/
def Cnts (w r : Nat) (vs : List Value) : Prop := vs.length = 128 ∧ ∀ i, i < w → vs.getD i undef = .int .i64 (cnt w r i : Int)
theorem Cnts.zero (w : Nat) (h : w ≤ 64) : Cnts w 0 (List.replicate 128 (.int .i64 0)) := by
  refine ⟨by simp, fun i hi => ?_⟩
  rw [cnt_zero, List.getD_eq_getElem?_getD, List.getElem?_replicate, if_pos (by omega)]
  rfl
theorem Cnts.next {w r : Nat} {vs : List Value} (h : Cnts w r vs) (hw : 1 ≤ w) (h64 : w ≤ 64) : Cnts w (r + 1) (vs.set (r % w) (.int .i64 ((cnt w r (r % w) : Int) + 1))) := by
  obtain ⟨h1, h2⟩ := h
  have hm := Nat.mod_lt r hw
  refine ⟨by simpa using h1, fun i hi => ?_⟩
  rw [cnt_next hw hi, List.getD_eq_getElem?_getD, List.getElem?_set]
  by_cases he : r % w = i
  · subst he
    rw [if_pos rfl, if_pos (by omega), if_pos rfl]
    rfl
  · rw [if_neg he, if_neg he, ← List.getD_eq_getElem?_getD, h2 i hi]
    rfl
theorem counts_cells : madeCells #[.int .i64 0] 128 = (List.replicate 128 (Value.int .i64 0)).toArray := by
  apply Array.ext
  · rw [size_madeCells, List.size_toArray, List.length_replicate]
  · intro i h1 h2
    have h3 : (List.replicate 128 (Value.int .i64 0)).toArray[i]'h2 = Value.int .i64 0 := by simp only [List.getElem_toArray, List.getElem_replicate]
    rw [h3]
    simp only [madeCells, Array.getElem_map]
    have : ∀ j, (#[Value.int .i64 0] : Array Value)[j % 1]! = .int .i64 0 := fun j => by rw [Nat.mod_one]; rfl
    exact this _
/-- What the law makes: a block of zero counts. -/
theorem own_counts (w : World) : Own (w.alloc (.cells (madeCells #[.int .i64 0] 128) 3)) w.heap.size 3 (List.replicate 128 (.int .i64 0)) := own_lit w _ _ _ counts_cells
theorem make_counts (w : World) :
    (Instr.makeSlice 74 (.int .i64 128) (.int .i64 128)).run Try.prog w = .ok (.slice (some ⟨w.heap.size, 0, none⟩) 128 128) (w.alloc (.cells (madeCells #[.int .i64 0] 128) 3)) := by
  obtain ⟨i, hi, hz0, hz1, hz2⟩ := info_parts info64
  have h := run_make (P := Try.prog) w 74 3 i (.int .i64 0) Try.underlying74 hi hz0 .i64 .i64 128 128 (by omega) (Int.le_refl _) (by rw [hz2]; omega) (by omega)
  rw [hz1, Nat.mul_one] at h
  simpa [Value.cells] using h
end Go.Proofs.Ytpggiajpjnegkaa
