/- Contracts: a scanner: New, Errors, Hunting, keep, end. -/
import Derived.Test.YtnecdmihnndebaaDoorFrStuff
import Derived.Test.YtnecdmihnndebaaDoorOctets
namespace Go.Proofs.YtnecdmihnndebaaDoor
open Go.RowKit

def scCells (x : Sc) (v : Value) : List Value := [.int .i64 (if x.ins then 2 else 1), .int .i64 x.ones, v, .int .i64 x.errs]
/-- At block b stands a scanner in the state x; what it keeps lies in block g. -/
structure ScAt (w : World) (b : Nat) (g : Option Nat) (x : Sc) (m : Nat) : Prop where
  ex : ∃ v, Own w b 60 (scCells x v) ∧ v.ownBlock = g ∧ w.ownsRow (b + 1) 5 1 v x.kept.length (nums .u8 x.kept)
  ones : 0 ≤ x.ones ∧ x.ones ≤ m
  errs : 0 ≤ x.errs ∧ x.errs ≤ m
  kept : x.kept.length ≤ 2248
  bin : Bin x.kept
/-- What a scanner's call may have turned. -/
structure Scn (b : Nat) (g : Option Nat) (w : World) (g' : Option Nat) (w' : World) : Prop where
  exc : Exc (fun k => k = b ∨ g = some k) w w'
  lies : ∀ k, g' = some k → g = some k ∨ w.heap.size ≤ k
theorem Scn.refl (b : Nat) (g : Option Nat) (w : World) : Scn b g w g w := ⟨Exc.refl _ _, fun _ h => .inl h⟩
theorem Scn.trans {b : Nat} {g g1 g2 : Option Nat} {w w1 w2 : World} (h : Scn b g w g1 w1) (k : Scn b g1 w1 g2 w2) : Scn b g w g2 w2 :=
  ⟨h.exc.trans k.exc fun i hi hh => by
    rcases hh with hh | hh
    · exact .inl hh
    · rcases h.lies i hh with h | h
      · exact .inr h
      · omega,
   fun i hi => by
    rcases k.lies i hi with hh | hh
    · exact h.lies i hh
    · have := h.exc.size; exact .inr (by omega)⟩
theorem Scn.setCell {b : Nat} {g g1 : Option Nat} {w w1 : World} (h : Scn b g w g1 w1) (j : Nat) (v : Value) : Scn b g w g1 (w1.setCell ⟨b, j, none⟩ v) :=
  ⟨h.exc.setCell _ (.inl (.inl rfl)) v, h.lies⟩
theorem Scn.drawN {b : Nat} {g g1 : Option Nat} {w w1 : World} (h : Scn b g w g1 w1) (n : Nat) : Scn b g w g1 (w1.drewN n) := ⟨h.exc.drawN n, h.lies⟩
theorem ScAt.lt {w : World} {b : Nat} {g : Option Nat} {x : Sc} {m : Nat} (h : ScAt w b g x m) : b < w.heap.size ∧ ∀ k, g = some k → b < k ∧ k < w.heap.size := by
  obtain ⟨v, ho, rfl, hr⟩ := h.ex
  exact ⟨ho.lt, fun k hk => ownBlock_lt hr hk⟩
theorem ScAt.exc {S : Nat → Prop} {w w' : World} {b : Nat} {g : Option Nat} {x : Sc} {m : Nat} (h : ScAt w b g x m) (hx : Exc S w w') (hb : ¬ S b) (hg : ∀ k, g = some k → ¬ S k) : ScAt w' b g x m := by
  obtain ⟨v, ho, rfl, hr⟩ := h.ex
  exact ⟨⟨v, by unfold Own; rw [hx.block b ho.lt hb]; exact ho, rfl, ownsRow_exc hr hx hg⟩, h.ones, h.errs, h.kept, h.bin⟩
theorem ScAt.later {w w' : World} {b : Nat} {g : Option Nat} {x : Sc} {m : Nat} (h : ScAt w b g x m) (hx : Below w.heap.size w w') : ScAt w' b g x m :=
  h.exc (S := fun _ => False) (Exc.of_below hx) (fun h => h) (fun _ _ h => h)
theorem ScAt.more {w : World} {b : Nat} {g : Option Nat} {x : Sc} {m m' : Nat} (h : ScAt w b g x m) (hm : m ≤ m') : ScAt w b g x m' :=
  ⟨h.ex, ⟨h.ones.1, by have := h.ones.2; omega⟩, ⟨h.errs.1, by have := h.errs.2; omega⟩, h.kept, h.bin⟩
theorem Own4.cells {w : World} {b t : Nat} {c0 c1 c2 c3 : Value} (h : Own w b t [c0, c1, c2, c3]) :
    (w.cell? ⟨b, 0, none⟩ = some c0 ∧ w.cell? ⟨b, 1, none⟩ = some c1 ∧ w.cell? ⟨b, 2, none⟩ = some c2 ∧ w.cell? ⟨b, 3, none⟩ = some c3) ∧
    (w.frozen? ⟨b, 0, none⟩ = false ∧ w.frozen? ⟨b, 1, none⟩ = false ∧ w.frozen? ⟨b, 2, none⟩ = false ∧ w.frozen? ⟨b, 3, none⟩ = false) :=
  ⟨⟨h.cell 0 (by simp), h.cell 1 (by simp), h.cell 2 (by simp), h.cell 3 (by simp)⟩, ⟨h.frozen 0, h.frozen 1, h.frozen 2, h.frozen 3⟩⟩
theorem ownsRow_set {w : World} {B e n b j : Nat} {v u : Value} {xs : List Value} (h : w.ownsRow (b + 1) e 1 v n xs) (hB : B = b + 1) : (w.setCell ⟨b, j, none⟩ u).ownsRow B e 1 v n xs := by
  subst hB; exact ownsRow_setCell_below h (by simp) u
theorem new_any (w : World) :
    Calls Tryd.prog 9 #[] w fun e w' => e = .returned (.pointer (some ⟨w.heap.size, 0, none⟩)) ∧ Below w.heap.size w w' ∧ ScAt w' w.heap.size none Sc.zero 0 := by
  go_enter Tryd.func9, Tryd.ntmps9
  go_wp2
  go_ret
  exact ⟨rfl, below_alloc _ _, ⟨.slice none 0 0, heap_alloc_new w _, rfl, World.ownsRow_nil _ _ _ _⟩, by simp [Sc.zero], by simp [Sc.zero], by simp [Sc.zero], fun x hx => by simp [Sc.zero] at hx⟩
theorem errors_any (b : Nat) (g : Option Nat) (x : Sc) (m : Nat) (w : World) (h : ScAt w b g x m) :
    Calls Tryd.prog 22 #[.pointer (some ⟨b, 0, none⟩)] w fun e w' => e = .returned (.int .i64 x.errs) ∧ w = w' := by
  obtain ⟨v, ho, _, _⟩ := h.ex
  obtain ⟨⟨h0, h1, h2, h3⟩, _⟩ := Own4.cells ho
  clear h ho
  go_enter Tryd.func22, Tryd.ntmps22
  go_wp2
  go_ret
  exact ⟨rfl, rfl⟩
theorem errors_nil (w : World) :
    Calls Tryd.prog 22 #[.pointer none] w fun e w' => e = .returned (.int .i64 0) ∧ w = w' := by
  go_enter Tryd.func22, Tryd.ntmps22
  go_wp2
  go_ret
  exact ⟨rfl, rfl⟩
theorem bin_keep {i : Bool} {k : List Int} {b : Int} (hk : Bin k) (hb : b = 0 ∨ b = 1) : Bin (keepL i k b) := by
  unfold keepL
  split
  · exact hk.app (fun y hy => by simp at hy; subst hy; exact hb)
  · exact hk
theorem keep_len {i : Bool} {k : List Int} {b : Int} (hk : k.length ≤ 2248) : (keepL i k b).length ≤ 2248 := by
  unfold keepL
  split
  · rename_i h; rw [List.length_append, List.length_singleton]; omega
  · exact hk
set_option maxHeartbeats 400000 in
set_option maxRecDepth 20000 in
theorem keep_any (b : Nat) (g : Option Nat) (x : Sc) (m : Nat) (y : Int) (w : World) (h : ScAt w b g x m) (hy : y = 0 ∨ y = 1) :
    Calls Tryd.prog 45 #[.pointer (some ⟨b, 0, none⟩), .int .u8 y] w fun e w' => e = .returned (.tuple #[]) ∧ ∃ g', ScAt w' b g' ⟨x.ins, x.ones, keepL x.ins x.kept y, x.errs⟩ m ∧ Scn b g w g' w' := by
  have h' := h
  obtain ⟨v, ho, hvg, hr⟩ := h.ex
  obtain ⟨⟨h0, h1, h2, h3⟩, _⟩ := Own4.cells ho
  obtain ⟨i, o, k, e⟩ := x
  have hk := h.kept
  simp only at hk h0 h1 h3 hr
  cases i with
  | false =>
    simp only [if_false, Bool.false_eq_true] at h0
    have H := Lib.hid h'
    clear h h' ho hr hvg
    go_enter Tryd.func45, Tryd.ntmps45
    go_wp2
    go_end0
    refine ⟨rfl, g, ?_, Scn.refl _ _ _⟩
    have e1 : keepL false k y = k := by simp [keepL]
    rw [e1]; exact H.out
  | true =>
    simp only [if_true] at h0
    obtain ⟨a, c, rfl, hrow, hlow⟩ := ownsRow_low hr (bin_wf h.bin)
    have hmx := hrow.max
    have hle := hrow.le
    unfold maxLen at hmx
    by_cases hlt : k.length < 2248
    · have HO := Lib.hid ho
      have HW := Lib.hid hr
      have HV := Lib.hid hvg
      have H := Lib.hid h'
      have hb := ho.lt
      have hlt' : (k.length : Int) < 2248 := by omega
      have HLt := Lib.hid hlt
      clear h h' ho hr hvg hrow hlow hk hlt
      go_enter Tryd.func45, Tryd.ntmps45
      go_wp2_with (at_builtin; refine wpList_append_one Tryd.underlying23 info8 (by decide) rfl _ _ rfl (b + 1) _ _ _ _ rfl (by exact HW.out) rfl (by have := HLt.out; omega) hb ?_)
      intro v1 w1 g1 g2 gg c1 g3
      subst g3
      have hown1 : Own w1 b 60 (scCells ⟨true, o, k, e⟩ (.slice a k.length c)) := by
        unfold Own
        rw [g2.exc.block b hb (fun hh => by have := (ownBlock_lt HW.out hh).1; omega)]
        exact HO.out
      obtain ⟨⟨_, _, k2, _⟩, ⟨_, _, f2, _⟩⟩ := Own4.cells hown1
      have H1 := Lib.hid g1
      have H2 := Lib.hid g2
      have H4 := Lib.hid hown1
      clear g1 g2 hown1
      go_wp2
      go_end0
      refine ⟨rfl, some gg, ⟨⟨.slice (some ⟨gg, 0, none⟩) (k.length + 1) c1, ?_, rfl, ?_⟩, H.out.ones, H.out.errs, keep_len H.out.kept, bin_keep H.out.bin hy⟩, ?_⟩
      · have := H4.out.set 2 (.slice (some ⟨gg, 0, none⟩) (k.length + 1) c1)
        exact this
      · have e1 : keepL true k y = k ++ [y] := by simp [keepL, HLt.out]
        rw [e1, List.length_append, List.length_singleton]
        exact ownsRow_set H1.out rfl
      · refine Scn.setCell ⟨H2.out.exc.weak (fun i _ hh => .inr ?_), fun q hq => ?_⟩ _ _
        · rw [← HV.out]; exact hh
        · rcases H2.out.lies q hq with h | h
          · exact .inl (by rw [← HV.out]; exact h)
          · exact .inr h
    · have H := Lib.hid h'
      have hlt' : ¬ (k.length : Int) < 2248 := by omega
      have HLt := Lib.hid hlt
      clear h h' ho hr hvg hrow hlow hk hlt
      go_enter Tryd.func45, Tryd.ntmps45
      go_wp2
      go_end0
      refine ⟨rfl, g, ?_, Scn.refl _ _ _⟩
      have e1 : keepL true k y = k := by simp [keepL, HLt.out]
      rw [e1]; exact H.out
end Go.Proofs.YtnecdmihnndebaaDoor
