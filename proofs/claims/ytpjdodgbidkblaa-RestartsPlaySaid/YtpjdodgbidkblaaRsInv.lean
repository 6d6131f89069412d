/- A machine beside the statement's model: what every act keeps. -/
import Derived.Test.YtpjdodgbidkblaaRsPts
namespace Go.Proofs.Ytpjdodgbidkblaa
open Go.RowKit Go.Maps

def updB (U : Nat → Bool) (k : Nat) (x : Bool) : Nat → Bool := fun i => if i = k then x else U i
theorem updB_same (U : Nat → Bool) (k : Nat) (x : Bool) : updB U k x k = x := if_pos rfl
theorem updB_other {U : Nat → Bool} {k i : Nat} {x : Bool} (h : i ≠ k) : updB U k x i = U i := if_neg h
/-- The machine knows f, is in the state st since beg; the model has U, D, since. -/
structure Inv (n : Nat) (f : Nat → Bool × Bool) (U D : Nat → Bool) (st beg since : Int) : Prop where
  up : ∀ i, i < n → U i = (f i).1
  dn : ∀ i, i < n → (f i).2 = true → (f i).1 = true
  du : ∀ i, i < n → D i = true → U i = true
  wt : st = 2 → (∀ i, i < n → D i = (f i).2) ∧ since = beg
  dw : st = 1 → ∀ i, i < n → U i = false
  st3 : st = 0 ∨ st = 1 ∨ st = 2
theorem Inv.start (n : Nat) : Inv n (fun _ => (true, false)) (fun _ => true) (fun _ => false) 0 0 0 :=
  ⟨fun _ _ => rfl, fun _ _ h => (by cases h), fun _ _ h => (by cases h), fun h => (by omega), fun h => (by omega), .inl rfl⟩
theorem Inv.acts_up {n : Nat} {f : Nat → Bool × Bool} {U D : Nat → Bool} {st beg since now : Int} {k : Nat} (h : Inv n f U D st beg since) (hk : k < n) :
    Inv n (updF f k (true, (f k).2)) (updB U k true) D (if st = 1 then 2 else st) (if st = 1 then now else beg) (if st = 1 then now else since) := by
  refine ⟨fun i hi => ?_, fun i hi => ?_, fun i hi hd => ?_, fun hs => ?_, fun hs => ?_, ?_⟩
  · by_cases e : i = k
    · subst e; rw [updB_same, updF_same]
    · rw [updB_other e, updF_other e]; exact h.up i hi
  · by_cases e : i = k
    · subst e; rw [updF_same]; exact fun _ => rfl
    · rw [updF_other e]; exact h.dn i hi
  · by_cases e : i = k
    · subst e; exact updB_same _ _ _
    · rw [updB_other e]; exact h.du i hi hd
  · by_cases h1 : st = 1
    · rw [if_pos h1, if_pos h1]
      refine ⟨fun i hi => ?_, rfl⟩
      have hu := h.dw h1 i hi
      have hd : D i = false := by
        cases hq : D i
        · rfl
        · rw [h.du i hi hq] at hu; cases hu
      have hf : (f i).2 = false := by
        cases hq : (f i).2
        · rfl
        · have := h.dn i hi hq; rw [← h.up i hi, hu] at this; cases this
      by_cases e : i = k
      · subst e; rw [updF_same, hd]; exact hf.symm
      · rw [updF_other e, hd, hf]
    · rw [if_neg h1] at hs ⊢
      rw [if_neg h1]
      obtain ⟨h2, h3⟩ := h.wt hs
      refine ⟨fun i hi => ?_, h3⟩
      by_cases e : i = k
      · subst e; rw [updF_same]; exact h2 i hi
      · rw [updF_other e]; exact h2 i hi
  · by_cases h1 : st = 1
    · rw [if_pos h1] at hs; omega
    · rw [if_neg h1] at hs; exact absurd hs h1
  · by_cases h1 : st = 1
    · rw [if_pos h1]; exact .inr (.inr rfl)
    · rw [if_neg h1]; exact h.st3
theorem Inv.acts_down {n : Nat} {f : Nat → Bool × Bool} {U D : Nat → Bool} {st beg since : Int} {k : Nat} (h : Inv n f U D st beg since) :
    Inv n (updF f k (false, false)) (updB U k false) (updB D k false) (if anyN n (updB U k false) = true then st else 1) beg since := by
  refine ⟨fun i hi => ?_, fun i hi => ?_, fun i hi hd => ?_, fun hs => ?_, fun hs i hi => ?_, ?_⟩
  · by_cases e : i = k
    · subst e; rw [updB_same, updF_same]
    · rw [updB_other e, updF_other e]; exact h.up i hi
  · by_cases e : i = k
    · subst e; rw [updF_same]; exact fun h => h
    · rw [updF_other e]; exact h.dn i hi
  · by_cases e : i = k
    · subst e; rw [updB_same] at hd; cases hd
    · rw [updB_other e] at hd ⊢; exact h.du i hi hd
  · by_cases ha : anyN n (updB U k false) = true
    · rw [if_pos ha] at hs
      obtain ⟨h2, h3⟩ := h.wt hs
      refine ⟨fun i hi => ?_, h3⟩
      by_cases e : i = k
      · subst e; rw [updB_same, updF_same]
      · rw [updB_other e, updF_other e]; exact h2 i hi
    · rw [if_neg ha] at hs; omega
  · by_cases ha : anyN n (updB U k false) = true
    · rw [if_pos ha] at hs
      by_cases e : i = k
      · subst e; exact updB_same _ _ _
      · rw [updB_other e]; exact h.dw hs i hi
    · rw [Bool.not_eq_true, anyN_false] at ha
      exact ha i hi
  · by_cases ha : anyN n (updB U k false) = true
    · rw [if_pos ha]; exact h.st3
    · rw [if_neg ha]; exact .inr (.inl rfl)
theorem Inv.any_down {n : Nat} {f : Nat → Bool × Bool} {U D : Nat → Bool} {st beg since : Int} {k : Nat} (h : Inv n f U D st beg since) : (anyN n fun i => (updF f k (false, false) i).1) = anyN n (updB U k false) :=
  anyN_congr fun i hi => ((h.acts_down (k := k)).up i hi).symm
theorem Inv.acts_done {n : Nat} {f : Nat → Bool × Bool} {U D : Nat → Bool} {beg since : Int} {k : Nat} (h : Inv n f U D 2 beg since) (hk : k < n) (hu : U k = true) : Inv n (updF f k (true, true)) U (updB D k true) 2 beg since := by
  have hf : (f k).1 = true := by rw [← h.up k hk]; exact hu
  refine ⟨fun i hi => ?_, fun i hi => ?_, fun i hi hd => ?_, fun hs => ⟨fun i hi => ?_, (h.wt rfl).2⟩, fun hs => by omega, .inr (.inr rfl)⟩
  · by_cases e : i = k
    · subst e; rw [updF_same]; exact hu
    · rw [updF_other e]; exact h.up i hi
  · by_cases e : i = k
    · subst e; rw [updF_same]; exact fun _ => rfl
    · rw [updF_other e]; exact h.dn i hi
  · by_cases e : i = k
    · subst e; exact hu
    · rw [updB_other e] at hd; exact h.du i hi hd
  · by_cases e : i = k
    · subst e; rw [updB_same, updF_same]
    · rw [updB_other e, updF_other e]; exact (h.wt rfl).1 i hi
theorem Inv.acts_ready {n : Nat} {f : Nat → Bool × Bool} {U D : Nat → Bool} {st beg since : Int} (h : Inv n f U D st beg since) : Inv n f U (fun _ => false) 0 beg since :=
  ⟨h.up, h.dn, fun _ _ h => (by cases h), fun h => (by omega), fun h => (by omega), .inl rfl⟩
theorem Inv.any_open {n : Nat} {f : Nat → Bool × Bool} {U D : Nat → Bool} {beg since : Int} (h : Inv n f U D 2 beg since) : (anyN n fun i => (f i).1 && !(f i).2) = anyN n fun i => U i && !D i :=
  anyN_congr fun i hi => by rw [h.up i hi, (h.wt rfl).1 i hi]
end Go.Proofs.Ytpjdodgbidkblaa
