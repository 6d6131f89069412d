/- Plans as values: the slices of places and lines, read in a world. -/
import Derived.Test.YtppbcehcaeeocaaPlN
import Derived.Test.YtppbcehcaeeocaaBaseEx
namespace Go.Proofs.Ytppbcehcaeeocaa
open Go.RowKit

/-- A slice value reads in w as the places P. -/
structure PRow (w : World) (a : Option Addr) (n c : Nat) (P : List (Int × Bool)) : Prop where
  len : P.length = n
  le : n ≤ c
  max : c ≤ maxLen
  wf : ∀ x ∈ P, 0 ≤ x.1 ∧ x.1 ≤ 65535
  cells : n = 0 ∨ ∃ b off, a = some ⟨b, off, none⟩ ∧ ∀ i, i < n → w.cell? ⟨b, off + i * 2, none⟩ = some (.int .u16 (pc P i)) ∧ w.cell? ⟨b, off + i * 2 + 1, none⟩ = some (.bool (pt P i))
  isNil : a = none → c = 0
theorem PRow.of_nil (w : World) : PRow w none 0 0 [] := ⟨rfl, Nat.le_refl _, Nat.zero_le _, by simp, .inl rfl, fun _ => rfl⟩
theorem PRow.exc {S : Nat → Prop} {w w' : World} {a : Option Addr} {n c : Nat} {P : List (Int × Bool)} (h : PRow w a n c P) (hx : Exc S w w') (hn : ∀ x, a = some x → ¬ S x.block) : PRow w' a n c P := by
  refine ⟨h.len, h.le, h.max, h.wf, ?_, h.isNil⟩
  rcases h.cells with h0 | ⟨b, off, ha, hc⟩
  · exact .inl h0
  · have hb : ¬ S b := hn _ ha
    exact .inr ⟨b, off, ha, fun i hi => ⟨hx.cell (hc i hi).1 hb, hx.cell (hc i hi).2 hb⟩⟩
theorem PRow.later {w w' : World} {a : Option Addr} {n c : Nat} {P : List (Int × Bool)} (h : PRow w a n c P) (hb : Below w.heap.size w w') : PRow w' a n c P :=
  h.exc (S := fun _ => False) (Exc.of_below hb) (fun _ _ h => h)
/-- A slice value reads in w as the lines L. -/
structure LRow (w : World) (a : Option Addr) (n c : Nat) (L : List Ln) : Prop where
  len : L.length = n
  le : n ≤ c
  max : c ≤ maxLen
  wf : ∀ x ∈ L, (0 ≤ x.A ∧ x.A ≤ 65535) ∧ (0 ≤ x.B ∧ x.B ≤ 65535) ∧ (0 ≤ x.C ∧ x.C ≤ 255) ∧ (-9223372036854775808 ≤ x.D ∧ x.D ≤ 9223372036854775807)
  cells : n = 0 ∨ ∃ b off, a = some ⟨b, off, none⟩ ∧ ∀ i, i < n → w.cell? ⟨b, off + i * 4, none⟩ = some (.int .u16 (lnAt L i).A) ∧ w.cell? ⟨b, off + i * 4 + 1, none⟩ = some (.int .u16 (lnAt L i).B) ∧ w.cell? ⟨b, off + i * 4 + 2, none⟩ = some (.int .u8 (lnAt L i).C) ∧ w.cell? ⟨b, off + i * 4 + 3, none⟩ = some (.int .i64 (lnAt L i).D)
  isNil : a = none → c = 0
theorem LRow.of_nil (w : World) : LRow w none 0 0 [] := ⟨rfl, Nat.le_refl _, Nat.zero_le _, by simp, .inl rfl, fun _ => rfl⟩
theorem LRow.exc {S : Nat → Prop} {w w' : World} {a : Option Addr} {n c : Nat} {L : List Ln} (h : LRow w a n c L) (hx : Exc S w w') (hn : ∀ x, a = some x → ¬ S x.block) : LRow w' a n c L := by
  refine ⟨h.len, h.le, h.max, h.wf, ?_, h.isNil⟩
  rcases h.cells with h0 | ⟨b, off, ha, hc⟩
  · exact .inl h0
  · have hb : ¬ S b := hn _ ha
    exact .inr ⟨b, off, ha, fun i hi => ⟨hx.cell (hc i hi).1 hb, hx.cell (hc i hi).2.1 hb, hx.cell (hc i hi).2.2.1 hb, hx.cell (hc i hi).2.2.2 hb⟩⟩
theorem LRow.later {w w' : World} {a : Option Addr} {n c : Nat} {L : List Ln} (h : LRow w a n c L) (hb : Below w.heap.size w w') : LRow w' a n c L :=
  h.exc (S := fun _ => False) (Exc.of_below hb) (fun _ _ h => h)
/-- A plan's value from its parts. -/
def planV (a : Option Addr) (n c : Nat) (a' : Option Addr) (n' c' : Nat) (p : Pn) : Value := .agg #[.slice a n c, .slice a' n' c', .int .i64 p.rate, .int .i64 p.room, .int .i64 p.m0, .int .i64 p.m1, .int .i64 p.m2]
end Go.Proofs.Ytppbcehcaeeocaa
