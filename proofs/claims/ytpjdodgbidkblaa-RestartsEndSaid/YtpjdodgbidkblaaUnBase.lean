/- What the walks of units share: single octets, blocks laid by a literal, loads of a call's own. -/
import Derived.Test.YtpjdodgbidkblaaBaseEx
import Derived.OwnWalk
namespace Go.Proofs.Ytpjdodgbidkblaa
open Go.RowKit

theorem Own.exc {S : Nat → Prop} {w w' : World} {b t : Nat} {cs : List Value} (h : Own w b t cs) (hx : Exc S w w') (hn : ¬ S b) : Own w' b t cs := by
  unfold Own
  rw [hx.block b h.lt hn]
  exact h
theorem or_mark {x : Int} (h0 : 0 ≤ x) (h1 : x ≤ 127) : bits BinOp.or IntKind.u8 x 128 = x + 128 := by
  have : ∀ i : Fin 128, bits BinOp.or IntKind.u8 (i.val : Int) 128 = (i.val : Int) + 128 := by decide +kernel
  have h := this ⟨x.toNat, by omega⟩
  have e : ((x.toNat : Nat) : Int) = x := by omega
  simp only [e] at h
  exact h
theorem andNot_mark {x : Int} (h0 : 0 ≤ x) (h1 : x ≤ 255) : bits BinOp.andNot IntKind.u8 x 128 = x % 128 := by
  have : ∀ i : Fin 256, bits BinOp.andNot IntKind.u8 (i.val : Int) 128 = (i.val : Int) % 128 := by decide +kernel
  have h := this ⟨x.toNat, by omega⟩
  have e : ((x.toNat : Nat) : Int) = x := by omega
  simp only [e] at h
  exact h
theorem and_mark {x : Int} (h0 : 0 ≤ x) (h1 : x ≤ 255) : bits BinOp.and IntKind.u8 x 128 = if 128 ≤ x then 128 else 0 := by
  have : ∀ i : Fin 256, bits BinOp.and IntKind.u8 (i.val : Int) 128 = if 128 ≤ (i.val : Int) then 128 else 0 := by decide +kernel
  have h := this ⟨x.toNat, by omega⟩
  have e : ((x.toNat : Nat) : Int) = x := by omega
  simp only [e] at h
  exact h
theorem and_last {x : Int} (h0 : 0 ≤ x) (h1 : x ≤ 255) : bits BinOp.and IntKind.u8 x 127 = x % 128 := by
  have : ∀ i : Fin 256, bits BinOp.and IntKind.u8 (i.val : Int) 127 = (i.val : Int) % 128 := by decide +kernel
  have h := this ⟨x.toNat, by omega⟩
  have e : ((x.toNat : Nat) : Int) = x := by omega
  simp only [e] at h
  exact h
theorem and_nib {x : Int} (h0 : 0 ≤ x) (h1 : x ≤ 255) : bits BinOp.and IntKind.u8 x 15 = x % 16 := by
  have : ∀ i : Fin 256, bits BinOp.and IntKind.u8 (i.val : Int) 15 = (i.val : Int) % 16 := by decide +kernel
  have h := this ⟨x.toNat, by omega⟩
  have e : ((x.toNat : Nat) : Int) = x := by omega
  simp only [e] at h
  exact h
theorem own_lit (w : World) (t : Nat) (cs : Array Value) (l : List Value) (h : cs = l.toArray) : Own (w.alloc (.cells cs t)) w.heap.size t l := by subst h; exact heap_alloc_new w _
/-- A load of the call's own, or none. -/
def LoadAt (w : World) (B : Nat) (s : Option Addr) (l : List Int) : Prop := (s = none ∧ l = []) ∨ ∃ g, s = some ⟨g, 0, none⟩ ∧ B ≤ g ∧ Own w g 5 (nums .u8 l)
theorem LoadAt.later {w w' : World} {B : Nat} {s : Option Addr} {l : List Int} (h : LoadAt w B s l) (hb : Below w.heap.size w w') : LoadAt w' B s l := by
  rcases h with h | ⟨g, h1, h2, h3⟩
  · exact .inl h
  · exact .inr ⟨g, h1, h2, h3.below hb h3.lt⟩
theorem LoadAt.row {w : World} {B : Nat} {s : Option Addr} {l : List Int} (h : LoadAt w B s l) (hl : l.length ≤ 1000) (ho : ∀ x ∈ l, 0 ≤ x ∧ x ≤ 255) : Row .u8 w s l.length l.length l := by
  rcases h with ⟨rfl, rfl⟩ | ⟨g, rfl, _, h3⟩
  · exact Row.of_nil _ _
  · exact h3.row0 _ _ rfl (Nat.le_refl _) (by unfold maxLen; omega) (fun x hx => wf_u8.2 (ho x hx))
/-- A string of the bytes l. -/
def bs (l : List UInt8) : ByteArray := ⟨l.toArray⟩
theorem unit_cells {w : World} {b t : Nat} {v0 v1 v2 v3 v4 v5 v6 : Value} (h : Own w b t [v0, v1, v2, v3, v4, v5, v6]) :
    w.cell? ⟨b, 0, none⟩ = some v0 ∧ w.cell? ⟨b, 1, none⟩ = some v1 ∧ w.cell? ⟨b, 2, none⟩ = some v2 ∧ w.cell? ⟨b, 3, none⟩ = some v3 ∧ w.cell? ⟨b, 4, none⟩ = some v4 ∧ w.cell? ⟨b, 5, none⟩ = some v5 ∧ w.cell? ⟨b, 6, none⟩ = some v6 :=
  ⟨h.cell 0 (by simp), h.cell 1 (by simp), h.cell 2 (by simp), h.cell 3 (by simp), h.cell 4 (by simp), h.cell 5 (by simp), h.cell 6 (by simp)⟩
theorem unit_frozen {w : World} {b t : Nat} {cs : List Value} (h : Own w b t cs) :
    w.frozen? ⟨b, 0, none⟩ = false ∧ w.frozen? ⟨b, 1, none⟩ = false ∧ w.frozen? ⟨b, 2, none⟩ = false ∧ w.frozen? ⟨b, 3, none⟩ = false ∧ w.frozen? ⟨b, 4, none⟩ = false ∧ w.frozen? ⟨b, 5, none⟩ = false ∧ w.frozen? ⟨b, 6, none⟩ = false :=
  ⟨h.frozen 0, h.frozen 1, h.frozen 2, h.frozen 3, h.frozen 4, h.frozen 5, h.frozen 6⟩
end Go.Proofs.Ytpjdodgbidkblaa
