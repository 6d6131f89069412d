/- Statements of layer 9: an act of both, the alignment and the model. -/
import Derived.Test.YtgfiikbecapodaaAlSc
import Derived.Test.YtgfiikbecapodaaAlActA
import Derived.Deep.RegionHeld3
namespace Go.Proofs.Ytgfiikbecapodaa
open Go.RowKit

theorem mact_sc {w0 w : World} {b m : Nat} {x y : Al} (h : Sc w0 w b m x y) (a : Nat) (hf : y.Fit) (hp : y.prov ≤ 1000000) (ha : a ≤ 4 ∨ 8 ≤ a) (ha2 : a ≤ 255) :
    Calls Try.prog 13 #[.pointer (some ⟨m, 0, none⟩), .int .u8 (a : Int)] w fun e w' => e = .returned (.int .i64 (y.err a : Int)) ∧ Sc w0 w' b m x (y.act a) := by
  obtain ⟨g, h1, h2, h3, h4, h5, h6, h7, h8⟩ := h
  refine (mact_any m a y w h2 hf hp ha ha2).mono ?_
  rintro e w' ⟨rfl, n1, n2⟩
  exact ⟨rfl, g, h1.exc n2 (fun e => h6 e.symm) (fun e => h7 e.symm), n1, h3, h4, h5, h6, h7, h8.trans (n2.below h8.size (fun i _ h => by omega))⟩
theorem msends_sc {w0 w : World} {b m : Nat} {x y : Al} (h : Sc w0 w b m x y) (h5 : y.ph ≤ 5) :
    Calls Try.prog 18 #[.pointer (some ⟨m, 0, none⟩)] w fun e w' => e = .returned (.int .u8 (y.stat : Int)) ∧ w' = w := msends_any m y w h.md h5
/-- The condition on the world may become narrower on the way. -/
theorem wpAnyH_weak {P : Program} {md : Region.Mode} {ops : Array Oper} {Q : Exit → Act → World → Prop} {S1 S2 : World → Prop} (hS : ∀ w, S2 w → S1 w) :
    ∀ (fuel : Nat) (listed : Array Bool) (a : Act) (w : World), wpAnyH P md ops Q S2 fuel listed a w → wpAnyH P md ops Q S1 fuel listed a w
  | 0, _, _, _, h => h
  | fuel + 1, _, _, _, h => ⟨h.1, fun i hi => wpOp_mono (fun a' w' h' => ⟨hS _ h'.1, wpAnyH_weak hS fuel _ a' w' h'.2⟩) (h.2 i hi)⟩
end Go.Proofs.Ytgfiikbecapodaa
