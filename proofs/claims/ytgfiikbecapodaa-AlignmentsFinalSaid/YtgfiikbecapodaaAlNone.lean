/- Alignments: isNone. -/
import Derived.Test.YtgfiikbecapodaaAlAt
namespace Go.Proofs.Ytgfiikbecapodaa
open Go.RowKit

set_option maxHeartbeats 1000000 in
set_option maxRecDepth 100000 in
theorem isNone_raw (b : Nat) (x : Al) (v : Value) (w : World) (h : Raw w b x v) (hf : x.Fit) :
    Calls Try.prog 32 #[.pointer (some ⟨b, 0, none⟩)] w fun e w' => e = .returned (.bool false) ∧ w' = w := by
  have c0 := h.c0
  have c1 := h.c1
  have c2 := h.c2
  have c3 := h.c3
  have c4 := h.c4
  have c5 := h.c5
  have c6 := h.c6
  have hs := hf.t.s0
  obtain ⟨s, hs1⟩ : ∃ s : Int, s = (x.t.seek : Int) := ⟨_, rfl⟩
  have hs2 : (s == 0) = false := by simp; omega
  rw [← hs1] at c0
  clear h hs hs1 hf
  go_enter Try.func32, Try.ntmps32
  go_wp2
  go_ret
  exact ⟨rfl, rfl⟩
theorem isNone_any (b g : Nat) (x : Al) (w : World) (h : AlAt w b g x) :
    Calls Try.prog 32 #[.pointer (some ⟨b, 0, none⟩)] w fun e w' => e = .returned (.bool false) ∧ w' = w := by
  obtain ⟨v, ho, _⟩ := h.own
  exact isNone_raw b x v w ho h.fit
end Go.Proofs.Ytgfiikbecapodaa
