/- Statements of layer 9: an alignment beside the model. -/
import Derived.Test.YtgfiikbecapodaaAlModel
namespace Go.Proofs.Ytgfiikbecapodaa
open Go.RowKit

set_option maxHeartbeats 1000000 in
set_option maxRecDepth 100000 in
theorem perform_any (b g : Nat) (x : Al) (w : World) (h : AlAt w b g x) (a : Nat) (hp : x.prov ≤ 1000000) (ha : a ≤ 255) :
    Calls Try.prog 12 #[.pointer (some ⟨b, 0, none⟩), .int .u8 (a : Int)] w fun e w' => e = .returned (.int .i64 (x.err a : Int)) ∧ Next w b g (x.act a) w' := by
  by_cases h8 : a < 8
  · have hcases : a = 0 ∨ a = 1 ∨ a = 2 ∨ a = 3 ∨ a = 4 ∨ a = 5 ∨ a = 6 ∨ a = 7 := by omega
    clear h8 ha
    rcases hcases with rfl | rfl | rfl | rfl | rfl | rfl | rfl | rfl
    · have hc := start_any b g x false w h
      rw [show (if x.ph = 0 ∨ x.ph = 5 then 0 else 6) = x.err 0 from (if_pos (by decide)).symm] at hc
      obtain ⟨E, hE⟩ : ∃ E, E = x.err 0 := ⟨_, rfl⟩
      rw [← hE] at hc ⊢
      clear hE
      have HC := Lib.hid hc
      clear h hp hc
      go_enter Try.func12, Try.ntmps12
      go_wp2_with fail
      with_reducible refine HC.out.mono ?_
      rintro e w' ⟨rfl, h⟩
      have H := Lib.hid h
      clear HC h
      go_wp2
      go_ret
      exact ⟨rfl, H.out⟩
    · have hc := start_any b g x true w h
      rw [show (if x.ph = 0 ∨ x.ph = 5 then 0 else 6) = x.err 1 from (if_pos (by decide)).symm] at hc
      obtain ⟨E, hE⟩ : ∃ E, E = x.err 1 := ⟨_, rfl⟩
      rw [← hE] at hc ⊢
      clear hE
      have HC := Lib.hid hc
      clear h hp hc
      go_enter Try.func12, Try.ntmps12
      go_wp2_with fail
      with_reducible refine HC.out.mono ?_
      rintro e w' ⟨rfl, h⟩
      have H := Lib.hid h
      clear HC h
      go_wp2
      go_ret
      exact ⟨rfl, H.out⟩
    · have hc := stop_any b g x w h
      have HC := Lib.hid hc
      clear h hp hc
      go_enter Try.func12, Try.ntmps12
      go_wp2_with fail
      with_reducible refine HC.out.mono ?_
      rintro e w' ⟨rfl, h⟩
      have H := Lib.hid h
      clear HC h
      go_wp2
      go_ret
      exact ⟨rfl, H.out⟩
    · have hc := wrong_any b g x w h hp
      have HC := Lib.hid hc
      clear h hp hc
      go_enter Try.func12, Try.ntmps12
      go_wp2_with fail
      with_reducible refine HC.out.mono ?_
      rintro e w' ⟨rfl, h⟩
      have H := Lib.hid h
      clear HC h
      go_wp2
      go_ret
      exact ⟨rfl, H.out⟩
    · have hc := tick_any b g x w h
      have HC := Lib.hid hc
      clear h hp hc
      go_enter Try.func12, Try.ntmps12
      go_wp2_with fail
      with_reducible refine HC.out.mono ?_
      rintro e w' ⟨rfl, h⟩
      have H := Lib.hid h
      clear HC h
      go_wp2
      go_ret
      exact ⟨rfl, H.out⟩
    · have hc := tick_any b g x w h
      have HC := Lib.hid hc
      clear h hp hc
      go_enter Try.func12, Try.ntmps12
      go_wp2_with fail
      with_reducible refine HC.out.mono ?_
      rintro e w' ⟨rfl, h⟩
      have H := Lib.hid h
      clear HC h
      go_wp2
      go_ret
      exact ⟨rfl, H.out⟩
    · have hc := tick_any b g x w h
      have HC := Lib.hid hc
      clear h hp hc
      go_enter Try.func12, Try.ntmps12
      go_wp2_with fail
      with_reducible refine HC.out.mono ?_
      rintro e w' ⟨rfl, h⟩
      have H := Lib.hid h
      clear HC h
      go_wp2
      go_ret
      exact ⟨rfl, H.out⟩
    · have hc := tick_any b g x w h
      have HC := Lib.hid hc
      clear h hp hc
      go_enter Try.func12, Try.ntmps12
      go_wp2_with fail
      with_reducible refine HC.out.mono ?_
      rintro e w' ⟨rfl, h⟩
      have H := Lib.hid h
      clear HC h
      go_wp2
      go_ret
      exact ⟨rfl, H.out⟩
  · have hc := hear_any b g (a - 8) x w h hp (by omega)
    have e1 : x.err a = if 5 < a - 8 then 1 else 0 := by unfold Al.err; rw [if_neg (by omega), if_neg h8]
    have e2 : x.act a = if 5 < a - 8 then x else x.hear (a - 8) := by unfold Al.act; rw [if_neg (by omega), if_neg (by omega), if_neg (by omega), if_neg h8]
    rw [e1, e2]
    obtain ⟨s, hs⟩ : ∃ s, s = a - 8 := ⟨_, rfl⟩
    rw [← hs] at hc ⊢
    obtain ⟨E, hE⟩ : ∃ E, E = if 5 < s then 1 else 0 := ⟨_, rfl⟩
    obtain ⟨X, hX⟩ : ∃ X, X = if 5 < s then x else x.hear s := ⟨_, rfl⟩
    rw [← hE, ← hX] at hc ⊢
    clear hE hX e1 e2
    have hw : IntKind.u8.wrap ((a : Int) - 8) = (s : Int) := by rw [IntWalk.u8_in _ (by omega)]; omega
    obtain ⟨A, hA⟩ : ∃ A : Int, A = (a : Int) := ⟨_, rfl⟩
    rw [← hA] at hw ⊢
    have q2 : ¬ A < 2 := by omega
    have q3 : ¬ A = 2 := by omega
    have q4 : ¬ A = 3 := by omega
    have q5 : ¬ A < 8 := by omega
    have r3 : (A == 2) = false := by simp; omega
    have r4 : (A == 3) = false := by simp; omega
    have HC := Lib.hid hc
    clear hc h hp ha h8 hs hA
    go_enter Try.func12, Try.ntmps12
    go_wp2_with fail
    with_reducible refine HC.out.mono ?_
    rintro e w' ⟨rfl, h⟩
    have H := Lib.hid h
    clear HC h
    go_wp2
    go_ret
    exact ⟨rfl, H.out⟩
/-- At b the alignment x, at m the model y, all behind what was there in w0. -/
def Sc (w0 w : World) (b m : Nat) (x y : Al) : Prop := ∃ g, AlAt w b g x ∧ Md w m y ∧ w0.heap.size ≤ b ∧ w0.heap.size ≤ g ∧ w0.heap.size ≤ m ∧ m ≠ b ∧ m ≠ g ∧ Below w0.heap.size w0 w
theorem Sc.one {w0 w : World} {b m : Nat} {x y : Al} (h : Sc w0 w b m x y) : One w0 w b x := by
  obtain ⟨g, h1, h2, h3, h4, h5, h6, h7, h8⟩ := h
  exact ⟨g, h1, h3, h4, h8⟩
theorem Sc.md {w0 w : World} {b m : Nat} {x y : Al} (h : Sc w0 w b m x y) : Md w m y := by
  obtain ⟨g, h1, h2, h3, h4, h5, h6, h7, h8⟩ := h
  exact h2
theorem Sc.drew {w0 w : World} {b m : Nat} {x y : Al} (h : Sc w0 w b m x y) (q : Nat) : Sc w0 (w.drewN q) b m x y := by
  obtain ⟨g, h1, h2, h3, h4, h5, h6, h7, h8⟩ := h
  exact ⟨g, h1.below (below_draw w q), Own.drewK h2 q, h3, h4, h5, h6, h7, h8.trans (Below.mono (below_draw w q) h8.size)⟩
theorem Sc.new {w0 w : World} {b m : Nat} {x : Al} (h : One w0 w b x) (h3 : x.ph ≠ 3) (hm : Md w m x) (hl : w0.heap.size ≤ m) (hb : m ≠ b) : Sc w0 w b m x x := by
  obtain ⟨g, h1, h2, h4, h8⟩ := h
  obtain ⟨v, ho, hv⟩ := h1.own
  exact ⟨b, ⟨⟨v, ho, fun e => absurd e h3⟩, fun e => absurd e h3, h1.fit⟩, hm, h2, h2, hl, hb, hb, h8⟩
theorem perform_sc {w0 w : World} {b m : Nat} {x y : Al} (h : Sc w0 w b m x y) (a : Nat) (hp : x.prov ≤ 1000000) (ha : a ≤ 255) :
    Calls Try.prog 12 #[.pointer (some ⟨b, 0, none⟩), .int .u8 (a : Int)] w fun e w' => e = .returned (.int .i64 (x.err a : Int)) ∧ Sc w0 w' b m (x.act a) y := by
  obtain ⟨g, h1, h2, h3, h4, h5, h6, h7, h8⟩ := h
  refine (perform_any b g x w h1 a hp ha).mono ?_
  rintro e w' ⟨rfl, g', n1, n2, n3⟩
  have hml := Own.lt h2
  have hsz := h8.size
  refine ⟨rfl, g', n1, h2.exc n2 (fun e => e.elim h6 h7), h3, by omega, h5, h6, by omega, h8.trans (n2.below hsz (fun i _ h => by omega))⟩
end Go.Proofs.Ytgfiikbecapodaa
