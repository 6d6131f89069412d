/- Contracts for UnitsBack. -/
import Derived.Test.YtnecdmihnndebaaDoorUnUOf
import Derived.Test.YtnecdmihnndebaaDoorUnDecode
import Derived.Test.YtnecdmihnndebaaDoorUnEnc
import Derived.Test.YtnecdmihnndebaaDoorUnSame
import Derived.Test.YtnecdmihnndebaaDoorFrN
import Derived.Test.YtnecdmihnndebaaDoorSumsAll
namespace Go.Proofs.YtnecdmihnndebaaDoor
open Go.RowKit

theorem low_back {x : Int} {b : Bool} (h0 : 0 ≤ x) (h1 : x ≤ 127) : low x b % 128 = x ∧ decide (128 ≤ low x b) = b := by
  cases b
  · refine ⟨by unfold low; simp; omega, ?_⟩
    simp [low]; omega
  · refine ⟨by unfold low; simp; omega, ?_⟩
    simp [low]; omega
theorem cont_back {p0 p1 K T : Int} {L : List Int} {m : Nat} (hE : chk p0 p1 K T m = 0) (hm : L.length = m) (hK : 0 ≤ K) :
    kindL (contL K T L) = K ∧ statL (contL K T L) = T ∧ loadL (contL K T L) = L := by
  obtain ⟨_, _, g4, _, g5, g6, g7⟩ := chk_ok.1 hE
  rcases (by omega : K = 0 ∨ K = 1 ∨ K = 2) with rfl | rfl | rfl
  · have hz := g7 (by omega)
    rw [hz] at hm
    have := List.eq_nil_of_length_eq_zero hm
    subst this
    refine ⟨rfl, ?_, rfl⟩
    rcases g5 with h | h
    · rw [h]; rfl
    · omega
  · have hz := g7 (by omega)
    rw [hz] at hm
    have := List.eq_nil_of_length_eq_zero hm
    subst this
    exact ⟨rfl, rfl, rfl⟩
  · have h2 := (g6 rfl).1
    have e : contL 2 T L = L := by unfold contL; rw [if_neg (by omega)]
    rw [e]
    refine ⟨?_, ?_, ?_⟩
    · unfold kindL; rw [if_neg (by omega), if_neg (by omega)]
    · unfold statL; rw [if_neg (by omega)]; omega
    · unfold loadL; rw [if_pos (by omega)]
theorem cont_len {p0 p1 K T : Int} {L : List Int} {m : Nat} (hE : chk p0 p1 K T m = 0) (hm : L.length = m) : (contL K T L).length ≤ 273 := by
  obtain ⟨_, _, g4, _, g5, g6, g7⟩ := chk_ok.1 hE
  unfold contL
  split
  · simp
  · by_cases h : K = 2
    · have := (g6 h).2; omega
    · have := g7 h; omega
theorem enc_octs {p0 p1 K T : Int} {B0 B1 : Bool} {L : List Int} {m : Nat} (h0 : 0 ≤ p0) (h1 : 0 ≤ p1) (hT : 0 ≤ T) (hE : chk p0 p1 K T m = 0) (ho : ∀ x ∈ L, 0 ≤ x ∧ x ≤ 255) : ∀ x ∈ encL p0 B0 p1 B1 K T L, 0 ≤ x ∧ x ≤ 255 := by
  obtain ⟨g0, g1, _, g3, _⟩ := chk_ok.1 hE
  intro x hx
  simp only [encL, restL, List.mem_cons] at hx
  rcases hx with rfl | rfl | rfl | hx
  · exact low_oct h0 g0
  · exact low_oct h1 g1
  · omega
  · exact contL_octs ⟨hT, by omega⟩ ho x hx
theorem decode_enc (p0 p1 K T : Int) (B0 B1 : Bool) (L E : List Int) (m q : Nat) (a : Option Addr) (c : Nat) (w : World) (h0 : 0 ≤ p0) (h1 : 0 ≤ p1) (hK : 0 ≤ K) (hE : chk p0 p1 K T m = 0) (hm : L.length = m)
    (eE : E = encL p0 B0 p1 B1 K T L) (eq : 3 + (contL K T L).length = q) (h : Row .u8 w a q c E) :
    Calls Tryd.prog 25 #[.slice a q c] w fun e w' => (∃ s, e = .returned (.tuple #[.agg #[.int .u8 p0, .bool B0, .int .u8 p1, .bool B1, .int .u8 K, .int .u8 T, .slice s m m], .int .i64 0]) ∧ LoadAt w' w.heap.size s L) ∧ Below w.heap.size w w' := by
  obtain ⟨g0, g1, _, g3, _⟩ := chk_ok.1 hE
  obtain ⟨e4, e5, e6⟩ := cont_back (T := T) hE hm hK
  have hl := cont_len hE hm (T := T)
  have ed : E.drop 3 = contL K T L := by rw [eE]; rfl
  have e0 : E.getD 0 0 = low p0 B0 := by rw [eE]; rfl
  have e1 : E.getD 1 0 = low p1 B1 := by rw [eE]; rfl
  have e2 : E.getD 2 0 = ((min (contL K T L).length 63 : Nat) : Int) := by rw [eE]; rfl
  have hd := decode_ok a q c m E w h (by omega) (by omega) (by rw [e2, ← eq, Nat.add_sub_cancel_left]) (by rw [ed, e5]; exact g3) (by rw [ed, e6]; exact hm)
  rw [ed, e4, e5, e6, e0, e1, (low_back h0 g0).1, (low_back h0 g0).2, (low_back h1 g1).1, (low_back h1 g1).2] at hd
  exact hd
theorem feed_oneC {F : List Int} (h : okC F) : feed Sc.zero (joinL [F]) = (⟨true, 0, [], 0⟩, [F]) := feed_joinL [F] (fun b hb => by simp at hb; subst hb; exact h)
theorem joinL_err {F : List Int} (h : okC F) : errOf (joinL [F]) = 0 ∧ (joinL [F]).length ≤ 3000 ∧ 0 < (joinL [F]).length := by
  have hj := joinL_length [F] 1 280 (fun b hb => by simp at hb; subst hb; exact h.2.1) (by simp)
  refine ⟨errOf_ok (by omega) (bin_joinL _).isBits, by omega, ?_⟩
  unfold joinL flagL
  simp
theorem okC_addL {l : List Int} (h : ∀ x ∈ l, 0 ≤ x ∧ x ≤ 255) (h1 : 3 ≤ l.length) (h2 : l.length ≤ 276) : okC (addL l) := by
  refine ⟨?_, ?_, addL_octs h⟩
  · rw [addL_length]; omega
  · rw [addL_length]; omega
theorem okC_len {b : List Int} (h : okC b) : lenOk b := ⟨h.1, h.2.1⟩
theorem u_cells {w : World} {b t : Nat} {x0 x1 x2 x3 x4 x5 : Value} (h : Own w b t [x0, x1, x2, x3, x4, x5]) :
    w.cell? ⟨b, 0, none⟩ = some x0 ∧ w.cell? ⟨b, 1, none⟩ = some x1 ∧ w.cell? ⟨b, 2, none⟩ = some x2 ∧ w.cell? ⟨b, 3, none⟩ = some x3 ∧ w.cell? ⟨b, 4, none⟩ = some x4 ∧ w.cell? ⟨b, 5, none⟩ = some x5 :=
  ⟨h.cell 0 (by simp), h.cell 1 (by simp), h.cell 2 (by simp), h.cell 3 (by simp), h.cell 4 (by simp), h.cell 5 (by simp)⟩
theorem sameU_refl (p0 p1 K T : Int) (B0 B1 : Bool) (L : List Int) : decide (sameU p0 B0 p1 B1 K T L p0 B0 p1 B1 K T L) = true := decide_eq_true ⟨rfl, rfl, rfl, rfl, rfl, rfl, rfl⟩
end Go.Proofs.YtnecdmihnndebaaDoor
