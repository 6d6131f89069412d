/- The cells of lines; a row of lines that a call owns. -/
import Derived.Test.YtppbcehcaeeocaaPlAt
import Derived.Test.YtppbcehcaeeocaaAggRow
namespace Go.Proofs.Ytppbcehcaeeocaa
open Go.RowKit

def encLn (l : Ln) : List Value := [.int .u16 l.A, .int .u16 l.B, .int .u8 l.C, .int .i64 l.D]
def cellsL (L : List Ln) : List Value := L.flatMap encLn
theorem cellsL_getD (L : List Ln) {i : Nat} (hi : i < L.length) : (cellsL L).getD (i * 4) undef = .int .u16 (lnAt L i).A ∧ (cellsL L).getD (i * 4 + 1) undef = .int .u16 (lnAt L i).B ∧ (cellsL L).getD (i * 4 + 2) undef = .int .u8 (lnAt L i).C ∧ (cellsL L).getD (i * 4 + 3) undef = .int .i64 (lnAt L i).D := by
  induction L generalizing i with
  | nil => cases hi
  | cons x L ih =>
    cases i with
    | zero => simp [cellsL, encLn, lnAt]
    | succ i =>
      have h := ih (i := i) (by simpa using hi)
      have e : cellsL (x :: L) = .int .u16 x.A :: .int .u16 x.B :: .int .u8 x.C :: .int .i64 x.D :: cellsL L := rfl
      rw [e, show (i + 1) * 4 = i * 4 + 1 + 1 + 1 + 1 by omega]
      simp only [List.getD_cons_succ]
      have e2 : lnAt (x :: L) (i + 1) = lnAt L i := by simp [lnAt]
      rw [e2]
      exact h
theorem cellsL_length (L : List Ln) : (cellsL L).length = L.length * 4 := by
  induction L with
  | nil => rfl
  | cons x L ih => simp only [cellsL, List.flatMap_cons, List.length_append, encLn, List.length_cons, List.length_nil] at *; omega
theorem infoLn : (Try.prog.info? 99).map (fun i => (i.zero, i.size, i.bytes)) = some (some (.agg #[.int .u16 0, .int .u16 0, .int .u8 0, .int .i64 0]), 4, 16) := by kernel_rfl
theorem lrow_of_owns {w : World} {B e n : Nat} {v : Value} {L : List Ln} (h : w.ownsRow B e 4 v n (cellsL L)) (hn : L.length = n) (hw : ∀ x ∈ L, (0 ≤ x.A ∧ x.A ≤ 65535) ∧ (0 ≤ x.B ∧ x.B ≤ 65535) ∧ (0 ≤ x.C ∧ x.C ≤ 255) ∧ (-9223372036854775808 ≤ x.D ∧ x.D ≤ 9223372036854775807)) : ∃ a c, v = .slice a n c ∧ LRow w a n c L ∧ ∀ z, a = some z → B ≤ z.block := by
  by_cases h0 : 0 < n
  · obtain ⟨b, c, rfl, h1, h2, hb, _, hc⟩ := ownsK_cells h h0
    refine ⟨_, c, rfl, ⟨hn, h1, h2, hw, .inr ⟨b, 0, rfl, fun i hi => ?_⟩, by simp⟩, fun z hz => by cases hz; exact hb⟩
    obtain ⟨q0, q1, q2, q3⟩ := cellsL_getD L (i := i) (by omega)
    simp only [Nat.zero_add]
    exact ⟨by rw [(hc _ (by omega)).1, q0], by rw [(hc _ (by omega)).1, q1], by rw [(hc _ (by omega)).1, q2], by rw [(hc _ (by omega)).1, q3]⟩
  · rcases h.2 with ⟨rfl, h9⟩ | ⟨g, cap, cur, rfl, hb, hg, hle, hc, hs, ht⟩
    · subst h9
      have hL : L = [] := List.eq_nil_of_length_eq_zero hn
      subst hL
      exact ⟨none, 0, rfl, LRow.of_nil _, fun z hz => by cases hz⟩
    · exact ⟨_, cap, rfl, ⟨hn, hle, hc, hw, .inl (by omega), by simp⟩, fun z hz => by cases hz; exact hb⟩
end Go.Proofs.Ytppbcehcaeeocaa
