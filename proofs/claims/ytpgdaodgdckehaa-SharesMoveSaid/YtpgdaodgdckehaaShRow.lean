/- Choices and links as rows; the statuses of choices, by the code and by the statements. -/
import Derived.Test.YtpgdaodgdckehaaBools
import Derived.Test.YtpgdaodgdckehaaShMath
namespace Go.Proofs.Ytpgdaodgdckehaa
open Go.RowKit

/-- A slice value reads in w as the choices R: next points and ranks. -/
structure CRow (w : World) (a : Option Addr) (n c : Nat) (R : List (Int × Int)) : Prop where
  len : R.length = n
  le : n ≤ c
  max : c ≤ maxLen
  cells : n = 0 ∨ ∃ b off, a = some ⟨b, off, none⟩ ∧ ∀ i, i < n → w.cell? ⟨b, off + i * 2, none⟩ = some (.int .u16 (R.getD i (0, 0)).1) ∧ w.cell? ⟨b, off + i * 2 + 1, none⟩ = some (.int .i64 (R.getD i (0, 0)).2)
theorem CRow.of_nil (w : World) : CRow w none 0 0 [] := ⟨rfl, Nat.le_refl _, Nat.zero_le _, .inl rfl⟩
theorem CRow.exc {S : Nat → Prop} {w w' : World} {a : Option Addr} {n c : Nat} {P : List (Int × Int)} (h : CRow w a n c P) (hx : Exc S w w') (hn : ∀ x, a = some x → ¬ S x.block) : CRow w' a n c P := by
  refine ⟨h.len, h.le, h.max, ?_⟩
  rcases h.cells with h0 | ⟨b, off, ha, hc⟩
  · exact .inl h0
  · have hb : ¬ S b := hn _ ha
    exact .inr ⟨b, off, ha, fun i hi => ⟨hx.cell (hc i hi).1 hb, hx.cell (hc i hi).2 hb⟩⟩
theorem CRow.later {w w' : World} {a : Option Addr} {n c : Nat} {P : List (Int × Int)} (h : CRow w a n c P) (hb : Below w.heap.size w w') : CRow w' a n c P :=
  h.exc (S := fun _ => False) (Exc.of_below hb) (fun _ _ h => h)
/-- A slice value reads in w as the links Z. -/
structure ZRow (w : World) (a : Option Addr) (n c : Nat) (Z : List (Int × Int × Int)) : Prop where
  len : Z.length = n
  le : n ≤ c
  max : c ≤ maxLen
  cells : n = 0 ∨ ∃ b off, a = some ⟨b, off, none⟩ ∧ ∀ i, i < n → w.cell? ⟨b, off + i * 3, none⟩ = some (.int .u16 (Z.getD i (0, 0, 0)).1) ∧ w.cell? ⟨b, off + i * 3 + 1, none⟩ = some (.int .u16 (Z.getD i (0, 0, 0)).2.1) ∧ w.cell? ⟨b, off + i * 3 + 2, none⟩ = some (.int .u8 (Z.getD i (0, 0, 0)).2.2)
theorem ZRow.of_nil (w : World) : ZRow w none 0 0 [] := ⟨rfl, Nat.le_refl _, Nat.zero_le _, .inl rfl⟩
theorem ZRow.exc {S : Nat → Prop} {w w' : World} {a : Option Addr} {n c : Nat} {P : List (Int × Int × Int)} (h : ZRow w a n c P) (hx : Exc S w w') (hn : ∀ x, a = some x → ¬ S x.block) : ZRow w' a n c P := by
  refine ⟨h.len, h.le, h.max, ?_⟩
  rcases h.cells with h0 | ⟨b, off, ha, hc⟩
  · exact .inl h0
  · have hb : ¬ S b := hn _ ha
    exact .inr ⟨b, off, ha, fun i hi => ⟨hx.cell (hc i hi).1 hb, hx.cell (hc i hi).2.1 hb, hx.cell (hc i hi).2.2 hb⟩⟩
theorem ZRow.later {w w' : World} {a : Option Addr} {n c : Nat} {P : List (Int × Int × Int)} (h : ZRow w a n c P) (hb : Below w.heap.size w w') : ZRow w' a n c P :=
  h.exc (S := fun _ => False) (Exc.of_below hb) (fun _ _ h => h)
/-- The ranks. -/
def rks (R : List (Int × Int)) : List Int := R.map Prod.snd
theorem rks_length (R : List (Int × Int)) : (rks R).length = R.length := by simp [rks]
theorem rks_getD (R : List (Int × Int)) (i : Nat) : (rks R).getD i 0 = (R.getD i (0, 0)).2 := by
  unfold rks
  simp only [List.getD_eq_getElem?_getD, List.getElem?_map]
  cases R[i]? <;> rfl
theorem stM_in {S : List Int} {i : Nat} (h : i < S.length) : stM S i = min (S.getD i 0) 2 := by unfold stM; split <;> omega
theorem stM_out {S : List Int} {i : Nat} (h : ¬ i < S.length) : stM S i = 2 := by unfold stM; rw [if_neg (fun hh => h hh.1)]
theorem statusAt_any (a : Option Addr) (n c : Nat) (S : List Int) (i : Nat) (w : World) (h : Row .u8 w a n c S) :
    Calls Try.prog 20 #[.slice a n c, .int .i64 (i : Int)] w fun e w' => e = .returned (.int .u8 (stM S i)) ∧ w = w' := by
  have hl := h.len
  by_cases hi : i < n
  · obtain ⟨b, off, rfl, hc⟩ := h.cells.resolve_left (by omega)
    have c0 := hc i hi
    obtain ⟨x, hx⟩ : ∃ x, x = S.getD i 0 := ⟨_, rfl⟩
    have e := stM_in (S := S) (i := i) (by omega)
    rw [e, ← hx]
    rw [← hx] at c0
    have hd : (i : Int) < (n : Int) := by omega
    clear e hx hc h
    go_enter Try.func20, Try.ntmps20
    go_wp2
    all_goals (go_ret; exact ⟨ret_int (by omega), rfl⟩)
  · have e := stM_out (S := S) (i := i) (by omega)
    rw [e]
    have hd : ¬ (i : Int) < (n : Int) := by omega
    clear e h
    go_enter Try.func20, Try.ntmps20
    go_wp2
    go_ret
    exact ⟨rfl, rfl⟩
theorem lstatus_any (a : Option Addr) (n c : Nat) (S : List Int) (i : Nat) (w : World) (h : Row .u8 w a n c S) :
    Calls Try.prog 22 #[.slice a n c, .int .i64 (i : Int)] w fun e w' => e = .returned (.int .u8 (stM S i)) ∧ w = w' := by
  have hl := h.len
  by_cases hi : i < n
  · obtain ⟨b, off, rfl, hc⟩ := h.cells.resolve_left (by omega)
    have c0 := hc i hi
    obtain ⟨x, hx⟩ : ∃ x, x = S.getD i 0 := ⟨_, rfl⟩
    have e := stM_in (S := S) (i := i) (by omega)
    rw [← hx] at e
    rw [← hx] at c0
    have hd : (i : Int) < (n : Int) := by omega
    by_cases h2 : x ≤ 2
    · have e2 : stM S i = x := by omega
      rw [e2]
      clear e e2 hx hc h
      go_enter Try.func22, Try.ntmps22
      go_wp2
      go_ret
      exact ⟨rfl, rfl⟩
    · have e2 : stM S i = 2 := by omega
      rw [e2]
      clear e e2 hx hc h
      go_enter Try.func22, Try.ntmps22
      go_wp2
      go_ret
      exact ⟨rfl, rfl⟩
  · have e := stM_out (S := S) (i := i) (by omega)
    rw [e]
    have hd : ¬ (i : Int) < (n : Int) := by omega
    clear e h
    go_enter Try.func22, Try.ntmps22
    go_wp2
    go_ret
    exact ⟨rfl, rfl⟩
/-- The status and the rank as the code finds them. -/
def bst (R S : List Int) : Nat → Int × Int
  | 0 => (2, 0)
  | k + 1 => if stM S k < (bst R S k).1 ∨ (stM S k = (bst R S k).1 ∧ R.getD k 0 < (bst R S k).2) then (stM S k, R.getD k 0) else bst R S k
theorem bst_fst (R S : List Int) : ∀ k, (bst R S k).1 = bestK S k
  | 0 => rfl
  | k + 1 => by
    have ih := bst_fst R S k
    show (if _ then _ else _ : Int × Int).1 = min (bestK S k) (stM S k)
    split
    · show stM S k = _; omega
    · rename_i hh
      rw [ih]
      have : ¬ stM S k < (bst R S k).1 := fun h => hh (.inl h)
      omega
theorem bst_ok (R S : List Int) : ∀ k, (bst R S k).1 = 2 ∨ ∃ f, f < k ∧ stM S f = (bst R S k).1 ∧ R.getD f 0 = (bst R S k).2 ∧ ∀ i, i < k → stM S i = (bst R S k).1 → (bst R S k).2 ≤ R.getD i 0
  | 0 => .inl rfl
  | k + 1 => by
    have ih := bst_ok R S k
    have hlow := bestK_low S k
    rw [← bst_fst R S k] at hlow
    have h2 := stM_le S k
    unfold bst
    split
    · rename_i hh
      by_cases h8 : stM S k = 2
      · exact .inl h8
      refine .inr ⟨k, by omega, rfl, rfl, fun i hi he => ?_⟩
      by_cases ei : i = k
      · subst ei; exact Int.le_refl _
      · have h3 := hlow i (by omega)
        have he' : stM S i = stM S k := he
        rcases hh with hh | ⟨h4, h5⟩
        · omega
        · rcases ih with ih | ⟨f, _, _, _, h6⟩
          · omega
          · have := h6 i (by omega) (by omega)
            show R.getD k 0 ≤ _
            omega
    · rename_i hh
      rcases ih with ih | ⟨f, h3, h4, h5, h6⟩
      · exact .inl ih
      · refine .inr ⟨f, by omega, h4, h5, fun i hi he => ?_⟩
        by_cases ei : i = k
        · subst ei
          have : ¬ (stM S i = (bst R S i).1 ∧ R.getD i 0 < (bst R S i).2) := fun h => hh (.inr h)
          by_cases h7 : R.getD i 0 < (bst R S i).2
          · exact absurd ⟨he, h7⟩ this
          · omega
        · exact h6 i (by omega) he
end Go.Proofs.Ytpgdaodgdckehaa
