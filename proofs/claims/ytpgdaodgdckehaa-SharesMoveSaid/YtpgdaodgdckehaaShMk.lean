/- Slices that the statements make: links, choices, statuses, bools, counters. -/
import Derived.Test.YtpgdaodgdckehaaShNx
import Derived.Test.YtpgdaodgdckehaaShLives
namespace Go.Proofs.Ytpgdaodgdckehaa
open Go.RowKit

theorem infoLk : (Try.prog.info? 43).map (fun i => (i.zero, i.size, i.bytes)) = some (some (.agg #[.int .u16 0, .int .u16 0, .int .u8 0]), 3, 6) := by kernel_rfl
theorem make_links (n : Nat) (hn : n ≤ 1000) (w : World) :
    (Instr.makeSlice 29 (.int .i64 (n : Int)) (.int .i64 (n : Int))).run Try.prog w = .ok (.slice (some ⟨w.heap.size, 0, none⟩) n n) (w.alloc (.cells (madeCells #[.int .u16 0, .int .u16 0, .int .u8 0] (n * 3)) 43)) := by
  obtain ⟨i, hi, hz0, hz1, hz2⟩ := info_parts infoLk
  have h := run_make (P := Try.prog) w 29 43 i _ Try.underlying29 hi hz0 .i64 .i64 n n (by omega) (by omega) (by rw [hz2]; omega) (by omega)
  rw [hz1] at h
  simpa [Value.cells] using h
/-- Links of the call's own: block b holds n of them. -/
def LinksIn (w : World) (b n : Nat) : Prop := ∃ cs : List Value, Own w b 43 cs ∧ cs.length = n * 3 ∧ ∀ i, i < n → cs.getD (i * 3) undef = .int .u16 0 ∧ cs.getD (i * 3 + 1) undef = .int .u16 0 ∧ ∃ x, cs.getD (i * 3 + 2) undef = .int .u8 x
theorem linksIn_made (n : Nat) (w : World) : LinksIn (w.alloc (.cells (madeCells #[.int .u16 0, .int .u16 0, .int .u8 0] (n * 3)) 43)) w.heap.size n := by
  refine ⟨_, lit_own w _ _ _ rfl, by simp [madeCells], fun i hi => ?_⟩
  have h0 : i * 3 < n * 3 := by omega
  have h1 : i * 3 + 1 < n * 3 := by omega
  have h2 : i * 3 + 2 < n * 3 := by omega
  have e0 : i * 3 % 3 = 0 := by omega
  have e1 : (i * 3 + 1) % 3 = 1 := by omega
  have e2 : (i * 3 + 2) % 3 = 2 := by omega
  refine ⟨?_, ?_, 0, ?_⟩
  · simp [madeCells, List.getD_eq_getElem?_getD, h0]
  · simp [madeCells, List.getD_eq_getElem?_getD, h1, e1]
  · simp [madeCells, List.getD_eq_getElem?_getD, h2, e2]
theorem LinksIn.below {w w' : World} {b n : Nat} (h : LinksIn w b n) (hb : Below w.heap.size w w') : LinksIn w' b n := by
  obtain ⟨cs, ho, h1, h2⟩ := h
  exact ⟨cs, ho.below hb ho.lt, h1, h2⟩
theorem LinksIn.exc {S : Nat → Prop} {w w' : World} {b n : Nat} (h : LinksIn w b n) (hx : Exc S w w') (hS : ¬ S b) : LinksIn w' b n := by
  obtain ⟨cs, ho, h1, h2⟩ := h
  exact ⟨cs, by unfold Own; rw [hx.block b ho.lt hS]; exact ho, h1, h2⟩
theorem LinksIn.lt {w : World} {b n : Nat} (h : LinksIn w b n) : b < w.heap.size := by obtain ⟨cs, ho, _⟩ := h; exact ho.lt
theorem LinksIn.code {w : World} {b n i : Nat} (h : LinksIn w b n) (hi : i < n) : (∃ x, w.cell? ⟨b, i * 3 + 2, none⟩ = some (.int .u8 x)) ∧ w.frozen? ⟨b, i * 3 + 2, none⟩ = false := by
  obtain ⟨cs, ho, h1, h2⟩ := h
  obtain ⟨_, _, x, hx⟩ := h2 i hi
  exact ⟨⟨x, by rw [ho.cell (i * 3 + 2) (by omega), hx]⟩, ho.frozen _⟩
theorem LinksIn.set {w : World} {b n k : Nat} (h : LinksIn w b n) (hk : k < n) (x : Int) : LinksIn (w.setCell ⟨b, k * 3 + 2, none⟩ (.int .u8 x)) b n := by
  obtain ⟨cs, ho, h1, h2⟩ := h
  refine ⟨_, ho.set _ _, by simpa using h1, fun i hi => ?_⟩
  obtain ⟨e0, e1, y, e2⟩ := h2 i hi
  have ne0 : k * 3 + 2 ≠ i * 3 := by omega
  have ne1 : k * 3 + 2 ≠ i * 3 + 1 := by omega
  simp only [List.getD_eq_getElem?_getD] at e0 e1 e2 ⊢
  refine ⟨?_, ?_, ?_⟩
  · rw [List.getElem?_set_ne ne0]; exact e0
  · rw [List.getElem?_set_ne ne1]; exact e1
  · by_cases e : k = i
    · subst e
      exact ⟨x, by rw [List.getElem?_set_self (by omega)]; rfl⟩
    · exact ⟨y, by rw [List.getElem?_set_ne (by omega)]; exact e2⟩
theorem LinksIn.zrow {w : World} {b n : Nat} (h : LinksIn w b n) (hn : n ≤ 1000) : ∃ Z, ZRow w (some ⟨b, 0, none⟩) n n Z := by
  obtain ⟨cs, ho, h1, h2⟩ := h
  refine ⟨(List.range n).map fun i => (0, 0, match cs.getD (i * 3 + 2) undef with | .int _ x => x | _ => 0), by simp, Nat.le_refl _, by unfold maxLen; omega, .inr ⟨b, 0, rfl, fun i hi => ?_⟩⟩
  obtain ⟨e0, e1, y, e2⟩ := h2 i hi
  have eg : ((List.range n).map fun i => ((0 : Int), (0 : Int), match cs.getD (i * 3 + 2) undef with | .int _ x => x | _ => 0)).getD i (0, 0, 0) = (0, 0, y) := by
    simp only [List.getD_eq_getElem?_getD, List.getElem?_map, List.getElem?_range hi, Option.map_some, Option.getD_some]
    simp only [List.getD_eq_getElem?_getD] at e2
    rw [e2]
  rw [eg]
  simp only [Nat.zero_add]
  exact ⟨by rw [ho.cell (i * 3) (by omega), e0], by rw [ho.cell (i * 3 + 1) (by omega), e1], by rw [ho.cell (i * 3 + 2) (by omega), e2]⟩
/-- All of n bools true. -/
theorem boK_all (f : Nat → Bool) (n : Nat) : boK f n n = (List.range n).map f := by unfold boK; simp
theorem upM_map {f : Nat → Bool} {n i : Nat} (h : i < n) : upM ((List.range n).map f) i = f i := by
  unfold upM
  rw [decide_eq_true (by simpa using h), Bool.true_and]
  simp [List.getD_eq_getElem?_getD, h]
theorem linkM_up (f : Nat → Bool) (n s : Nat) : linkM n (upM ((List.range n).map f)) s = linkM n f s := by
  unfold linkM
  exact placeM_congr (fun x hx => upM_map (List.mem_range.1 hx)) _
theorem tab_congr {f g : Nat → Int} (h : ∀ s, f s = g s) : tab f = tab g := by unfold tab; exact List.map_congr_left fun s _ => h s
theorem bo_full {w : World} {b n : Nat} {f : Nat → Bool} (h : Own w b 4 (bools ((List.range n).map f))) (hn : n ≤ 1000) : BRow w (some ⟨b, 0, none⟩) n n ((List.range n).map f) := bo_row h (by simp) hn
theorem lk_range (n : Nat) (up : Nat → Bool) (s : Nat) : linkM n up s = -1 ∨ (0 ≤ linkM n up s ∧ linkM n up s < n) := by
  rcases linkM_cases n up s with h | ⟨x, h, h1, _⟩
  · exact .inl h
  · exact .inr (by omega)
end Go.Proofs.Ytpgdaodgdckehaa
