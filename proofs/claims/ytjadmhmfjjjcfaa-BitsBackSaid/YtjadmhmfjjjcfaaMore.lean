/- Contracts of layer 1 that the laws use, in the forms in which they use them. -/
import Derived.Test.YtjadmhmfjjjcfaaLives
import Derived.Test.YtjadmhmfjjjcfaaRefOf
namespace Go.Proofs.Ytjadmhmfjjjcfaa
open Go.RowKit

/-- Same of two lists that are equal. -/
theorem same_yes (a1 a2 : Option Addr) (n1 c1 n2 c2 : Nat) (l : List Int) (w : World) (h1 : Row .u8 w a1 n1 c1 l) (h2 : Row .u8 w a2 n2 c2 l) :
    Calls Try.prog 17 #[.slice a1 n1 c1, .slice a2 n2 c2] w fun e w' => e = .returned (.bool true) ∧ ∃ n, w' = w.drewN n := by
  have := same_any a1 a2 n1 c1 n2 c2 l l w h1 h2
  simpa only [decide_true] using this

theorem refOf_n (a : Option Addr) (n c m : Nat) (l : List Int) (w : World) (h : Row .u8 w a n c l) (hn : n ≤ 131072) (hm : 8 * n = m) :
    Calls Try.prog 15 #[.slice a n c] w fun e w' => (∃ a' c', e = .returned (.slice a' m c') ∧ Row .u8 w' a' m c' (ofL l)) ∧ Below w.heap.size w w' := by
  refine (refOf_any a n c l w h hn).mono ?_
  rintro e w' ⟨⟨a', c', rfl, hr⟩, hb⟩
  have : (ofL l).length = m := by rw [ofL_length, h.len, hm]
  rw [this] at hr ⊢
  exact ⟨⟨a', c', rfl, hr⟩, hb⟩
theorem refOctets_n (a : Option Addr) (n c m : Nat) (l : List Int) (w : World) (h : Row .u8 w a n c l) (hbits : isBits l = true) (hn : n ≤ 1048576) (hm : n / 8 = m) :
    Calls Try.prog 18 #[.slice a n c] w fun e w' => (∃ a' c', e = .returned (.slice a' m c') ∧ Row .u8 w' a' m c' (octs l)) ∧ Below w.heap.size w w' := by
  refine (refOctets_any a n c l w h hbits hn).mono ?_
  rintro e w' ⟨⟨a', c', rfl, hr⟩, hb⟩
  have : (octs l).length = m := by simp [octs, h.len, hm]
  rw [this] at hr ⊢
  exact ⟨⟨a', c', rfl, hr⟩, hb⟩

theorem codes_textOf {l : List Int} (h : ∀ x ∈ l, 0 ≤ x ∧ x ≤ 1) : codes (textOf l) = l.map (48 + ·) := by
  unfold codes textOf
  rw [strOfNums_data, List.map_map, List.map_map]
  apply List.map_congr_left
  intro x hx
  have := h x hx
  show ((UInt8.ofNat (48 + x).toNat).toNat : Int) = 48 + x
  rw [UInt8.toNat_ofNat']
  omega
theorem textOf_size (l : List Int) : (textOf l).size = l.length := by rw [textOf, strOfNums_size, List.length_map]
theorem isText_textOf {l : List Int} (h : ∀ x ∈ l, 0 ≤ x ∧ x ≤ 1) : isText (textOf l) = true := by
  unfold isText textOf
  rw [strOfNums_data, List.all_eq_true]
  intro c hc
  rw [List.map_map, List.mem_map] at hc
  obtain ⟨x, hx, rfl⟩ := hc
  have := h x hx
  have e : (UInt8.ofNat (48 + x).toNat).toNat = (48 + x).toNat := by rw [UInt8.toNat_ofNat']; omega
  show ((UInt8.ofNat (48 + x).toNat).toNat == 48 || (UInt8.ofNat (48 + x).toNat).toNat == 49) = true
  rw [e]
  rcases (by omega : x = 0 ∨ x = 1) with rfl | rfl <;> rfl
theorem codes_sub {l : List Int} (h : ∀ x ∈ l, 0 ≤ x ∧ x ≤ 1) : (codes (textOf l)).map (· - 48) = l := by
  rw [codes_textOf h, List.map_map]
  conv => rhs; rw [← List.map_id l]
  apply List.map_congr_left
  intro x _
  show 48 + x - 48 = x
  omega
theorem isText_codes {s : ByteArray} (h : isText s = true) : (codes s).map (· - 48) = s.data.toList.map fun c => (c.toNat : Int) % 2 := by
  unfold codes
  rw [List.map_map]
  apply List.map_congr_left
  intro c hc
  have := List.all_eq_true.1 h c hc
  rw [Bool.or_eq_true, beq_iff_eq, beq_iff_eq] at this
  show (c.toNat : Int) - 48 = (c.toNat : Int) % 2
  omega
theorem isText_at {s : ByteArray} (h : isText s = true) (j : Nat) (hj : j < s.size) : s[j].toNat = 48 ∨ s[j].toNat = 49 := by
  have hm : s.data.toList[j]'(by simpa using hj) ∈ s.data.toList := List.getElem_mem _
  have := List.all_eq_true.1 h _ hm
  rw [Bool.or_eq_true, beq_iff_eq, beq_iff_eq] at this
  exact this

/-- The results of Parse at a text of at most 400 bytes: no stream, or the stream. -/
theorem parse_n (s : ByteArray) (n : Nat) (l : List Int) (w : World) (hn : s.size = n) (h : n ≤ 1048576) (ht : isText s = true) (hl : (codes s).map (· - 48) = l) :
    Calls Try.prog 23 #[.string s] w fun e w' => IsN2 n l w.heap.size e w' ∧ Below w.heap.size w w' := by
  subst hn hl
  refine (parse_any s w h).mono ?_
  rintro e w' ⟨h1 | h1, hb⟩
  · rw [ht] at h1; exact absurd h1.1 (by simp)
  · obtain ⟨_, rfl, ho⟩ := h1
    refine ⟨⟨_, rfl, ho.row0 _ _ (by simp [codes_length]) (Nat.le_refl _) (by unfold maxLen; omega) ?_, Nat.le_refl _⟩, hb⟩
    rw [isText_codes ht]
    intro x hx
    obtain ⟨c, _, rfl⟩ := List.mem_map.1 hx
    exact wf_u8.2 (by omega)
end Go.Proofs.Ytjadmhmfjjjcfaa
