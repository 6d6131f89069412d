/- Contracts of package sums: Add. -/
import Derived.Test.YtkalpjccfknopaaDoorSumsExt
namespace Go.Proofs.YtkalpjccfknopaaDoor
open Go.RowKit

def addL (l : List Int) : List Int := l ++ [((Crc.crc (toN l) % 256 : Nat) : Int), ((Crc.crc (toN l) / 256 : Nat) : Int)]
theorem addL_length (l : List Int) : (addL l).length = l.length + 2 := by simp [addL]
theorem addL_octs {l : List Int} (h : ∀ x ∈ l, 0 ≤ x ∧ x ≤ 255) : ∀ x ∈ addL l, 0 ≤ x ∧ x ≤ 255 := by
  have := crc_oct_lt h
  intro x hx
  rw [addL, List.mem_append] at hx
  rcases hx with hx | hx
  · exact h x hx
  · simp only [List.mem_cons, List.not_mem_nil, or_false] at hx
    rcases hx with rfl | rfl <;> omega
theorem toN_addL (l : List Int) : toN (addL l) = Crc.add (toN l) := by
  rw [addL, toN_append]
  rfl
set_option maxHeartbeats 800000 in
theorem add_any (a : Option Addr) (n c : Nat) (l : List Int) (w : World) (hb : BehindOk w) (h : Row .u8 w a n c l) (hn : n ≤ 2097152) :
    Calls Tryd.prog 14 #[.slice a n c] w fun e w' => e = .returned (.slice (some ⟨w.heap.size, 0, none⟩) (n + 2) (n + 2)) ∧ Below w.heap.size w w' ∧
      Own w' w.heap.size 5 (nums .u8 (addL l)) := by
  have hrow := h
  have hoct := h.octs
  obtain ⟨hl, hle, hmx, hw, hc, _⟩ := h
  unfold maxLen at hmx
  have HL := Lib.hid hl
  have hmk := make8 (n + 2) (by omega)
  rw [show (((n + 2 : Nat)) : Int) = (n : Int) + 2 by omega] at hmk
  obtain ⟨cs, hcs⟩ : ∃ cs, cs = nums .u8 l := ⟨_, rfl⟩
  have hlen : cs.length = n := by rw [hcs, nums_length, hl]
  have hsrc : ∀ j v, cs[j]? = some v → ∃ b off, a = some ⟨b, off, none⟩ ∧ b < w.heap.size ∧ w.cell? ⟨b, off + j, none⟩ = some v := by
    intro j v hj
    have hjn : j < n := by
      rw [← hlen]; exact (List.getElem?_eq_some_iff.1 hj).1
    rcases hc with h0 | ⟨b, o, ha, hc⟩
    · omega
    refine ⟨b, o, ha, World.block_lt_of_cell? w _ (hc j hjn), ?_⟩
    rw [hc j hjn, ← hj, hcs, nums, List.getElem?_map, List.getD_eq_getElem?_getD, List.getElem?_eq_getElem (by omega)]
    rfl
  have HC := Lib.hid hcs
  have HS := Lib.hid hsrc
  have HN := Lib.hid hlen
  have HB := Lib.hid hb
  have HR := Lib.hid hrow
  have HO := Lib.hid hoct
  clear hl hw hcs hsrc hlen hc hb hrow hoct
  go_enter Tryd.func14, Tryd.ntmps14
  go_wp2_with (with_reducible refine wpList_copy_splice rfl (.tmp 9) (.tmp 10) 23 23 rfl 5 Tryd.underlying23 size8 _ _ (n + 2) (n + 2) n c rfl rfl w.heap.size 0 (nums .u8 (List.replicate (n + 2) 0)) 5 ?_ cs ?_ ?_ ?_ ?_ w.heap.size w ?_ (Nat.le_refl _) ?_)
  · exact own_made .u8 (n + 2) 5 w
  · rw [HN.out]; simp
  · intro hpos
    have h0 : cs[0]? = some cs[0] := List.getElem?_eq_getElem hpos
    obtain ⟨b, off, ha, hb, _⟩ := HS.out 0 _ h0
    refine ⟨⟨b, off, none⟩, ha, fun j v hj => ?_⟩
    obtain ⟨b', off', ha', hb', hcell⟩ := HS.out j v hj
    rw [ha] at ha'
    simp at ha'
    obtain ⟨rfl, rfl⟩ := ha'
    rw [(below_alloc w _).cell (by rw [Addr.add]; split <;> exact hb)]
    rw [← hcell]
    congr 1
    unfold Addr.add
    split <;> simp_all
  · rw [HN.out, nums_length, List.length_replicate]; omega
  · intro v hv
    rw [HC.out, nums, List.mem_map] at hv
    obtain ⟨y, _, rfl⟩ := hv
    rfl
  · exact below_alloc _ _
  · intro w' hg hb
    have hg2 := hg.out
    have hown : Own w' w.heap.size 5 (nums .u8 (l ++ [0, 0])) := by
      unfold Own
      rw [hg2]
      congr 3
      rw [splice, HC.out, nums_length, HL.out]
      simp [nums]
    have hlt : w.heap.size < w'.heap.size := hown.lt
    have hc0 := hown.cell n (by rw [nums_length, List.length_append, HL.out]; simp)
    have hc1 := hown.cell (n + 1) (by rw [nums_length, List.length_append, HL.out]; simp)
    have hf0 := hown.frozen n
    have hf1 := hown.frozen (n + 1)
    have HW := Lib.hid hown
    have HBel := Lib.hid hb
    obtain ⟨S, hS⟩ : ∃ S, S = Crc.crc (toN l) := ⟨_, rfl⟩
    have hSlt : S < 65536 := by rw [hS]; exact crc_oct_lt HO.out
    have hcon := sum_any a n c l w' (HB.out.later hb) (HR.out.later hb)
    rw [← hS] at hcon
    have HCon := Lib.hid hcon
    have HSS := Lib.hid hS
    clear hg hg2 hb hown hcon hS
    go_wp2_with fail
    refine (HCon.out).mono ?_
    rintro e w2 ⟨rfl, rfl⟩
    go_wp2
    go_ret
    refine ⟨rfl, (HBel.out.setCell (Nat.le_refl _) _).setCell (Nat.le_refl _) _, ?_⟩
    have h1 := ((HW.out.set n (.int .u8 ((S % 256 : Nat) : Int))).set (n + 1) (.int .u8 ((S / 256 : Nat) : Int)))
    rw [nums_set, nums_set] at h1
    have h2 : ((l ++ [0, 0]).set n ((S % 256 : Nat) : Int)).set (n + 1) ((S / 256 : Nat) : Int) = addL l := by
      have hl := HL.out
      subst hl
      rw [addL, ← HSS.out, List.set_append_right _ _ (Nat.le_refl _), List.set_append_right _ _ (by omega), Nat.sub_self, Nat.add_sub_cancel_left]
      rfl
    rw [h2] at h1
    have e1 : ((S % 256 : Nat) : Int) = (S : Int) % 256 := by omega
    have e2 : ((S / 256 : Nat) : Int) = (S : Int) / 256 := by omega
    rw [e1, e2] at h1
    exact h1
/-- Add of what came in: a new slice without spare capacity. -/
theorem add_row (a : Option Addr) (n c m : Nat) (l : List Int) (w : World) (hb : BehindOk w) (h : Row .u8 w a n c l) (hn : n ≤ 2097152) (hm : n + 2 = m) :
    Calls Tryd.prog 14 #[.slice a n c] w fun e w' => (∃ g, e = .returned (.slice (some ⟨g, 0, none⟩) m m) ∧ Row .u8 w' (some ⟨g, 0, none⟩) m m (addL l) ∧ Own w' g 5 (nums .u8 (addL l)) ∧ w.heap.size ≤ g) ∧ Below w.heap.size w w' := by
  subst hm
  refine (add_any a n c l w hb h hn).mono ?_
  rintro e w' ⟨rfl, hbel, hown⟩
  refine ⟨⟨_, rfl, hown.row0 (n + 2) (n + 2) (by rw [addL_length, h.len]) (Nat.le_refl _) (by unfold maxLen; omega) (fun x hx => wf_u8.2 (addL_octs h.octs x hx)), hown, Nat.le_refl _⟩, hbel⟩
end Go.Proofs.YtkalpjccfknopaaDoor
