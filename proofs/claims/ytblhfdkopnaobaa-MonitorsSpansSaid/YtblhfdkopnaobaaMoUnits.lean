/- Statements of layer 8: units. -/
import Derived.Test.YtblhfdkopnaobaaBools
namespace Go.Proofs.Ytblhfdkopnaobaa
open Go.RowKit

/-- The units of a text. -/
def unitsOf (s : ByteArray) : List Bool := s.data.toList.map (fun c => (c.toNat : Int) != 120)
theorem unitsOf_length (s : ByteArray) : (unitsOf s).length = s.size := by simp [unitsOf]
theorem unitsOf_take (s : ByteArray) (k : Nat) (h : k < s.size) : (unitsOf s).take (k + 1) = (unitsOf s).take k ++ [(s[k].toNat : Int) != 120] := by
  have h1 := bytes_take_snoc s k h
  unfold unitsOf
  rw [← List.map_take, h1, List.map_append, List.map_take]; rfl
set_option maxHeartbeats 1000000 in
set_option maxRecDepth 100000 in
theorem units_own (s : ByteArray) (w : World) (h : s.size ≤ 100000) :
    Calls Try.prog 11 #[.string s] w fun e w' => ∃ v, e = .returned v ∧ w'.ownsRow w.heap.size 4 1 v s.size (bools (unitsOf s)) ∧ Below w.heap.size w w' := by
  go_enter Try.func11, Try.ntmps11
  go_wp2_with fail
  go_loopw [3, 4] (fun v i wr => ∃ k : Nat, k ≤ s.size ∧ i = .int .i64 k ∧ Grow (.slice none 0 0) w v wr ∧ wr.ownsRow w.heap.size 4 1 v k (bools ((unitsOf s).take k))) (fun _ i _ => s.size - (intOf i).toNat)
  case atStart => exact ⟨0, Nat.zero_le _, rfl, Grow.refl _ _, by rw [List.take_zero]; exact ownsRow_bnil _ _⟩
  case round =>
    obtain ⟨k, hk, rfl, hgr, hown⟩ := hrel
    by_cases hlt : k < s.size
    · have hki : (k : Int) < (s.size : Int) := by omega
      have hk0 : (0 : Int) ≤ (k : Int) := by omega
      have HT := Lib.hid (unitsOf_take s k hlt)
      obtain ⟨x, hx⟩ : ∃ x : Int, (s[k].toNat : Int) = x := ⟨_, rfl⟩
      rw [hx] at HT
      obtain ⟨y, hy⟩ : ∃ y : Bool, y = (x != 120) := ⟨_, rfl⟩
      rw [← hy] at HT
      have hyx : (x != 120) = y := hy.symm
      have HG := Lib.hid hgr
      have HW := Lib.hid hown
      have hsz : w.heap.size ≤ wr.heap.size := hgr.exc.size
      clear hgr hown hy
      go_wp2_with (at_builtin; refine wpList_append_bool Try.underlying31 rfl _ _ rfl w.heap.size _ _ _ _ rfl (by exact HW.out) rfl (by omega) hsz ?_)
      intro v1 w1 h1 h2 g1 c1 h3
      have H1 := Lib.hid h1
      have H2 := Lib.hid h2
      clear h1 h2 h3
      go_wp2_with fail
      refine ⟨⟨k + 1, by omega, by go_num, HG.out.trans H2.out, ?_⟩, by simp [intOf]; omega⟩
      rw [HT.out]
      exact H1.out
    · obtain rfl : k = s.size := by omega
      have hki : ¬ (s.size : Int) < (s.size : Int) := by omega
      have HG := Lib.hid hgr
      have HW := Lib.hid hown
      clear hgr hown
      go_wp2_with fail
      go_ret
      refine ⟨_, rfl, ?_, HG.out.nil⟩
      have := HW.out
      rw [List.take_of_length_le (by rw [unitsOf_length]; exact Nat.le_refl _)] at this
      exact this
theorem units_any (s : ByteArray) (w : World) (h : s.size ≤ 100000) :
    Calls Try.prog 11 #[.string s] w fun e w' => ∃ a c, e = .returned (.slice a s.size c) ∧ BRow w' a s.size c (unitsOf s) ∧ (∀ x, a = some x → w.heap.size ≤ x.block) ∧ (a = none → s.size = 0) ∧ Below w.heap.size w w' := by
  refine (units_own s w h).mono ?_
  rintro e w' ⟨v, rfl, h1, h2⟩
  obtain ⟨a, c, rfl, h3, h4, h5⟩ := ownsRow_brow h1
  exact ⟨a, c, rfl, h3, h4, fun h => by have := h5 h; rw [← unitsOf_length, this]; rfl, h2⟩
theorem units_any2 (s : ByteArray) (w : World) (h : s.size ≤ 100000) :
    Calls Try.prog 11 #[.string s] w fun e w' => ∃ a c, e = .returned (.slice a s.size c) ∧ BRow w' a s.size c (unitsOf s) ∧ (∀ x, a = some x → w.heap.size ≤ x.block ∧ x.block < w'.heap.size) ∧ Below w.heap.size w w' := by
  refine (units_own s w h).mono ?_
  rintro e w' ⟨v, rfl, h1, h2⟩
  obtain ⟨a, c, rfl, h3, h4, h5⟩ := ownsRow_brow h1
  refine ⟨a, c, rfl, h3, fun x hx => ⟨h4 x hx, ?_⟩, h2⟩
  subst hx
  exact (ownBlock_lt h1 (k := x.block) rfl).2
end Go.Proofs.Ytblhfdkopnaobaa
