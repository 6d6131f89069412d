/- Contracts: of the statements of basics: Message, number, list. -/
import Derived.Test.YtoegijmfcelgnaaBaseFr
import Derived.Test.YtoegijmfcelgnaaBaEnd
namespace Go.Proofs.Ytoegijmfcelgnaa
open Go.RowKit

theorem loadK_octs (k : Nat) : ∀ x ∈ loadK k, 0 ≤ x ∧ x ≤ 255 := by
  intro x hx
  simp only [loadK, List.mem_cons, List.not_mem_nil, or_false] at hx
  rcases hx with rfl | rfl <;> omega
theorem loadK_length (k : Nat) : (loadK k).length = 2 := rfl
theorem loadK_wf (k : Nat) : ∀ x ∈ loadK k, (Lit.int .u8 x).wf = true := fun x hx => wf_u8.2 (loadK_octs k x hx)
theorem kmsg_any (k : Nat) (w : World) (hk : k ≤ 1000000) :
    Calls Try.prog 9 #[.int .i64 (k : Int)] w fun e w' => e = .returned (.slice (some ⟨w.heap.size, 0, none⟩) 2 2) ∧ Below w.heap.size w w' ∧ Own w' w.heap.size 5 (nums .u8 (loadK k)) := by
  have h0 : (0 : Int) ≤ k := by omega
  have h1 : (k : Int) ≤ 1000000 := by omega
  go_enter Try.func9, Try.ntmps9
  go_wp2
  go_ret
  refine ⟨rfl, below_alloc _ _, ?_⟩
  have e1 : (((k % 256 : Nat) : Int)) = (k : Int) % 256 := by omega
  have e2 : (((k / 256 % 256 : Nat) : Int)) = (k : Int) / 256 % 256 := by omega
  unfold Own loadK nums
  rw [e1, e2]
  exact heap_alloc_new w _
theorem kmsg_row (k : Nat) (w : World) (hk : k ≤ 1000000) :
    Calls Try.prog 9 #[.int .i64 (k : Int)] w fun e w' => (e = .returned (.slice (some ⟨w.heap.size, 0, none⟩) 2 2) ∧ RowV w' (fun j => w.heap.size ≤ j ∧ j < w'.heap.size) true (.slice (some ⟨w.heap.size, 0, none⟩) 2 2) (loadK k)) ∧ Below w.heap.size w w' := by
  refine (kmsg_any k w hk).mono ?_
  rintro e w' ⟨rfl, hb, ho⟩
  refine ⟨⟨rfl, _, 2, rfl, ho.row0 2 2 rfl (Nat.le_refl _) (by unfold maxLen; omega) (loadK_wf k), fun _ => rfl, fun z hz => ?_⟩, hb⟩
  cases hz
  exact ⟨Nat.le_refl _, ho.lt⟩
theorem knum_any (k : Nat) (w : World) (hk : k ≤ 1000000) :
    Calls Try.prog 19 #[.int .i64 (k : Int)] w fun e w' => e = .returned (.int .u8 ((num k : Nat) : Int)) ∧ w = w' := by
  have h0 : (0 : Int) ≤ k := by omega
  have h1 : (k : Int) ≤ 1000000 := by omega
  go_enter Try.func19, Try.ntmps19
  go_wp2
  go_ret
  exact ⟨ret_int (by unfold num; omega), rfl⟩
set_option maxHeartbeats 1000000 in
/-- The loads from one number to another one. -/
theorem klist_any (a b : Nat) (w : World) (hab : a ≤ b) (hb : b ≤ 1000000) :
    Calls Try.prog 22 #[.int .i64 (a : Int), .int .i64 (b : Int)] w fun e w' => (∃ x c, e = .returned (.slice x (b - a) c) ∧ Mat w' (fun j => w.heap.size ≤ j ∧ j < w'.heap.size) true x (b - a) c (listL a b)) ∧ Below w.heap.size w w' := by
  have h1 : (b : Int) ≤ 1000000 := by omega
  go_enter Try.func22, Try.ntmps22
  go_wp2_with fail
  go_loopw [5, 6] (fun v i wr => ∃ k : Nat, a ≤ k ∧ k ≤ b ∧ i = .int .i64 k ∧ Below w.heap.size w wr ∧ Gath w.heap.size true v (listL a k) wr) (fun _ i _ => b - (intOf i).toNat)
  case atStart => exact ⟨a, Nat.le_refl _, hab, rfl, Below.refl _ _, by rw [listL_nil]; exact Gath.nil _ _ _⟩
  case round =>
    obtain ⟨k, hak, hk, rfl, hbel, hg⟩ := hrel
    by_cases hlt : k < b
    · have hcon := kmsg_row k wr (by omega)
      have HC := Lib.hid hcon
      have HB := Lib.hid hbel
      have HG := Lib.hid hg
      clear hcon hbel hg
      go_wp2_with fail
      refine HC.out.mono ?_
      rintro e w1 ⟨⟨rfl, hr⟩, hb1⟩
      have hs := HB.out.size
      have hlen : (listL a k).length = k - a := listL_length a k
      have hall := And.intro (HG.out.later hb1) (And.intro (HB.out.trans (hb1.mono hs)) (HG.out.row hs hr (fun _ h => h)))
      have HA := Lib.hid hall
      have HL := Lib.hid hlen
      have hsz2 := hall.2.1.size
      clear hb1 hr hall hlen
      go_wp2_with (at_builtin; refine wpList_append_row rfl _ _ rfl w.heap.size _ true _ _ _ _ rfl (by exact HA.out.1.mat) (by exact HA.out.2.2) (by exact fun _ hj hh => hh.2.1 hj) rfl (by rw [HL.out]; omega) hsz2 ?_)
      intro v' w2 m1 m2
      have hg2 := Gath.add m1 m2
      rw [listL_snoc hak] at hg2
      have hb2 := m2.below (B := w.heap.size) hsz2 (fun j hj => (HA.out.1.lt j hj).1)
      have H5 := Lib.hid hg2
      have H6 := Lib.hid (HA.out.2.1.trans hb2)
      clear hg2 hb2 m1 m2
      go_wp2
      exact ⟨⟨k + 1, by omega, by omega, by go_num, H6.out, H5.out⟩, by simp [intOf]; omega⟩
    · obtain rfl : k = b := by omega
      obtain ⟨x, c, hv, hm, _⟩ := hg.done
      rw [listL_length] at hv hm
      subst hv
      have HM := Lib.hid hm
      have HB := Lib.hid hbel
      clear hm hbel hg
      go_wp2
      go_ret
      exact ⟨⟨_, _, rfl, HM.out⟩, HB.out⟩
end Go.Proofs.Ytoegijmfcelgnaa
