/- Contracts: bits.Of, bits.extended. -/
import Derived.Test.YtjadmhmfjjjcfaaRw
import Derived.Test.YtjadmhmfjjjcfaaBytes
import Derived.Laws.CopyOwn
namespace Go.Proofs.Ytjadmhmfjjjcfaa
open Go.RowKit

set_option maxHeartbeats 400000 in
theorem of_any (a : Option Addr) (n c : Nat) (l : List Int) (w : World) (h : Row .u8 w a n c l) (hn : n ≤ 131072) :
    Calls Try.prog 11 #[.slice a n c] w fun e w' => e = .returned (.slice (some ⟨w.heap.size, 0, none⟩) (8 * n) (8 * n)) ∧ Below w.heap.size w w' ∧ Own w' w.heap.size 5 (nums .u8 (ofL l)) := by
  obtain ⟨hl, hle, hm, hw, hc, _⟩ := h
  unfold maxLen at hm
  have HL := Lib.hid hl
  have HW := Lib.hid hw
  have hmk := make8 (8 * n) (by omega)
  rw [show (((8 * n : Nat)) : Int) = 8 * (n : Int) by omega] at hmk
  clear hl hw
  go_enter Try.func11, Try.ntmps11
  go_wp2_with fail
  clear hmk
  go_loopw [4, 5, 12] (fun _ _ i wr => ∃ k : Nat, k ≤ n ∧ i = .int .i64 k ∧ Below w.heap.size w wr ∧
      Own wr w.heap.size 5 (nums .u8 (ofL (l.take k) ++ List.replicate (8 * (n - k)) 0))) (fun _ _ i _ => n - (intOf i).toNat)
  case atStart => exact ⟨0, Nat.zero_le _, rfl, below_alloc _ _, by simpa [ofL] using own_made .u8 (8 * n) 5 w⟩
  case round =>
    obtain ⟨k, hk, rfl, hbel, hown⟩ := hrel
    by_cases hlt : k < n
    · rcases hc with h0 | ⟨b, o, rfl, hc⟩
      · omega
      have g0 := hc k hlt
      have hbB : b < w.heap.size := World.block_lt_of_cell? w _ g0
      have g := (hbel.cell (p := ⟨b, o + k, none⟩) hbB).trans g0
      obtain ⟨x, hx⟩ : ∃ x, x = l.getD k 0 := ⟨_, rfl⟩
      rw [← hx] at g
      have hxr := wf_u8.1 (HW.out x (by rw [hx]; rw [List.getD_eq_getElem?_getD, List.getElem?_eq_getElem (by rw [HL.out]; omega), Option.getD_some]; exact List.getElem_mem _))
      obtain ⟨hx0, hx1⟩ := hxr
      have hlen : (ofL (l.take k)).length = 8 * k := by rw [ofL_length, List.length_take, HL.out]; omega
      have hcon := write_any w.heap.size (8 * k) (8 * n - 8 * k) (8 * n - 8 * k) 8 x _ wr hown (by rw [List.length_append, hlen, List.length_replicate]; omega) (by omega) (by omega) hx0 (by omega)
      have HX := Lib.hid hx
      have HB := Lib.hid hbel
      have HC := Lib.hid hcon
      have HN := Lib.hid hlen
      have hsz := hbel.size
      have hBw := hown.lt
      clear hx hbel hown hcon hlen g0 hc
      go_wp2_with fail
      refine HC.out.mono ?_
      rintro e w' ⟨rfl, hon, hown'⟩
      have HW' := Lib.hid hown'
      have HOn := Lib.hid hon
      clear hown' hon
      go_wp2
      go_roundw
      case rel =>
        refine ⟨k + 1, by omega, by go_num, HOn.out.below HB.out (by omega) (Nat.le_refl _), ?_⟩
        have ht : l.take (k + 1) = l.take k ++ [x] := by rw [HX.out]; exact take_succ' (by rw [HL.out]; omega)
        rw [ht, ofL_snoc]
        have := HW'.out
        rw [List.take_left' HN.out, List.drop_append, HN.out, List.drop_of_length_le (by rw [HN.out]; omega), List.nil_append, List.drop_replicate] at this
        rw [show 8 * (n - k) - (8 * k + 8 - 8 * k) = 8 * (n - (k + 1)) by omega] at this
        exact this
      case measure => simp [intOf]; omega
    · go_wp2
      go_ret
      obtain rfl : k = n := by omega
      refine ⟨rfl, hbel, ?_⟩
      rw [List.take_of_length_le (by rw [HL.out]; exact Nat.le_refl _), Nat.sub_self] at hown
      simpa using hown

set_option maxHeartbeats 400000 in
theorem extended_any (a : Option Addr) (n c m : Nat) (l : List Int) (w : World) (h : Row .u8 w a n c l) (hn : n ≤ 2097152) (hm : m ≤ 64) :
    Calls Try.prog 34 #[.slice a n c, .int .i64 m] w fun e w' => e = .returned (.slice (some ⟨w.heap.size, 0, none⟩) (n + m) (n + m)) ∧ Below w.heap.size w w' ∧
      Own w' w.heap.size 5 (nums .u8 (l ++ List.replicate m 0)) := by
  obtain ⟨hl, hle, hmx, hw, hc, _⟩ := h
  unfold maxLen at hmx
  have HL := Lib.hid hl
  have hmk := make8 (n + m) (by omega)
  rw [show (((n + m : Nat)) : Int) = (n : Int) + (m : Int) by omega] at hmk
  obtain ⟨cs, hcs⟩ : ∃ cs, cs = nums .u8 l := ⟨_, rfl⟩
  have hlen : cs.length = n := by rw [hcs, nums_length, hl]
  have hsrc : ∀ j v, cs[j]? = some v → ∃ b off, a = some ⟨b, off, none⟩ ∧ b < w.heap.size ∧ w.cell? ⟨b, off + j, none⟩ = some v := by
    intro j v hj
    have hjn : j < n := by
      rw [← hlen]; exact (List.getElem?_eq_some_iff.1 hj).1
    rcases hc with h0 | ⟨b, o, ha, hc⟩
    · omega
    refine ⟨b, o, ha, World.block_lt_of_cell? w _ (hc j hjn), ?_⟩
    rw [hc j hjn, ← hj, hcs, nums, List.getElem?_map, List.getD_eq_getElem?_getD, List.getElem?_eq_getElem (by omega)]
    rfl
  have HC := Lib.hid hcs
  have HS := Lib.hid hsrc
  have HN := Lib.hid hlen
  clear hl hw hcs hsrc hlen hc
  go_enter Try.func34, Try.ntmps34
  go_wp2_with (with_reducible refine wpList_copy_splice rfl (.tmp 11) (.tmp 12) 22 22 rfl 5 Try.underlying22 size8 _ _ (n + m) (n + m) n c rfl rfl w.heap.size 0 (nums .u8 (List.replicate (n + m) 0)) 5 ?_ cs ?_ ?_ ?_ ?_ w.heap.size w ?_ (Nat.le_refl _) ?_)
  · exact own_made .u8 (n + m) 5 w
  · rw [HN.out]; simp
  · intro hpos
    have h0 : cs[0]? = some cs[0] := List.getElem?_eq_getElem hpos
    obtain ⟨b, off, ha, hb, _⟩ := HS.out 0 _ h0
    refine ⟨⟨b, off, none⟩, ha, fun j v hj => ?_⟩
    obtain ⟨b', off', ha', hb', hcell⟩ := HS.out j v hj
    rw [ha] at ha'
    simp at ha'
    obtain ⟨rfl, rfl⟩ := ha'
    rw [(below_alloc w _).cell (by rw [Addr.add]; split <;> exact hb)]
    rw [← hcell]
    congr 1
    unfold Addr.add
    split <;> simp_all
  · rw [HN.out, nums_length, List.length_replicate]; omega
  · intro v hv
    rw [HC.out, nums, List.mem_map] at hv
    obtain ⟨y, _, rfl⟩ := hv
    rfl
  · exact below_alloc _ _
  · intro w' hg hb
    have HG := hg
    have HB := Lib.hid hb
    clear hg hb
    go_wp2
    go_ret
    refine ⟨rfl, HB.out, ?_⟩
    have := HG.out
    unfold Own
    rw [this]
    congr 3
    rw [splice, HC.out, nums_length, HL.out]
    simp [nums]
end Go.Proofs.Ytjadmhmfjjjcfaa
