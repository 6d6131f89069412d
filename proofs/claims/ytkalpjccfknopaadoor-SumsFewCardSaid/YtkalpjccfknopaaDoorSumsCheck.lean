/- Contracts of package sums: Check. -/
import Derived.Test.YtkalpjccfknopaaDoorSumsAdd
namespace Go.Proofs.YtkalpjccfknopaaDoor
open Go.RowKit

/-- The number that the last two octets write. -/
def lastTwo (l : List Int) (n : Nat) : Nat := (l.getD n 0).toNat + 256 * (l.getD (n + 1) 0).toNat
theorem check_short (a : Option Addr) (n c : Nat) (w : World) (hn : n < 2) :
    Calls Tryd.prog 17 #[.slice a n c] w fun e w' => e = .returned (.tuple #[.slice none 0 0, .int .i64 5]) ∧ w = w' := by
  go_enter Tryd.func17, Tryd.ntmps17
  go_wp2
  go_ret2
  exact ⟨rfl, rfl⟩
theorem or_shl16 (x y : Int) (hx0 : 0 ≤ x) (hx1 : x ≤ 255) (hy0 : 0 ≤ y) (hy1 : y ≤ 255) : bits BinOp.or IntKind.u16 x (y * 256) = ((x.toNat + 256 * y.toNat : Nat) : Int) := by
  obtain ⟨X, rfl⟩ := Int.eq_ofNat_of_zero_le hx0
  obtain ⟨Y, rfl⟩ := Int.eq_ofNat_of_zero_le hy0
  have e : ((Y : Int) * 256) = ((Y * 256 : Nat) : Int) := by omega
  rw [e, u16_or_nat _ _ (by omega) (by omega)]
  have h1 := Nat.two_pow_add_eq_or_of_lt (i := 8) (b := X) (by omega) Y
  rw [Nat.or_comm, Nat.mul_comm Y 256]
  simp only [Int.toNat_natCast]
  have : (256 * Y ||| X) = 256 * Y + X := h1.symm
  rw [this]
  omega
theorem sum_drawn (a : Option Addr) (n c : Nat) (l : List Int) (w : World) (hb : BehindOk w) (h : Row .u8 w a n c l) (q : Nat) :
    Calls Tryd.prog 12 #[.slice a n c] (w.drewN q) fun e w' => e = .returned (.int .u16 ((Crc.crc (toN l) : Nat) : Int)) ∧ w' = w.drewN q :=
  (sum_any a n c l (w.drewN q) (hb.later (below_draw w q)) (h.later (below_draw w q))).mono fun _ _ ⟨he, hw⟩ => ⟨he, hw.symm⟩
set_option maxHeartbeats 1000000 in
theorem check_bad (b o n c : Nat) (l : List Int) (w : World) (hb : BehindOk w) (h : Row .u8 w (some ⟨b, o, none⟩) (n + 2) c l) (hn : n ≤ 2097152) (hne : lastTwo l n ≠ Crc.crc (toN (l.take n))) :
    Calls Tryd.prog 17 #[.slice (some ⟨b, o, none⟩) (n + 2) c] w fun e w' => e = .returned (.tuple #[.slice none 0 0, .int .i64 10]) ∧ ∃ q, w' = w.drewN q := by
  have hoct := h.octs
  have hfront := h.front n (by omega)
  obtain ⟨hl, hle, hmx, hw, hc, _⟩ := h
  unfold maxLen at hmx
  rcases hc with h0 | ⟨b', o', ha, hc⟩
  · omega
  simp at ha
  obtain ⟨rfl, rfl⟩ := ha
  have g0 := hc n (by omega)
  have g1 := hc (n + 1) (by omega)
  obtain ⟨x, hx⟩ : ∃ x, x = l.getD n 0 := ⟨_, rfl⟩
  obtain ⟨y, hy⟩ : ∃ y, y = l.getD (n + 1) 0 := ⟨_, rfl⟩
  have hx255 := getD_oct hoct n
  have hy255 := getD_oct hoct (n + 1)
  rw [← hx] at g0 hx255
  rw [← hy] at g1 hy255
  obtain ⟨hx0, hx1⟩ := hx255
  obtain ⟨hy0, hy1⟩ := hy255
  have hcon := sum_drawn (some ⟨b, o, none⟩) n c (l.take n) w hb hfront
  obtain ⟨S, hS⟩ : ∃ S, S = Crc.crc (toN (l.take n)) := ⟨_, rfl⟩
  rw [← hS] at hcon hne
  unfold lastTwo at hne
  rw [← hx, ← hy] at hne
  have hor := or_shl16 x y hx0 hx1 hy0 hy1
  have htest : (bits BinOp.or IntKind.u16 x (y * 256) != (S : Int)) = true := by
    rw [hor]; simp only [bne_iff_ne, ne_eq]; exact fun hh => hne (by exact_mod_cast hh)
  have HCon := Lib.hid hcon
  clear hor hcon hS hne hx hy hfront hc hl hw hoct hb
  go_enter Tryd.func17, Tryd.ntmps17
  go_wp2
  go_quiet ((go_at_call 12; exact Calls.quiet_of_same (HCon.out _)))
  go_wp2
  go_ret2
  exact ⟨rfl, nq, rfl⟩
set_option maxHeartbeats 1000000 in
theorem check_good (b o n c : Nat) (l : List Int) (w : World) (hb : BehindOk w) (h : Row .u8 w (some ⟨b, o, none⟩) (n + 2) c l) (hn : n ≤ 2097152) (hne : lastTwo l n = Crc.crc (toN (l.take n))) :
    Calls Tryd.prog 17 #[.slice (some ⟨b, o, none⟩) (n + 2) c] w fun e w' => e = .returned (.tuple #[.slice (some ⟨w.heap.size, 0, none⟩) n n, .int .i64 0]) ∧ Below w.heap.size w w' ∧ Own w' w.heap.size 5 (nums .u8 (l.take n)) := by
  have hoct := h.octs
  have hfront := h.front n (by omega)
  obtain ⟨hl, hle, hmx, hw, hc, _⟩ := h
  unfold maxLen at hmx
  rcases hc with h0 | ⟨b', o', ha, hc⟩
  · omega
  simp at ha
  obtain ⟨rfl, rfl⟩ := ha
  have g0 := hc n (by omega)
  have g1 := hc (n + 1) (by omega)
  obtain ⟨x, hx⟩ : ∃ x, x = l.getD n 0 := ⟨_, rfl⟩
  obtain ⟨y, hy⟩ : ∃ y, y = l.getD (n + 1) 0 := ⟨_, rfl⟩
  have hx255 := getD_oct hoct n
  have hy255 := getD_oct hoct (n + 1)
  rw [← hx] at g0 hx255
  rw [← hy] at g1 hy255
  obtain ⟨hx0, hx1⟩ := hx255
  obtain ⟨hy0, hy1⟩ := hy255
  have hcon := sum_drawn (some ⟨b, o, none⟩) n c (l.take n) w hb hfront
  obtain ⟨S, hS⟩ : ∃ S, S = Crc.crc (toN (l.take n)) := ⟨_, rfl⟩
  rw [← hS] at hcon hne
  unfold lastTwo at hne
  rw [← hx, ← hy] at hne
  have hor := or_shl16 x y hx0 hx1 hy0 hy1
  have htest : (bits BinOp.or IntKind.u16 x (y * 256) != (S : Int)) = false := by
    rw [hor, hne]; simp
  have hmk := fun q => make8 n (by omega) (w.drewN q)
  obtain ⟨cs, hcs⟩ : ∃ cs, cs = nums .u8 (l.take n) := ⟨_, rfl⟩
  have hlen : cs.length = n := by rw [hcs, nums_length, List.length_take, hl]; omega
  have hsrc : ∀ j v, cs[j]? = some v → w.cell? ⟨b, o + j, none⟩ = some v := by
    intro j v hj
    have hjn : j < n := by
      rw [← hlen]; exact (List.getElem?_eq_some_iff.1 hj).1
    rw [hc j (by omega), ← hj, hcs, nums, List.getElem?_map, List.getElem?_take, if_pos hjn, List.getD_eq_getElem?_getD, List.getElem?_eq_getElem (by omega)]
    rfl
  have hblk : b < w.heap.size := World.block_lt_of_cell? w _ g0
  have HC := Lib.hid hcs
  have HS := Lib.hid hsrc
  have HN := Lib.hid hlen
  clear hcs hsrc hlen
  have HCon := Lib.hid hcon
  clear hor hcon hS hne hx hy hfront hc hl hw hoct hb
  go_enter Tryd.func17, Tryd.ntmps17
  go_wp2
  go_quiet ((go_at_call 12; exact Calls.quiet_of_same (HCon.out _)))
  have hmk1 := hmk nq
  clear hmk
  rw [World.heap_drewN] at hmk1
  go_wp2_with (with_reducible refine wpList_copy_splice rfl (.tmp 31) (.tmp 32) 23 23 rfl 5 Tryd.underlying23 size8 _ _ n n (n + 2) c rfl rfl w.heap.size 0 (nums .u8 (List.replicate n 0)) 5 ?_ cs ?_ ?_ ?_ ?_ w.heap.size w ?_ (Nat.le_refl _) ?_)
  · have := own_made .u8 n 5 (w.drewN nq)
    rw [World.heap_drewN] at this
    exact this
  · rw [HN.out]; show n = min _ _; omega
  · intro hpos
    refine fun j v hj => ?_
    rw [((below_draw w nq).trans (below_alloc (w.drewN nq) _)).cell (p := ⟨b, o + j, none⟩) hblk]
    exact HS.out j v hj
  · rw [HN.out, nums_length, List.length_replicate]; omega
  · intro v hv
    rw [HC.out, nums, List.mem_map] at hv
    obtain ⟨y, _, rfl⟩ := hv
    rfl
  · exact (below_draw w nq).trans (below_alloc (w.drewN nq) _)
  · intro w' hg hb
    have HG := hg
    have HB := Lib.hid hb
    clear hg hb
    go_wp2
    go_ret2
    refine ⟨rfl, HB.out, ?_⟩
    have := HG.out
    unfold Own
    rw [this]
    congr 3
    have hL := HN.out
    rw [HC.out, nums_length] at hL
    rw [splice, HC.out, nums_length, hL]
    simp [nums]
end Go.Proofs.YtkalpjccfknopaaDoor
