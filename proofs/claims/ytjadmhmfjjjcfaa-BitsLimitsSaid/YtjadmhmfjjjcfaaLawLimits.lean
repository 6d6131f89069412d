/- For every number of further elements, valid or not, the law BitsLimits returns true. No condition. -/
import Derived.Test.YtjadmhmfjjjcfaaMore
import Derived.Deep.DeepCutAuto
namespace Go.Proofs.Ytjadmhmfjjjcfaa
open Go.RowKit

theorem flipErr_of' {l li : List Int} {x : Int} (h : errOf l = x) (hx : x ≠ 0) : flipErr l li = x := by unfold flipErr; rw [if_pos (by rw [h]; exact hx), h]
theorem apartErr_1' {l1 l2 : List Int} {x : Int} (h : errOf l1 = x) (hx : x ≠ 0) : apartErr l1 l2 = x := by unfold apartErr; rw [if_pos (by rw [h]; exact hx), h]
theorem putErr_x' {l : List Int} {v m x : Int} (h : errOf l = x) (hx : x ≠ 0) : putErr l v m = x := by unfold putErr; rw [if_pos (by rw [h]; exact hx), h]
theorem getErr_x' {l : List Int} {p m x : Int} (h : errOf l = x) (hx : x ≠ 0) : getErr l p m = x := by unfold getErr; rw [if_pos (by rw [h]; exact hx), h]
theorem flip_e' (a ai : Option Addr) (n c ni ci : Nat) (l li : List Int) (x : Int) (w : World) (h : Row .u8 w a n c l) (hi : Row .i64 w ai ni ci li) (he : flipErr l li = x) (hx : x ≠ 0) :
    Calls Try.prog 25 #[.slice a n c, .slice ai ni ci] w fun e w' => e = .returned (.tuple #[.slice none 0 0, .int .i64 x]) ∧ Below w.heap.size w w' := by
  subst he; exact flip_err a ai n c ni ci l li w h hi hx
theorem apart_e' (a1 a2 : Option Addr) (n1 c1 n2 c2 : Nat) (l1 l2 : List Int) (x : Int) (w : World) (h1 : Row .u8 w a1 n1 c1 l1) (h2 : Row .u8 w a2 n2 c2 l2) (he : apartErr l1 l2 = x) (hx : x ≠ 0) :
    Calls Try.prog 26 #[.slice a1 n1 c1, .slice a2 n2 c2] w fun e w' => e = .returned (.tuple #[.slice none 0 0, .int .i64 x]) ∧ w = w' := by
  subst he; exact apart_err a1 a2 n1 c1 n2 c2 l1 l2 w h1 h2 hx
theorem text_e' (a : Option Addr) (n c : Nat) (l : List Int) (x : Int) (w : World) (h : Row .u8 w a n c l) (he : errOf l = x) (hx : x ≠ 0) :
    Calls Try.prog 22 #[.slice a n c] w fun e w' => e = .returned (.tuple #[.string ByteArray.empty, .int .i64 x]) ∧ w = w' := by
  subst he; exact text_err a n c l w h hx
theorem check_e' (a : Option Addr) (n c : Nat) (l : List Int) (x : Int) (w : World) (h : Row .u8 w a n c l) (he : errOf l = x) :
    Calls Try.prog 16 #[.slice a n c] w fun e w' => e = .returned (.int .i64 x) ∧ w = w' := by
  subst he; exact check_any a n c l w h
theorem isBits_zeros (n : Nat) : isBits (List.replicate n 0) = true := (isBits_iff _).2 fun x hx => by rw [List.eq_of_mem_replicate hx]; decide
theorem errOf_zeros {n : Nat} (h : n ≤ 1048576) : errOf (List.replicate n 0) = 0 := errOf_ok (by rw [List.length_replicate]; exact h) (isBits_zeros n)
theorem putErr_full {n : Nat} (h : n = 1048576) : putErr (List.replicate n 0) 0 1 = 3 := by
  unfold putErr
  rw [if_neg (by rw [errOf_zeros (by omega)]; simp), if_neg (by omega), if_neg (by simp), if_pos (by rw [List.length_replicate]; omega)]
theorem putErr_fits {n m : Nat} (h : n + m = 1048576) (h1 : 1 ≤ m) (h2 : m ≤ 64) : putErr (List.replicate n 0) 1 m = 0 := by
  unfold putErr
  have hp : (1 : Int) / 2 ^ m = 0 := Int.ediv_eq_zero_of_lt (by decide) (by
    have : (2 : Int) ^ 1 ≤ 2 ^ m := by exact_mod_cast Nat.pow_le_pow_right (by decide : 0 < 2) h1
    omega)
  rw [if_neg (by rw [errOf_zeros (by omega)]; simp), if_neg (by omega), if_neg (by rw [Int.toNat_natCast, hp]; simp), if_neg (by rw [List.length_replicate]; omega)]

set_option maxHeartbeats 4000000 in
set_option maxRecDepth 100000 in
theorem limits_main (mo : Int) (k : Nat) (bad : Bool) (w : World) (h0 : 0 ≤ mo) (h1 : mo ≤ 255) (hk : mo % 7 = (k : Int)) :
    Calls Try.prog 9 #[.int .u8 mo, .bool bad] w fun e w' => e = .returned (.bool true) ∧ Below w.heap.size w w' := by
  have hmk := make8 (1048576 + (1 + k)) (by omega)
  rw [show (((1048576 + (1 + k) : Nat)) : Int) = 1048576 + (1 + (k : Int)) by omega] at hmk
  have hk7 : k < 7 := by omega
  go_enter Try.func9, Try.ntmps9
  go_upto_region 3 with fail
  have ho := own_made .u8 (1048576 + (1 + k)) 5 w
  have hb1 := below_alloc w (.cells (madeCells #[.int .u8 0] (1048576 + (1 + k))) 5)
  obtain ⟨w1, hw1⟩ : ∃ x, x = w.alloc (.cells (madeCells #[.int .u8 0] (1048576 + (1 + k))) 5) := ⟨_, rfl⟩
  rw [← hw1] at ho hb1 ⊢
  obtain ⟨n, hn⟩ : ∃ n, n = 1048576 + (1 + k) := ⟨_, rfl⟩
  have hlen : (List.replicate (1048576 + (1 + k)) (0 : Int)).length = 1048576 + (1 + k) := by simp
  have hcell := ho.cell 0 (by rw [nums_length, hlen]; omega)
  have hget : (nums .u8 (List.replicate (1048576 + (1 + k)) 0)).getD 0 undef = .int .u8 0 := by
    rw [nums_getD _ _ _ (by rw [hlen]; omega), List.getD_eq_getElem?_getD, List.getElem?_replicate, if_pos (by omega)]
    rfl
  rw [hget] at hcell
  have hfr := ho.frozen 0
  have HO := Lib.hid ho
  have HB := Lib.hid hb1
  clear ho hb1 hw1 hmk hlen hget hn
  have hrep : (List.replicate (1048576 + (1 + k)) (0 : Int)).drop 1 = List.replicate (1048575 + (1 + k)) 0 := by
    rw [List.drop_replicate]
    congr 1
    omega
  have hwf0 : ∀ x ∈ List.replicate (1048576 + (1 + k)) (0 : Int), (Lit.int .u8 x).wf = true := by
    intro x hx
    rw [List.eq_of_mem_replicate hx]; decide
  have HRep := Lib.hid hrep
  have HWf0 := Lib.hid hwf0
  clear hrep hwf0
  cases bad with
  | true =>
    go_wp2_with fail
    obtain ⟨w2, hw2⟩ : ∃ x, x = w1.setCell ⟨w.heap.size, 0, none⟩ (.int .u8 9) := ⟨_, rfl⟩
    have hb2 : Below w.heap.size w w2 := by rw [hw2]; exact HB.out.setCell (Nat.le_refl _) _
    have ho2 := HO.out.set 0 (.int .u8 9)
    rw [← hw2, nums_set] at ho2
    rw [← hw2]
    obtain ⟨L, hLe⟩ : ∃ z, z = (List.replicate (1048576 + (1 + k)) (0 : Int)).set 0 9 := ⟨_, rfl⟩
    have hL : L.length = 1048576 + (1 + k) := by rw [hLe, List.length_set, List.length_replicate]
    have hLd : L.drop 1 = List.replicate (1048575 + (1 + k)) 0 := by rw [hLe, List.drop_set_of_lt (by decide)]; exact HRep.out
    have hwf : ∀ x ∈ L, (Lit.int .u8 x).wf = true := by
      intro x hx
      rw [hLe] at hx
      rcases List.mem_or_eq_of_mem_set hx with h | h
      · exact HWf0.out x h
      · rw [h]; decide
    rw [← hLe] at ho2
    clear hLe hw2 HO HB HRep HWf0 hcell hfr
    have hs : Row .u8 w2 (some ⟨w.heap.size, 0, none⟩) (1048576 + (1 + k)) (1048576 + (1 + k)) L := ho2.row0 _ _ hL.symm (Nat.le_refl _) (by unfold maxLen; omega) hwf
    have hf0 := ho2.row 1 1048576 (1048575 + (1 + k)) (by omega) (by omega) (by unfold maxLen; omega) hwf
    rw [hLd, List.take_replicate, Nat.min_eq_left (by omega)] at hf0
    have he3 : errOf L = 3 := errOf_big (by omega)
    have hLs : (strOfNums L).size = (1048576 + (1 + k)) := by rw [strOfNums_size, hL]
    have B2 := Lib.hid hb2
    have RS := Lib.hid hs
    have RF := Lib.hid hf0
    have HE := Lib.hid he3
    have HLS := Lib.hid hLs
    have HLc : ∀ w3, Below w2.heap.size w2 w3 → ∀ i, i < (1048576 + (1 + k)) → w3.cell? ⟨w.heap.size, 0 + i, none⟩ = some (.int .u8 (L.getD i 0)) := by
      intro w3 hb i hi
      have := (ho2.below hb ho2.lt).cell i (by rw [nums_length, hL]; exact hi)
      rw [Nat.zero_add, this, nums_getD _ _ _ (by rw [hL]; exact hi)]
    have HC := Lib.hid HLc
    have HLl := Lib.hid hL
    clear hb2 hs hf0 he3 hLs HLc ho2 hL hLd hwf
    refine (octets_e _ (1048576 + (1 + k)) (1048576 + (1 + k)) L 3 w2 RS.out HE.out (by decide)).mono ?_
    rintro e w' ⟨rfl, rfl⟩
    go_wp2_with fail
    refine (put_e _ (1048576 + (1 + k)) (1048576 + (1 + k)) L 9 99 3 w2 RS.out (by decide) (by decide) (putErr_x' HE.out (by decide)) (by decide)).mono ?_
    rintro e w' ⟨rfl, rfl⟩
    go_wp2_with fail
    refine (get_e _ (1048576 + (1 + k)) (1048576 + (1 + k)) L (-1) 99 3 w2 RS.out (by decide) (by decide) (getErr_x' HE.out (by decide)) (by decide)).mono ?_
    rintro e w' ⟨rfl, rfl⟩
    go_wp2_with fail
    refine (flip_e' _ _ (1048576 + (1 + k)) (1048576 + (1 + k)) 1 1 L [-1] 3 _ (RS.out.later (below_alloc _ _)) (row_lit .i64 w2 3 [-1] 1 rfl (by decide) (by decide)) (flipErr_of' HE.out (by decide)) (by decide)).mono ?_
    rintro e w3 ⟨rfl, hb⟩
    have B23 := Lib.hid (below_call hb)
    clear hb
    go_wp2_with fail
    refine (apart_e' _ _ 1 1 (1048576 + (1 + k)) (1048576 + (1 + k)) [2] L 1 _ (row_lit .u8 w3 5 [2] 1 rfl (by decide) (by decide)) ((RS.out.later B23.out).later (below_alloc _ _)) (apartErr_1' (by decide) (by decide)) (by decide)).mono ?_
    rintro e w' ⟨rfl, rfl⟩
    obtain ⟨w4, hw4⟩ : ∃ x, x = w3.alloc (.cells (nums .u8 [2]).toArray 5) := ⟨_, rfl⟩
    have hb4 := below_alloc w3 (.cells (nums .u8 [2]).toArray 5)
    rw [← hw4] at hb4 ⊢
    have B24 := Lib.hid (B23.out.trans (hb4.mono B23.out.size))
    clear hb4 hw4 B23
    go_wp2_with fail
    refine (apart_e' _ _ (1048576 + (1 + k)) (1048576 + (1 + k)) 1 1 L [2] 3 _ ((RS.out.later B24.out).later (below_alloc _ _)) (row_lit .u8 w4 5 [2] 1 rfl (by decide) (by decide)) (apartErr_1' HE.out (by decide)) (by decide)).mono ?_
    rintro e w' ⟨rfl, rfl⟩
    obtain ⟨w5, hw5⟩ : ∃ x, x = w4.alloc (.cells (nums .u8 [2]).toArray 5) := ⟨_, rfl⟩
    have hb5 := below_alloc w4 (.cells (nums .u8 [2]).toArray 5)
    rw [← hw5] at hb5 ⊢
    have B25 := Lib.hid (B24.out.trans (hb5.mono B24.out.size))
    clear hb5 hw5 B24
    have RS5 := Lib.hid (RS.out.later B25.out)
    have RF5 := Lib.hid (RF.out.later B25.out)
    have hcv := run_convert_bytes_arg (P := Try.prog) w5 22 5 Try.underlying22 Try.underlying5 w.heap.size 0 (1048576 + (1 + k)) (1048576 + (1 + k)) L HLl.out (HC.out w5 B25.out) 9 Try.underlying9
    go_wp2_with fail
    refine (text_e' _ (1048576 + (1 + k)) (1048576 + (1 + k)) L 3 w5 RS5.out HE.out (by decide)).mono ?_
    rintro e w' ⟨rfl, rfl⟩
    go_wp2_with fail
    refine (parse_big (strOfNums L) w5 (by rw [HLS.out]; omega)).mono ?_
    rintro e w' ⟨rfl, rfl⟩
    clear hcv
    go_wp2_with fail
    refine (put_e _ 1048576 (1048575 + (1 + k)) _ 0 1 3 w5 RF5.out (by decide) (by decide) (putErr_full rfl) (by decide)).mono ?_
    rintro e w' ⟨rfl, rfl⟩
    go_wp2_with fail
    have hfr := (RF5.out.front (1048576 - (1 + k)) (by omega))
    rw [List.take_replicate, Nat.min_eq_left (by omega)] at hfr
    have hpn := put_n _ (1048576 - (1 + k)) (1048575 + (1 + k)) (1 + k) 1048576 _ _ 1 w5 hfr (by decide) (by decide) (putErr_fits (by omega) (by omega) (by omega)) (by omega) rfl
    rw [show (((1 + k : Nat)) : Int) = 1 + (k : Int) by omega] at hpn
    refine hpn.mono ?_
    rintro e w6 ⟨⟨gp, rfl, rp, _⟩, hb⟩
    have B26 := Lib.hid (B25.out.trans (hb.mono B25.out.size))
    have RS6 := Lib.hid (RS5.out.later hb)
    have RF6 := Lib.hid (RF5.out.later hb)
    clear hb rp hpn hfr
    go_wp2_with fail
    refine (check_e' _ 1048576 (1048575 + (1 + k)) _ 0 w6 RF6.out (errOf_zeros (Nat.le_refl _))).mono ?_
    rintro e w' ⟨rfl, rfl⟩
    go_wp2_with fail
    refine (check_e' _ (1048576 + (1 + k)) (1048576 + (1 + k)) L 3 w6 RS6.out HE.out).mono ?_
    rintro e w' ⟨rfl, rfl⟩
    go_wp2_with fail
    refine (lives_any w6).mono ?_
    rintro e w7 ⟨rfl, hb⟩
    have hbb := B26.out.trans (hb.mono B26.out.size)
    have BL := Lib.hid (B2.out.trans (hbb.mono B2.out.size))
    clear hb hbb
    go_wp2
    go_ret
    exact ⟨rfl, BL.out⟩
  | false =>
    go_wp2_with fail
    obtain ⟨w2, hw2⟩ : ∃ x, x = w1 := ⟨_, rfl⟩
    have hb2 := HB.out
    have ho2 := HO.out
    rw [← hw2] at ho2 hb2
    rw [← hw2]
    obtain ⟨L, hLe⟩ : ∃ z, z = List.replicate (1048576 + (1 + k)) (0 : Int) := ⟨_, rfl⟩
    have hL : L.length = 1048576 + (1 + k) := by rw [hLe, List.length_replicate]
    have hLd : L.drop 1 = List.replicate (1048575 + (1 + k)) 0 := by rw [hLe]; exact HRep.out
    have hwf : ∀ x ∈ L, (Lit.int .u8 x).wf = true := by rw [hLe]; exact HWf0.out
    rw [← hLe] at ho2
    clear hLe hw2 HO HB HRep HWf0 hcell hfr
    have hs : Row .u8 w2 (some ⟨w.heap.size, 0, none⟩) (1048576 + (1 + k)) (1048576 + (1 + k)) L := ho2.row0 _ _ hL.symm (Nat.le_refl _) (by unfold maxLen; omega) hwf
    have hf0 := ho2.row 1 1048576 (1048575 + (1 + k)) (by omega) (by omega) (by unfold maxLen; omega) hwf
    rw [hLd, List.take_replicate, Nat.min_eq_left (by omega)] at hf0
    have he3 : errOf L = 3 := errOf_big (by omega)
    have hLs : (strOfNums L).size = (1048576 + (1 + k)) := by rw [strOfNums_size, hL]
    have B2 := Lib.hid hb2
    have RS := Lib.hid hs
    have RF := Lib.hid hf0
    have HE := Lib.hid he3
    have HLS := Lib.hid hLs
    have HLc : ∀ w3, Below w2.heap.size w2 w3 → ∀ i, i < (1048576 + (1 + k)) → w3.cell? ⟨w.heap.size, 0 + i, none⟩ = some (.int .u8 (L.getD i 0)) := by
      intro w3 hb i hi
      have := (ho2.below hb ho2.lt).cell i (by rw [nums_length, hL]; exact hi)
      rw [Nat.zero_add, this, nums_getD _ _ _ (by rw [hL]; exact hi)]
    have HC := Lib.hid HLc
    have HLl := Lib.hid hL
    clear hb2 hs hf0 he3 hLs HLc ho2 hL hLd hwf
    refine (octets_e _ (1048576 + (1 + k)) (1048576 + (1 + k)) L 3 w2 RS.out HE.out (by decide)).mono ?_
    rintro e w' ⟨rfl, rfl⟩
    go_wp2_with fail
    refine (put_e _ (1048576 + (1 + k)) (1048576 + (1 + k)) L 9 99 3 w2 RS.out (by decide) (by decide) (putErr_x' HE.out (by decide)) (by decide)).mono ?_
    rintro e w' ⟨rfl, rfl⟩
    go_wp2_with fail
    refine (get_e _ (1048576 + (1 + k)) (1048576 + (1 + k)) L (-1) 99 3 w2 RS.out (by decide) (by decide) (getErr_x' HE.out (by decide)) (by decide)).mono ?_
    rintro e w' ⟨rfl, rfl⟩
    go_wp2_with fail
    refine (flip_e' _ _ (1048576 + (1 + k)) (1048576 + (1 + k)) 1 1 L [-1] 3 _ (RS.out.later (below_alloc _ _)) (row_lit .i64 w2 3 [-1] 1 rfl (by decide) (by decide)) (flipErr_of' HE.out (by decide)) (by decide)).mono ?_
    rintro e w3 ⟨rfl, hb⟩
    have B23 := Lib.hid (below_call hb)
    clear hb
    go_wp2_with fail
    refine (apart_e' _ _ 1 1 (1048576 + (1 + k)) (1048576 + (1 + k)) [2] L 1 _ (row_lit .u8 w3 5 [2] 1 rfl (by decide) (by decide)) ((RS.out.later B23.out).later (below_alloc _ _)) (apartErr_1' (by decide) (by decide)) (by decide)).mono ?_
    rintro e w' ⟨rfl, rfl⟩
    obtain ⟨w4, hw4⟩ : ∃ x, x = w3.alloc (.cells (nums .u8 [2]).toArray 5) := ⟨_, rfl⟩
    have hb4 := below_alloc w3 (.cells (nums .u8 [2]).toArray 5)
    rw [← hw4] at hb4 ⊢
    have B24 := Lib.hid (B23.out.trans (hb4.mono B23.out.size))
    clear hb4 hw4 B23
    go_wp2_with fail
    refine (apart_e' _ _ (1048576 + (1 + k)) (1048576 + (1 + k)) 1 1 L [2] 3 _ ((RS.out.later B24.out).later (below_alloc _ _)) (row_lit .u8 w4 5 [2] 1 rfl (by decide) (by decide)) (apartErr_1' HE.out (by decide)) (by decide)).mono ?_
    rintro e w' ⟨rfl, rfl⟩
    obtain ⟨w5, hw5⟩ : ∃ x, x = w4.alloc (.cells (nums .u8 [2]).toArray 5) := ⟨_, rfl⟩
    have hb5 := below_alloc w4 (.cells (nums .u8 [2]).toArray 5)
    rw [← hw5] at hb5 ⊢
    have B25 := Lib.hid (B24.out.trans (hb5.mono B24.out.size))
    clear hb5 hw5 B24
    have RS5 := Lib.hid (RS.out.later B25.out)
    have RF5 := Lib.hid (RF.out.later B25.out)
    have hcv := run_convert_bytes_arg (P := Try.prog) w5 22 5 Try.underlying22 Try.underlying5 w.heap.size 0 (1048576 + (1 + k)) (1048576 + (1 + k)) L HLl.out (HC.out w5 B25.out) 9 Try.underlying9
    go_wp2_with fail
    refine (text_e' _ (1048576 + (1 + k)) (1048576 + (1 + k)) L 3 w5 RS5.out HE.out (by decide)).mono ?_
    rintro e w' ⟨rfl, rfl⟩
    go_wp2_with fail
    refine (parse_big (strOfNums L) w5 (by rw [HLS.out]; omega)).mono ?_
    rintro e w' ⟨rfl, rfl⟩
    clear hcv
    go_wp2_with fail
    refine (put_e _ 1048576 (1048575 + (1 + k)) _ 0 1 3 w5 RF5.out (by decide) (by decide) (putErr_full rfl) (by decide)).mono ?_
    rintro e w' ⟨rfl, rfl⟩
    go_wp2_with fail
    have hfr := (RF5.out.front (1048576 - (1 + k)) (by omega))
    rw [List.take_replicate, Nat.min_eq_left (by omega)] at hfr
    have hpn := put_n _ (1048576 - (1 + k)) (1048575 + (1 + k)) (1 + k) 1048576 _ _ 1 w5 hfr (by decide) (by decide) (putErr_fits (by omega) (by omega) (by omega)) (by omega) rfl
    rw [show (((1 + k : Nat)) : Int) = 1 + (k : Int) by omega] at hpn
    refine hpn.mono ?_
    rintro e w6 ⟨⟨gp, rfl, rp, _⟩, hb⟩
    have B26 := Lib.hid (B25.out.trans (hb.mono B25.out.size))
    have RS6 := Lib.hid (RS5.out.later hb)
    have RF6 := Lib.hid (RF5.out.later hb)
    clear hb rp hpn hfr
    go_wp2_with fail
    refine (check_e' _ 1048576 (1048575 + (1 + k)) _ 0 w6 RF6.out (errOf_zeros (Nat.le_refl _))).mono ?_
    rintro e w' ⟨rfl, rfl⟩
    go_wp2_with fail
    refine (check_e' _ (1048576 + (1 + k)) (1048576 + (1 + k)) L 3 w6 RS6.out HE.out).mono ?_
    rintro e w' ⟨rfl, rfl⟩
    go_wp2_with fail
    refine (lives_any w6).mono ?_
    rintro e w7 ⟨rfl, hb⟩
    have hbb := B26.out.trans (hb.mono B26.out.size)
    have BL := Lib.hid (B2.out.trans (hbb.mono B2.out.size))
    clear hb hbb
    go_wp2
    go_ret
    exact ⟨rfl, BL.out⟩

theorem bitsLimits_walk (mo : Int) (bad : Bool) (w : World) (hm : (Lit.int .u8 mo).wf = true) :
    Calls Try.prog 9 #[.int .u8 mo, .bool bad] w fun e w' => e = .returned (.bool true) ∧ Below w.heap.size w w' := by
  obtain ⟨h0, h1⟩ := wf_u8.1 hm
  obtain ⟨k, hk⟩ := Int.eq_ofNat_of_zero_le (by omega : 0 ≤ mo % 7)
  exact limits_main mo k bad w h0 h1 hk
end Go.Proofs.Ytjadmhmfjjjcfaa
