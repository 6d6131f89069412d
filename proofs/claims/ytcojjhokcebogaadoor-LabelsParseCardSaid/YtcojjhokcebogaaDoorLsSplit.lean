/- Contract: strings.Split at "-". -/
import Derived.Test.YtcojjhokcebogaaDoorLbSplitLay
import Derived.Test.YtcojjhokcebogaaDoorLbCut
import Derived.Lib.SplitLaws
namespace Go.Proofs.YtcojjhokcebogaaDoor
open Go.RowKit

theorem indexB_bs (l : List UInt8) : Lib.indexB (bs l) ⟨#[45]⟩ = Lib.indexByte l 45 := by
  show Lib.index (bs l).data.toList [45] = _
  rw [bs_data, Lib.index_one]
theorem countB_bs (l : List UInt8) : Lib.countB (bs l) ⟨#[45]⟩ = l.count 45 := by
  show Lib.count (bs l).data.toList [45] = _
  rw [bs_data, Lib.count_one]
/-- The pieces. -/
theorem split_any (l : List UInt8) (w : World) (hl : l.length ≤ 1000) :
    Calls Tryd.prog 15 #[.string (bs l), .string ⟨#[45]⟩] w fun e w' =>
      e = .returned (.slice (some ⟨w.heap.size, 0, none⟩) (l.count 45 + 1) (l.count 45 + 1)) ∧ w' = w.alloc (.cells ((Lib.splitB ⟨#[45]⟩ 0 (l.count 45) (bs l)).map Value.string).toArray 9) := by
  have hsz := bs_len l
  have hc := countB_bs l
  have h1 : 1 ≤ (⟨#[45]⟩ : ByteArray).size := by decide
  have hle := List.count_le_length (a := (45 : UInt8)) (l := l)
  have hlen := Lib.splitB_all ⟨#[45]⟩ h1 0 _ (bs l) rfl
  have hC : Calls Tryd.prog 43 #[.string (bs l), .string ⟨#[45]⟩] w fun e w' => e = .returned (.int .i64 (Lib.countB (bs l) ⟨#[45]⟩)) ∧ w' = w := by
    refine (Any.strings_Count_one { lay221 with } (bs l) 45 w).mono fun e w' ⟨he, hw⟩ => ⟨?_, hw⟩
    rw [he, hc]
    show _ = Ending.returned (Value.int .i64 ((l.count 45 : Nat) : Int))
    rw [bs_data]
    rfl
  have c := Any.strings_genSplit_core lay221 (by kernel_rfl) (bs l) ⟨#[45]⟩ 0 (-1) (l.count 45 + 1) w (by rw [hsz]; omega) h1 (Nat.zero_le _)
    (fun x cc hx => by
      have hi : Lib.indexB x ⟨#[45]⟩ = Lib.indexByte x.data.toList 45 := Lib.index_one _ _
      rw [hi]
      exact Any.strings_Index_one { lay221 with } x 45 _)
    hC (by decide) (by decide) (by rw [if_pos (by decide), hc, hsz]; omega)
  rw [Nat.add_sub_cancel] at c
  rw [← hc] at c ⊢
  rw [hlen] at c
  have e2 : Lib.cellsOf (Lib.splitB ⟨#[45]⟩ 0 (Lib.countB (bs l) ⟨#[45]⟩) (bs l)) (Lib.countB (bs l) ⟨#[45]⟩ + 1) = ((Lib.splitB ⟨#[45]⟩ 0 (Lib.countB (bs l) ⟨#[45]⟩) (bs l)).map Value.string).toArray := by rw [← hlen]; exact Lib.cellsOf_full _
  rw [e2] at c
  have C := Lib.hid (show Calls Tryd.prog 32 #[.string (bs l), .string ⟨#[45]⟩, .int .i64 0, .int .i64 (-1)] w fun e w' =>
      e = .returned (.slice (some ⟨w.heap.size, 0, none⟩) (Lib.countB (bs l) ⟨#[45]⟩ + 1) (Lib.countB (bs l) ⟨#[45]⟩ + 1)) ∧ w' = w.alloc (.cells ((Lib.splitB ⟨#[45]⟩ 0 (Lib.countB (bs l) ⟨#[45]⟩) (bs l)).map Value.string).toArray 9) from c)
  clear c e2 hlen hC hc hsz hle
  go_enter Tryd.func15, Tryd.ntmps15
  go_wp2_with fail
  refine (C.out).mono ?_
  rintro e w' ⟨rfl, hw⟩
  subst hw
  go_wp2
  go_ret
  exact ⟨rfl, rfl⟩
/-- Two separators: three pieces. -/
theorem split_three {l : List UInt8} (h : l.count 45 = 2) : Lib.splitB ⟨#[45]⟩ 0 2 (bs l) = [bs (hd l), bs (hd (tl l)), bs (tl (tl l))] := by
  obtain ⟨e, h1, h2, h3⟩ := count_two h
  have s1 : (⟨#[45]⟩ : ByteArray).size = 1 := rfl
  generalize hd l = a at *
  generalize hd (tl l) = b at *
  generalize tl (tl l) = c at *
  subst e
  have i1 : Lib.indexB (bs (a ++ 45 :: (b ++ 45 :: c))) ⟨#[45]⟩ = a.length := by rw [indexB_bs]; exact index_at _ _ h1
  have i2 : Lib.indexB (bs (b ++ 45 :: c)) ⟨#[45]⟩ = b.length := by rw [indexB_bs]; exact index_at _ _ h2
  rw [Lib.splitB_hit _ _ _ _ _ i1, Nat.add_zero, bs_front, s1, show (bs (a ++ 45 :: (b ++ 45 :: c))).size = a.length + 1 + (b ++ 45 :: c).length by rw [bs_len]; simp; omega, bs_back,
    Lib.splitB_hit _ _ _ _ _ i2, Nat.add_zero, bs_front, s1, show (bs (b ++ 45 :: c)).size = b.length + 1 + c.length by rw [bs_len]; simp; omega, bs_back]
  rfl
end Go.Proofs.YtcojjhokcebogaaDoor
