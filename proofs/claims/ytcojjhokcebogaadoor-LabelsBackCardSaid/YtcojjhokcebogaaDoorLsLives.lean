/- The statements' own function lives. -/
import Derived.Test.YtcojjhokcebogaaDoorLbDec
import Derived.Test.YtcojjhokcebogaaDoorLbText
import Derived.Test.YtcojjhokcebogaaDoorLbLink
import Derived.Test.YtcojjhokcebogaaDoorRowStr
namespace Go.Proofs.YtcojjhokcebogaaDoor
open Go.RowKit

theorem lp1 (W : World) : Calls Tryd.prog 13 #[.string ⟨#[48, 45, 51, 48, 48, 45, 49]⟩] W fun e w' => e = .returned (.tuple #[.int .u16 0, .int .i64 1]) ∧ Below W.heap.size W w' := by
  have h := parse_any [48, 45, 51, 48, 48, 45, 49] W (by decide)
  rw [show parseP [48, 45, 51, 48, 48, 45, 49] = 0 by decide +kernel, show parseE [48, 45, 51, 48, 48, 45, 49] = 1 by decide +kernel] at h
  exact h
theorem lp2 (W : World) : Calls Tryd.prog 13 #[.string ⟨#[49, 45, 48, 50, 45, 51]⟩] W fun e w' => e = .returned (.tuple #[.int .u16 0, .int .i64 4]) ∧ Below W.heap.size W w' := by
  have h := parse_any [49, 45, 48, 50, 45, 51] W (by decide)
  rw [show parseP [49, 45, 48, 50, 45, 51] = 0 by decide +kernel, show parseE [49, 45, 48, 50, 45, 51] = 4 by decide +kernel] at h
  exact h
theorem lt1 (W : World) (hW : PowOk W) : Calls Tryd.prog 11 #[.int .u16 4114] W fun e w' => e = .returned (.string ⟨#[50, 45, 50, 45, 50]⟩) ∧ Below W.heap.size W w' := by
  have h := text_any 4114 W (by decide) hW
  rw [show pcL 4114 = [50, 45, 50, 45, 50] by decide +kernel] at h
  exact h
theorem lt2 (W : World) (hW : PowOk W) : Calls Tryd.prog 11 #[.int .u16 16383] W fun e w' => e = .returned (.string ⟨#[55, 45, 50, 53, 53, 45, 55]⟩) ∧ Below W.heap.size W w' := by
  have h := text_any 16383 W (by decide) hW
  rw [show pcL 16383 = [55, 45, 50, 53, 53, 45, 55] by decide +kernel] at h
  exact h
theorem lr1 (W : World) : Calls Tryd.prog 23 #[.int .u8 6] W fun e w' => e = .returned (.int .u8 9) ∧ W = w' := by
  have h := rotate_any 6 W (by decide) (by decide)
  rw [show rotL 6 = 9 by decide] at h
  exact h
theorem le1 (g : Nat) (W : World) (h : Own W g 5 [.int .u8 7]) : Calls Tryd.prog 17 #[.agg #[.int .u8 5, .int .u8 2, .int .u8 1, .int .u16 4114, .int .u16 1, .int .u8 9, .slice (some ⟨g, 0, none⟩) 1 1]] W fun e w' =>
    ∃ g, e = .returned (.tuple #[.slice (some ⟨g, 0, none⟩) 6 6, .int .i64 0]) ∧ W.heap.size ≤ g ∧ Own w' g 5 (nums .u8 [149, 18, 80, 0, 144, 7]) ∧ Below W.heap.size W w' := by
  have hr : Row .u8 W (some ⟨g, 0, none⟩) 1 1 [7] := Own.row0 (l := [7]) h 1 1 rfl (by decide) (by decide) (by decide)
  have h := encode_ok 5 2 1 4114 1 9 (some ⟨g, 0, none⟩) 1 1 [7] W hr (by decide) (by decide) (by decide) (by decide) (by decide) (by decide) (by decide)
  rw [show encM 5 2 1 4114 1 9 [7] = [149, 18, 80, 0, 144, 7] by decide +kernel] at h
  exact h
set_option maxHeartbeats 2000000 in
set_option maxRecDepth 100000 in
theorem lives_any (w : World) (hp : PowOk w) :
    Calls Tryd.prog 12 #[] w fun e w' => e = .returned (.bool true) ∧ Below w.heap.size w w' := by
  have HP := Lib.hid hp
  clear hp
  go_enter Tryd.func12, Tryd.ntmps12
  go_wp2_with fail
  refine (lp1 _).mono ?_
  rintro e w1 ⟨rfl, hb1⟩
  have B1 := Lib.hid hb1
  clear hb1
  go_wp2_with fail
  refine (lp2 _).mono ?_
  rintro e w2 ⟨rfl, hb2⟩
  have B2 := Lib.hid (B1.out.trans (hb2.mono B1.out.size))
  clear hb2
  go_upto_region 4 with fail
  have o7 := (own_lit w2 5 #[.int .u8 7] _ rfl).below (below_alloc _ (.cells #[.int .u8 5, .int .u8 2, .int .u8 1, .int .u16 4114, .int .u16 1, .int .u8 9, .slice (some ⟨w2.heap.size, 0, none⟩) 1 1] 38)) (by simp)
  have om := own_lit (w2.alloc (.cells #[.int .u8 7] 5)) 38 #[.int .u8 5, .int .u8 2, .int .u8 1, .int .u16 4114, .int .u16 1, .int .u8 9, .slice (some ⟨w2.heap.size, 0, none⟩) 1 1] _ rfl
  rw [World.size_alloc] at om
  have hb3 := below_two w2 (.cells #[.int .u8 7] 5) (.cells #[.int .u8 5, .int .u8 2, .int .u8 1, .int .u16 4114, .int .u16 1, .int .u8 9, .slice (some ⟨w2.heap.size, 0, none⟩) 1 1] 38)
  have B3 := Lib.hid (B2.out.trans (hb3.mono B2.out.size))
  clear hb3
  generalize ((w2.alloc (.cells #[.int .u8 7] 5)).alloc (.cells #[.int .u8 5, .int .u8 2, .int .u8 1, .int .u16 4114, .int .u16 1, .int .u8 9, .slice (some ⟨w2.heap.size, 0, none⟩) 1 1] 38)) = W3 at *
  obtain ⟨c0, c1, c2, c3, c4, c5, c6⟩ := unit_cells om
  have HO7 := Lib.hid o7
  clear o7 om
  go_wp2_with fail
  refine (le1 _ _ HO7.out).mono ?_
  rintro e w4 ⟨g, rfl, hg, ho4, hb4⟩
  have B4 := Lib.hid (B3.out.trans (hb4.mono B3.out.size))
  have hgl := ho4.lt
  have HO4 := Lib.hid ho4
  clear hb4 ho4 c0 c1 c2 c3 c4 c5 c6
  go_wp2_with fail
  refine (lt1 _ (HP.out.later B4.out)).mono ?_
  rintro e w5 ⟨rfl, hb5⟩
  have HO5 := Lib.hid (HO4.out.below hb5 hgl)
  have B5 := Lib.hid (B4.out.trans (hb5.mono B4.out.size))
  have s5 := hb5.size
  clear hb5
  go_wp2_with fail
  refine (lt2 _ (HP.out.later B5.out)).mono ?_
  rintro e w6 ⟨rfl, hb6⟩
  have ho6 := HO5.out.below hb6 (by omega)
  have HB6 := Lib.hid (B5.out.trans (hb6.mono B5.out.size))
  have hrow : Row .u8 w6 (some ⟨g, 0, none⟩) 6 6 [149, 18, 80, 0, 144, 7] := Own.row0 (l := [149, 18, 80, 0, 144, 7]) ho6 6 6 rfl (by decide) (by decide) (by decide)
  have hr := row_string _ _ _ _ _ hrow
  clear hb6 ho6 hrow
  have hrow2 : Row .u8 (w6.alloc (.cells #[.int .u8 149, .int .u8 18, .int .u8 80, .int .u8 0, .int .u8 144, .int .u8 7] 5)) (some ⟨w6.heap.size, 0, none⟩) 6 6 [149, 18, 80, 0, 144, 7] :=
    Own.row0 (l := [149, 18, 80, 0, 144, 7]) (own_lit w6 5 #[.int .u8 149, .int .u8 18, .int .u8 80, .int .u8 0, .int .u8 144, .int .u8 7] _ rfl) 6 6 rfl (by decide) (by decide) (by decide)
  have hr2 := row_string _ _ _ _ _ hrow2
  have HB7 := Lib.hid (HB6.out.trans ((below_alloc w6 (.cells #[.int .u8 149, .int .u8 18, .int .u8 80, .int .u8 0, .int .u8 144, .int .u8 7] 5)).mono HB6.out.size))
  clear hrow2
  go_wp2_with fail
  refine (lr1 _).mono ?_
  rintro e w8 ⟨rfl, rfl⟩
  go_wp2
  go_ret
  exact ⟨rfl, HB7.out⟩
end Go.Proofs.YtcojjhokcebogaaDoor
