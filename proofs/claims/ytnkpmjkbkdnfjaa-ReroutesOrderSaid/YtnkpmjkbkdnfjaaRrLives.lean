/- Layer 17: the chapter's example. -/
import Derived.Test.YtnkpmjkbkdnfjaaRrNum
namespace Go.Proofs.Ytnkpmjkbkdnfjaa
open Go.RowKit

theorem arg_one (n g : Nat) (w : World) (hr : Row .u8 w (some ⟨g, 0, none⟩) 1 1 [(n : Int) % 256]) :
    ArgIts (w.alloc (.cells #[.int .i64 (n : Int), .int .u8 5, .int .u8 0, .int .u8 0, .int .u16 0, .int .u16 0, .int .u8 0, .slice (some ⟨g, 0, none⟩) 1 1] 56)) (some ⟨w.heap.size, 0, none⟩) 1 [{ itN n with loc := some ⟨g, 0, none⟩ }] (fun _ => 1) := by
  have ho := own_lit w 56 #[.int .i64 (n : Int), .int .u8 5, .int .u8 0, .int .u8 0, .int .u16 0, .int .u16 0, .int .u8 0, .slice (some ⟨g, 0, none⟩) 1 1] _ rfl
  refine ⟨rfl, .inr ⟨w.heap.size, 0, rfl, fun i hi => ?_⟩, fun i hi => ?_, fun i hi => ?_⟩
  · obtain rfl : i = 0 := by omega
    exact ⟨ho.cell 0 (by simp), ho.cell 1 (by simp), ho.cell 2 (by simp), ho.cell 3 (by simp), ho.cell 4 (by simp), ho.cell 5 (by simp), ho.cell 6 (by simp), ho.cell 7 (by simp)⟩
  · obtain rfl : i = 0 := by omega
    exact hr.later (below_alloc w _)
  · obtain rfl : i = 0 := by omega
    show 1 ≤ 1000000; decide
theorem arg_two (n m g k : Nat) (w : World) (hr : Row .u8 w (some ⟨g, 0, none⟩) 1 1 [(n : Int) % 256]) (hr2 : Row .u8 w (some ⟨k, 0, none⟩) 1 1 [(m : Int) % 256]) :
    ArgIts (w.alloc (.cells #[.int .i64 (n : Int), .int .u8 5, .int .u8 0, .int .u8 0, .int .u16 0, .int .u16 0, .int .u8 0, .slice (some ⟨g, 0, none⟩) 1 1, .int .i64 (m : Int), .int .u8 5, .int .u8 0, .int .u8 0, .int .u16 0, .int .u16 0, .int .u8 0, .slice (some ⟨k, 0, none⟩) 1 1] 56)) (some ⟨w.heap.size, 0, none⟩) 2
      [{ itN n with loc := some ⟨g, 0, none⟩ }, { itN m with loc := some ⟨k, 0, none⟩ }] (fun _ => 1) := by
  have ho := own_lit w 56 #[.int .i64 (n : Int), .int .u8 5, .int .u8 0, .int .u8 0, .int .u16 0, .int .u16 0, .int .u8 0, .slice (some ⟨g, 0, none⟩) 1 1, .int .i64 (m : Int), .int .u8 5, .int .u8 0, .int .u8 0, .int .u16 0, .int .u16 0, .int .u8 0, .slice (some ⟨k, 0, none⟩) 1 1] _ rfl
  have two : ∀ i, i < 2 → i = 0 ∨ i = 1 := fun i hi => by omega
  refine ⟨rfl, .inr ⟨w.heap.size, 0, rfl, fun i hi => ?_⟩, fun i hi => ?_, fun i hi => ?_⟩
  · rcases two i hi with rfl | rfl
    · exact ⟨ho.cell 0 (by simp), ho.cell 1 (by simp), ho.cell 2 (by simp), ho.cell 3 (by simp), ho.cell 4 (by simp), ho.cell 5 (by simp), ho.cell 6 (by simp), ho.cell 7 (by simp)⟩
    · exact ⟨ho.cell 8 (by simp), ho.cell 9 (by simp), ho.cell 10 (by simp), ho.cell 11 (by simp), ho.cell 12 (by simp), ho.cell 13 (by simp), ho.cell 14 (by simp), ho.cell 15 (by simp)⟩
  · rcases two i hi with rfl | rfl
    · exact hr.later (below_alloc w _)
    · exact hr2.later (below_alloc w _)
  · rcases two i hi with rfl | rfl
    · show 1 ≤ 1000000; decide
    · show 1 ≤ 1000000; decide
def lv0 : Pn := Pn.fresh 10
def lv1 : Pn := lv0.offer 1
def lv2 : Pn := lv1.offer 2
def lv3 : Pn := lv2.went 5 ⟨1, 0, 1, 0⟩
def lv4 : Pn := lv3.offer 3
def lv5 : Pn := lv4.went 15 ⟨2, 0, 2, 0⟩
def lv6 : Pn := lv5.cut
def lv7 : Pn := lv6.offer 4
def lv8 : Pn := lv7.back [3]
def lv9 : Pn := lv8.went 16 ⟨2, 0, 2, 1⟩
set_option maxHeartbeats 4000000 in
set_option maxRecDepth 100000 in
theorem lives_any (w : World) : Calls Try.prog 9 #[] w fun e w' => e = .returned (.bool true) ∧ Below w.heap.size w w' := by
  go_enter Try.func9, Try.ntmps9
  go_wp2_with fail
  refine (new_any 10 w (by decide) (by decide)).mono ?_
  rintro e w1 ⟨rfl, h1, b1⟩
  have hg := GN.start h1 b1
  obtain ⟨b, hb⟩ : ∃ b, b = w.heap.size := ⟨_, rfl⟩
  rw [← hb] at hg ⊢
  obtain ⟨x0, hx0⟩ : ∃ x, x = Gt.fresh 10 := ⟨_, rfl⟩
  rw [← hx0] at hg
  have HG := Lib.hid (show GN w w1 b x0 lv0 from hg)
  clear hg h1 b1 hb hx0
  go_wp2_with fail
  refine (item_any 1 _ (by decide)).mono ?_
  rintro e w2 ⟨g2, rfl, hr, hgg, hb⟩
  have hg2 := HG.out.more hb
  have HG := Lib.hid hg2
  clear hg2
  have HC := Lib.hid (offerN w b x0 lv0 1 g2 w2 HG.out (by decide) hr)
  clear hr hgg hb
  go_wp2_with fail
  refine HC.out.mono ?_
  rintro e w3 ⟨x3, rfl, ht, hg⟩
  have HG := Lib.hid (show GN w w3 b x3 lv1 from hg)
  clear ht hg HC
  go_wp2_with fail
  refine (item_any 2 _ (by decide)).mono ?_
  rintro e w4 ⟨g4, rfl, hr, hgg, hb⟩
  have hg2 := HG.out.more hb
  have HG := Lib.hid hg2
  clear hg2
  have HC := Lib.hid (offerN w b x3 lv1 2 g4 w4 HG.out (by decide) hr)
  clear hr hgg hb
  go_wp2_with fail
  refine HC.out.mono ?_
  rintro e w5 ⟨x5, rfl, ht, hg⟩
  have HG := Lib.hid (show GN w w5 b x5 lv2 from hg)
  clear ht hg HC
  go_wp2_with fail
  refine (wayN_any 0 _ (by decide) (by decide)).mono ?_
  rintro e w6 ⟨rfl, hb⟩
  have hg2 := HG.out.more hb
  have HG := Lib.hid hg2
  clear hg2
  clear hb
  have HC := Lib.hid (passN_ok w b x5 lv2 5 1 0 1 0 w6 HG.out (by decide) (by decide) (by decide))
  go_wp2_with fail
  refine HC.out.mono ?_
  rintro e w7 ⟨aa, Ca, x7, rfl, hna, ho, ht, hg⟩
  have HG := Lib.hid (show GN w w7 b x7 lv3 from hg)
  have Oa := Lib.hid ho.off
  have Na := Lib.hid hna
  clear ht hg ho hna HC
  go_wp2_with fail
  refine (item_any 3 _ (by decide)).mono ?_
  rintro e w8 ⟨g8, rfl, hr, hgg, hb⟩
  have hg2 := HG.out.more hb
  have oa2 := Oa.out.more hb
  have HG := Lib.hid hg2
  clear hg2
  have Oa := Lib.hid oa2
  clear oa2
  have HC := Lib.hid (offerN w b x7 lv3 3 g8 w8 HG.out (by decide) hr)
  clear hr hgg hb
  go_wp2_with fail
  refine HC.out.mono ?_
  rintro e w9 ⟨x9, rfl, ht, hg⟩
  have oa2 := Oa.out.act ht
  have HG := Lib.hid (show GN w w9 b x9 lv4 from hg)
  have Oa := Lib.hid oa2
  clear oa2
  clear ht hg HC
  go_wp2_with fail
  refine (wayN_any 1 _ (by decide) (by decide)).mono ?_
  rintro e w10 ⟨rfl, hb⟩
  have hg2 := HG.out.more hb
  have oa2 := Oa.out.more hb
  have HG := Lib.hid hg2
  clear hg2
  have Oa := Lib.hid oa2
  clear oa2
  clear hb
  have HC := Lib.hid (passN_no w b x9 lv4 8 2 0 2 0 w10 HG.out (by decide))
  go_wp2_with fail
  refine HC.out.mono ?_
  rintro e w11 ⟨a11, C11, x11, rfl, hn, ho, ht, hg⟩
  have oa2 := Oa.out.act ht
  have HG := Lib.hid hg
  have Oa := Lib.hid oa2
  clear oa2
  clear ht hg hn ho HC
  go_wp2_with fail
  refine (wayN_any 1 _ (by decide) (by decide)).mono ?_
  rintro e w12 ⟨rfl, hb⟩
  have hg2 := HG.out.more hb
  have oa2 := Oa.out.more hb
  have HG := Lib.hid hg2
  clear hg2
  have Oa := Lib.hid oa2
  clear oa2
  clear hb
  have HC := Lib.hid (passN_ok w b x11 lv4 15 2 0 2 0 w12 HG.out (by decide) (by decide) (by decide))
  go_wp2_with fail
  refine HC.out.mono ?_
  rintro e w13 ⟨ac, Cc, x13, rfl, hnc, ho, ht, hg⟩
  have oa2 := Oa.out.act ht
  have HG := Lib.hid (show GN w w13 b x13 lv5 from hg)
  have Oa := Lib.hid oa2
  clear oa2
  have Oc := Lib.hid ho.off
  have Nc := Lib.hid hnc
  clear ht hg ho hnc HC
  have HC := Lib.hid (cutN_ok w b x13 lv5 w13 HG.out (by decide) (by decide))
  go_wp2_with fail
  refine HC.out.mono ?_
  rintro e w14 ⟨x14, rfl, ht, hg⟩
  have oa2 := Oa.out.act ht
  have oc2 := Oc.out.act ht
  have HG := Lib.hid (show GN w w14 b x14 lv6 from hg)
  have Oa := Lib.hid oa2
  clear oa2
  have Oc := Lib.hid oc2
  clear oc2
  clear ht hg HC
  go_wp2_with fail
  refine (item_any 4 _ (by decide)).mono ?_
  rintro e w15 ⟨g15, rfl, hr, hgg, hb⟩
  have hg2 := HG.out.more hb
  have oa2 := Oa.out.more hb
  have oc2 := Oc.out.more hb
  have HG := Lib.hid hg2
  clear hg2
  have Oa := Lib.hid oa2
  clear oa2
  have Oc := Lib.hid oc2
  clear oc2
  have HC := Lib.hid (offerN w b x14 lv6 4 g15 w15 HG.out (by decide) hr)
  clear hr hgg hb
  go_wp2_with fail
  refine HC.out.mono ?_
  rintro e w16 ⟨x16, rfl, ht, hg⟩
  have oa2 := Oa.out.act ht
  have oc2 := Oc.out.act ht
  have HG := Lib.hid (show GN w w16 b x16 lv7 from hg)
  have Oa := Lib.hid oa2
  clear oa2
  have Oc := Lib.hid oc2
  clear oc2
  clear ht hg HC
  go_wp2_with fail
  refine (wayN_any 1 _ (by decide) (by decide)).mono ?_
  rintro e w17 ⟨rfl, hb⟩
  have hg2 := HG.out.more hb
  have oa2 := Oa.out.more hb
  have oc2 := Oc.out.more hb
  have HG := Lib.hid hg2
  clear hg2
  have Oa := Lib.hid oa2
  clear oa2
  have Oc := Lib.hid oc2
  clear oc2
  clear hb
  have HC := Lib.hid (passN_no w b x16 lv7 50 2 0 2 0 w17 HG.out (by decide))
  go_wp2_with fail
  refine HC.out.mono ?_
  rintro e w18 ⟨a18, C18, x18, rfl, hn, ho, ht, hg⟩
  have oa2 := Oa.out.act ht
  have oc2 := Oc.out.act ht
  have HG := Lib.hid hg
  have Oa := Lib.hid oa2
  clear oa2
  have Oc := Lib.hid oc2
  clear oc2
  clear ht hg hn ho HC
  go_wp2_with fail
  refine (item_any 3 _ (by decide)).mono ?_
  rintro e w19 ⟨g19, rfl, hr, hgg, hb⟩
  have hg2 := HG.out.more hb
  have oa2 := Oa.out.more hb
  have oc2 := Oc.out.more hb
  have HG := Lib.hid hg2
  clear hg2
  have Oa := Lib.hid oa2
  clear oa2
  have Oc := Lib.hid oc2
  clear oc2
  have hA := arg_one 3 g19 w19 hr
  have hb2 := below_alloc w19 (.cells #[.int .i64 3, .int .u8 5, .int .u8 0, .int .u8 0, .int .u16 0, .int .u16 0, .int .u8 0, .slice (some ⟨g19, 0, none⟩) 1 1] 56)
  clear hb
  have hg2 := HG.out.more hb2
  have oa2 := Oa.out.more hb2
  have oc2 := Oc.out.more hb2
  have HG := Lib.hid hg2
  clear hg2
  have Oa := Lib.hid oa2
  clear oa2
  have Oc := Lib.hid oc2
  clear oc2
  have HC := Lib.hid (returnN w b x18 lv7 _ 1 1 [3] _ _ _ HG.out (by decide) hA rfl (by decide))
  clear hr hgg hA hb2
  go_wp2_with fail
  refine HC.out.mono ?_
  rintro e w20 ⟨x20, rfl, ht, hg⟩
  have oa2 := Oa.out.act ht
  have oc2 := Oc.out.act ht
  have HG := Lib.hid (show GN w w20 b x20 lv8 from hg)
  have Oa := Lib.hid oa2
  clear oa2
  have Oc := Lib.hid oc2
  clear oc2
  clear ht hg HC
  go_wp2_with fail
  refine (wayN_any 0 _ (by decide) (by decide)).mono ?_
  rintro e w21 ⟨rfl, hb⟩
  have hg2 := HG.out.more hb
  have oa2 := Oa.out.more hb
  have oc2 := Oc.out.more hb
  have HG := Lib.hid hg2
  clear hg2
  have Oa := Lib.hid oa2
  clear oa2
  have Oc := Lib.hid oc2
  clear oc2
  clear hb
  have HC := Lib.hid (passN_no w b x20 lv8 16 1 0 1 0 w21 HG.out (by decide))
  go_wp2_with fail
  refine HC.out.mono ?_
  rintro e w22 ⟨a22, C22, x22, rfl, hn, ho, ht, hg⟩
  have oa2 := Oa.out.act ht
  have oc2 := Oc.out.act ht
  have HG := Lib.hid hg
  have Oa := Lib.hid oa2
  clear oa2
  have Oc := Lib.hid oc2
  clear oc2
  clear ht hg hn ho HC
  go_wp2_with fail
  refine (wayN_any 4 _ (by decide) (by decide)).mono ?_
  rintro e w23 ⟨rfl, hb⟩
  have hg2 := HG.out.more hb
  have oa2 := Oa.out.more hb
  have oc2 := Oc.out.more hb
  have HG := Lib.hid hg2
  clear hg2
  have Oa := Lib.hid oa2
  clear oa2
  have Oc := Lib.hid oc2
  clear oc2
  clear hb
  have HC := Lib.hid (passN_ok w b x22 lv8 16 2 0 2 1 w23 HG.out (by decide) (by decide) (by decide))
  go_wp2_with fail
  refine HC.out.mono ?_
  rintro e w24 ⟨aj, Cj, x24, rfl, hnj, ho, ht, hg⟩
  have oa2 := Oa.out.act ht
  have oc2 := Oc.out.act ht
  have HG := Lib.hid (show GN w w24 b x24 lv9 from hg)
  have Oa := Lib.hid oa2
  clear oa2
  have Oc := Lib.hid oc2
  clear oc2
  have Oj := Lib.hid ho.off
  have Nj := Lib.hid hnj
  clear ht hg ho hnj HC
  have hb := below_alloc w24 (.cells #[.int .i64 1, .int .i64 2] 3)
  have hr : Row .i64 (w24.alloc (.cells #[.int .i64 1, .int .i64 2] 3)) (some ⟨w24.heap.size, 0, none⟩) 2 2 (([1, 2] : List Nat).map (fun n : Nat => (n : Int))) := row_lit .i64 w24 3 (([1, 2] : List Nat).map (fun n : Nat => (n : Int))) 2 rfl (by decide) (by decide)
  have hg2 := HG.out.more hb
  have oa2 := Oa.out.more hb
  have oc2 := Oc.out.more hb
  have oj2 := Oj.out.more hb
  have HG := Lib.hid hg2
  clear hg2
  have Oa := Lib.hid oa2
  clear oa2
  have Oc := Lib.hid oc2
  clear oc2
  have Oj := Lib.hid oj2
  clear oj2
  have HC := Lib.hid (list_yes _ _ aa (some ⟨w24.heap.size, 0, none⟩) Ca [1, 2] 2 2 Oa.out Na.out rfl (by decide) hr (by decide))
  clear hr hb
  go_wp2_with fail
  refine HC.out.mono ?_
  rintro e w25 ⟨rfl, q, hq⟩
  have hb : Below _ _ w25 := hq ▸ below_draw _ q
  clear hq
  have hg2 := HG.out.more hb
  have oa2 := Oa.out.more hb
  have oc2 := Oc.out.more hb
  have oj2 := Oj.out.more hb
  have HG := Lib.hid hg2
  clear hg2
  have Oa := Lib.hid oa2
  clear oa2
  have Oc := Lib.hid oc2
  clear oc2
  have Oj := Lib.hid oj2
  clear oj2
  clear hb HC
  have hb := below_alloc w25 (.cells #[.int .i64 3] 3)
  have hr : Row .i64 (w25.alloc (.cells #[.int .i64 3] 3)) (some ⟨w25.heap.size, 0, none⟩) 1 1 (([3] : List Nat).map (fun n : Nat => (n : Int))) := row_lit .i64 w25 3 (([3] : List Nat).map (fun n : Nat => (n : Int))) 1 rfl (by decide) (by decide)
  have hg2 := HG.out.more hb
  have oa2 := Oa.out.more hb
  have oc2 := Oc.out.more hb
  have oj2 := Oj.out.more hb
  have HG := Lib.hid hg2
  clear hg2
  have Oa := Lib.hid oa2
  clear oa2
  have Oc := Lib.hid oc2
  clear oc2
  have Oj := Lib.hid oj2
  clear oj2
  have HC := Lib.hid (list_yes _ _ ac (some ⟨w25.heap.size, 0, none⟩) Cc [3] 1 1 Oc.out Nc.out rfl (by decide) hr (by decide))
  clear hr hb
  go_wp2_with fail
  refine HC.out.mono ?_
  rintro e w26 ⟨rfl, q, hq⟩
  have hb : Below _ _ w26 := hq ▸ below_draw _ q
  clear hq
  have hg2 := HG.out.more hb
  have oa2 := Oa.out.more hb
  have oc2 := Oc.out.more hb
  have oj2 := Oj.out.more hb
  have HG := Lib.hid hg2
  clear hg2
  have Oa := Lib.hid oa2
  clear oa2
  have Oc := Lib.hid oc2
  clear oc2
  have Oj := Lib.hid oj2
  clear oj2
  clear hb HC
  have hb := below_alloc w26 (.cells #[.int .i64 3, .int .i64 4] 3)
  have hr : Row .i64 (w26.alloc (.cells #[.int .i64 3, .int .i64 4] 3)) (some ⟨w26.heap.size, 0, none⟩) 2 2 (([3, 4] : List Nat).map (fun n : Nat => (n : Int))) := row_lit .i64 w26 3 (([3, 4] : List Nat).map (fun n : Nat => (n : Int))) 2 rfl (by decide) (by decide)
  have hg2 := HG.out.more hb
  have oa2 := Oa.out.more hb
  have oc2 := Oc.out.more hb
  have oj2 := Oj.out.more hb
  have HG := Lib.hid hg2
  clear hg2
  have Oa := Lib.hid oa2
  clear oa2
  have Oc := Lib.hid oc2
  clear oc2
  have Oj := Lib.hid oj2
  clear oj2
  have HC := Lib.hid (list_yes _ _ aj (some ⟨w26.heap.size, 0, none⟩) Cj [3, 4] 2 2 Oj.out Nj.out rfl (by decide) hr (by decide))
  clear hr hb
  go_wp2_with fail
  refine HC.out.mono ?_
  rintro e w27 ⟨rfl, q, hq⟩
  have hb : Below _ _ w27 := hq ▸ below_draw _ q
  clear hq
  have hg2 := HG.out.more hb
  have oa2 := Oa.out.more hb
  have oc2 := Oc.out.more hb
  have oj2 := Oj.out.more hb
  have HG := Lib.hid hg2
  clear hg2
  have Oa := Lib.hid oa2
  clear oa2
  have Oc := Lib.hid oc2
  clear oc2
  have Oj := Lib.hid oj2
  clear oj2
  clear hb HC
  go_wp2
  go_ret
  exact ⟨rfl, HG.out.bel⟩
end Go.Proofs.Ytnkpmjkbkdnfjaa
