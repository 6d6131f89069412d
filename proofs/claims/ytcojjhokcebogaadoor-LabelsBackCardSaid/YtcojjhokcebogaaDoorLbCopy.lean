/- Contract of package labels: Copy. -/
import Derived.Test.YtcojjhokcebogaaDoorLbEnc
namespace Go.Proofs.YtcojjhokcebogaaDoor
open Go.RowKit

/-- A copied message: its data in a block of its own. -/
def CopyOut (w : World) (sv nw pr to fr sl : Int) (n : Nat) (l : List Int) (e : Ending) (w' : World) : Prop :=
  ∃ g, e = .returned (.agg #[.int .u8 sv, .int .u8 nw, .int .u8 pr, .int .u16 to, .int .u16 fr, .int .u8 sl, .slice (some ⟨g, 0, none⟩) n n]) ∧ w.heap.size ≤ g ∧ Own w' g 5 (nums .u8 l) ∧ Below w.heap.size w w'
set_option maxHeartbeats 2000000 in
set_option maxRecDepth 100000 in
theorem copy_any (sv nw pr to fr sl : Int) (a : Option Addr) (n c : Nat) (l : List Int) (w : World) (h : Row .u8 w a n c l) (hn : n ≤ 281474976710656) :
    Calls Tryd.prog 27 #[.agg #[.int .u8 sv, .int .u8 nw, .int .u8 pr, .int .u16 to, .int .u16 fr, .int .u8 sl, .slice a n c]] w fun e w' => CopyOut w sv nw pr to fr sl n l e w' := by
  obtain ⟨hl, hle, hmx, _, _, _⟩ := id h
  unfold maxLen at hmx
  have hmk := make8 n hn
  have HR := Lib.hid h
  clear h
  go_enter Tryd.func27, Tryd.ntmps27
  go_upto_region 2 with fail
  have hb3 := (below_two w (.cells #[.int .u8 sv, .int .u8 nw, .int .u8 pr, .int .u16 to, .int .u16 fr, .int .u8 sl, .slice a n c] 38) (.cells #[.int .u8 0, .int .u8 0, .int .u8 0, .int .u16 0, .int .u16 0, .int .u8 0, .slice none 0 0] 38)).trans ((below_alloc ((w.alloc (.cells #[.int .u8 sv, .int .u8 nw, .int .u8 pr, .int .u16 to, .int .u16 fr, .int .u8 sl, .slice a n c] 38)).alloc (.cells #[.int .u8 0, .int .u8 0, .int .u8 0, .int .u16 0, .int .u16 0, .int .u8 0, .slice none 0 0] 38)) (.cells (madeCells #[.int .u8 0] n) 5)).mono (by simp; omega))
  have o1 : Own (((w.alloc (.cells #[.int .u8 sv, .int .u8 nw, .int .u8 pr, .int .u16 to, .int .u16 fr, .int .u8 sl, .slice a n c] 38)).alloc (.cells #[.int .u8 0, .int .u8 0, .int .u8 0, .int .u16 0, .int .u16 0, .int .u8 0, .slice none 0 0] 38)).alloc (.cells (madeCells #[.int .u8 0] n) 5)) w.heap.size 38 _ := ((own_lit w 38 #[.int .u8 sv, .int .u8 nw, .int .u8 pr, .int .u16 to, .int .u16 fr, .int .u8 sl, .slice a n c] _ rfl).below (below_alloc _ (.cells #[.int .u8 0, .int .u8 0, .int .u8 0, .int .u16 0, .int .u16 0, .int .u8 0, .slice none 0 0] 38)) (by simp)).below (below_alloc _ (.cells (madeCells #[.int .u8 0] n) 5)) (by simp; omega)
  have o2 : Own (((w.alloc (.cells #[.int .u8 sv, .int .u8 nw, .int .u8 pr, .int .u16 to, .int .u16 fr, .int .u8 sl, .slice a n c] 38)).alloc (.cells #[.int .u8 0, .int .u8 0, .int .u8 0, .int .u16 0, .int .u16 0, .int .u8 0, .slice none 0 0] 38)).alloc (.cells (madeCells #[.int .u8 0] n) 5)) (w.heap.size + 1) 38 [.int .u8 0, .int .u8 0, .int .u8 0, .int .u16 0, .int .u16 0, .int .u8 0, .slice none 0 0] := by
    have := (own_lit (w.alloc (.cells #[.int .u8 sv, .int .u8 nw, .int .u8 pr, .int .u16 to, .int .u16 fr, .int .u8 sl, .slice a n c] 38)) 38 #[.int .u8 0, .int .u8 0, .int .u8 0, .int .u16 0, .int .u16 0, .int .u8 0, .slice none 0 0] _ rfl).below (below_alloc _ (.cells (madeCells #[.int .u8 0] n) 5)) (by simp)
    rw [World.size_alloc] at this
    exact this
  have og : Own (((w.alloc (.cells #[.int .u8 sv, .int .u8 nw, .int .u8 pr, .int .u16 to, .int .u16 fr, .int .u8 sl, .slice a n c] 38)).alloc (.cells #[.int .u8 0, .int .u8 0, .int .u8 0, .int .u16 0, .int .u16 0, .int .u8 0, .slice none 0 0] 38)).alloc (.cells (madeCells #[.int .u8 0] n) 5)) (w.heap.size + 1 + 1) 5 (nums .u8 (List.replicate n 0)) := by
    have := own_made .u8 n 5 ((w.alloc (.cells #[.int .u8 sv, .int .u8 nw, .int .u8 pr, .int .u16 to, .int .u16 fr, .int .u8 sl, .slice a n c] 38)).alloc (.cells #[.int .u8 0, .int .u8 0, .int .u8 0, .int .u16 0, .int .u16 0, .int .u8 0, .slice none 0 0] 38))
    rw [World.size_alloc, World.size_alloc] at this
    exact this
  generalize (((w.alloc (.cells #[.int .u8 sv, .int .u8 nw, .int .u8 pr, .int .u16 to, .int .u16 fr, .int .u8 sl, .slice a n c] 38)).alloc (.cells #[.int .u8 0, .int .u8 0, .int .u8 0, .int .u16 0, .int .u16 0, .int .u8 0, .slice none 0 0] 38)).alloc (.cells (madeCells #[.int .u8 0] n) 5)) = W3 at *
  obtain ⟨g, hg⟩ : ∃ g, g = w.heap.size + 1 + 1 := ⟨_, rfl⟩
  obtain ⟨b2, hb2⟩ : ∃ b, b = w.heap.size + 1 := ⟨_, rfl⟩
  obtain ⟨b1, hb1⟩ : ∃ b, b = w.heap.size := ⟨_, rfl⟩
  rw [← hg] at og ⊢
  rw [← hb2] at o2 ⊢
  rw [← hb1] at o1 ⊢
  obtain ⟨c0, c1, c2, c3, c4, c5, c6⟩ := unit_cells o1
  obtain ⟨cs, hcs⟩ : ∃ cs, cs = nums .u8 l := ⟨_, rfl⟩
  have hlen : cs.length = n := by rw [hcs, nums_length, hl]
  have hr3 := HR.out.later hb3
  have HR3 := Lib.hid hr3
  have HCs := Lib.hid hcs
  have H1 := Lib.hid o1
  have H2 := Lib.hid o2
  have HG := Lib.hid og
  have HB3 := Lib.hid hb3
  have HNm := Lib.hid (show b1 = w.heap.size ∧ b2 = b1 + 1 ∧ g = b1 + 2 by omega)
  have n1 : ¬ b1 = b2 := by omega
  have n2 : ¬ b2 = b1 := by omega
  clear hcs hr3 o1 o2 og hb3 hg hb1 hb2
  go_wp2_with (with_reducible refine wpList_copy_splice rfl (.tmp 8) (.tmp 10) 36 36 rfl 5 Tryd.underlying36 size8 _ _ n n n c rfl rfl g 0 (nums .u8 (List.replicate n 0)) 5 ?_ cs ?_ ?_ ?_ ?_ g W3 ?_ (Nat.le_refl _) ?_)
  · exact HG.out
  · rw [hlen]; simp
  · intro hpos
    rcases HR3.out.cells with h0 | ⟨b, o, ha, hcc⟩
    · omega
    · refine ⟨⟨b, o, none⟩, ha, fun j v hj => ?_⟩
      have hjn : j < n := by rw [← hlen]; exact (List.getElem?_eq_some_iff.1 hj).1
      have e := hcc j hjn
      have e2 : v = .int .u8 (l.getD j 0) := by
        rw [HCs.out, nums, List.getElem?_map, List.getElem?_eq_getElem (by omega)] at hj
        simp at hj
        rw [← hj, List.getD_eq_getElem?_getD, List.getElem?_eq_getElem (by omega)]; rfl
      have ea : (⟨b, o, none⟩ : Addr).add j = ⟨b, o + j, none⟩ := by unfold Addr.add; split <;> simp_all
      rw [e2, ea]
      exact e
  · rw [hlen, nums_length, List.length_replicate]; omega
  · intro v hv
    rw [HCs.out, nums, List.mem_map] at hv
    obtain ⟨y, _, rfl⟩ := hv
    rfl
  · exact Below.refl _ _
  · intro w' hg hb
    have hown : Own w' g 5 (nums .u8 l) := by
      unfold Own
      rw [hg.out]
      congr 3
      rw [splice, HCs.out, nums_length, hl]
      simp [nums]
    obtain ⟨e1, e2, e3⟩ := HNm.out
    have p1 := H1.out.below hb (by omega)
    have p2 := H2.out.below hb (by omega)
    obtain ⟨d0, d1, d2, d3, d4, d5, d6⟩ := unit_cells p1
    obtain ⟨f0, f1, f2, f3, f4, f5, f6⟩ := unit_frozen p1
    obtain ⟨k0, k1, k2, k3, k4, k5, k6⟩ := unit_cells p2
    obtain ⟨z0, z1, z2, z3, z4, z5, z6⟩ := unit_frozen p2
    have HOw := Lib.hid hown
    have HB4 := Lib.hid (HB3.out.trans (hb.mono (by omega)))
    clear hg hb hown p1 p2 c0 c1 c2 c3 c4 c5 c6 e1 e2 e3
    go_wp2
    have HX := Lib.hid (((((((((Exc.refl (fun k => k = b1 ∨ k = b2) w').setCell ⟨b1, 6, none⟩ (.inl (.inl rfl)) (.slice (some ⟨g, 0, none⟩) n n)).setCell ⟨b2, 0, none⟩ (.inl (.inr rfl)) (.int .u8 sv)).setCell ⟨b2, 1, none⟩ (.inl (.inr rfl)) (.int .u8 nw)).setCell ⟨b2, 2, none⟩ (.inl (.inr rfl)) (.int .u8 pr)).setCell ⟨b2, 3, none⟩ (.inl (.inr rfl)) (.int .u16 to)).setCell ⟨b2, 4, none⟩ (.inl (.inr rfl)) (.int .u16 fr)).setCell ⟨b2, 5, none⟩ (.inl (.inr rfl)) (.int .u8 sl)).setCell ⟨b2, 6, none⟩ (.inl (.inr rfl)) (.slice (some ⟨g, 0, none⟩) n n))
    refine bodyPost_ret (v := .agg #[.int .u8 sv, .int .u8 nw, .int .u8 pr, .int .u16 to, .int .u16 fr, .int .u8 sl, .slice (some ⟨g, 0, none⟩) n n]) (by simp [results, Tryd.results27, go_sem, k0, k1, k2, k3, k4, k5, k6]) rfl ?_
    obtain ⟨e1, e2, e3⟩ := HNm.out
    have hs4 := HB4.out.size
    exact ⟨g, rfl, by omega, HOw.out.exc HX.out (by omega), HB4.out.trans (HX.out.below hs4 (fun i _ hi => by omega))⟩
end Go.Proofs.YtcojjhokcebogaaDoor
