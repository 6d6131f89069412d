/- The statements' own ints and lives. -/
import Derived.Test.YtpgdaodgdckehaaShTab
namespace Go.Proofs.Ytpgdaodgdckehaa
open Go.RowKit

theorem lit_own (w : World) (t : Nat) (cs : Array Value) (l : List Value) (h : cs.toList = l) : Own (w.alloc (.cells cs t)) w.heap.size t l := by
  subst h
  unfold Own
  rw [heap_alloc_new]
theorem Own.crow {w : World} {b : Nat} {x0 y0 x1 y1 x2 y2 : Int} (h : Own w b 48 [.int .u16 x0, .int .i64 y0, .int .u16 x1, .int .i64 y1, .int .u16 x2, .int .i64 y2]) : CRow w (some ⟨b, 0, none⟩) 3 3 [(x0, y0), (x1, y1), (x2, y2)] := by
  refine ⟨rfl, Nat.le_refl _, by unfold maxLen; decide, .inr ⟨b, 0, rfl, fun i hi => ?_⟩⟩
  rcases (by omega : i = 0 ∨ i = 1 ∨ i = 2) with rfl | rfl | rfl
  · exact ⟨h.cell 0 (by simp), h.cell 1 (by simp)⟩
  · exact ⟨h.cell 2 (by simp), h.cell 3 (by simp)⟩
  · exact ⟨h.cell 4 (by simp), h.cell 5 (by simp)⟩
theorem Own.zrow {w : World} {b : Nat} {x0 y0 z0 x1 y1 z1 x2 y2 z2 : Int} (h : Own w b 43 [.int .u16 x0, .int .u16 y0, .int .u8 z0, .int .u16 x1, .int .u16 y1, .int .u8 z1, .int .u16 x2, .int .u16 y2, .int .u8 z2]) : ZRow w (some ⟨b, 0, none⟩) 3 3 [(x0, y0, z0), (x1, y1, z1), (x2, y2, z2)] := by
  refine ⟨rfl, Nat.le_refl _, by unfold maxLen; decide, .inr ⟨b, 0, rfl, fun i hi => ?_⟩⟩
  rcases (by omega : i = 0 ∨ i = 1 ∨ i = 2) with rfl | rfl | rfl
  · exact ⟨h.cell 0 (by simp), h.cell 1 (by simp), h.cell 2 (by simp)⟩
  · exact ⟨h.cell 3 (by simp), h.cell 4 (by simp), h.cell 5 (by simp)⟩
  · exact ⟨h.cell 6 (by simp), h.cell 7 (by simp), h.cell 8 (by simp)⟩
theorem ZRow.front {w : World} {a : Option Addr} {n c : Nat} {Z : List (Int × Int × Int)} (h : ZRow w a n c Z) (m : Nat) (hm : m ≤ n) : ZRow w a m c (Z.take m) := by
  obtain ⟨hl, hle, hmx, hc⟩ := h
  refine ⟨by rw [List.length_take]; omega, by omega, hmx, ?_⟩
  rcases hc with h0 | ⟨b, o, ha, hc⟩
  · exact .inl (by omega)
  · refine .inr ⟨b, o, ha, fun i hi => ?_⟩
    have e : (Z.take m).getD i (0, 0, 0) = Z.getD i (0, 0, 0) := by simp [List.getD_eq_getElem?_getD, hi]
    rw [e]
    exact hc i (by omega)
/-- Two slices that read as the same numbers, the first without spare capacity. -/
theorem ints_same (a : Option Addr) (n : Nat) (b : Option Addr) (c : Nat) (l : List Int) (w : World) (h1 : Row .i64 w a n n l) (h2 : Row .i64 w b n c l) :
    Calls Try.prog 15 #[.slice a n n, .slice b n c] w fun e w' => e = .returned (.bool true) ∧ Below w.heap.size w w' := by
  have H1 := Lib.hid h1
  have H2 := Lib.hid h2
  have hmx := h1.max
  unfold maxLen at hmx
  clear h1 h2
  go_enter Try.func15, Try.ntmps15
  go_wp2_with fail
  go_loopw [5] (fun i wr => ∃ k : Nat, k ≤ n ∧ i = .int .i64 k ∧ Below w.heap.size w wr) (fun i _ => n - (intOf i).toNat)
  case atStart => exact ⟨0, Nat.zero_le _, rfl, Below.refl _ _⟩
  case round =>
    obtain ⟨k, hk, rfl, hb⟩ := hrel
    by_cases hkn : k < n
    · obtain ⟨b1, o1, rfl, hc1⟩ := (H1.out.later hb).cells.resolve_left (by omega)
      obtain ⟨b2, o2, rfl, hc2⟩ := (H2.out.later hb).cells.resolve_left (by omega)
      have c1 := hc1 k hkn
      have c2 := hc2 k hkn
      generalize l.getD k 0 = x at *
      have HB := Lib.hid hb
      clear hc1 hc2 hb
      go_wp2_with fail
      go_quiet (fail)
      go_wp2
      exact ⟨⟨k + 1, by omega, by go_num, HB.out.trans ((below_draw _ _).mono HB.out.size)⟩, by simp [intOf]; omega⟩
    · obtain rfl : k = n := by omega
      go_wp2
      go_ret
      exact ⟨rfl, hb⟩
theorem rep_getD (x : Int) {k : Nat} (h : k < 16) : (List.replicate 16 x).getD k 0 = x := by rw [List.getD_eq_getElem?_getD, List.getElem?_replicate, if_pos h]; rfl
def litA : List Int := [0, 1, 0, 1, 0, 1, 0, 1, 0, 1, 0, 1, 0, 1, 0, 1]
def litD : List Int := [0, 0, 0, 0, 1, 1, 1, 1, 0, 0, 0, 0, 1, 1, 1, 1]
def litE : List Int := [0, 2, 2, 0, 0, 2, 0, 0, 2, 0, 2, 2, 0, 0, 2, 0]
theorem tab_a : tab (nextM (rks [(1, 1), (2, 1), (3, 2)]) [0, 0, 0]) = litA := by decide +kernel
theorem tab_b : tab (nextM (rks [(1, 1), (2, 1), (3, 2)]) [2, 0, 0]) = List.replicate 16 1 := by decide +kernel
theorem tab_c : tab (nextM (rks [(1, 1), (2, 1), (3, 2)]) [2, 2, 0]) = List.replicate 16 2 := by decide +kernel
theorem tab_d : tab (linkM 2 (upM [true, true])) = litD := by decide +kernel
theorem tab_e : tab (linkM 3 (upM [true, false, true])) = litE := by decide +kernel
theorem wf_small {l : List Int} (h : (l.all fun x => decide (-9 ≤ x ∧ x ≤ 99)) = true) : ∀ x ∈ l, (Lit.int .i64 x).wf = true := fun x hx => by
  have := of_decide_eq_true (List.all_eq_true.1 h x hx)
  simp [Lit.wf, IntKind.min, IntKind.max, IntKind.bits, IntKind.signed]; omega
theorem tab_row {w : World} {g : Nat} {l : List Int} (h : Own w g 3 (nums .i64 l)) (hl : l.length = 16) (hw : (l.all fun x => decide (-9 ≤ x ∧ x ≤ 99)) = true) : Row .i64 w (some ⟨g, 0, none⟩) 16 16 l :=
  h.row0 16 16 hl.symm (Nat.le_refl _) (by unfold maxLen; decide) (wf_small hw)
theorem st_row {w : World} {g : Nat} {l : List Int} (h : Own w g 49 (nums .u8 l)) (hl : l.length = 3) (hw : (l.all fun x => decide (0 ≤ x ∧ x ≤ 255)) = true) : Row .u8 w (some ⟨g, 0, none⟩) 3 3 l :=
  h.row0 3 3 hl.symm (Nat.le_refl _) (by unfold maxLen; decide) fun x hx => wf_u8.2 (of_decide_eq_true (List.all_eq_true.1 hw x hx))
theorem bo_row {w : World} {g n : Nat} {l : List Bool} (h : Own w g 4 (bools l)) (hl : n = l.length) (hn : n ≤ 1000) : BRow w (some ⟨g, 0, none⟩) n n l := by
  have h2 : Own w g 4 (bools l ++ []) := by rw [List.append_nil]; exact h
  exact h2.brow n n hl (Nat.le_refl _) (by unfold maxLen; omega)
set_option maxHeartbeats 4000000 in
set_option maxRecDepth 100000 in
theorem lives_any (w : World) : Calls Try.prog 8 #[] w fun e w' => e = .returned (.bool true) ∧ Below w.heap.size w w' := by
  go_enter Try.func8, Try.ntmps8
  go_upto_region 3 with fail
  obtain ⟨W1, hW1⟩ : ∃ W, W = w.alloc (.cells #[.int .u16 1, .int .i64 1, .int .u16 2, .int .i64 1, .int .u16 3, .int .i64 2] 48) := ⟨_, rfl⟩
  have hb1 : Below w.heap.size w W1 := by rw [hW1]; exact below_alloc _ _
  have o1 : Own W1 w.heap.size 48 [.int .u16 1, .int .i64 1, .int .u16 2, .int .i64 1, .int .u16 3, .int .i64 2] := by rw [hW1]; exact lit_own w 48 #[.int .u16 1, .int .i64 1, .int .u16 2, .int .i64 1, .int .u16 3, .int .i64 2] _ rfl
  have z1 : W1.heap.size = w.heap.size + 1 := by rw [hW1]; simp
  obtain ⟨W2, hW2⟩ : ∃ W, W = W1.alloc (.cells #[.int .u16 1, .int .u16 2, .int .u8 0, .int .u16 1, .int .u16 2, .int .u8 1, .int .u16 1, .int .u16 2, .int .u8 2] 43) := ⟨_, rfl⟩
  have hb2 : Below W1.heap.size W1 W2 := by rw [hW2]; exact below_alloc _ _
  have o2 : Own W2 W1.heap.size 43 [.int .u16 1, .int .u16 2, .int .u8 0, .int .u16 1, .int .u16 2, .int .u8 1, .int .u16 1, .int .u16 2, .int .u8 2] := by rw [hW2]; exact lit_own W1 43 #[.int .u16 1, .int .u16 2, .int .u8 0, .int .u16 1, .int .u16 2, .int .u8 1, .int .u16 1, .int .u16 2, .int .u8 2] _ rfl
  rw [z1] at o2
  have hc := (Own.crow o1).later hb2
  have hz := Own.zrow o2
  have hb := hb1.trans (hb2.mono hb1.size)
  have HW : Hid (W2 = (w.alloc (.cells #[.int .u16 1, .int .i64 1, .int .u16 2, .int .i64 1, .int .u16 3, .int .i64 2] 48)).alloc (.cells #[.int .u16 1, .int .u16 2, .int .u8 0, .int .u16 1, .int .u16 2, .int .u8 1, .int .u16 1, .int .u16 2, .int .u8 2] 43)) := Lib.hid (by rw [hW2, hW1])
  have HC := Lib.hid hc
  have HZ := Lib.hid hz
  have HB := Lib.hid hb
  clear hb1 o1 z1 hb2 o2 hc hz hb hW1 hW2
  rw [← HW.out]
  go_wp2_with fail
  have hv0 := below_alloc W2 (.cells #[.int .u8 0, .int .u8 0, .int .u8 0] 49)
  have ov0 := lit_own W2 49 #[.int .u8 0, .int .u8 0, .int .u8 0] (nums .u8 [0, 0, 0]) rfl
  with_reducible refine (places_any (some ⟨w.heap.size, 0, none⟩) 3 3 [(1, 1), (2, 1), (3, 2)] (some ⟨W2.heap.size, 0, none⟩) 3 3 [0, 0, 0] _ (by decide) (HC.out.later hv0) (st_row ov0 rfl (by decide))).mono ?_
  rintro e U0 ⟨g0, hg0, rfl, ho0, hx0⟩
  rw [tab_a] at ho0
  have hy0 := hv0.trans (hx0.mono hv0.size)
  have HO0 := Lib.hid ho0
  have HC := Lib.hid (HC.out.later hy0)
  have HZ := Lib.hid (HZ.out.later hy0)
  have HB := Lib.hid (HB.out.trans (hy0.mono HB.out.size))
  clear hv0 ov0 hg0 ho0 hx0 hy0
  go_wp2_with fail
  have hv1 := below_alloc U0 (.cells #[.int .u8 2, .int .u8 0, .int .u8 0] 49)
  have ov1 := lit_own U0 49 #[.int .u8 2, .int .u8 0, .int .u8 0] (nums .u8 [2, 0, 0]) rfl
  with_reducible refine (places_any (some ⟨w.heap.size, 0, none⟩) 3 3 [(1, 1), (2, 1), (3, 2)] (some ⟨U0.heap.size, 0, none⟩) 3 3 [2, 0, 0] _ (by decide) (HC.out.later hv1) (st_row ov1 rfl (by decide))).mono ?_
  rintro e U1 ⟨g1, hg1, rfl, ho1, hx1⟩
  rw [tab_b] at ho1
  have hy1 := hv1.trans (hx1.mono hv1.size)
  have HO1 := Lib.hid ho1
  have HO0 := Lib.hid (HO0.out.below hy1 HO0.out.lt)
  have HC := Lib.hid (HC.out.later hy1)
  have HZ := Lib.hid (HZ.out.later hy1)
  have HB := Lib.hid (HB.out.trans (hy1.mono HB.out.size))
  clear hv1 ov1 hg1 ho1 hx1 hy1
  go_wp2_with fail
  have hv2 := below_alloc U1 (.cells #[.int .u8 2, .int .u8 2, .int .u8 0] 49)
  have ov2 := lit_own U1 49 #[.int .u8 2, .int .u8 2, .int .u8 0] (nums .u8 [2, 2, 0]) rfl
  with_reducible refine (places_any (some ⟨w.heap.size, 0, none⟩) 3 3 [(1, 1), (2, 1), (3, 2)] (some ⟨U1.heap.size, 0, none⟩) 3 3 [2, 2, 0] _ (by decide) (HC.out.later hv2) (st_row ov2 rfl (by decide))).mono ?_
  rintro e U2 ⟨g2, hg2, rfl, ho2, hx2⟩
  rw [tab_c] at ho2
  have hy2 := hv2.trans (hx2.mono hv2.size)
  have HO2 := Lib.hid ho2
  have HO0 := Lib.hid (HO0.out.below hy2 HO0.out.lt)
  have HO1 := Lib.hid (HO1.out.below hy2 HO1.out.lt)
  have HC := Lib.hid (HC.out.later hy2)
  have HZ := Lib.hid (HZ.out.later hy2)
  have HB := Lib.hid (HB.out.trans (hy2.mono HB.out.size))
  clear hv2 ov2 hg2 ho2 hx2 hy2
  go_wp2_with fail
  have hv3 := below_alloc U2 (.cells #[.bool true, .bool true] 4)
  have ov3 := lit_own U2 4 #[.bool true, .bool true] (bools [true, true]) rfl
  with_reducible refine (lines_any (some ⟨w.heap.size + 1, 0, none⟩) 2 3 _ (some ⟨U2.heap.size, 0, none⟩) 2 2 [true, true] _ (by decide) ((HZ.out.front 2 (by decide)).later hv3) (bo_row ov3 rfl (by decide))).mono ?_
  rintro e U3 ⟨g3, hg3, rfl, ho3, hx3⟩
  rw [tab_d] at ho3
  have hy3 := hv3.trans (hx3.mono hv3.size)
  have HO3 := Lib.hid ho3
  have HO0 := Lib.hid (HO0.out.below hy3 HO0.out.lt)
  have HO1 := Lib.hid (HO1.out.below hy3 HO1.out.lt)
  have HO2 := Lib.hid (HO2.out.below hy3 HO2.out.lt)
  have HC := Lib.hid (HC.out.later hy3)
  have HZ := Lib.hid (HZ.out.later hy3)
  have HB := Lib.hid (HB.out.trans (hy3.mono HB.out.size))
  clear hv3 ov3 hg3 ho3 hx3 hy3
  go_wp2_with fail
  have hv4 := below_alloc U3 (.cells #[.bool true, .bool false, .bool true] 4)
  have ov4 := lit_own U3 4 #[.bool true, .bool false, .bool true] (bools [true, false, true]) rfl
  with_reducible refine (lines_any (some ⟨w.heap.size + 1, 0, none⟩) 3 3 _ (some ⟨U3.heap.size, 0, none⟩) 3 3 [true, false, true] _ (by decide) (HZ.out.later hv4) (bo_row ov4 rfl (by decide))).mono ?_
  rintro e U4 ⟨g4, hg4, rfl, ho4, hx4⟩
  rw [tab_e] at ho4
  have hy4 := hv4.trans (hx4.mono hv4.size)
  have HO4 := Lib.hid ho4
  have HO0 := Lib.hid (HO0.out.below hy4 HO0.out.lt)
  have HO1 := Lib.hid (HO1.out.below hy4 HO1.out.lt)
  have HO2 := Lib.hid (HO2.out.below hy4 HO2.out.lt)
  have HO3 := Lib.hid (HO3.out.below hy4 HO3.out.lt)
  have HC := Lib.hid (HC.out.later hy4)
  have HZ := Lib.hid (HZ.out.later hy4)
  have HB := Lib.hid (HB.out.trans (hy4.mono HB.out.size))
  clear hv4 ov4 hg4 ho4 hx4 hy4
  go_wp2_with fail
  go_loopw [8] (fun i wr => ∃ k : Nat, k ≤ 16 ∧ i = .int .i64 k ∧ Below U4.heap.size U4 wr) (fun i _ => 16 - (intOf i).toNat)
  case atStart => exact ⟨0, Nat.zero_le _, rfl, Below.refl _ _⟩
  case round =>
    obtain ⟨k, hk, rfl, hb⟩ := hrel
    by_cases hkn : k < 16
    · have c1 := (HO1.out.below hb HO1.out.lt).cell k (by rw [nums_length]; simpa using hkn)
      have c2 := (HO2.out.below hb HO2.out.lt).cell k (by rw [nums_length]; simpa using hkn)
      rw [nums_getD _ _ _ (by simpa using hkn), rep_getD 1 hkn] at c1
      rw [nums_getD _ _ _ (by simpa using hkn), rep_getD 2 hkn] at c2
      have HBr := Lib.hid hb
      clear hb
      go_wp2
      exact ⟨⟨k + 1, by omega, by go_num, HBr.out⟩, by simp [intOf]; omega⟩
    · obtain rfl : k = 16 := by omega
      obtain ⟨w5, rfl⟩ : ∃ x, x = wr := ⟨_, rfl⟩
      have HA := Lib.hid (HO0.out.below hb HO0.out.lt)
      have HD := Lib.hid (HO3.out.below hb HO3.out.lt)
      have HE := Lib.hid (HO4.out.below hb HO4.out.lt)
      have HB5 := Lib.hid (HB.out.trans (hb.mono HB.out.size))
      clear hb
      go_wp2_with fail
      have hvA := below_alloc w5 (.cells #[.int .i64 0, .int .i64 1, .int .i64 0, .int .i64 1, .int .i64 0, .int .i64 1, .int .i64 0, .int .i64 1, .int .i64 0, .int .i64 1, .int .i64 0, .int .i64 1, .int .i64 0, .int .i64 1, .int .i64 0, .int .i64 1] 3)
      have ovA := lit_own w5 3 #[.int .i64 0, .int .i64 1, .int .i64 0, .int .i64 1, .int .i64 0, .int .i64 1, .int .i64 0, .int .i64 1, .int .i64 0, .int .i64 1, .int .i64 0, .int .i64 1, .int .i64 0, .int .i64 1, .int .i64 0, .int .i64 1] (nums .i64 litA) rfl
      with_reducible refine (ints_same (some ⟨g0, 0, none⟩) 16 (some ⟨w5.heap.size, 0, none⟩) 16 litA _ (tab_row (HA.out.below hvA HA.out.lt) rfl (by decide)) (tab_row ovA rfl (by decide))).mono ?_
      rintro e xA ⟨rfl, hxA⟩
      have hyA := hvA.trans (hxA.mono hvA.size)
      have HD := Lib.hid (HD.out.below hyA HD.out.lt)
      have HE := Lib.hid (HE.out.below hyA HE.out.lt)
      have HB5 := Lib.hid (HB5.out.trans (hyA.mono HB5.out.size))
      clear hvA ovA hxA hyA
      go_wp2_with fail
      have hvD := below_alloc xA (.cells #[.int .i64 0, .int .i64 0, .int .i64 0, .int .i64 0, .int .i64 1, .int .i64 1, .int .i64 1, .int .i64 1, .int .i64 0, .int .i64 0, .int .i64 0, .int .i64 0, .int .i64 1, .int .i64 1, .int .i64 1, .int .i64 1] 3)
      have ovD := lit_own xA 3 #[.int .i64 0, .int .i64 0, .int .i64 0, .int .i64 0, .int .i64 1, .int .i64 1, .int .i64 1, .int .i64 1, .int .i64 0, .int .i64 0, .int .i64 0, .int .i64 0, .int .i64 1, .int .i64 1, .int .i64 1, .int .i64 1] (nums .i64 litD) rfl
      with_reducible refine (ints_same (some ⟨g3, 0, none⟩) 16 (some ⟨xA.heap.size, 0, none⟩) 16 litD _ (tab_row (HD.out.below hvD HD.out.lt) rfl (by decide)) (tab_row ovD rfl (by decide))).mono ?_
      rintro e xD ⟨rfl, hxD⟩
      have hyD := hvD.trans (hxD.mono hvD.size)
      have HD := Lib.hid (HD.out.below hyD HD.out.lt)
      have HE := Lib.hid (HE.out.below hyD HE.out.lt)
      have HB5 := Lib.hid (HB5.out.trans (hyD.mono HB5.out.size))
      clear hvD ovD hxD hyD
      go_wp2_with fail
      have hvE := below_alloc xD (.cells #[.int .i64 0, .int .i64 2, .int .i64 2, .int .i64 0, .int .i64 0, .int .i64 2, .int .i64 0, .int .i64 0, .int .i64 2, .int .i64 0, .int .i64 2, .int .i64 2, .int .i64 0, .int .i64 0, .int .i64 2, .int .i64 0] 3)
      have ovE := lit_own xD 3 #[.int .i64 0, .int .i64 2, .int .i64 2, .int .i64 0, .int .i64 0, .int .i64 2, .int .i64 0, .int .i64 0, .int .i64 2, .int .i64 0, .int .i64 2, .int .i64 2, .int .i64 0, .int .i64 0, .int .i64 2, .int .i64 0] (nums .i64 litE) rfl
      with_reducible refine (ints_same (some ⟨g4, 0, none⟩) 16 (some ⟨xD.heap.size, 0, none⟩) 16 litE _ (tab_row (HE.out.below hvE HE.out.lt) rfl (by decide)) (tab_row ovE rfl (by decide))).mono ?_
      rintro e xE ⟨rfl, hxE⟩
      have hyE := hvE.trans (hxE.mono hvE.size)
      have HD := Lib.hid (HD.out.below hyE HD.out.lt)
      have HE := Lib.hid (HE.out.below hyE HE.out.lt)
      have HB5 := Lib.hid (HB5.out.trans (hyE.mono HB5.out.size))
      clear hvE ovE hxE hyE
      go_wp2
      go_ret
      exact ⟨rfl, HB5.out⟩
end Go.Proofs.Ytpgdaodgdckehaa
