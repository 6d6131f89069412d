/- The code's end of a link: Next. -/
import Derived.Test.YtoegijmfcelgnaaEaChoose
import Derived.Test.YtoegijmfcelgnaaEaChooseF
import Derived.Test.YtoegijmfcelgnaaEaChooseN
namespace Go.Proofs.Ytoegijmfcelgnaa
open Go.RowKit

theorem choose_any (b : Nat) (x : En) (L : ELay) (w : World) (h : EndL w b x L) :
    Calls Try.prog 30 #[.pointer (some ⟨b, 0, none⟩)] w fun e w' => ∃ s k, e = .returned (.agg #[.int .u8 0, .bool false, .int .u8 (x.next.1.fore : Int), .bool x.next.1.fb, .int .u8 (x.next.1.kind : Int), .int .u8 0, .slice s k k]) ∧ k = x.next.1.load.length ∧ Row .u8 w' s k k x.next.1.load ∧ (∀ z, s = some z → w.heap.size ≤ z.block ∧ z.block < w'.heap.size) ∧ ∃ L', EndL w' b x.next.2 L' ∧ Turn (L.S b) w (L'.S b) w' ∧ ∀ z, s = some z → ¬ L'.S b z.block := by
  by_cases hp : 0 < x.rep
  · exact choose_rep b x L w h hp
  · by_cases hq : 0 < x.que.length ∧ x.una.length < 127
    · exact choose_new b x L w h (by omega) hq.1 hq.2
    · exact choose_fill b x L w h (by omega) hq
theorem En.next_facts (x : En) : x.next.1.back = x.acc ∧ x.next.1.bb = x.back ∧ x.next.1.state = 0 ∧ x.next.2.acc = x.acc ∧ x.next.2.back = x.back := by
  unfold En.next
  split
  · exact ⟨rfl, rfl, rfl, rfl, rfl⟩
  · cases x.que with
    | nil => exact ⟨rfl, rfl, rfl, rfl, rfl⟩
    | cons l q =>
      simp only
      split <;> exact ⟨rfl, rfl, rfl, rfl, rfl⟩
theorem seven {W W' : World} {k t : Nat} {a0 a1 a2 a3 a4 a5 a6 v0 v1 v2 v3 v4 v5 v6 : Value} (h : Own W k t [a0, a1, a2, a3, a4, a5, a6])
    (hW : ((((((W.setCell ⟨k, 0, none⟩ v0).setCell ⟨k, 1, none⟩ v1).setCell ⟨k, 2, none⟩ v2).setCell ⟨k, 3, none⟩ v3).setCell ⟨k, 4, none⟩ v4).setCell ⟨k, 5, none⟩ v5).setCell ⟨k, 6, none⟩ v6 = W') :
    Own W' k t [v0, v1, v2, v3, v4, v5, v6] ∧ Exc (fun j => j = k) W W' := by
  subst hW
  exact ⟨((((((h.set 0 v0).set 1 v1).set 2 v2).set 3 v3).set 4 v4).set 5 v5).set 6 v6, (((((((Exc.refl (fun j => j = k) W).setCell ⟨k, 0, none⟩ (.inl rfl) _).setCell ⟨k, 1, none⟩ (.inl rfl) _).setCell ⟨k, 2, none⟩ (.inl rfl) _).setCell ⟨k, 3, none⟩ (.inl rfl) _).setCell ⟨k, 4, none⟩ (.inl rfl) _).setCell ⟨k, 5, none⟩ (.inl rfl) _).setCell ⟨k, 6, none⟩ (.inl rfl) _⟩
set_option maxHeartbeats 1000000 in
set_option maxRecDepth 100000 in
theorem next_failed (b : Nat) (x : En) (L : ELay) (w : World) (h : EndL w b x L) (hf : x.failed = true) :
    Calls Try.prog 10 #[.pointer (some ⟨b, 0, none⟩)] w fun e w' => e = .returned (.tuple #[.agg zeroUnit.toArray, .int .i64 6]) ∧ Below w.heap.size w w' := by
  obtain ⟨W0, hW0⟩ : ∃ W, W = w.alloc (.cells #[.int .u8 0, .bool false, .int .u8 0, .bool false, .int .u8 0, .int .u8 0, .slice none 0 0] 41) := ⟨_, rfl⟩
  have hb0 : Below w.heap.size w W0 := by rw [hW0]; exact below_alloc _ _
  have oz : Own W0 w.heap.size 41 zeroUnit := by rw [hW0]; exact own_lit w _ _ zeroUnit rfl
  have hcon := echeck_any b x L W0 (h.later hb0)
  rw [hf] at hcon
  simp only [if_true] at hcon
  obtain ⟨y0, y1, y2, y3, y4, y5, y6⟩ := unit_cells oz
  obtain ⟨t0, t1, t2, t3, t4, t5, t6⟩ := unit_frozen oz
  have HC := Lib.hid hcon
  have HW0 := Lib.hid hW0
  have HB0 := Lib.hid hb0
  have HZ := Lib.hid oz
  have hz0 := oz.lt
  clear h hcon hW0 hb0 oz
  go_enter Try.func10, Try.ntmps10
  go_wp2_with fail
  rw [← HW0.out]
  refine HC.out.mono ?_
  rintro e w' ⟨rfl, q, rfl⟩
  go_wp2
  generalize hW6 : (((((((W0.drewN q).setCell ⟨w.heap.size, 0, none⟩ (.int .u8 0)).setCell ⟨w.heap.size, 1, none⟩ (.bool false)).setCell ⟨w.heap.size, 2, none⟩ (.int .u8 0)).setCell ⟨w.heap.size, 3, none⟩ (.bool false)).setCell ⟨w.heap.size, 4, none⟩ (.int .u8 0)).setCell ⟨w.heap.size, 5, none⟩ (.int .u8 0)).setCell ⟨w.heap.size, 6, none⟩ (.slice none 0 0) = W6
  obtain ⟨oz6, hx6⟩ := seven (HZ.out.below (below_draw W0 q) hz0) hW6
  clear hW6 y0 y1 y2 y3 y4 y5 y6
  obtain ⟨y0, y1, y2, y3, y4, y5, y6⟩ := unit_cells oz6
  refine bodyPost_ret (v := .tuple #[.agg zeroUnit.toArray, .int .i64 6]) (by simp [results, Try.results10, go_sem, y0, y1, y2, y3, y4, y5, y6]) rfl ?_
  refine ⟨rfl, (HB0.out.trans (Below.mono (below_draw W0 q) HB0.out.size)).trans (hx6.below ?_ (fun i _ hi => by omega))⟩
  exact HB0.out.size
set_option maxHeartbeats 4000000 in
set_option maxRecDepth 100000 in
theorem next_ok (b : Nat) (x : En) (L : ELay) (w : World) (h : EndL w b x L) (hf : x.failed = false) :
    Calls Try.prog 10 #[.pointer (some ⟨b, 0, none⟩)] w fun e w' => ∃ L', Sends w w' (L'.S b) x.next.1 e ∧ EndL w' b x.next.2 L' ∧ Turn (L.S b) w (L'.S b) w' := by
  obtain ⟨W0, hW0⟩ : ∃ W, W = w.alloc (.cells #[.int .u8 0, .bool false, .int .u8 0, .bool false, .int .u8 0, .int .u8 0, .slice none 0 0] 41) := ⟨_, rfl⟩
  have hb0 : Below w.heap.size w W0 := by rw [hW0]; exact below_alloc _ _
  have oz : Own W0 w.heap.size 41 zeroUnit := by rw [hW0]; exact own_lit w _ _ zeroUnit rfl
  have hcon := echeck_any b x L W0 (h.later hb0)
  rw [hf] at hcon
  simp only [Bool.false_eq_true, if_false] at hcon
  have hch := fun q => choose_any b x L (W0.drewN q) ((h.later hb0).later (below_draw W0 q))
  obtain ⟨n1, n2, n3, n4, n5⟩ := En.next_facts x
  obtain ⟨u, hu⟩ : ∃ u, u = x.next.1 := ⟨_, rfl⟩
  obtain ⟨y, hy⟩ : ∃ y, y = x.next.2 := ⟨_, rfl⟩
  rw [← hu] at hch n1 n2 n3 ⊢
  rw [← hy] at hch n4 n5 ⊢
  have hslt := h.s_lt
  have HSl := Lib.hid hslt
  have HC := Lib.hid hcon
  have HCh := Lib.hid hch
  have HW0 := Lib.hid hW0
  have HB0 := Lib.hid hb0
  have HZ := Lib.hid oz
  have hz0 := oz.lt
  have HN := Lib.hid (And.intro n1 (And.intro n2 (And.intro n3 (And.intro n4 n5))))
  clear h hcon hch hW0 hb0 oz n1 n2 n3 n4 n5 hslt hu hy
  go_enter Try.func10, Try.ntmps10
  go_wp2_with fail
  rw [← HW0.out]
  refine HC.out.mono ?_
  rintro e w' ⟨rfl, q, rfl⟩
  go_wp2_with fail
  refine (HCh.out q).mono ?_
  rintro e w2 ⟨s, k, rfl, rfl, hrow, hsz, L2, h2, hT, hns⟩
  have hT0 : Turn (L.S b) W0 (L2.S b) w2 := ⟨(Exc.of_below (below_draw W0 q)).trans hT.exc (fun k _ hk => hk), hT.lies⟩
  have oz2 := HZ.out.exc hT0.exc (fun hs => by have := HSl.out _ hs; omega)
  obtain ⟨w3, hw3⟩ : ∃ X, X = w2.alloc (.cells #[.int .u8 0, .bool false, .int .u8 (u.fore : Int), .bool u.fb, .int .u8 (u.kind : Int), .int .u8 0, .slice s u.load.length u.load.length] 41) := ⟨_, rfl⟩
  have hb23 : Below w2.heap.size w2 w3 := by rw [hw3]; exact below_alloc _ _
  have ou3 : Own w3 w2.heap.size 41 [.int .u8 0, .bool false, .int .u8 (u.fore : Int), .bool u.fb, .int .u8 (u.kind : Int), .int .u8 0, .slice s u.load.length u.load.length] := by rw [hw3]; exact own_lit w2 _ _ _ rfl
  have h3 := h2.later hb23
  have oz3 := oz2.below hb23 oz2.lt
  have hrow3 := hrow.later hb23
  have c5 := h3.cells.2.2.2.2.2.1
  have c6 := h3.cells.2.2.2.2.2.2.1
  obtain ⟨v0, v1, v2, v3, v4, v5, v6⟩ := unit_cells ou3
  obtain ⟨k0, k1, _, _, _, _, _⟩ := unit_frozen ou3
  obtain ⟨y0, y1, y2, y3, y4, y5, y6⟩ := unit_cells oz3
  obtain ⟨t0, t1, t2, t3, t4, t5, t6⟩ := unit_frozen oz3
  have hb2s : b < w2.heap.size := h2.own.lt
  have hz2s : w.heap.size < w2.heap.size := oz2.lt
  have hbu : b ≠ w2.heap.size := by omega
  have hzu : w.heap.size ≠ w2.heap.size := by omega
  have hu3 : w2.heap.size < w3.heap.size := ou3.lt
  have HW3 := Lib.hid hw3
  have H3 := Lib.hid h3
  have HU3 := Lib.hid ou3
  have HZ3 := Lib.hid oz3
  have HR3 := Lib.hid hrow3
  have HT0 := Lib.hid hT0
  have HSz := Lib.hid hsz
  have HNs := Lib.hid hns
  have HB23 := Lib.hid hb23
  have H2 := Lib.hid h2
  clear hw3 hb23 ou3 h3 oz3 hrow3 hT hT0 hsz hns h2 oz2 hrow
  go_wp2_with fail
  rw [← HW3.out]
  go_region
  generalize hW4 : ((w3.setCell ⟨w2.heap.size, 0, none⟩ (.int .u8 (y.acc : Int))).setCell ⟨w2.heap.size, 1, none⟩ (.bool y.back)).drew = W4
  have hx34 : Exc (fun k => k = w2.heap.size) w3 W4 := by rw [← hW4]; exact (((Exc.refl (fun k => k = w2.heap.size) w3).setCell ⟨w2.heap.size, 0, none⟩ (.inl rfl) _).setCell ⟨w2.heap.size, 1, none⟩ (.inl rfl) _).drawN 1
  have ou4 : Own W4 w2.heap.size 41 [.int .u8 (y.acc : Int), .bool y.back, .int .u8 (u.fore : Int), .bool u.fb, .int .u8 (u.kind : Int), .int .u8 0, .slice s u.load.length u.load.length] := by rw [← hW4]; exact Own.drewK ((HU3.out.set 0 (.int .u8 (y.acc : Int))).set 1 (.bool y.back))
  have oz4 := HZ3.out.exc hx34 hzu
  have hS2 : ∀ k, L2.S b k → ¬ k = w2.heap.size := fun k hk hh => by have := H2.out.s_lt k hk; omega
  have h4 := H3.out.exc hx34 hS2
  have hsw : ∀ z, s = some z → ¬ z.block = w2.heap.size := fun z hz hh => by have := (HSz.out z hz).2; omega
  have hr4 := HR3.out.exc hx34 hsw
  have H4 := Lib.hid h4
  have HR4 := Lib.hid hr4
  have HZ4 := Lib.hid oz4
  have HX34 := Lib.hid hx34
  clear hW4 h4 hr4 hx34 hS2 hsw c5 c6 v0 v1 v2 v3 v4 v5 v6 k0 k1 y0 y1 y2 y3 y4 y5 y6 t0 t1 t2 t3 t4 t5 t6
  obtain ⟨v0, v1, v2, v3, v4, v5, v6⟩ := unit_cells ou4
  obtain ⟨y0, y1, y2, y3, y4, y5, y6⟩ := unit_cells oz4
  obtain ⟨t0, t1, t2, t3, t4, t5, t6⟩ := unit_frozen oz4
  clear ou4 oz4
  go_wp2
  generalize hW6 : ((((((W4.setCell ⟨w.heap.size, 0, none⟩ (.int .u8 (y.acc : Int))).setCell ⟨w.heap.size, 1, none⟩ (.bool y.back)).setCell ⟨w.heap.size, 2, none⟩ (.int .u8 (u.fore : Int))).setCell ⟨w.heap.size, 3, none⟩ (.bool u.fb)).setCell ⟨w.heap.size, 4, none⟩ (.int .u8 (u.kind : Int))).setCell ⟨w.heap.size, 5, none⟩ (.int .u8 0)).setCell ⟨w.heap.size, 6, none⟩ (.slice s u.load.length u.load.length) = W6
  obtain ⟨oz6, hx46⟩ := seven HZ4.out hW6
  clear hW6 v0 v1 v2 v3 v4 v5 v6 y0 y1 y2 y3 y4 y5 y6 t0 t1 t2 t3 t4 t5 t6
  obtain ⟨y0, y1, y2, y3, y4, y5, y6⟩ := unit_cells oz6
  refine bodyPost_ret (v := .tuple #[.agg #[.int .u8 (y.acc : Int), .bool y.back, .int .u8 (u.fore : Int), .bool u.fb, .int .u8 (u.kind : Int), .int .u8 0, .slice s u.load.length u.load.length], .int .i64 0]) (by simp [results, Try.results10, go_sem, y0, y1, y2, y3, y4, y5, y6]) rfl ?_
  obtain ⟨n1, n2, n3, n4, n5⟩ := HN.out
  have hw0 := HB0.out.size
  have hL2 : ∀ k, L2.S b k → ¬ k = w.heap.size := fun k hk hh => by
    rcases HT0.out.lies k hk with h5 | h5
    · have := HSl.out _ h5; omega
    · omega
  have hx26 : Exc (fun k => k = w2.heap.size ∨ k = w.heap.size) w2 W6 := ((Exc.of_below HB23.out).trans (HX34.out.weak (fun k _ hk => .inl hk)) (fun k _ hk => hk)).trans hx46 (fun k _ hk => .inr hk)
  refine ⟨L2, ⟨s, ?_, HR4.out.exc hx46 (fun z hz hh => by have h5 : W0.heap.size ≤ z.block := (HSz.out z hz).1; omega), fun z hz => ⟨?_, ?_, HNs.out z hz⟩⟩, H4.out.exc hx46 hL2, ⟨?_, fun k hk => ?_⟩⟩
  · rw [n4, n5]
    unfold unCells
    rw [n1, n2, n3]
    rfl
  · have h5 : W0.heap.size ≤ z.block := (HSz.out z hz).1; omega
  · have := (HSz.out z hz).2; have := hx26.size; omega
  · refine ((Exc.of_below HB0.out).trans HT0.out.exc (fun k _ hk => hk)).trans hx26 (fun k hk hh => ?_)
    have := HT0.out.exc.size
    rcases hh with hh | hh <;> omega
  · rcases HT0.out.lies k hk with h5 | h5
    · exact .inl h5
    · exact .inr (Nat.le_trans hw0 h5)
end Go.Proofs.Ytoegijmfcelgnaa
