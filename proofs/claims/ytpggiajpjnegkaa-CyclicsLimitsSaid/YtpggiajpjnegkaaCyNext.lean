/- The code's end of a link: Next. -/
import Derived.Test.YtpggiajpjnegkaaCyChoose
namespace Go.Proofs.Ytpggiajpjnegkaa
open Go.RowKit

theorem En.next_facts (x : En) : x.next.1.back = x.acc ∧ x.next.1.bb = true ∧ x.next.1.fb = true ∧ x.next.1.state = 0 ∧ x.next.2.acc = x.acc := by
  have hp : x.pre.acc = x.acc := by
    rcases x.pre_cases with ⟨_, _, e⟩ | ⟨_, _, e⟩ | ⟨_, _, e⟩ | ⟨_, _, e⟩ <;> rw [e]
  have ha : ∀ y : En, y.again.1.back = y.acc ∧ y.again.1.bb = true ∧ y.again.1.fb = true ∧ y.again.1.state = 0 ∧ y.again.2.acc = y.acc := fun y => by
    unfold En.again
    split <;> exact ⟨rfl, rfl, rfl, rfl, rfl⟩
  unfold En.next En.go
  rw [← hp]
  cases x.pre.que with
  | nil => exact ha _
  | cons l q =>
    simp only
    split
    · exact ⟨rfl, rfl, rfl, rfl, rfl⟩
    · exact ha _
set_option maxHeartbeats 1000000 in
set_option maxRecDepth 100000 in
theorem next_failed (b : Nat) (x : En) (L : ELay) (w : World) (h : EndL w b x L) (hf : x.failed = true) :
    Calls Try.prog 14 #[.pointer (some ⟨b, 0, none⟩)] w fun e w' => e = .returned (.tuple #[.agg zeroUnit.toArray, .int .i64 6]) ∧ Below w.heap.size w w' := by
  obtain ⟨W0, hW0⟩ : ∃ W, W = w.alloc (.cells #[.int .u8 0, .bool false, .int .u8 0, .bool false, .int .u8 0, .int .u8 0, .slice none 0 0] 45) := ⟨_, rfl⟩
  have hb0 : Below w.heap.size w W0 := by rw [hW0]; exact below_alloc _ _
  have oz : Own W0 w.heap.size 45 zeroUnit := by rw [hW0]; exact own_lit w _ _ zeroUnit rfl
  have hcon := echeck_any b x L W0 (h.later hb0)
  rw [hf] at hcon
  simp only [if_true] at hcon
  obtain ⟨y0, y1, y2, y3, y4, y5, y6⟩ := unit_cells oz
  obtain ⟨t0, t1, t2, t3, t4, t5, t6⟩ := unit_frozen oz
  have HC := Lib.hid hcon
  have HW0 := Lib.hid hW0
  have HB0 := Lib.hid hb0
  have HZ := Lib.hid oz
  have hz0 := oz.lt
  clear h hcon hW0 hb0 oz
  go_enter Try.func14, Try.ntmps14
  go_wp2_with fail
  rw [← HW0.out]
  refine HC.out.mono ?_
  rintro e w' ⟨rfl, q, rfl⟩
  go_wp2
  generalize hW6 : (((((((W0.drewN q).setCell ⟨w.heap.size, 0, none⟩ (.int .u8 0)).setCell ⟨w.heap.size, 1, none⟩ (.bool false)).setCell ⟨w.heap.size, 2, none⟩ (.int .u8 0)).setCell ⟨w.heap.size, 3, none⟩ (.bool false)).setCell ⟨w.heap.size, 4, none⟩ (.int .u8 0)).setCell ⟨w.heap.size, 5, none⟩ (.int .u8 0)).setCell ⟨w.heap.size, 6, none⟩ (.slice none 0 0) = W6
  obtain ⟨oz6, hx6⟩ := seven (HZ.out.below (below_draw W0 q) hz0) hW6
  clear hW6 y0 y1 y2 y3 y4 y5 y6
  obtain ⟨y0, y1, y2, y3, y4, y5, y6⟩ := unit_cells oz6
  refine bodyPost_ret (v := .tuple #[.agg zeroUnit.toArray, .int .i64 6]) (by simp [results, Try.results14, go_sem, y0, y1, y2, y3, y4, y5, y6]) rfl ?_
  refine ⟨rfl, (HB0.out.trans (Below.mono (below_draw W0 q) HB0.out.size)).trans (hx6.below ?_ (fun i _ hi => by omega))⟩
  exact HB0.out.size
set_option maxHeartbeats 4000000 in
set_option maxRecDepth 100000 in
theorem next_ok (b : Nat) (x : En) (L : ELay) (w : World) (h : EndL w b x L) (hf : x.failed = false) :
    Calls Try.prog 14 #[.pointer (some ⟨b, 0, none⟩)] w fun e w' => ∃ L', Sends w w' (L'.S b) x.next.1 e ∧ EndL w' b x.next.2 L' ∧ Turn (L.S b) w (L'.S b) w' := by
  obtain ⟨W0, hW0⟩ : ∃ W, W = w.alloc (.cells #[.int .u8 0, .bool false, .int .u8 0, .bool false, .int .u8 0, .int .u8 0, .slice none 0 0] 45) := ⟨_, rfl⟩
  have hb0 : Below w.heap.size w W0 := by rw [hW0]; exact below_alloc _ _
  have oz : Own W0 w.heap.size 45 zeroUnit := by rw [hW0]; exact own_lit w _ _ zeroUnit rfl
  have hcon := echeck_any b x L W0 (h.later hb0)
  rw [hf] at hcon
  simp only [Bool.false_eq_true, if_false] at hcon
  have hch := fun q => choose_any b x L (W0.drewN q) ((h.later hb0).later (below_draw W0 q))
  unfold Cho at hch
  obtain ⟨n1, n2, n3, n4, n5⟩ := En.next_facts x
  obtain ⟨u, hu⟩ : ∃ u, u = x.next.1 := ⟨_, rfl⟩
  obtain ⟨y, hy⟩ : ∃ y, y = x.next.2 := ⟨_, rfl⟩
  rw [← hu] at hch n1 n2 n3 n4 ⊢
  rw [← hy] at hch n5 ⊢
  have hslt := h.s_lt
  have HSl := Lib.hid hslt
  have HC := Lib.hid hcon
  have HCh := Lib.hid hch
  have HW0 := Lib.hid hW0
  have HB0 := Lib.hid hb0
  have HZ := Lib.hid oz
  have hz0 := oz.lt
  have HN := Lib.hid (And.intro n1 (And.intro n2 (And.intro n3 (And.intro n4 n5))))
  clear h hcon hch hW0 hb0 oz n1 n2 n3 n4 n5 hslt hu hy
  go_enter Try.func14, Try.ntmps14
  go_wp2_with fail
  rw [← HW0.out]
  refine HC.out.mono ?_
  rintro e w' ⟨rfl, q, rfl⟩
  go_wp2_with fail
  refine (HCh.out q).mono ?_
  rintro e w2 ⟨s, k, rfl, rfl, hrow, hsz, L2, h2, hT, hns⟩
  have hT0 : Turn (L.S b) W0 (L2.S b) w2 := ⟨(Exc.of_below (below_draw W0 q)).trans hT.exc (fun k _ hk => hk), hT.lies⟩
  have oz2 := HZ.out.exc hT0.exc (fun hs => by have := HSl.out _ hs; omega)
  have c5 := h2.cells.2.2.2.2.2.2.2.1
  obtain ⟨y0, y1, y2, y3, y4, y5, y6⟩ := unit_cells oz2
  obtain ⟨t0, t1, t2, t3, t4, t5, t6⟩ := unit_frozen oz2
  have hb2s : b < w2.heap.size := h2.own.lt
  have hz2s : w.heap.size < w2.heap.size := oz2.lt
  have hbz : b ≠ w.heap.size := fun hh => by
    rcases hT0.lies b (.inl rfl) with h5 | h5
    · have := HSl.out b h5; omega
    · have := hb2s
      have h6 := HSl.out b (.inl rfl); omega
  have HT0 := Lib.hid hT0
  have HSz := Lib.hid hsz
  have HNs := Lib.hid hns
  have H2 := Lib.hid h2
  have HZ2 := Lib.hid oz2
  have HR2 := Lib.hid hrow
  clear hT hT0 hsz hns h2 oz2 hrow
  go_wp2
  generalize hW6 : ((((((w2.setCell ⟨w.heap.size, 0, none⟩ (.int .u8 (y.acc : Int))).setCell ⟨w.heap.size, 1, none⟩ (.bool true)).setCell ⟨w.heap.size, 2, none⟩ (.int .u8 (u.fore : Int))).setCell ⟨w.heap.size, 3, none⟩ (.bool true)).setCell ⟨w.heap.size, 4, none⟩ (.int .u8 (u.kind : Int))).setCell ⟨w.heap.size, 5, none⟩ (.int .u8 0)).setCell ⟨w.heap.size, 6, none⟩ (.slice s u.load.length u.load.length) = W6
  obtain ⟨oz6, hx26⟩ := seven HZ2.out hW6
  generalize hW7 : W6.alloc (.cells #[.int .u8 (y.acc : Int), .bool true, .int .u8 (u.fore : Int), .bool true, .int .u8 (u.kind : Int), .int .u8 0, .slice s u.load.length u.load.length] 45) = W7
  have hb67 : Below W6.heap.size W6 W7 := by rw [← hW7]; exact below_alloc _ _
  have oz7 := oz6.below hb67 oz6.lt
  clear hW6 hW7 c5 y0 y1 y2 y3 y4 y5 y6 t0 t1 t2 t3 t4 t5 t6
  obtain ⟨y0, y1, y2, y3, y4, y5, y6⟩ := unit_cells oz7
  refine bodyPost_ret (v := .tuple #[.agg #[.int .u8 (y.acc : Int), .bool true, .int .u8 (u.fore : Int), .bool true, .int .u8 (u.kind : Int), .int .u8 0, .slice s u.load.length u.load.length], .int .i64 0]) (by simp [results, Try.results14, go_sem, y0, y1, y2, y3, y4, y5, y6]) rfl ?_
  obtain ⟨n1, n2, n3, n4, n5⟩ := HN.out
  have hw0 := HB0.out.size
  have hx27 : Exc (fun k => k = w.heap.size) w2 W7 := hx26.trans (S' := fun _ => False) (Exc.of_below hb67) (fun _ _ hk => hk.elim)
  have hL2 : ∀ k, L2.S b k → ¬ k = w.heap.size := fun k hk hh => by
    rcases HT0.out.lies k hk with h5 | h5
    · have := HSl.out _ h5; omega
    · omega
  refine ⟨L2, ⟨s, ?_, HR2.out.exc hx27 (fun z hz hh => by have h5 : W0.heap.size ≤ z.block := (HSz.out z hz).1; omega), fun z hz => ⟨?_, Nat.lt_of_lt_of_le (HSz.out z hz).2 hx27.size, HNs.out z hz⟩⟩, H2.out.exc hx27 hL2, ⟨?_, fun k hk => ?_⟩⟩
  · rw [n5]
    unfold unCells
    rw [n1, n2, n3, n4]
    rfl
  · have h5 : W0.heap.size ≤ z.block := (HSz.out z hz).1; omega
  · exact ((Exc.of_below HB0.out).trans HT0.out.exc (fun k _ hk => hk)).trans hx27 (fun k hk hh => by omega)
  · rcases HT0.out.lies k hk with h5 | h5
    · exact .inl h5
    · exact .inr (Nat.le_trans hw0 h5)
end Go.Proofs.Ytpggiajpjnegkaa
