/- The code's end of a link: the unit that is sent. -/
import Derived.Test.YtoegijmfcelgnaaEaNumber
import Derived.Test.YtoegijmfcelgnaaBaModel
import Derived.Test.YtoegijmfcelgnaaEaAck
namespace Go.Proofs.Ytoegijmfcelgnaa
open Go.RowKit

set_option maxHeartbeats 4000000 in
set_option maxRecDepth 100000 in
theorem choose_fill (b : Nat) (x : En) (L : ELay) (w : World) (h : EndL w b x L) (hp : x.rep = 0) (hno : ¬ (0 < x.que.length ∧ x.una.length < 127)) :
    Calls Try.prog 30 #[.pointer (some ⟨b, 0, none⟩)] w fun e w' => ∃ s k, e = .returned (.agg #[.int .u8 0, .bool false, .int .u8 (x.next.1.fore : Int), .bool x.next.1.fb, .int .u8 (x.next.1.kind : Int), .int .u8 0, .slice s k k]) ∧ k = x.next.1.load.length ∧ Row .u8 w' s k k x.next.1.load ∧ (∀ z, s = some z → w.heap.size ≤ z.block ∧ z.block < w'.heap.size) ∧ ∃ L', EndL w' b x.next.2 L' ∧ Turn (L.S b) w (L'.S b) w' ∧ ∀ z, s = some z → ¬ L'.S b z.block := by
  obtain ⟨W1, hW1⟩ : ∃ W, W = ((w.alloc (.cells #[.int .u8 0, .bool false, .int .u8 0, .bool false, .int .u8 0, .int .u8 0, .slice none 0 0] 41)).alloc (.cells #[.int .u8 0, .bool false, .int .u8 (x.sent : Int), .bool x.fore, .int .u8 0, .int .u8 0, .slice none 0 0] 41)).drew := ⟨_, rfl⟩
  have hb1 : Below w.heap.size w W1 := by rw [hW1]; exact below_drewN (n := 1) (((Below.refl _ _).alloc (Nat.le_refl _) _).alloc (by simp) _)
  have hz1 : W1.heap.size = w.heap.size + 2 := by rw [hW1]; show ((w.alloc _).alloc _).heap.size = _; simp
  have oz : Own W1 w.heap.size 41 zeroUnit := by
    rw [hW1]
    exact (own_lit w _ _ zeroUnit rfl).below (below_drewN (n := 1) (below_alloc _ _)) (by simp)
  have ou : Own W1 (w.heap.size + 1) 41 [.int .u8 0, .bool false, .int .u8 (x.sent : Int), .bool x.fore, .int .u8 0, .int .u8 0, .slice none 0 0] := by
    have hh := own_lit (w.alloc (.cells #[.int .u8 0, .bool false, .int .u8 0, .bool false, .int .u8 0, .int .u8 0, .slice none 0 0] 41)) 41 #[.int .u8 0, .bool false, .int .u8 (x.sent : Int), .bool x.fore, .int .u8 0, .int .u8 0, .slice none 0 0] _ rfl
    rw [World.size_alloc] at hh
    rw [hW1]; exact hh
  have h1 := h.later hb1
  have c3 := h.cells.2.2.2.1
  have c4 := h.cells.2.2.2.2.1
  have hbs : b < w.heap.size := h.own.lt
  have HW := Lib.hid hW1
  have HB := Lib.hid hb1
  have HZ := Lib.hid oz
  have HU := Lib.hid ou
  have H1 := Lib.hid h1
  have H := Lib.hid h
  clear hW1 hb1 oz ou h1 h
  go_enter Try.func30, Try.ntmps30
  go_wp2_with fail
  go_step3
  go_wp2_with fail
  go_region
  rw [← HW.out]
  clear c3 c4
  go_wp2_with fail
  go_step3
  go_wp2_with fail
  have c0 := H1.out.cells.1
  have c1 := H1.out.cells.2.1
  have c2 := H1.out.cells.2.2.1
  rw [hp] at c2
  obtain ⟨u0, u1, u2, u3, u4, u5, u6⟩ := unit_cells HU.out
  obtain ⟨y0, y1, y2, y3, y4, y5, y6⟩ := unit_cells HZ.out
  obtain ⟨t0, t1, t2, t3, t4, t5, t6⟩ := unit_frozen HZ.out
  have hn : x.next = (⟨x.acc, x.back, x.sent, x.fore, 0, 0, []⟩, x) := by
    unfold En.next; rw [if_neg (by omega)]
    cases hq : x.que with
    | nil => rfl
    | cons l q => simp only; rw [if_neg (by rw [hq] at hno; simp only [List.length_cons] at hno; omega)]; rfl
  have hnu : ∀ k, L.S b k → ¬ k = w.heap.size + 1 := fun k hk hh => by have := H.out.s_lt k hk; omega
  have hnz : ∀ k, L.S b k → ¬ k = w.heap.size := fun k hk hh => by have := H.out.s_lt k hk; omega
  have HNu := Lib.hid hnu
  have HNz := Lib.hid hnz
  have HP := Lib.hid hp
  have HN := Lib.hid hn
  clear hnu hnz hp hn
  by_cases hq : 0 < x.que.length
  · have hq1 : (0 : Int) < (x.que.length : Int) := by omega
    have hq2 : ¬ (x.una.length : Int) < 127 := by omega
    have hq3 : decide ((x.una.length : Int) < 127) = false := decide_eq_false hq2
    refine wp_loop_rounds 1 ?_
    rw [rounds_succ]
    go_wp2
    generalize hW6 : (((((((W1.setCell ⟨w.heap.size, 0, none⟩ (.int .u8 0)).setCell ⟨w.heap.size, 1, none⟩ (.bool false)).setCell ⟨w.heap.size, 2, none⟩ (.int .u8 (x.sent : Int))).setCell ⟨w.heap.size, 3, none⟩ (.bool x.fore)).setCell ⟨w.heap.size, 4, none⟩ (.int .u8 0)).setCell ⟨w.heap.size, 5, none⟩ (.int .u8 0)).setCell ⟨w.heap.size, 6, none⟩ (.slice none 0 0)) = W6
    have hx56 : Exc (fun k => k = w.heap.size) W1 W6 := by rw [← hW6]; exact (((((((Exc.refl (fun k => k = w.heap.size) W1).setCell ⟨w.heap.size, 0, none⟩ (.inl rfl) _).setCell ⟨w.heap.size, 1, none⟩ (.inl rfl) _).setCell ⟨w.heap.size, 2, none⟩ (.inl rfl) _).setCell ⟨w.heap.size, 3, none⟩ (.inl rfl) _).setCell ⟨w.heap.size, 4, none⟩ (.inl rfl) _).setCell ⟨w.heap.size, 5, none⟩ (.inl rfl) _).setCell ⟨w.heap.size, 6, none⟩ (.inl rfl) _
    have oz6 : Own W6 w.heap.size 41 [.int .u8 0, .bool false, .int .u8 (x.sent : Int), .bool x.fore, .int .u8 0, .int .u8 0, .slice none 0 0] := by rw [← hW6]; exact (((((((HZ.out.set 0 (.int .u8 0)).set 1 (.bool false)).set 2 (.int .u8 (x.sent : Int))).set 3 (.bool x.fore)).set 4 (.int .u8 0)).set 5 (.int .u8 0)).set 6 (.slice none 0 0))
    clear hW6 u0 u1 u2 u3 u4 u5 u6 y0 y1 y2 y3 y4 y5 y6 t0 t1 t2 t3 t4 t5 t6 c0 c1 c2
    obtain ⟨y0, y1, y2, y3, y4, y5, y6⟩ := unit_cells oz6
    refine bodyPost_ret (v := .agg #[.int .u8 0, .bool false, .int .u8 (x.sent : Int), .bool x.fore, .int .u8 0, .int .u8 0, .slice none 0 0]) (by simp [results, Try.results30, go_sem, y0, y1, y2, y3, y4, y5, y6]) rfl ?_
    rw [HN.out]
    refine ⟨none, 0, rfl, rfl, Row.of_nil _ _, fun z hz => (by cases hz), L, H1.out.exc hx56 HNz.out, ⟨(Exc.of_below HB.out).trans hx56 (fun k hk hh => by omega), fun k hk => .inl hk⟩, fun z hz => (by cases hz)⟩
  · have hq1 : ¬ (0 : Int) < (x.que.length : Int) := by omega
    have hq3 : decide ((0 : Int) < (x.que.length : Int)) = false := decide_eq_false hq1
    refine wp_loop_rounds 1 ?_
    rw [rounds_succ]
    go_wp2
    generalize hW6 : (((((((W1.setCell ⟨w.heap.size, 0, none⟩ (.int .u8 0)).setCell ⟨w.heap.size, 1, none⟩ (.bool false)).setCell ⟨w.heap.size, 2, none⟩ (.int .u8 (x.sent : Int))).setCell ⟨w.heap.size, 3, none⟩ (.bool x.fore)).setCell ⟨w.heap.size, 4, none⟩ (.int .u8 0)).setCell ⟨w.heap.size, 5, none⟩ (.int .u8 0)).setCell ⟨w.heap.size, 6, none⟩ (.slice none 0 0)) = W6
    have hx56 : Exc (fun k => k = w.heap.size) W1 W6 := by rw [← hW6]; exact (((((((Exc.refl (fun k => k = w.heap.size) W1).setCell ⟨w.heap.size, 0, none⟩ (.inl rfl) _).setCell ⟨w.heap.size, 1, none⟩ (.inl rfl) _).setCell ⟨w.heap.size, 2, none⟩ (.inl rfl) _).setCell ⟨w.heap.size, 3, none⟩ (.inl rfl) _).setCell ⟨w.heap.size, 4, none⟩ (.inl rfl) _).setCell ⟨w.heap.size, 5, none⟩ (.inl rfl) _).setCell ⟨w.heap.size, 6, none⟩ (.inl rfl) _
    have oz6 : Own W6 w.heap.size 41 [.int .u8 0, .bool false, .int .u8 (x.sent : Int), .bool x.fore, .int .u8 0, .int .u8 0, .slice none 0 0] := by rw [← hW6]; exact (((((((HZ.out.set 0 (.int .u8 0)).set 1 (.bool false)).set 2 (.int .u8 (x.sent : Int))).set 3 (.bool x.fore)).set 4 (.int .u8 0)).set 5 (.int .u8 0)).set 6 (.slice none 0 0))
    clear hW6 u0 u1 u2 u3 u4 u5 u6 y0 y1 y2 y3 y4 y5 y6 t0 t1 t2 t3 t4 t5 t6 c0 c1 c2
    obtain ⟨y0, y1, y2, y3, y4, y5, y6⟩ := unit_cells oz6
    refine bodyPost_ret (v := .agg #[.int .u8 0, .bool false, .int .u8 (x.sent : Int), .bool x.fore, .int .u8 0, .int .u8 0, .slice none 0 0]) (by simp [results, Try.results30, go_sem, y0, y1, y2, y3, y4, y5, y6]) rfl ?_
    rw [HN.out]
    refine ⟨none, 0, rfl, rfl, Row.of_nil _ _, fun z hz => (by cases hz), L, H1.out.exc hx56 HNz.out, ⟨(Exc.of_below HB.out).trans hx56 (fun k hk hh => by omega), fun k hk => .inl hk⟩, fun z hz => (by cases hz)⟩
end Go.Proofs.Ytoegijmfcelgnaa
