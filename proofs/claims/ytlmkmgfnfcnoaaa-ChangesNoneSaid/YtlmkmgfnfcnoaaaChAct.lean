/- Ends of layer 16: Arrive, Fail, Restore. -/
import Derived.Test.YtlmkmgfnfcnoaaaChGet
namespace Go.Proofs.Ytlmkmgfnfcnoaaa
open Go.RowKit

set_option maxHeartbeats 2000000 in
set_option maxRecDepth 100000 in
theorem arrive_ok (b : Nat) (x : Ed) (N : Nat) (w : World) (h : EdAt w b x) (hst : x.st = 0) (hl : x.last < 60000) (hN : N = x.last + 1) :
    Calls Try.prog 10 #[.pointer (some ⟨b, 0, none⟩), .int .i64 (N : Int)] w fun e w' => e = .returned (.int .i64 0) ∧ EdTo w b x { x with last := N } w' := by
  have HC := Lib.hid (check_ok b x 0 w h hst)
  have H := Lib.hid h
  have hs : IntKind.i64.wrap ((x.last : Int) + 1) = (N : Int) := by rw [IntWalk.i64_in _ (by omega)]; omega
  obtain ⟨L, hL⟩ : ∃ L, L = x.last := ⟨_, rfl⟩
  rw [← hL] at hs hl
  have HL := Lib.hid hL
  have HN := Lib.hid hN
  clear h hst hN hL
  go_enter Try.func10, Try.ntmps10
  go_wp2_with fail
  refine HC.out.mono ?_
  rintro e w' ⟨rfl, q, rfl⟩
  have h2 := H.out.later (below_draw w q)
  generalize hW2 : w.drewN q = w2 at h2 ⊢
  have hb2 : Below w.heap.size w w2 := by rw [← hW2]; exact below_draw w q
  have c4 := h2.cells.2.2.2.2.1
  have f4 := h2.own.frozen 4
  rw [← HL.out] at c4
  have hn : (((N : Nat) : Int) != ((N : Nat) : Int)) = false := by simp
  have H2 := Lib.hid h2
  have HB2 := Lib.hid hb2
  clear h2 hb2 hW2
  go_wp2
  have hx := Blk.exc b 4 (.int .i64 (N : Int)) w2
  have ho := H2.out.own.set 4 (.int .i64 (N : Int))
  have hfin := H2.out.redo (x' := { x with last := N }) hx (by
    have e : edCells { x with last := N } = (edCells x).set 4 (.int .i64 (N : Int)) := by simp [edCells]
    rw [e]; exact ho) rfl rfl rfl rfl H2.out.few (by show N ≤ 60000; have := HN.out; have := HL.out; omega) H2.out.st3 H2.out.wf
  go_ret
  exact ⟨rfl, hfin.after HB2.out⟩
set_option maxHeartbeats 2000000 in
set_option maxRecDepth 100000 in
theorem fail_ok (b : Nat) (x : Ed) (t : Int) (w : World) (h : EdAt w b x) (hst : x.st = 0) (ht : -9223372036854775808 ≤ t ∧ t ≤ 9223372036854775807) :
    Calls Try.prog 12 #[.pointer (some ⟨b, 0, none⟩), .int .i64 t] w fun e w' => e = .returned (.tuple #[.int .i64 (x.last : Int), .int .i64 0]) ∧ EdTo w b x { x with st := 1, failed := t } w' := by
  have HC := Lib.hid (check_ok b x 0 w h hst)
  have H := Lib.hid h
  have HT := Lib.hid ht
  clear h hst ht
  go_enter Try.func12, Try.ntmps12
  go_wp2_with fail
  refine HC.out.mono ?_
  rintro e w' ⟨rfl, q, rfl⟩
  have h2 := H.out.later (below_draw w q)
  generalize hW2 : w.drewN q = w2 at h2 ⊢
  have hb2 : Below w.heap.size w w2 := by rw [← hW2]; exact below_draw w q
  obtain ⟨_, c1, _, _, c4, c5⟩ := h2.cells
  have f1 := h2.own.frozen 1
  have f5 := h2.own.frozen 5
  have H2 := Lib.hid h2
  have HB2 := Lib.hid hb2
  clear h2 hb2 hW2
  go_wp2
  have hx := Blk.more (Blk.exc b 1 (.int .u8 1) w2) 5 (.int .i64 t)
  have ho := (H2.out.own.set 1 (.int .u8 1)).set 5 (.int .i64 t)
  have hfin := H2.out.redo (x' := { x with st := 1, failed := t }) hx (by
    have e : edCells { x with st := 1, failed := t } = ((edCells x).set 1 (.int .u8 1)).set 5 (.int .i64 t) := by simp [edCells]
    rw [e]; exact ho) rfl rfl rfl rfl H2.out.few H2.out.lst (by show 1 ≤ 2; decide) HT.out
  go_ret2
  exact ⟨rfl, hfin.after HB2.out⟩
set_option maxHeartbeats 2000000 in
set_option maxRecDepth 100000 in
theorem restore_ok (b : Nat) (x : Ed) (w : World) (h : EdAt w b x) (hst : x.st = 2) :
    Calls Try.prog 15 #[.pointer (some ⟨b, 0, none⟩)] w fun e w' => e = .returned (.int .i64 0) ∧ EdTo w b x Ed.fresh w' := by
  have HC := Lib.hid (check_ok b x 2 w h hst)
  have H := Lib.hid h
  clear h hst
  go_enter Try.func15, Try.ntmps15
  go_wp2_with fail
  refine HC.out.mono ?_
  rintro e w' ⟨rfl, q, rfl⟩
  have h2 := H.out.later (below_draw w q)
  generalize hW2 : w.drewN q = w2 at h2 ⊢
  have hb2 : Below w.heap.size w w2 := by rw [← hW2]; exact below_draw w q
  have HN := Lib.hid (new_any w2)
  have H2 := Lib.hid h2
  have HB2 := Lib.hid hb2
  clear h2 hb2 hW2
  go_wp2_with fail
  refine HN.out.mono ?_
  rintro e w3 ⟨rfl, hn3, hb3⟩
  have h3 := H2.out.later hb3
  obtain ⟨n, hn⟩ : ∃ n, n = w2.heap.size := ⟨_, rfl⟩
  rw [← hn] at hn3 ⊢
  obtain ⟨d0, d1, d2, d3, d4, d5⟩ := hn3.cells
  obtain ⟨c0, c1, c2, c3, c4, c5⟩ := h3.cells
  have f0 := h3.own.frozen 0
  have f1 := h3.own.frozen 1
  have f2 := h3.own.frozen 2
  have f3 := h3.own.frozen 3
  have f4 := h3.own.frozen 4
  have f5 := h3.own.frozen 5
  have H3 := Lib.hid h3
  have HB3 := Lib.hid (HB2.out.trans (hb3.mono HB2.out.size))
  have n1 : ¬ b = n := by have := H2.out.own.lt; omega
  have n2 : ¬ n = b := by omega
  have HLt := Lib.hid H.out.own.lt
  clear h3 hb3 hn hn3
  simp only [Ed.fresh, List.length_nil] at d0 d1 d2 d3 d4 d5
  go_wp2
  have hx := Blk.more (Blk.more (Blk.more (Blk.more (Blk.more (Blk.exc b 0 (.bool true) w3) 1 (.int .u8 0)) 2 (.slice none 0 0)) 3 (.int .i64 0)) 4 (.int .i64 0)) 5 (.int .i64 0)
  have ho := ((((((H3.out.own.set 0 (.bool true)).set 1 (.int .u8 0)).set 2 (.slice none 0 0)).set 3 (.int .i64 0)).set 4 (.int .i64 0)).set 5 (.int .i64 0))
  have hfin := H3.out.empty (y := Ed.fresh) hx (by
    have e : edCells Ed.fresh = (((((((edCells x).set 0 (.bool true)).set 1 (.int .u8 0)).set 2 (.slice none 0 0)).set 3 (.int .i64 0)).set 4 (.int .i64 0)).set 5 (.int .i64 0)) := by simp [edCells, Ed.fresh]
    rw [e]; exact ho) rfl rfl rfl rfl (by decide) (by decide) (by decide) (by decide)
  go_ret
  exact ⟨rfl, hfin.after HB3.out⟩
end Go.Proofs.Ytlmkmgfnfcnoaaa
