/- Ends of layer 16: what only reads; New; nil and zero ends. -/
import Derived.Test.YtlmkmgfnfcnoaaaChAt
namespace Go.Proofs.Ytlmkmgfnfcnoaaa
open Go.RowKit

/-- Nil, or the zero end. -/
def NoEnd (w : World) (v : Option Addr) : Prop := v = none ∨ ∃ b, v = some ⟨b, 0, none⟩ ∧ w.cell? ⟨b, 0, none⟩ = some (.bool false)
theorem NoEnd.later {w w' : World} {v : Option Addr} (h : NoEnd w v) (hb : Below w.heap.size w w') : NoEnd w' v := by
  rcases h with h | ⟨b, h1, h2⟩
  · exact .inl h
  · exact .inr ⟨b, h1, (hb.cell (World.block_lt_of_cell? w _ h2)).trans h2⟩
set_option maxHeartbeats 1000000 in
set_option maxRecDepth 100000 in
theorem isNone_no (v : Option Addr) (w : World) (h : NoEnd w v) : Calls Try.prog 29 #[.pointer v] w fun e w' => e = .returned (.bool true) ∧ ∃ q, w' = w.drewN q := by
  rcases h with rfl | ⟨b, rfl, c0⟩
  · go_enter Try.func29, Try.ntmps29
    go_wp2
    go_ret
    exact ⟨rfl, 0, rfl⟩
  · go_enter Try.func29, Try.ntmps29
    go_wp2
    go_ret
    exact ⟨rfl, 0, rfl⟩
set_option maxHeartbeats 1000000 in
set_option maxRecDepth 100000 in
theorem isNone_any (b : Nat) (w : World) (c0 : w.cell? ⟨b, 0, none⟩ = some (.bool true)) : Calls Try.prog 29 #[.pointer (some ⟨b, 0, none⟩)] w fun e w' => e = .returned (.bool false) ∧ ∃ q, w' = w.drewN q := by
  go_enter Try.func29, Try.ntmps29
  go_wp2
  go_ret
  exact ⟨rfl, 0, rfl⟩
set_option maxHeartbeats 1000000 in
set_option maxRecDepth 100000 in
theorem check_no (v : Option Addr) (i : Int) (w : World) (h : NoEnd w v) : Calls Try.prog 22 #[.pointer v, .int .u8 i] w fun e w' => e = .returned (.int .i64 2) ∧ ∃ q, w' = w.drewN q := by
  have HC := Lib.hid (isNone_no v w h)
  clear h
  go_enter Try.func22, Try.ntmps22
  go_wp2_with fail
  refine HC.out.mono ?_
  rintro e w' ⟨rfl, q, rfl⟩
  go_wp2
  go_ret
  exact ⟨rfl, q, rfl⟩
set_option maxHeartbeats 1000000 in
set_option maxRecDepth 100000 in
theorem check_ok (b : Nat) (x : Ed) (i : Nat) (w : World) (h : EdAt w b x) (hi : x.st = i) : Calls Try.prog 22 #[.pointer (some ⟨b, 0, none⟩), .int .u8 (i : Int)] w fun e w' => e = .returned (.int .i64 0) ∧ ∃ q, w' = w.drewN q := by
  obtain ⟨c0, c1, _⟩ := h.cells
  rw [hi] at c1
  have HC := Lib.hid (isNone_any b w c0)
  clear h hi c0
  go_enter Try.func22, Try.ntmps22
  go_wp2_with fail
  refine HC.out.mono ?_
  rintro e w' ⟨rfl, q, rfl⟩
  have hn : (((i : Nat) : Int) != ((i : Nat) : Int)) = false := by simp
  go_wp2
  go_ret
  exact ⟨rfl, q, rfl⟩
set_option maxHeartbeats 1000000 in
set_option maxRecDepth 100000 in
theorem check_bad (b : Nat) (x : Ed) (i : Nat) (w : World) (h : EdAt w b x) (hi : x.st ≠ i) : Calls Try.prog 22 #[.pointer (some ⟨b, 0, none⟩), .int .u8 (i : Int)] w fun e w' => e = .returned (.int .i64 6) ∧ ∃ q, w' = w.drewN q := by
  obtain ⟨c0, c1, _⟩ := h.cells
  obtain ⟨s, hs⟩ : ∃ s, s = x.st := ⟨_, rfl⟩
  rw [← hs] at c1 hi
  have HC := Lib.hid (isNone_any b w c0)
  have hn : (((s : Nat) : Int) != ((i : Nat) : Int)) = true := by simp; omega
  have hn2 : (((s : Nat) : Int) == ((i : Nat) : Int)) = false := by simp; omega
  clear h hs c0
  go_enter Try.func22, Try.ntmps22
  go_wp2_with fail
  refine HC.out.mono ?_
  rintro e w' ⟨rfl, q, rfl⟩
  go_wp2
  go_ret
  exact ⟨rfl, q, rfl⟩
set_option maxHeartbeats 1000000 in
set_option maxRecDepth 100000 in
theorem state_no (v : Option Addr) (w : World) (h : NoEnd w v) : Calls Try.prog 21 #[.pointer v] w fun e w' => e = .returned (.int .u8 2) ∧ ∃ q, w' = w.drewN q := by
  have HC := Lib.hid (isNone_no v w h)
  clear h
  go_enter Try.func21, Try.ntmps21
  go_wp2_with fail
  refine HC.out.mono ?_
  rintro e w' ⟨rfl, q, rfl⟩
  go_wp2
  go_ret
  exact ⟨rfl, q, rfl⟩
set_option maxHeartbeats 1000000 in
set_option maxRecDepth 100000 in
theorem state_any (b : Nat) (x : Ed) (w : World) (h : EdAt w b x) : Calls Try.prog 21 #[.pointer (some ⟨b, 0, none⟩)] w fun e w' => e = .returned (.int .u8 (x.st : Int)) ∧ ∃ q, w' = w.drewN q := by
  obtain ⟨c0, c1, _⟩ := h.cells
  have HC := Lib.hid (isNone_any b w c0)
  clear h c0
  go_enter Try.func21, Try.ntmps21
  go_wp2_with fail
  refine HC.out.mono ?_
  rintro e w' ⟨rfl, q, rfl⟩
  go_wp2
  go_ret
  exact ⟨rfl, q, rfl⟩
set_option maxHeartbeats 1000000 in
set_option maxRecDepth 100000 in
theorem retained_no (v : Option Addr) (w : World) (h : NoEnd w v) : Calls Try.prog 17 #[.pointer v] w fun e w' => e = .returned (.int .i64 0) ∧ ∃ q, w' = w.drewN q := by
  have HC := Lib.hid (isNone_no v w h)
  clear h
  go_enter Try.func17, Try.ntmps17
  go_wp2_with fail
  refine HC.out.mono ?_
  rintro e w' ⟨rfl, q, rfl⟩
  go_wp2
  go_ret
  exact ⟨rfl, q, rfl⟩
set_option maxHeartbeats 1000000 in
set_option maxRecDepth 100000 in
theorem retained_any (b : Nat) (x : Ed) (w : World) (h : EdAt w b x) : Calls Try.prog 17 #[.pointer (some ⟨b, 0, none⟩)] w fun e w' => e = .returned (.int .i64 (x.its.length : Int)) ∧ ∃ q, w' = w.drewN q := by
  obtain ⟨c0, _, c2, _⟩ := h.cells
  have HC := Lib.hid (isNone_any b w c0)
  clear h c0
  go_enter Try.func17, Try.ntmps17
  go_wp2_with fail
  refine HC.out.mono ?_
  rintro e w' ⟨rfl, q, rfl⟩
  go_wp2
  go_ret
  exact ⟨rfl, q, rfl⟩
set_option maxHeartbeats 1000000 in
set_option maxRecDepth 100000 in
theorem last_no (v : Option Addr) (w : World) (h : NoEnd w v) : Calls Try.prog 16 #[.pointer v] w fun e w' => e = .returned (.int .i64 0) ∧ ∃ q, w' = w.drewN q := by
  have HC := Lib.hid (isNone_no v w h)
  clear h
  go_enter Try.func16, Try.ntmps16
  go_wp2_with fail
  refine HC.out.mono ?_
  rintro e w' ⟨rfl, q, rfl⟩
  go_wp2
  go_ret
  exact ⟨rfl, q, rfl⟩
set_option maxHeartbeats 1000000 in
set_option maxRecDepth 100000 in
theorem last_any (b : Nat) (x : Ed) (w : World) (h : EdAt w b x) : Calls Try.prog 16 #[.pointer (some ⟨b, 0, none⟩)] w fun e w' => e = .returned (.int .i64 (x.last : Int)) ∧ ∃ q, w' = w.drewN q := by
  obtain ⟨c0, _, _, _, c4, _⟩ := h.cells
  have HC := Lib.hid (isNone_any b w c0)
  clear h c0
  go_enter Try.func16, Try.ntmps16
  go_wp2_with fail
  refine HC.out.mono ?_
  rintro e w' ⟨rfl, q, rfl⟩
  go_wp2
  go_ret
  exact ⟨rfl, q, rfl⟩
set_option maxHeartbeats 1000000 in
set_option maxRecDepth 100000 in
theorem sent_any (b : Nat) (x : Ed) (w : World) (h : EdAt w b x) : Calls Try.prog 26 #[.pointer (some ⟨b, 0, none⟩)] w fun e w' => e = .returned (.int .i64 ((x.acked + x.its.length : Nat) : Int)) ∧ ∃ q, w' = w.drewN q := by
  obtain ⟨c0, _, c2, c3, _⟩ := h.cells
  have hf := h.few
  obtain ⟨A, hA⟩ : ∃ A, A = x.acked := ⟨_, rfl⟩
  obtain ⟨L, hL⟩ : ∃ L, L = x.its.length := ⟨_, rfl⟩
  rw [← hA] at c3 hf ⊢
  rw [← hL] at c2 hf ⊢
  have hs : IntKind.i64.wrap ((A : Int) + (L : Int)) = (A : Int) + (L : Int) := IntWalk.i64_in _ (by omega)
  have HF := Lib.hid hf
  clear h c0 hA hL hf
  go_enter Try.func26, Try.ntmps26
  go_wp2_with fail
  go_region
  go_wp2
  go_ret
  exact ⟨ret_int (by push_cast; rfl), 1, rfl⟩
set_option maxHeartbeats 1000000 in
set_option maxRecDepth 100000 in
theorem new_any (w : World) : Calls Try.prog 7 #[] w fun e w' => e = .returned (.pointer (some ⟨w.heap.size, 0, none⟩)) ∧ EdAt w' w.heap.size Ed.fresh ∧ Below w.heap.size w w' := by
  go_enter Try.func7, Try.ntmps7
  go_wp2
  go_ret
  refine ⟨rfl, ⟨own_lit w _ _ (edCells Ed.fresh) rfl, Buf.nil _ _ _, ItsAt.nil _ _, fun k hk => (nomatch hk), by decide, by decide, by decide, by decide⟩, below_alloc _ _⟩
end Go.Proofs.Ytlmkmgfnfcnoaaa
