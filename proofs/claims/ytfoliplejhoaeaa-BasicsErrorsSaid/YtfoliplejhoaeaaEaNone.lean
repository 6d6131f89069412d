/- A nil end and the zero one. -/
import Derived.Test.YtfoliplejhoaeaaMAt
namespace Go.Proofs.Ytfoliplejhoaeaa
open Go.RowKit

def NoneAt (w : World) (P : Option Addr) : Prop := P = none ∨ ∃ z, P = some ⟨z, 0, none⟩ ∧ w.cell? ⟨z, 7, none⟩ = some (.bool false)
theorem NoneAt.later {w w' : World} {P : Option Addr} (h : NoneAt w P) (hb : Below w.heap.size w w') : NoneAt w' P := by
  rcases h with h | ⟨z, h1, h2⟩
  · exact .inl h
  · exact .inr ⟨z, h1, by rw [hb.cell (p := ⟨z, 7, none⟩) (World.block_lt_of_cell? w _ h2)]; exact h2⟩
set_option maxHeartbeats 1000000 in
set_option maxRecDepth 100000 in
theorem none_yes (P : Option Addr) (w : World) (h : NoneAt w P) :
    Calls Try.prog 42 #[.pointer P] w fun e w' => e = .returned (.bool true) ∧ ∃ q, w' = w.drewN q := by
  rcases h with rfl | ⟨z, rfl, hc⟩
  · go_enter Try.func42, Try.ntmps42
    go_wp2
    go_ret
    exact ⟨rfl, 0, rfl⟩
  · go_enter Try.func42, Try.ntmps42
    go_wp2
    go_ret
    exact ⟨rfl, 0, rfl⟩
set_option maxHeartbeats 1000000 in
set_option maxRecDepth 100000 in
theorem none_check (P : Option Addr) (w : World) (h : NoneAt w P) :
    Calls Try.prog 34 #[.pointer P] w fun e w' => e = .returned (.int .i64 2) ∧ ∃ q, w' = w.drewN q := by
  have HC := Lib.hid (none_yes P w h)
  clear h
  go_enter Try.func34, Try.ntmps34
  go_wp2_with fail
  refine HC.out.mono ?_
  rintro e w' ⟨rfl, q, rfl⟩
  go_wp2
  go_ret
  exact ⟨rfl, q, rfl⟩
set_option maxHeartbeats 1000000 in
set_option maxRecDepth 100000 in
theorem none_failed (P : Option Addr) (w : World) (h : NoneAt w P) :
    Calls Try.prog 24 #[.pointer P] w fun e w' => e = .returned (.bool false) ∧ ∃ q, w' = w.drewN q := by
  have HC := Lib.hid (none_yes P w h)
  clear h
  go_enter Try.func24, Try.ntmps24
  go_wp2_with fail
  refine HC.out.mono ?_
  rintro e w' ⟨rfl, q, rfl⟩
  go_wp2
  go_ret
  exact ⟨rfl, q, rfl⟩
set_option maxHeartbeats 1000000 in
set_option maxRecDepth 100000 in
theorem none_last (P : Option Addr) (w : World) (h : NoneAt w P) :
    Calls Try.prog 25 #[.pointer P] w fun e w' => e = .returned (.int .u8 0) ∧ ∃ q, w' = w.drewN q := by
  have HC := Lib.hid (none_yes P w h)
  clear h
  go_enter Try.func25, Try.ntmps25
  go_wp2_with fail
  refine HC.out.mono ?_
  rintro e w' ⟨rfl, q, rfl⟩
  go_wp2
  go_ret
  exact ⟨rfl, q, rfl⟩
set_option maxHeartbeats 1000000 in
set_option maxRecDepth 100000 in
theorem none_waiting (P : Option Addr) (w : World) (h : NoneAt w P) :
    Calls Try.prog 21 #[.pointer P] w fun e w' => e = .returned (.tuple #[.int .i64 0, .int .i64 0]) ∧ ∃ q, w' = w.drewN q := by
  have HC := Lib.hid (none_yes P w h)
  clear h
  go_enter Try.func21, Try.ntmps21
  go_wp2_with fail
  refine HC.out.mono ?_
  rintro e w' ⟨rfl, q, rfl⟩
  go_wp2
  go_ret2
  exact ⟨rfl, q, rfl⟩
set_option maxHeartbeats 1000000 in
set_option maxRecDepth 100000 in
theorem none_retrieve (P : Option Addr) (t : Int) (w : World) (h : NoneAt w P) :
    Calls Try.prog 22 #[.pointer P, .int .u8 t] w fun e w' => e = .returned (.tuple #[.slice none 0 0, .int .i64 2]) ∧ ∃ q, w' = w.drewN q := by
  have HC := Lib.hid (none_yes P w h)
  clear h
  go_enter Try.func22, Try.ntmps22
  go_wp2_with fail
  refine HC.out.mono ?_
  rintro e w' ⟨rfl, q, rfl⟩
  go_wp2
  go_ret2
  exact ⟨rfl, q, rfl⟩
set_option maxHeartbeats 1000000 in
set_option maxRecDepth 100000 in
theorem none_accept (P : Option Addr) (v : Value) (w : World) (h : NoneAt w P) :
    Calls Try.prog 12 #[.pointer P, v] w fun e w' => e = .returned (.int .i64 2) ∧ ∃ q, w' = w.drewN q := by
  have HC := Lib.hid (none_check P w h)
  clear h
  go_enter Try.func12, Try.ntmps12
  go_wp2_with fail
  refine HC.out.mono ?_
  rintro e w' ⟨rfl, q, rfl⟩
  go_wp2
  go_ret
  exact ⟨rfl, q, rfl⟩
set_option maxHeartbeats 1000000 in
set_option maxRecDepth 100000 in
theorem none_hear (P : Option Addr) (u : Un) (s : Option Addr) (n c : Nat) (w : World) (h : NoneAt w P) :
    Calls Try.prog 19 #[.pointer P, .agg (unCells u s n c).toArray] w fun e w' => e = .returned (.tuple #[.slice none 0 0, .int .i64 2]) ∧ Below w.heap.size w w' := by
  obtain ⟨W0, hW0⟩ : ∃ X, X = w.alloc (.cells (unCells u s n c).toArray 41) := ⟨_, rfl⟩
  have hb0 : Below w.heap.size w W0 := by rw [hW0]; exact below_alloc _ _
  have HC := Lib.hid (none_check P W0 (h.later hb0))
  have HW0 := Lib.hid hW0
  have HB0 := Lib.hid hb0
  clear h hW0 hb0
  simp only [unCells] at HW0 ⊢
  go_enter Try.func19, Try.ntmps19
  go_wp2_with fail
  rw [← HW0.out]
  refine HC.out.mono ?_
  rintro e w' ⟨rfl, q, rfl⟩
  go_wp2
  go_ret2
  exact ⟨rfl, HB0.out.trans (Below.mono (below_draw W0 q) HB0.out.size)⟩
set_option maxHeartbeats 1000000 in
set_option maxRecDepth 100000 in
theorem none_next (P : Option Addr) (w : World) (h : NoneAt w P) :
    Calls Try.prog 14 #[.pointer P] w fun e w' => e = .returned (.tuple #[.agg #[.int .u8 0, .bool false, .int .u8 0, .bool false, .int .u8 0, .int .u8 0, .slice none 0 0], .int .i64 2]) ∧ Below w.heap.size w w' := by
  obtain ⟨W0, hW0⟩ : ∃ W, W = w.alloc (.cells #[.int .u8 0, .bool false, .int .u8 0, .bool false, .int .u8 0, .int .u8 0, .slice none 0 0] 41) := ⟨_, rfl⟩
  have hb0 : Below w.heap.size w W0 := by rw [hW0]; exact below_alloc _ _
  have oz : Own W0 w.heap.size 41 zeroUnit := by rw [hW0]; exact own_lit w _ _ zeroUnit rfl
  obtain ⟨y0, y1, y2, y3, y4, y5, y6⟩ := unit_cells oz
  obtain ⟨t0, t1, t2, t3, t4, t5, t6⟩ := unit_frozen oz
  have HC := Lib.hid (none_check P W0 (h.later hb0))
  have HW0 := Lib.hid hW0
  have HB0 := Lib.hid hb0
  have HZ := Lib.hid oz
  have hz0 := oz.lt
  clear h hW0 hb0 oz
  go_enter Try.func14, Try.ntmps14
  go_wp2_with fail
  rw [← HW0.out]
  refine HC.out.mono ?_
  rintro e w' ⟨rfl, q, rfl⟩
  go_wp2
  generalize hW6 : (((((((W0.drewN q).setCell ⟨w.heap.size, 0, none⟩ (.int .u8 0)).setCell ⟨w.heap.size, 1, none⟩ (.bool false)).setCell ⟨w.heap.size, 2, none⟩ (.int .u8 0)).setCell ⟨w.heap.size, 3, none⟩ (.bool false)).setCell ⟨w.heap.size, 4, none⟩ (.int .u8 0)).setCell ⟨w.heap.size, 5, none⟩ (.int .u8 0)).setCell ⟨w.heap.size, 6, none⟩ (.slice none 0 0) = W6
  obtain ⟨oz6, hx6⟩ := seven (HZ.out.below (below_draw W0 q) hz0) hW6
  clear hW6 y0 y1 y2 y3 y4 y5 y6
  obtain ⟨y0, y1, y2, y3, y4, y5, y6⟩ := unit_cells oz6
  refine bodyPost_ret (v := .tuple #[.agg #[.int .u8 0, .bool false, .int .u8 0, .bool false, .int .u8 0, .int .u8 0, .slice none 0 0], .int .i64 2]) (by simp [results, Try.results14, go_sem, y0, y1, y2, y3, y4, y5, y6]) rfl ?_
  refine ⟨rfl, (HB0.out.trans (Below.mono (below_draw W0 q) HB0.out.size)).trans (hx6.below HB0.out.size (fun i _ hi => by omega))⟩
/-- A cell that is written and gets its old value back. -/
theorem heap_restore {T : Nat → Prop} {w w2 : World} {b o : Nat} {v v' : Value} (hv : w.cell? ⟨b, o, none⟩ = some v) (hx : Exc T (w.setCell ⟨b, o, none⟩ v') w2) (hT : ¬ T b) : (w2.setCell ⟨b, o, none⟩ v).heap[b]? = w.heap[b]? := by
  have hb := World.block_lt_of_cell? w _ hv
  have h2 := hx.block b (by simpa using hb) hT
  unfold World.cell? at hv
  unfold World.setCell at h2 ⊢
  simp only [Array.getElem?_modify] at h2 ⊢
  simp only [if_true] at h2 ⊢
  rw [h2]
  cases hh : w.heap[b]? with
  | none => rfl
  | some ob =>
    rw [hh] at hv
    cases ob with
    | cells c t fz =>
      simp only [Option.map_some, Option.isSome_none, Bool.false_eq_true, if_false] at hv ⊢
      congr 2
      apply Array.ext_getElem?
      intro i
      have hco : c[o]? = some v := by simpa using hv
      have hlt : o < c.size := (Array.getElem?_eq_some_iff.1 hco).1
      rw [Array.getElem?_setIfInBounds, Array.getElem?_setIfInBounds]
      by_cases hi : o = i
      · subst hi
        rw [hco]
        simp [hlt]
      · simp [hi]
    | _ => rfl
theorem below_restore {T : Nat → Prop} {w A w2 : World} {b o : Nat} {v v' : Value} (hA : Below w.heap.size w A) (hv : A.cell? ⟨b, o, none⟩ = some v) (hx : Exc T (A.setCell ⟨b, o, none⟩ v') w2) (hT : ∀ k, T k → w.heap.size ≤ k) (hb : b < w.heap.size) : Below w.heap.size w (w2.setCell ⟨b, o, none⟩ v) := by
  have hs1 : (A.setCell ⟨b, o, none⟩ v').heap.size = A.heap.size := by simp
  have hs2 : (w2.setCell ⟨b, o, none⟩ v).heap.size = w2.heap.size := by simp
  have hsz := hx.size
  have hAs := hA.size
  refine ⟨hx.os.trans hA.os, hx.tape.trans hA.tape, hx.output.trans hA.output, by omega, fun k hk => ?_⟩
  by_cases hkb : k = b
  · subst hkb
    rw [heap_restore hv hx (fun hh => by have := hT _ hh; omega)]
    exact hA.block k hk
  · rw [heap_setCell_other w2 ⟨b, o, none⟩ k v hkb, hx.block k (by omega) (fun hh => by have := hT _ hh; omega), heap_setCell_other A ⟨b, o, none⟩ k v' hkb]
    exact hA.block k hk
/-- An end whose bits and numbers are those of the beginning. -/
structure FinAt (B : Nat) (W : World) (b : Nat) : Prop where
  fin : ∃ x L, EndL W b x L ∧ (∀ k, L.S b k → B ≤ k) ∧ x.failed = false ∧ x.acc = 127 ∧ x.back = true ∧ x.fore = true
theorem FinAt.later {B : Nat} {W W' : World} {b : Nat} (h : FinAt B W b) (hb : Below W.heap.size W W') : FinAt B W' b := by
  obtain ⟨x, L, h1, h2⟩ := h.fin
  exact ⟨x, L, h1.later hb, h2⟩
theorem En.next_fb (x : En) : x.next.1.fb = x.fore := by
  unfold En.next
  split
  · rfl
  · cases x.que with
    | nil => rfl
    | cons l q => simp only; split <;> rfl
theorem fin_hear {B : Nat} {W : World} {b : Nat} {u : Un} {s : Option Addr} {n c : Nat} (h : FinAt B W b) (h0 : u.back < 256) (h2 : u.fore < 256) (h4 : u.kind < 256) (h5 : u.state < 256) (hn : n ≤ 9223372036854775807) (hno : chk (u.back : Int) (u.fore : Int) (u.kind : Int) (u.state : Int) n ≠ 0) :
    Calls Try.prog 19 #[.pointer (some ⟨b, 0, none⟩), .agg (unCells u s n c).toArray] W fun e w' => e = .returned (.tuple #[.slice none 0 0, .int .i64 (chk (u.back : Int) (u.fore : Int) (u.kind : Int) (u.state : Int) n)]) ∧ Below W.heap.size W w' := by
  obtain ⟨x, L, h1, _, hf, _⟩ := h.fin
  exact hear_not b x L W u s n c h1 hf h0 h2 h4 h5 hn (.inl hno)
theorem fin_next {B : Nat} {W : World} {b : Nat} (h : FinAt B W b) (hB : B ≤ W.heap.size) :
    Calls Try.prog 14 #[.pointer (some ⟨b, 0, none⟩)] W fun e w' => (∃ (f k : Nat) (s : Option Addr) (m : Nat), e = .returned (.tuple #[.agg #[.int .u8 127, .bool true, .int .u8 (f : Int), .bool true, .int .u8 (k : Int), .int .u8 0, .slice s m m], .int .i64 0])) ∧ Below B W w' := by
  obtain ⟨x, L, h1, h2, hf, ha, hk, hfo⟩ := h.fin
  obtain ⟨n1, n2, n3, _, _⟩ := En.next_facts x
  have n4 := En.next_fb x
  refine (next_ok b x L W h1 hf).mono ?_
  rintro e w' ⟨L', ⟨s, rfl, _, _⟩, _, ht⟩
  refine ⟨⟨x.next.1.fore, x.next.1.kind, s, x.next.1.load.length, ?_⟩, ht.exc.below hB (fun i _ hi => h2 i hi)⟩
  unfold unCells
  rw [n1, n2, n3, n4, ha, hk, hfo]
  rfl
end Go.Proofs.Ytfoliplejhoaeaa
