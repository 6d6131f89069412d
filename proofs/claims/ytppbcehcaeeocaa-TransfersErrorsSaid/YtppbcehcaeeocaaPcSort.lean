/- The stable order of places: the closure, the library's sort of few. -/
import Derived.Test.YtppbcehcaeeocaaPlHt
import Derived.Test.YtppbcehcaeeocaaPlLayA
import Derived.Test.YtppbcehcaeeocaaLbCmp
import Derived.BigQuiet
namespace Go.Proofs.Ytppbcehcaeeocaa
open Go.RowKit Go.Sort Go.Lib

theorem sort_exc {α : Type} [Inhabited α] (enc : α → Value) (w : World) (blk off m : Nat) (dk : Array α) (os : Array Obj) : Exc (fun k => k = blk) w (sortWorld enc w blk off m dk os) := by
  refine ⟨rfl, rfl, rfl, by simp [sortWorld, grow, putRow, mapBlock, Sort.ahead], fun k hk hn => ?_⟩
  show ((Sort.ahead w m).heap.modify blk _ ++ os)[k]? = w.heap[k]?
  rw [Array.getElem?_append_left (by simpa [Sort.ahead] using hk), Array.getElem?_modify, if_neg (fun e => hn e.symm)]
  rfl
theorem sw_exc {α : Type} [Inhabited α] {enc : α → Value} {w0 W : World} {blk off : Nat} {dk : Array α} (h : SW enc w0 blk off dk W) : Exc (fun k => k = blk) w0 W := by
  obtain ⟨m, os, rfl⟩ := h
  exact sort_exc enc w0 blk off m dk os
theorem cmpI_any (a b : Int) (w : World) :
    Calls Try.prog 52 #[.int .i64 a, .int .i64 b] w fun e w' => e = .returned (.int .i64 (cmpL a b)) ∧ w' = w := by
  rcases cmpL_cases a b with ⟨e, h⟩ | ⟨e, h⟩ | ⟨e, rfl⟩ <;> rw [e] <;> clear e
  · go_enter Try.func52, Try.ntmps52
    go_wp2
    go_ret
    exact ⟨rfl, rfl⟩
  · have h' : ¬ a < b := by omega
    go_enter Try.func52, Try.ntmps52
    go_wp2
    go_ret
    exact ⟨rfl, rfl⟩
  · go_enter Try.func52, Try.ntmps52
    go_wp2
    go_ret
    exact ⟨rfl, rfl⟩
/-- The comparison of two places by their distances. -/
def cfL (l : List Int) (n : Nat) (x y : Fin n) : Int := cmpL (l.getD x.val 0) (l.getD y.val 0)
theorem ltOf_cf (l : List Int) (n : Nat) : ltOf (cfL l n) = ltF (fun x : Fin n => l.getD x.val 0) := by
  funext x y
  unfold ltOf cfL ltF
  rcases cmpL_cases (l.getD x.val 0) (l.getD y.val 0) with ⟨e, h⟩ | ⟨e, h⟩ | ⟨e, h⟩
  · rw [e, show decide (l.getD x.val 0 < l.getD y.val 0) = true from decide_eq_true h]; rfl
  · rw [e, show decide (l.getD x.val 0 < l.getD y.val 0) = false from decide_eq_false (by omega)]; rfl
  · rw [e, show decide (l.getD x.val 0 < l.getD y.val 0) = false from decide_eq_false (by omega)]; rfl
def encF {n : Nat} (x : Fin n) : Value := .int .i64 (x.val : Int)
set_option maxHeartbeats 1000000 in
theorem closure_any (l : List Int) (n : Nat) (x y : Fin n) (bx g : Nat) (W : World) (hl : l.length = n) (hb : W.cell? ⟨bx, 0, none⟩ = some (.slice (some ⟨g, 0, none⟩) n n)) (ho : Own W g 3 (nums .i64 l)) :
    Calls Try.prog 64 #[encF x, encF y, .pointer (some ⟨bx, 0, none⟩)] W fun e w' => e = .returned (.int .i64 (cfL l n x y)) ∧ ∃ q, w' = W.drewN q := by
  unfold encF
  obtain ⟨i, hi⟩ := x
  obtain ⟨j, hj⟩ := y
  have c1 := ho.cell i (by rw [nums_length]; omega)
  have c2 := ho.cell j (by rw [nums_length]; omega)
  rw [nums_getD _ _ _ (by omega)] at c1 c2
  unfold cfL
  simp only
  generalize l.getD i 0 = u at c1 ⊢
  generalize l.getD j 0 = v at c2 ⊢
  have i1 : (0 : Int) ≤ (i : Int) := by omega
  have i2 : (i : Int) < (n : Int) := by omega
  have j1 : (0 : Int) ≤ (j : Int) := by omega
  have j2 : (j : Int) < (n : Int) := by omega
  have HC := Lib.hid (fun W => cmpI_any u v W)
  generalize cmpL u v = r at HC ⊢
  clear ho hl
  go_enter Try.func64, Try.ntmps64
  go_wp2_with fail
  go_quiet ((go_at_call 52; exact Calls.quiet_of_same (HC.out _)))
  go_wp2
  go_ret
  exact ⟨rfl, _, rfl⟩
theorem lays_any (l : List Int) (n : Nat) [Inhabited (Fin n)] (bx g blk size : Nat) (w : World) (hl : l.length = n) (hb : w.cell? ⟨bx, 0, none⟩ = some (.slice (some ⟨g, 0, none⟩) n n)) (ho : Own w g 3 (nums .i64 l)) (h1 : bx ≠ blk) (h2 : g ≠ blk) :
    CmpLays1 Try.prog 64 #[.pointer (some ⟨bx, 0, none⟩)] (encF (n := n)) (cfL l n) blk 0 size w := fun m os dk _ x y => by
  have hx := sort_exc (encF (n := n)) w blk 0 m dk os
  refine (closure_any l n x y bx g _ hl (hx.cell hb h1) ?_).mono fun e w' h => ⟨h.1, ?_⟩
  · unfold Own
    rw [hx.block g ho.lt h2]; exact ho
  · obtain ⟨q, hq⟩ := h.2
    exact ⟨q, #[], by rw [hq, grow_empty]⟩
/-- What the library's stable sort leaves. -/
def StOut {n : Nat} [Inhabited (Fin n)] (Q : Array (Fin n) → Prop) (w : World) (blk : Nat) (d : Array (Fin n)) (e : Ending) (w' : World) : Prop := e = .returned (.tuple #[]) ∧ ∃ d', d'.size = d.size ∧ Q d' ∧ SW encF w blk 0 d' w'
set_option maxHeartbeats 2000000 in
theorem stable_few (l : List Int) (n : Nat) [Inhabited (Fin n)] (bx g blk cap : Nat) (d : Array (Fin n)) (w : World) (hl : l.length = n) (hb : w.cell? ⟨bx, 0, none⟩ = some (.slice (some ⟨g, 0, none⟩) n n)) (ho : Own w g 3 (nums .i64 l)) (h1 : bx ≠ blk) (h2 : g ≠ blk)
    (hH : Holds (encF (n := n)) w blk 0 d) (hblk : blk < w.heap.size) (hd : d.size < 20) (hd0 : 0 < d.size) :
    Calls Try.prog 77 #[.slice (some ⟨blk, 0, none⟩) d.size cap, .int .i64 (d.size : Int), .func (.func 64) #[] #[.pointer (some ⟨bx, 0, none⟩)]] w (StOut (fun d' => d' = insertionSort (ltF (fun x : Fin n => l.getD x.val 0)) d 0 d.size) w blk d) := by
  have eg : ∀ args w, (callFunc 64 args).run Try.prog w = .ok (.enter 64 args) w := enters_of Try.func64 (by kernel_rfl) rfl
  have hcon := Any.insertionSortCmpFunc_s layInsert (encF (n := n)) (cfL l n) 64 #[.pointer (some ⟨bx, 0, none⟩)] blk 0 cap 0 d.size d d w w eg (lays_any l n bx g blk d.size w hl hb ho h1 h2) ⟨fun _ => rfl, hH, hblk⟩ rfl (SW.start hH) (Nat.zero_le _) (Nat.le_refl _) (by omega)
  rw [ltOf_cf] at hcon
  change Calls Try.prog 92 #[.slice (some ⟨blk, 0, none⟩) d.size cap, .int .i64 0, .int .i64 (d.size : Int), .func (.func 64) #[] #[.pointer (some ⟨bx, 0, none⟩)]] _ _ at hcon
  have HC := Lib.hid hcon
  have HSz := Lib.hid ((sort_size (fun x : Fin n => l.getD x.val 0) d))
  obtain ⟨m, hm⟩ : ∃ m, m = d.size := ⟨_, rfl⟩
  rw [← hm] at HC HSz hd hd0 ⊢
  have HM := Lib.hid hm
  clear hcon hb ho hH eg hl hm
  have d1 : (m : Int) < 20 := by omega
  have d2 : (0 : Int) ≤ (m : Int) := by omega
  have d3 : ¬ (20 : Int) ≤ (m : Int) := by omega
  go_enter Try.func77, Try.ntmps77
  go_wp2_with fail
  go_loopw [7, 8] (fun sa sb wr => sa = .int .i64 0 ∧ sb = .int .i64 20 ∧ wr = w) (fun _ _ _ => 0)
  case atStart => exact ⟨rfl, rfl, rfl⟩
  case round =>
    obtain ⟨rfl, rfl, rfl⟩ := hrel
    go_wp2_with fail
    with_reducible refine HC.out.mono ?_
    rintro e w' ⟨rfl, hsw⟩
    have HSw := Lib.hid hsw
    clear hsw HC
    go_wp2_with fail
    go_loopw [6] (fun s6 wr => s6 = .int .i64 20 ∧ wr = w') (fun _ _ => 0)
    case atStart => exact ⟨rfl, rfl⟩
    case round =>
      obtain ⟨rfl, rfl⟩ := hrel
      go_wp2
      go_end0
      exact ⟨rfl, _, by rw [HSz.out, HM.out], by rw [HM.out], HSw.out⟩
theorem sortStable_any {n : Nat} [Inhabited (Fin n)] (Q : Array (Fin n) → Prop) (bx blk cap : Nat) (d : Array (Fin n)) (w : World)
    (hs : Calls Try.prog 77 #[.slice (some ⟨blk, 0, none⟩) d.size cap, .int .i64 (d.size : Int), .func (.func 64) #[] #[.pointer (some ⟨bx, 0, none⟩)]] w (StOut Q w blk d)) :
    Calls Try.prog 63 #[.slice (some ⟨blk, 0, none⟩) d.size cap, .func (.func 64) #[] #[.pointer (some ⟨bx, 0, none⟩)]] w (StOut Q w blk d) := by
  have HC := Lib.hid hs
  clear hs
  obtain ⟨m, hm⟩ : ∃ m, m = d.size := ⟨_, rfl⟩
  rw [← hm] at HC ⊢
  clear hm
  go_enter Try.func63, Try.ntmps63
  go_wp2_with fail
  with_reducible refine HC.out.mono ?_
  rintro e w' ⟨rfl, hq⟩
  have HQ := Lib.hid hq
  clear hq HC
  go_wp2
  go_end0
  exact ⟨rfl, HQ.out⟩
end Go.Proofs.Ytppbcehcaeeocaa
