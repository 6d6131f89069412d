/- The statements' own functions index and lines. -/
import Derived.Test.YtekaedmhdoijeaaPlAt
import Derived.StillTailTactics
namespace Go.Proofs.Ytekaedmhdoijeaa
open Go.RowKit

def planCells (a : Option Addr) (n c : Nat) (a' : Option Addr) (n' c' : Nat) (p : Pn) : List Value := [.slice a n c, .slice a' n' c', .int .i64 p.rate, .int .i64 p.room, .int .i64 p.m0, .int .i64 p.m1, .int .i64 p.m2]
theorem own_alloc (w : World) (cs : List Value) (t : Nat) : Own (w.alloc (.cells cs.toArray t)) w.heap.size t cs := heap_alloc_new w _
/-- The boxed plan: its two slices. -/
theorem boxed {a : Option Addr} {n c : Nat} {a' : Option Addr} {n' c' : Nat} {p : Pn} {w W : World} {t : Nat} (hW : W = w.alloc (.cells (planCells a n c a' n' c' p).toArray t)) :
    W.cell? ⟨w.heap.size, 0, none⟩ = some (.slice a n c) ∧ W.cell? ⟨w.heap.size, 1, none⟩ = some (.slice a' n' c') ∧ W.cell? ⟨w.heap.size, 2, none⟩ = some (.int .i64 p.rate) ∧ W.cell? ⟨w.heap.size, 3, none⟩ = some (.int .i64 p.room) ∧ W.cell? ⟨w.heap.size, 4, none⟩ = some (.int .i64 p.m0) ∧ W.cell? ⟨w.heap.size, 5, none⟩ = some (.int .i64 p.m1) ∧ W.cell? ⟨w.heap.size, 6, none⟩ = some (.int .i64 p.m2) ∧ Below w.heap.size w W := by
  have h := own_alloc w (planCells a n c a' n' c' p) t
  rw [← hW] at h
  refine ⟨h.cell 0 (by simp [planCells]), h.cell 1 (by simp [planCells]), h.cell 2 (by simp [planCells]), h.cell 3 (by simp [planCells]), h.cell 4 (by simp [planCells]), h.cell 5 (by simp [planCells]), h.cell 6 (by simp [planCells]), ?_⟩
  rw [hW]; exact below_alloc _ _
theorem index_any (p : Pn) (a : Option Addr) (n c : Nat) (a' : Option Addr) (n' c' : Nat) (code : Int) (w : World) (hP : PRow w a n c p.P) :
    Calls Try.prog 14 #[planV a n c a' n' c' p, .int .u16 code] w fun e w' => e = .returned (.int .i64 (idxI p.P code)) ∧ Below w.heap.size w w' := by
  unfold planV
  obtain ⟨W, hW⟩ : ∃ W, W = w.alloc (.cells (planCells a n c a' n' c' p).toArray 26) := ⟨_, rfl⟩
  obtain ⟨g0, g1, g2, g3, g4, g5, g6, hB⟩ := boxed hW
  have hP' := hP.later hB
  have hmax := hP.max
  have hle := hP.le
  unfold maxLen at hmax
  go_enter Try.func14, Try.ntmps14
  go_wp2_with fail
  show Code.wp _ _ _ _ (w.alloc (.cells (planCells a n c a' n' c' p).toArray 26))
  rw [← hW]
  have HW := Lib.hid hW
  have HB := Lib.hid hB
  have HP := Lib.hid hP'
  have hPl := Lib.hid hP.len
  clear hW hB hP hP'
  go_loopw [5] (fun i wr => ∃ k : Nat, k ≤ n ∧ i = .int .i64 k ∧ (∀ j, j < k → pc p.P j ≠ code) ∧ wr = W) (fun i _ => n - (intOf i).toNat)
  case atStart => exact ⟨0, Nat.zero_le _, rfl, fun j hj => absurd hj (Nat.not_lt_zero _), rfl⟩
  case round =>
    obtain ⟨k, hk, rfl, hno, rfl⟩ := hrel
    have HN := Lib.hid hno
    clear hno
    by_cases hkn : k < n
    · obtain ⟨b, off, rfl, hc⟩ := HP.out.cells.resolve_left (by omega)
      obtain ⟨c0, c1⟩ := hc k hkn
      clear hc
      obtain ⟨x, hx⟩ : ∃ x, x = pc p.P k := ⟨_, rfl⟩
      have HX := Lib.hid hx
      rw [← hx] at c0
      clear hx
      by_cases he : x = code
      · subst he
        go_wp2
        go_ret
        refine ⟨ret_int ?_, HB.out⟩
        unfold idxI
        rw [fnd_some (k := k) (by have := hPl.out; omega) HX.out.symm HN.out]
      · go_wp2
        refine ⟨⟨k + 1, by omega, by go_num, fun j hj => ?_, trivial⟩, by simp [intOf]; omega⟩
        by_cases hjk : j = k
        · rw [hjk, ← HX.out]; exact he
        · exact HN.out j (by omega)
    · have hkn' : k = n := by omega
      subst hkn'
      go_wp2
      go_ret
      refine ⟨ret_int ?_, HB.out⟩
      unfold idxI
      rw [fnd_none (by rw [hPl.out]; exact HN.out)]
theorem joins_one {A B C D x y : Int} {l : Ln} {r : Bool} (h : l = ⟨A, B, C, D⟩) (hr : joins ⟨A, B, C, D⟩ x y = r) : joins l x y = r := by rw [h]; exact hr
theorem near_t {L : List Ln} {x y : Int} {k N : Nat} (hs : nearN (L.take (k + 1)) x y = nearN (L.take k) x y + (if joins (lnAt L k) x y = true then 1 else 0)) (hj : joins (lnAt L k) x y = true) (hn : N = nearN (L.take k) x y) : Value.int .i64 ((N : Int) + 1) = Value.int .i64 (nearN (L.take (k + 1)) x y) := by
  rw [hs, if_pos hj, ← hn]; congr 1
theorem near_f {L : List Ln} {x y : Int} {k N : Nat} (hs : nearN (L.take (k + 1)) x y = nearN (L.take k) x y + (if joins (lnAt L k) x y = true then 1 else 0)) (hj : joins (lnAt L k) x y = false) (hn : N = nearN (L.take k) x y) : Value.int .i64 (N : Int) = Value.int .i64 (nearN (L.take (k + 1)) x y) := by
  rw [hs, if_neg (by rw [hj]; exact Bool.false_ne_true), ← hn]; rfl
theorem lines_any (p : Pn) (a : Option Addr) (n c : Nat) (a' : Option Addr) (n' c' : Nat) (x y : Int) (w : World) (hL : LRow w a' n' c' p.L) :
    Calls Try.prog 18 #[planV a n c a' n' c' p, .int .u16 x, .int .u16 y] w fun e w' => e = .returned (.int .i64 (nearN p.L x y)) ∧ Below w.heap.size w w' := by
  unfold planV
  obtain ⟨W, hW⟩ : ∃ W, W = w.alloc (.cells (planCells a n c a' n' c' p).toArray 26) := ⟨_, rfl⟩
  obtain ⟨g0, g1, g2, g3, g4, g5, g6, hB⟩ := boxed hW
  have hsz : W.heap.size = w.heap.size + 1 := by rw [hW]; simp
  have hL' := hL.later hB
  have hmax := hL.max
  have hle := hL.le
  unfold maxLen at hmax
  go_enter Try.func18, Try.ntmps18
  go_wp2_with fail
  show Code.wp _ _ _ _ (w.alloc (.cells (planCells a n c a' n' c' p).toArray 26))
  rw [← hW]
  have HW := Lib.hid hW
  have HB := Lib.hid hB
  have HL := Lib.hid hL'
  have hLl := Lib.hid hL.len
  have HZ := Lib.hid hsz
  clear hW hB hL hL' hsz g0 g2 g3 g4 g5 g6
  have G1 := Lib.hid g1
  clear g1
  go_loopw [7, 8] (fun s i wr => ∃ k : Nat, k ≤ n' ∧ i = .int .i64 k ∧ s = .int .i64 (nearN (p.L.take k) x y) ∧ Below W.heap.size W wr) (fun _ i _ => n' - (intOf i).toNat)
  case atStart => exact ⟨0, Nat.zero_le _, rfl, by simp [nearN], Below.refl _ _⟩
  case round =>
    obtain ⟨k, hk, rfl, rfl, hb⟩ := hrel
    have g1 : wr.cell? ⟨w.heap.size, 1, none⟩ = some (.slice a' n' c') := (hb.cell (by rw [HZ.out]; exact Nat.lt_succ_self _)).trans G1.out
    obtain ⟨N, hN⟩ : ∃ N, N = nearN (p.L.take k) x y := ⟨_, rfl⟩
    have hNk : N ≤ k := by rw [hN]; have := nearN_le (p.L.take k) x y; simp at this; omega
    rw [← hN]
    have HN := Lib.hid hN
    have HL2 := Lib.hid (HL.out.later hb)
    have HB2 := Lib.hid hb
    clear hN hb
    by_cases hkn : k < n'
    · obtain ⟨b, off, rfl, hc⟩ := HL2.out.cells.resolve_left (by omega)
      obtain ⟨c0, c1, c2, c3⟩ := hc k hkn
      clear hc
      obtain ⟨l, hl⟩ : ∃ l, l = lnAt p.L k := ⟨_, rfl⟩
      rw [← hl] at c0 c1 c2 c3
      have HX := Lib.hid hl
      clear hl
      obtain ⟨A, B, C, D⟩ := l
      simp only at c0 c1 c2 c3
      have HS := Lib.hid (nearN_take p.L x y k (by have := hLl.out; omega))
      by_cases h1 : A = x
      · by_cases h2 : B = y
        · have HJ := Lib.hid (joins_one HX.out.symm (show joins ⟨A, B, C, D⟩ x y = true by simp [joins, h1, h2]))
          subst h1
          subst h2
          go_wp2
          exact ⟨⟨k + 1, by omega, by go_num, near_t HS.out HJ.out HN.out, HB2.out.trans ((below_alloc wr _).mono HB2.out.size)⟩, by simp [intOf]; omega⟩
        · have HJ := Lib.hid (joins_one HX.out.symm (show joins ⟨A, B, C, D⟩ x y = false by simp [joins]; omega))
          have f2 : (B == y) = false := by simpa using h2
          by_cases h3 : A = y
          · have f4 : (B == x) = false := by simp; omega
            subst h1
            subst h3
            go_wp2
            exact ⟨⟨k + 1, by omega, by go_num, near_f HS.out HJ.out HN.out, HB2.out.trans ((below_alloc wr _).mono HB2.out.size)⟩, by simp [intOf]; omega⟩
          · have f3 : (A == y) = false := by simpa using h3
            subst h1
            go_wp2
            exact ⟨⟨k + 1, by omega, by go_num, near_f HS.out HJ.out HN.out, HB2.out.trans ((below_alloc wr _).mono HB2.out.size)⟩, by simp [intOf]; omega⟩
      · have f1 : (A == x) = false := by simpa using h1
        by_cases h3 : A = y
        · by_cases h4 : B = x
          · have HJ := Lib.hid (joins_one HX.out.symm (show joins ⟨A, B, C, D⟩ x y = true by simp [joins, h3, h4]))
            subst h3
            subst h4
            go_wp2
            exact ⟨⟨k + 1, by omega, by go_num, near_t HS.out HJ.out HN.out, HB2.out.trans ((below_alloc wr _).mono HB2.out.size)⟩, by simp [intOf]; omega⟩
          · have HJ := Lib.hid (joins_one HX.out.symm (show joins ⟨A, B, C, D⟩ x y = false by simp [joins]; omega))
            have f4 : (B == x) = false := by simpa using h4
            subst h3
            go_wp2
            exact ⟨⟨k + 1, by omega, by go_num, near_f HS.out HJ.out HN.out, HB2.out.trans ((below_alloc wr _).mono HB2.out.size)⟩, by simp [intOf]; omega⟩
        · have HJ := Lib.hid (joins_one HX.out.symm (show joins ⟨A, B, C, D⟩ x y = false by simp [joins]; omega))
          have f3 : (A == y) = false := by simpa using h3
          go_wp2
          exact ⟨⟨k + 1, by omega, by go_num, near_f HS.out HJ.out HN.out, HB2.out.trans ((below_alloc wr _).mono HB2.out.size)⟩, by simp [intOf]; omega⟩
    · have hkn' : k = n' := by omega
      subst hkn'
      go_wp2
      go_ret
      refine ⟨ret_int ?_, HB.out.trans (HB2.out.mono HB.out.size)⟩
      rw [HN.out, ← hLl.out, List.take_length]
end Go.Proofs.Ytekaedmhdoijeaa
