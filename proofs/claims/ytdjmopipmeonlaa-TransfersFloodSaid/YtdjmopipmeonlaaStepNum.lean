/- Joined: PcApi StepNum. -/
import Derived.Test.YtdjmopipmeonlaaPcDist
import Derived.Test.YtdjmopipmeonlaaPcHt
import Derived.Deep.RegionHeld3
import Derived.Test.YtdjmopipmeonlaaTfMap
/- The code's exported functions over a plan: errors first; Neighbors, Distances, Base, Gap. -/
namespace Go.Proofs.Ytdjmopipmeonlaa
set_option linter.unusedVariables false
open Go.RowKit

set_option maxHeartbeats 1000000 in
theorem neighbors_err (p : Pn) (a : Option Addr) (n c : Nat) (a' : Option Addr) (n' c' : Nat) (t : Int) (w : World) (hP : PRow w a n c p.P) (hL : LRow w a' n' c' p.L) (E : Int) (hE : chkPts p [t] = E) (h0 : E ≠ 0) :
    Calls Try.prog 21 #[planV a n c a' n' c' p, .int .u16 t] w fun e w' => e = .returned (.tuple #[.slice none 0 0, .int .i64 E]) ∧ Below w.heap.size w w' := by
  obtain ⟨W, hW⟩ : ∃ W, W = w.alloc (.cells (planCells a n c a' n' c' p).toArray 33) := ⟨_, rfl⟩
  have hB : Below w.heap.size w W := by rw [hW]; exact below_alloc _ _
  have hA : PlanAt W w.heap.size a n c a' n' c' p := by rw [hW]; exact PlanAt.new _ _ _ _ _ _ _ _
  have hlt : w.heap.size < W.heap.size := hA.lt
  have hB1 : Below w.heap.size w (W.alloc (.cells #[.int .u16 t] 40)) := hB.trans ((below_alloc W _).mono hB.size)
  have hsz : W.heap.size = w.heap.size + 1 := by rw [hW]; simp
  have ho := own_alloc W (nums .u16 [t]) 40
  rw [hsz] at ho
  have hC := cchk_any p a n c a' n' c' (w.heap.size + 1) [t] 1 rfl (by decide) (W.alloc (.cells #[.int .u16 t] 40)) (hP.later hB1) (hL.later hB1) ho
  clear ho hsz
  rw [hE] at hC
  unfold planV at *
  have HC := Lib.hid hC
  have HB1 := Lib.hid hB1
  have HA := Lib.hid hA
  obtain ⟨g0, g1, g2, g3, g4, g5, g6⟩ := hA.cells
  clear hC hB hA hB1
  go_enter Try.func21, Try.ntmps21
  go_wp2_with fail
  show Calls _ _ _ ((w.alloc (.cells (planCells a n c a' n' c' p).toArray 33)).alloc _) _
  rw [← hW]
  clear hW
  with_reducible refine HC.out.mono ?_
  rintro e w1 ⟨rfl, hb⟩
  have HB2 := Lib.hid (HB1.out.trans (hb.mono HB1.out.size))
  clear g0 g1 g2 g3 g4 g5 g6
  obtain ⟨g0, g1, g2, g3, g4, g5, g6⟩ := (HA.out.later (by exact (below_alloc W _).trans (hb.mono (below_alloc W _).size))).cells
  have HA2 := Lib.hid (HA.out.later (by exact (below_alloc W _).trans (hb.mono (below_alloc W _).size)))
  clear hb HC
  have hne : (E != 0) = true := by simpa using h0
  clear g0 g1 g2 g3 g4 g5 g6
  go_wp2
  go_ret2
  exact ⟨rfl, HB2.out⟩
set_option maxHeartbeats 1000000 in
theorem links_err (p : Pn) (a : Option Addr) (n c : Nat) (a' : Option Addr) (n' c' : Nat) (t : Int) (u : Int) (w : World) (hP : PRow w a n c p.P) (hL : LRow w a' n' c' p.L) (E : Int) (hE : chkPts p [t, u] = E) (h0 : E ≠ 0) :
    Calls Try.prog 17 #[planV a n c a' n' c' p, .int .u16 t, .int .u16 u] w fun e w' => e = .returned (.tuple #[.slice none 0 0, .int .i64 E]) ∧ Below w.heap.size w w' := by
  obtain ⟨W, hW⟩ : ∃ W, W = w.alloc (.cells (planCells a n c a' n' c' p).toArray 33) := ⟨_, rfl⟩
  have hB : Below w.heap.size w W := by rw [hW]; exact below_alloc _ _
  have hA : PlanAt W w.heap.size a n c a' n' c' p := by rw [hW]; exact PlanAt.new _ _ _ _ _ _ _ _
  have hlt : w.heap.size < W.heap.size := hA.lt
  have hB1 : Below w.heap.size w (W.alloc (.cells #[.int .u16 t, .int .u16 u] 40)) := hB.trans ((below_alloc W _).mono hB.size)
  have hsz : W.heap.size = w.heap.size + 1 := by rw [hW]; simp
  have ho := own_alloc W (nums .u16 [t, u]) 40
  rw [hsz] at ho
  have hC := cchk_any p a n c a' n' c' (w.heap.size + 1) [t, u] 2 rfl (by decide) (W.alloc (.cells #[.int .u16 t, .int .u16 u] 40)) (hP.later hB1) (hL.later hB1) ho
  clear ho hsz
  rw [hE] at hC
  unfold planV at *
  have HC := Lib.hid hC
  have HB1 := Lib.hid hB1
  have HA := Lib.hid hA
  obtain ⟨g0, g1, g2, g3, g4, g5, g6⟩ := hA.cells
  clear hC hB hA hB1
  go_enter Try.func17, Try.ntmps17
  go_wp2_with fail
  show Calls _ _ _ ((w.alloc (.cells (planCells a n c a' n' c' p).toArray 33)).alloc _) _
  rw [← hW]
  clear hW
  with_reducible refine HC.out.mono ?_
  rintro e w1 ⟨rfl, hb⟩
  have HB2 := Lib.hid (HB1.out.trans (hb.mono HB1.out.size))
  clear g0 g1 g2 g3 g4 g5 g6
  obtain ⟨g0, g1, g2, g3, g4, g5, g6⟩ := (HA.out.later (by exact (below_alloc W _).trans (hb.mono (below_alloc W _).size))).cells
  have HA2 := Lib.hid (HA.out.later (by exact (below_alloc W _).trans (hb.mono (below_alloc W _).size)))
  clear hb HC
  have hne : (E != 0) = true := by simpa using h0
  clear g0 g1 g2 g3 g4 g5 g6
  go_wp2
  go_ret2
  exact ⟨rfl, HB2.out⟩
set_option maxHeartbeats 1000000 in
theorem choices_err (p : Pn) (a : Option Addr) (n c : Nat) (a' : Option Addr) (n' c' : Nat) (t : Int) (u : Int) (w : World) (hP : PRow w a n c p.P) (hL : LRow w a' n' c' p.L) (E : Int) (hE : chkPts p [t, u] = E) (h0 : E ≠ 0) :
    Calls Try.prog 32 #[planV a n c a' n' c' p, .int .u16 t, .int .u16 u] w fun e w' => e = .returned (.tuple #[.slice none 0 0, .int .i64 E]) ∧ Below w.heap.size w w' := by
  obtain ⟨W, hW⟩ : ∃ W, W = w.alloc (.cells (planCells a n c a' n' c' p).toArray 33) := ⟨_, rfl⟩
  have hB : Below w.heap.size w W := by rw [hW]; exact below_alloc _ _
  have hA : PlanAt W w.heap.size a n c a' n' c' p := by rw [hW]; exact PlanAt.new _ _ _ _ _ _ _ _
  have hlt : w.heap.size < W.heap.size := hA.lt
  have hB1 : Below w.heap.size w (W.alloc (.cells #[.int .u16 t, .int .u16 u] 40)) := hB.trans ((below_alloc W _).mono hB.size)
  have hsz : W.heap.size = w.heap.size + 1 := by rw [hW]; simp
  have ho := own_alloc W (nums .u16 [t, u]) 40
  rw [hsz] at ho
  have hC := cchk_any p a n c a' n' c' (w.heap.size + 1) [t, u] 2 rfl (by decide) (W.alloc (.cells #[.int .u16 t, .int .u16 u] 40)) (hP.later hB1) (hL.later hB1) ho
  clear ho hsz
  rw [hE] at hC
  unfold planV at *
  have HC := Lib.hid hC
  have HB1 := Lib.hid hB1
  have HA := Lib.hid hA
  obtain ⟨g0, g1, g2, g3, g4, g5, g6⟩ := hA.cells
  clear hC hB hA hB1
  go_enter Try.func32, Try.ntmps32
  go_wp2_with fail
  show Calls _ _ _ ((w.alloc (.cells (planCells a n c a' n' c' p).toArray 33)).alloc _) _
  rw [← hW]
  clear hW
  with_reducible refine HC.out.mono ?_
  rintro e w1 ⟨rfl, hb⟩
  have HB2 := Lib.hid (HB1.out.trans (hb.mono HB1.out.size))
  clear g0 g1 g2 g3 g4 g5 g6
  obtain ⟨g0, g1, g2, g3, g4, g5, g6⟩ := (HA.out.later (by exact (below_alloc W _).trans (hb.mono (below_alloc W _).size))).cells
  have HA2 := Lib.hid (HA.out.later (by exact (below_alloc W _).trans (hb.mono (below_alloc W _).size)))
  clear hb HC
  have hne : (E != 0) = true := by simpa using h0
  clear g0 g1 g2 g3 g4 g5 g6
  go_wp2
  go_ret2
  exact ⟨rfl, HB2.out⟩
set_option maxHeartbeats 1000000 in
theorem links_same (p : Pn) (a : Option Addr) (n c : Nat) (a' : Option Addr) (n' c' : Nat) (t : Int) (w : World) (hP : PRow w a n c p.P) (hL : LRow w a' n' c' p.L) (hE : chkPts p [t, t] = 0) :
    Calls Try.prog 17 #[planV a n c a' n' c' p, .int .u16 t, .int .u16 t] w fun e w' => e = .returned (.tuple #[.slice none 0 0, .int .i64 1]) ∧ Below w.heap.size w w' := by
  obtain ⟨W, hW⟩ : ∃ W, W = w.alloc (.cells (planCells a n c a' n' c' p).toArray 33) := ⟨_, rfl⟩
  have hB : Below w.heap.size w W := by rw [hW]; exact below_alloc _ _
  have hA : PlanAt W w.heap.size a n c a' n' c' p := by rw [hW]; exact PlanAt.new _ _ _ _ _ _ _ _
  have hlt : w.heap.size < W.heap.size := hA.lt
  have hB1 : Below w.heap.size w (W.alloc (.cells #[.int .u16 t, .int .u16 t] 40)) := hB.trans ((below_alloc W _).mono hB.size)
  have hsz : W.heap.size = w.heap.size + 1 := by rw [hW]; simp
  have ho := own_alloc W (nums .u16 [t, t]) 40
  rw [hsz] at ho
  have hC := cchk_any p a n c a' n' c' (w.heap.size + 1) [t, t] 2 rfl (by decide) (W.alloc (.cells #[.int .u16 t, .int .u16 t] 40)) (hP.later hB1) (hL.later hB1) ho
  clear ho hsz
  rw [hE] at hC
  unfold planV at *
  have HC := Lib.hid hC
  have HB1 := Lib.hid hB1
  have HA := Lib.hid hA
  obtain ⟨g0, g1, g2, g3, g4, g5, g6⟩ := hA.cells
  clear hC hB hA hB1
  go_enter Try.func17, Try.ntmps17
  go_wp2_with fail
  show Calls _ _ _ ((w.alloc (.cells (planCells a n c a' n' c' p).toArray 33)).alloc _) _
  rw [← hW]
  clear hW
  with_reducible refine HC.out.mono ?_
  rintro e w1 ⟨rfl, hb⟩
  have HB2 := Lib.hid (HB1.out.trans (hb.mono HB1.out.size))
  clear g0 g1 g2 g3 g4 g5 g6
  obtain ⟨g0, g1, g2, g3, g4, g5, g6⟩ := (HA.out.later (by exact (below_alloc W _).trans (hb.mono (below_alloc W _).size))).cells
  have HA2 := Lib.hid (HA.out.later (by exact (below_alloc W _).trans (hb.mono (below_alloc W _).size)))
  clear hb HC
  clear g0 g1 g2 g3 g4 g5 g6
  go_wp2
  go_ret2
  exact ⟨rfl, HB2.out⟩
set_option maxHeartbeats 1000000 in
theorem choices_same (p : Pn) (a : Option Addr) (n c : Nat) (a' : Option Addr) (n' c' : Nat) (t : Int) (w : World) (hP : PRow w a n c p.P) (hL : LRow w a' n' c' p.L) (hE : chkPts p [t, t] = 0) :
    Calls Try.prog 32 #[planV a n c a' n' c' p, .int .u16 t, .int .u16 t] w fun e w' => e = .returned (.tuple #[.slice none 0 0, .int .i64 1]) ∧ Below w.heap.size w w' := by
  obtain ⟨W, hW⟩ : ∃ W, W = w.alloc (.cells (planCells a n c a' n' c' p).toArray 33) := ⟨_, rfl⟩
  have hB : Below w.heap.size w W := by rw [hW]; exact below_alloc _ _
  have hA : PlanAt W w.heap.size a n c a' n' c' p := by rw [hW]; exact PlanAt.new _ _ _ _ _ _ _ _
  have hlt : w.heap.size < W.heap.size := hA.lt
  have hB1 : Below w.heap.size w (W.alloc (.cells #[.int .u16 t, .int .u16 t] 40)) := hB.trans ((below_alloc W _).mono hB.size)
  have hsz : W.heap.size = w.heap.size + 1 := by rw [hW]; simp
  have ho := own_alloc W (nums .u16 [t, t]) 40
  rw [hsz] at ho
  have hC := cchk_any p a n c a' n' c' (w.heap.size + 1) [t, t] 2 rfl (by decide) (W.alloc (.cells #[.int .u16 t, .int .u16 t] 40)) (hP.later hB1) (hL.later hB1) ho
  clear ho hsz
  rw [hE] at hC
  unfold planV at *
  have HC := Lib.hid hC
  have HB1 := Lib.hid hB1
  have HA := Lib.hid hA
  obtain ⟨g0, g1, g2, g3, g4, g5, g6⟩ := hA.cells
  clear hC hB hA hB1
  go_enter Try.func32, Try.ntmps32
  go_wp2_with fail
  show Calls _ _ _ ((w.alloc (.cells (planCells a n c a' n' c' p).toArray 33)).alloc _) _
  rw [← hW]
  clear hW
  with_reducible refine HC.out.mono ?_
  rintro e w1 ⟨rfl, hb⟩
  have HB2 := Lib.hid (HB1.out.trans (hb.mono HB1.out.size))
  clear g0 g1 g2 g3 g4 g5 g6
  obtain ⟨g0, g1, g2, g3, g4, g5, g6⟩ := (HA.out.later (by exact (below_alloc W _).trans (hb.mono (below_alloc W _).size))).cells
  have HA2 := Lib.hid (HA.out.later (by exact (below_alloc W _).trans (hb.mono (below_alloc W _).size)))
  clear hb HC
  clear g0 g1 g2 g3 g4 g5 g6
  go_wp2
  go_ret2
  exact ⟨rfl, HB2.out⟩
def NbV (p : Pn) (t : Int) (w : World) (e : Ending) (w' : World) : Prop := ∃ a, e = .returned (.tuple #[.slice a (nbrs p t).length (nbrs p t).length, .int .i64 0]) ∧ Row .u16 w' a (nbrs p t).length (nbrs p t).length (nbrs p t) ∧ Below w.heap.size w w'
/-- .. in a block of its own. -/
def NbW (p : Pn) (t : Int) (w : World) (e : Ending) (w' : World) : Prop := ∃ a, e = .returned (.tuple #[.slice a (nbrs p t).length (nbrs p t).length, .int .i64 0]) ∧ Row .u16 w' a (nbrs p t).length (nbrs p t).length (nbrs p t) ∧ Below w.heap.size w w' ∧ ∀ z, a = some z → w.heap.size ≤ z.block
set_option maxHeartbeats 1000000 in
theorem neighbors_lo (p : Pn) (a : Option Addr) (n c : Nat) (a' : Option Addr) (n' c' : Nat) (t : Int) (w : World) (hP : PRow w a n c p.P) (hL : LRow w a' n' c' p.L) (hE : chkPts p [t] = 0) (hv : ValidPl p) :
    Calls Try.prog 21 #[planV a n c a' n' c' p, .int .u16 t] w (NbW p t w) := by
  have hN := fun (W : World) (h : LRow W a' n' c' p.L) => neighborsOf_any p a n c a' n' c' t W h hv
  obtain ⟨W, hW⟩ : ∃ W, W = w.alloc (.cells (planCells a n c a' n' c' p).toArray 33) := ⟨_, rfl⟩
  have hB : Below w.heap.size w W := by rw [hW]; exact below_alloc _ _
  have hA : PlanAt W w.heap.size a n c a' n' c' p := by rw [hW]; exact PlanAt.new _ _ _ _ _ _ _ _
  have hlt : w.heap.size < W.heap.size := hA.lt
  have hB1 : Below w.heap.size w (W.alloc (.cells #[.int .u16 t] 40)) := hB.trans ((below_alloc W _).mono hB.size)
  have hsz : W.heap.size = w.heap.size + 1 := by rw [hW]; simp
  have ho := own_alloc W (nums .u16 [t]) 40
  rw [hsz] at ho
  have hC := cchk_any p a n c a' n' c' (w.heap.size + 1) [t] 1 rfl (by decide) (W.alloc (.cells #[.int .u16 t] 40)) (hP.later hB1) (hL.later hB1) ho
  clear ho hsz
  rw [hE] at hC
  unfold planV at *
  have HC := Lib.hid hC
  have HB1 := Lib.hid hB1
  have HA := Lib.hid hA
  obtain ⟨g0, g1, g2, g3, g4, g5, g6⟩ := hA.cells
  clear hC hB hA hB1
  go_enter Try.func21, Try.ntmps21
  go_wp2_with fail
  show Calls _ _ _ ((w.alloc (.cells (planCells a n c a' n' c' p).toArray 33)).alloc _) _
  rw [← hW]
  clear hW
  with_reducible refine HC.out.mono ?_
  rintro e w1 ⟨rfl, hb⟩
  have HB2 := Lib.hid (HB1.out.trans (hb.mono HB1.out.size))
  clear g0 g1 g2 g3 g4 g5 g6
  obtain ⟨g0, g1, g2, g3, g4, g5, g6⟩ := (HA.out.later (by exact (below_alloc W _).trans (hb.mono (below_alloc W _).size))).cells
  have HA2 := Lib.hid (HA.out.later (by exact (below_alloc W _).trans (hb.mono (below_alloc W _).size)))
  clear hb HC
  have HN := Lib.hid (hN w1 (hL.later HB2.out))
  clear hN
  go_wp2_with fail
  with_reducible refine HN.out.mono ?_
  rintro e w2 ⟨a2, rfl, hr, hb, hfr⟩
  have HFr := Lib.hid (fun (z : Addr) (hz : a2 = some z) => Nat.le_trans HB2.out.size (hfr z hz))
  clear hfr
  have HR := Lib.hid hr
  have HB3 := Lib.hid (HB2.out.trans (hb.mono HB2.out.size))
  clear hr hb HN g0 g1 g2 g3 g4 g5 g6
  go_wp2
  go_ret2
  exact ⟨a2, rfl, HR.out, HB3.out, HFr.out⟩
theorem neighbors_ok (p : Pn) (a : Option Addr) (n c : Nat) (a' : Option Addr) (n' c' : Nat) (t : Int) (w : World) (hP : PRow w a n c p.P) (hL : LRow w a' n' c' p.L) (hE : chkPts p [t] = 0) (hv : ValidPl p) :
    Calls Try.prog 21 #[planV a n c a' n' c' p, .int .u16 t] w (NbV p t w) :=
  (neighbors_lo p a n c a' n' c' t w hP hL hE hv).mono fun _ _ ⟨a, h1, h2, h3, _⟩ => ⟨a, h1, h2, h3⟩
def DisV (p : Pn) (t : Int) (w : World) (e : Ending) (w' : World) : Prop := ∃ g l n, p.P.length = n ∧ DisOk p t l ∧ e = .returned (.tuple #[.slice (some ⟨g, 0, none⟩) n n, .int .i64 0]) ∧ Own w' g 3 (nums .i64 l) ∧ w.heap.size ≤ g ∧ Below w.heap.size w w'
theorem way_some {p : Pn} {t : Int} {l : List Int} {s : Nat} (h : DisOk p t l) (hs : fnd p.P t = some s) : 0 < (wayL p.P.length l).length := by
  obtain ⟨h1, h2, _⟩ := fnd_some_iff.1 hs
  have h3 := h.dist.zero s h1 h2
  refine List.length_pos_of_mem (a := s) (List.mem_filter.2 ⟨List.mem_range.2 h1, ?_⟩)
  simp only [decide_eq_true_eq]
  intro e
  simp only [d99, e, if_true] at h3
  omega
/-- What the stable sort is asked for, whatever the distances. -/
def StAll (p : Pn) (t : Int) (Q : List Int → List Nat → Prop) : Prop := ∀ [Inhabited (Fin p.P.length)] (l : List Int) (g : Nat), DisOk p t l → StAsk p.P.length l g (Q l)
def HtV (p : Pn) (t : Int) (Q : List Int → List Nat → Prop) (w : World) (e : Ending) (w' : World) : Prop :=
  ∃ g l o n, p.P.length = n ∧ DisOk p t l ∧ OrdOk n (wayL n l).length o ∧ Q l o ∧ e = .returned (.tuple #[.slice (some ⟨g, 0, none⟩) n n, .int .i64 0]) ∧ Row .i64 w' (some ⟨g, 0, none⟩) n n (putPos l o o.length) ∧ Below w.heap.size w w'
/-- The greatest delay. -/
def mxD (L : List Ln) : Int := L.foldl (fun m l => max m l.D) 0
theorem mxD_take (L : List Ln) (k : Nat) (hk : k < L.length) : mxD (L.take (k + 1)) = max (mxD (L.take k)) (lnAt L k).D := by
  unfold mxD lnAt
  rw [List.take_succ_eq_append_getElem hk, List.foldl_append]
  simp [List.getD_eq_getElem?_getD, hk]
def baseI (p : Pn) : Int := 4 * (p.P.length : Int) * (mxD p.L + p.room + 1)
theorem mxD_range {L : List Ln} (h : ∀ i, i < L.length → (lnAt L i).D ≤ 64) : ∀ k, k ≤ L.length → 0 ≤ mxD (L.take k) ∧ mxD (L.take k) ≤ 64
  | 0, _ => by simp [mxD]
  | k + 1, hk => by
    have h1 := mxD_range h k (by omega)
    have h2 := h k (by omega)
    rw [mxD_take L k (by omega)]; omega
theorem room_range {p : Pn} (h : ValidPl p) : 1 ≤ p.room ∧ p.room ≤ 64 := by
  have := h.nu
  unfold okNum at this
  simp only [Bool.and_eq_true, decide_eq_true_eq] at this
  omega
theorem baseI_range {p : Pn} (hv : ValidPl p) : 0 ≤ baseI p ∧ baseI p ≤ 33024 := by
  have hD : ∀ i, i < p.L.length → (lnAt p.L i).D ≤ 64 := fun i hi => (line_of_valid hv (by
    have : lnAt p.L i = p.L[i] := by simp [lnAt, List.getD_eq_getElem?_getD, hi]
    rw [this]; exact List.getElem_mem _)).2.2.2.2.1
  have h1 := mxD_range hD p.L.length (Nat.le_refl _)
  rw [List.take_length] at h1
  have h2 := room_range hv
  have h3 := hv.np
  unfold baseI
  exact ⟨Int.mul_nonneg (by omega) (by omega), Int.mul_le_mul (show 4 * (p.P.length : Int) ≤ 256 by omega) (show mxD p.L + p.room + 1 ≤ 129 by omega) (by omega) (by omega)⟩
end Go.Proofs.Ytdjmopipmeonlaa
/- append of a number inside a region that draws its order; three rows of the call's own that grow side by side. -/
namespace Go.Proofs.Ytdjmopipmeonlaa
set_option linter.unusedVariables false
open Go.RowKit

theorem step_append_num {k : IntKind} {t e : TypeId} {bytes : Nat} (ht : Try.prog.underlying t = some (.slice e)) (hin : (Try.prog.info? e).map (fun i => (i.zero, i.size, i.bytes)) = some (some (.int k 0), 1, bytes)) (hby8 : bytes ≤ 8)
    {ops : Array Oper} {o : Oper} {a : Act} {K : Act → World → Prop} {Q : Exit → Act → World → Prop} {E : Prop} {wx : World} (hgd : o.guard = none) (s x : Operand)
    (ho : o.op = .call { callee := .builtin .append, args := #[s, x], argTypes := #[t, t] })
    (B : Nat) (v : Value) (n : Nat) (xs : List Int) (y : Int) (hs : a.eval s = v) (hown : wx.ownsRow B e 1 v n (nums k xs))
    (e0 : Nat) (hx : a.eval x = .slice (some ⟨e0, 0, none⟩) 1 1) (hc : wx.cell? ⟨e0, 0, none⟩ = some (.int k y))
    (hn : n + 1 ≤ 2199023255552) (hB : B ≤ wx.heap.size)
    (h : ∀ v' w', w'.ownsRow B e 1 v' (n + 1) (nums k (xs ++ [y])) → Grow v wx v' w' → K (a.put o.dst v') w') :
    if Region.wanted o (yielded ops a.tmps) = true then Oper.wp Try.prog o a wx K Q else E := by
  obtain ⟨i0, hi, hz0, hz1, hz2⟩ := info_parts hin
  have hbb : (n + 1) * bytes ≤ 140737488355328 := by
    have : (n + 1) * bytes ≤ 2199023255552 * 8 := Nat.mul_le_mul hn hby8
    omega
  refine step_append_lies wx hgd s x _ ho B _ i0 (.int k 0) 1 bytes ht hi hz0 hz1 hz2 rfl (by decide) v n (nums k xs) hs hown ⟨e0, 0, none⟩ 1 1 [.int k y] hx rfl ?_ (fun u' hu' => by simp at hu'; subst hu'; rfl) (by decide) (by unfold maxLen; omega) hbb hB wx.heap.size rfl ?_
  · intro j u' hj
    have hj0 : j = 0 := by
      have := (List.getElem?_eq_some_iff.1 hj).1
      simp at this
      exact this
    subst hj0
    simp at hj
    subst hj
    exact hc
  intro g cap w' h1 h2 h3 h4
  have e1 : nums k (xs ++ [y]) = nums k xs ++ [.int k y] := by simp [nums]
  refine h _ w' (by rw [e1]; exact h1) ⟨Exc.of_grown h2, ?_⟩
  intro j hj
  simp only [Value.ownBlock, Option.some.injEq] at hj
  subst hj
  rcases h3 with h3 | h3
  · exact .inl h3
  · exact .inr (by omega)
/-- Three rows of octets of the call's own, apart. -/
structure Trio (B : Nat) (w : World) (n : Nat) (u v z : Value) (X Y Z : List Int) : Prop where
  a : w.ownsRow B 5 1 u n (nums .u8 X)
  b : ∃ m, w.ownsRow B 5 1 v m (nums .u8 Y)
  c : ∃ m, w.ownsRow B 5 1 z m (nums .u8 Z)
  ab : ∀ k, u.ownBlock = some k → v.ownBlock ≠ some k
  ac : ∀ k, u.ownBlock = some k → z.ownBlock ≠ some k
  bc : ∀ k, v.ownBlock = some k → z.ownBlock ≠ some k
theorem Trio.later {B n : Nat} {w w' : World} {u v z : Value} {X Y Z : List Int} (h : Trio B w n u v z X Y Z) (hb : Below w.heap.size w w') : Trio B w' n u v z X Y Z :=
  ⟨ownsRow_below h.a hb, h.b.imp fun _ hh => ownsRow_below hh hb, h.c.imp fun _ hh => ownsRow_below hh hb, h.ab, h.ac, h.bc⟩
theorem ownsRow_num {w : World} {B e m : Nat} {v : Value} {k : IntKind} {l : List Int} (h : w.ownsRow B e 1 v m (nums k l)) : m = l.length := by
  have := h.1; rw [nums_length] at this; omega
theorem Trio.rot {B n : Nat} {w : World} {u v z : Value} {X Y Z : List Int} (h : Trio B w n u v z X Y Z) (m : Nat) (hm : Y.length = m) : Trio B w m v z u Y Z X := by
  obtain ⟨m', hb⟩ := h.b
  have := ownsRow_num hb
  obtain rfl : m = m' := by omega
  exact ⟨hb, h.c, ⟨n, h.a⟩, h.bc, fun k hk hh => h.ab k hh hk, fun k hk hh => h.ac k hh hk⟩
theorem Trio.add {B n n' : Nat} {w wx w' : World} {u u' v z : Value} {X X' Y Z : List Int} (h : Trio B w n u v z X Y Z) (hb : Below w.heap.size w wx) (ho : w'.ownsRow B 5 1 u' n' (nums .u8 X')) (hg : Grow u wx u' w') : Trio B w' n' u' v z X' Y Z := by
  have hx := h.later hb
  have hlt : ∀ (s : Value) (m : Nat) (l : List Int), w.ownsRow B 5 1 s m (nums .u8 l) → ∀ k, s.ownBlock = some k → k < wx.heap.size := fun s m l hs k hk => by
    have := (World.ownsRow.lt hs k hk).2
    have := hb.size
    omega
  have hne : ∀ (s : Value), (∃ m l, w.ownsRow B 5 1 s m (nums .u8 l)) → (∀ k, u.ownBlock = some k → s.ownBlock ≠ some k) → ∀ k, u'.ownBlock = some k → s.ownBlock ≠ some k := fun s ⟨m, l, hs⟩ hd k hk hh => by
    rcases hg.lies k hk with h1 | h1
    · exact hd k h1 hh
    · have := hlt s m l hs k hh; omega
  obtain ⟨mb, hxb⟩ := hx.b
  obtain ⟨mc, hxc⟩ := hx.c
  refine ⟨ho, ⟨mb, ownsRow_exc hxb hg.exc fun k hk hh => h.ab k hh hk⟩, ⟨mc, ownsRow_exc hxc hg.exc fun k hk hh => h.ac k hh hk⟩, ?_, ?_, h.bc⟩
  · exact hne v (h.b.imp fun _ hh => ⟨_, hh⟩) h.ab
  · exact hne z (h.c.imp fun _ hh => ⟨_, hh⟩) h.ac
theorem Trio.nil (B : Nat) (w : World) : Trio B w 0 (.slice none 0 0) (.slice none 0 0) (.slice none 0 0) [] [] [] := by
  have h0 : w.ownsRow B 5 1 (.slice none 0 0) 0 (nums .u8 []) := by simpa [nums] using World.ownsRow_nil w B 5 1
  exact ⟨h0, ⟨0, h0⟩, ⟨0, h0⟩, by simp [Value.ownBlock], by simp [Value.ownBlock], by simp [Value.ownBlock]⟩
theorem Trio.below {B n : Nat} {w wx w' : World} {u u' v z : Value} {X Y Z : List Int} (h : Trio B w n u v z X Y Z) (hb : Below w.heap.size w wx) (hg : Grow u wx u' w') (hB : B ≤ w.heap.size) : Below B wx w' :=
  hg.below (by have := hb.size; omega) fun k hk => (World.ownsRow.lt h.a k hk).1
end Go.Proofs.Ytdjmopipmeonlaa
