/- The code's Index, and whether points are places. -/
import Derived.Test.YtppbcehcaeeocaaPlIdx
import Derived.Test.YtppbcehcaeeocaaPlNb
import Derived.Deep.LoopGhost
namespace Go.Proofs.Ytppbcehcaeeocaa
open Go.RowKit

def idN (P : List (Int × Bool)) (c : Int) : Nat := (fnd P c).getD 0
def isB (P : List (Int × Bool)) (c : Int) : Bool := (fnd P c).isSome
theorem idN_some {P : List (Int × Bool)} {c : Int} {k : Nat} (h : fnd P c = some k) : idN P c = k ∧ isB P c = true := by unfold idN isB; rw [h]; exact ⟨rfl, rfl⟩
theorem idN_none {P : List (Int × Bool)} {c : Int} (h : fnd P c = none) : idN P c = 0 ∧ isB P c = false := by unfold idN isB; rw [h]; exact ⟨rfl, rfl⟩
theorem ret_ib {a b : Int} {x y : Bool} (h : a = b ∧ x = y) : Ending.returned (.tuple #[.int .i64 a, .bool x]) = Ending.returned (.tuple #[.int .i64 b, .bool y]) := by rw [h.1, h.2]
set_option maxHeartbeats 1000000 in
theorem cindex_any (p : Pn) (a : Option Addr) (n c : Nat) (a' : Option Addr) (n' c' : Nat) (code : Int) (w : World) (hP : PRow w a n c p.P) :
    Calls Try.prog 29 #[planV a n c a' n' c' p, .int .u16 code] w fun e w' => e = .returned (.tuple #[.int .i64 (idN p.P code), .bool (isB p.P code)]) ∧ Below w.heap.size w w' := by
  unfold planV
  obtain ⟨W, hW⟩ : ∃ W, W = w.alloc (.cells (planCells a n c a' n' c' p).toArray 33) := ⟨_, rfl⟩
  obtain ⟨g0, g1, g2, g3, g4, g5, g6, hB⟩ := boxed hW
  have hsz : W.heap.size = w.heap.size + 1 := by rw [hW]; simp
  have hP' := hP.later hB
  have hmax := hP.max
  have hle := hP.le
  unfold maxLen at hmax
  go_enter Try.func29, Try.ntmps29
  go_wp2_with fail
  show Code.wp _ _ _ _ (w.alloc (.cells (planCells a n c a' n' c' p).toArray 33))
  rw [← hW]
  have HB := Lib.hid hB
  have HP := Lib.hid hP'
  have hPl := Lib.hid hP.len
  clear hW hB hP hP' g1 g2 g3 g4 g5 g6 hsz
  go_wp2_with fail
  clear g0
  go_loopw [11] (fun i wr => ∃ k : Nat, k ≤ n ∧ i = .int .i64 k ∧ (∀ j, j < k → pc p.P j ≠ code) ∧ Below W.heap.size W wr) (fun i _ => n - (intOf i).toNat)
  case atStart => exact ⟨0, Nat.zero_le _, rfl, fun j hj => absurd hj (Nat.not_lt_zero _), Below.refl _ _⟩
  case round =>
    obtain ⟨k, hk, rfl, hno, hb⟩ := hrel
    have HN := Lib.hid hno
    have HB2 := Lib.hid hb
    have HP2 := Lib.hid (HP.out.later hb)
    clear hno hb
    by_cases hkn : k < n
    · obtain ⟨b, off, rfl, hc⟩ := HP2.out.cells.resolve_left (by omega)
      obtain ⟨c0, c1⟩ := hc k hkn
      clear hc
      obtain ⟨x, hx⟩ : ∃ x, x = pc p.P k := ⟨_, rfl⟩
      have HX := Lib.hid hx
      rw [← hx] at c0
      clear hx
      by_cases he : x = code
      · subst he
        go_wp2
        go_ret2
        exact ⟨ret_ib (by
          have h := idN_some (fnd_some (k := k) (by have := hPl.out; omega) HX.out.symm HN.out)
          exact ⟨by rw [h.1], h.2.symm⟩), (HB.out.trans (HB2.out.mono HB.out.size)).trans ((below_alloc _ _).mono (Nat.le_trans HB.out.size HB2.out.size))⟩
      · have hef : (x == code) = false := by simpa using he
        go_wp2
        refine ⟨⟨k + 1, by omega, by go_num, fun j hj => ?_, HB2.out.trans ((below_alloc wr _).mono HB2.out.size)⟩, by simp [intOf]; omega⟩
        by_cases hjk : j = k
        · rw [hjk, ← HX.out]; exact he
        · exact HN.out j (by omega)
    · have hkn' : k = n := by omega
      subst hkn'
      go_wp2
      go_ret2
      exact ⟨ret_ib (by
        have h := idN_none (fnd_none (P := p.P) (c := code) (by rw [hPl.out]; exact HN.out))
        exact ⟨by rw [h.1]; rfl, h.2.symm⟩), HB.out.trans (HB2.out.mono HB.out.size)⟩
/-- The plan in its box. -/
def PlanAt (w : World) (b : Nat) (a : Option Addr) (n c : Nat) (a' : Option Addr) (n' c' : Nat) (p : Pn) : Prop := Own w b 33 (planCells a n c a' n' c' p)
theorem PlanAt.cells {w : World} {b : Nat} {a : Option Addr} {n c : Nat} {a' : Option Addr} {n' c' : Nat} {p : Pn} (h : PlanAt w b a n c a' n' c' p) :
    w.cell? ⟨b, 0, none⟩ = some (.slice a n c) ∧ w.cell? ⟨b, 1, none⟩ = some (.slice a' n' c') ∧ w.cell? ⟨b, 2, none⟩ = some (.int .i64 p.rate) ∧ w.cell? ⟨b, 3, none⟩ = some (.int .i64 p.room) ∧ w.cell? ⟨b, 4, none⟩ = some (.int .i64 p.m0) ∧ w.cell? ⟨b, 5, none⟩ = some (.int .i64 p.m1) ∧ w.cell? ⟨b, 6, none⟩ = some (.int .i64 p.m2) :=
  ⟨Own.cell h 0 (by simp [planCells]), Own.cell h 1 (by simp [planCells]), Own.cell h 2 (by simp [planCells]), Own.cell h 3 (by simp [planCells]), Own.cell h 4 (by simp [planCells]), Own.cell h 5 (by simp [planCells]), Own.cell h 6 (by simp [planCells])⟩
theorem PlanAt.later {w w' : World} {b : Nat} {a : Option Addr} {n c : Nat} {a' : Option Addr} {n' c' : Nat} {p : Pn} (h : PlanAt w b a n c a' n' c' p) (hb : Below w.heap.size w w') : PlanAt w' b a n c a' n' c' p := Own.below h hb (Own.lt h)
theorem PlanAt.new (w : World) (a : Option Addr) (n c : Nat) (a' : Option Addr) (n' c' : Nat) (p : Pn) : PlanAt (w.alloc (.cells (planCells a n c a' n' c' p).toArray 33)) w.heap.size a n c a' n' c' p := own_alloc _ _ _
/-- The closure of hasPlaces: a point is no place. -/
theorem noplace_any (p : Pn) (a : Option Addr) (n c : Nat) (a' : Option Addr) (n' c' : Nat) (b : Nat) (code : Int) (w : World) (hb : PlanAt w b a n c a' n' c' p) (hP : PRow w a n c p.P) :
    Calls Try.prog 75 #[.int .u16 code, .pointer (some ⟨b, 0, none⟩)] w fun e w' => e = .returned (.bool (!isB p.P code)) ∧ Below w.heap.size w w' := by
  obtain ⟨g0, g1, g2, g3, g4, g5, g6⟩ := hb.cells
  have hC := fun W (h : PRow W a n c p.P) => cindex_any p a n c a' n' c' code W h
  simp only [planV] at hC
  have HC := Lib.hid hC
  clear hC
  have HP := Lib.hid hP
  clear hP hb
  go_enter Try.func75, Try.ntmps75
  go_wp2_with fail
  with_reducible refine (HC.out _ HP.out).mono ?_
  rintro e w' ⟨rfl, hb⟩
  have HB := Lib.hid hb
  clear hb g0 g1 g2 g3 g4 g5 g6
  go_wp2
  go_ret
  exact ⟨rfl, HB.out⟩
/-- A list of points of the call's own: one that is no place is found. -/
def badI (P : List (Int × Bool)) (l : List Int) : Bool := l.any fun c => !isB P c
set_option maxHeartbeats 1000000 in
theorem find_any (p : Pn) (a : Option Addr) (n c : Nat) (a' : Option Addr) (n' c' : Nat) (b g : Nat) (l : List Int) (m : Nat) (hm : l.length = m) (hm2 : m ≤ 3) (w : World) (hb : PlanAt w b a n c a' n' c' p) (hP : PRow w a n c p.P) (hg : Own w g 40 (nums .u16 l)) :
    Calls Try.prog 89 #[.slice (some ⟨g, 0, none⟩) m m, .func (.func 75) #[] #[.pointer (some ⟨b, 0, none⟩)]] w fun e w' =>
      (∃ r : Int, e = .returned (.int .i64 r) ∧ (0 ≤ r ↔ badI p.P l = true)) ∧ Below w.heap.size w w' := by
  have HB := Lib.hid hb
  have HP := Lib.hid hP
  have HG := Lib.hid hg
  have HM := Lib.hid hm
  clear hb hP hg hm
  go_enter Try.func89, Try.ntmps89
  go_wp2
  go_loopg [5, 8] m (fun gg _ s8 wr => ∃ k : Nat, k ≤ m ∧ m - k ≤ gg ∧ s8 = .int .i64 k ∧ (∀ j, j < k → isB p.P (l.getD j 0) = true) ∧ Below w.heap.size w wr)
  case atStart => exact ⟨0, Nat.zero_le _, by omega, rfl, fun j hj => absurd hj (Nat.not_lt_zero _), Below.refl _ _⟩
  case round =>
    obtain ⟨k, hk, hgg, rfl, hp, hbl⟩ := hrel
    have HPk := Lib.hid hp
    have HBl := Lib.hid hbl
    clear hp hbl
    by_cases hlt : k < m
    · have hki : (k : Int) < (m : Int) := by omega
      have hcell := (HG.out.below HBl.out HG.out.lt).cell k (by rw [nums_length, HM.out]; exact hlt)
      rw [nums_getD _ _ _ (by rw [HM.out]; exact hlt)] at hcell
      have hcon := noplace_any p a n c a' n' c' b (l.getD k 0) wr (HB.out.later HBl.out) (HP.out.later HBl.out)
      obtain ⟨x, hx⟩ : ∃ x, x = l.getD k 0 := ⟨_, rfl⟩
      have HX := Lib.hid hx
      rw [← hx] at hcell hcon
      clear hx
      obtain ⟨B, hB⟩ : ∃ B, B = !isB p.P x := ⟨_, rfl⟩
      rw [← hB] at hcon
      have HBB := Lib.hid hB
      have HCo := Lib.hid hcon
      clear hcon hB
      cases B
      · go_wp2_with fail
        with_reducible refine HCo.out.mono ?_
        rintro e w' ⟨rfl, hbl2⟩
        have HB2 := Lib.hid (HBl.out.trans (hbl2.mono HBl.out.size))
        clear hbl2 hcell HCo
        go_wp2
        go_roundg (m - (k + 1))
        case measure => omega
        case rel => exact ⟨k + 1, by omega, by omega, by go_num, fun j hj => by
          by_cases e : j = k
          · rw [e, ← HX.out]; have := HBB.out; simpa using this.symm
          · exact HPk.out j (by omega), HB2.out⟩
      · go_wp2_with fail
        with_reducible refine HCo.out.mono ?_
        rintro e w' ⟨rfl, hbl2⟩
        have HB2 := Lib.hid (HBl.out.trans (hbl2.mono HBl.out.size))
        clear hbl2 hcell HCo
        go_wp2
        go_ret
        refine ⟨⟨(k : Int), rfl, ?_⟩, HB2.out⟩
        refine ⟨fun _ => ?_, fun _ => by omega⟩
        unfold badI
        rw [List.any_eq_true]
        refine ⟨x, ?_, HBB.out.symm⟩
        rw [HX.out, List.getD_eq_getElem?_getD, List.getElem?_eq_getElem (by rw [HM.out]; exact hlt), Option.getD_some]
        exact List.getElem_mem _
    · obtain rfl : k = m := by omega
      have hki : ¬ ((k : Nat) : Int) < (k : Int) := by omega
      go_wp2
      go_ret
      refine ⟨⟨-1, rfl, ⟨fun h => by omega, fun h => ?_⟩⟩, HBl.out⟩
      exfalso
      unfold badI at h
      rw [List.any_eq_true] at h
      obtain ⟨x, hx, hn⟩ := h
      obtain ⟨j, hj, rfl⟩ := List.getElem_of_mem hx
      have := HPk.out j (by rw [← HM.out]; exact hj)
      rw [List.getD_eq_getElem?_getD, List.getElem?_eq_getElem hj, Option.getD_some] at this
      rw [this] at hn; cases hn
/-- At no points. -/
theorem find_none (c : Nat) (a : Option Addr) (fv : Value) (w : World) :
    Calls Try.prog 89 #[.slice a 0 c, fv] w fun e w' => e = .returned (.int .i64 (-1)) ∧ w = w' := by
  go_enter Try.func89, Try.ntmps89
  go_wp2
  go_loopg [5, 8] 0 (fun _ _ s8 wr => s8 = .int .i64 0 ∧ wr = w)
  case atStart => exact ⟨rfl, rfl⟩
  case round =>
    obtain ⟨rfl, rfl⟩ := hrel
    go_wp2
    go_ret
    exact ⟨rfl, rfl⟩
theorem contains_any (p : Pn) (a : Option Addr) (n c : Nat) (a' : Option Addr) (n' c' : Nat) (b g : Nat) (l : List Int) (m : Nat) (hm : l.length = m) (hm2 : m ≤ 3) (w : World) (hb : PlanAt w b a n c a' n' c' p) (hP : PRow w a n c p.P) (hg : Own w g 40 (nums .u16 l)) :
    Calls Try.prog 74 #[.slice (some ⟨g, 0, none⟩) m m, .func (.func 75) #[] #[.pointer (some ⟨b, 0, none⟩)]] w fun e w' =>
      e = .returned (.bool (badI p.P l)) ∧ Below w.heap.size w w' := by
  have HC := Lib.hid (find_any p a n c a' n' c' b g l m hm hm2 w hb hP hg)
  clear hm hb hP hg
  obtain ⟨B, hB⟩ : ∃ B, B = badI p.P l := ⟨_, rfl⟩
  rw [← hB]
  have HB := Lib.hid hB
  clear hB
  go_enter Try.func74, Try.ntmps74
  go_wp2_with fail
  with_reducible refine HC.out.mono ?_
  rintro e w' ⟨⟨r, rfl, hr⟩, hbl⟩
  have HBl := Lib.hid hbl
  rw [← HB.out] at hr
  have HR := Lib.hid hr
  clear hbl hr
  by_cases h0 : 0 ≤ r
  · have HT := Lib.hid (HR.out.1 h0)
    go_wp2
    go_ret
    exact ⟨ret_bool HT.out.symm, HBl.out⟩
  · have HT := Lib.hid (show B = false by cases e : B; rfl; exact absurd (HR.out.2 e) h0)
    have h1 : r < 0 := by omega
    go_wp2
    go_ret
    exact ⟨ret_bool (by rw [HT.out]; first | exact decide_eq_true h0 | exact decide_eq_false (by omega)), HBl.out⟩
end Go.Proofs.Ytppbcehcaeeocaa
