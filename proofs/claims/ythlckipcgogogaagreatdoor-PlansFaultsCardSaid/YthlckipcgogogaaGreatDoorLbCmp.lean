/- Joined: PcIdx PlLayA LbCmp. -/
import Derived.Test.YthlckipcgogogaaGreatDoorUnBase
import Derived.Test.YthlckipcgogogaaGreatDoorPlNb
import Derived.Deep.LoopGhost
import Derived.Test.YthlckipcgogogaaGreatDoorBase
import Derived.Shelf.SlicesE.Compact
import Derived.Shelf.SlicesE.Clone
import Derived.Shelf.SlSortCmp.Insertion1
import Derived.Shelf.SlGeneric
import Derived.Test.YthlckipcgogogaaGreatDoorPlCells
import Derived.StillTailTactics
/- The code's Index, and whether points are places. -/
namespace Go.Proofs.YthlckipcgogogaaGreatDoor
set_option linter.unusedVariables false
open Go.RowKit

def idN (P : List (Int × Bool)) (c : Int) : Nat := (fnd P c).getD 0
def isB (P : List (Int × Bool)) (c : Int) : Bool := (fnd P c).isSome
theorem idN_some {P : List (Int × Bool)} {c : Int} {k : Nat} (h : fnd P c = some k) : idN P c = k ∧ isB P c = true := by unfold idN isB; rw [h]; exact ⟨rfl, rfl⟩
theorem idN_none {P : List (Int × Bool)} {c : Int} (h : fnd P c = none) : idN P c = 0 ∧ isB P c = false := by unfold idN isB; rw [h]; exact ⟨rfl, rfl⟩
theorem ret_ib {a b : Int} {x y : Bool} (h : a = b ∧ x = y) : Ending.returned (.tuple #[.int .i64 a, .bool x]) = Ending.returned (.tuple #[.int .i64 b, .bool y]) := by rw [h.1, h.2]
set_option maxHeartbeats 1000000 in
theorem cindex_any (p : Pn) (a : Option Addr) (n c : Nat) (a' : Option Addr) (n' c' : Nat) (code : Int) (w : World) (hP : PRow w a n c p.P) :
    Calls Tryz.prog 64 #[planV a n c a' n' c' p, .int .u16 code] w fun e w' => e = .returned (.tuple #[.int .i64 (idN p.P code), .bool (isB p.P code)]) ∧ Below w.heap.size w w' := by
  unfold planV
  obtain ⟨W, hW⟩ : ∃ W, W = w.alloc (.cells (planCells a n c a' n' c' p).toArray 31) := ⟨_, rfl⟩
  obtain ⟨g0, g1, g2, g3, g4, g5, g6, hB⟩ := boxed hW
  have hsz : W.heap.size = w.heap.size + 1 := by rw [hW]; simp
  have hP' := hP.later hB
  have hmax := hP.max
  have hle := hP.le
  unfold maxLen at hmax
  go_enter Tryz.func64, Tryz.ntmps64
  go_wp2_with fail
  show Code.wp _ _ _ _ (w.alloc (.cells (planCells a n c a' n' c' p).toArray 31))
  rw [← hW]
  have HB := Lib.hid hB
  have HP := Lib.hid hP'
  have hPl := Lib.hid hP.len
  clear hW hB hP hP' g1 g2 g3 g4 g5 g6 hsz
  go_wp2_with fail
  clear g0
  go_loopw [11] (fun i wr => ∃ k : Nat, k ≤ n ∧ i = .int .i64 k ∧ (∀ j, j < k → pc p.P j ≠ code) ∧ Below W.heap.size W wr) (fun i _ => n - (intOf i).toNat)
  case atStart => exact ⟨0, Nat.zero_le _, rfl, fun j hj => absurd hj (Nat.not_lt_zero _), Below.refl _ _⟩
  case round =>
    obtain ⟨k, hk, rfl, hno, hb⟩ := hrel
    have HN := Lib.hid hno
    have HB2 := Lib.hid hb
    have HP2 := Lib.hid (HP.out.later hb)
    clear hno hb
    by_cases hkn : k < n
    · obtain ⟨b, off, rfl, hc⟩ := HP2.out.cells.resolve_left (by omega)
      obtain ⟨c0, c1⟩ := hc k hkn
      clear hc
      obtain ⟨x, hx⟩ : ∃ x, x = pc p.P k := ⟨_, rfl⟩
      have HX := Lib.hid hx
      rw [← hx] at c0
      clear hx
      by_cases he : x = code
      · subst he
        go_wp2
        go_ret2
        exact ⟨ret_ib (by
          have h := idN_some (fnd_some (k := k) (by have := hPl.out; omega) HX.out.symm HN.out)
          exact ⟨by rw [h.1], h.2.symm⟩), (HB.out.trans (HB2.out.mono HB.out.size)).trans ((below_alloc _ _).mono (Nat.le_trans HB.out.size HB2.out.size))⟩
      · have hef : (x == code) = false := by simpa using he
        go_wp2
        refine ⟨⟨k + 1, by omega, by go_num, fun j hj => ?_, HB2.out.trans ((below_alloc wr _).mono HB2.out.size)⟩, by simp [intOf]; omega⟩
        by_cases hjk : j = k
        · rw [hjk, ← HX.out]; exact he
        · exact HN.out j (by omega)
    · have hkn' : k = n := by omega
      subst hkn'
      go_wp2
      go_ret2
      exact ⟨ret_ib (by
        have h := idN_none (fnd_none (P := p.P) (c := code) (by rw [hPl.out]; exact HN.out))
        exact ⟨by rw [h.1]; rfl, h.2.symm⟩), HB.out.trans (HB2.out.mono HB.out.size)⟩
/-- The plan in its box. -/
def PlanAt (w : World) (b : Nat) (a : Option Addr) (n c : Nat) (a' : Option Addr) (n' c' : Nat) (p : Pn) : Prop := Own w b 31 (planCells a n c a' n' c' p)
theorem PlanAt.cells {w : World} {b : Nat} {a : Option Addr} {n c : Nat} {a' : Option Addr} {n' c' : Nat} {p : Pn} (h : PlanAt w b a n c a' n' c' p) :
    w.cell? ⟨b, 0, none⟩ = some (.slice a n c) ∧ w.cell? ⟨b, 1, none⟩ = some (.slice a' n' c') ∧ w.cell? ⟨b, 2, none⟩ = some (.int .i64 p.rate) ∧ w.cell? ⟨b, 3, none⟩ = some (.int .i64 p.room) ∧ w.cell? ⟨b, 4, none⟩ = some (.int .i64 p.m0) ∧ w.cell? ⟨b, 5, none⟩ = some (.int .i64 p.m1) ∧ w.cell? ⟨b, 6, none⟩ = some (.int .i64 p.m2) :=
  ⟨Own.cell h 0 (by simp [planCells]), Own.cell h 1 (by simp [planCells]), Own.cell h 2 (by simp [planCells]), Own.cell h 3 (by simp [planCells]), Own.cell h 4 (by simp [planCells]), Own.cell h 5 (by simp [planCells]), Own.cell h 6 (by simp [planCells])⟩
theorem PlanAt.later {w w' : World} {b : Nat} {a : Option Addr} {n c : Nat} {a' : Option Addr} {n' c' : Nat} {p : Pn} (h : PlanAt w b a n c a' n' c' p) (hb : Below w.heap.size w w') : PlanAt w' b a n c a' n' c' p := Own.below h hb (Own.lt h)
theorem PlanAt.new (w : World) (a : Option Addr) (n c : Nat) (a' : Option Addr) (n' c' : Nat) (p : Pn) : PlanAt (w.alloc (.cells (planCells a n c a' n' c' p).toArray 31)) w.heap.size a n c a' n' c' p := own_alloc _ _ _
/-- The closure of hasPlaces: a point is no place. -/
theorem noplace_any (p : Pn) (a : Option Addr) (n c : Nat) (a' : Option Addr) (n' c' : Nat) (b : Nat) (code : Int) (w : World) (hb : PlanAt w b a n c a' n' c' p) (hP : PRow w a n c p.P) :
    Calls Tryz.prog 109 #[.int .u16 code, .pointer (some ⟨b, 0, none⟩)] w fun e w' => e = .returned (.bool (!isB p.P code)) ∧ Below w.heap.size w w' := by
  obtain ⟨g0, g1, g2, g3, g4, g5, g6⟩ := hb.cells
  have hC := fun W (h : PRow W a n c p.P) => cindex_any p a n c a' n' c' code W h
  simp only [planV] at hC
  have HC := Lib.hid hC
  clear hC
  have HP := Lib.hid hP
  clear hP hb
  go_enter Tryz.func109, Tryz.ntmps109
  go_wp2_with fail
  with_reducible refine (HC.out _ HP.out).mono ?_
  rintro e w' ⟨rfl, hb⟩
  have HB := Lib.hid hb
  clear hb g0 g1 g2 g3 g4 g5 g6
  go_wp2
  go_ret
  exact ⟨rfl, HB.out⟩
/-- A list of points of the call's own: one that is no place is found. -/
def badI (P : List (Int × Bool)) (l : List Int) : Bool := l.any fun c => !isB P c
set_option maxHeartbeats 1000000 in
theorem find_any (p : Pn) (a : Option Addr) (n c : Nat) (a' : Option Addr) (n' c' : Nat) (b g : Nat) (l : List Int) (m : Nat) (hm : l.length = m) (hm2 : m ≤ 3) (w : World) (hb : PlanAt w b a n c a' n' c' p) (hP : PRow w a n c p.P) (hg : Own w g 53 (nums .u16 l)) :
    Calls Tryz.prog 131 #[.slice (some ⟨g, 0, none⟩) m m, .func (.func 109) #[] #[.pointer (some ⟨b, 0, none⟩)]] w fun e w' =>
      (∃ r : Int, e = .returned (.int .i64 r) ∧ (0 ≤ r ↔ badI p.P l = true)) ∧ Below w.heap.size w w' := by
  have HB := Lib.hid hb
  have HP := Lib.hid hP
  have HG := Lib.hid hg
  have HM := Lib.hid hm
  clear hb hP hg hm
  go_enter Tryz.func131, Tryz.ntmps131
  go_wp2
  go_loopg [5, 8] m (fun gg _ s8 wr => ∃ k : Nat, k ≤ m ∧ m - k ≤ gg ∧ s8 = .int .i64 k ∧ (∀ j, j < k → isB p.P (l.getD j 0) = true) ∧ Below w.heap.size w wr)
  case atStart => exact ⟨0, Nat.zero_le _, by omega, rfl, fun j hj => absurd hj (Nat.not_lt_zero _), Below.refl _ _⟩
  case round =>
    obtain ⟨k, hk, hgg, rfl, hp, hbl⟩ := hrel
    have HPk := Lib.hid hp
    have HBl := Lib.hid hbl
    clear hp hbl
    by_cases hlt : k < m
    · have hki : (k : Int) < (m : Int) := by omega
      have hcell := (HG.out.below HBl.out HG.out.lt).cell k (by rw [nums_length, HM.out]; exact hlt)
      rw [nums_getD _ _ _ (by rw [HM.out]; exact hlt)] at hcell
      have hcon := noplace_any p a n c a' n' c' b (l.getD k 0) wr (HB.out.later HBl.out) (HP.out.later HBl.out)
      obtain ⟨x, hx⟩ : ∃ x, x = l.getD k 0 := ⟨_, rfl⟩
      have HX := Lib.hid hx
      rw [← hx] at hcell hcon
      clear hx
      obtain ⟨B, hB⟩ : ∃ B, B = !isB p.P x := ⟨_, rfl⟩
      rw [← hB] at hcon
      have HBB := Lib.hid hB
      have HCo := Lib.hid hcon
      clear hcon hB
      cases B
      · go_wp2_with fail
        with_reducible refine HCo.out.mono ?_
        rintro e w' ⟨rfl, hbl2⟩
        have HB2 := Lib.hid (HBl.out.trans (hbl2.mono HBl.out.size))
        clear hbl2 hcell HCo
        go_wp2
        go_roundg (m - (k + 1))
        case measure => omega
        case rel => exact ⟨k + 1, by omega, by omega, by go_num, fun j hj => by
          by_cases e : j = k
          · rw [e, ← HX.out]; have := HBB.out; simpa using this.symm
          · exact HPk.out j (by omega), HB2.out⟩
      · go_wp2_with fail
        with_reducible refine HCo.out.mono ?_
        rintro e w' ⟨rfl, hbl2⟩
        have HB2 := Lib.hid (HBl.out.trans (hbl2.mono HBl.out.size))
        clear hbl2 hcell HCo
        go_wp2
        go_ret
        refine ⟨⟨(k : Int), rfl, ?_⟩, HB2.out⟩
        refine ⟨fun _ => ?_, fun _ => by omega⟩
        unfold badI
        rw [List.any_eq_true]
        refine ⟨x, ?_, HBB.out.symm⟩
        rw [HX.out, List.getD_eq_getElem?_getD, List.getElem?_eq_getElem (by rw [HM.out]; exact hlt), Option.getD_some]
        exact List.getElem_mem _
    · obtain rfl : k = m := by omega
      have hki : ¬ ((k : Nat) : Int) < (k : Int) := by omega
      go_wp2
      go_ret
      refine ⟨⟨-1, rfl, ⟨fun h => by omega, fun h => ?_⟩⟩, HBl.out⟩
      exfalso
      unfold badI at h
      rw [List.any_eq_true] at h
      obtain ⟨x, hx, hn⟩ := h
      obtain ⟨j, hj, rfl⟩ := List.getElem_of_mem hx
      have := HPk.out j (by rw [← HM.out]; exact hj)
      rw [List.getD_eq_getElem?_getD, List.getElem?_eq_getElem hj, Option.getD_some] at this
      rw [this] at hn; cases hn
/-- At no points. -/
theorem find_none (c : Nat) (a : Option Addr) (fv : Value) (w : World) :
    Calls Tryz.prog 131 #[.slice a 0 c, fv] w fun e w' => e = .returned (.int .i64 (-1)) ∧ w = w' := by
  go_enter Tryz.func131, Tryz.ntmps131
  go_wp2
  go_loopg [5, 8] 0 (fun _ _ s8 wr => s8 = .int .i64 0 ∧ wr = w)
  case atStart => exact ⟨rfl, rfl⟩
  case round =>
    obtain ⟨rfl, rfl⟩ := hrel
    go_wp2
    go_ret
    exact ⟨rfl, rfl⟩
theorem contains_any (p : Pn) (a : Option Addr) (n c : Nat) (a' : Option Addr) (n' c' : Nat) (b g : Nat) (l : List Int) (m : Nat) (hm : l.length = m) (hm2 : m ≤ 3) (w : World) (hb : PlanAt w b a n c a' n' c' p) (hP : PRow w a n c p.P) (hg : Own w g 53 (nums .u16 l)) :
    Calls Tryz.prog 108 #[.slice (some ⟨g, 0, none⟩) m m, .func (.func 109) #[] #[.pointer (some ⟨b, 0, none⟩)]] w fun e w' =>
      e = .returned (.bool (badI p.P l)) ∧ Below w.heap.size w w' := by
  have HC := Lib.hid (find_any p a n c a' n' c' b g l m hm hm2 w hb hP hg)
  clear hm hb hP hg
  obtain ⟨B, hB⟩ : ∃ B, B = badI p.P l := ⟨_, rfl⟩
  rw [← hB]
  have HB := Lib.hid hB
  clear hB
  go_enter Tryz.func108, Tryz.ntmps108
  go_wp2_with fail
  with_reducible refine HC.out.mono ?_
  rintro e w' ⟨⟨r, rfl, hr⟩, hbl⟩
  have HBl := Lib.hid hbl
  rw [← HB.out] at hr
  have HR := Lib.hid hr
  clear hbl hr
  by_cases h0 : 0 ≤ r
  · have HT := Lib.hid (HR.out.1 h0)
    go_wp2
    go_ret
    exact ⟨ret_bool HT.out.symm, HBl.out⟩
  · have HT := Lib.hid (show B = false by cases e : B; rfl; exact absurd (HR.out.2 e) h0)
    have h1 : r < 0 := by omega
    go_wp2
    go_ret
    exact ⟨ret_bool (by rw [HT.out]; first | exact decide_eq_true h0 | exact decide_eq_false (by omega)), HBl.out⟩
end Go.Proofs.YthlckipcgogogaaGreatDoor
/- The library's Compact, Clone and insertion sort, as this program bears them (the shelf's laying, in plain words). -/
namespace Go.Proofs.YthlckipcgogogaaGreatDoor
set_option linter.unusedVariables false
open Go.Shelf
def layCompact_ren : Go.Shelf.Ren := ⟨fun | 43 => 89 | n => n, fun | 22 => 55 | 23 => 53 | 3 => 3 | 4 => 4 | 0 => 0 | n => n, fun n => n⟩
theorem layCompact : Go.Proofs.SlLaysE.n43 Tryz.prog layCompact_ren := {
  mixed := by kernel_rfl
  f43 := ⟨Tryz.f89.name, by decide, Tryz.func89.trans (congrArg some (by kernel_rfl))⟩
  t0 := Tryz.underlying0
  a0 := Tryz.isAgg0
  z0 := Tryz.sizeOf0
  v0 := Tryz.zeroValue0
  t3 := Tryz.underlying3
  a3 := Tryz.isAgg3
  z3 := Tryz.sizeOf3
  v3 := Tryz.zeroValue3
  t4 := Tryz.underlying4
  a4 := Tryz.isAgg4
  z4 := Tryz.sizeOf4
  v4 := Tryz.zeroValue4
  t22 := Tryz.underlying55
  a22 := Tryz.isAgg55
  z22 := Tryz.sizeOf55
  v22 := Tryz.zeroValue55
  a23 := Tryz.isAgg53
  z23 := Tryz.sizeOf53 }
def layClone_ren : Go.Shelf.Ren := ⟨fun | 41 => 94 | n => n, fun | 22 => 58 | 23 => 3 | 4 => 4 | n => n, fun n => n⟩
theorem layClone : Go.Proofs.SlLaysE0.n41 Tryz.prog layClone_ren := {
  mixed := by kernel_rfl
  f41 := ⟨Tryz.f94.name, by decide, Tryz.func94.trans (congrArg some (by kernel_rfl))⟩
  t4 := Tryz.underlying4
  a4 := Tryz.isAgg4
  z4 := Tryz.sizeOf4
  v4 := Tryz.zeroValue4
  t22 := Tryz.underlying58
  a22 := Tryz.isAgg58
  z22 := Tryz.sizeOf58
  v22 := Tryz.zeroValue58 }
def layInsert_ren : Go.Shelf.Ren := ⟨fun | 20 => 134 | n => n, fun | 24 => 3 | 22 => 58 | 3 => 3 | 25 => 126 | 4 => 4 | 0 => 0 | n => n, fun n => n⟩
theorem layInsert : Go.Proofs.SlLaysF.n20 Tryz.prog layInsert_ren := {
  mixed := by kernel_rfl
  f20 := ⟨Tryz.f134.name, by decide, Tryz.func134.trans (congrArg some (by kernel_rfl))⟩
  t0 := Tryz.underlying0
  a0 := Tryz.isAgg0
  z0 := Tryz.sizeOf0
  v0 := Tryz.zeroValue0
  t3 := Tryz.underlying3
  a3 := Tryz.isAgg3
  z3 := Tryz.sizeOf3
  v3 := Tryz.zeroValue3
  t4 := Tryz.underlying4
  a4 := Tryz.isAgg4
  z4 := Tryz.sizeOf4
  v4 := Tryz.zeroValue4
  t22 := Tryz.underlying58
  a22 := Tryz.isAgg58
  z22 := Tryz.sizeOf58
  v22 := Tryz.zeroValue58
  a24 := Tryz.isAgg3
  z24 := Tryz.sizeOf3
  t25 := Tryz.underlying126
  a25 := Tryz.isAgg126
  z25 := Tryz.sizeOf126
  v25 := Tryz.zeroValue126 }
end Go.Proofs.YthlckipcgogogaaGreatDoor
/- Contracts: cmp.Compare at point codes and octets, cmp.Or of three integers, labels.Compare. -/
namespace Go.Proofs.YthlckipcgogogaaGreatDoor
set_option linter.unusedVariables false
open Go.RowKit

def cmpL (a b : Int) : Int := if a < b then -1 else if b < a then 1 else 0
theorem cmpL_cases (a b : Int) : cmpL a b = -1 ∧ a < b ∨ cmpL a b = 1 ∧ b < a ∨ cmpL a b = 0 ∧ a = b := by
  unfold cmpL; split; · omega
  split <;> omega
theorem cmp16_any (a b : Int) (w : World) :
    Calls Tryz.prog 69 #[.int .u16 a, .int .u16 b] w fun e w' => e = .returned (.int .i64 (cmpL a b)) ∧ w = w' := by
  rcases cmpL_cases a b with ⟨e, h⟩ | ⟨e, h⟩ | ⟨e, rfl⟩ <;> rw [e] <;> clear e
  · go_enter Tryz.func69, Tryz.ntmps69
    go_wp2
    go_ret
    exact ⟨rfl, rfl⟩
  · have h' : ¬ a < b := by omega
    go_enter Tryz.func69, Tryz.ntmps69
    go_wp2
    go_ret
    exact ⟨rfl, rfl⟩
  · go_enter Tryz.func69, Tryz.ntmps69
    go_wp2
    go_ret
    exact ⟨rfl, rfl⟩
theorem cmp8_any (a b : Int) (w : World) :
    Calls Tryz.prog 107 #[.int .u8 a, .int .u8 b] w fun e w' => e = .returned (.int .i64 (cmpL a b)) ∧ w = w' := by
  rcases cmpL_cases a b with ⟨e, h⟩ | ⟨e, h⟩ | ⟨e, rfl⟩ <;> rw [e] <;> clear e
  · go_enter Tryz.func107, Tryz.ntmps107
    go_wp2
    go_ret
    exact ⟨rfl, rfl⟩
  · have h' : ¬ a < b := by omega
    go_enter Tryz.func107, Tryz.ntmps107
    go_wp2
    go_ret
    exact ⟨rfl, rfl⟩
  · go_enter Tryz.func107, Tryz.ntmps107
    go_wp2
    go_ret
    exact ⟨rfl, rfl⟩
def orL (x y z : Int) : Int := if x ≠ 0 then x else if y ≠ 0 then y else z
theorem or_any (g : Nat) (x y z : Int) (w : World) (h : Own w g 3 [.int .i64 x, .int .i64 y, .int .i64 z]) :
    Calls Tryz.prog 67 #[.slice (some ⟨g, 0, none⟩) 3 3] w fun e w' => e = .returned (.int .i64 (orL x y z)) ∧ w = w' := by
  have c0 := h.cell 0 (by simp)
  have c1 := h.cell 1 (by simp)
  have c2 := h.cell 2 (by simp)
  simp at c0 c1 c2
  clear h
  go_enter Tryz.func67, Tryz.ntmps67
  go_wp2
  go_loop [8] (fun i => i = .int .i64 0 ∨ (i = .int .i64 1 ∧ x = 0) ∨ (i = .int .i64 2 ∧ x = 0 ∧ y = 0) ∨ (i = .int .i64 3 ∧ x = 0 ∧ y = 0 ∧ z = 0)) (fun i => 3 - (intOf i).toNat)
  case atStart => exact .inl rfl
  case round =>
    rcases hrel with rfl | ⟨rfl, rfl⟩ | ⟨rfl, rfl, rfl⟩ | ⟨rfl, rfl, rfl, rfl⟩
    · by_cases hx : x = 0
      · subst hx
        go_wp2
        go_round
        case rel => simp
        case measure => simp [intOf]
      · have hb : (x != 0) = true := by simpa using hx
        have HE := Lib.hid (show orL x y z = x from by simp [orL, hx])
        go_wp2
        go_ret
        exact ⟨ret_int HE.out.symm, rfl⟩
    · by_cases hx : y = 0
      · subst hx
        go_wp2
        go_round
        case rel => simp
        case measure => simp [intOf]
      · have hb : (y != 0) = true := by simpa using hx
        have HE := Lib.hid (show orL 0 y z = y from by simp [orL, hx])
        go_wp2
        go_ret
        exact ⟨ret_int HE.out.symm, rfl⟩
    · by_cases hx : z = 0
      · subst hx
        go_wp2
        go_round
        case rel => simp
        case measure => simp [intOf]
      · have hb : (z != 0) = true := by simpa using hx
        have HE := Lib.hid (show orL 0 0 z = z from by simp [orL])
        go_wp2
        go_ret
        exact ⟨ret_int HE.out.symm, rfl⟩
    · go_wp2
      go_ret
      exact ⟨rfl, rfl⟩
/-- The order of two links: A, then B, then Code. -/
def ordL (a1 a2 a3 b1 b2 b3 : Int) : Int := orL (cmpL a1 b1) (cmpL a2 b2) (cmpL a3 b3)
theorem below_two (w : World) (o o' : Obj) : Below w.heap.size w ((w.alloc o).alloc o') := (below_alloc w o).trans ((below_alloc _ o').mono (by simp))
theorem link_own {W : World} {g t : Nat} {A B C : Int} (h : Own W g t [.int .u16 A, .int .u16 B, .int .u8 C]) : W.cell? ⟨g, 0, none⟩ = some (.int .u16 A) ∧ W.cell? ⟨g, 1, none⟩ = some (.int .u16 B) ∧ W.cell? ⟨g, 2, none⟩ = some (.int .u8 C) := by
  have c0 := h.cell 0 (by simp)
  have c1 := h.cell 1 (by simp)
  have c2 := h.cell 2 (by simp)
  simp at c0 c1 c2
  exact ⟨c0, c1, c2⟩
set_option maxRecDepth 100000 in
theorem compare_any (a1 a2 a3 b1 b2 b3 : Int) (w : World) :
    Calls Tryz.prog 81 #[.agg #[.int .u16 a1, .int .u16 a2, .int .u8 a3], .agg #[.int .u16 b1, .int .u16 b2, .int .u8 b3]] w fun e w' => e = .returned (.int .i64 (ordL a1 a2 a3 b1 b2 b3)) ∧ Below w.heap.size w w' := by
  have H1 := Lib.hid (fun W => show Calls Tryz.prog 69 #[.int .u16 a1, .int .u16 b1] W fun e w' => e = .returned (.int .i64 (cmpL a1 b1)) ∧ w' = W from (cmp16_any a1 b1 W).mono fun _ _ h => ⟨h.1, h.2.symm⟩)
  have H2 := Lib.hid (fun W => show Calls Tryz.prog 69 #[.int .u16 a2, .int .u16 b2] W fun e w' => e = .returned (.int .i64 (cmpL a2 b2)) ∧ w' = W from (cmp16_any a2 b2 W).mono fun _ _ h => ⟨h.1, h.2.symm⟩)
  have H3 := Lib.hid (fun W => show Calls Tryz.prog 107 #[.int .u8 a3, .int .u8 b3] W fun e w' => e = .returned (.int .i64 (cmpL a3 b3)) ∧ w' = W from (cmp8_any a3 b3 W).mono fun _ _ h => ⟨h.1, h.2.symm⟩)
  have HO := Lib.hid (fun g W => or_any g (cmpL a1 b1) (cmpL a2 b2) (cmpL a3 b3) W)
  go_enter Tryz.func81, Tryz.ntmps81
  go_wp2_with fail
  have hb := below_two w (.cells #[.int .u16 a1, .int .u16 a2, .int .u8 a3] 74) (.cells #[.int .u16 b1, .int .u16 b2, .int .u8 b3] 74)
  obtain ⟨c0, c1, c2⟩ := link_own ((own_lit w 74 #[.int .u16 a1, .int .u16 a2, .int .u8 a3] _ rfl).below (below_alloc _ (.cells #[.int .u16 b1, .int .u16 b2, .int .u8 b3] 74)) (by simp))
  obtain ⟨d0, d1, d2⟩ := link_own (own_lit (w.alloc (.cells #[.int .u16 a1, .int .u16 a2, .int .u8 a3] 74)) 74 #[.int .u16 b1, .int .u16 b2, .int .u8 b3] _ rfl)
  rw [World.size_alloc] at d0 d1 d2
  generalize (w.alloc (.cells #[.int .u16 a1, .int .u16 a2, .int .u8 a3] 74)).alloc (.cells #[.int .u16 b1, .int .u16 b2, .int .u8 b3] 74) = W at *
  go_still_tail 15, (by kernel_rfl)
  repeat still_step
  still_call (H1.out _)
  repeat still_step
  still_call (H2.out _)
  repeat still_step
  still_call (H3.out _)
  repeat still_step
  refine wpStill_nil ?_
  change wpList _ _ _ _ _ W.drew
  go_wp2_with fail
  refine (HO.out _ _ (own_lit W.drew 3 _ _ rfl)).mono ?_
  rintro e w' ⟨rfl, rfl⟩
  have HB := Lib.hid ((hb.trans ((Below.refl W.heap.size W).drew.mono hb.size)).trans ((below_alloc W.drew (.cells #[.int .i64 (cmpL a1 b1), .int .i64 (cmpL a2 b2), .int .i64 (cmpL a3 b3)] 3)).mono hb.size))
  clear hb c0 c1 c2 d0 d1 d2
  go_wp2
  go_ret
  exact ⟨rfl, HB.out⟩
end Go.Proofs.YthlckipcgogogaaGreatDoor
