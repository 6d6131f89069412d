import Derived.Test.YthlckipcgogogaaGreatDoorPcApi
import Derived.Test.YthlckipcgogogaaGreatDoorPcCmp
import Derived.Deep.Cut
import Derived.Deep.CutBlock
/- The code's exported functions over a plan: Hold, Links, Choices. -/
namespace Go.Proofs.YthlckipcgogogaaGreatDoor
set_option linter.unusedVariables false
open Go.RowKit

def holdE (p : Pn) (h : Int) : Ending := if h = -1 then .returned (.tuple #[.int .i64 0, .int .i64 11]) else .returned (.tuple #[.int .i64 ((h + 1) * baseI p), .int .i64 0])
def HoldV (p : Pn) (u : Int) (i : Nat) (Q : List Int → List Nat → Prop) (w : World) (e : Ending) (w' : World) : Prop :=
  ∃ l o, DisOk p u l ∧ OrdOk p.P.length (wayL p.P.length l).length o ∧ Q l o ∧ e = holdE p ((putPos l o o.length).getD i 0) ∧ Below w.heap.size w w'
set_option maxRecDepth 20000 in
set_option maxHeartbeats 2000000 in
theorem hold_ok (p : Pn) (a : Option Addr) (n c : Nat) (a' : Option Addr) (n' c' : Nat) (t u : Int) (w : World) (hP : PRow w a n c p.P) (hL : LRow w a' n' c' p.L) (hE : chkPts p [t, u] = 0) (i s : Nat) (hi : fnd p.P t = some i) (hs : fnd p.P u = some s) (hv : ValidPl p) (Q : List Int → List Nat → Prop) (hst : StAll p u Q) :
    Calls Tryz.prog 28 #[planV a n c a' n' c' p, .int .u16 t, .int .u16 u] w (HoldV p u i Q w) := by
  have hN := fun (W : World) (hp : PRow W a n c p.P) (h : LRow W a' n' c' p.L) => distancesOf_any p a n c a' n' c' u s W hp h hv hs
  have hI := fun (W : World) (h : PRow W a n c p.P) => cindex_any p a n c a' n' c' t W h
  have hBs := fun (W : World) (hp : PRow W a n c p.P) (h : LRow W a' n' c' p.L) => baseOf_any p a n c a' n' c' W hp h hv
  have hbr := baseI_range hv
  have h0 := hv.n0
  have h64 := hv.np
  have hin : i < p.P.length := (fnd_some_iff.1 hi).1
  have HIs := Lib.hid (idN_some hi)
  have HIn : Inhabited (Fin p.P.length) := ⟨⟨0, h0⟩⟩
  have HSt := Lib.hid (fun (l : List Int) (g : Nat) (h : DisOk p u l) => hst l g h)
  clear hst
  have HH := Lib.hid (fun (l : List Int) (g : Nat) (W : World) (hok : DisOk p u l) (ho : Own W g 3 (nums .i64 l)) => heightsOf_gen p.P.length l g (Q l) W h64 h0 hok.len hok.small (way_some hok hs) ho (HSt.out l g hok))
  obtain ⟨W, hW⟩ : ∃ W, W = w.alloc (.cells (planCells a n c a' n' c' p).toArray 31) := ⟨_, rfl⟩
  have hB : Below w.heap.size w W := by rw [hW]; exact below_alloc _ _
  have hA : PlanAt W w.heap.size a n c a' n' c' p := by rw [hW]; exact PlanAt.new _ _ _ _ _ _ _ _
  have hlt : w.heap.size < W.heap.size := hA.lt
  have hB1 : Below w.heap.size w (W.alloc (.cells #[.int .u16 t, .int .u16 u] 53)) := hB.trans ((below_alloc W _).mono hB.size)
  have hsz : W.heap.size = w.heap.size + 1 := by rw [hW]; simp
  have ho := own_alloc W (nums .u16 [t, u]) 53
  rw [hsz] at ho
  have hC := cchk_any p a n c a' n' c' (w.heap.size + 1) [t, u] 2 rfl (by decide) (W.alloc (.cells #[.int .u16 t, .int .u16 u] 53)) (hP.later hB1) (hL.later hB1) ho
  clear ho hsz
  rw [hE] at hC
  unfold planV at *
  have HC := Lib.hid hC
  have HB1 := Lib.hid hB1
  have HA := Lib.hid hA
  obtain ⟨g0, g1, g2, g3, g4, g5, g6⟩ := hA.cells
  clear hC hB hA hB1
  go_enter Tryz.func28, Tryz.ntmps28
  go_wp2_with fail
  show Calls _ _ _ ((w.alloc (.cells (planCells a n c a' n' c' p).toArray 31)).alloc _) _
  rw [← hW]
  clear hW
  with_reducible refine HC.out.mono ?_
  rintro e w1 ⟨rfl, hb⟩
  have HB2 := Lib.hid (HB1.out.trans (hb.mono HB1.out.size))
  clear g0 g1 g2 g3 g4 g5 g6
  obtain ⟨g0, g1, g2, g3, g4, g5, g6⟩ := (HA.out.later (by exact (below_alloc W _).trans (hb.mono (below_alloc W _).size))).cells
  have HA2 := Lib.hid (HA.out.later (by exact (below_alloc W _).trans (hb.mono (below_alloc W _).size)))
  clear hb HC
  have hI1 := hI w1 (hP.later HB2.out)
  rw [HIs.out.1, HIs.out.2] at hI1
  have HI1 := Lib.hid hI1
  clear hI1 hI
  go_wp2_with fail
  with_reducible refine HI1.out.mono ?_
  rintro e w2 ⟨rfl, hb⟩
  have HB3 := Lib.hid (HB2.out.trans (hb.mono HB2.out.size))
  clear g0 g1 g2 g3 g4 g5 g6
  obtain ⟨g0, g1, g2, g3, g4, g5, g6⟩ := (HA2.out.later hb).cells
  have HA3 := Lib.hid (HA2.out.later hb)
  have HN := Lib.hid (hN w2 (hP.later HB3.out) (hL.later HB3.out))
  clear hb HI1 hN
  go_wp2_with fail
  with_reducible refine HN.out.mono ?_
  rintro e w3 ⟨g, l, n9, hn9, hok, rfl, ho, hg, hb⟩
  have hcon := HH.out l g w3 hok ho
  rw [hn9] at hcon
  have HCon := Lib.hid hcon
  have HR := Lib.hid (And.intro hn9 hok)
  have HB4 := Lib.hid (HB3.out.trans (hb.mono HB3.out.size))
  have HA4 := Lib.hid (HA3.out.later hb)
  have hnn : n9 = n := by have := hP.len; omega
  have hin9 : i < n9 := by omega
  subst hnn
  clear hb HN hn9 hok ho hg hcon HH HSt g0 g1 g2 g3 g4 g5 g6 h0 h64
  go_wp2_with fail
  with_reducible refine HCon.out.mono ?_
  rintro e w4 ⟨gh, o, hord, hq, rfl, hr, _, hb⟩
  obtain ⟨b, off, hae, hcell⟩ := hr.cells.resolve_left (by omega)
  cases hae
  have hc := hcell i hin9
  rw [Nat.zero_add] at hc
  obtain ⟨H, hH⟩ : ∃ H, H = (putPos l o o.length).getD i 0 := ⟨_, rfl⟩
  rw [← hH] at hc
  have hrg : -1 ≤ H ∧ H ≤ 1000 := by
    have hl9 := HR.out.2.len
    have h9 := HR.out.2.small
    have hol : o.length ≤ 1000 := by have := hord.len; have := wayL_le n9 l; have := hP.len; have := hv.np; omega
    have hpr := putPos_range (l := l) (o := o) (fun x hx => by
      obtain ⟨j, hj, rfl⟩ := List.getElem_of_mem hx
      have := h9 j (by rw [← hl9]; exact hj)
      simp only [List.getD_eq_getElem?_getD, List.getElem?_eq_getElem hj, Option.getD_some] at this
      omega) o.length hol
    have hlen : i < (putPos l o o.length).length := by rw [putPos_length, hl9]; exact hin
    refine hpr H ?_
    rw [hH, List.getD_eq_getElem?_getD, List.getElem?_eq_getElem hlen, Option.getD_some]
    exact List.getElem_mem _
  have HR2 := Lib.hid (And.intro hord (And.intro hq hH))
  have HB5 := Lib.hid (HB4.out.trans (hb.mono HB4.out.size))
  obtain ⟨g0, g1, g2, g3, g4, g5, g6⟩ := (HA4.out.later hb).cells
  clear hb hord hq hr HCon hcell hH
  have i1 : (i : Int) < (n9 : Int) := by omega
  have i2 : (0 : Int) ≤ (i : Int) := by omega
  have fin : ∀ e w', e = holdE p H → Below w.heap.size w w' → HoldV p u i Q w e w' := fun e w' he hb' => by
    have hn9 := HR.out.1
    refine ⟨l, o, HR.out.2, by rw [hn9]; exact HR2.out.1, HR2.out.2.1, by rw [he, HR2.out.2.2], hb'⟩
  have HFin := Lib.hid fin
  clear fin
  by_cases hm1 : H = -1
  · subst hm1
    have HE := Lib.hid (show holdE p (-1) = .returned (.tuple #[.int .i64 0, .int .i64 11]) from if_pos rfl)
    clear g0 g1 g2 g3 g4 g5 g6
    go_wp2
    go_ret2
    exact HFin.out _ _ HE.out.symm HB5.out
  · have hme : (H == -1) = false := by simpa using hm1
    have HE := Lib.hid (show holdE p H = .returned (.tuple #[.int .i64 ((H + 1) * baseI p), .int .i64 0]) from if_neg hm1)
    have HBs := Lib.hid (hBs w4 (hP.later HB5.out) (hL.later HB5.out))
    obtain ⟨R, hR⟩ : ∃ R, R = baseI p := ⟨_, rfl⟩
    rw [← hR] at HBs HE hbr
    clear hR hBs
    have q0 : 0 ≤ (H + 1) * R := Int.mul_nonneg (by omega) hbr.1
    have q1 : (H + 1) * R ≤ 1001 * 33024 := Int.mul_le_mul (by omega) hbr.2 hbr.1 (by omega)
    have v1 : IntKind.i64.wrap ((H + 1) * R) = (H + 1) * R := IntWalk.i64_in _ (by omega)
    have v2 : IntKind.i64.wrap (H + 1) = H + 1 := IntWalk.i64_in _ (by omega)
    go_wp2_with fail
    with_reducible refine HBs.out.mono ?_
    rintro e w5 ⟨rfl, hb⟩
    have HB6 := Lib.hid (HB5.out.trans (hb.mono HB5.out.size))
    clear hb HBs g0 g1 g2 g3 g4 g5 g6
    go_wp2
    go_ret2
    exact HFin.out _ _ HE.out.symm HB6.out
/-- The links between two places, in order. -/
def linksL (p : Pn) (x y : Int) : List (Int × Int × Int) := (p.L.filter (pairB x y)).map fun l => (l.A, l.B, l.C)
def encK (x : Int × Int × Int) : List Value := [.int .u16 x.1, .int .u16 x.2.1, .int .u8 x.2.2]
def cellsK (X : List (Int × Int × Int)) : List Value := X.flatMap encK
theorem cellsK_getD (X : List (Int × Int × Int)) {i : Nat} (hi : i < X.length) : (cellsK X).getD (i * 3) undef = .int .u16 (X.getD i (0, 0, 0)).1 ∧ (cellsK X).getD (i * 3 + 1) undef = .int .u16 (X.getD i (0, 0, 0)).2.1 ∧ (cellsK X).getD (i * 3 + 2) undef = .int .u8 (X.getD i (0, 0, 0)).2.2 := by
  induction X generalizing i with
  | nil => cases hi
  | cons x X ih =>
    cases i with
    | zero => simp [cellsK, encK]
    | succ i =>
      have h := ih (i := i) (by simpa using hi)
      have e : cellsK (x :: X) = .int .u16 x.1 :: .int .u16 x.2.1 :: .int .u8 x.2.2 :: cellsK X := rfl
      rw [e, show (i + 1) * 3 = i * 3 + 1 + 1 + 1 by omega]
      simp only [List.getD_cons_succ]
      exact h
/-- A slice value reads in w as the links X. -/
structure KRow (w : World) (a : Option Addr) (n c : Nat) (X : List (Int × Int × Int)) : Prop where
  len : X.length = n
  le : n ≤ c
  max : c ≤ maxLen
  cells : n = 0 ∨ ∃ b off, a = some ⟨b, off, none⟩ ∧ ∀ i, i < n → w.cell? ⟨b, off + i * 3, none⟩ = some (.int .u16 (X.getD i (0, 0, 0)).1) ∧ w.cell? ⟨b, off + i * 3 + 1, none⟩ = some (.int .u16 (X.getD i (0, 0, 0)).2.1) ∧ w.cell? ⟨b, off + i * 3 + 2, none⟩ = some (.int .u8 (X.getD i (0, 0, 0)).2.2)
theorem KRow.later {w w' : World} {a : Option Addr} {n c : Nat} {X : List (Int × Int × Int)} (h : KRow w a n c X) (hb : Below w.heap.size w w') : KRow w' a n c X := by
  refine ⟨h.len, h.le, h.max, ?_⟩
  rcases h.cells with h0 | ⟨b, off, ha, hc⟩
  · exact .inl h0
  · refine .inr ⟨b, off, ha, fun i hi => ?_⟩
    obtain ⟨c0, c1, c2⟩ := hc i hi
    exact ⟨(hb.cell (World.block_lt_of_cell? _ _ c0)).trans c0, (hb.cell (World.block_lt_of_cell? _ _ c1)).trans c1, (hb.cell (World.block_lt_of_cell? _ _ c2)).trans c2⟩
theorem krow_of_owns {w : World} {B e n : Nat} {v : Value} {X : List (Int × Int × Int)} (h : w.ownsRow B e 3 v n (cellsK X)) (hn : X.length = n) : ∃ a c, v = .slice a n c ∧ KRow w a n c X := by
  by_cases h0 : 0 < n
  · obtain ⟨b, c, rfl, h1, h2, _, _, hc⟩ := ownsK_cells h h0
    refine ⟨_, c, rfl, hn, h1, h2, .inr ⟨b, 0, rfl, fun i hi => ?_⟩⟩
    obtain ⟨q0, q1, q2⟩ := cellsK_getD X (i := i) (by omega)
    simp only [Nat.zero_add]
    exact ⟨by rw [(hc _ (by omega)).1, q0], by rw [(hc _ (by omega)).1, q1], by rw [(hc _ (by omega)).1, q2]⟩
  · obtain ⟨a, c, rfl, h1, h2⟩ := ownsK_len h
    exact ⟨a, c, rfl, hn, h1, h2, .inl (by omega)⟩
theorem infoK : (Tryz.prog.info? 74).map (fun i => (i.zero, i.size, i.bytes)) = some (some (.agg #[.int .u16 0, .int .u16 0, .int .u8 0]), 3, 6) := by kernel_rfl
theorem linksL_take (L : List Ln) (x y : Int) (k : Nat) (hk : k < L.length) : ((L.take (k + 1)).filter (pairB x y)).map (fun l => (l.A, l.B, l.C)) = ((L.take k).filter (pairB x y)).map (fun l => (l.A, l.B, l.C)) ++ (if pairB x y (lnAt L k) then [((lnAt L k).A, (lnAt L k).B, (lnAt L k).C)] else []) := by
  unfold lnAt
  rw [List.take_succ_eq_append_getElem hk, List.filter_append, List.map_append]
  simp only [List.getD_eq_getElem?_getD, List.getElem?_eq_getElem hk, Option.getD_some]
  congr 1
  by_cases h : pairB x y L[k] = true <;> simp [h]
def LkV (p : Pn) (x y : Int) (w : World) (e : Ending) (w' : World) : Prop := ∃ a, e = .returned (.tuple #[.slice a (linksL p x y).length (linksL p x y).length, .int .i64 0]) ∧ KRow w' a (linksL p x y).length (linksL p x y).length (linksL p x y) ∧ Below w.heap.size w w'
set_option maxRecDepth 20000 in
set_option maxHeartbeats 4000000 in
theorem links_lt (p : Pn) (a : Option Addr) (n c : Nat) (a' : Option Addr) (n' c' : Nat) (t u : Int) (w : World) (hP : PRow w a n c p.P) (hL : LRow w a' n' c' p.L) (hE : chkPts p [t, u] = 0) (hn1 : n' ≤ 1024) (hxy : t < u) :
    Calls Tryz.prog 26 #[planV a n c a' n' c' p, .int .u16 t, .int .u16 u] w (LkV p t u w) := by
  have hne : (t == u) = false := by simp; omega
  have e1 : min t u = t := by omega
  have e2 : max t u = u := by omega
  obtain ⟨W, hW⟩ : ∃ W, W = w.alloc (.cells (planCells a n c a' n' c' p).toArray 31) := ⟨_, rfl⟩
  have hB : Below w.heap.size w W := by rw [hW]; exact below_alloc _ _
  have hA : PlanAt W w.heap.size a n c a' n' c' p := by rw [hW]; exact PlanAt.new _ _ _ _ _ _ _ _
  have hlt : w.heap.size < W.heap.size := hA.lt
  have hB1 : Below w.heap.size w (W.alloc (.cells #[.int .u16 t, .int .u16 u] 53)) := hB.trans ((below_alloc W _).mono hB.size)
  have hsz : W.heap.size = w.heap.size + 1 := by rw [hW]; simp
  have ho := own_alloc W (nums .u16 [t, u]) 53
  rw [hsz] at ho
  have hC := cchk_any p a n c a' n' c' (w.heap.size + 1) [t, u] 2 rfl (by decide) (W.alloc (.cells #[.int .u16 t, .int .u16 u] 53)) (hP.later hB1) (hL.later hB1) ho
  clear ho hsz
  rw [hE] at hC
  unfold planV at *
  have HC := Lib.hid hC
  have HB1 := Lib.hid hB1
  have HA := Lib.hid hA
  obtain ⟨g0, g1, g2, g3, g4, g5, g6⟩ := hA.cells
  clear hC hB hA hB1
  go_enter Tryz.func26, Tryz.ntmps26
  go_wp2_with fail
  show Calls _ _ _ ((w.alloc (.cells (planCells a n c a' n' c' p).toArray 31)).alloc _) _
  rw [← hW]
  clear hW
  with_reducible refine HC.out.mono ?_
  rintro e w1 ⟨rfl, hb⟩
  have HB2 := Lib.hid (HB1.out.trans (hb.mono HB1.out.size))
  clear g0 g1 g2 g3 g4 g5 g6
  obtain ⟨g0, g1, g2, g3, g4, g5, g6⟩ := (HA.out.later (by exact (below_alloc W _).trans (hb.mono (below_alloc W _).size))).cells
  have HA2 := Lib.hid (HA.out.later (by exact (below_alloc W _).trans (hb.mono (below_alloc W _).size)))
  clear hb HC
  have HLl := Lib.hid hL.len
  have hmax := hL.max
  have hle := hL.le
  unfold maxLen at hmax
  have HL := Lib.hid (hL.later HB2.out)
  clear hP hL
  go_wp2_with fail
  clear g0 g1 g2 g3 g4 g5 g6
  have HXY := Lib.hid hxy
  clear hxy
  go_loopw [9, 26] (fun v iv wr => ∃ k : Nat, k ≤ n' ∧ iv = .int .i64 k ∧ Below w1.heap.size w1 wr ∧ wr.ownsRow w1.heap.size 74 3 v (((p.L.take k).filter (pairB t u)).map (fun l => (l.A, l.B, l.C))).length (cellsK (((p.L.take k).filter (pairB t u)).map (fun l => (l.A, l.B, l.C))))) (fun _ iv _ => n' - (intOf iv).toNat)
  case atStart => exact ⟨0, Nat.zero_le _, rfl, Below.refl _ _, by simpa [cellsK] using World.ownsRow_nil w1 w1.heap.size 74 3⟩
  case round =>
    obtain ⟨k, hk, rfl, hb, hown⟩ := hrel
    have hsz : w1.heap.size ≤ wr.heap.size := hb.size
    have HL2 := Lib.hid (HL.out.later hb)
    obtain ⟨Z, hZ⟩ : ∃ Z, Z = ((p.L.take k).filter (pairB t u)).map (fun l => (l.A, l.B, l.C)) := ⟨_, rfl⟩
    have hZl : Z.length ≤ 1024 := by
      rw [hZ, List.length_map]
      have h1 := List.length_filter_le (pairB t u) (p.L.take k)
      rw [List.length_take] at h1
      omega
    rw [← hZ] at hown
    have HZ := Lib.hid hZ
    have HW := Lib.hid hown
    have HBr := Lib.hid hb
    clear hb hown hZ
    by_cases hkn : k < n'
    · obtain ⟨b, off, rfl, hc⟩ := HL2.out.cells.resolve_left (by omega)
      obtain ⟨c0, c1, c2, c3⟩ := hc k hkn
      clear hc
      have hbl : b < wr.heap.size := World.block_lt_of_cell? _ _ c0
      have HT := Lib.hid (linksL_take p.L t u k (by have := HLl.out; omega))
      obtain ⟨l, hl⟩ : ∃ l, l = lnAt p.L k := ⟨_, rfl⟩
      rw [← hl] at c0 c1 c2 c3 HT
      rw [← HZ.out] at HT
      clear hl
      obtain ⟨A, B, C, D⟩ := l
      simp only at c0 c1 c2 c3
      have HBa := Lib.hid (below_alloc wr (.cells #[.int .u16 A, .int .u16 B, .int .u8 C, .int .i64 D] 76))
      have HBW := Lib.hid (HBr.out.trans (HBa.out.mono HBr.out.size))
      have HW2 := Lib.hid (ownsK_below HW.out HBa.out)
      have hsz2 : w1.heap.size ≤ (wr.alloc (.cells #[.int .u16 A, .int .u16 B, .int .u8 C, .int .i64 D] 76)).heap.size := HBW.out.size
      by_cases hp : A = t ∧ B = u
      · have HT2 := Lib.hid (show ((p.L.take (k + 1)).filter (pairB t u)).map (fun l => (l.A, l.B, l.C)) = Z ++ [(A, B, C)] by
          rw [HT.out, if_pos (by simp [pairB, hp.1, hp.2])])
        obtain ⟨hp1, hp2⟩ := hp
        have f1 : (A == t) = true := by simp [hp1]
        have f2 : (B == u) = true := by simp [hp2]
        have HP1 := Lib.hid hp1
        have HP2 := Lib.hid hp2
        clear hp1 hp2 HT
        go_upto_region 11 with (fail)
        have hq0 := (own_alloc wr [.int .u16 A, .int .u16 B, .int .u8 C, .int .i64 D] 76).cell 0 (by simp)
        have hq1 := (own_alloc wr [.int .u16 A, .int .u16 B, .int .u8 C, .int .i64 D] 76).cell 1 (by simp)
        have hq2 := (own_alloc wr [.int .u16 A, .int .u16 B, .int .u8 C, .int .i64 D] 76).cell 2 (by simp)
        obtain ⟨wl, hwl⟩ : ∃ wl, wl = wr.alloc (.cells #[.int .u16 A, .int .u16 B, .int .u8 C, .int .i64 D] 76) := ⟨_, rfl⟩
        have r0 : wl.cell? ⟨wr.heap.size, 0, none⟩ = some (.int .u16 A) := by rw [hwl]; exact hq0
        have r1 : wl.cell? ⟨wr.heap.size, 1, none⟩ = some (.int .u16 B) := by rw [hwl]; exact hq1
        have r2 : wl.cell? ⟨wr.heap.size, 2, none⟩ = some (.int .u8 C) := by rw [hwl]; exact hq2
        rw [← hwl] at HW2 HBW hsz2 ⊢
        clear hwl hq0 hq1 hq2 c0 c1 c2 c3
        go_wp2_with (at_builtin; refine wpList_append_agg Tryz.underlying63 infoK rfl (by decide) (by decide) rfl _ _ rfl w1.heap.size _ _ _ [.int .u16 A, .int .u16 B, .int .u8 C] rfl (fun u hu => by simp at hu; rcases hu with rfl | rfl | rfl <;> rfl) rfl (by exact HW2.out) rfl (by omega) hsz2 ?_)
        intro v1 w2 h1 h2 gx cx hv1
        clear hv1
        have H1 := Lib.hid h1
        have H2 := Lib.hid h2
        clear h1 h2 r0 r1 r2
        go_wp2
        refine ⟨⟨k + 1, by omega, by go_num, HBW.out.trans (H2.out.below hsz2 (fun j hj => (ownsK_lt HW2.out hj).1)), ?_⟩, by simp [intOf]; omega⟩
        rw [HT2.out, List.length_append]
        have := H1.out
        rwa [show cellsK (Z ++ [(A, B, C)]) = cellsK Z ++ [.int .u16 A, .int .u16 B, .int .u8 C] by simp [cellsK, encK]]
      · have HT2 := Lib.hid (show ((p.L.take (k + 1)).filter (pairB t u)).map (fun l => (l.A, l.B, l.C)) = Z by
          rw [HT.out, if_neg (by simp only [pairB, Bool.and_eq_true, decide_eq_true_eq]; exact hp), List.append_nil])
        by_cases hp1 : A = t
        · have f1 : (A == t) = true := by simp [hp1]
          have f2 : (B == u) = false := by simp; omega
          have HP1 := Lib.hid hp1
          clear hp1 hp HT
          go_wp2
          refine ⟨⟨k + 1, by omega, by go_num, HBW.out, ?_⟩, by simp [intOf]; omega⟩
          rw [HT2.out]
          exact HW2.out
        · have f1 : (A == t) = false := by simpa using hp1
          clear hp1 hp HT
          go_wp2
          refine ⟨⟨k + 1, by omega, by go_num, HBW.out, ?_⟩, by simp [intOf]; omega⟩
          rw [HT2.out]
          exact HW2.out
    · obtain rfl : k = n' := by omega
      have hTk : p.L.take k = p.L := List.take_of_length_le (by rw [HLl.out]; exact Nat.le_refl _)
      have hZe := HZ.out
      rw [hTk] at hZe
      have HZe := Lib.hid (show Z = linksL p t u from hZe)
      obtain ⟨s, cs, rfl, hrow⟩ := krow_of_owns HW.out rfl
      have HClip := Lib.hid (clipL_any s Z.length cs wr hrow.le hrow.max)
      have HRow := Lib.hid hrow
      have HBF := Lib.hid (HB2.out.trans (HBr.out.mono HB2.out.size))
      clear hTk hZe hrow
      go_wp2_with fail
      with_reducible refine HClip.out.mono ?_
      rintro e w9 ⟨rfl, rfl⟩
      go_wp2
      go_ret2
      refine ⟨s, by rw [← HZe.out]; rfl, ?_, HBF.out⟩
      rw [← HZe.out]
      exact ⟨rfl, Nat.le_refl _, by unfold maxLen; omega, HRow.out.cells⟩
set_option maxRecDepth 20000 in
set_option maxHeartbeats 4000000 in
theorem links_gt (p : Pn) (a : Option Addr) (n c : Nat) (a' : Option Addr) (n' c' : Nat) (t u : Int) (w : World) (hP : PRow w a n c p.P) (hL : LRow w a' n' c' p.L) (hE : chkPts p [t, u] = 0) (hn1 : n' ≤ 1024) (hxy : u < t) :
    Calls Tryz.prog 26 #[planV a n c a' n' c' p, .int .u16 t, .int .u16 u] w (LkV p u t w) := by
  have hne : (t == u) = false := by simp; omega
  have e1 : min t u = u := by omega
  have e2 : max t u = t := by omega
  obtain ⟨W, hW⟩ : ∃ W, W = w.alloc (.cells (planCells a n c a' n' c' p).toArray 31) := ⟨_, rfl⟩
  have hB : Below w.heap.size w W := by rw [hW]; exact below_alloc _ _
  have hA : PlanAt W w.heap.size a n c a' n' c' p := by rw [hW]; exact PlanAt.new _ _ _ _ _ _ _ _
  have hlt : w.heap.size < W.heap.size := hA.lt
  have hB1 : Below w.heap.size w (W.alloc (.cells #[.int .u16 t, .int .u16 u] 53)) := hB.trans ((below_alloc W _).mono hB.size)
  have hsz : W.heap.size = w.heap.size + 1 := by rw [hW]; simp
  have ho := own_alloc W (nums .u16 [t, u]) 53
  rw [hsz] at ho
  have hC := cchk_any p a n c a' n' c' (w.heap.size + 1) [t, u] 2 rfl (by decide) (W.alloc (.cells #[.int .u16 t, .int .u16 u] 53)) (hP.later hB1) (hL.later hB1) ho
  clear ho hsz
  rw [hE] at hC
  unfold planV at *
  have HC := Lib.hid hC
  have HB1 := Lib.hid hB1
  have HA := Lib.hid hA
  obtain ⟨g0, g1, g2, g3, g4, g5, g6⟩ := hA.cells
  clear hC hB hA hB1
  go_enter Tryz.func26, Tryz.ntmps26
  go_wp2_with fail
  show Calls _ _ _ ((w.alloc (.cells (planCells a n c a' n' c' p).toArray 31)).alloc _) _
  rw [← hW]
  clear hW
  with_reducible refine HC.out.mono ?_
  rintro e w1 ⟨rfl, hb⟩
  have HB2 := Lib.hid (HB1.out.trans (hb.mono HB1.out.size))
  clear g0 g1 g2 g3 g4 g5 g6
  obtain ⟨g0, g1, g2, g3, g4, g5, g6⟩ := (HA.out.later (by exact (below_alloc W _).trans (hb.mono (below_alloc W _).size))).cells
  have HA2 := Lib.hid (HA.out.later (by exact (below_alloc W _).trans (hb.mono (below_alloc W _).size)))
  clear hb HC
  have HLl := Lib.hid hL.len
  have hmax := hL.max
  have hle := hL.le
  unfold maxLen at hmax
  have HL := Lib.hid (hL.later HB2.out)
  clear hP hL
  go_wp2_with fail
  clear g0 g1 g2 g3 g4 g5 g6
  have HXY := Lib.hid hxy
  clear hxy
  go_loopw [9, 26] (fun v iv wr => ∃ k : Nat, k ≤ n' ∧ iv = .int .i64 k ∧ Below w1.heap.size w1 wr ∧ wr.ownsRow w1.heap.size 74 3 v (((p.L.take k).filter (pairB u t)).map (fun l => (l.A, l.B, l.C))).length (cellsK (((p.L.take k).filter (pairB u t)).map (fun l => (l.A, l.B, l.C))))) (fun _ iv _ => n' - (intOf iv).toNat)
  case atStart => exact ⟨0, Nat.zero_le _, rfl, Below.refl _ _, by simpa [cellsK] using World.ownsRow_nil w1 w1.heap.size 74 3⟩
  case round =>
    obtain ⟨k, hk, rfl, hb, hown⟩ := hrel
    have hsz : w1.heap.size ≤ wr.heap.size := hb.size
    have HL2 := Lib.hid (HL.out.later hb)
    obtain ⟨Z, hZ⟩ : ∃ Z, Z = ((p.L.take k).filter (pairB u t)).map (fun l => (l.A, l.B, l.C)) := ⟨_, rfl⟩
    have hZl : Z.length ≤ 1024 := by
      rw [hZ, List.length_map]
      have h1 := List.length_filter_le (pairB u t) (p.L.take k)
      rw [List.length_take] at h1
      omega
    rw [← hZ] at hown
    have HZ := Lib.hid hZ
    have HW := Lib.hid hown
    have HBr := Lib.hid hb
    clear hb hown hZ
    by_cases hkn : k < n'
    · obtain ⟨b, off, rfl, hc⟩ := HL2.out.cells.resolve_left (by omega)
      obtain ⟨c0, c1, c2, c3⟩ := hc k hkn
      clear hc
      have hbl : b < wr.heap.size := World.block_lt_of_cell? _ _ c0
      have HT := Lib.hid (linksL_take p.L u t k (by have := HLl.out; omega))
      obtain ⟨l, hl⟩ : ∃ l, l = lnAt p.L k := ⟨_, rfl⟩
      rw [← hl] at c0 c1 c2 c3 HT
      rw [← HZ.out] at HT
      clear hl
      obtain ⟨A, B, C, D⟩ := l
      simp only at c0 c1 c2 c3
      have HBa := Lib.hid (below_alloc wr (.cells #[.int .u16 A, .int .u16 B, .int .u8 C, .int .i64 D] 76))
      have HBW := Lib.hid (HBr.out.trans (HBa.out.mono HBr.out.size))
      have HW2 := Lib.hid (ownsK_below HW.out HBa.out)
      have hsz2 : w1.heap.size ≤ (wr.alloc (.cells #[.int .u16 A, .int .u16 B, .int .u8 C, .int .i64 D] 76)).heap.size := HBW.out.size
      by_cases hp : A = u ∧ B = t
      · have HT2 := Lib.hid (show ((p.L.take (k + 1)).filter (pairB u t)).map (fun l => (l.A, l.B, l.C)) = Z ++ [(A, B, C)] by
          rw [HT.out, if_pos (by simp [pairB, hp.1, hp.2])])
        obtain ⟨hp1, hp2⟩ := hp
        have f1 : (A == u) = true := by simp [hp1]
        have f2 : (B == t) = true := by simp [hp2]
        have HP1 := Lib.hid hp1
        have HP2 := Lib.hid hp2
        clear hp1 hp2 HT
        go_upto_region 11 with (fail)
        have hq0 := (own_alloc wr [.int .u16 A, .int .u16 B, .int .u8 C, .int .i64 D] 76).cell 0 (by simp)
        have hq1 := (own_alloc wr [.int .u16 A, .int .u16 B, .int .u8 C, .int .i64 D] 76).cell 1 (by simp)
        have hq2 := (own_alloc wr [.int .u16 A, .int .u16 B, .int .u8 C, .int .i64 D] 76).cell 2 (by simp)
        obtain ⟨wl, hwl⟩ : ∃ wl, wl = wr.alloc (.cells #[.int .u16 A, .int .u16 B, .int .u8 C, .int .i64 D] 76) := ⟨_, rfl⟩
        have r0 : wl.cell? ⟨wr.heap.size, 0, none⟩ = some (.int .u16 A) := by rw [hwl]; exact hq0
        have r1 : wl.cell? ⟨wr.heap.size, 1, none⟩ = some (.int .u16 B) := by rw [hwl]; exact hq1
        have r2 : wl.cell? ⟨wr.heap.size, 2, none⟩ = some (.int .u8 C) := by rw [hwl]; exact hq2
        rw [← hwl] at HW2 HBW hsz2 ⊢
        clear hwl hq0 hq1 hq2 c0 c1 c2 c3
        go_wp2_with (at_builtin; refine wpList_append_agg Tryz.underlying63 infoK rfl (by decide) (by decide) rfl _ _ rfl w1.heap.size _ _ _ [.int .u16 A, .int .u16 B, .int .u8 C] rfl (fun u hu => by simp at hu; rcases hu with rfl | rfl | rfl <;> rfl) rfl (by exact HW2.out) rfl (by omega) hsz2 ?_)
        intro v1 w2 h1 h2 gx cx hv1
        clear hv1
        have H1 := Lib.hid h1
        have H2 := Lib.hid h2
        clear h1 h2 r0 r1 r2
        go_wp2
        refine ⟨⟨k + 1, by omega, by go_num, HBW.out.trans (H2.out.below hsz2 (fun j hj => (ownsK_lt HW2.out hj).1)), ?_⟩, by simp [intOf]; omega⟩
        rw [HT2.out, List.length_append]
        have := H1.out
        rwa [show cellsK (Z ++ [(A, B, C)]) = cellsK Z ++ [.int .u16 A, .int .u16 B, .int .u8 C] by simp [cellsK, encK]]
      · have HT2 := Lib.hid (show ((p.L.take (k + 1)).filter (pairB u t)).map (fun l => (l.A, l.B, l.C)) = Z by
          rw [HT.out, if_neg (by simp only [pairB, Bool.and_eq_true, decide_eq_true_eq]; exact hp), List.append_nil])
        by_cases hp1 : A = u
        · have f1 : (A == u) = true := by simp [hp1]
          have f2 : (B == t) = false := by simp; omega
          have HP1 := Lib.hid hp1
          clear hp1 hp HT
          go_wp2
          refine ⟨⟨k + 1, by omega, by go_num, HBW.out, ?_⟩, by simp [intOf]; omega⟩
          rw [HT2.out]
          exact HW2.out
        · have f1 : (A == u) = false := by simpa using hp1
          clear hp1 hp HT
          go_wp2
          refine ⟨⟨k + 1, by omega, by go_num, HBW.out, ?_⟩, by simp [intOf]; omega⟩
          rw [HT2.out]
          exact HW2.out
    · obtain rfl : k = n' := by omega
      have hTk : p.L.take k = p.L := List.take_of_length_le (by rw [HLl.out]; exact Nat.le_refl _)
      have hZe := HZ.out
      rw [hTk] at hZe
      have HZe := Lib.hid (show Z = linksL p u t from hZe)
      obtain ⟨s, cs, rfl, hrow⟩ := krow_of_owns HW.out rfl
      have HClip := Lib.hid (clipL_any s Z.length cs wr hrow.le hrow.max)
      have HRow := Lib.hid hrow
      have HBF := Lib.hid (HB2.out.trans (HBr.out.mono HB2.out.size))
      clear hTk hZe hrow
      go_wp2_with fail
      with_reducible refine HClip.out.mono ?_
      rintro e w9 ⟨rfl, rfl⟩
      go_wp2
      go_ret2
      refine ⟨s, by rw [← HZe.out]; rfl, ?_, HBF.out⟩
      rw [← HZe.out]
      exact ⟨rfl, Nat.le_refl _, by unfold maxLen; omega, HRow.out.cells⟩
end Go.Proofs.YthlckipcgogogaaGreatDoor
