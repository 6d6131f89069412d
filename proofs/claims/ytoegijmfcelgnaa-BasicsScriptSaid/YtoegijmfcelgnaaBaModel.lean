/- Contracts: the statements' model of an end: fresh, next, hear. -/
import Derived.Test.YtoegijmfcelgnaaBaMsg
import Derived.Test.YtoegijmfcelgnaaUnBase
import Derived.Deep.RegionHeld3
import Derived.StillTailTactics
import Derived.IntWalk
namespace Go.Proofs.Ytoegijmfcelgnaa
open Go.RowKit

def mdCells (m : Md) : List Value := [.int .i64 (m.given : Int), .int .i64 (m.sent : Int), .int .i64 (m.acked : Int), .int .i64 (m.rep : Int), .bool m.fore, .int .u8 (m.accepted : Int), .bool m.back, .bool m.w0, .bool m.w1, .bool m.failed]
/-- A unit as a value. -/
def unV (u : Un) (s : Option Addr) (n : Nat) : Value := .agg #[.int .u8 (u.back : Int), .bool u.bb, .int .u8 (u.fore : Int), .bool u.fb, .int .u8 (u.kind : Int), .int .u8 (u.state : Int), .slice s n n]
structure MdAt (w : World) (b : Nat) (m : Md) : Prop where
  own : Own w b 28 (mdCells m)
  ok : m.Ok
  small : m.given ≤ 100000
theorem MdAt.cells {w : World} {b : Nat} {m : Md} (h : MdAt w b m) :
    (w.cell? ⟨b, 0, none⟩ = some (.int .i64 (m.given : Int)) ∧ w.cell? ⟨b, 1, none⟩ = some (.int .i64 (m.sent : Int)) ∧ w.cell? ⟨b, 2, none⟩ = some (.int .i64 (m.acked : Int)) ∧ w.cell? ⟨b, 3, none⟩ = some (.int .i64 (m.rep : Int)) ∧ w.cell? ⟨b, 4, none⟩ = some (.bool m.fore) ∧
      w.cell? ⟨b, 5, none⟩ = some (.int .u8 (m.accepted : Int)) ∧ w.cell? ⟨b, 6, none⟩ = some (.bool m.back) ∧ w.cell? ⟨b, 7, none⟩ = some (.bool m.w0) ∧ w.cell? ⟨b, 8, none⟩ = some (.bool m.w1) ∧ w.cell? ⟨b, 9, none⟩ = some (.bool m.failed)) ∧ (∀ j, w.frozen? ⟨b, j, none⟩ = false) :=
  ⟨⟨h.own.cell 0 (by simp [mdCells]), h.own.cell 1 (by simp [mdCells]), h.own.cell 2 (by simp [mdCells]), h.own.cell 3 (by simp [mdCells]), h.own.cell 4 (by simp [mdCells]), h.own.cell 5 (by simp [mdCells]), h.own.cell 6 (by simp [mdCells]), h.own.cell 7 (by simp [mdCells]), h.own.cell 8 (by simp [mdCells]), h.own.cell 9 (by simp [mdCells])⟩, fun j => h.own.frozen j⟩
theorem MdAt.later {w w' : World} {b : Nat} {m : Md} (h : MdAt w b m) (hb : Below w.heap.size w w') : MdAt w' b m := ⟨h.own.below hb h.own.lt, h.ok, h.small⟩
theorem MdAt.exc {S : Nat → Prop} {w w' : World} {b : Nat} {m : Md} (h : MdAt w b m) (hx : Exc S w w') (hn : ¬ S b) : MdAt w' b m := ⟨h.own.exc hx hn, h.ok, h.small⟩
theorem Md.next_small {m : Md} (h : m.Ok) : m.next.2.given = m.given := by
  rcases Md.next_cases h with ⟨c, e⟩ | ⟨c, c2, c3, e⟩ | ⟨c, c2, e⟩ <;> rw [e]
theorem Own.drewK {w : World} {b t : Nat} {cs : List Value} (h : Own w b t cs) : Own w.drew b t cs := h
abbrev zeroUnit : List Value := [.int .u8 0, .bool false, .int .u8 0, .bool false, .int .u8 0, .int .u8 0, .slice none 0 0]
theorem md_four {w : World} {b t : Nat} {m : Md} (h : Own w b t (mdCells m)) : w.cell? ⟨b, 0, none⟩ = some (.int .i64 (m.given : Int)) ∧ w.cell? ⟨b, 1, none⟩ = some (.int .i64 (m.sent : Int)) ∧ w.cell? ⟨b, 2, none⟩ = some (.int .i64 (m.acked : Int)) ∧ w.cell? ⟨b, 3, none⟩ = some (.int .i64 (m.rep : Int)) :=
  ⟨h.cell 0 (by simp [mdCells]), h.cell 1 (by simp [mdCells]), h.cell 2 (by simp [mdCells]), h.cell 3 (by simp [mdCells])⟩
set_option maxHeartbeats 4000000 in
set_option maxRecDepth 100000 in
theorem mnext_rep (b : Nat) (m : Md) (w : World) (h : MdAt w b m) (hc : m.rep < m.sent) :
    Calls Try.prog 12 #[.pointer (some ⟨b, 0, none⟩)] w fun e w' =>
      (∃ s, e = .returned (unV m.next.1 s m.next.1.load.length) ∧ LoadAt w' w.heap.size s m.next.1.load) ∧ MdAt w' b m.next.2 ∧ Exc (fun k => k = b) w w' := by
  have hok := Md.next_ok h.ok
  have hsm2 := Md.next_small h.ok
  have har := h.ok.ar
  have en : m.next = (⟨m.accepted, m.back, num (m.rep + 1), m.fore, 2, 0, loadK m.rep⟩, { m with rep := m.rep + 1 }) := by
    rcases Md.next_cases h.ok with ⟨c, e⟩ | ⟨c, c2, c3, e⟩ | ⟨c, c2, e⟩
    · first | exact e | omega
    · first | exact e | omega
    · first | exact e | omega
  rw [en] at hok hsm2 ⊢
  have hb := h.own.lt
  have hsm := h.small
  have h1 := h.ok.rs
  have h2 := h.ok.sg
  obtain ⟨W1, hW1⟩ : ∃ W, W = ((w.alloc (.cells #[.int .u8 0, .bool false, .int .u8 0, .bool false, .int .u8 0, .int .u8 0, .slice none 0 0] 41)).alloc (.cells #[.int .u8 (m.accepted : Int), .bool m.back, .int .u8 0, .bool m.fore, .int .u8 0, .int .u8 0, .slice none 0 0] 41)).drew := ⟨_, rfl⟩
  have hb1 : Below w.heap.size w W1 := by rw [hW1]; exact below_drewN (n := 1) (((Below.refl _ _).alloc (Nat.le_refl _) _).alloc (by simp) _)
  have hz1 : W1.heap.size = w.heap.size + 2 := by rw [hW1]; show ((w.alloc _).alloc _).heap.size = _; simp
  have oz : Own W1 w.heap.size 41 zeroUnit := by
    rw [hW1]
    exact (own_lit w _ _ zeroUnit rfl).below (below_drewN (n := 1) (below_alloc _ _)) (by simp)
  have ou : Own W1 (w.heap.size + 1) 41 [.int .u8 (m.accepted : Int), .bool m.back, .int .u8 0, .bool m.fore, .int .u8 0, .int .u8 0, .slice none 0 0] := by
    have hh := own_lit (w.alloc (.cells #[.int .u8 0, .bool false, .int .u8 0, .bool false, .int .u8 0, .int .u8 0, .slice none 0 0] 41)) 41 #[.int .u8 (m.accepted : Int), .bool m.back, .int .u8 0, .bool m.fore, .int .u8 0, .int .u8 0, .slice none 0 0] _ rfl
    rw [World.size_alloc] at hh
    rw [hW1]; exact hh
  have om := h.own.below hb1 hb
  obtain ⟨⟨c0, c1, c2, c3, c4, c5, c6, c7, c8, c9⟩, hf⟩ := h.cells
  have HM := Lib.hid om
  have HZ := Lib.hid oz
  have HU := Lib.hid ou
  have HW := Lib.hid hW1
  have HB := Lib.hid hb1
  have HOk := Lib.hid hok
  have HS := Lib.hid hsm2
  clear h om oz ou hW1 hb1 hok hsm2 en hf
  obtain ⟨g, s, a, r, fo, ac, ba, x0, x1, fl⟩ := m
  simp only at c0 c1 c2 c3 c4 c5 c6 c7 c8 c9 hsm h1 h2 har HM HU HW HOk HS ⊢
  simp only at hc
  have e1 : ((r : Int) == (s : Int)) = false := by simp; omega
  have hrs : (r : Int) < (s : Int) := by omega
  have hr : (r : Int) ≤ 100000 := by omega
  have hs : (s : Int) ≤ 100000 := by omega
  have hg : (g : Int) ≤ 100000 := by omega
  have hne : b ≠ w.heap.size := by omega
  have hne1 : b ≠ w.heap.size + 1 := by omega
  go_enter Try.func12, Try.ntmps12
  go_wp2
  go_region
  rw [← HW.out]
  clear c0 c1 c2 c3 c4 c5 c6 c7 c8 c9
  obtain ⟨c0, c1, c2, c3⟩ := md_four HM.out
  go_wp2_with fail
  go_quiet (fail)
  go_wp2_with fail
  clear c0 c1 c2 c3
  generalize hW2 : W1.drewN nq = W2
  have hb2 : Below W1.heap.size W1 W2 := by rw [← hW2]; exact below_draw _ _
  obtain ⟨_, c1, _, c3⟩ := md_four (HM.out.below hb2 (by omega))
  have HB2 := Lib.hid hb2
  clear hW2 hb2
  go_quiet (fail)
  generalize hW3 : W2.drewN nq = W3
  have hb3 : Below W1.heap.size W1 W3 := by rw [← hW3]; exact HB2.out.trans ((below_draw _ _).mono HB2.out.size)
  have om3 := HM.out.below hb3 (by omega)
  have ou3 := HU.out.below hb3 (by omega)
  have oz3 := HZ.out.below hb3 (by omega)
  have hx3 : Exc (fun k => k = b) w W3 := Exc.of_below (HB.out.trans (hb3.mono (by omega)))
  have z3 : w.heap.size + 2 ≤ W3.heap.size := by have := hb3.size; omega
  clear hW3 hb3 c1 c3
  have u4 := ou3.cell 4 (by simp)
  have uf4 := ou3.frozen 4
  obtain ⟨_, _, _, d3⟩ := md_four om3
  have HM3 := Lib.hid om3
  have HU3 := Lib.hid ou3
  have HZ3 := Lib.hid oz3
  have HX3 := Lib.hid hx3
  clear om3 ou3 oz3 hx3
  go_wp2_with fail
  generalize hW4 : W3.setCell ⟨w.heap.size + 1, 4, none⟩ (.int .u8 2) = W4
  have hx4 := HX3.out.setCell ⟨w.heap.size + 1, 4, none⟩ (.inr (by simp)) (.int .u8 2)
  have om4 := HM3.out.other ⟨w.heap.size + 1, 4, none⟩ hne1 (.int .u8 2)
  have ou4 := HU3.out.set 4 (.int .u8 2)
  have oz4 := HZ3.out.other ⟨w.heap.size + 1, 4, none⟩ (by simp) (.int .u8 2)
  rw [hW4] at om4 ou4 oz4 hx4
  have z4 : w.heap.size + 2 ≤ W4.heap.size := by rw [← hW4]; simpa using z3
  have HM4 := Lib.hid om4
  have HU4 := Lib.hid ou4
  have HZ4 := Lib.hid oz4
  have HX4 := Lib.hid hx4
  clear hW4 hx4 om4 ou4 oz4 u4 uf4 d3
  refine (kmsg_any r W4 (by omega)).mono ?_
  rintro e W5 ⟨rfl, hb5, hl5⟩
  have om5 := HM4.out.below hb5 (by omega)
  have ou5 := HU4.out.below hb5 (by omega)
  have oz5 := HZ4.out.below hb5 (by omega)
  have z5 := hb5.size
  have lt5 := hl5.lt
  obtain ⟨_, _, _, q3⟩ := md_four om5
  have qf3 := om5.frozen 3
  obtain ⟨v0, v1, v2, v3, v4, v5, v6⟩ := unit_cells (by simpa using ou5)
  have vf2 := ou5.frozen 2
  have vf6 := ou5.frozen 6
  obtain ⟨y0, y1, y2, y3, y4, y5, y6⟩ := unit_cells oz5
  obtain ⟨x0', x1', x2', x3', x4', x5', x6'⟩ := unit_frozen oz5
  have hn : ∀ W, Calls Try.prog 19 #[.int .i64 ((r : Int) + 1)] W fun e w' => e = .returned (.int .u8 ((num (r + 1) : Nat) : Int)) ∧ W = w' := fun W => by
    have := knum_any (r + 1) W (by omega)
    rwa [show ((r + 1 : Nat) : Int) = (r : Int) + 1 by omega] at this
  have HN := Lib.hid hn
  have HM5 := Lib.hid om5
  have HU5 := Lib.hid ou5
  have HZ5 := Lib.hid oz5
  have HL5 := Lib.hid hl5
  have HX5 := Lib.hid (HX4.out.trans (S' := fun _ => False) (Exc.of_below hb5) (fun _ _ hh => hh.elim))
  clear hb5 hl5 om5 ou5 oz5 hn
  go_wp2_with fail
  generalize hW6 : (W5.setCell ⟨w.heap.size + 1, 6, none⟩ (.slice (some ⟨W4.heap.size, 0, none⟩) 2 2)).setCell ⟨b, 3, none⟩ (.int .i64 ((r : Int) + 1)) = W6
  have bb6 := (HX5.out.setCell ⟨w.heap.size + 1, 6, none⟩ (.inr (by simp)) (.slice (some ⟨W4.heap.size, 0, none⟩) 2 2)).setCell ⟨b, 3, none⟩ (.inl rfl) (.int .i64 ((r : Int) + 1))
  have om6 := (HM5.out.other ⟨w.heap.size + 1, 6, none⟩ hne1 (.slice (some ⟨W4.heap.size, 0, none⟩) 2 2)).set 3 (.int .i64 ((r : Int) + 1))
  have ou6 := (HU5.out.set 6 (.slice (some ⟨W4.heap.size, 0, none⟩) 2 2)).other ⟨b, 3, none⟩ (by simp; omega) (.int .i64 ((r : Int) + 1))
  have oz6 := (HZ5.out.other ⟨w.heap.size + 1, 6, none⟩ (by simp) (.slice (some ⟨W4.heap.size, 0, none⟩) 2 2)).other ⟨b, 3, none⟩ (by simp; omega) (.int .i64 ((r : Int) + 1))
  have ol6 := (HL5.out.other ⟨w.heap.size + 1, 6, none⟩ (by simp; omega) (.slice (some ⟨W4.heap.size, 0, none⟩) 2 2)).other ⟨b, 3, none⟩ (by simp; omega) (.int .i64 ((r : Int) + 1))
  rw [hW6] at om6 ou6 oz6 ol6 bb6
  clear hW6 q3 qf3 v0 v1 v2 v3 v4 v5 v6 vf2 vf6 y0 y1 y2 y3 y4 y5 y6 x0' x1' x2' x3' x4' x5' x6'
  refine (HN.out W6).mono ?_
  rintro e w' ⟨rfl, rfl⟩
  have ou6' : Own W6 (w.heap.size + 1) 41 [.int .u8 (ac : Int), .bool ba, .int .u8 0, .bool fo, .int .u8 2, .int .u8 0, .slice (some ⟨W4.heap.size, 0, none⟩) 2 2] := ou6
  obtain ⟨v0, v1, v2, v3, v4, v5, v6⟩ := unit_cells ou6'
  have vf2 := ou6'.frozen 2
  obtain ⟨y0, y1, y2, y3, y4, y5, y6⟩ := unit_cells oz6
  obtain ⟨x0', x1', x2', x3', x4', x5', x6'⟩ := unit_frozen oz6
  have HM6 := Lib.hid om6
  have HL6 := Lib.hid ol6
  have HX6 := Lib.hid bb6
  have HZ6 := Lib.hid oz6
  clear om6 ou6 oz6 bb6 ou6' ol6
  generalize hnum : num (r + 1) = nm
  have HNm := Lib.hid hnum
  clear hnum
  go_wp2
  generalize hW7 : ((((((((W6.setCell { block := w.heap.size + 1, off := 2 } (Value.int IntKind.u8 ↑nm)).setCell { block := w.heap.size, off := 0 } (Value.int IntKind.u8 ↑ac)).setCell { block := w.heap.size, off := 1 } (Value.bool ba)).setCell
    { block := w.heap.size, off := 2 } (Value.int IntKind.u8 ↑nm)).setCell { block := w.heap.size, off := 3 } (Value.bool fo)).setCell { block := w.heap.size, off := 4 } (Value.int IntKind.u8 2)).setCell { block := w.heap.size, off := 5 } (Value.int IntKind.u8 0)).setCell
    { block := w.heap.size, off := 6 } (Value.slice (some { block := W4.heap.size, off := 0 }) 2 2)) = W7
  have n1 : ∀ j, (b : Nat) ≠ (⟨w.heap.size, j, none⟩ : Addr).block := fun j => by simp; omega
  have om7 := ((((((((HM6.out.other ⟨w.heap.size + 1, 2, none⟩ hne1 (.int .u8 (nm : Int))).other _ (n1 0) (.int .u8 (ac : Int))).other _ (n1 1) (.bool ba)).other _ (n1 2) (.int .u8 (nm : Int))).other _ (n1 3) (.bool fo)).other _ (n1 4) (.int .u8 2)).other _ (n1 5) (.int .u8 0)).other _ (n1 6) (Value.slice (some { block := W4.heap.size, off := 0 }) 2 2))
  have n2 : ∀ j, W4.heap.size ≠ (⟨w.heap.size, j, none⟩ : Addr).block := fun j => by simp; omega
  have ol7 := ((((((((HL6.out.other ⟨w.heap.size + 1, 2, none⟩ (by simp; omega) (.int .u8 (nm : Int))).other _ (n2 0) (.int .u8 (ac : Int))).other _ (n2 1) (.bool ba)).other _ (n2 2) (.int .u8 (nm : Int))).other _ (n2 3) (.bool fo)).other _ (n2 4) (.int .u8 2)).other _ (n2 5) (.int .u8 0)).other _ (n2 6) (Value.slice (some { block := W4.heap.size, off := 0 }) 2 2))
  have oz7 := ((((((((HZ6.out.other ⟨w.heap.size + 1, 2, none⟩ (by simp) (.int .u8 (nm : Int))).set 0 (.int .u8 (ac : Int))).set 1 (.bool ba)).set 2 (.int .u8 (nm : Int))).set 3 (.bool fo)).set 4 (.int .u8 2)).set 5 (.int .u8 0)).set 6 (Value.slice (some { block := W4.heap.size, off := 0 }) 2 2))
  have hx7 := ((((((((HX6.out.setCell ⟨w.heap.size + 1, 2, none⟩ (.inr (by simp)) (.int .u8 (nm : Int))).setCell ⟨w.heap.size, 0, none⟩ (.inr (Nat.le_refl _)) (.int .u8 (ac : Int))).setCell ⟨w.heap.size, 1, none⟩ (.inr (Nat.le_refl _)) (.bool ba)).setCell ⟨w.heap.size, 2, none⟩ (.inr (Nat.le_refl _)) (.int .u8 (nm : Int))).setCell ⟨w.heap.size, 3, none⟩ (.inr (Nat.le_refl _)) (.bool fo)).setCell ⟨w.heap.size, 4, none⟩ (.inr (Nat.le_refl _)) (.int .u8 2)).setCell ⟨w.heap.size, 5, none⟩ (.inr (Nat.le_refl _)) (.int .u8 0)).setCell ⟨w.heap.size, 6, none⟩ (.inr (Nat.le_refl _)) (Value.slice (some { block := W4.heap.size, off := 0 }) 2 2))
  rw [hW7] at om7 ol7 oz7 hx7
  clear hW7 v0 v1 v2 v3 v4 v5 v6 vf2 y0 y1 y2 y3 y4 y5 y6 x0' x1' x2' x3' x4' x5' x6'
  have oz7' : Own W7 w.heap.size 41 [.int .u8 (ac : Int), .bool ba, .int .u8 (nm : Int), .bool fo, .int .u8 2, .int .u8 0, Value.slice (some { block := W4.heap.size, off := 0 }) 2 2] := oz7
  obtain ⟨y0, y1, y2, y3, y4, y5, y6⟩ := unit_cells oz7'
  refine bodyPost_ret (v := unV ⟨ac, ba, nm, fo, 2, 0, loadK r⟩ (some ⟨W4.heap.size, 0, none⟩) 2) (by simp [results, Try.results12, go_sem, y0, y1, y2, y3, y4, y5, y6, unV]) rfl ⟨⟨(some ⟨W4.heap.size, 0, none⟩), by first | (rw [HNm.out]; rfl) | rw [HNm.out], ?_⟩, ⟨om7, HOk.out, by show g ≤ 100000; omega⟩, hx7⟩
  exact .inr ⟨_, rfl, by omega, ol7⟩
set_option maxHeartbeats 4000000 in
set_option maxRecDepth 100000 in
theorem mnext_new (b : Nat) (m : Md) (w : World) (h : MdAt w b m) (hc : m.rep = m.sent) (hg' : m.sent < m.given) (hw' : m.sent - m.acked < 127) :
    Calls Try.prog 12 #[.pointer (some ⟨b, 0, none⟩)] w fun e w' =>
      (∃ s, e = .returned (unV m.next.1 s m.next.1.load.length) ∧ LoadAt w' w.heap.size s m.next.1.load) ∧ MdAt w' b m.next.2 ∧ Exc (fun k => k = b) w w' := by
  have hok := Md.next_ok h.ok
  have hsm2 := Md.next_small h.ok
  have har := h.ok.ar
  have en : m.next = (⟨m.accepted, m.back, num (m.sent + 1), m.fore, 2, 0, loadK m.sent⟩, { m with sent := m.sent + 1, rep := m.sent + 1 }) := by
    rcases Md.next_cases h.ok with ⟨c, e⟩ | ⟨c, c2, c3, e⟩ | ⟨c, c2, e⟩
    · first | exact e | omega
    · first | exact e | omega
    · first | exact e | omega
  rw [en] at hok hsm2 ⊢
  have hb := h.own.lt
  have hsm := h.small
  have h1 := h.ok.rs
  have h2 := h.ok.sg
  obtain ⟨W1, hW1⟩ : ∃ W, W = ((w.alloc (.cells #[.int .u8 0, .bool false, .int .u8 0, .bool false, .int .u8 0, .int .u8 0, .slice none 0 0] 41)).alloc (.cells #[.int .u8 (m.accepted : Int), .bool m.back, .int .u8 0, .bool m.fore, .int .u8 0, .int .u8 0, .slice none 0 0] 41)).drew := ⟨_, rfl⟩
  have hb1 : Below w.heap.size w W1 := by rw [hW1]; exact below_drewN (n := 1) (((Below.refl _ _).alloc (Nat.le_refl _) _).alloc (by simp) _)
  have hz1 : W1.heap.size = w.heap.size + 2 := by rw [hW1]; show ((w.alloc _).alloc _).heap.size = _; simp
  have oz : Own W1 w.heap.size 41 zeroUnit := by
    rw [hW1]
    exact (own_lit w _ _ zeroUnit rfl).below (below_drewN (n := 1) (below_alloc _ _)) (by simp)
  have ou : Own W1 (w.heap.size + 1) 41 [.int .u8 (m.accepted : Int), .bool m.back, .int .u8 0, .bool m.fore, .int .u8 0, .int .u8 0, .slice none 0 0] := by
    have hh := own_lit (w.alloc (.cells #[.int .u8 0, .bool false, .int .u8 0, .bool false, .int .u8 0, .int .u8 0, .slice none 0 0] 41)) 41 #[.int .u8 (m.accepted : Int), .bool m.back, .int .u8 0, .bool m.fore, .int .u8 0, .int .u8 0, .slice none 0 0] _ rfl
    rw [World.size_alloc] at hh
    rw [hW1]; exact hh
  have om := h.own.below hb1 hb
  obtain ⟨⟨c0, c1, c2, c3, c4, c5, c6, c7, c8, c9⟩, hf⟩ := h.cells
  have HM := Lib.hid om
  have HZ := Lib.hid oz
  have HU := Lib.hid ou
  have HW := Lib.hid hW1
  have HB := Lib.hid hb1
  have HOk := Lib.hid hok
  have HS := Lib.hid hsm2
  clear h om oz ou hW1 hb1 hok hsm2 en hf
  obtain ⟨g, s, a, r, fo, ac, ba, x0, x1, fl⟩ := m
  simp only at c0 c1 c2 c3 c4 c5 c6 c7 c8 c9 hsm h1 h2 har HM HU HW HOk HS ⊢
  simp only at hc hg' hw'
  obtain rfl : s = r := hc.symm
  have e1 : ((s : Int) == (s : Int)) = true := by simp
  have e2 : (s : Int) < (g : Int) := by omega
  have e3 : (s : Int) - (a : Int) < 127 := by omega
  have e4 : IntKind.i64.wrap ((s : Int) - (a : Int)) = (s : Int) - (a : Int) := IntWalk.i64_in _ (by omega)
  clear hc
  have hs : (s : Int) ≤ 100000 := by omega
  have hg : (g : Int) ≤ 100000 := by omega
  have hne : b ≠ w.heap.size := by omega
  have hne1 : b ≠ w.heap.size + 1 := by omega
  go_enter Try.func12, Try.ntmps12
  go_wp2
  go_region
  rw [← HW.out]
  clear c0 c1 c2 c3 c4 c5 c6 c7 c8 c9
  obtain ⟨c0, c1, c2, c3⟩ := md_four HM.out
  go_wp2_with fail
  go_quiet (fail)
  clear c0 c1 c2 c3
  generalize hW2 : W1.drewN nq = W2
  have hb2 : Below W1.heap.size W1 W2 := by rw [← hW2]; exact below_draw _ _
  have om2 := HM.out.below hb2 (by omega)
  have ou2 := HU.out.below hb2 (by omega)
  have oz2 := HZ.out.below hb2 (by omega)
  have hx2 : Exc (fun k => k = b) w W2 := Exc.of_below (HB.out.trans (hb2.mono (by omega)))
  have z2 : w.heap.size + 2 ≤ W2.heap.size := by have := hb2.size; omega
  obtain ⟨_, c1, _, c3⟩ := md_four om2
  have f1 := om2.frozen 1
  have HM2 := Lib.hid om2
  have HU2 := Lib.hid ou2
  have HZ2 := Lib.hid oz2
  have HX2 := Lib.hid hx2
  clear hW2 hb2 om2 ou2 oz2 hx2
  go_wp2_with fail
  generalize hW2b : W2.setCell ⟨b, 1, none⟩ (.int .i64 ((s : Int) + 1)) = W2b
  have om2 := HM2.out.set 1 (.int .i64 ((s : Int) + 1))
  have ou2 := HU2.out.other ⟨b, 1, none⟩ (by simp; omega) (.int .i64 ((s : Int) + 1))
  have oz2 := HZ2.out.other ⟨b, 1, none⟩ (by simp; omega) (.int .i64 ((s : Int) + 1))
  have hx2 := HX2.out.setCell ⟨b, 1, none⟩ (.inl rfl) (.int .i64 ((s : Int) + 1))
  have z2b : w.heap.size + 2 ≤ W2b.heap.size := by rw [← hW2b]; simpa using z2
  rw [hW2b] at om2 ou2 oz2 hx2
  have om2' : Own W2b b 28 (mdCells ⟨g, s + 1, a, s, fo, ac, ba, x0, x1, fl⟩) := om2
  clear c1 c3 f1
  obtain ⟨_, c1, _, c3⟩ := md_four om2'
  simp only [Int.natCast_add, Int.cast_ofNat_Int] at c1
  have HM2' := Lib.hid om2'
  have HU2' := Lib.hid ou2
  have HZ2' := Lib.hid oz2
  have HX2' := Lib.hid hx2
  clear hW2b om2' om2 ou2 oz2 hx2 HM2 HU2 HZ2 HX2
  go_quiet (fail)
  generalize hW3 : W2b.drewN nq = W3
  have hb3 : Below W2b.heap.size W2b W3 := by rw [← hW3]; exact below_draw _ _
  have om3 := HM2'.out.below hb3 (by omega)
  have ou3 := HU2'.out.below hb3 (by omega)
  have oz3 := HZ2'.out.below hb3 (by omega)
  have hx3 : Exc (fun k => k = b) w W3 := HX2'.out.trans (S' := fun _ => False) (Exc.of_below hb3) (fun _ _ hh => hh.elim)
  have z3 : w.heap.size + 2 ≤ W3.heap.size := by have := hb3.size; omega
  clear hW3 hb3 c1 c3
  have u4 := ou3.cell 4 (by simp)
  have uf4 := ou3.frozen 4
  obtain ⟨_, _, _, d3⟩ := md_four om3
  have HM3 := Lib.hid om3
  have HU3 := Lib.hid ou3
  have HZ3 := Lib.hid oz3
  have HX3 := Lib.hid hx3
  clear om3 ou3 oz3 hx3
  go_wp2_with fail
  generalize hW4 : W3.setCell ⟨w.heap.size + 1, 4, none⟩ (.int .u8 2) = W4
  have hx4 := HX3.out.setCell ⟨w.heap.size + 1, 4, none⟩ (.inr (by simp)) (.int .u8 2)
  have om4 := HM3.out.other ⟨w.heap.size + 1, 4, none⟩ hne1 (.int .u8 2)
  have ou4 := HU3.out.set 4 (.int .u8 2)
  have oz4 := HZ3.out.other ⟨w.heap.size + 1, 4, none⟩ (by simp) (.int .u8 2)
  rw [hW4] at om4 ou4 oz4 hx4
  have z4 : w.heap.size + 2 ≤ W4.heap.size := by rw [← hW4]; simpa using z3
  have HM4 := Lib.hid om4
  have HU4 := Lib.hid ou4
  have HZ4 := Lib.hid oz4
  have HX4 := Lib.hid hx4
  clear hW4 hx4 om4 ou4 oz4 u4 uf4 d3
  refine (kmsg_any s W4 (by omega)).mono ?_
  rintro e W5 ⟨rfl, hb5, hl5⟩
  have om5 := HM4.out.below hb5 (by omega)
  have ou5 := HU4.out.below hb5 (by omega)
  have oz5 := HZ4.out.below hb5 (by omega)
  have z5 := hb5.size
  have lt5 := hl5.lt
  obtain ⟨_, _, _, q3⟩ := md_four om5
  have qf3 := om5.frozen 3
  obtain ⟨v0, v1, v2, v3, v4, v5, v6⟩ := unit_cells (by simpa using ou5)
  have vf2 := ou5.frozen 2
  have vf6 := ou5.frozen 6
  obtain ⟨y0, y1, y2, y3, y4, y5, y6⟩ := unit_cells oz5
  obtain ⟨x0', x1', x2', x3', x4', x5', x6'⟩ := unit_frozen oz5
  have hn : ∀ W, Calls Try.prog 19 #[.int .i64 ((s : Int) + 1)] W fun e w' => e = .returned (.int .u8 ((num (s + 1) : Nat) : Int)) ∧ W = w' := fun W => by
    have := knum_any (s + 1) W (by omega)
    rwa [show ((s + 1 : Nat) : Int) = (s : Int) + 1 by omega] at this
  have HN := Lib.hid hn
  have HM5 := Lib.hid om5
  have HU5 := Lib.hid ou5
  have HZ5 := Lib.hid oz5
  have HL5 := Lib.hid hl5
  have HX5 := Lib.hid (HX4.out.trans (S' := fun _ => False) (Exc.of_below hb5) (fun _ _ hh => hh.elim))
  clear hb5 hl5 om5 ou5 oz5 hn
  go_wp2_with fail
  generalize hW6 : (W5.setCell ⟨w.heap.size + 1, 6, none⟩ (.slice (some ⟨W4.heap.size, 0, none⟩) 2 2)).setCell ⟨b, 3, none⟩ (.int .i64 ((s : Int) + 1)) = W6
  have bb6 := (HX5.out.setCell ⟨w.heap.size + 1, 6, none⟩ (.inr (by simp)) (.slice (some ⟨W4.heap.size, 0, none⟩) 2 2)).setCell ⟨b, 3, none⟩ (.inl rfl) (.int .i64 ((s : Int) + 1))
  have om6 := (HM5.out.other ⟨w.heap.size + 1, 6, none⟩ hne1 (.slice (some ⟨W4.heap.size, 0, none⟩) 2 2)).set 3 (.int .i64 ((s : Int) + 1))
  have ou6 := (HU5.out.set 6 (.slice (some ⟨W4.heap.size, 0, none⟩) 2 2)).other ⟨b, 3, none⟩ (by simp; omega) (.int .i64 ((s : Int) + 1))
  have oz6 := (HZ5.out.other ⟨w.heap.size + 1, 6, none⟩ (by simp) (.slice (some ⟨W4.heap.size, 0, none⟩) 2 2)).other ⟨b, 3, none⟩ (by simp; omega) (.int .i64 ((s : Int) + 1))
  have ol6 := (HL5.out.other ⟨w.heap.size + 1, 6, none⟩ (by simp; omega) (.slice (some ⟨W4.heap.size, 0, none⟩) 2 2)).other ⟨b, 3, none⟩ (by simp; omega) (.int .i64 ((s : Int) + 1))
  rw [hW6] at om6 ou6 oz6 ol6 bb6
  clear hW6 q3 qf3 v0 v1 v2 v3 v4 v5 v6 vf2 vf6 y0 y1 y2 y3 y4 y5 y6 x0' x1' x2' x3' x4' x5' x6'
  refine (HN.out W6).mono ?_
  rintro e w' ⟨rfl, rfl⟩
  have ou6' : Own W6 (w.heap.size + 1) 41 [.int .u8 (ac : Int), .bool ba, .int .u8 0, .bool fo, .int .u8 2, .int .u8 0, .slice (some ⟨W4.heap.size, 0, none⟩) 2 2] := ou6
  obtain ⟨v0, v1, v2, v3, v4, v5, v6⟩ := unit_cells ou6'
  have vf2 := ou6'.frozen 2
  obtain ⟨y0, y1, y2, y3, y4, y5, y6⟩ := unit_cells oz6
  obtain ⟨x0', x1', x2', x3', x4', x5', x6'⟩ := unit_frozen oz6
  have HM6 := Lib.hid om6
  have HL6 := Lib.hid ol6
  have HX6 := Lib.hid bb6
  have HZ6 := Lib.hid oz6
  clear om6 ou6 oz6 bb6 ou6' ol6
  generalize hnum : num (s + 1) = nm
  have HNm := Lib.hid hnum
  clear hnum
  go_wp2
  generalize hW7 : ((((((((W6.setCell { block := w.heap.size + 1, off := 2 } (Value.int IntKind.u8 ↑nm)).setCell { block := w.heap.size, off := 0 } (Value.int IntKind.u8 ↑ac)).setCell { block := w.heap.size, off := 1 } (Value.bool ba)).setCell
    { block := w.heap.size, off := 2 } (Value.int IntKind.u8 ↑nm)).setCell { block := w.heap.size, off := 3 } (Value.bool fo)).setCell { block := w.heap.size, off := 4 } (Value.int IntKind.u8 2)).setCell { block := w.heap.size, off := 5 } (Value.int IntKind.u8 0)).setCell
    { block := w.heap.size, off := 6 } (Value.slice (some { block := W4.heap.size, off := 0 }) 2 2)) = W7
  have n1 : ∀ j, (b : Nat) ≠ (⟨w.heap.size, j, none⟩ : Addr).block := fun j => by simp; omega
  have om7 := ((((((((HM6.out.other ⟨w.heap.size + 1, 2, none⟩ hne1 (.int .u8 (nm : Int))).other _ (n1 0) (.int .u8 (ac : Int))).other _ (n1 1) (.bool ba)).other _ (n1 2) (.int .u8 (nm : Int))).other _ (n1 3) (.bool fo)).other _ (n1 4) (.int .u8 2)).other _ (n1 5) (.int .u8 0)).other _ (n1 6) (Value.slice (some { block := W4.heap.size, off := 0 }) 2 2))
  have n2 : ∀ j, W4.heap.size ≠ (⟨w.heap.size, j, none⟩ : Addr).block := fun j => by simp; omega
  have ol7 := ((((((((HL6.out.other ⟨w.heap.size + 1, 2, none⟩ (by simp; omega) (.int .u8 (nm : Int))).other _ (n2 0) (.int .u8 (ac : Int))).other _ (n2 1) (.bool ba)).other _ (n2 2) (.int .u8 (nm : Int))).other _ (n2 3) (.bool fo)).other _ (n2 4) (.int .u8 2)).other _ (n2 5) (.int .u8 0)).other _ (n2 6) (Value.slice (some { block := W4.heap.size, off := 0 }) 2 2))
  have oz7 := ((((((((HZ6.out.other ⟨w.heap.size + 1, 2, none⟩ (by simp) (.int .u8 (nm : Int))).set 0 (.int .u8 (ac : Int))).set 1 (.bool ba)).set 2 (.int .u8 (nm : Int))).set 3 (.bool fo)).set 4 (.int .u8 2)).set 5 (.int .u8 0)).set 6 (Value.slice (some { block := W4.heap.size, off := 0 }) 2 2))
  have hx7 := ((((((((HX6.out.setCell ⟨w.heap.size + 1, 2, none⟩ (.inr (by simp)) (.int .u8 (nm : Int))).setCell ⟨w.heap.size, 0, none⟩ (.inr (Nat.le_refl _)) (.int .u8 (ac : Int))).setCell ⟨w.heap.size, 1, none⟩ (.inr (Nat.le_refl _)) (.bool ba)).setCell ⟨w.heap.size, 2, none⟩ (.inr (Nat.le_refl _)) (.int .u8 (nm : Int))).setCell ⟨w.heap.size, 3, none⟩ (.inr (Nat.le_refl _)) (.bool fo)).setCell ⟨w.heap.size, 4, none⟩ (.inr (Nat.le_refl _)) (.int .u8 2)).setCell ⟨w.heap.size, 5, none⟩ (.inr (Nat.le_refl _)) (.int .u8 0)).setCell ⟨w.heap.size, 6, none⟩ (.inr (Nat.le_refl _)) (Value.slice (some { block := W4.heap.size, off := 0 }) 2 2))
  rw [hW7] at om7 ol7 oz7 hx7
  clear hW7 v0 v1 v2 v3 v4 v5 v6 vf2 y0 y1 y2 y3 y4 y5 y6 x0' x1' x2' x3' x4' x5' x6'
  have oz7' : Own W7 w.heap.size 41 [.int .u8 (ac : Int), .bool ba, .int .u8 (nm : Int), .bool fo, .int .u8 2, .int .u8 0, Value.slice (some { block := W4.heap.size, off := 0 }) 2 2] := oz7
  obtain ⟨y0, y1, y2, y3, y4, y5, y6⟩ := unit_cells oz7'
  refine bodyPost_ret (v := unV ⟨ac, ba, nm, fo, 2, 0, loadK s⟩ (some ⟨W4.heap.size, 0, none⟩) 2) (by simp [results, Try.results12, go_sem, y0, y1, y2, y3, y4, y5, y6, unV]) rfl ⟨⟨(some ⟨W4.heap.size, 0, none⟩), by first | (rw [HNm.out]; rfl) | rw [HNm.out], ?_⟩, ⟨om7, HOk.out, by show g ≤ 100000; omega⟩, hx7⟩
  exact .inr ⟨_, rfl, by omega, ol7⟩
set_option maxHeartbeats 4000000 in
set_option maxRecDepth 100000 in
theorem mnext_fill1 (b : Nat) (m : Md) (w : World) (h : MdAt w b m) (hc : m.rep = m.sent) (hg' : ¬ m.sent < m.given) :
    Calls Try.prog 12 #[.pointer (some ⟨b, 0, none⟩)] w fun e w' =>
      (∃ s, e = .returned (unV m.next.1 s m.next.1.load.length) ∧ LoadAt w' w.heap.size s m.next.1.load) ∧ MdAt w' b m.next.2 ∧ Exc (fun k => k = b) w w' := by
  have hok := Md.next_ok h.ok
  have hsm2 := Md.next_small h.ok
  have har := h.ok.ar
  have en : m.next = (⟨m.accepted, m.back, num m.sent, m.fore, 0, 0, []⟩, m) := by
    rcases Md.next_cases h.ok with ⟨c, e⟩ | ⟨c, c2, c3, e⟩ | ⟨c, c2, e⟩
    · first | exact e | omega
    · first | exact e | omega
    · first | exact e | omega
  rw [en] at hok hsm2 ⊢
  have hb := h.own.lt
  have hsm := h.small
  have h1 := h.ok.rs
  have h2 := h.ok.sg
  obtain ⟨W1, hW1⟩ : ∃ W, W = ((w.alloc (.cells #[.int .u8 0, .bool false, .int .u8 0, .bool false, .int .u8 0, .int .u8 0, .slice none 0 0] 41)).alloc (.cells #[.int .u8 (m.accepted : Int), .bool m.back, .int .u8 0, .bool m.fore, .int .u8 0, .int .u8 0, .slice none 0 0] 41)).drew := ⟨_, rfl⟩
  have hb1 : Below w.heap.size w W1 := by rw [hW1]; exact below_drewN (n := 1) (((Below.refl _ _).alloc (Nat.le_refl _) _).alloc (by simp) _)
  have hz1 : W1.heap.size = w.heap.size + 2 := by rw [hW1]; show ((w.alloc _).alloc _).heap.size = _; simp
  have oz : Own W1 w.heap.size 41 zeroUnit := by
    rw [hW1]
    exact (own_lit w _ _ zeroUnit rfl).below (below_drewN (n := 1) (below_alloc _ _)) (by simp)
  have ou : Own W1 (w.heap.size + 1) 41 [.int .u8 (m.accepted : Int), .bool m.back, .int .u8 0, .bool m.fore, .int .u8 0, .int .u8 0, .slice none 0 0] := by
    have hh := own_lit (w.alloc (.cells #[.int .u8 0, .bool false, .int .u8 0, .bool false, .int .u8 0, .int .u8 0, .slice none 0 0] 41)) 41 #[.int .u8 (m.accepted : Int), .bool m.back, .int .u8 0, .bool m.fore, .int .u8 0, .int .u8 0, .slice none 0 0] _ rfl
    rw [World.size_alloc] at hh
    rw [hW1]; exact hh
  have om := h.own.below hb1 hb
  obtain ⟨⟨c0, c1, c2, c3, c4, c5, c6, c7, c8, c9⟩, hf⟩ := h.cells
  have HM := Lib.hid om
  have HZ := Lib.hid oz
  have HU := Lib.hid ou
  have HW := Lib.hid hW1
  have HB := Lib.hid hb1
  have HOk := Lib.hid hok
  have HS := Lib.hid hsm2
  clear h om oz ou hW1 hb1 hok hsm2 en hf
  obtain ⟨g, s, a, r, fo, ac, ba, x0, x1, fl⟩ := m
  simp only at c0 c1 c2 c3 c4 c5 c6 c7 c8 c9 hsm h1 h2 har HM HU HW HOk HS ⊢
  simp only at hc hg'
  obtain rfl : s = r := hc.symm
  have e1 : ((s : Int) == (s : Int)) = true := by simp
  have e2 : ¬ (s : Int) < (g : Int) := by omega
  have e2b : decide ((s : Int) < (g : Int)) = false := decide_eq_false e2
  clear hc
  have hs : (s : Int) ≤ 100000 := by omega
  have hg : (g : Int) ≤ 100000 := by omega
  have hne : b ≠ w.heap.size := by omega
  have hne1 : b ≠ w.heap.size + 1 := by omega
  go_enter Try.func12, Try.ntmps12
  go_wp2
  go_region
  rw [← HW.out]
  clear c0 c1 c2 c3 c4 c5 c6 c7 c8 c9
  obtain ⟨c0, c1, c2, c3⟩ := md_four HM.out
  go_wp2_with fail
  go_quiet (fail)
  go_wp2_with fail
  clear c0 c1 c2 c3
  generalize hW2 : W1.drewN nq = W2
  have hb2 : Below W1.heap.size W1 W2 := by rw [← hW2]; exact below_draw _ _
  obtain ⟨_, c1, _, c3⟩ := md_four (HM.out.below hb2 (by omega))
  have HB2 := Lib.hid hb2
  clear hW2 hb2
  go_quiet (fail)
  generalize hW3 : W2.drewN nq = W3
  have hb3 : Below W1.heap.size W1 W3 := by rw [← hW3]; exact HB2.out.trans ((below_draw _ _).mono HB2.out.size)
  have om3 := HM.out.below hb3 (by omega)
  have ou3 := HU.out.below hb3 (by omega)
  have oz3 := HZ.out.below hb3 (by omega)
  have hx3 : Exc (fun k => k = b) w W3 := Exc.of_below (HB.out.trans (hb3.mono (by omega)))
  have z3 : w.heap.size + 2 ≤ W3.heap.size := by have := hb3.size; omega
  clear hW3 hb3 c1 c3
  obtain ⟨_, d1, _, _⟩ := md_four om3
  have HM3 := Lib.hid om3
  have HU3 := Lib.hid ou3
  have HZ3 := Lib.hid oz3
  have HX3 := Lib.hid hx3
  clear om3 ou3 oz3 hx3
  go_wp2_with fail
  refine (knum_any s W3 (by omega)).mono ?_
  rintro e W6 ⟨rfl, hW6⟩
  have om6 := HM3.out
  have ou6' := HU3.out
  have oz6 := HZ3.out
  have bb6 := HX3.out
  rw [hW6] at om6 ou6' oz6 bb6
  have ou6 := ou6'
  clear hW6 d1
  obtain ⟨v0, v1, v2, v3, v4, v5, v6⟩ := unit_cells ou6'
  have vf2 := ou6'.frozen 2
  obtain ⟨y0, y1, y2, y3, y4, y5, y6⟩ := unit_cells oz6
  obtain ⟨x0', x1', x2', x3', x4', x5', x6'⟩ := unit_frozen oz6
  have HM6 := Lib.hid om6
  have HX6 := Lib.hid bb6
  have HZ6 := Lib.hid oz6
  clear om6 ou6 oz6 bb6 ou6' 
  generalize hnum : num s = nm
  have HNm := Lib.hid hnum
  clear hnum
  go_wp2
  generalize hW7 : ((((((((W6.setCell { block := w.heap.size + 1, off := 2 } (Value.int IntKind.u8 ↑nm)).setCell { block := w.heap.size, off := 0 } (Value.int IntKind.u8 ↑ac)).setCell { block := w.heap.size, off := 1 } (Value.bool ba)).setCell
    { block := w.heap.size, off := 2 } (Value.int IntKind.u8 ↑nm)).setCell { block := w.heap.size, off := 3 } (Value.bool fo)).setCell { block := w.heap.size, off := 4 } (Value.int IntKind.u8 0)).setCell { block := w.heap.size, off := 5 } (Value.int IntKind.u8 0)).setCell
    { block := w.heap.size, off := 6 } (Value.slice none 0 0)) = W7
  have n1 : ∀ j, (b : Nat) ≠ (⟨w.heap.size, j, none⟩ : Addr).block := fun j => by simp; omega
  have om7 := ((((((((HM6.out.other ⟨w.heap.size + 1, 2, none⟩ hne1 (.int .u8 (nm : Int))).other _ (n1 0) (.int .u8 (ac : Int))).other _ (n1 1) (.bool ba)).other _ (n1 2) (.int .u8 (nm : Int))).other _ (n1 3) (.bool fo)).other _ (n1 4) (.int .u8 0)).other _ (n1 5) (.int .u8 0)).other _ (n1 6) (Value.slice none 0 0))
  have oz7 := ((((((((HZ6.out.other ⟨w.heap.size + 1, 2, none⟩ (by simp) (.int .u8 (nm : Int))).set 0 (.int .u8 (ac : Int))).set 1 (.bool ba)).set 2 (.int .u8 (nm : Int))).set 3 (.bool fo)).set 4 (.int .u8 0)).set 5 (.int .u8 0)).set 6 (Value.slice none 0 0))
  have hx7 := ((((((((HX6.out.setCell ⟨w.heap.size + 1, 2, none⟩ (.inr (by simp)) (.int .u8 (nm : Int))).setCell ⟨w.heap.size, 0, none⟩ (.inr (Nat.le_refl _)) (.int .u8 (ac : Int))).setCell ⟨w.heap.size, 1, none⟩ (.inr (Nat.le_refl _)) (.bool ba)).setCell ⟨w.heap.size, 2, none⟩ (.inr (Nat.le_refl _)) (.int .u8 (nm : Int))).setCell ⟨w.heap.size, 3, none⟩ (.inr (Nat.le_refl _)) (.bool fo)).setCell ⟨w.heap.size, 4, none⟩ (.inr (Nat.le_refl _)) (.int .u8 0)).setCell ⟨w.heap.size, 5, none⟩ (.inr (Nat.le_refl _)) (.int .u8 0)).setCell ⟨w.heap.size, 6, none⟩ (.inr (Nat.le_refl _)) (Value.slice none 0 0))
  rw [hW7] at om7 oz7 hx7
  clear hW7 v0 v1 v2 v3 v4 v5 v6 vf2 y0 y1 y2 y3 y4 y5 y6 x0' x1' x2' x3' x4' x5' x6'
  have oz7' : Own W7 w.heap.size 41 [.int .u8 (ac : Int), .bool ba, .int .u8 (nm : Int), .bool fo, .int .u8 0, .int .u8 0, Value.slice none 0 0] := oz7
  obtain ⟨y0, y1, y2, y3, y4, y5, y6⟩ := unit_cells oz7'
  refine bodyPost_ret (v := unV ⟨ac, ba, nm, fo, 0, 0, []⟩ none 0) (by simp [results, Try.results12, go_sem, y0, y1, y2, y3, y4, y5, y6, unV]) rfl ⟨⟨none, by first | (rw [HNm.out]; rfl) | rw [HNm.out], ?_⟩, ⟨om7, HOk.out, by show g ≤ 100000; omega⟩, hx7⟩
  exact .inl ⟨rfl, rfl⟩
set_option maxHeartbeats 4000000 in
set_option maxRecDepth 100000 in
theorem mnext_fill2 (b : Nat) (m : Md) (w : World) (h : MdAt w b m) (hc : m.rep = m.sent) (hg' : m.sent < m.given) (hw' : ¬ m.sent - m.acked < 127) :
    Calls Try.prog 12 #[.pointer (some ⟨b, 0, none⟩)] w fun e w' =>
      (∃ s, e = .returned (unV m.next.1 s m.next.1.load.length) ∧ LoadAt w' w.heap.size s m.next.1.load) ∧ MdAt w' b m.next.2 ∧ Exc (fun k => k = b) w w' := by
  have hok := Md.next_ok h.ok
  have hsm2 := Md.next_small h.ok
  have har := h.ok.ar
  have en : m.next = (⟨m.accepted, m.back, num m.sent, m.fore, 0, 0, []⟩, m) := by
    rcases Md.next_cases h.ok with ⟨c, e⟩ | ⟨c, c2, c3, e⟩ | ⟨c, c2, e⟩
    · first | exact e | omega
    · first | exact e | omega
    · first | exact e | omega
  rw [en] at hok hsm2 ⊢
  have hb := h.own.lt
  have hsm := h.small
  have h1 := h.ok.rs
  have h2 := h.ok.sg
  obtain ⟨W1, hW1⟩ : ∃ W, W = ((w.alloc (.cells #[.int .u8 0, .bool false, .int .u8 0, .bool false, .int .u8 0, .int .u8 0, .slice none 0 0] 41)).alloc (.cells #[.int .u8 (m.accepted : Int), .bool m.back, .int .u8 0, .bool m.fore, .int .u8 0, .int .u8 0, .slice none 0 0] 41)).drew := ⟨_, rfl⟩
  have hb1 : Below w.heap.size w W1 := by rw [hW1]; exact below_drewN (n := 1) (((Below.refl _ _).alloc (Nat.le_refl _) _).alloc (by simp) _)
  have hz1 : W1.heap.size = w.heap.size + 2 := by rw [hW1]; show ((w.alloc _).alloc _).heap.size = _; simp
  have oz : Own W1 w.heap.size 41 zeroUnit := by
    rw [hW1]
    exact (own_lit w _ _ zeroUnit rfl).below (below_drewN (n := 1) (below_alloc _ _)) (by simp)
  have ou : Own W1 (w.heap.size + 1) 41 [.int .u8 (m.accepted : Int), .bool m.back, .int .u8 0, .bool m.fore, .int .u8 0, .int .u8 0, .slice none 0 0] := by
    have hh := own_lit (w.alloc (.cells #[.int .u8 0, .bool false, .int .u8 0, .bool false, .int .u8 0, .int .u8 0, .slice none 0 0] 41)) 41 #[.int .u8 (m.accepted : Int), .bool m.back, .int .u8 0, .bool m.fore, .int .u8 0, .int .u8 0, .slice none 0 0] _ rfl
    rw [World.size_alloc] at hh
    rw [hW1]; exact hh
  have om := h.own.below hb1 hb
  obtain ⟨⟨c0, c1, c2, c3, c4, c5, c6, c7, c8, c9⟩, hf⟩ := h.cells
  have HM := Lib.hid om
  have HZ := Lib.hid oz
  have HU := Lib.hid ou
  have HW := Lib.hid hW1
  have HB := Lib.hid hb1
  have HOk := Lib.hid hok
  have HS := Lib.hid hsm2
  clear h om oz ou hW1 hb1 hok hsm2 en hf
  obtain ⟨g, s, a, r, fo, ac, ba, x0, x1, fl⟩ := m
  simp only at c0 c1 c2 c3 c4 c5 c6 c7 c8 c9 hsm h1 h2 har HM HU HW HOk HS ⊢
  simp only at hc hg'
  obtain rfl : s = r := hc.symm
  have e1 : ((s : Int) == (s : Int)) = true := by simp
  simp only at hw'
  have e2 : (s : Int) < (g : Int) := by omega
  have e3 : ¬ (s : Int) - (a : Int) < 127 := by omega
  have e4 : IntKind.i64.wrap ((s : Int) - (a : Int)) = (s : Int) - (a : Int) := IntWalk.i64_in _ (by omega)
  clear hc
  have hs : (s : Int) ≤ 100000 := by omega
  have hg : (g : Int) ≤ 100000 := by omega
  have hne : b ≠ w.heap.size := by omega
  have hne1 : b ≠ w.heap.size + 1 := by omega
  go_enter Try.func12, Try.ntmps12
  go_wp2
  go_region
  rw [← HW.out]
  clear c0 c1 c2 c3 c4 c5 c6 c7 c8 c9
  obtain ⟨c0, c1, c2, c3⟩ := md_four HM.out
  go_wp2_with fail
  go_quiet (fail)
  go_wp2_with fail
  clear c0 c1 c2 c3
  generalize hW2 : W1.drewN nq = W2
  have hb2 : Below W1.heap.size W1 W2 := by rw [← hW2]; exact below_draw _ _
  obtain ⟨_, c1, _, c3⟩ := md_four (HM.out.below hb2 (by omega))
  have HB2 := Lib.hid hb2
  clear hW2 hb2
  go_quiet (fail)
  generalize hW3 : W2.drewN nq = W3
  have hb3 : Below W1.heap.size W1 W3 := by rw [← hW3]; exact HB2.out.trans ((below_draw _ _).mono HB2.out.size)
  have om3 := HM.out.below hb3 (by omega)
  have ou3 := HU.out.below hb3 (by omega)
  have oz3 := HZ.out.below hb3 (by omega)
  have hx3 : Exc (fun k => k = b) w W3 := Exc.of_below (HB.out.trans (hb3.mono (by omega)))
  have z3 : w.heap.size + 2 ≤ W3.heap.size := by have := hb3.size; omega
  clear hW3 hb3 c1 c3
  obtain ⟨_, d1, _, _⟩ := md_four om3
  have HM3 := Lib.hid om3
  have HU3 := Lib.hid ou3
  have HZ3 := Lib.hid oz3
  have HX3 := Lib.hid hx3
  clear om3 ou3 oz3 hx3
  go_wp2_with fail
  refine (knum_any s W3 (by omega)).mono ?_
  rintro e W6 ⟨rfl, hW6⟩
  have om6 := HM3.out
  have ou6' := HU3.out
  have oz6 := HZ3.out
  have bb6 := HX3.out
  rw [hW6] at om6 ou6' oz6 bb6
  have ou6 := ou6'
  clear hW6 d1
  obtain ⟨v0, v1, v2, v3, v4, v5, v6⟩ := unit_cells ou6'
  have vf2 := ou6'.frozen 2
  obtain ⟨y0, y1, y2, y3, y4, y5, y6⟩ := unit_cells oz6
  obtain ⟨x0', x1', x2', x3', x4', x5', x6'⟩ := unit_frozen oz6
  have HM6 := Lib.hid om6
  have HX6 := Lib.hid bb6
  have HZ6 := Lib.hid oz6
  clear om6 ou6 oz6 bb6 ou6' 
  generalize hnum : num s = nm
  have HNm := Lib.hid hnum
  clear hnum
  go_wp2
  generalize hW7 : ((((((((W6.setCell { block := w.heap.size + 1, off := 2 } (Value.int IntKind.u8 ↑nm)).setCell { block := w.heap.size, off := 0 } (Value.int IntKind.u8 ↑ac)).setCell { block := w.heap.size, off := 1 } (Value.bool ba)).setCell
    { block := w.heap.size, off := 2 } (Value.int IntKind.u8 ↑nm)).setCell { block := w.heap.size, off := 3 } (Value.bool fo)).setCell { block := w.heap.size, off := 4 } (Value.int IntKind.u8 0)).setCell { block := w.heap.size, off := 5 } (Value.int IntKind.u8 0)).setCell
    { block := w.heap.size, off := 6 } (Value.slice none 0 0)) = W7
  have n1 : ∀ j, (b : Nat) ≠ (⟨w.heap.size, j, none⟩ : Addr).block := fun j => by simp; omega
  have om7 := ((((((((HM6.out.other ⟨w.heap.size + 1, 2, none⟩ hne1 (.int .u8 (nm : Int))).other _ (n1 0) (.int .u8 (ac : Int))).other _ (n1 1) (.bool ba)).other _ (n1 2) (.int .u8 (nm : Int))).other _ (n1 3) (.bool fo)).other _ (n1 4) (.int .u8 0)).other _ (n1 5) (.int .u8 0)).other _ (n1 6) (Value.slice none 0 0))
  have oz7 := ((((((((HZ6.out.other ⟨w.heap.size + 1, 2, none⟩ (by simp) (.int .u8 (nm : Int))).set 0 (.int .u8 (ac : Int))).set 1 (.bool ba)).set 2 (.int .u8 (nm : Int))).set 3 (.bool fo)).set 4 (.int .u8 0)).set 5 (.int .u8 0)).set 6 (Value.slice none 0 0))
  have hx7 := ((((((((HX6.out.setCell ⟨w.heap.size + 1, 2, none⟩ (.inr (by simp)) (.int .u8 (nm : Int))).setCell ⟨w.heap.size, 0, none⟩ (.inr (Nat.le_refl _)) (.int .u8 (ac : Int))).setCell ⟨w.heap.size, 1, none⟩ (.inr (Nat.le_refl _)) (.bool ba)).setCell ⟨w.heap.size, 2, none⟩ (.inr (Nat.le_refl _)) (.int .u8 (nm : Int))).setCell ⟨w.heap.size, 3, none⟩ (.inr (Nat.le_refl _)) (.bool fo)).setCell ⟨w.heap.size, 4, none⟩ (.inr (Nat.le_refl _)) (.int .u8 0)).setCell ⟨w.heap.size, 5, none⟩ (.inr (Nat.le_refl _)) (.int .u8 0)).setCell ⟨w.heap.size, 6, none⟩ (.inr (Nat.le_refl _)) (Value.slice none 0 0))
  rw [hW7] at om7 oz7 hx7
  clear hW7 v0 v1 v2 v3 v4 v5 v6 vf2 y0 y1 y2 y3 y4 y5 y6 x0' x1' x2' x3' x4' x5' x6'
  have oz7' : Own W7 w.heap.size 41 [.int .u8 (ac : Int), .bool ba, .int .u8 (nm : Int), .bool fo, .int .u8 0, .int .u8 0, Value.slice none 0 0] := oz7
  obtain ⟨y0, y1, y2, y3, y4, y5, y6⟩ := unit_cells oz7'
  refine bodyPost_ret (v := unV ⟨ac, ba, nm, fo, 0, 0, []⟩ none 0) (by simp [results, Try.results12, go_sem, y0, y1, y2, y3, y4, y5, y6, unV]) rfl ⟨⟨none, by first | (rw [HNm.out]; rfl) | rw [HNm.out], ?_⟩, ⟨om7, HOk.out, by show g ≤ 100000; omega⟩, hx7⟩
  exact .inl ⟨rfl, rfl⟩
/-- What the model sends. -/
theorem mnext_any (b : Nat) (m : Md) (w : World) (h : MdAt w b m) :
    Calls Try.prog 12 #[.pointer (some ⟨b, 0, none⟩)] w fun e w' =>
      (∃ s, e = .returned (unV m.next.1 s m.next.1.load.length) ∧ LoadAt w' w.heap.size s m.next.1.load) ∧ MdAt w' b m.next.2 ∧ Exc (fun k => k = b) w w' := by
  rcases Md.next_cases h.ok with ⟨c, _⟩ | ⟨c, c2, c3, _⟩ | ⟨c, c2, _⟩
  · exact mnext_rep b m w h c
  · exact mnext_new b m w h c c2 c3
  · by_cases h2 : m.sent < m.given
    · exact mnext_fill2 b m w h c h2 (fun h3 => c2 ⟨h2, h3⟩)
    · exact mnext_fill1 b m w h c h2
end Go.Proofs.Ytoegijmfcelgnaa
