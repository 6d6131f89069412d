/- Contracts: the statements' model of an end hears a unit. -/
import Derived.Test.YtoegijmfcelgnaaBaModel
namespace Go.Proofs.Ytoegijmfcelgnaa
open Go.RowKit

theorem md_cells {w : World} {b t : Nat} {g s a r ac : Nat} {fo ba x0 x1 fl : Bool} (h : Own w b t (mdCells ⟨g, s, a, r, fo, ac, ba, x0, x1, fl⟩)) :
    w.cell? ⟨b, 0, none⟩ = some (.int .i64 (g : Int)) ∧ w.cell? ⟨b, 1, none⟩ = some (.int .i64 (s : Int)) ∧ w.cell? ⟨b, 2, none⟩ = some (.int .i64 (a : Int)) ∧ w.cell? ⟨b, 3, none⟩ = some (.int .i64 (r : Int)) ∧ w.cell? ⟨b, 4, none⟩ = some (.bool fo) ∧
      w.cell? ⟨b, 5, none⟩ = some (.int .u8 (ac : Int)) ∧ w.cell? ⟨b, 6, none⟩ = some (.bool ba) ∧ w.cell? ⟨b, 7, none⟩ = some (.bool x0) ∧ w.cell? ⟨b, 8, none⟩ = some (.bool x1) ∧ w.cell? ⟨b, 9, none⟩ = some (.bool fl) :=
  ⟨h.cell 0 (by simp [mdCells]), h.cell 1 (by simp [mdCells]), h.cell 2 (by simp [mdCells]), h.cell 3 (by simp [mdCells]), h.cell 4 (by simp [mdCells]), h.cell 5 (by simp [mdCells]), h.cell 6 (by simp [mdCells]), h.cell 7 (by simp [mdCells]), h.cell 8 (by simp [mdCells]), h.cell 9 (by simp [mdCells])⟩
theorem md_frozen {w : World} {b t : Nat} {cs : List Value} (h : Own w b t cs) :
    w.frozen? ⟨b, 2, none⟩ = false ∧ w.frozen? ⟨b, 3, none⟩ = false ∧ w.frozen? ⟨b, 4, none⟩ = false ∧ w.frozen? ⟨b, 5, none⟩ = false ∧ w.frozen? ⟨b, 6, none⟩ = false ∧ w.frozen? ⟨b, 7, none⟩ = false ∧ w.frozen? ⟨b, 8, none⟩ = false ∧ w.frozen? ⟨b, 9, none⟩ = false :=
  ⟨h.frozen 2, h.frozen 3, h.frozen 4, h.frozen 5, h.frozen 6, h.frozen 7, h.frozen 8, h.frozen 9⟩
/-- A unit's cells, as it came in. -/
def unCells (u : Un) (s : Option Addr) (n c : Nat) : List Value := [.int .u8 (u.back : Int), .bool u.bb, .int .u8 (u.fore : Int), .bool u.fb, .int .u8 (u.kind : Int), .int .u8 (u.state : Int), .slice s n c]
set_option maxHeartbeats 8000000 in
set_option maxRecDepth 100000 in
theorem mhear_any (b : Nat) (m : Md) (u : Un) (s' : Option Addr) (n c : Nat) (w : World) (h : MdAt w b m) (hfl : m.failed = false) (hk1 : u.kind ≠ 1) (hk2 : u.kind ≤ 2) (hu0 : u.back < 128) (hu2 : u.fore < 128) :
    Calls Try.prog 14 #[.pointer (some ⟨b, 0, none⟩), .agg (unCells u s' n c).toArray] w fun e w' =>
      e = .returned (.bool (m.hear u).1) ∧ MdAt w' b (m.hear u).2 ∧ Exc (fun k => k = b) w w' := by
  have hok := Md.hear_ok h.ok u hu2
  have hb := h.own.lt
  have hsm := h.small
  have h0 := h.ok.ar
  have h1 := h.ok.rs
  have h2 := h.ok.sg
  have h3 := h.ok.acc
  obtain ⟨W0, hW0⟩ : ∃ W, W = w.alloc (.cells (unCells u s' n c).toArray 41) := ⟨_, rfl⟩
  have hb0 : Below w.heap.size w W0 := by rw [hW0]; exact below_alloc _ _
  have hz0 : W0.heap.size = w.heap.size + 1 := by rw [hW0]; simp
  have ou : Own W0 w.heap.size 41 (unCells u s' n c) := by rw [hW0]; exact own_lit w _ _ _ rfl
  have om := h.own.below hb0 hb
  have hd : m.d u < 128 := Nat.mod_lt _ (by decide)
  have hdi : (((u.back : Int) + 128 - ((num m.acked : Nat) : Int))).tmod 128 = ((m.d u : Nat) : Int) := by
    have := num_lt m.acked
    rw [Int.tmod_eq_emod_of_nonneg (by omega)]
    unfold Md.d; omega
  have hnl := num_lt m.acked
  have hw : m.wrong u = decide (m.sent - m.acked < m.d u) := rfl
  have hH : m.hear u = m.hear u := rfl
  obtain ⟨g, s, a, r, fo, ac, ba, x0, x1, fl⟩ := m
  obtain ⟨ub, bb, uf, fb, uk, us, ul⟩ := u
  simp only at hsm h0 h1 h2 h3 hd hdi hnl hfl hu0 hu2 hk1 hk2 om
  subst hfl
  obtain ⟨d, hdd⟩ : ∃ d, d = Md.d ⟨g, s, a, r, fo, ac, ba, x0, x1, false⟩ ⟨ub, bb, uf, fb, uk, us, ul⟩ := ⟨_, rfl⟩
  rw [← hdd] at hd hdi hw
  obtain ⟨nm, hnm⟩ : ∃ k, k = num a := ⟨_, rfl⟩
  rw [← hnm] at hdi hnl
  have hn : ∀ q, Calls Try.prog 19 #[.int .i64 (a : Int)] (W0.drewN q) fun e w' => e = .returned (.int .u8 (nm : Int)) ∧ ∃ k, w' = (W0.drewN q).drewN k := fun q =>
    (knum_any a (W0.drewN q) (by omega)).mono fun e w' ⟨he, hw'⟩ => ⟨by rw [he, hnm], 0, hw'.symm⟩
  have e1 : ((uk : Int) == 1) = false := by simp; omega
  have e2 : IntKind.i64.wrap (ub : Int) = (ub : Int) := IntWalk.i64_in _ (by omega)
  have e3 : IntKind.i64.wrap ((ub : Int) + 128) = (ub : Int) + 128 := IntWalk.i64_in _ (by omega)
  have e4 : IntKind.i64.wrap (nm : Int) = (nm : Int) := IntWalk.i64_in _ (by omega)
  have e5 : IntKind.i64.wrap ((ub : Int) + 128 - (nm : Int)) = (ub : Int) + 128 - (nm : Int) := IntWalk.i64_in _ (by omega)
  have e6 : IntKind.i64.wrap ((s : Int) - (a : Int)) = (s : Int) - (a : Int) := IntWalk.i64_in _ (by omega)
  have HM := Lib.hid om
  have HU := Lib.hid ou
  have HW := Lib.hid hW0
  have HB := Lib.hid hb0
  have HOk := Lib.hid hok
  have HN := Lib.hid hn
  have HD := Lib.hid hdd
  have HR := Lib.hid hw
  have hne : b ≠ w.heap.size := by omega
  clear h om ou hW0 hb0 hok hn hdd hw hH hnm 
  simp only [unCells] at HW ⊢
  go_enter Try.func14, Try.ntmps14
  go_wp2_with fail
  rw [← HW.out]
  obtain ⟨c0, c1, c2, c3, c4, c5, c6, c7, c8, c9⟩ := md_cells HM.out
  obtain ⟨v0, v1, v2, v3, v4, v5, v6⟩ := unit_cells HU.out
  simp only at v0 v1 v2 v3 v4 v5
  go_quiet ((go_at_call 19; exact Calls.quiet_of (HN.out _)))
  generalize hW1 : W0.drewN nq = W1
  have hb1 : Below W0.heap.size W0 W1 := by rw [← hW1]; exact below_draw _ _
  have om1 := HM.out.below hb1 (by omega)
  have ou1 := HU.out.below hb1 (by omega)
  have hx1 : Below w.heap.size w W1 := HB.out.trans (hb1.mono HB.out.size)
  have z1 : w.heap.size + 1 ≤ W1.heap.size := by have := hb1.size; omega
  clear c0 c1 c2 c3 c4 c5 c6 c7 c8 c9 v0 v1 v2 v3 v4 v5 v6 hW1 hb1 e2 e3 e4 e5 hdi
  obtain ⟨_, c1, c2, _, _, _, _, _, _, _⟩ := md_cells om1
  have HM1 := Lib.hid om1
  have HU1 := Lib.hid ou1
  have HX1 := Lib.hid hx1
  clear om1 ou1 hx1
  by_cases hwd : s - a < d
  · have hwi : (s : Int) - (a : Int) < (d : Int) := by omega
    have HWd := Lib.hid hwd
    clear hwd
    go_wp2_with fail
    go_quiet (fail)
    generalize hW2 : W1.drewN nq = W2
    have hb2 : Below W1.heap.size W1 W2 := by rw [← hW2]; exact below_draw _ _
    have om2 := HM1.out.below hb2 (by omega)
    have ou2 := HU1.out.below hb2 (by omega)
    have hx2 : Exc (fun k => k = b) w W2 := Exc.of_below (HX1.out.trans (hb2.mono (by omega)))
    have z2 : w.heap.size + 1 ≤ W2.heap.size := by have := hb2.size; omega
    clear c1 c2 hW2 hb2 hwi e6
    obtain ⟨_, _, _, _, _, _, _, c7, c8, c9⟩ := md_cells om2
    have f9 := om2.frozen 9
    have HM2 := Lib.hid om2
    have HU2 := Lib.hid ou2
    have HX2 := Lib.hid hx2
    clear om2 ou2 hx2
    rcases (by cases x0 <;> cases x1 <;> simp : (x0 = false ∧ x1 = false) ∨ (x0 = false ∧ x1 = true) ∨ (x0 = true ∧ x1 = false) ∨ (x0 = true ∧ x1 = true)) with ⟨rfl, rfl⟩ | ⟨rfl, rfl⟩ | ⟨rfl, rfl⟩ | ⟨rfl, rfl⟩
    · go_wp2_with fail
      generalize hW3 : W2.setCell ⟨b, 9, none⟩ (.bool false) = W3
      have om3 := HM2.out.set 9 (.bool false)
      have hx3 := HX2.out.setCell ⟨b, 9, none⟩ (.inl rfl) (.bool false)
      have z3 : w.heap.size + 1 ≤ W3.heap.size := by rw [← hW3]; simpa using z2
      have ou3 := HU2.out.other ⟨b, 9, none⟩ (by simp; omega) (.bool false)
      rw [hW3] at om3 hx3 ou3
      have om3' : Own W3 b 28 (mdCells ⟨g, s, a, r, fo, ac, ba, false, false, false⟩) := om3
      clear hW3 om3 c7 c8 c9 f9
      obtain ⟨_, _, c2, _, _, _, _, _, c8, _⟩ := md_cells om3'
      obtain ⟨f2, _, _, _, _, f7, f8, _⟩ := md_frozen om3'
      have HM3 := Lib.hid om3'
      have HX3 := Lib.hid hx3
      have HU3 := Lib.hid ou3
      clear om3' hx3 ou3
      go_region
      generalize hW4 : (W3.setCell ⟨b, 7, none⟩ (.bool false)).drew = W4
      have om4 : Own W4 b 28 (mdCells ⟨g, s, a, r, fo, ac, ba, false, false, false⟩) := by rw [← hW4]; exact HM3.out.set 7 (.bool false)
      have hx4 : Exc (fun k => k = b) w W4 := by rw [← hW4]; exact (HX3.out.setCell ⟨b, 7, none⟩ (.inl rfl) (.bool false)).drawN 1
      have ou4 : Own W4 w.heap.size 41 (unCells ⟨ub, bb, uf, fb, uk, us, ul⟩ s' n c) := by rw [← hW4]; exact HU3.out.other ⟨b, 7, none⟩ (by simp; omega) (.bool false)
      have z4 : w.heap.size + 1 ≤ W4.heap.size := by rw [← hW4]; show w.heap.size + 1 ≤ (W3.setCell _ _).heap.size; simpa using z3
      clear hW4 c2 c8 f2 f7 f8
      obtain ⟨_, _, c2, _, _, _, _, _, c8, _⟩ := md_cells om4
      obtain ⟨f2, _, _, _, _, _, f8, _⟩ := md_frozen om4
      have HM4 := Lib.hid om4
      have HX4 := Lib.hid hx4
      have HU4 := Lib.hid ou4
      clear om4 hx4 ou4
      go_wp2
      go_ret
      have ew : Md.wrong ⟨g, s, a, r, fo, ac, ba, false, false, false⟩ ⟨ub, bb, uf, fb, uk, us, ul⟩ = true := by rw [HR.out]; exact decide_eq_true HWd.out
      have eh : Md.hear ⟨g, s, a, r, fo, ac, ba, false, false, false⟩ ⟨ub, bb, uf, fb, uk, us, ul⟩ = (false, ⟨g, s, a, r, fo, ac, ba, false, true, false⟩) := by unfold Md.hear; rw [ew]; rfl
      have ho := HOk.out
      rw [eh] at ho ⊢
      exact ⟨rfl, ⟨HM4.out.set 8 (.bool true), ho, by show g ≤ 100000; omega⟩, HX4.out.setCell ⟨b, 8, none⟩ (.inl rfl) (.bool true)⟩
    · go_wp2_with fail
      generalize hW3 : W2.setCell ⟨b, 9, none⟩ (.bool true) = W3
      have om3 := HM2.out.set 9 (.bool true)
      have hx3 := HX2.out.setCell ⟨b, 9, none⟩ (.inl rfl) (.bool true)
      have z3 : w.heap.size + 1 ≤ W3.heap.size := by rw [← hW3]; simpa using z2
      have ou3 := HU2.out.other ⟨b, 9, none⟩ (by simp; omega) (.bool true)
      rw [hW3] at om3 hx3 ou3
      have om3' : Own W3 b 28 (mdCells ⟨g, s, a, r, fo, ac, ba, false, true, true⟩) := om3
      clear hW3 om3 c7 c8 c9 f9
      obtain ⟨_, _, c2, _, _, _, _, _, c8, _⟩ := md_cells om3'
      obtain ⟨f2, _, _, _, _, f7, f8, _⟩ := md_frozen om3'
      have HM3 := Lib.hid om3'
      have HX3 := Lib.hid hx3
      have HU3 := Lib.hid ou3
      clear om3' hx3 ou3
      go_region
      generalize hW4 : (W3.setCell ⟨b, 7, none⟩ (.bool true)).drew = W4
      have om4 : Own W4 b 28 (mdCells ⟨g, s, a, r, fo, ac, ba, true, true, true⟩) := by rw [← hW4]; exact HM3.out.set 7 (.bool true)
      have hx4 : Exc (fun k => k = b) w W4 := by rw [← hW4]; exact (HX3.out.setCell ⟨b, 7, none⟩ (.inl rfl) (.bool true)).drawN 1
      have ou4 : Own W4 w.heap.size 41 (unCells ⟨ub, bb, uf, fb, uk, us, ul⟩ s' n c) := by rw [← hW4]; exact HU3.out.other ⟨b, 7, none⟩ (by simp; omega) (.bool true)
      have z4 : w.heap.size + 1 ≤ W4.heap.size := by rw [← hW4]; show w.heap.size + 1 ≤ (W3.setCell _ _).heap.size; simpa using z3
      clear hW4 c2 c8 f2 f7 f8
      obtain ⟨_, _, c2, _, _, _, _, _, c8, _⟩ := md_cells om4
      obtain ⟨f2, _, _, _, _, _, f8, _⟩ := md_frozen om4
      have HM4 := Lib.hid om4
      have HX4 := Lib.hid hx4
      have HU4 := Lib.hid ou4
      clear om4 hx4 ou4
      go_wp2
      go_ret
      have ew : Md.wrong ⟨g, s, a, r, fo, ac, ba, false, true, false⟩ ⟨ub, bb, uf, fb, uk, us, ul⟩ = true := by rw [HR.out]; exact decide_eq_true HWd.out
      have eh : Md.hear ⟨g, s, a, r, fo, ac, ba, false, true, false⟩ ⟨ub, bb, uf, fb, uk, us, ul⟩ = (false, ⟨g, s, a, r, fo, ac, ba, true, true, true⟩) := by unfold Md.hear; rw [ew]; rfl
      have ho := HOk.out
      rw [eh] at ho ⊢
      exact ⟨rfl, ⟨HM4.out.set 8 (.bool true), ho, by show g ≤ 100000; omega⟩, HX4.out.setCell ⟨b, 8, none⟩ (.inl rfl) (.bool true)⟩
    · go_wp2_with fail
      generalize hW3 : W2.setCell ⟨b, 9, none⟩ (.bool true) = W3
      have om3 := HM2.out.set 9 (.bool true)
      have hx3 := HX2.out.setCell ⟨b, 9, none⟩ (.inl rfl) (.bool true)
      have z3 : w.heap.size + 1 ≤ W3.heap.size := by rw [← hW3]; simpa using z2
      have ou3 := HU2.out.other ⟨b, 9, none⟩ (by simp; omega) (.bool true)
      rw [hW3] at om3 hx3 ou3
      have om3' : Own W3 b 28 (mdCells ⟨g, s, a, r, fo, ac, ba, true, false, true⟩) := om3
      clear hW3 om3 c7 c8 c9 f9
      obtain ⟨_, _, c2, _, _, _, _, _, c8, _⟩ := md_cells om3'
      obtain ⟨f2, _, _, _, _, f7, f8, _⟩ := md_frozen om3'
      have HM3 := Lib.hid om3'
      have HX3 := Lib.hid hx3
      have HU3 := Lib.hid ou3
      clear om3' hx3 ou3
      go_region
      generalize hW4 : (W3.setCell ⟨b, 7, none⟩ (.bool false)).drew = W4
      have om4 : Own W4 b 28 (mdCells ⟨g, s, a, r, fo, ac, ba, false, false, true⟩) := by rw [← hW4]; exact HM3.out.set 7 (.bool false)
      have hx4 : Exc (fun k => k = b) w W4 := by rw [← hW4]; exact (HX3.out.setCell ⟨b, 7, none⟩ (.inl rfl) (.bool false)).drawN 1
      have ou4 : Own W4 w.heap.size 41 (unCells ⟨ub, bb, uf, fb, uk, us, ul⟩ s' n c) := by rw [← hW4]; exact HU3.out.other ⟨b, 7, none⟩ (by simp; omega) (.bool false)
      have z4 : w.heap.size + 1 ≤ W4.heap.size := by rw [← hW4]; show w.heap.size + 1 ≤ (W3.setCell _ _).heap.size; simpa using z3
      clear hW4 c2 c8 f2 f7 f8
      obtain ⟨_, _, c2, _, _, _, _, _, c8, _⟩ := md_cells om4
      obtain ⟨f2, _, _, _, _, _, f8, _⟩ := md_frozen om4
      have HM4 := Lib.hid om4
      have HX4 := Lib.hid hx4
      have HU4 := Lib.hid ou4
      clear om4 hx4 ou4
      go_wp2
      go_ret
      have ew : Md.wrong ⟨g, s, a, r, fo, ac, ba, true, false, false⟩ ⟨ub, bb, uf, fb, uk, us, ul⟩ = true := by rw [HR.out]; exact decide_eq_true HWd.out
      have eh : Md.hear ⟨g, s, a, r, fo, ac, ba, true, false, false⟩ ⟨ub, bb, uf, fb, uk, us, ul⟩ = (false, ⟨g, s, a, r, fo, ac, ba, false, true, true⟩) := by unfold Md.hear; rw [ew]; rfl
      have ho := HOk.out
      rw [eh] at ho ⊢
      exact ⟨rfl, ⟨HM4.out.set 8 (.bool true), ho, by show g ≤ 100000; omega⟩, HX4.out.setCell ⟨b, 8, none⟩ (.inl rfl) (.bool true)⟩
    · go_wp2_with fail
      generalize hW3 : W2.setCell ⟨b, 9, none⟩ (.bool true) = W3
      have om3 := HM2.out.set 9 (.bool true)
      have hx3 := HX2.out.setCell ⟨b, 9, none⟩ (.inl rfl) (.bool true)
      have z3 : w.heap.size + 1 ≤ W3.heap.size := by rw [← hW3]; simpa using z2
      have ou3 := HU2.out.other ⟨b, 9, none⟩ (by simp; omega) (.bool true)
      rw [hW3] at om3 hx3 ou3
      have om3' : Own W3 b 28 (mdCells ⟨g, s, a, r, fo, ac, ba, true, true, true⟩) := om3
      clear hW3 om3 c7 c8 c9 f9
      obtain ⟨_, _, c2, _, _, _, _, _, c8, _⟩ := md_cells om3'
      obtain ⟨f2, _, _, _, _, f7, f8, _⟩ := md_frozen om3'
      have HM3 := Lib.hid om3'
      have HX3 := Lib.hid hx3
      have HU3 := Lib.hid ou3
      clear om3' hx3 ou3
      go_region
      generalize hW4 : (W3.setCell ⟨b, 7, none⟩ (.bool true)).drew = W4
      have om4 : Own W4 b 28 (mdCells ⟨g, s, a, r, fo, ac, ba, true, true, true⟩) := by rw [← hW4]; exact HM3.out.set 7 (.bool true)
      have hx4 : Exc (fun k => k = b) w W4 := by rw [← hW4]; exact (HX3.out.setCell ⟨b, 7, none⟩ (.inl rfl) (.bool true)).drawN 1
      have ou4 : Own W4 w.heap.size 41 (unCells ⟨ub, bb, uf, fb, uk, us, ul⟩ s' n c) := by rw [← hW4]; exact HU3.out.other ⟨b, 7, none⟩ (by simp; omega) (.bool true)
      have z4 : w.heap.size + 1 ≤ W4.heap.size := by rw [← hW4]; show w.heap.size + 1 ≤ (W3.setCell _ _).heap.size; simpa using z3
      clear hW4 c2 c8 f2 f7 f8
      obtain ⟨_, _, c2, _, _, _, _, _, c8, _⟩ := md_cells om4
      obtain ⟨f2, _, _, _, _, _, f8, _⟩ := md_frozen om4
      have HM4 := Lib.hid om4
      have HX4 := Lib.hid hx4
      have HU4 := Lib.hid ou4
      clear om4 hx4 ou4
      go_wp2
      go_ret
      have ew : Md.wrong ⟨g, s, a, r, fo, ac, ba, true, true, false⟩ ⟨ub, bb, uf, fb, uk, us, ul⟩ = true := by rw [HR.out]; exact decide_eq_true HWd.out
      have eh : Md.hear ⟨g, s, a, r, fo, ac, ba, true, true, false⟩ ⟨ub, bb, uf, fb, uk, us, ul⟩ = (false, ⟨g, s, a, r, fo, ac, ba, true, true, true⟩) := by unfold Md.hear; rw [ew]; rfl
      have ho := HOk.out
      rw [eh] at ho ⊢
      exact ⟨rfl, ⟨HM4.out.set 8 (.bool true), ho, by show g ≤ 100000; omega⟩, HX4.out.setCell ⟨b, 8, none⟩ (.inl rfl) (.bool true)⟩
  · have hwi : ¬ (s : Int) - (a : Int) < (d : Int) := by omega
    have hwi2 : decide ((s : Int) - (a : Int) < (d : Int)) = false := decide_eq_false hwi
    have HWd := Lib.hid hwd
    clear hwd
    go_wp2_with fail
    go_quiet (fail)
    generalize hW2 : W1.drewN nq = W2
    have hb2 : Below W1.heap.size W1 W2 := by rw [← hW2]; exact below_draw _ _
    have om2 := HM1.out.below hb2 (by omega)
    have ou2 := HU1.out.below hb2 (by omega)
    have hx2 : Exc (fun k => k = b) w W2 := Exc.of_below (HX1.out.trans (hb2.mono (by omega)))
    have z2 : w.heap.size + 1 ≤ W2.heap.size := by have := hb2.size; omega
    clear c1 c2 hW2 hb2 hwi hwi2 e6
    obtain ⟨_, _, _, _, _, _, _, c7, c8, c9⟩ := md_cells om2
    have f9 := om2.frozen 9
    have HM2 := Lib.hid om2
    have HU2 := Lib.hid ou2
    have HX2 := Lib.hid hx2
    clear om2 ou2 hx2
    go_wp2_with fail
    generalize hW3 : W2.setCell ⟨b, 9, none⟩ (.bool false) = W3
    have om3 := HM2.out.set 9 (.bool false)
    have hx3 := HX2.out.setCell ⟨b, 9, none⟩ (.inl rfl) (.bool false)
    have z3 : w.heap.size + 1 ≤ W3.heap.size := by rw [← hW3]; simpa using z2
    have ou3 := HU2.out.other ⟨b, 9, none⟩ (by simp; omega) (.bool false)
    rw [hW3] at om3 hx3 ou3
    have om3' : Own W3 b 28 (mdCells ⟨g, s, a, r, fo, ac, ba, x0, x1, false⟩) := om3
    clear hW3 om3 c7 c8 c9 f9
    obtain ⟨_, _, c2, _, _, _, _, _, c8, _⟩ := md_cells om3'
    obtain ⟨f2, _, _, _, _, f7, f8, _⟩ := md_frozen om3'
    have HM3 := Lib.hid om3'
    have HX3 := Lib.hid hx3
    have HU3 := Lib.hid ou3
    clear om3' hx3 ou3
    go_region
    generalize hW4 : (W3.setCell ⟨b, 7, none⟩ (.bool x1)).drew = W4
    have om4 : Own W4 b 28 (mdCells ⟨g, s, a, r, fo, ac, ba, x1, x1, false⟩) := by rw [← hW4]; exact HM3.out.set 7 (.bool x1)
    have hx4 : Exc (fun k => k = b) w W4 := by rw [← hW4]; exact (HX3.out.setCell ⟨b, 7, none⟩ (.inl rfl) (.bool x1)).drawN 1
    have ou4 : Own W4 w.heap.size 41 (unCells ⟨ub, bb, uf, fb, uk, us, ul⟩ s' n c) := by rw [← hW4]; exact HU3.out.other ⟨b, 7, none⟩ (by simp; omega) (.bool x1)
    have z4 : w.heap.size + 1 ≤ W4.heap.size := by rw [← hW4]; show w.heap.size + 1 ≤ (W3.setCell _ _).heap.size; simpa using z3
    clear hW4 c2 c8 f2 f7 f8
    obtain ⟨_, _, c2, _, _, _, _, _, c8, _⟩ := md_cells om4
    obtain ⟨f2, _, _, _, _, _, f8, _⟩ := md_frozen om4
    have HM4 := Lib.hid om4
    have HX4 := Lib.hid hx4
    have HU4 := Lib.hid ou4
    clear om4 hx4 ou4
    obtain ⟨A, hA⟩ : ∃ A, A = a + d := ⟨_, rfl⟩
    have hAi : (a : Int) + (d : Int) = (A : Int) := by omega
    have HA := Lib.hid hA
    clear hA
    go_wp2_with fail
    generalize hW5 : (W4.setCell ⟨b, 8, none⟩ (.bool false)).setCell ⟨b, 2, none⟩ (.int .i64 (A : Int)) = W5
    have om5 := (HM4.out.set 8 (.bool false)).set 2 (.int .i64 (A : Int))
    have hx5 := (HX4.out.setCell ⟨b, 8, none⟩ (.inl rfl) (.bool false)).setCell ⟨b, 2, none⟩ (.inl rfl) (.int .i64 (A : Int))
    have ou5 := (HU4.out.other ⟨b, 8, none⟩ (by simp; omega) (.bool false)).other ⟨b, 2, none⟩ (by simp; omega) (.int .i64 (A : Int))
    have z5 : w.heap.size + 1 ≤ W5.heap.size := by rw [← hW5]; simpa using z4
    rw [hW5] at om5 hx5 ou5
    have om5' : Own W5 b 28 (mdCells ⟨g, s, A, r, fo, ac, ba, x1, false, false⟩) := om5
    clear hW5 om5 c2 c8 f2 f8 hAi
    obtain ⟨_, _, c2, c3, _, _, _, _, _, _⟩ := md_cells om5'
    obtain ⟨_, f3, _, _, _, _, _, _⟩ := md_frozen om5'
    have HM5 := Lib.hid om5'
    have HU5 := Lib.hid ou5
    have HX5 := Lib.hid hx5
    clear om5' ou5 hx5
    go_region
    obtain ⟨R, hR⟩ : ∃ R, R = max r A := ⟨_, rfl⟩
    have hRi : (if r < A then (A : Int) else (r : Int)) = (R : Int) := by rw [hR]; split <;> omega
    rw [hRi]
    generalize hW6 : (W5.setCell ⟨b, 3, none⟩ (.int .i64 (R : Int))).drew = W6
    have om6 : Own W6 b 28 (mdCells ⟨g, s, A, R, fo, ac, ba, x1, false, false⟩) := by rw [← hW6]; exact HM5.out.set 3 (.int .i64 (R : Int))
    have ou6 : Own W6 w.heap.size 41 (unCells ⟨ub, bb, uf, fb, uk, us, ul⟩ s' n c) := by rw [← hW6]; exact HU5.out.other ⟨b, 3, none⟩ (by simp; omega) (.int .i64 (R : Int))
    have hx6 : Exc (fun k => k = b) w W6 := by rw [← hW6]; exact (HX5.out.setCell ⟨b, 3, none⟩ (.inl rfl) (.int .i64 (R : Int))).drawN 1
    have HRm := Lib.hid hR
    clear hW6 c2 c3 f3 hRi hR
    have ew : Md.wrong ⟨g, s, a, r, fo, ac, ba, x0, x1, false⟩ ⟨ub, bb, uf, fb, uk, us, ul⟩ = false := by rw [HR.out]; exact decide_eq_false HWd.out
    have HEw := Lib.hid ew
    obtain ⟨N1, hN1⟩ : ∃ N1, N1 = (ac + 1) % 128 := ⟨_, rfl⟩
    have e9 : IntKind.i64.wrap (ac : Int) = (ac : Int) := IntWalk.i64_in _ (by omega)
    have e10 : IntKind.i64.wrap ((ac : Int) + 1) = (ac : Int) + 1 := IntWalk.i64_in _ (by omega)
    have e11 : ((ac : Int) + 1).tmod 128 = (N1 : Int) := by rw [Int.tmod_eq_emod_of_nonneg (by omega), hN1]; omega
    have e12 : IntKind.i64.wrap (uf : Int) = (uf : Int) := IntWalk.i64_in _ (by omega)
    have HN1 := Lib.hid hN1
    have HE9 := Lib.hid (And.intro e9 (And.intro e10 (And.intro e11 e12)))
    have HM6 := Lib.hid om6
    have HU6 := Lib.hid ou6
    have HX6 := Lib.hid hx6
    clear om6 ou6 hx6 ew e9 e10 e11 e12 hN1
    by_cases hB : bb = fo
    · subst hB
      obtain ⟨_, _, c2, _, c4, c5, c6, _, _, _⟩ := md_cells HM6.out
      obtain ⟨_, f3, f4, f5, f6, _, _, _⟩ := md_frozen HM6.out
      obtain ⟨v0, v1, v2, v3, v4, v5, v6⟩ := unit_cells HU6.out
      simp only at v0 v1 v2 v3 v4 v5
      have hack : Md.ack ⟨g, s, a, r, bb, ac, ba, x0, x1, false⟩ ⟨ub, bb, uf, fb, uk, us, ul⟩ = ⟨g, s, A, R, bb, ac, ba, x1, false, false⟩ := by unfold Md.ack; simp only [if_true]; rw [← HD.out, ← HA.out, ← HRm.out]
      have HAck := Lib.hid hack
      clear hack
      go_wp2_with fail
      go_quiet (fail)
      generalize hW7 : W6.drewN nq = W7
      have om7 : Own W7 b 28 (mdCells ⟨g, s, A, R, bb, ac, ba, x1, false, false⟩) := by rw [← hW7]; exact HM6.out
      have ou7 : Own W7 w.heap.size 41 (unCells ⟨ub, bb, uf, fb, uk, us, ul⟩ s' n c) := by rw [← hW7]; exact HU6.out
      have hx7 : Exc (fun k => k = b) w W7 := by rw [← hW7]; exact HX6.out.drawN _
      have HM7 := Lib.hid om7
      have HU7 := Lib.hid ou7
      have HX7 := Lib.hid hx7
      clear c2 c4 c5 c6 f3 f4 f5 f6 v0 v1 v2 v3 v4 v5 v6 hW7 om7 ou7 hx7
      obtain ⟨_, _, c2, _, c4, c5, c6, _, _, _⟩ := md_cells HM7.out
      obtain ⟨_, f3, f4, f5, f6, _, _, _⟩ := md_frozen HM7.out
      obtain ⟨v0, v1, v2, v3, v4, v5, v6⟩ := unit_cells HU7.out
      simp only at v0 v1 v2 v3 v4 v5
      go_wp2_with fail
      by_cases hF : fb = ba
      · subst hF
        go_quiet (fail)
        generalize hW8 : W7.drewN nq = W8
        have om8 : Own W8 b 28 (mdCells ⟨g, s, A, R, bb, ac, fb, x1, false, false⟩) := by rw [← hW8]; exact HM7.out
        have ou8 : Own W8 w.heap.size 41 (unCells ⟨ub, bb, uf, fb, uk, us, ul⟩ s' n c) := by rw [← hW8]; exact HU7.out
        have hx8 : Exc (fun k => k = b) w W8 := by rw [← hW8]; exact HX7.out.drawN _
        have HM8 := Lib.hid om8
        have HU8 := Lib.hid ou8
        have HX8 := Lib.hid hx8
        clear c2 c4 c5 c6 f3 f4 f5 f6 v0 v1 v2 v3 v4 v5 v6 hW8 om8 ou8 hx8
        obtain ⟨_, _, c2, _, c4, c5, c6, _, _, _⟩ := md_cells HM8.out
        obtain ⟨_, f3, f4, f5, f6, _, _, _⟩ := md_frozen HM8.out
        obtain ⟨v0, v1, v2, v3, v4, v5, v6⟩ := unit_cells HU8.out
        simp only at v0 v1 v2 v3 v4 v5
        go_wp2_with fail
        obtain ⟨e9, e10, e11, e12⟩ := HE9.out
        by_cases hk : uk = 2
        · have e7 : ((uk : Int) == 2) = true := by simp; omega
          by_cases hf : uf = N1
          · have e8 : (uf == N1) = true := by simp [hf]
            have e8b : ((uf : Int) == (N1 : Int)) = true := by simp [hf]
            have Hf := Lib.hid hf
            have Hk := Lib.hid hk
            clear hf hk
            go_quiet (fail)
            generalize hW9 : W8.drewN nq = W9
            have om9 : Own W9 b 28 (mdCells ⟨g, s, A, R, bb, ac, fb, x1, false, false⟩) := by rw [← hW9]; exact HM8.out
            have ou9 : Own W9 w.heap.size 41 (unCells ⟨ub, bb, uf, fb, uk, us, ul⟩ s' n c) := by rw [← hW9]; exact HU8.out
            have hx9 : Exc (fun k => k = b) w W9 := by rw [← hW9]; exact HX8.out.drawN _
            have HM9 := Lib.hid om9
            have HU9 := Lib.hid ou9
            have HX9 := Lib.hid hx9
            clear c2 c4 c5 c6 f3 f4 f5 f6 v0 v1 v2 v3 v4 v5 v6 hW9 om9 ou9 hx9
            obtain ⟨_, _, c2, _, c4, c5, c6, _, _, _⟩ := md_cells HM9.out
            obtain ⟨_, f3, f4, f5, f6, _, _, _⟩ := md_frozen HM9.out
            obtain ⟨v0, v1, v2, v3, v4, v5, v6⟩ := unit_cells HU9.out
            simp only at v0 v1 v2 v3 v4 v5
            clear e9 e10 e11 e12 e8 e8b e7
            go_wp2
            go_ret
            have eh : Md.hear ⟨g, s, a, r, bb, ac, fb, x0, x1, false⟩ ⟨ub, bb, uf, fb, uk, us, ul⟩ = (true, ⟨g, s, A, R, bb, uf, fb, x1, false, false⟩) := by
              unfold Md.hear
              rw [HEw.out, HAck.out]
              rw [if_neg (by simp), if_pos (by simp [Md.takes, Hk.out, ← HN1.out, Hf.out])]
            have ho := HOk.out
            rw [eh] at ho ⊢
            exact ⟨rfl, ⟨HM9.out.set 5 (.int .u8 (uf : Int)), ho, by show g ≤ 100000; omega⟩, HX9.out.setCell ⟨b, 5, none⟩ (.inl rfl) (.int .u8 (uf : Int))⟩
          · have e8 : (uf == N1) = false := by simp [hf]
            have e8b : ((uf : Int) == (N1 : Int)) = false := by simp; omega
            have Hf := Lib.hid hf
            have Hk := Lib.hid hk
            clear hf hk
            go_quiet (fail)
            generalize hW9 : W8.drewN nq = W9
            have om9 : Own W9 b 28 (mdCells ⟨g, s, A, R, bb, ac, fb, x1, false, false⟩) := by rw [← hW9]; exact HM8.out
            have ou9 : Own W9 w.heap.size 41 (unCells ⟨ub, bb, uf, fb, uk, us, ul⟩ s' n c) := by rw [← hW9]; exact HU8.out
            have hx9 : Exc (fun k => k = b) w W9 := by rw [← hW9]; exact HX8.out.drawN _
            have HM9 := Lib.hid om9
            have HU9 := Lib.hid ou9
            have HX9 := Lib.hid hx9
            clear c2 c4 c5 c6 f3 f4 f5 f6 v0 v1 v2 v3 v4 v5 v6 hW9 om9 ou9 hx9
            obtain ⟨_, _, c2, _, c4, c5, c6, _, _, _⟩ := md_cells HM9.out
            obtain ⟨_, f3, f4, f5, f6, _, _, _⟩ := md_frozen HM9.out
            obtain ⟨v0, v1, v2, v3, v4, v5, v6⟩ := unit_cells HU9.out
            simp only at v0 v1 v2 v3 v4 v5
            clear e9 e10 e11 e12 e8 e8b e7
            by_cases hE : uf = ac
            · have e13 : (uf != ac) = false := by simp [hE]
              have e13b : ((uf : Int) != (ac : Int)) = false := by simp [hE]
              have HE := Lib.hid hE
              clear hE
              go_wp2_with fail
              go_quiet (fail)
              generalize hW10 : W9.drewN nq = W10
              have om10 : Own W10 b 28 (mdCells ⟨g, s, A, R, bb, ac, fb, x1, false, false⟩) := by rw [← hW10]; exact HM9.out
              have ou10 : Own W10 w.heap.size 41 (unCells ⟨ub, bb, uf, fb, uk, us, ul⟩ s' n c) := by rw [← hW10]; exact HU9.out
              have hx10 : Exc (fun k => k = b) w W10 := by rw [← hW10]; exact HX9.out.drawN _
              have HM10 := Lib.hid om10
              have HU10 := Lib.hid ou10
              have HX10 := Lib.hid hx10
              clear c2 c4 c5 c6 f3 f4 f5 f6 v0 v1 v2 v3 v4 v5 v6 hW10 om10 ou10 hx10
              obtain ⟨_, _, c2, _, c4, c5, c6, _, _, _⟩ := md_cells HM10.out
              obtain ⟨_, f3, f4, f5, f6, _, _, _⟩ := md_frozen HM10.out
              obtain ⟨v0, v1, v2, v3, v4, v5, v6⟩ := unit_cells HU10.out
              simp only at v0 v1 v2 v3 v4 v5
              clear e13 e13b
              go_wp2
              go_ret
              have eh : Md.hear ⟨g, s, a, r, bb, ac, fb, x0, x1, false⟩ ⟨ub, bb, uf, fb, uk, us, ul⟩ = (false, ⟨g, s, A, R, bb, ac, fb, x1, false, false⟩) := by
                unfold Md.hear
                rw [HEw.out, HAck.out]
                rw [if_neg (by simp), if_neg (by simp [Md.takes, ← HN1.out, Hf.out]), if_neg (by simp [HE.out])]
              have ho := HOk.out
              rw [eh] at ho ⊢
              exact ⟨rfl, ⟨HM10.out, ho, by show g ≤ 100000; omega⟩, HX10.out⟩
            · have e13 : (uf != ac) = true := by simp [hE]
              have e13b : ((uf : Int) != (ac : Int)) = true := by simp; omega
              have HE := Lib.hid hE
              clear hE
              go_wp2_with fail
              go_quiet (fail)
              generalize hW10 : W9.drewN nq = W10
              have om10 : Own W10 b 28 (mdCells ⟨g, s, A, R, bb, ac, fb, x1, false, false⟩) := by rw [← hW10]; exact HM9.out
              have ou10 : Own W10 w.heap.size 41 (unCells ⟨ub, bb, uf, fb, uk, us, ul⟩ s' n c) := by rw [← hW10]; exact HU9.out
              have hx10 : Exc (fun k => k = b) w W10 := by rw [← hW10]; exact HX9.out.drawN _
              have HM10 := Lib.hid om10
              have HU10 := Lib.hid ou10
              have HX10 := Lib.hid hx10
              clear c2 c4 c5 c6 f3 f4 f5 f6 v0 v1 v2 v3 v4 v5 v6 hW10 om10 ou10 hx10
              obtain ⟨_, _, c2, _, c4, c5, c6, _, _, _⟩ := md_cells HM10.out
              obtain ⟨_, f3, f4, f5, f6, _, _, _⟩ := md_frozen HM10.out
              obtain ⟨v0, v1, v2, v3, v4, v5, v6⟩ := unit_cells HU10.out
              simp only at v0 v1 v2 v3 v4 v5
              clear e13 e13b
              go_wp2
              go_ret
              have eh : Md.hear ⟨g, s, a, r, bb, ac, fb, x0, x1, false⟩ ⟨ub, bb, uf, fb, uk, us, ul⟩ = (false, ⟨g, s, A, R, bb, ac, !fb, x1, false, false⟩) := by
                unfold Md.hear
                rw [HEw.out, HAck.out]
                rw [if_neg (by simp), if_neg (by simp [Md.takes, ← HN1.out, Hf.out]), if_pos (by simp [HE.out])]
              have ho := HOk.out
              rw [eh] at ho ⊢
              exact ⟨rfl, ⟨HM10.out.set 6 (.bool !fb), ho, by show g ≤ 100000; omega⟩, HX10.out.setCell ⟨b, 6, none⟩ (.inl rfl) (.bool !fb)⟩
        · have e7 : ((uk : Int) == 2) = false := by simp; omega
          have Hk := Lib.hid hk
          clear hk
          go_quiet (fail)
          generalize hW9 : W8.drewN nq = W9
          have om9 : Own W9 b 28 (mdCells ⟨g, s, A, R, bb, ac, fb, x1, false, false⟩) := by rw [← hW9]; exact HM8.out
          have ou9 : Own W9 w.heap.size 41 (unCells ⟨ub, bb, uf, fb, uk, us, ul⟩ s' n c) := by rw [← hW9]; exact HU8.out
          have hx9 : Exc (fun k => k = b) w W9 := by rw [← hW9]; exact HX8.out.drawN _
          have HM9 := Lib.hid om9
          have HU9 := Lib.hid ou9
          have HX9 := Lib.hid hx9
          clear c2 c4 c5 c6 f3 f4 f5 f6 v0 v1 v2 v3 v4 v5 v6 hW9 om9 ou9 hx9
          obtain ⟨_, _, c2, _, c4, c5, c6, _, _, _⟩ := md_cells HM9.out
          obtain ⟨_, f3, f4, f5, f6, _, _, _⟩ := md_frozen HM9.out
          obtain ⟨v0, v1, v2, v3, v4, v5, v6⟩ := unit_cells HU9.out
          simp only at v0 v1 v2 v3 v4 v5
          clear e9 e10 e11 e12 e7
          by_cases hE : uf = ac
          · have e13 : (uf != ac) = false := by simp [hE]
            have e13b : ((uf : Int) != (ac : Int)) = false := by simp [hE]
            have HE := Lib.hid hE
            clear hE
            go_wp2_with fail
            go_quiet (fail)
            generalize hW10 : W9.drewN nq = W10
            have om10 : Own W10 b 28 (mdCells ⟨g, s, A, R, bb, ac, fb, x1, false, false⟩) := by rw [← hW10]; exact HM9.out
            have ou10 : Own W10 w.heap.size 41 (unCells ⟨ub, bb, uf, fb, uk, us, ul⟩ s' n c) := by rw [← hW10]; exact HU9.out
            have hx10 : Exc (fun k => k = b) w W10 := by rw [← hW10]; exact HX9.out.drawN _
            have HM10 := Lib.hid om10
            have HU10 := Lib.hid ou10
            have HX10 := Lib.hid hx10
            clear c2 c4 c5 c6 f3 f4 f5 f6 v0 v1 v2 v3 v4 v5 v6 hW10 om10 ou10 hx10
            obtain ⟨_, _, c2, _, c4, c5, c6, _, _, _⟩ := md_cells HM10.out
            obtain ⟨_, f3, f4, f5, f6, _, _, _⟩ := md_frozen HM10.out
            obtain ⟨v0, v1, v2, v3, v4, v5, v6⟩ := unit_cells HU10.out
            simp only at v0 v1 v2 v3 v4 v5
            clear e13 e13b
            go_wp2
            go_ret
            have eh : Md.hear ⟨g, s, a, r, bb, ac, fb, x0, x1, false⟩ ⟨ub, bb, uf, fb, uk, us, ul⟩ = (false, ⟨g, s, A, R, bb, ac, fb, x1, false, false⟩) := by
              unfold Md.hear
              rw [HEw.out, HAck.out]
              rw [if_neg (by simp), if_neg (by simp [Md.takes, Hk.out]), if_neg (by simp [HE.out])]
            have ho := HOk.out
            rw [eh] at ho ⊢
            exact ⟨rfl, ⟨HM10.out, ho, by show g ≤ 100000; omega⟩, HX10.out⟩
          · have e13 : (uf != ac) = true := by simp [hE]
            have e13b : ((uf : Int) != (ac : Int)) = true := by simp; omega
            have HE := Lib.hid hE
            clear hE
            go_wp2_with fail
            go_quiet (fail)
            generalize hW10 : W9.drewN nq = W10
            have om10 : Own W10 b 28 (mdCells ⟨g, s, A, R, bb, ac, fb, x1, false, false⟩) := by rw [← hW10]; exact HM9.out
            have ou10 : Own W10 w.heap.size 41 (unCells ⟨ub, bb, uf, fb, uk, us, ul⟩ s' n c) := by rw [← hW10]; exact HU9.out
            have hx10 : Exc (fun k => k = b) w W10 := by rw [← hW10]; exact HX9.out.drawN _
            have HM10 := Lib.hid om10
            have HU10 := Lib.hid ou10
            have HX10 := Lib.hid hx10
            clear c2 c4 c5 c6 f3 f4 f5 f6 v0 v1 v2 v3 v4 v5 v6 hW10 om10 ou10 hx10
            obtain ⟨_, _, c2, _, c4, c5, c6, _, _, _⟩ := md_cells HM10.out
            obtain ⟨_, f3, f4, f5, f6, _, _, _⟩ := md_frozen HM10.out
            obtain ⟨v0, v1, v2, v3, v4, v5, v6⟩ := unit_cells HU10.out
            simp only at v0 v1 v2 v3 v4 v5
            clear e13 e13b
            go_wp2
            go_ret
            have eh : Md.hear ⟨g, s, a, r, bb, ac, fb, x0, x1, false⟩ ⟨ub, bb, uf, fb, uk, us, ul⟩ = (false, ⟨g, s, A, R, bb, ac, !fb, x1, false, false⟩) := by
              unfold Md.hear
              rw [HEw.out, HAck.out]
              rw [if_neg (by simp), if_neg (by simp [Md.takes, Hk.out]), if_pos (by simp [HE.out])]
            have ho := HOk.out
            rw [eh] at ho ⊢
            exact ⟨rfl, ⟨HM10.out.set 6 (.bool !fb), ho, by show g ≤ 100000; omega⟩, HX10.out.setCell ⟨b, 6, none⟩ (.inl rfl) (.bool !fb)⟩
      · obtain rfl : ba = !fb := by cases fb <;> cases ba <;> simp_all
        clear hF
        go_quiet (fail)
        generalize hW8 : W7.drewN nq = W8
        have om8 : Own W8 b 28 (mdCells ⟨g, s, A, R, bb, ac, (!fb), x1, false, false⟩) := by rw [← hW8]; exact HM7.out
        have ou8 : Own W8 w.heap.size 41 (unCells ⟨ub, bb, uf, fb, uk, us, ul⟩ s' n c) := by rw [← hW8]; exact HU7.out
        have hx8 : Exc (fun k => k = b) w W8 := by rw [← hW8]; exact HX7.out.drawN _
        have HM8 := Lib.hid om8
        have HU8 := Lib.hid ou8
        have HX8 := Lib.hid hx8
        clear c2 c4 c5 c6 f3 f4 f5 f6 v0 v1 v2 v3 v4 v5 v6 hW8 om8 ou8 hx8
        obtain ⟨_, _, c2, _, c4, c5, c6, _, _, _⟩ := md_cells HM8.out
        obtain ⟨_, f3, f4, f5, f6, _, _, _⟩ := md_frozen HM8.out
        obtain ⟨v0, v1, v2, v3, v4, v5, v6⟩ := unit_cells HU8.out
        simp only at v0 v1 v2 v3 v4 v5
        clear c2 c4 c5 c6 f3 f4 f5 f6 v0 v1 v2 v3 v4 v5 v6
        go_wp2
        go_ret
        have eh : Md.hear ⟨g, s, a, r, bb, ac, (!fb), x0, x1, false⟩ ⟨ub, bb, uf, fb, uk, us, ul⟩ = (false, ⟨g, s, A, R, bb, ac, (!fb), x1, false, false⟩) := by
          unfold Md.hear
          rw [HEw.out, HAck.out]
          rw [if_neg (by simp), if_neg (by simp [Md.takes]), if_neg (by simp)]
        have ho := HOk.out
        rw [eh] at ho ⊢
        exact ⟨rfl, ⟨HM8.out, ho, by show g ≤ 100000; omega⟩, HX8.out⟩
    · obtain rfl : fo = !bb := by cases bb <;> cases fo <;> simp_all
      clear hB
      obtain ⟨_, _, c2, _, c4, c5, c6, _, _, _⟩ := md_cells HM6.out
      obtain ⟨_, f3, f4, f5, f6, _, _, _⟩ := md_frozen HM6.out
      obtain ⟨v0, v1, v2, v3, v4, v5, v6⟩ := unit_cells HU6.out
      simp only at v0 v1 v2 v3 v4 v5
      have hack : Md.ack ⟨g, s, a, r, (!bb), ac, ba, x0, x1, false⟩ ⟨ub, bb, uf, fb, uk, us, ul⟩ = ⟨g, s, A, A, bb, ac, ba, x1, false, false⟩ := by unfold Md.ack; rw [if_neg (by simp), ← HD.out, ← HA.out]
      have HAck := Lib.hid hack
      clear hack
      go_wp2_with fail
      go_quiet (fail)
      generalize hW7 : W6.drewN nq = W7
      have om7 : Own W7 b 28 (mdCells ⟨g, s, A, R, (!bb), ac, ba, x1, false, false⟩) := by rw [← hW7]; exact HM6.out
      have ou7 : Own W7 w.heap.size 41 (unCells ⟨ub, bb, uf, fb, uk, us, ul⟩ s' n c) := by rw [← hW7]; exact HU6.out
      have hx7 : Exc (fun k => k = b) w W7 := by rw [← hW7]; exact HX6.out.drawN _
      have HM7 := Lib.hid om7
      have HU7 := Lib.hid ou7
      have HX7 := Lib.hid hx7
      clear c2 c4 c5 c6 f3 f4 f5 f6 v0 v1 v2 v3 v4 v5 v6 hW7 om7 ou7 hx7
      obtain ⟨_, _, c2, _, c4, c5, c6, _, _, _⟩ := md_cells HM7.out
      obtain ⟨_, f3, f4, f5, f6, _, _, _⟩ := md_frozen HM7.out
      obtain ⟨v0, v1, v2, v3, v4, v5, v6⟩ := unit_cells HU7.out
      simp only at v0 v1 v2 v3 v4 v5
      go_wp2_with fail
      generalize hW8 : (W7.setCell ⟨b, 4, none⟩ (.bool bb)).setCell ⟨b, 3, none⟩ (.int .i64 (A : Int)) = W8
      have om8 := (HM7.out.set 4 (.bool bb)).set 3 (.int .i64 (A : Int))
      have hx8 := (HX7.out.setCell ⟨b, 4, none⟩ (.inl rfl) (.bool bb)).setCell ⟨b, 3, none⟩ (.inl rfl) (.int .i64 (A : Int))
      have ou8 := (HU7.out.other ⟨b, 4, none⟩ (by simp; omega) (.bool bb)).other ⟨b, 3, none⟩ (by simp; omega) (.int .i64 (A : Int))
      rw [hW8] at om8 hx8 ou8
      have om8' : Own W8 b 28 (mdCells ⟨g, s, A, A, bb, ac, ba, x1, false, false⟩) := om8
      have HM8 := Lib.hid om8'
      have HU8 := Lib.hid ou8
      have HX8 := Lib.hid hx8
      clear c2 c4 c5 c6 f3 f4 f5 f6 v0 v1 v2 v3 v4 v5 v6 hW8 om8 om8' ou8 hx8
      obtain ⟨_, _, c2, _, c4, c5, c6, _, _, _⟩ := md_cells HM8.out
      obtain ⟨_, f3, f4, f5, f6, _, _, _⟩ := md_frozen HM8.out
      obtain ⟨v0, v1, v2, v3, v4, v5, v6⟩ := unit_cells HU8.out
      simp only at v0 v1 v2 v3 v4 v5
      by_cases hF : fb = ba
      · subst hF
        go_quiet (fail)
        generalize hW9 : W8.drewN nq = W9
        have om9 : Own W9 b 28 (mdCells ⟨g, s, A, A, bb, ac, fb, x1, false, false⟩) := by rw [← hW9]; exact HM8.out
        have ou9 : Own W9 w.heap.size 41 (unCells ⟨ub, bb, uf, fb, uk, us, ul⟩ s' n c) := by rw [← hW9]; exact HU8.out
        have hx9 : Exc (fun k => k = b) w W9 := by rw [← hW9]; exact HX8.out.drawN _
        have HM9 := Lib.hid om9
        have HU9 := Lib.hid ou9
        have HX9 := Lib.hid hx9
        clear c2 c4 c5 c6 f3 f4 f5 f6 v0 v1 v2 v3 v4 v5 v6 hW9 om9 ou9 hx9
        obtain ⟨_, _, c2, _, c4, c5, c6, _, _, _⟩ := md_cells HM9.out
        obtain ⟨_, f3, f4, f5, f6, _, _, _⟩ := md_frozen HM9.out
        obtain ⟨v0, v1, v2, v3, v4, v5, v6⟩ := unit_cells HU9.out
        simp only at v0 v1 v2 v3 v4 v5
        go_wp2_with fail
        obtain ⟨e9, e10, e11, e12⟩ := HE9.out
        by_cases hk : uk = 2
        · have e7 : ((uk : Int) == 2) = true := by simp; omega
          by_cases hf : uf = N1
          · have e8 : (uf == N1) = true := by simp [hf]
            have e8b : ((uf : Int) == (N1 : Int)) = true := by simp [hf]
            have Hf := Lib.hid hf
            have Hk := Lib.hid hk
            clear hf hk
            go_quiet (fail)
            generalize hW10 : W9.drewN nq = W10
            have om10 : Own W10 b 28 (mdCells ⟨g, s, A, A, bb, ac, fb, x1, false, false⟩) := by rw [← hW10]; exact HM9.out
            have ou10 : Own W10 w.heap.size 41 (unCells ⟨ub, bb, uf, fb, uk, us, ul⟩ s' n c) := by rw [← hW10]; exact HU9.out
            have hx10 : Exc (fun k => k = b) w W10 := by rw [← hW10]; exact HX9.out.drawN _
            have HM10 := Lib.hid om10
            have HU10 := Lib.hid ou10
            have HX10 := Lib.hid hx10
            clear c2 c4 c5 c6 f3 f4 f5 f6 v0 v1 v2 v3 v4 v5 v6 hW10 om10 ou10 hx10
            obtain ⟨_, _, c2, _, c4, c5, c6, _, _, _⟩ := md_cells HM10.out
            obtain ⟨_, f3, f4, f5, f6, _, _, _⟩ := md_frozen HM10.out
            obtain ⟨v0, v1, v2, v3, v4, v5, v6⟩ := unit_cells HU10.out
            simp only at v0 v1 v2 v3 v4 v5
            clear e9 e10 e11 e12 e8 e8b e7
            go_wp2
            go_ret
            have eh : Md.hear ⟨g, s, a, r, (!bb), ac, fb, x0, x1, false⟩ ⟨ub, bb, uf, fb, uk, us, ul⟩ = (true, ⟨g, s, A, A, bb, uf, fb, x1, false, false⟩) := by
              unfold Md.hear
              rw [HEw.out, HAck.out]
              rw [if_neg (by simp), if_pos (by simp [Md.takes, Hk.out, ← HN1.out, Hf.out])]
            have ho := HOk.out
            rw [eh] at ho ⊢
            exact ⟨rfl, ⟨HM10.out.set 5 (.int .u8 (uf : Int)), ho, by show g ≤ 100000; omega⟩, HX10.out.setCell ⟨b, 5, none⟩ (.inl rfl) (.int .u8 (uf : Int))⟩
          · have e8 : (uf == N1) = false := by simp [hf]
            have e8b : ((uf : Int) == (N1 : Int)) = false := by simp; omega
            have Hf := Lib.hid hf
            have Hk := Lib.hid hk
            clear hf hk
            go_quiet (fail)
            generalize hW10 : W9.drewN nq = W10
            have om10 : Own W10 b 28 (mdCells ⟨g, s, A, A, bb, ac, fb, x1, false, false⟩) := by rw [← hW10]; exact HM9.out
            have ou10 : Own W10 w.heap.size 41 (unCells ⟨ub, bb, uf, fb, uk, us, ul⟩ s' n c) := by rw [← hW10]; exact HU9.out
            have hx10 : Exc (fun k => k = b) w W10 := by rw [← hW10]; exact HX9.out.drawN _
            have HM10 := Lib.hid om10
            have HU10 := Lib.hid ou10
            have HX10 := Lib.hid hx10
            clear c2 c4 c5 c6 f3 f4 f5 f6 v0 v1 v2 v3 v4 v5 v6 hW10 om10 ou10 hx10
            obtain ⟨_, _, c2, _, c4, c5, c6, _, _, _⟩ := md_cells HM10.out
            obtain ⟨_, f3, f4, f5, f6, _, _, _⟩ := md_frozen HM10.out
            obtain ⟨v0, v1, v2, v3, v4, v5, v6⟩ := unit_cells HU10.out
            simp only at v0 v1 v2 v3 v4 v5
            clear e9 e10 e11 e12 e8 e8b e7
            by_cases hE : uf = ac
            · have e13 : (uf != ac) = false := by simp [hE]
              have e13b : ((uf : Int) != (ac : Int)) = false := by simp [hE]
              have HE := Lib.hid hE
              clear hE
              go_wp2_with fail
              go_quiet (fail)
              generalize hW11 : W10.drewN nq = W11
              have om11 : Own W11 b 28 (mdCells ⟨g, s, A, A, bb, ac, fb, x1, false, false⟩) := by rw [← hW11]; exact HM10.out
              have ou11 : Own W11 w.heap.size 41 (unCells ⟨ub, bb, uf, fb, uk, us, ul⟩ s' n c) := by rw [← hW11]; exact HU10.out
              have hx11 : Exc (fun k => k = b) w W11 := by rw [← hW11]; exact HX10.out.drawN _
              have HM11 := Lib.hid om11
              have HU11 := Lib.hid ou11
              have HX11 := Lib.hid hx11
              clear c2 c4 c5 c6 f3 f4 f5 f6 v0 v1 v2 v3 v4 v5 v6 hW11 om11 ou11 hx11
              obtain ⟨_, _, c2, _, c4, c5, c6, _, _, _⟩ := md_cells HM11.out
              obtain ⟨_, f3, f4, f5, f6, _, _, _⟩ := md_frozen HM11.out
              obtain ⟨v0, v1, v2, v3, v4, v5, v6⟩ := unit_cells HU11.out
              simp only at v0 v1 v2 v3 v4 v5
              clear e13 e13b
              go_wp2
              go_ret
              have eh : Md.hear ⟨g, s, a, r, (!bb), ac, fb, x0, x1, false⟩ ⟨ub, bb, uf, fb, uk, us, ul⟩ = (false, ⟨g, s, A, A, bb, ac, fb, x1, false, false⟩) := by
                unfold Md.hear
                rw [HEw.out, HAck.out]
                rw [if_neg (by simp), if_neg (by simp [Md.takes, ← HN1.out, Hf.out]), if_neg (by simp [HE.out])]
              have ho := HOk.out
              rw [eh] at ho ⊢
              exact ⟨rfl, ⟨HM11.out, ho, by show g ≤ 100000; omega⟩, HX11.out⟩
            · have e13 : (uf != ac) = true := by simp [hE]
              have e13b : ((uf : Int) != (ac : Int)) = true := by simp; omega
              have HE := Lib.hid hE
              clear hE
              go_wp2_with fail
              go_quiet (fail)
              generalize hW11 : W10.drewN nq = W11
              have om11 : Own W11 b 28 (mdCells ⟨g, s, A, A, bb, ac, fb, x1, false, false⟩) := by rw [← hW11]; exact HM10.out
              have ou11 : Own W11 w.heap.size 41 (unCells ⟨ub, bb, uf, fb, uk, us, ul⟩ s' n c) := by rw [← hW11]; exact HU10.out
              have hx11 : Exc (fun k => k = b) w W11 := by rw [← hW11]; exact HX10.out.drawN _
              have HM11 := Lib.hid om11
              have HU11 := Lib.hid ou11
              have HX11 := Lib.hid hx11
              clear c2 c4 c5 c6 f3 f4 f5 f6 v0 v1 v2 v3 v4 v5 v6 hW11 om11 ou11 hx11
              obtain ⟨_, _, c2, _, c4, c5, c6, _, _, _⟩ := md_cells HM11.out
              obtain ⟨_, f3, f4, f5, f6, _, _, _⟩ := md_frozen HM11.out
              obtain ⟨v0, v1, v2, v3, v4, v5, v6⟩ := unit_cells HU11.out
              simp only at v0 v1 v2 v3 v4 v5
              clear e13 e13b
              go_wp2
              go_ret
              have eh : Md.hear ⟨g, s, a, r, (!bb), ac, fb, x0, x1, false⟩ ⟨ub, bb, uf, fb, uk, us, ul⟩ = (false, ⟨g, s, A, A, bb, ac, !fb, x1, false, false⟩) := by
                unfold Md.hear
                rw [HEw.out, HAck.out]
                rw [if_neg (by simp), if_neg (by simp [Md.takes, ← HN1.out, Hf.out]), if_pos (by simp [HE.out])]
              have ho := HOk.out
              rw [eh] at ho ⊢
              exact ⟨rfl, ⟨HM11.out.set 6 (.bool !fb), ho, by show g ≤ 100000; omega⟩, HX11.out.setCell ⟨b, 6, none⟩ (.inl rfl) (.bool !fb)⟩
        · have e7 : ((uk : Int) == 2) = false := by simp; omega
          have Hk := Lib.hid hk
          clear hk
          go_quiet (fail)
          generalize hW10 : W9.drewN nq = W10
          have om10 : Own W10 b 28 (mdCells ⟨g, s, A, A, bb, ac, fb, x1, false, false⟩) := by rw [← hW10]; exact HM9.out
          have ou10 : Own W10 w.heap.size 41 (unCells ⟨ub, bb, uf, fb, uk, us, ul⟩ s' n c) := by rw [← hW10]; exact HU9.out
          have hx10 : Exc (fun k => k = b) w W10 := by rw [← hW10]; exact HX9.out.drawN _
          have HM10 := Lib.hid om10
          have HU10 := Lib.hid ou10
          have HX10 := Lib.hid hx10
          clear c2 c4 c5 c6 f3 f4 f5 f6 v0 v1 v2 v3 v4 v5 v6 hW10 om10 ou10 hx10
          obtain ⟨_, _, c2, _, c4, c5, c6, _, _, _⟩ := md_cells HM10.out
          obtain ⟨_, f3, f4, f5, f6, _, _, _⟩ := md_frozen HM10.out
          obtain ⟨v0, v1, v2, v3, v4, v5, v6⟩ := unit_cells HU10.out
          simp only at v0 v1 v2 v3 v4 v5
          clear e9 e10 e11 e12 e7
          by_cases hE : uf = ac
          · have e13 : (uf != ac) = false := by simp [hE]
            have e13b : ((uf : Int) != (ac : Int)) = false := by simp [hE]
            have HE := Lib.hid hE
            clear hE
            go_wp2_with fail
            go_quiet (fail)
            generalize hW11 : W10.drewN nq = W11
            have om11 : Own W11 b 28 (mdCells ⟨g, s, A, A, bb, ac, fb, x1, false, false⟩) := by rw [← hW11]; exact HM10.out
            have ou11 : Own W11 w.heap.size 41 (unCells ⟨ub, bb, uf, fb, uk, us, ul⟩ s' n c) := by rw [← hW11]; exact HU10.out
            have hx11 : Exc (fun k => k = b) w W11 := by rw [← hW11]; exact HX10.out.drawN _
            have HM11 := Lib.hid om11
            have HU11 := Lib.hid ou11
            have HX11 := Lib.hid hx11
            clear c2 c4 c5 c6 f3 f4 f5 f6 v0 v1 v2 v3 v4 v5 v6 hW11 om11 ou11 hx11
            obtain ⟨_, _, c2, _, c4, c5, c6, _, _, _⟩ := md_cells HM11.out
            obtain ⟨_, f3, f4, f5, f6, _, _, _⟩ := md_frozen HM11.out
            obtain ⟨v0, v1, v2, v3, v4, v5, v6⟩ := unit_cells HU11.out
            simp only at v0 v1 v2 v3 v4 v5
            clear e13 e13b
            go_wp2
            go_ret
            have eh : Md.hear ⟨g, s, a, r, (!bb), ac, fb, x0, x1, false⟩ ⟨ub, bb, uf, fb, uk, us, ul⟩ = (false, ⟨g, s, A, A, bb, ac, fb, x1, false, false⟩) := by
              unfold Md.hear
              rw [HEw.out, HAck.out]
              rw [if_neg (by simp), if_neg (by simp [Md.takes, Hk.out]), if_neg (by simp [HE.out])]
            have ho := HOk.out
            rw [eh] at ho ⊢
            exact ⟨rfl, ⟨HM11.out, ho, by show g ≤ 100000; omega⟩, HX11.out⟩
          · have e13 : (uf != ac) = true := by simp [hE]
            have e13b : ((uf : Int) != (ac : Int)) = true := by simp; omega
            have HE := Lib.hid hE
            clear hE
            go_wp2_with fail
            go_quiet (fail)
            generalize hW11 : W10.drewN nq = W11
            have om11 : Own W11 b 28 (mdCells ⟨g, s, A, A, bb, ac, fb, x1, false, false⟩) := by rw [← hW11]; exact HM10.out
            have ou11 : Own W11 w.heap.size 41 (unCells ⟨ub, bb, uf, fb, uk, us, ul⟩ s' n c) := by rw [← hW11]; exact HU10.out
            have hx11 : Exc (fun k => k = b) w W11 := by rw [← hW11]; exact HX10.out.drawN _
            have HM11 := Lib.hid om11
            have HU11 := Lib.hid ou11
            have HX11 := Lib.hid hx11
            clear c2 c4 c5 c6 f3 f4 f5 f6 v0 v1 v2 v3 v4 v5 v6 hW11 om11 ou11 hx11
            obtain ⟨_, _, c2, _, c4, c5, c6, _, _, _⟩ := md_cells HM11.out
            obtain ⟨_, f3, f4, f5, f6, _, _, _⟩ := md_frozen HM11.out
            obtain ⟨v0, v1, v2, v3, v4, v5, v6⟩ := unit_cells HU11.out
            simp only at v0 v1 v2 v3 v4 v5
            clear e13 e13b
            go_wp2
            go_ret
            have eh : Md.hear ⟨g, s, a, r, (!bb), ac, fb, x0, x1, false⟩ ⟨ub, bb, uf, fb, uk, us, ul⟩ = (false, ⟨g, s, A, A, bb, ac, !fb, x1, false, false⟩) := by
              unfold Md.hear
              rw [HEw.out, HAck.out]
              rw [if_neg (by simp), if_neg (by simp [Md.takes, Hk.out]), if_pos (by simp [HE.out])]
            have ho := HOk.out
            rw [eh] at ho ⊢
            exact ⟨rfl, ⟨HM11.out.set 6 (.bool !fb), ho, by show g ≤ 100000; omega⟩, HX11.out.setCell ⟨b, 6, none⟩ (.inl rfl) (.bool !fb)⟩
      · obtain rfl : ba = !fb := by cases fb <;> cases ba <;> simp_all
        clear hF
        go_quiet (fail)
        generalize hW9 : W8.drewN nq = W9
        have om9 : Own W9 b 28 (mdCells ⟨g, s, A, A, bb, ac, (!fb), x1, false, false⟩) := by rw [← hW9]; exact HM8.out
        have ou9 : Own W9 w.heap.size 41 (unCells ⟨ub, bb, uf, fb, uk, us, ul⟩ s' n c) := by rw [← hW9]; exact HU8.out
        have hx9 : Exc (fun k => k = b) w W9 := by rw [← hW9]; exact HX8.out.drawN _
        have HM9 := Lib.hid om9
        have HU9 := Lib.hid ou9
        have HX9 := Lib.hid hx9
        clear c2 c4 c5 c6 f3 f4 f5 f6 v0 v1 v2 v3 v4 v5 v6 hW9 om9 ou9 hx9
        obtain ⟨_, _, c2, _, c4, c5, c6, _, _, _⟩ := md_cells HM9.out
        obtain ⟨_, f3, f4, f5, f6, _, _, _⟩ := md_frozen HM9.out
        obtain ⟨v0, v1, v2, v3, v4, v5, v6⟩ := unit_cells HU9.out
        simp only at v0 v1 v2 v3 v4 v5
        clear c2 c4 c5 c6 f3 f4 f5 f6 v0 v1 v2 v3 v4 v5 v6
        go_wp2
        go_ret
        have eh : Md.hear ⟨g, s, a, r, (!bb), ac, (!fb), x0, x1, false⟩ ⟨ub, bb, uf, fb, uk, us, ul⟩ = (false, ⟨g, s, A, A, bb, ac, (!fb), x1, false, false⟩) := by
          unfold Md.hear
          rw [HEw.out, HAck.out]
          rw [if_neg (by simp), if_neg (by simp [Md.takes]), if_neg (by simp)]
        have ho := HOk.out
        rw [eh] at ho ⊢
        exact ⟨rfl, ⟨HM9.out, ho, by show g ≤ 100000; omega⟩, HX9.out⟩
end Go.Proofs.Ytoegijmfcelgnaa
