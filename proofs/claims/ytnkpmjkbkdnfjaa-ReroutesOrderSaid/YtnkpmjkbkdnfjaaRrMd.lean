/- Layer 17: the statements' model of a gate. -/
import Derived.Test.YtnkpmjkbkdnfjaaRrNum
namespace Go.Proofs.Ytnkpmjkbkdnfjaa
open Go.RowKit

def ints (l : List Nat) : List Int := l.map (fun n : Nat => (n : Int))
theorem ints_length (l : List Nat) : (ints l).length = l.length := by simp [ints]
def mdCells (s : Pn) (a : Option Addr) (c : Nat) : List Value :=
  [.int .i64 s.hold, .slice a s.ns.length c, .bool (decide (s.ph ≠ 1)), .bool (decide (s.ph = 3)), .bool (decide (s.ph = 4)), .int .u16 s.wy.nx, .int .u16 s.wy.la, .int .u16 s.wy.lb, .int .u8 s.wy.lc, .int .i64 s.last]
/-- The model at block b stands for s; its numbers lie in block g. -/
structure MdAt (w : World) (b : Nat) (s : Pn) (g : Option Nat) (a : Option Addr) (c : Nat) : Prop where
  own : Own w b 36 (mdCells s a c)
  buf : Buf w 3 1 g a s.ns.length c (nums .i64 (ints s.ns))
  gb : g ≠ some b
theorem MdAt.exc {T : Nat → Prop} {w w' : World} {b : Nat} {s : Pn} {g : Option Nat} {a : Option Addr} {c : Nat} (h : MdAt w b s g a c) (hx : Exc T w w') (h1 : ¬ T b) (h2 : ∀ k, g = some k → ¬ T k) : MdAt w' b s g a c :=
  ⟨h.own.exc hx h1, h.buf.exc hx h2, h.gb⟩
theorem MdAt.later {w w' : World} {b : Nat} {s : Pn} {g : Option Nat} {a : Option Addr} {c : Nat} (h : MdAt w b s g a c) (hb : Below w.heap.size w w') : MdAt w' b s g a c := h.exc (T := fun _ => False) (Exc.of_below hb) (fun hh => hh) (fun _ _ hh => hh)
theorem MdAt.cells {w : World} {b : Nat} {s : Pn} {g : Option Nat} {a : Option Addr} {c : Nat} (h : MdAt w b s g a c) :
    w.cell? ⟨b, 0, none⟩ = some (.int .i64 s.hold) ∧ w.cell? ⟨b, 1, none⟩ = some (.slice a s.ns.length c) ∧ w.cell? ⟨b, 2, none⟩ = some (.bool (decide (s.ph ≠ 1))) ∧ w.cell? ⟨b, 3, none⟩ = some (.bool (decide (s.ph = 3))) ∧ w.cell? ⟨b, 4, none⟩ = some (.bool (decide (s.ph = 4))) ∧
      w.cell? ⟨b, 5, none⟩ = some (.int .u16 s.wy.nx) ∧ w.cell? ⟨b, 6, none⟩ = some (.int .u16 s.wy.la) ∧ w.cell? ⟨b, 7, none⟩ = some (.int .u16 s.wy.lb) ∧ w.cell? ⟨b, 8, none⟩ = some (.int .u8 s.wy.lc) ∧ w.cell? ⟨b, 9, none⟩ = some (.int .i64 s.last) :=
  ⟨h.own.cell 0 (by simp [mdCells]), h.own.cell 1 (by simp [mdCells]), h.own.cell 2 (by simp [mdCells]), h.own.cell 3 (by simp [mdCells]), h.own.cell 4 (by simp [mdCells]), h.own.cell 5 (by simp [mdCells]), h.own.cell 6 (by simp [mdCells]), h.own.cell 7 (by simp [mdCells]), h.own.cell 8 (by simp [mdCells]), h.own.cell 9 (by simp [mdCells])⟩
theorem Pn.due_small {s : Pn} (h0 : s.hold ≤ 255) (h1 : 0 ≤ s.hold) (h2 : s.last ≤ 1000000) : s.due = s.last + s.hold := by
  unfold Pn.due
  rw [if_neg (by omega)]
set_option maxHeartbeats 4000000 in
set_option maxRecDepth 100000 in
theorem mfree_any (b : Nat) (s : Pn) (g : Option Nat) (a : Option Addr) (c : Nat) (now nx la lb lc : Int) (w : World) (h : MdAt w b s g a c) (k0 : s.hold ≤ 255) (k1 : 0 ≤ s.hold) (k2 : s.last ≤ 1000000) (k3 : 0 ≤ s.last) :
    Calls Try.prog 25 #[.pointer (some ⟨b, 0, none⟩), .int .i64 now, .agg #[.int .u16 nx, .int .u16 la, .int .u16 lb, .int .u8 lc]] w fun e w' => e = .returned (.bool (decide (s.free now ⟨nx, la, lb, lc⟩))) ∧ Below w.heap.size w w' := by
  have hb := below_alloc w (.cells #[.int .u16 nx, .int .u16 la, .int .u16 lb, .int .u8 lc] 34)
  have ho := own_lit w 34 #[.int .u16 nx, .int .u16 la, .int .u16 lb, .int .u8 lc] _ rfl
  have hlt := h.own.lt
  have h2 := h.later hb
  obtain ⟨c0, c1, c2, c3, c4, c5, c6, c7, c8, c9⟩ := h2.cells
  have hdue := Pn.due_small k0 k1 k2
  obtain ⟨⟨xa, xb, xc, xd⟩, hwy⟩ : ∃ y, y = s.wy := ⟨_, rfl⟩
  obtain ⟨p, hp⟩ : ∃ p, p = s.ph := ⟨_, rfl⟩
  obtain ⟨L, hL⟩ : ∃ L, L = s.last := ⟨_, rfl⟩
  obtain ⟨Hd, hHd⟩ : ∃ L, L = s.hold := ⟨_, rfl⟩
  have hfree : s.free now ⟨nx, la, lb, lc⟩ ↔ p ≠ 3 ∧ (p = 1 ∨ (⟨nx, la, lb, lc⟩ : Wy) = ⟨xa, xb, xc, xd⟩ ∨ (p = 4 ∧ nx = xa) ∨ L + Hd ≤ now) := by
    unfold Pn.free
    rw [← hwy, ← hp, hdue, ← hL, ← hHd]
  rw [← hL] at c9 k2 k3
  rw [← hHd] at c0 k0 k1
  rw [← hp] at c2 c3 c4
  rw [← hwy] at c5 c6 c7 c8
  obtain ⟨R, hR⟩ : ∃ R, R = decide (s.free now ⟨nx, la, lb, lc⟩) := ⟨_, rfl⟩
  rw [← hR]
  have hs : IntKind.i64.wrap (L + Hd) = L + Hd := IntWalk.i64_in _ (by omega)
  have q0 := ho.cell 0 (by simp)
  have q1 := ho.cell 1 (by simp)
  have q2 := ho.cell 2 (by simp)
  have q3 := ho.cell 3 (by simp)
  simp only [List.getD_cons_zero, List.getD_cons_succ] at q0 q1 q2 q3 c5 c6 c7 c8
  have H := Lib.hid hb
  clear h h2 hb ho hp hL hHd hdue c1 hwy
  by_cases p3 : p = 3
  · have hf : R = false := by rw [hR]; simp [hfree, p3]
    have HF := Lib.hid hf
    subst p3
    clear hf hR hfree k0 k1 k2 k3
    go_enter Try.func25, Try.ntmps25
    go_wp2
    go_ret
    exact ⟨ret_bool HF.out.symm, H.out⟩
  have d3 : decide (p = 3) = false := by simp [p3]
  rw [d3] at c3
  by_cases p1 : p = 1
  · have hf : R = true := by rw [hR]; simp [hfree, p1]
    have HF := Lib.hid hf
    subst p1
    clear hf hR hfree k0 k1 k2 k3 d3 p3
    simp only [ne_eq, not_true_eq_false, decide_false] at c2
    go_enter Try.func25, Try.ntmps25
    go_wp2_with fail
    go_quiet (fail)
    go_wp2
    go_ret
    exact ⟨ret_bool HF.out.symm, below_drewN H.out _⟩
  have d1 : decide (p ≠ 1) = true := by simp [p1]
  rw [d1] at c2
  by_cases hy : (⟨nx, la, lb, lc⟩ : Wy) = ⟨xa, xb, xc, xd⟩
  · have hf : R = true := by rw [hR, decide_eq_true_iff, hfree]; exact ⟨p3, .inr (.inl hy)⟩
    have HF := Lib.hid hf
    have hq := fun w => eqlWy nx la lb lc xa xb xc xd w
    simp only [hy, decide_true] at hq
    clear hf hR hfree k0 k1 k2 k3 d3 p3 p1 d1 hy
    go_enter Try.func25, Try.ntmps25
    go_wp2_with fail
    go_quiet (fail)
    go_wp2
    go_ret
    exact ⟨ret_bool HF.out.symm, below_drewN H.out _⟩
  have hq := fun w => eqlWy nx la lb lc xa xb xc xd w
  have hyd : decide ((⟨nx, la, lb, lc⟩ : Wy) = ⟨xa, xb, xc, xd⟩) = false := by simp only [hy, decide_false]
  simp only [hyd] at hq
  have hy2 : ¬ (⟨nx, la, lb, lc⟩ : Wy) = ⟨xa, xb, xc, xd⟩ := hy
  clear hyd hy
  by_cases p4 : p = 4 ∧ nx = xa
  · have hf : R = true := by rw [hR, decide_eq_true_iff, hfree]; exact ⟨p3, .inr (.inr (.inl p4))⟩
    have HF := Lib.hid hf
    obtain ⟨rfl, rfl⟩ := p4
    clear hf hR hfree k0 k1 k2 k3 d3 p3 p1 d1 hy2
    simp only [decide_true] at c4
    have e1 : (nx == nx) = true := by simp
    go_enter Try.func25, Try.ntmps25
    go_wp2_with fail
    go_quiet (fail)
    go_wp2
    go_ret
    exact ⟨ret_bool HF.out.symm, below_drewN H.out _⟩
  have hf : R = decide (L + Hd ≤ now) := by
    rw [hR, decide_eq_decide, hfree]
    constructor
    · rintro ⟨_, h | h | h | h⟩
      · exact absurd h p1
      · exact absurd h hy2
      · exact absurd h p4
      · exact h
    · exact fun h => ⟨p3, .inr (.inr (.inr h))⟩
  have HF := Lib.hid hf
  obtain ⟨D, hD⟩ : ∃ D, D = L + Hd := ⟨_, rfl⟩
  rw [← hD] at HF
  have hs2 : wrap64 (L + Hd) = D := by rw [← IntWalk.i64_left]; exact hs.trans hD.symm
  rw [← hD] at hs
  clear hf hR hfree k0 k1 k2 k3 d3 p3 p1 d1 hy2 hD
  by_cases p44 : p = 4
  · have e1 : (nx == xa) = false := by simp; exact fun h => p4 ⟨p44, h⟩
    subst p44
    simp only [decide_true] at c4
    clear p4
    by_cases hd : D ≤ now
    · have hd2 : decide (D ≤ now) = true := by simp only [hd, decide_true]
      go_enter Try.func25, Try.ntmps25
      go_wp2_with fail
      go_quiet (fail)
      go_wp2
      go_ret
      exact ⟨ret_bool (HF.out.trans hd2).symm, below_drewN H.out _⟩
    · have hd2 : decide (D ≤ now) = false := by simp only [hd, decide_false]
      go_enter Try.func25, Try.ntmps25
      go_wp2_with fail
      go_quiet (fail)
      go_wp2
      go_ret
      exact ⟨ret_bool (HF.out.trans hd2).symm, below_drewN H.out _⟩
  · have d4 : decide (p = 4) = false := by simp [p44]
    rw [d4] at c4
    clear p4 p44 d4
    by_cases hd : D ≤ now
    · have hd2 : decide (D ≤ now) = true := by simp only [hd, decide_true]
      go_enter Try.func25, Try.ntmps25
      go_wp2_with fail
      go_quiet (fail)
      go_wp2
      go_ret
      exact ⟨ret_bool (HF.out.trans hd2).symm, below_drewN H.out _⟩
    · have hd2 : decide (D ≤ now) = false := by simp only [hd, decide_false]
      go_enter Try.func25, Try.ntmps25
      go_wp2_with fail
      go_quiet (fail)
      go_wp2
      go_ret
      exact ⟨ret_bool (HF.out.trans hd2).symm, below_drewN H.out _⟩
end Go.Proofs.Ytnkpmjkbkdnfjaa
