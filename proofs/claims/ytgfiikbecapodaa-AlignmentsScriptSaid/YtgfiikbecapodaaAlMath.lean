/- Alignments: the mathematics (no program in it). -/
import Derived.Test.YtgfiikbecapodaaMoMath
namespace Go.Proofs.Ytgfiikbecapodaa

structure Ti where
  seek : Nat
  hold : Nat
  normal : Nat
  emer : Nat
  few : Nat
  fewer : Nat
  most : Nat
structure Ti.Fit (t : Ti) : Prop where
  s0 : 1 ≤ t.seek
  s1 : t.seek ≤ 1048576
  h0 : 1 ≤ t.hold
  h1 : t.hold ≤ 1048576
  n0 : 1 ≤ t.normal
  n1 : t.normal ≤ 1048576
  e0 : 1 ≤ t.emer
  e1 : t.emer ≤ 1048576
  f0 : 1 ≤ t.few
  f1 : t.few ≤ 1048576
  g0 : 1 ≤ t.fewer
  g1 : t.fewer ≤ 1048576
  m0 : 1 ≤ t.most
  m1 : t.most ≤ 1048576
/-- An alignment in plain data. -/
structure Al where
  t : Ti
  ph : Nat
  left : Nat
  own : Bool
  urg : Bool
  prov : Nat
  wr : Nat
def Al.lim (x : Al) : Nat := if x.urg then x.t.fewer else x.t.few
def Al.dur (x : Al) : Nat := if x.urg then x.t.emer else x.t.normal
structure Al.Fit (x : Al) : Prop where
  t : x.t.Fit
  ph : x.ph ≤ 5
  left : x.left ≤ 1048576
  some : x.left = 0 ↔ x.ph = 0 ∨ x.ph = 4 ∨ x.ph = 5
  wr : x.wr ≤ 1048576
  lim : x.ph = 3 → x.wr < x.lim
def Al.new (t : Ti) : Al := ⟨t, 0, 0, false, false, 0, 0⟩
def Al.prove (x : Al) : Al := { x with ph := 3, left := x.dur, prov := x.prov + 1, wr := 0 }
def Al.ends (x : Al) (p : Nat) : Al := { x with ph := p, left := 0 }
def Al.hold (x : Al) : Al := { x with ph := 2, left := x.t.hold }
def Al.start (x : Al) (e : Bool) : Al := { x with ph := 1, left := x.t.seek, own := e, urg := e, prov := 0 }
def Al.mark (x : Al) (s : Nat) : Al := { x with urg := x.urg || decide (s = 2) }
def Al.begin (x : Al) (e : Bool) : Al := if x.ph = 0 ∨ x.ph = 5 then x.start e else x
def Al.tick (x : Al) : Al := if x.left = 0 then x else if x.left = 1 then x.ends (if x.ph = 3 then 4 else 5) else { x with left := x.left - 1 }
def Al.hear (x : Al) (s : Nat) : Al :=
  if x.ph = 1 then (if s ≤ 2 then (x.mark s).hold else x)
  else if x.ph = 2 then (if s = 0 then x else if s = 3 then x.ends 5 else (x.mark s).prove)
  else if x.ph = 3 then (if s = 0 then x.hold else if s = 3 then x.ends 5 else if s = 2 ∧ x.urg = false then (x.mark s).prove else x)
  else x
def Al.wrong (x : Al) : Al :=
  if x.ph = 3 then (if x.wr + 1 = x.lim then (if x.prov < x.t.most then x.prove else { x with ph := 5, left := 0, wr := x.wr + 1 }) else { x with wr := x.wr + 1 }) else x
/-- The status that is sent. -/
def Al.sends (x : Al) : Option Nat :=
  if x.ph = 1 then some 0 else if x.ph = 2 ∨ x.ph = 3 then some (if x.own then 2 else 1) else if x.ph = 5 then some 3 else none
def Al.act (x : Al) (a : Nat) : Al :=
  if a < 2 then x.begin (decide (a = 1)) else if a = 2 then x.ends 0 else if a = 3 then x.wrong else if a < 8 then x.tick else if 5 < a - 8 then x else x.hear (a - 8)
def Al.err (x : Al) (a : Nat) : Nat :=
  if a < 2 then (if x.ph = 0 ∨ x.ph = 5 then 0 else 6) else if a < 8 then 0 else if 5 < a - 8 then 1 else 0
theorem Al.lim_le {x : Al} (h : x.t.Fit) : 1 ≤ x.lim ∧ x.lim ≤ 1048576 := by
  have := h.f0; have := h.f1; have := h.g0; have := h.g1
  unfold Al.lim; split <;> omega
theorem Al.dur_le {x : Al} (h : x.t.Fit) : 1 ≤ x.dur ∧ x.dur ≤ 1048576 := by
  have := h.n0; have := h.n1; have := h.e0; have := h.e1
  unfold Al.dur; split <;> omega
theorem Al.Fit.new {t : Ti} (h : t.Fit) : (Al.new t).Fit := ⟨h, by simp [Al.new], by simp [Al.new], by simp [Al.new], by simp [Al.new], by simp [Al.new]⟩
theorem Al.Fit.prove {x : Al} (h : x.t.Fit) : x.prove.Fit := by
  have := Al.dur_le h; have := Al.lim_le h
  exact ⟨h, by simp [Al.prove], by simp [Al.prove]; omega, by simp [Al.prove]; omega, by simp [Al.prove], fun _ => by show 0 < x.lim; omega⟩
theorem Al.Fit.ends {x : Al} (h : x.Fit) {p : Nat} (hp : p = 0 ∨ p = 4 ∨ p = 5) : (x.ends p).Fit :=
  ⟨h.t, by simp [Al.ends]; omega, by simp [Al.ends], by simp [Al.ends]; omega, h.wr, fun e => by simp [Al.ends] at e; omega⟩
theorem Al.Fit.hold {x : Al} (h : x.Fit) : x.hold.Fit := by
  have := h.t.h0; have := h.t.h1
  exact ⟨h.t, by simp [Al.hold], by simp [Al.hold]; omega, by simp [Al.hold]; omega, h.wr, fun e => by simp [Al.hold] at e⟩
theorem Al.Fit.mark {x : Al} (h : x.Fit) (hp : x.ph ≠ 3) (s : Nat) : (x.mark s).Fit := ⟨h.t, h.ph, h.left, h.some, h.wr, fun e => absurd e hp⟩
theorem Al.Fit.start {x : Al} (h : x.Fit) (e : Bool) : (x.start e).Fit := by
  have := h.t.s0; have := h.t.s1
  exact ⟨h.t, by simp [Al.start], by simp [Al.start]; omega, by simp [Al.start]; omega, h.wr, fun e => by simp [Al.start] at e⟩
theorem Al.Fit.begin {x : Al} (h : x.Fit) (e : Bool) : (x.begin e).Fit := by
  unfold Al.begin
  split
  · exact h.start e
  · exact h
theorem Al.Fit.tick {x : Al} (h : x.Fit) : x.tick.Fit := by
  unfold Al.tick
  split
  · exact h
  · split
    · exact h.ends (by split <;> omega)
    · have := h.left
      have := h.some
      exact ⟨h.t, h.ph, by show x.left - 1 ≤ _; omega, by
        show x.left - 1 = 0 ↔ x.ph = 0 ∨ x.ph = 4 ∨ x.ph = 5
        omega, h.wr, h.lim⟩
theorem Al.Fit.hear {x : Al} (h : x.Fit) (s : Nat) : (x.hear s).Fit := by
  unfold Al.hear
  split
  · split
    · exact (h.mark (by omega) s).hold
    · exact h
  · split
    · split
      · exact h
      · split
        · exact h.ends (by omega)
        · exact Al.Fit.prove (x := x.mark s) h.t
    · split
      · split
        · exact h.hold
        · split
          · exact h.ends (by omega)
          · split
            · exact Al.Fit.prove (x := x.mark s) h.t
            · exact h
      · exact h
theorem Al.Fit.wrong {x : Al} (h : x.Fit) : x.wrong.Fit := by
  unfold Al.wrong
  split
  · have h3 := h.lim (by assumption)
    have := (Al.lim_le h.t).2
    split
    · split
      · exact Al.Fit.prove h.t
      · exact ⟨h.t, by simp, by simp, by simp, by show x.wr + 1 ≤ _; omega, fun e => by simp at e⟩
    · exact ⟨h.t, h.ph, h.left, h.some, by show x.wr + 1 ≤ _; omega, fun _ => by show x.wr + 1 < x.lim; omega⟩
  · exact h
theorem Al.Fit.act {x : Al} (h : x.Fit) (a : Nat) : (x.act a).Fit := by
  unfold Al.act
  repeat' split
  · exact h.begin _
  · exact h.ends (by omega)
  · exact h.wrong
  · exact h.tick
  · exact h
  · exact h.hear _
theorem Al.act_t (x : Al) (a : Nat) : (x.act a).t = x.t := by
  unfold Al.act Al.begin Al.wrong Al.tick Al.hear
  repeat' split
  all_goals rfl
theorem Al.act_prov (x : Al) (a : Nat) : (x.act a).prov ≤ x.prov + 1 := by
  unfold Al.act Al.begin Al.wrong Al.tick Al.hear
  repeat' split
  all_goals simp [Al.start, Al.ends, Al.prove, Al.hold, Al.mark]
end Go.Proofs.Ytgfiikbecapodaa
