/- Flows: the mathematics (no program in it). -/
import Derived.Test.YtmjgagbmpcbjmaaBase
namespace Go.Proofs.Ytmjgagbmpcbjmaa

structure Tm where
  again : Nat
  most : Nat
  wait : Nat
structure Tm.Fit (t : Tm) : Prop where
  a0 : 1 ≤ t.again
  a1 : t.again ≤ 1048576
  m0 : 1 ≤ t.most
  m1 : t.most ≤ 1048576
  w0 : 1 ≤ t.wait
  w1 : t.wait ≤ 1048576
/-- A flow control in plain data. -/
structure Fl where
  t : Tm
  con : Bool
  since : Nat
  out : Bool
  away : Bool
  busy : Nat
  wait : Nat
  failed : Bool
structure Fl.Fit (x : Fl) : Prop where
  t : x.t.Fit
  since : x.since < x.t.again
  busy : x.busy ≤ x.t.most
  wait : x.wait ≤ x.t.wait
def Fl.new (t : Tm) : Fl := ⟨t, false, 0, false, false, 0, 0, false⟩
theorem Fl.Fit.new {t : Tm} (h : t.Fit) : (Fl.new t).Fit := ⟨h, h.a0, Nat.zero_le _, Nat.zero_le _⟩
/-- The error of an act. -/
def Fl.code (x : Fl) : Nat := if x.failed then 6 else 0
def Fl.congest (x : Fl) (on : Bool) : Fl := if x.failed then x else { x with con := on, since := if x.con then x.since else 0 }
def Fl.outage (x : Fl) (on : Bool) : Fl := if x.failed then x else { x with out := on }
def Fl.hearB (x : Fl) : Fl := { x with busy := if x.busy = 0 then x.t.most else x.busy, wait := if 0 < x.wait then x.t.wait else x.wait }
/-- A status is heard, or (is = false) a unit without one. -/
def Fl.hear (x : Fl) (s : Nat) (is : Bool) : Fl :=
  if x.failed then x else if is then (if 5 < s then x else if s = 4 then { x with away := true } else if s = 5 then x.hearB else { x with failed := true }) else { x with away := false }
def Fl.hearCode (x : Fl) (s : Nat) (is : Bool) : Nat := if x.failed then 6 else if is && decide (5 < s) then 1 else 0
/-- Loads wait, or not; an acknowledgement has come, or not. -/
def Fl.opens (x : Fl) (wt ack : Bool) : Fl :=
  if x.failed then x else { x with busy := if ack then 0 else x.busy, wait := if wt then (if ack || decide (x.wait = 0) then x.t.wait else x.wait) else 0 }
def Fl.tick (x : Fl) : Fl :=
  if x.failed then x else { x with
    since := if x.con then (x.since + 1) % x.t.again else x.since
    busy := x.busy - 1
    wait := if x.out || x.away then x.wait else x.wait - 1
    failed := decide (x.busy = 1) || (!(x.out || x.away) && decide (x.wait = 1)) }
/-- The status that is sent, or 9. -/
def Fl.stat (x : Fl) : Nat := if x.failed then 9 else if x.out then 4 else if x.con && decide (x.since = 0) then 5 else 9
theorem Fl.Fit.congest {x : Fl} (h : x.Fit) (on : Bool) : (x.congest on).Fit := by
  unfold Fl.congest
  split
  · exact h
  · exact ⟨h.t, by dsimp only; split; exact h.since; exact h.t.a0, h.busy, h.wait⟩
theorem Fl.Fit.outage {x : Fl} (h : x.Fit) (on : Bool) : (x.outage on).Fit := by
  unfold Fl.outage
  split
  · exact h
  · exact ⟨h.t, h.since, h.busy, h.wait⟩
theorem Fl.Fit.hearB {x : Fl} (h : x.Fit) : x.hearB.Fit :=
  ⟨h.t, h.since, by simp only [Fl.hearB]; split; exact Nat.le_refl _; exact h.busy, by simp only [Fl.hearB]; split; exact Nat.le_refl _; exact h.wait⟩
theorem Fl.Fit.hear {x : Fl} (h : x.Fit) (s : Nat) (is : Bool) : (x.hear s is).Fit := by
  unfold Fl.hear
  repeat' split
  · exact h
  · exact h
  · exact ⟨h.t, h.since, h.busy, h.wait⟩
  · exact h.hearB
  · exact ⟨h.t, h.since, h.busy, h.wait⟩
  · exact ⟨h.t, h.since, h.busy, h.wait⟩
theorem Fl.Fit.opens {x : Fl} (h : x.Fit) (wt ack : Bool) : (x.opens wt ack).Fit := by
  unfold Fl.opens
  split
  · exact h
  · refine ⟨h.t, h.since, ?_, ?_⟩
    · dsimp only; split; exact Nat.zero_le _; exact h.busy
    · dsimp only; split
      · split; exact Nat.le_refl _; exact h.wait
      · exact Nat.zero_le _
theorem Fl.Fit.tick {x : Fl} (h : x.Fit) : x.tick.Fit := by
  have h1 := h.since
  have h2 := h.busy
  have h3 := h.wait
  have h4 := h.t.a0
  unfold Fl.tick
  split
  · exact h
  · refine ⟨h.t, ?_, ?_, ?_⟩
    · dsimp only; split
      · exact Nat.mod_lt _ h4
      · exact h1
    · dsimp only; omega
    · dsimp only; split
      · exact h3
      · omega
end Go.Proofs.Ytmjgagbmpcbjmaa
