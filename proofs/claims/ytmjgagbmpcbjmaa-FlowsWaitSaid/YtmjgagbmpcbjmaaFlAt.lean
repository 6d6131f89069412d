/- Flows: a flow control in memory; isNone, check. -/
import Derived.Test.YtmjgagbmpcbjmaaFlMath
import Derived.Test.YtmjgagbmpcbjmaaBlk
namespace Go.Proofs.Ytmjgagbmpcbjmaa
open Go.RowKit

def Fl.cells (x : Fl) : List Value := [.int .i64 (x.t.again : Int), .int .i64 (x.t.most : Int), .int .i64 (x.t.wait : Int), .bool x.con, .int .i64 (x.since : Int), .bool x.out, .bool x.away, .int .i64 (x.busy : Int), .int .i64 (x.wait : Int), .bool x.failed]
/-- At block b lies the flow control x. -/
structure FlAt (w : World) (b : Nat) (x : Fl) : Prop where
  own : Own w b 62 x.cells
  fit : x.Fit
theorem FlAt.lt {w : World} {b : Nat} {x : Fl} (h : FlAt w b x) : b < w.heap.size := h.own.lt
theorem FlAt.exc {w w' : World} {b : Nat} {x : Fl} {S : Nat → Prop} (h : FlAt w b x) (hx : Exc S w w') (hb : ¬ S b) : FlAt w' b x := ⟨h.own.exc hx hb, h.fit⟩
theorem FlAt.below {w w' : World} {b : Nat} {x : Fl} (h : FlAt w b x) (hx : Below w.heap.size w w') : FlAt w' b x := ⟨h.own.below hx h.lt, h.fit⟩
theorem FlAt.drew {w : World} {b : Nat} {x : Fl} (h : FlAt w b x) (q : Nat) : FlAt (w.drewN q) b x := h.below (below_draw w q)
theorem FlAt.z {w : World} {b : Nat} {x : Fl} (h : FlAt w b x) (j : Nat) : w.frozen? ⟨b, j, none⟩ = false := h.own.frozen j
theorem FlAt.c0 {w : World} {b : Nat} {x : Fl} (h : FlAt w b x) : w.cell? ⟨b, 0, none⟩ = some (.int .i64 (x.t.again : Int)) := Own.cell h.own 0 (by simp [Fl.cells])
theorem FlAt.c1 {w : World} {b : Nat} {x : Fl} (h : FlAt w b x) : w.cell? ⟨b, 1, none⟩ = some (.int .i64 (x.t.most : Int)) := Own.cell h.own 1 (by simp [Fl.cells])
theorem FlAt.c2 {w : World} {b : Nat} {x : Fl} (h : FlAt w b x) : w.cell? ⟨b, 2, none⟩ = some (.int .i64 (x.t.wait : Int)) := Own.cell h.own 2 (by simp [Fl.cells])
theorem FlAt.c3 {w : World} {b : Nat} {x : Fl} (h : FlAt w b x) : w.cell? ⟨b, 3, none⟩ = some (.bool x.con) := Own.cell h.own 3 (by simp [Fl.cells])
theorem FlAt.c4 {w : World} {b : Nat} {x : Fl} (h : FlAt w b x) : w.cell? ⟨b, 4, none⟩ = some (.int .i64 (x.since : Int)) := Own.cell h.own 4 (by simp [Fl.cells])
theorem FlAt.c5 {w : World} {b : Nat} {x : Fl} (h : FlAt w b x) : w.cell? ⟨b, 5, none⟩ = some (.bool x.out) := Own.cell h.own 5 (by simp [Fl.cells])
theorem FlAt.c6 {w : World} {b : Nat} {x : Fl} (h : FlAt w b x) : w.cell? ⟨b, 6, none⟩ = some (.bool x.away) := Own.cell h.own 6 (by simp [Fl.cells])
theorem FlAt.c7 {w : World} {b : Nat} {x : Fl} (h : FlAt w b x) : w.cell? ⟨b, 7, none⟩ = some (.int .i64 (x.busy : Int)) := Own.cell h.own 7 (by simp [Fl.cells])
theorem FlAt.c8 {w : World} {b : Nat} {x : Fl} (h : FlAt w b x) : w.cell? ⟨b, 8, none⟩ = some (.int .i64 (x.wait : Int)) := Own.cell h.own 8 (by simp [Fl.cells])
theorem FlAt.c9 {w : World} {b : Nat} {x : Fl} (h : FlAt w b x) : w.cell? ⟨b, 9, none⟩ = some (.bool x.failed) := Own.cell h.own 9 (by simp [Fl.cells])
/-- What an act leaves: at b the flow control x, nothing else changed. -/
def Nxt (w : World) (b : Nat) (x : Fl) (w' : World) : Prop := FlAt w' b x ∧ Exc (fun k => k = b) w w'
theorem Nxt.same {w : World} {b : Nat} {x : Fl} (h : FlAt w b x) : Nxt w b x w := ⟨h, Exc.refl _ _⟩
theorem Nxt.drew {w w' : World} {b : Nat} {x : Fl} (h : Nxt w b x w') (q : Nat) : Nxt w b x (w'.drewN q) := ⟨h.1.drew q, h.2.drawN q⟩
theorem Nxt.trans {w w1 w2 : World} {b : Nat} {x y : Fl} (h : Nxt w b x w1) (k : Nxt w1 b y w2) : Nxt w b y w2 := ⟨k.1, h.2.trans k.2 (fun _ _ h => h)⟩
/-- A nil flow control, or a zero one. -/
def FlNone (w : World) (v : Value) : Prop := v = .pointer none ∨ ∃ b, v = .pointer (some ⟨b, 0, none⟩) ∧ Own w b 62 [.int .i64 0, .int .i64 0, .int .i64 0, .bool false, .int .i64 0, .bool false, .bool false, .int .i64 0, .int .i64 0, .bool false]
theorem FlNone.later {w w' : World} {v : Value} (h : FlNone w v) (hb : Below w.heap.size w w') : FlNone w' v := by
  rcases h with h | ⟨b, hv, ho⟩
  · exact .inl h
  · exact .inr ⟨b, hv, ho.below hb ho.lt⟩
set_option maxHeartbeats 1000000 in
set_option maxRecDepth 100000 in
theorem fl_isNone (b : Nat) (x : Fl) (w : World) (h : FlAt w b x) :
    Calls Try.prog 31 #[.pointer (some ⟨b, 0, none⟩)] w fun e w' => e = .returned (.bool false) ∧ w' = w := by
  have c0 := h.c0
  have c1 := h.c1
  have c2 := h.c2
  have hs := h.fit.t.a0
  obtain ⟨s, hs1⟩ : ∃ s : Int, s = (x.t.again : Int) := ⟨_, rfl⟩
  have hs2 : (s == 0) = false := by simp; omega
  rw [← hs1] at c0
  clear h hs hs1
  go_enter Try.func31, Try.ntmps31
  go_wp2
  go_ret
  exact ⟨rfl, rfl⟩
set_option maxHeartbeats 1000000 in
set_option maxRecDepth 100000 in
theorem fl_isNone_none (v : Value) (w : World) (h : FlNone w v) :
    Calls Try.prog 31 #[v] w fun e w' => e = .returned (.bool true) ∧ w' = w := by
  rcases h with rfl | ⟨b, rfl, ho⟩
  · go_enter Try.func31, Try.ntmps31
    go_wp2
    go_ret
    exact ⟨rfl, rfl⟩
  · have c0 := ho.cell 0 (by simp)
    have c1 := ho.cell 1 (by simp)
    have c2 := ho.cell 2 (by simp)
    simp only [List.getD_cons_succ, List.getD_cons_zero] at c0 c1 c2
    clear ho
    go_enter Try.func31, Try.ntmps31
    go_wp2
    go_ret
    exact ⟨rfl, rfl⟩
set_option maxHeartbeats 1000000 in
set_option maxRecDepth 100000 in
theorem fl_check (b : Nat) (x : Fl) (w : World) (h : FlAt w b x) :
    Calls Try.prog 32 #[.pointer (some ⟨b, 0, none⟩)] w fun e w' => e = .returned (.int .i64 (x.code : Int)) ∧ w' = w := by
  have HN := Lib.hid (fl_isNone b x w h)
  have c9 := h.c9
  have hc : x.code = if x.failed then 6 else 0 := rfl
  clear h
  cases hf : x.failed
  all_goals
    rw [hf] at c9 hc
    rw [hc]
    clear hc hf
    go_enter Try.func32, Try.ntmps32
    go_wp2_with fail
    with_reducible refine HN.out.mono ?_
    rintro e w' ⟨rfl, rfl⟩
    clear HN
    go_wp2
    go_ret
    exact ⟨rfl, rfl⟩
set_option maxHeartbeats 1000000 in
set_option maxRecDepth 100000 in
theorem fl_check_none (v : Value) (w : World) (h : FlNone w v) :
    Calls Try.prog 32 #[v] w fun e w' => e = .returned (.int .i64 2) ∧ w' = w := by
  have HN := Lib.hid (fl_isNone_none v w h)
  clear h
  go_enter Try.func32, Try.ntmps32
  go_wp2_with fail
  with_reducible refine HN.out.mono ?_
  rintro e w' ⟨rfl, rfl⟩
  clear HN
  go_wp2
  go_ret
  exact ⟨rfl, rfl⟩
end Go.Proofs.Ytmjgagbmpcbjmaa
