/- Statements of layer 10: one flow control in a walk; octets of a slice; the opening. -/
import Derived.Test.YtmjgagbmpcbjmaaFlLives
namespace Go.Proofs.Ytmjgagbmpcbjmaa
open Go.RowKit

/-- In w, at b, the flow control x, all behind what was there in w0. -/
structure One (w0 w : World) (b : Nat) (x : Fl) : Prop where
  at' : FlAt w b x
  low : w0.heap.size ≤ b
  bel : Below w0.heap.size w0 w
theorem One.nxt {w0 w w' : World} {b : Nat} {x x' : Fl} (h : One w0 w b x) (n : Nxt w b x' w') : One w0 w' b x' :=
  ⟨n.1, h.low, h.bel.trans (n.2.below h.bel.size (fun i _ e => by have := h.low; omega))⟩
theorem One.more {w0 w w' : World} {b : Nat} {x : Fl} (h : One w0 w b x) (hb : Below w.heap.size w w') : One w0 w' b x := ⟨h.at'.below hb, h.low, h.bel.trans (Below.mono hb h.bel.size)⟩
theorem One.drew {w0 w : World} {b : Nat} {x : Fl} (h : One w0 w b x) (q : Nat) : One w0 (w.drewN q) b x := h.more (below_draw w q)
theorem One.cell {w0 w : World} {b : Nat} {x : Fl} (h : One w0 w b x) {g t : Nat} {cs : List Value} (ho : Own w0 g t cs) (j : Nat) (hj : j < cs.length) : w.cell? ⟨g, j, none⟩ = some (cs.getD j undef) := (ho.below h.bel ho.lt).cell j hj
theorem congest_one {w0 w : World} {b : Nat} {x : Fl} (h : One w0 w b x) (on : Bool) :
    Calls Try.prog 19 #[.pointer (some ⟨b, 0, none⟩), .bool on] w fun e w' => e = .returned (.int .i64 (x.code : Int)) ∧ One w0 w' b (x.congest on) := by
  refine (fl_congest b x on w h.at').mono ?_
  rintro e w' ⟨rfl, n⟩
  exact ⟨rfl, h.nxt n⟩
theorem outage_one {w0 w : World} {b : Nat} {x : Fl} (h : One w0 w b x) (on : Bool) :
    Calls Try.prog 24 #[.pointer (some ⟨b, 0, none⟩), .bool on] w fun e w' => e = .returned (.int .i64 (x.code : Int)) ∧ One w0 w' b (x.outage on) := by
  refine (fl_outage b x on w h.at').mono ?_
  rintro e w' ⟨rfl, n⟩
  exact ⟨rfl, h.nxt n⟩
theorem hear_one {w0 w : World} {b : Nat} {x : Fl} (h : One w0 w b x) (s : Nat) (is : Bool) (hs : s ≤ 255) :
    Calls Try.prog 22 #[.pointer (some ⟨b, 0, none⟩), .int .u8 (s : Int), .bool is] w fun e w' => e = .returned (.int .i64 (x.hearCode s is : Int)) ∧ One w0 w' b (x.hear s is) := by
  refine (fl_hear b x s is w h.at' hs).mono ?_
  rintro e w' ⟨rfl, n⟩
  exact ⟨rfl, h.nxt n⟩
theorem open_one {w0 w : World} {b : Nat} {x : Fl} (h : One w0 w b x) (wt ack : Bool) :
    Calls Try.prog 20 #[.pointer (some ⟨b, 0, none⟩), .bool wt, .bool ack] w fun e w' => e = .returned (.int .i64 (x.code : Int)) ∧ One w0 w' b (x.opens wt ack) := by
  refine (fl_open b x wt ack w h.at').mono ?_
  rintro e w' ⟨rfl, n⟩
  exact ⟨rfl, h.nxt n⟩
theorem tick_one {w0 w : World} {b : Nat} {x : Fl} (h : One w0 w b x) :
    Calls Try.prog 23 #[.pointer (some ⟨b, 0, none⟩)] w fun e w' => e = .returned (.int .i64 (x.code : Int)) ∧ One w0 w' b (x.tick) := by
  refine (fl_tick b x w h.at').mono ?_
  rintro e w' ⟨rfl, n⟩
  exact ⟨rfl, h.nxt n⟩
theorem perform_one {w0 w : World} {b : Nat} {x : Fl} (h : One w0 w b x) (a : Nat) (ha : a ≤ 255) :
    Calls Try.prog 13 #[.pointer (some ⟨b, 0, none⟩), .int .u8 (a : Int)] w fun e w' => e = .returned (.int .i64 (x.err a : Int)) ∧ One w0 w' b (x.act a) := by
  refine (perform_any b x w h.at' a ha).mono ?_
  rintro e w' ⟨rfl, n⟩
  exact ⟨rfl, h.nxt n⟩
theorem held_one {w0 w : World} {b : Nat} {x : Fl} (h : One w0 w b x) :
    Calls Try.prog 15 #[.pointer (some ⟨b, 0, none⟩)] w fun e w' => e = .returned (.tuple #[.bool x.con, .bool (x.out || x.away)]) ∧ One w0 w' b x := by
  refine (fl_held b x w h.at').mono ?_
  rintro e w' ⟨rfl, q, rfl⟩
  exact ⟨rfl, h.drew q⟩
theorem sends_one {w0 w : World} {b : Nat} {x : Fl} (h : One w0 w b x) :
    Calls Try.prog 21 #[.pointer (some ⟨b, 0, none⟩)] w fun e w' => e = .returned (.tuple #[.int .u8 (x.st : Int), .bool x.is]) ∧ w' = w := fl_sends b x w h.at'
theorem lsends_one {w0 w : World} {b : Nat} {x : Fl} (h : One w0 w b x) :
    Calls Try.prog 16 #[.pointer (some ⟨b, 0, none⟩)] w fun e w' => e = .returned (.int .u8 (x.stat : Int)) ∧ w' = w := lsends b x w h.at'
theorem failed_one {w0 w : World} {b : Nat} {x : Fl} (h : One w0 w b x) :
    Calls Try.prog 18 #[.pointer (some ⟨b, 0, none⟩)] w fun e w' => e = .returned (.bool x.failed) ∧ w' = w := fl_failed b x w h.at'
theorem new_one {w0 w : World} (t : Tm) (ht : t.Fit) (h : Below w0.heap.size w0 w) :
    Calls Try.prog 11 #[.agg #[.int .i64 (t.again : Int), .int .i64 (t.most : Int), .int .i64 (t.wait : Int)]] w fun e w' => ∃ b, e = .returned (.tuple #[.pointer (some ⟨b, 0, none⟩), .int .i64 0]) ∧ w.heap.size ≤ b ∧ One w0 w' b (Fl.new t) ∧ Below w.heap.size w w' := by
  refine (fl_new_ok t ht w).mono ?_
  rintro e w' ⟨h1, b, rfl, h2, h3⟩
  exact ⟨b, rfl, h2, ⟨h3, Nat.le_trans h.size h2, h.trans (Below.mono h1 h.size)⟩, h1⟩
/-- An octet of a slice. -/
def oct (l : List Int) (i : Nat) : Nat := (l.getD i 0).toNat
theorem Row.oct {w : World} {a : Option Addr} {n c : Nat} {l : List Int} (h : Row .u8 w a n c l) (i : Nat) (hi : i < n) : ∃ b o, a = some ⟨b, o, none⟩ ∧ w.cell? ⟨b, o + i, none⟩ = some (.int .u8 (oct l i : Int)) ∧ oct l i ≤ 255 := by
  have hl := h.len
  have hm : l.getD i 0 ∈ l := by
    have hi' : i < l.length := by omega
    rw [List.getD_eq_getElem?_getD, List.getElem?_eq_getElem hi']
    exact List.getElem_mem hi'
  have hw := wf_u8.1 (h.wf _ hm)
  rcases h.cells with h0 | ⟨b, o, ha, hc⟩
  · omega
  · refine ⟨b, o, ha, ?_, ?_⟩
    · rw [hc i hi]
      unfold Go.Proofs.Ytmjgagbmpcbjmaa.oct
      rw [Int.toNat_of_nonneg hw.1]
    · unfold Go.Proofs.Ytmjgagbmpcbjmaa.oct; omega
theorem nats3 {x0 x1 x2 : Int} (h0 : (Lit.int .u8 x0).wf = true) (h1 : (Lit.int .u8 x1).wf = true) (h2 : (Lit.int .u8 x2).wf = true) : ∃ a b c : Nat, x0 = (a : Int) ∧ x1 = (b : Int) ∧ x2 = (c : Int) ∧ a ≤ 255 ∧ b ≤ 255 ∧ c ≤ 255 := by
  rw [wf_u8] at h0 h1 h2
  exact ⟨x0.toNat, x1.toNat, x2.toNat, by omega, by omega, by omega, by omega, by omega, by omega⟩
theorem nat1 {x0 : Int} (h0 : (Lit.int .u8 x0).wf = true) : ∃ a : Nat, x0 = (a : Int) ∧ a ≤ 255 := by
  rw [wf_u8] at h0
  exact ⟨x0.toNat, by omega, by omega⟩
end Go.Proofs.Ytmjgagbmpcbjmaa
