/- Statements of layer 9: what the walks share. -/
import Derived.Test.YtgfiikbecapodaaAlLives
import Derived.Test.YtgfiikbecapodaaBools
namespace Go.Proofs.Ytgfiikbecapodaa
open Go.RowKit

theorem of_lit (a0 a1 a2 a3 a4 a5 a6 : Nat) (w : World) (h0 : a0 ≤ 255) (h1 : a1 ≤ 255) (h2 : a2 ≤ 255) (h3 : a3 ≤ 255) (h4 : a4 ≤ 255) (h5 : a5 ≤ 255) (h6 : a6 ≤ 255) (t : Ti) (ht : t = tiOf a0 a1 a2 a3 a4 a5 a6) :
    Calls Try.prog 11 #[.agg #[.int .u8 (a0 : Int), .int .u8 (a1 : Int), .int .u8 (a2 : Int), .int .u8 (a3 : Int), .int .u8 (a4 : Int), .int .u8 (a5 : Int), .int .u8 (a6 : Int)]] w fun e w' => e = .returned (.agg #[.int .i64 (t.seek : Int), .int .i64 (t.hold : Int), .int .i64 (t.normal : Int), .int .i64 (t.emer : Int), .int .i64 (t.few : Int), .int .i64 (t.fewer : Int), .int .i64 (t.most : Int)]) ∧ Below w.heap.size w w' := by
  subst ht
  exact of_any a0 a1 a2 a3 a4 a5 a6 w h0 h1 h2 h3 h4 h5 h6
theorem new_lit {w0 w : World} (t : Ti) (ht : t.Fit) (h : Below w0.heap.size w0 w) :
    Calls Try.prog 10 #[.agg #[.int .i64 (t.seek : Int), .int .i64 (t.hold : Int), .int .i64 (t.normal : Int), .int .i64 (t.emer : Int), .int .i64 (t.few : Int), .int .i64 (t.fewer : Int), .int .i64 (t.most : Int)]] w fun e w' => ∃ b, e = .returned (.tuple #[.pointer (some ⟨b, 0, none⟩), .int .i64 0]) ∧ w.heap.size ≤ b ∧ One w0 w' b (Al.new t) ∧ Below w.heap.size w w' := new_one t ht h
theorem start_yes {w0 w : World} {b : Nat} {x : Al} (h : One w0 w b x) (u : Bool) (hp : x.ph = 0 ∨ x.ph = 5) : Calls Try.prog 19 #[.pointer (some ⟨b, 0, none⟩), .bool u] w fun e w' => e = .returned (.int .i64 0) ∧ One w0 w' b (x.start u) := by
  refine (start_one h u).mono ?_
  rintro e w' ⟨rfl, h⟩
  rw [if_pos hp]
  rw [show x.begin u = x.start u by unfold Al.begin; rw [if_pos hp]] at h
  exact ⟨rfl, h⟩
theorem start_no {w0 w : World} {b : Nat} {x : Al} (h : One w0 w b x) (u : Bool) (hp : ¬ (x.ph = 0 ∨ x.ph = 5)) : Calls Try.prog 19 #[.pointer (some ⟨b, 0, none⟩), .bool u] w fun e w' => e = .returned (.int .i64 6) ∧ One w0 w' b x := by
  refine (start_one h u).mono ?_
  rintro e w' ⟨rfl, h⟩
  rw [if_neg hp]
  rw [show x.begin u = x by unfold Al.begin; rw [if_neg hp]] at h
  exact ⟨rfl, h⟩
theorem hear0_one {w0 w : World} {b : Nat} {x : Al} (h : One w0 w b x) (hp : x.prov ≤ 1000000) : Calls Try.prog 24 #[.pointer (some ⟨b, 0, none⟩), .int .u8 0] w fun e w' => e = .returned (.int .i64 0) ∧ One w0 w' b (x.hear 0) := hear_one h 0 hp (by decide)
theorem hear1_one {w0 w : World} {b : Nat} {x : Al} (h : One w0 w b x) (hp : x.prov ≤ 1000000) : Calls Try.prog 24 #[.pointer (some ⟨b, 0, none⟩), .int .u8 1] w fun e w' => e = .returned (.int .i64 0) ∧ One w0 w' b (x.hear 1) := hear_one h 1 hp (by decide)
theorem Al.begin_prov (x : Al) (u : Bool) : (x.begin u).prov ≤ x.prov := by
  unfold Al.begin Al.start; split <;> simp
theorem Al.hear_prov (x : Al) (s : Nat) : (x.hear s).prov ≤ x.prov + 1 := by
  unfold Al.hear; repeat' split
  all_goals simp [Al.ends, Al.prove, Al.hold, Al.mark]
/-- An octet of a slice. -/
def oct (l : List Int) (i : Nat) : Nat := (l.getD i 0).toNat
theorem Row.oct {w : World} {a : Option Addr} {n c : Nat} {l : List Int} (h : Row .u8 w a n c l) (i : Nat) (hi : i < n) : ∃ b o, a = some ⟨b, o, none⟩ ∧ w.cell? ⟨b, o + i, none⟩ = some (.int .u8 (oct l i : Int)) ∧ oct l i ≤ 255 := by
  have hl := h.len
  have hm : l.getD i 0 ∈ l := by
    have hi' : i < l.length := by omega
    rw [List.getD_eq_getElem?_getD, List.getElem?_eq_getElem hi']
    exact List.getElem_mem hi'
  have hw := wf_u8.1 (h.wf _ hm)
  rcases h.cells with h0 | ⟨b, o, ha, hc⟩
  · omega
  · refine ⟨b, o, ha, ?_, ?_⟩
    · rw [hc i hi]
      unfold Go.Proofs.Ytgfiikbecapodaa.oct
      rw [Int.toNat_of_nonneg hw.1]
    · unfold Go.Proofs.Ytgfiikbecapodaa.oct; omega
/-- Ready, Idle or Stopped. -/
def Al.Rest (x : Al) : Prop := x.ph = 0 ∨ x.ph = 4 ∨ x.ph = 5
theorem Al.rest_act {x : Al} (h : x.Rest) (hf : x.Fit) (a : Nat) (h3 : 3 ≤ a) : x.act a = x := by
  have hl := hf.some.2 h
  unfold Al.Rest at h
  have e1 : x.wrong = x := by unfold Al.wrong; rw [if_neg (by omega)]
  have e2 : x.tick = x := by unfold Al.tick; rw [if_pos hl]
  have e3 : ∀ s, x.hear s = x := fun s => by unfold Al.hear; rw [if_neg (by omega), if_neg (by omega), if_neg (by omega)]
  unfold Al.act
  rw [if_neg (by omega), if_neg (by omega), e1, e2, e3]
  repeat' split
  all_goals rfl
end Go.Proofs.Ytgfiikbecapodaa
