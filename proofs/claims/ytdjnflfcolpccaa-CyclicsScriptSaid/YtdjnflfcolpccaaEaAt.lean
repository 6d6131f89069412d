/- The code's end of a link: where it lies. -/
import Derived.Test.YtdjnflfcolpccaaBaFace
namespace Go.Proofs.Ytdjnflfcolpccaa
open Go.RowKit

/-- Loads in a list with memory of its own; the loads lie in blocks of P. -/
def RowsAt (w : World) (P : Nat → Prop) (g : Option Nat) (a : Option Addr) (c : Nat) (ls : List (List Int)) : Prop :=
  ∃ vs, Buf w 36 1 g a ls.length c vs ∧ ∀ i l, ls[i]? = some l → RowV w P true (vs.getD i undef) l
theorem RowsAt.nil (w : World) (P : Nat → Prop) : RowsAt w P none none 0 [] := ⟨[], Buf.nil _ _ _, fun i u h => by simp at h⟩
theorem RowsAt.exc {T P : Nat → Prop} {w w' : World} {g : Option Nat} {a : Option Addr} {c : Nat} {ls : List (List Int)} (h : RowsAt w P g a c ls) (hx : Exc T w w') (hg : ∀ k, g = some k → ¬ T k) (hp : ∀ k, P k → ¬ T k) : RowsAt w' P g a c ls := by
  obtain ⟨vs, hb, hu⟩ := h
  exact ⟨vs, hb.exc hx hg, fun i l hi => (hu i l hi).exc hx hp⟩
theorem RowsAt.weak {P P' : Nat → Prop} {w : World} {g : Option Nat} {a : Option Addr} {c : Nat} {ls : List (List Int)} (h : RowsAt w P g a c ls) (hp : ∀ k, P k → P' k) : RowsAt w P' g a c ls := by
  obtain ⟨vs, hb, hu⟩ := h
  exact ⟨vs, hb, fun i l hi => (hu i l hi).mono (fun k _ => hp k) (.inr hp)⟩
theorem RowsAt.lt {P : Nat → Prop} {w : World} {g : Option Nat} {a : Option Addr} {c : Nat} {ls : List (List Int)} (h : RowsAt w P g a c ls) {k : Nat} (hk : g = some k) : k < w.heap.size := by
  obtain ⟨vs, hb, _⟩ := h; exact hb.lt hk
theorem RowsAt.le {P : Nat → Prop} {w : World} {g : Option Nat} {a : Option Addr} {c : Nat} {ls : List (List Int)} (h : RowsAt w P g a c ls) : ls.length ≤ c ∧ c ≤ maxLen := by
  obtain ⟨vs, hb, _⟩ := h; exact ⟨hb.le, hb.max⟩
/-- The element at a place. -/
theorem RowsAt.at {P : Nat → Prop} {w : World} {g : Option Nat} {a : Option Addr} {c : Nat} {ls : List (List Int)} (h : RowsAt w P g a c ls) {i : Nat} (hi : i < ls.length) :
    ∃ k o s, a = some ⟨k, o, none⟩ ∧ g = some k ∧ w.cell? ⟨k, o + i, none⟩ = some (.slice s (ls.getD i []).length (ls.getD i []).length) ∧ Row .u8 w s (ls.getD i []).length (ls.getD i []).length (ls.getD i []) ∧ ∀ z, s = some z → P z.block := by
  obtain ⟨vs, hb, hu⟩ := h
  obtain ⟨k, o, ha, hg, hc⟩ := hb.cell (by omega)
  have hl : ls[i]? = some (ls.getD i []) := by simp [List.getD_eq_getElem?_getD, hi]
  obtain ⟨s, c', e1, e2, e3, e4⟩ := hu i _ hl
  obtain rfl := e3 rfl
  exact ⟨k, o, s, ha, hg, by rw [hc i (by omega), e1], e2, e4⟩
/-- v[p:]. -/
theorem RowsAt.cut {P : Nat → Prop} {w : World} {g : Option Nat} {a : Option Addr} {c : Nat} {ls : List (List Int)} (h : RowsAt w P g a c ls) (p : Nat) (hp : p ≤ ls.length) (a' : Option Addr)
    (ha : p < c → ∀ b o, a = some ⟨b, o, none⟩ → a' = some ⟨b, o + p * 1, none⟩) (hc : p = c → a' = a) : RowsAt w P g a' (c - p) (ls.drop p) := by
  obtain ⟨vs, hb, hu⟩ := h
  have := hb.cut p hp a' ha hc
  refine ⟨vs.drop (p * 1), by rw [List.length_drop]; exact this, fun i l hi => ?_⟩
  have h2 := hu (p + i) l (by rw [List.getElem?_drop] at hi; exact hi)
  have e : (vs.drop (p * 1)).getD i undef = vs.getD (p + i) undef := by simp [List.getD_eq_getElem?_getD, List.getElem?_drop]
  rw [e]; exact h2
/-- One more, behind an append. -/
theorem RowsAt.add {P P' T : Nat → Prop} {w w' : World} {g' : Option Nat} {a' : Option Addr} {n c' : Nat} {ls : List (List Int)} {l : List Int} {vs : List Value} {v : Value} (hn : n = ls.length) (hvl : vs.length = n)
    (hu : ∀ i l, ls[i]? = some l → RowV w P true (vs.getD i undef) l) (hx : Exc T w w') (hp : ∀ k, P k → ¬ T k) (hpp : ∀ k, P k → P' k) (hb : Buf w' 36 1 g' a' (n + 1) c' (vs ++ [v])) (hv : RowV w' P' true v l) : RowsAt w' P' g' a' c' (ls ++ [l]) := by
  refine ⟨vs ++ [v], by rw [List.length_append, List.length_singleton, ← hn]; exact hb, fun i k hi => ?_⟩
  by_cases hil : i < ls.length
  · rw [getD_append_left (by omega)]
    rw [List.getElem?_append_left hil] at hi
    exact ((hu i k hi).exc hx hp).mono (fun k _ => hpp k) (.inr hpp)
  · have hil2 : i = ls.length := by
      have := (List.getElem?_eq_some_iff.1 hi).1
      simp at this; omega
    subst hil2
    simp at hi
    subst hi
    rw [getD_append_right (by omega), show ls.length - vs.length = 0 by omega]
    exact hv
structure ELay where
  gq : Option Nat
  go : Option Nat
  aq : Option Addr
  ao : Option Addr
  cq : Nat
  co : Nat
  P : Nat → Prop
def endCells (x : En) (L : ELay) : List Value := [.int .i64 (x.lm : Int), .int .i64 (x.lo : Int), .slice L.aq x.que.length L.cq, .slice L.ao x.una.length L.co, .int .i64 (x.plc : Int), .bool x.forced, .int .u8 (x.sent : Int), .int .u8 (x.acc : Int), .bool x.w1, .bool x.w2, .bool x.failed]
/-- At block b stands the end x, laid as L says. -/
structure EndL (w : World) (b : Nat) (x : En) (L : ELay) : Prop where
  own : Own w b 79 (endCells x L)
  q : RowsAt w L.P L.gq L.aq L.cq x.que
  o : RowsAt w L.P L.go L.ao L.co x.una
  bP : ¬ L.P b
  bq : ∀ k, L.gq = some k → k ≠ b ∧ ¬ L.P k ∧ L.go ≠ some k
  bo : ∀ k, L.go = some k → k ≠ b ∧ ¬ L.P k
  lt : ∀ k, L.P k → k < w.heap.size
  fit : x.Fit
  wide : ∀ l, l ∈ x.que ∨ l ∈ x.una → 2 ≤ l.length ∧ l.length ≤ 273
def ELay.S (L : ELay) (b : Nat) (k : Nat) : Prop := k = b ∨ L.gq = some k ∨ L.go = some k ∨ L.P k
theorem EndL.s_lt {w : World} {b : Nat} {x : En} {L : ELay} (h : EndL w b x L) : ∀ k, L.S b k → k < w.heap.size := by
  rintro k (rfl | hk | hk | hk)
  · exact h.own.lt
  · exact h.q.lt hk
  · exact h.o.lt hk
  · exact h.lt k hk
theorem EndL.exc {T : Nat → Prop} {w w' : World} {b : Nat} {x : En} {L : ELay} (h : EndL w b x L) (hx : Exc T w w') (hn : ∀ k, L.S b k → ¬ T k) : EndL w' b x L :=
  ⟨h.own.exc hx (hn b (.inl rfl)), h.q.exc hx (fun k hk => hn k (.inr (.inl hk))) (fun k hk => hn k (.inr (.inr (.inr hk)))), h.o.exc hx (fun k hk => hn k (.inr (.inr (.inl hk)))) (fun k hk => hn k (.inr (.inr (.inr hk)))),
    h.bP, h.bq, h.bo, fun k hk => Nat.lt_of_lt_of_le (h.lt k hk) hx.size, h.fit, h.wide⟩
theorem EndL.later {w w' : World} {b : Nat} {x : En} {L : ELay} (h : EndL w b x L) (hb : Below w.heap.size w w') : EndL w' b x L := h.exc (T := fun _ => False) (Exc.of_below hb) (fun _ _ hh => hh)
/-- The end's own block has turned, its lists not. -/
theorem EndL.redo {w w' : World} {b : Nat} {x x' : En} {L : ELay} (h : EndL w b x L) (hx : Exc (fun k => k = b) w w') (ho : Own w' b 79 (endCells x' L)) (hq : x'.que = x.que) (hu : x'.una = x.una) (hf : x'.Fit) : EndL w' b x' L :=
  ⟨ho, by rw [hq]; exact h.q.exc hx (fun k hk => (h.bq k hk).1) (fun k hk he => h.bP (he ▸ hk)), by rw [hu]; exact h.o.exc hx (fun k hk => (h.bo k hk).1) (fun k hk he => h.bP (he ▸ hk)),
    h.bP, h.bq, h.bo, fun k hk => Nat.lt_of_lt_of_le (h.lt k hk) hx.size, hf, by rw [hq, hu]; exact h.wide⟩
theorem EndL.cells {w : World} {b : Nat} {x : En} {L : ELay} (h : EndL w b x L) :
    w.cell? ⟨b, 0, none⟩ = some (.int .i64 (x.lm : Int)) ∧ w.cell? ⟨b, 1, none⟩ = some (.int .i64 (x.lo : Int)) ∧ w.cell? ⟨b, 2, none⟩ = some (.slice L.aq x.que.length L.cq) ∧ w.cell? ⟨b, 3, none⟩ = some (.slice L.ao x.una.length L.co) ∧ w.cell? ⟨b, 4, none⟩ = some (.int .i64 (x.plc : Int)) ∧
      w.cell? ⟨b, 5, none⟩ = some (.bool x.forced) ∧ w.cell? ⟨b, 6, none⟩ = some (.int .u8 (x.sent : Int)) ∧ w.cell? ⟨b, 7, none⟩ = some (.int .u8 (x.acc : Int)) ∧ w.cell? ⟨b, 8, none⟩ = some (.bool x.w1) ∧ w.cell? ⟨b, 9, none⟩ = some (.bool x.w2) ∧ w.cell? ⟨b, 10, none⟩ = some (.bool x.failed) :=
  ⟨h.own.cell 0 (by simp [endCells]), h.own.cell 1 (by simp [endCells]), h.own.cell 2 (by simp [endCells]), h.own.cell 3 (by simp [endCells]), h.own.cell 4 (by simp [endCells]), h.own.cell 5 (by simp [endCells]), h.own.cell 6 (by simp [endCells]), h.own.cell 7 (by simp [endCells]), h.own.cell 8 (by simp [endCells]), h.own.cell 9 (by simp [endCells]), h.own.cell 10 (by simp [endCells])⟩
/-- What has turned, and what of it is the end's. -/
theorem turn_of {w w' : World} {b : Nat} {L L' : ELay} {T : Nat → Prop} (hx : Exc T w w') (ht : ∀ k, T k → L.S b k) (hl : ∀ k, L'.S b k → L.S b k ∨ w.heap.size ≤ k) : Turn (L.S b) w (L'.S b) w' :=
  ⟨hx.weak (fun k _ hk => ht k hk), hl⟩
def EAt (w : World) (b : Nat) (S : Nat → Prop) (x : En) : Prop := ∃ L, S = L.S b ∧ EndL w b x L
end Go.Proofs.Ytdjnflfcolpccaa
