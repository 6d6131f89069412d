/- ChangesBoth: what lies where. -/
import Derived.Test.YtlmkmgfnfcnoaaaChLives
namespace Go.Proofs.Ytlmkmgfnfcnoaaa
open Go.RowKit

/-- The three arguments in their boxes, the two ends, the list of them, what arrives where. -/
structure BoW (w0 : World) (bs br bk ls th p q : Nat) (S0 S1 R0 R1 K0 K1 T0 T1 : Nat) (x y : Ed) (w : World) : Prop where
  pr : Pr w0 w p q x y
  os : Own w bs 23 [.int .u16 (S0 : Int), .int .u16 (S1 : Int)]
  or : Own w br 23 [.int .u16 (R0 : Int), .int .u16 (R1 : Int)]
  ok : Own w bk 23 [.int .u16 (K0 : Int), .int .u16 (K1 : Int)]
  ol : Own w ls 24 [.pointer (some ⟨p, 0, none⟩), .pointer (some ⟨q, 0, none⟩)]
  ot : Own w th 27 [.int .i64 (T0 : Int), .int .i64 (T1 : Int)]
  off : ∀ k, (x.S p k ∨ y.S q k) → k ≠ ls ∧ k ≠ th
  lt : bs < w0.heap.size ∧ br < w0.heap.size ∧ bk < w0.heap.size
  lo : w0.heap.size ≤ ls ∧ w0.heap.size ≤ th ∧ ls ≠ th
theorem BoW.act1 {w0 w w' : World} {bs br bk ls th p q S0 S1 R0 R1 K0 K1 T0 T1 : Nat} {x y x' : Ed} (h : BoW w0 bs br bk ls th p q S0 S1 R0 R1 K0 K1 T0 T1 x y w) (ht : EdTo w p x x' w') : BoW w0 bs br bk ls th p q S0 S1 R0 R1 K0 K1 T0 T1 x' y w' := by
  have hx := ht.exc
  have hlo : ∀ k, x.T p k → w0.heap.size ≤ k := fun k hk => h.pr.lo1 k (.inl hk)
  have hof : ∀ k, x.T p k → k ≠ ls ∧ k ≠ th := fun k hk => h.off k (.inl (.inl hk))
  refine ⟨h.pr.act1 ht, h.os.exc hx fun hk => ?_, h.or.exc hx fun hk => ?_, h.ok.exc hx fun hk => ?_, h.ol.exc hx fun hk => (hof _ hk).1 rfl, h.ot.exc hx fun hk => (hof _ hk).2 rfl, fun k hk => ?_, h.lt, h.lo⟩
  · have := hlo _ hk; have := h.lt; omega
  · have := hlo _ hk; have := h.lt; omega
  · have := hlo _ hk; have := h.lt; omega
  · rcases hk with hk | hk
    · rcases ht.lies k hk with h1 | h1
      · exact h.off k (.inl h1)
      · have := h.ol.lt; have := h.ot.lt; omega
    · exact h.off k (.inr hk)
theorem BoW.act2 {w0 w w' : World} {bs br bk ls th p q S0 S1 R0 R1 K0 K1 T0 T1 : Nat} {x y y' : Ed} (h : BoW w0 bs br bk ls th p q S0 S1 R0 R1 K0 K1 T0 T1 x y w) (ht : EdTo w q y y' w') : BoW w0 bs br bk ls th p q S0 S1 R0 R1 K0 K1 T0 T1 x y' w' := by
  have hx := ht.exc
  have hlo : ∀ k, y.T q k → w0.heap.size ≤ k := fun k hk => h.pr.lo2 k (.inl hk)
  have hof : ∀ k, y.T q k → k ≠ ls ∧ k ≠ th := fun k hk => h.off k (.inr (.inl hk))
  refine ⟨h.pr.act2 ht, h.os.exc hx fun hk => ?_, h.or.exc hx fun hk => ?_, h.ok.exc hx fun hk => ?_, h.ol.exc hx fun hk => (hof _ hk).1 rfl, h.ot.exc hx fun hk => (hof _ hk).2 rfl, fun k hk => ?_, h.lt, h.lo⟩
  · have := hlo _ hk; have := h.lt; omega
  · have := hlo _ hk; have := h.lt; omega
  · have := hlo _ hk; have := h.lt; omega
  · rcases hk with hk | hk
    · exact h.off k (.inl hk)
    · rcases ht.lies k hk with h1 | h1
      · exact h.off k (.inr h1)
      · have := h.ol.lt; have := h.ot.lt; omega
theorem BoW.more {w0 w w' : World} {bs br bk ls th p q S0 S1 R0 R1 K0 K1 T0 T1 : Nat} {x y : Ed} (h : BoW w0 bs br bk ls th p q S0 S1 R0 R1 K0 K1 T0 T1 x y w) (hb : Below w.heap.size w w') : BoW w0 bs br bk ls th p q S0 S1 R0 R1 K0 K1 T0 T1 x y w' :=
  ⟨h.pr.more hb, h.os.below hb h.os.lt, h.or.below hb h.or.lt, h.ok.below hb h.ok.lt, h.ol.below hb h.ol.lt, h.ot.below hb h.ot.lt, h.off, h.lt, h.lo⟩
theorem BoW.drawN {w0 w : World} {bs br bk ls th p q S0 S1 R0 R1 K0 K1 T0 T1 : Nat} {x y : Ed} (h : BoW w0 bs br bk ls th p q S0 S1 R0 R1 K0 K1 T0 T1 x y w) (n : Nat) : BoW w0 bs br bk ls th p q S0 S1 R0 R1 K0 K1 T0 T1 x y (w.drewN n) := h.more (below_draw w n)
theorem BoW.put {w0 w : World} {bs br bk ls th p q S0 S1 R0 R1 K0 K1 T0 T1 : Nat} {x y : Ed} (h : BoW w0 bs br bk ls th p q S0 S1 R0 R1 K0 K1 T0 T1 x y w) (i t U0 U1 : Nat) (hu : (i = 0 ∧ U0 = t ∧ U1 = T1) ∨ (i = 1 ∧ U0 = T0 ∧ U1 = t)) :
    BoW w0 bs br bk ls th p q S0 S1 R0 R1 K0 K1 U0 U1 x y (w.setCell ⟨th, i, none⟩ (.int .i64 (t : Int))) := by
  have hx := Blk.exc th i (.int .i64 (t : Int)) w
  have h1 := h.lt
  have h2 := h.lo
  refine ⟨⟨h.pr.one.exc hx fun k hk => (h.off k (.inl hk)).2, h.pr.two.exc hx fun k hk => (h.off k (.inr hk)).2, h.pr.off, h.pr.lo1, h.pr.lo2, h.pr.bel.trans (hx.below h.pr.bel.size fun k _ hk => by omega)⟩,
    h.os.exc hx fun hk => by omega, h.or.exc hx fun hk => by omega, h.ok.exc hx fun hk => by omega, h.ol.exc hx fun hk => h2.2.2 hk, ?_, h.off, h1, h2⟩
  have := h.ot.set i (.int .i64 (t : Int))
  rcases hu with ⟨rfl, rfl, rfl⟩ | ⟨rfl, rfl, rfl⟩ <;> exact this
/-- One of two, by the side. -/
def pick {A : Type} (i : Nat) (a b : A) : A := if i = 0 then a else b
theorem pick0 {A : Type} (a b : A) : pick 0 a b = a := rfl
theorem pick1 {A : Type} (a b : A) : pick 1 a b = b := rfl
theorem BoW.actS {w0 w w' : World} {bs br bk ls th p q S0 S1 R0 R1 K0 K1 T0 T1 : Nat} {x y x' : Ed} {i : Nat} (hi : i < 2) (h : BoW w0 bs br bk ls th p q S0 S1 R0 R1 K0 K1 T0 T1 (pick i x y) (pick i y x) w) (ht : EdTo w (pick i p q) x x' w') : BoW w0 bs br bk ls th p q S0 S1 R0 R1 K0 K1 T0 T1 (pick i x' y) (pick i y x') w' := by
  rcases (by omega : i = 0 ∨ i = 1) with rfl | rfl
  · exact h.act1 ht
  · exact h.act2 ht
theorem BoW.actR {w0 w w' : World} {bs br bk ls th p q S0 S1 R0 R1 K0 K1 T0 T1 : Nat} {x y y' : Ed} {i : Nat} (hi : i < 2) (h : BoW w0 bs br bk ls th p q S0 S1 R0 R1 K0 K1 T0 T1 (pick i x y) (pick i y x) w) (ht : EdTo w (pick i q p) y y' w') : BoW w0 bs br bk ls th p q S0 S1 R0 R1 K0 K1 T0 T1 (pick i x y') (pick i y' x) w' := by
  rcases (by omega : i = 0 ∨ i = 1) with rfl | rfl
  · exact h.act2 ht
  · exact h.act1 ht
theorem BoW.getS {w0 w : World} {bs br bk ls th p q S0 S1 R0 R1 K0 K1 T0 T1 : Nat} {x y : Ed} {i : Nat} (hi : i < 2) (h : BoW w0 bs br bk ls th p q S0 S1 R0 R1 K0 K1 T0 T1 (pick i x y) (pick i y x) w) : EdAt w (pick i p q) x := by
  rcases (by omega : i = 0 ∨ i = 1) with rfl | rfl
  · exact h.pr.one
  · exact h.pr.two
theorem BoW.getR {w0 w : World} {bs br bk ls th p q S0 S1 R0 R1 K0 K1 T0 T1 : Nat} {x y : Ed} {i : Nat} (hi : i < 2) (h : BoW w0 bs br bk ls th p q S0 S1 R0 R1 K0 K1 T0 T1 (pick i x y) (pick i y x) w) : EdAt w (pick i q p) y := by
  rcases (by omega : i = 0 ∨ i = 1) with rfl | rfl
  · exact h.pr.two
  · exact h.pr.one
/-- The cells that a round reads. -/
theorem BoW.read {w0 w : World} {bs br bk ls th p q S0 S1 R0 R1 K0 K1 T0 T1 : Nat} {x y : Ed} (h : BoW w0 bs br bk ls th p q S0 S1 R0 R1 K0 K1 T0 T1 x y w) {i : Nat} (hi : i < 2) :
    w.cell? ⟨bs, i, none⟩ = some (.int .u16 ((pick i S0 S1 : Nat) : Int)) ∧ w.cell? ⟨br, i, none⟩ = some (.int .u16 ((pick i R0 R1 : Nat) : Int)) ∧ w.cell? ⟨bk, i, none⟩ = some (.int .u16 ((pick i K0 K1 : Nat) : Int)) ∧
      w.cell? ⟨ls, i, none⟩ = some (.pointer (some ⟨pick i p q, 0, none⟩)) ∧ w.cell? ⟨ls, 1 - i, none⟩ = some (.pointer (some ⟨pick i q p, 0, none⟩)) ∧ w.cell? ⟨th, i, none⟩ = some (.int .i64 ((pick i T0 T1 : Nat) : Int)) ∧ w.frozen? ⟨th, i, none⟩ = false := by
  rcases (by omega : i = 0 ∨ i = 1) with rfl | rfl
  · exact ⟨h.os.cell 0 (by simp), h.or.cell 0 (by simp), h.ok.cell 0 (by simp), h.ol.cell 0 (by simp), h.ol.cell 1 (by simp), h.ot.cell 0 (by simp), h.ot.frozen 0⟩
  · exact ⟨h.os.cell 1 (by simp), h.or.cell 1 (by simp), h.ok.cell 1 (by simp), h.ol.cell 1 (by simp), h.ol.cell 0 (by simp), h.ot.cell 1 (by simp), h.ot.frozen 1⟩
/-- Where the outer loop stands: n sent, t arrived, k known, at each side. -/
def Ph (n0 n1 t0 t1 k0 k1 : Nat) (i : Nat) (x y : Ed) (T0 T1 : Nat) : Prop :=
  (i = 0 ∧ Nu x 0 0 0 0 ∧ Nu y 0 0 0 0 ∧ T0 = 0 ∧ T1 = 0) ∨ (i = 1 ∧ Nu x 0 n0 k0 0 ∧ Nu y 0 0 0 t0 ∧ T0 = t0 ∧ T1 = 0) ∨ (i = 2 ∧ Nu x 0 n0 k0 t1 ∧ Nu y 0 n1 k1 t0 ∧ T0 = t0 ∧ T1 = t1)
/-- What a round finds. -/
theorem Ph.open {n0 n1 t0 t1 k0 k1 i T0 T1 : Nat} {x y : Ed} (h : Ph n0 n1 t0 t1 k0 k1 i x y T0 T1) (hi : i < 2) :
    ∃ xs xr L N A, x = pick i xs xr ∧ y = pick i xr xs ∧ Nu xs 0 0 0 L ∧ Nu xr 0 N A 0 ∧ (∀ xs' xr', Nu xs' 0 (pick i n0 n1) (pick i k0 k1) L → Nu xr' 0 N A (pick i t0 t1) → Ph n0 n1 t0 t1 k0 k1 (i + 1) (pick i xs' xr') (pick i xr' xs') (pick i (pick i t0 t1) T0) (pick i T1 (pick i t0 t1))) := by
  rcases h with ⟨rfl, h1, h2, h3, h4⟩ | ⟨rfl, h1, h2, h3, h4⟩ | ⟨rfl, _⟩
  · exact ⟨x, y, 0, 0, 0, rfl, rfl, h1, h2, fun xs' xr' g1 g2 => .inr (.inl ⟨rfl, g1, g2, rfl, h4⟩)⟩
  · exact ⟨y, x, t0, n0, k0, rfl, rfl, h2, h1, fun xs' xr' g1 g2 => .inr (.inr ⟨rfl, g2, g1, h3, rfl⟩)⟩
  · omega
theorem BoW.start {w0 w1 w2 : World} {bs br bk S0 S1 R0 R1 K0 K1 : Nat} (h1 : EdAt w1 w0.heap.size Ed.fresh) (b1 : Below w0.heap.size w0 w1) (h2 : EdAt w2 w1.heap.size Ed.fresh) (b2 : Below w1.heap.size w1 w2)
    (os : Own w0 bs 23 [.int .u16 (S0 : Int), .int .u16 (S1 : Int)]) (or : Own w0 br 23 [.int .u16 (R0 : Int), .int .u16 (R1 : Int)]) (ok : Own w0 bk 23 [.int .u16 (K0 : Int), .int .u16 (K1 : Int)]) :
    BoW w0 bs br bk w2.heap.size (w2.heap.size + 1) w0.heap.size w1.heap.size S0 S1 R0 R1 K0 K1 0 0 Ed.fresh Ed.fresh
      ((w2.alloc (.cells #[.pointer (some ⟨w0.heap.size, 0, none⟩), .pointer (some ⟨w1.heap.size, 0, none⟩)] 24)).alloc (.cells #[.int .i64 0, .int .i64 0] 27)) := by
  have hp := Pr.start h1 b1 h2 b2
  have hb3 : Below w2.heap.size w2 ((w2.alloc (.cells #[.pointer (some ⟨w0.heap.size, 0, none⟩), .pointer (some ⟨w1.heap.size, 0, none⟩)] 24)).alloc (.cells #[.int .i64 0, .int .i64 0] 27)) := (below_alloc _ _).trans ((below_alloc _ _).mono (by simp))
  have hb : Below w0.heap.size w0 ((w2.alloc (.cells #[.pointer (some ⟨w0.heap.size, 0, none⟩), .pointer (some ⟨w1.heap.size, 0, none⟩)] 24)).alloc (.cells #[.int .i64 0, .int .i64 0] 27)) := hp.bel.trans (hb3.mono hp.bel.size)
  have l1 := h1.own.lt
  have l2 := h2.own.lt
  have l3 := b2.size
  have l4 := hp.bel.size
  refine ⟨hp.more hb3, os.below hb os.lt, or.below hb or.lt, ok.below hb ok.lt, (own_lit w2 _ _ _ rfl).below (below_alloc _ _) (by simp), ?_, fun k hk => ?_, ⟨os.lt, or.lt, ok.lt⟩, ⟨l4, by omega, by omega⟩⟩
  · have := own_lit (w2.alloc (.cells #[.pointer (some ⟨w0.heap.size, 0, none⟩), .pointer (some ⟨w1.heap.size, 0, none⟩)] 24)) 27 #[.int .i64 0, .int .i64 0] _ rfl
    rw [World.size_alloc] at this
    exact this
  · rcases hk with hk | hk
    · have := fresh_S _ _ hk; omega
    · have := fresh_S _ _ hk; omega
end Go.Proofs.Ytlmkmgfnfcnoaaa
