/- Gates of layer 17 in the heap, as plain data. -/
import Derived.Test.YtnkpmjkbkdnfjaaChIt
namespace Go.Proofs.Ytnkpmjkbkdnfjaa
open Go.RowKit

/-- A way. -/
structure Wy where
  nx : Int
  la : Int
  lb : Int
  lc : Int
theorem Wy.ext4 {y z : Wy} (h0 : y.nx = z.nx) (h1 : y.la = z.la) (h2 : y.lb = z.lb) (h3 : y.lc = z.lc) : y = z := by
  cases y; cases z
  simp only at h0 h1 h2 h3
  subst h0 h1 h2 h3
  rfl
instance : DecidableEq Wy := fun y z =>
  if h : y.nx = z.nx ∧ y.la = z.la ∧ y.lb = z.lb ∧ y.lc = z.lc then isTrue (Wy.ext4 h.1 h.2.1 h.2.2.1 h.2.2.2)
  else isFalse (fun e => h (by rw [e]; exact ⟨rfl, rfl, rfl, rfl⟩))
def encW (y : Wy) : List Value := [.int .u16 y.nx, .int .u16 y.la, .int .u16 y.lb, .int .u8 y.lc]
/-- A gate: its hold time, the held items and where they lie, its phase, its last way and tick. -/
structure Gt where
  hold : Int
  its : List It
  ph : Nat
  wy : Wy
  last : Int
  g : Option Nat
  a : Option Addr
  c : Nat
def Gt.fresh (h : Int) : Gt := ⟨h, [], 1, ⟨0, 0, 0, 0⟩, 0, none, none, 0⟩
def gtCells (x : Gt) : List Value := [.int .i64 x.hold, .slice x.a x.its.length x.c, .int .u8 (x.ph : Int), .int .u16 x.wy.nx, .int .u16 x.wy.la, .int .u16 x.wy.lb, .int .u8 x.wy.lc, .int .i64 x.last]
/-- From which tick on every way is free. -/
def Gt.due (x : Gt) : Int := if 9223372036854775807 - x.hold < x.last then 9223372036854775807 else x.last + x.hold
/-- A way is free at a tick. -/
def Gt.free (x : Gt) (now : Int) (y : Wy) : Prop := x.ph ≠ 3 ∧ (x.ph = 1 ∨ y = x.wy ∨ (x.ph = 4 ∧ y.nx = x.wy.nx) ∨ x.due ≤ now)
instance (x : Gt) (now : Int) (y : Wy) : Decidable (x.free now y) := by unfold Gt.free; infer_instance
/-- The blocks that a gate writes. -/
def Gt.T (x : Gt) (b k : Nat) : Prop := k = b ∨ x.g = some k
/-- The blocks that are a gate's. -/
def Gt.S (x : Gt) (b k : Nat) : Prop := x.T b k ∨ ∃ y ∈ x.its, ∃ z, y.loc = some z ∧ z.block = k
structure GtAt (w : World) (b : Nat) (x : Gt) : Prop where
  own : Own w b 71 (gtCells x)
  buf : Buf w 56 8 x.g x.a x.its.length x.c (cellsIt x.its)
  its : ItsAt w (x.T b) x.its
  gb : ∀ k, x.g = some k → k ≠ b
  few : x.its.length ≤ 60000
  ph1 : 1 ≤ x.ph
  ph4 : x.ph ≤ 4
  hold : 0 ≤ x.hold ∧ x.hold ≤ 9223372036854775807
  wf : -9223372036854775808 ≤ x.last ∧ x.last ≤ 9223372036854775807
theorem GtAt.lt {w : World} {b : Nat} {x : Gt} (h : GtAt w b x) : ∀ k, x.S b k → k < w.heap.size := by
  rintro k ((rfl | hk) | ⟨y, hy, z, hz, rfl⟩)
  · exact h.own.lt
  · exact h.buf.lt hk
  · exact (h.its.off y hy z hz).2
theorem GtAt.exc {T : Nat → Prop} {w w' : World} {b : Nat} {x : Gt} (h : GtAt w b x) (hx : Exc T w w') (hn : ∀ k, x.S b k → ¬ T k) : GtAt w' b x :=
  ⟨h.own.exc hx (hn b (.inl (.inl rfl))), h.buf.exc hx (fun k hk => hn k (.inl (.inr hk))), h.its.exc' hx (fun y hy z hz => hn _ (.inr ⟨y, hy, z, hz, rfl⟩)), h.gb, h.few, h.ph1, h.ph4, h.hold, h.wf⟩
theorem GtAt.later {w w' : World} {b : Nat} {x : Gt} (h : GtAt w b x) (hb : Below w.heap.size w w') : GtAt w' b x := h.exc (T := fun _ => False) (Exc.of_below hb) (fun _ _ hh => hh)
theorem GtAt.cells {w : World} {b : Nat} {x : Gt} (h : GtAt w b x) :
    w.cell? ⟨b, 0, none⟩ = some (.int .i64 x.hold) ∧ w.cell? ⟨b, 1, none⟩ = some (.slice x.a x.its.length x.c) ∧ w.cell? ⟨b, 2, none⟩ = some (.int .u8 (x.ph : Int)) ∧ w.cell? ⟨b, 3, none⟩ = some (.int .u16 x.wy.nx) ∧ w.cell? ⟨b, 4, none⟩ = some (.int .u16 x.wy.la) ∧ w.cell? ⟨b, 5, none⟩ = some (.int .u16 x.wy.lb) ∧ w.cell? ⟨b, 6, none⟩ = some (.int .u8 x.wy.lc) ∧ w.cell? ⟨b, 7, none⟩ = some (.int .i64 x.last) :=
  ⟨h.own.cell 0 (by simp [gtCells]), h.own.cell 1 (by simp [gtCells]), h.own.cell 2 (by simp [gtCells]), h.own.cell 3 (by simp [gtCells]), h.own.cell 4 (by simp [gtCells]), h.own.cell 5 (by simp [gtCells]), h.own.cell 6 (by simp [gtCells]), h.own.cell 7 (by simp [gtCells])⟩
/-- An act: the gate at b was x and is x' now. -/
structure GtTo (w : World) (b : Nat) (x x' : Gt) (w' : World) : Prop where
  now : GtAt w' b x'
  exc : Exc (x.T b) w w'
  lies : ∀ k, x'.S b k → x.S b k ∨ w.heap.size ≤ k
theorem GtTo.refl {w : World} {b : Nat} {x : Gt} (h : GtAt w b x) : GtTo w b x x w := ⟨h, Exc.refl _ _, fun _ hk => .inl hk⟩
theorem GtTo.drawN {w w' : World} {b : Nat} {x x' : Gt} (h : GtTo w b x x' w') (q : Nat) : GtTo w b x x' (w'.drewN q) := ⟨h.now.later (below_draw w' q), h.exc.drawN q, h.lies⟩
theorem GtTo.more {w w' w2 : World} {b : Nat} {x x' : Gt} (h : GtTo w b x x' w') (hb : Below w'.heap.size w' w2) : GtTo w b x x' w2 := ⟨h.now.later hb, h.exc.trans (S' := fun _ => False) (Exc.of_below hb) (fun _ _ hh => hh.elim), h.lies⟩
/-- First only what there was not has turned. -/
theorem GtTo.after {w w1 w2 : World} {b : Nat} {x x' : Gt} (h : GtTo w1 b x x' w2) (hb : Below w.heap.size w w1) : GtTo w b x x' w2 :=
  ⟨h.now, (Exc.of_below hb).trans h.exc (fun _ _ hk => hk), fun k hk => by
    rcases h.lies k hk with h5 | h5
    · exact .inl h5
    · exact .inr (Nat.le_trans hb.size h5)⟩
/-- Only the gate's own block has turned, not its list of items. -/
theorem GtAt.redo {w w' : World} {b : Nat} {x x' : Gt} (h : GtAt w b x) (hx : Exc (fun k => k = b) w w') (ho : Own w' b 71 (gtCells x')) (h1 : x'.its = x.its) (h2 : x'.g = x.g) (h3 : x'.a = x.a) (h4 : x'.c = x.c)
    (h5 : x'.hold = x.hold) (ph1 : 1 ≤ x'.ph) (ph4 : x'.ph ≤ 4) (wf : -9223372036854775808 ≤ x'.last ∧ x'.last ≤ 9223372036854775807) : GtTo w b x x' w' := by
  have e : x'.T b = x.T b := by unfold Gt.T; rw [h2]
  refine ⟨⟨ho, ?_, ?_, by rw [h2]; exact h.gb, by rw [h1]; exact h.few, ph1, ph4, by rw [h5]; exact h.hold, wf⟩, hx.weak (fun k _ hk => .inl hk), fun k hk => .inl ?_⟩
  · rw [h1, h2, h3, h4]; exact h.buf.exc hx (fun k hk => h.gb k hk)
  · rw [h1, e]; exact h.its.exc hx (fun k hk => .inl hk)
  · unfold Gt.S at hk ⊢; rw [e, h1] at hk; exact hk
/-- Its items went out: they lie in blocks that are the gate's no more. -/
structure GtOut (w : World) (b : Nat) (x x' : Gt) (w' : World) : Prop where
  act : GtTo w b x x' w'
  its : ItsIn w' (fun k => x.S b k ∧ k ≠ b) x.a x.its
  off : ∀ k, x'.S b k → k = b
theorem GtAt.out {w w' : World} {b : Nat} {x x' : Gt} (h : GtAt w b x) (hx : Exc (fun k => k = b) w w') (ho : Own w' b 71 (gtCells x')) (h1 : x'.its = []) (h2 : x'.g = none) (h3 : x'.a = none) (h4 : x'.c = 0)
    (h5 : x'.hold = x.hold) (ph1 : 1 ≤ x'.ph) (ph4 : x'.ph ≤ 4) (wf : -9223372036854775808 ≤ x'.last ∧ x'.last ≤ 9223372036854775807) : GtOut w b x x' w' := by
  have key : ∀ k, x'.S b k → k = b := by
    rintro k ((rfl | hk) | ⟨y, hy, _⟩)
    · rfl
    · rw [h2] at hk; cases hk
    · rw [h1] at hy; cases hy
  refine ⟨⟨⟨ho, ?_, ?_, ?_, ?_, ph1, ph4, by rw [h5]; exact h.hold, wf⟩, hx.weak (fun k _ hk => .inl hk), fun k hk => .inl (.inl (.inl (key k hk)))⟩, ⟨⟨x.g, ?_, fun k hk => ⟨.inl (.inr hk), h.gb k hk⟩⟩, fun y hy => ?_, fun y hy z hz => ⟨.inr ⟨y, hy, z, hz, rfl⟩, fun hh => (h.its.off y hy z hz).1 (.inl hh)⟩⟩, key⟩
  · rw [h1, h2, h3, h4]; exact Buf.nil _ _ _
  · rw [h1]; exact ItsAt.nil _ _
  · rw [h2]; exact fun k hk => (by cases hk)
  · rw [h1]; exact Nat.zero_le _
  · exact (h.buf.exc hx (fun k hk => h.gb k hk)).clip
  · exact (h.its.row y hy).exc hx fun z hz hk => (h.its.off y hy z hz).1 (.inl hk)
end Go.Proofs.Ytnkpmjkbkdnfjaa
