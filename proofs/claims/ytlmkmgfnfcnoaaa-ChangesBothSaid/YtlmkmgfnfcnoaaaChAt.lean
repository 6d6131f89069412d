/- Items and ends of layer 16 in the heap, as plain data. -/
import Derived.Test.YtlmkmgfnfcnoaaaUnBase
import Derived.Test.YtlmkmgfnfcnoaaaBuf
import Derived.Test.YtlmkmgfnfcnoaaaBlk
namespace Go.Proofs.Ytlmkmgfnfcnoaaa
open Go.RowKit

/-- An item, with the address of its contents. -/
structure It where
  num : Int
  sv : Int
  nw : Int
  pr : Int
  tp : Int
  fr : Int
  sl : Int
  dat : List Int
  loc : Option Addr
def encIt (y : It) : List Value := [.int .i64 y.num, .int .u8 y.sv, .int .u8 y.nw, .int .u8 y.pr, .int .u16 y.tp, .int .u16 y.fr, .int .u8 y.sl, .slice y.loc y.dat.length y.dat.length]
def cellsIt (l : List It) : List Value := l.flatMap encIt
theorem encIt_length (y : It) : (encIt y).length = 8 := rfl
theorem cellsIt_length (l : List It) : (cellsIt l).length = l.length * 8 := by
  induction l with
  | nil => rfl
  | cons y l ih => simp only [cellsIt, List.flatMap_cons, List.length_append, encIt_length, List.length_cons] at ih ⊢; omega
theorem cellsIt_append (l k : List It) : cellsIt (l ++ k) = cellsIt l ++ cellsIt k := by simp [cellsIt]
theorem cellsIt_one (y : It) : cellsIt [y] = encIt y := by simp [cellsIt]
theorem cellsIt_drop (l : List It) (p : Nat) : (cellsIt l).drop (p * 8) = cellsIt (l.drop p) := by
  induction l generalizing p with
  | nil => simp [cellsIt]
  | cons y l ih =>
    cases p with
    | zero => simp
    | succ p =>
      rw [List.drop_succ_cons, ← ih p, show (p + 1) * 8 = 8 + p * 8 by omega, ← List.drop_drop]
      rfl
theorem cellsIt_getD (l : List It) {i j : Nat} (d : It) (hi : i < l.length) (hj : j < 8) : (cellsIt l).getD (i * 8 + j) undef = (encIt (l.getD i d)).getD j undef := by
  induction l generalizing i with
  | nil => simp at hi
  | cons y l ih =>
    cases i with
    | zero =>
      rw [Nat.zero_mul, Nat.zero_add]
      show (encIt y ++ cellsIt l).getD j undef = (encIt y).getD j undef
      exact getD_append_left (by rw [encIt_length]; exact hj)
    | succ i =>
      have hh : i < l.length := by simp at hi; omega
      show (encIt y ++ cellsIt l).getD ((i + 1) * 8 + j) undef = (encIt (l.getD i d)).getD j undef
      rw [getD_append_right (by rw [encIt_length]; omega), encIt_length, show (i + 1) * 8 + j - 8 = i * 8 + j by omega]
      exact ih hh
theorem encIt_one (y : It) : ∀ u ∈ encIt y, u.oneCell' = true := by
  intro u hu
  simp only [encIt, List.mem_cons, List.not_mem_nil, or_false] at hu
  rcases hu with rfl | rfl | rfl | rfl | rfl | rfl | rfl | rfl <;> rfl
theorem und_it : Try.prog.underlying 42 = some (.slice 38) := Try.underlying42
theorem elem_it : Try.prog.elem 42 = 38 := by kernel_rfl
theorem und_it2 : Try.prog.underlying 42 = some (.slice (Try.prog.elem 42)) := by rw [elem_it]; exact und_it
def zeroIt : List Value := [.int .i64 0, .int .u8 0, .int .u8 0, .int .u8 0, .int .u16 0, .int .u16 0, .int .u8 0, .slice none 0 0]
theorem info_it : (Try.prog.info? 38).map (fun i => (i.zero, i.size, i.bytes)) = some (some (.agg zeroIt.toArray), 8, 48) := by kernel_rfl
theorem size_it (w : World) : (sizeOf 38).run Try.prog w = .ok 8 w := by
  obtain ⟨i, hi, _, hs, _⟩ := info_parts info_it
  simp [sizeOf, typeInfo, hi, hs]
/-- An end: its state, the items it retains, what has arrived there and here, the tick of its failure; where its items lie. -/
structure Ed where
  st : Nat
  its : List It
  acked : Nat
  last : Nat
  failed : Int
  g : Option Nat
  a : Option Addr
  c : Nat
def Ed.fresh : Ed := ⟨0, [], 0, 0, 0, none, none, 0⟩
def edCells (x : Ed) : List Value := [.bool true, .int .u8 (x.st : Int), .slice x.a x.its.length x.c, .int .i64 (x.acked : Int), .int .i64 (x.last : Int), .int .i64 x.failed]
/-- The contents of items, outside the blocks of T. -/
structure ItsAt (w : World) (T : Nat → Prop) (l : List It) : Prop where
  row : ∀ y ∈ l, Row .u8 w y.loc y.dat.length y.dat.length y.dat
  off : ∀ y ∈ l, ∀ z, y.loc = some z → ¬ T z.block ∧ z.block < w.heap.size
theorem ItsAt.nil (w : World) (T : Nat → Prop) : ItsAt w T [] := ⟨by simp, by simp⟩
theorem ItsAt.exc {T S : Nat → Prop} {w w' : World} {l : List It} (h : ItsAt w T l) (hx : Exc S w w') (hs : ∀ k, S k → T k) : ItsAt w' T l :=
  ⟨fun y hy => (h.row y hy).exc hx fun z hz hk => (h.off y hy z hz).1 (hs _ hk), fun y hy z hz => ⟨(h.off y hy z hz).1, Nat.lt_of_lt_of_le (h.off y hy z hz).2 hx.size⟩⟩
theorem ItsAt.exc' {T S : Nat → Prop} {w w' : World} {l : List It} (h : ItsAt w T l) (hx : Exc S w w') (hs : ∀ y ∈ l, ∀ z, y.loc = some z → ¬ S z.block) : ItsAt w' T l :=
  ⟨fun y hy => (h.row y hy).exc hx fun z hz hk => hs y hy z hz hk, fun y hy z hz => ⟨(h.off y hy z hz).1, Nat.lt_of_lt_of_le (h.off y hy z hz).2 hx.size⟩⟩
theorem ItsAt.part {T : Nat → Prop} {w : World} {l k : List It} (h : ItsAt w T l) (hk : ∀ y ∈ k, y ∈ l) : ItsAt w T k := ⟨fun y hy => h.row y (hk y hy), fun y hy => h.off y (hk y hy)⟩
theorem ItsAt.turn {T T' : Nat → Prop} {w : World} {l : List It} (h : ItsAt w T l) (ht : ∀ k, k < w.heap.size → T' k → T k) : ItsAt w T' l :=
  ⟨h.row, fun y hy z hz => ⟨fun hk => (h.off y hy z hz).1 (ht _ (h.off y hy z hz).2 hk), (h.off y hy z hz).2⟩⟩
/-- The blocks that an end writes. -/
def Ed.T (x : Ed) (b k : Nat) : Prop := k = b ∨ x.g = some k
/-- The blocks that are an end's. -/
def Ed.S (x : Ed) (b k : Nat) : Prop := x.T b k ∨ ∃ y ∈ x.its, ∃ z, y.loc = some z ∧ z.block = k
structure EdAt (w : World) (b : Nat) (x : Ed) : Prop where
  own : Own w b 60 (edCells x)
  buf : Buf w 38 8 x.g x.a x.its.length x.c (cellsIt x.its)
  its : ItsAt w (x.T b) x.its
  gb : ∀ k, x.g = some k → k ≠ b
  few : x.acked + x.its.length ≤ 60000
  lst : x.last ≤ 60000
  st3 : x.st ≤ 2
  wf : -9223372036854775808 ≤ x.failed ∧ x.failed ≤ 9223372036854775807
theorem EdAt.lt {w : World} {b : Nat} {x : Ed} (h : EdAt w b x) : ∀ k, x.S b k → k < w.heap.size := by
  rintro k ((rfl | hk) | ⟨y, hy, z, hz, rfl⟩)
  · exact h.own.lt
  · exact h.buf.lt hk
  · exact (h.its.off y hy z hz).2
theorem EdAt.exc {T : Nat → Prop} {w w' : World} {b : Nat} {x : Ed} (h : EdAt w b x) (hx : Exc T w w') (hn : ∀ k, x.S b k → ¬ T k) : EdAt w' b x :=
  ⟨h.own.exc hx (hn b (.inl (.inl rfl))), h.buf.exc hx (fun k hk => hn k (.inl (.inr hk))), h.its.exc' hx (fun y hy z hz => hn _ (.inr ⟨y, hy, z, hz, rfl⟩)), h.gb, h.few, h.lst, h.st3, h.wf⟩
theorem EdAt.later {w w' : World} {b : Nat} {x : Ed} (h : EdAt w b x) (hb : Below w.heap.size w w') : EdAt w' b x := h.exc (T := fun _ => False) (Exc.of_below hb) (fun _ _ hh => hh)
theorem EdAt.cells {w : World} {b : Nat} {x : Ed} (h : EdAt w b x) :
    w.cell? ⟨b, 0, none⟩ = some (.bool true) ∧ w.cell? ⟨b, 1, none⟩ = some (.int .u8 (x.st : Int)) ∧ w.cell? ⟨b, 2, none⟩ = some (.slice x.a x.its.length x.c) ∧ w.cell? ⟨b, 3, none⟩ = some (.int .i64 (x.acked : Int)) ∧ w.cell? ⟨b, 4, none⟩ = some (.int .i64 (x.last : Int)) ∧ w.cell? ⟨b, 5, none⟩ = some (.int .i64 x.failed) :=
  ⟨h.own.cell 0 (by simp [edCells]), h.own.cell 1 (by simp [edCells]), h.own.cell 2 (by simp [edCells]), h.own.cell 3 (by simp [edCells]), h.own.cell 4 (by simp [edCells]), h.own.cell 5 (by simp [edCells])⟩
/-- An act: the end at b was x and is x' now. -/
structure EdTo (w : World) (b : Nat) (x x' : Ed) (w' : World) : Prop where
  now : EdAt w' b x'
  exc : Exc (x.T b) w w'
  lies : ∀ k, x'.S b k → x.S b k ∨ w.heap.size ≤ k
theorem EdTo.refl {w : World} {b : Nat} {x : Ed} (h : EdAt w b x) : EdTo w b x x w := ⟨h, Exc.refl _ _, fun _ hk => .inl hk⟩
theorem EdTo.trans {w w1 w2 : World} {b : Nat} {x x1 x2 : Ed} (h : EdTo w b x x1 w1) (k : EdTo w1 b x1 x2 w2) (hT : ∀ i, x1.T b i → x.T b i ∨ w.heap.size ≤ i) : EdTo w b x x2 w2 :=
  ⟨k.now, h.exc.trans k.exc fun i hi hh => by rcases hT i hh with h | h; exact h; omega,
   fun i hi => by
    rcases k.lies i hi with hh | hh
    · exact h.lies i hh
    · have := h.exc.size; exact .inr (by omega)⟩
theorem EdTo.drawN {w w' : World} {b : Nat} {x x' : Ed} (h : EdTo w b x x' w') (q : Nat) : EdTo w b x x' (w'.drewN q) := ⟨h.now.later (below_draw w' q), h.exc.drawN q, h.lies⟩
theorem EdTo.more {w w' w2 : World} {b : Nat} {x x' : Ed} (h : EdTo w b x x' w') (hb : Below w'.heap.size w' w2) : EdTo w b x x' w2 := ⟨h.now.later hb, h.exc.trans (S' := fun _ => False) (Exc.of_below hb) (fun _ _ hh => hh.elim), h.lies⟩
/-- Another end that stands aside keeps. -/
theorem EdTo.other {w w' : World} {b c : Nat} {x x' y : Ed} (h : EdTo w b x x' w') (hy : EdAt w c y) (ha : ∀ k, x.S b k → ¬ y.S c k) : EdAt w' c y ∧ ∀ k, x'.S b k → ¬ y.S c k :=
  ⟨hy.exc h.exc fun k hk ht => ha k (.inl ht) hk, fun k hk hy2 => by
    rcases h.lies k hk with h1 | h1
    · exact ha k h1 hy2
    · have := hy.lt k hy2; omega⟩
/-- Only the end's own block has turned, not its list of items. -/
theorem EdAt.redo {w w' : World} {b : Nat} {x x' : Ed} (h : EdAt w b x) (hx : Exc (fun k => k = b) w w') (ho : Own w' b 60 (edCells x')) (h1 : x'.its = x.its) (h2 : x'.g = x.g) (h3 : x'.a = x.a) (h4 : x'.c = x.c)
    (few : x'.acked + x'.its.length ≤ 60000) (lst : x'.last ≤ 60000) (st3 : x'.st ≤ 2) (wf : -9223372036854775808 ≤ x'.failed ∧ x'.failed ≤ 9223372036854775807) : EdTo w b x x' w' := by
  have e : x'.T b = x.T b := by unfold Ed.T; rw [h2]
  refine ⟨⟨ho, ?_, ?_, by rw [h2]; exact h.gb, few, lst, st3, wf⟩, hx.weak (fun k _ hk => .inl hk), fun k hk => .inl ?_⟩
  · rw [h1, h2, h3, h4]; exact h.buf.exc hx (fun k hk => h.gb k hk)
  · rw [h1, e]; exact h.its.exc hx (fun k hk => .inl hk)
  · unfold Ed.S at hk ⊢; rw [e, h1] at hk; exact hk
/-- The end without items. -/
theorem EdAt.empty {w w' : World} {b : Nat} {x y : Ed} (_h : EdAt w b x) (hx : Exc (fun k => k = b) w w') (ho : Own w' b 60 (edCells y)) (h1 : y.its = []) (h2 : y.g = none) (h3 : y.a = none) (h4 : y.c = 0)
    (few : y.acked ≤ 60000) (lst : y.last ≤ 60000) (st3 : y.st ≤ 2) (wf : -9223372036854775808 ≤ y.failed ∧ y.failed ≤ 9223372036854775807) : EdTo w b x y w' := by
  refine ⟨⟨ho, ?_, ?_, by rw [h2]; exact fun k hk => (nomatch hk), by rw [h1]; exact few, lst, st3, wf⟩, hx.weak (fun k _ hk => .inl hk), fun k hk => ?_⟩
  · rw [h1, h2, h3, h4]; exact Buf.nil _ _ _
  · rw [h1]; exact ItsAt.nil _ _
  · rcases hk with (hk | hk) | ⟨z, hz, _⟩
    · exact .inl (.inl (.inl hk))
    · rw [h2] at hk; cases hk
    · rw [h1] at hz; cases hz
/-- First only what there was not has turned. -/
theorem EdTo.after {w w1 w2 : World} {b : Nat} {x x' : Ed} (h : EdTo w1 b x x' w2) (hb : Below w.heap.size w w1) : EdTo w b x x' w2 :=
  ⟨h.now, (Exc.of_below hb).trans h.exc (fun _ _ hk => hk), fun k hk => by
    rcases h.lies k hk with h5 | h5
    · exact .inl h5
    · exact .inr (Nat.le_trans hb.size h5)⟩
/-- Items that a slice without spare leads to; they lie in blocks of P. -/
structure ItsIn (w : World) (P : Nat → Prop) (a : Option Addr) (l : List It) : Prop where
  buf : ∃ g, Buf w 38 8 g a l.length l.length (cellsIt l) ∧ ∀ k, g = some k → P k
  row : ∀ y ∈ l, Row .u8 w y.loc y.dat.length y.dat.length y.dat
  loc : ∀ y ∈ l, ∀ z, y.loc = some z → P z.block
theorem ItsIn.exc {S P : Nat → Prop} {w w' : World} {a : Option Addr} {l : List It} (h : ItsIn w P a l) (hx : Exc S w w') (hn : ∀ k, P k → ¬ S k) : ItsIn w' P a l := by
  obtain ⟨g, hb, hg⟩ := h.buf
  exact ⟨⟨g, hb.exc hx (fun k hk => hn k (hg k hk)), hg⟩, fun y hy => (h.row y hy).exc hx (fun z hz => hn _ (h.loc y hy z hz)), h.loc⟩
theorem ItsIn.later {P : Nat → Prop} {w w' : World} {a : Option Addr} {l : List It} (h : ItsIn w P a l) (hb : Below w.heap.size w w') : ItsIn w' P a l := h.exc (S := fun _ => False) (Exc.of_below hb) (fun _ _ hh => hh)
end Go.Proofs.Ytlmkmgfnfcnoaaa
