/- Items (changes.Item) in the heap, as plain data. -/
import Derived.Test.YtnkpmjkbkdnfjaaUnBase
import Derived.Test.YtnkpmjkbkdnfjaaBuf
import Derived.Test.YtnkpmjkbkdnfjaaBlk
namespace Go.Proofs.Ytnkpmjkbkdnfjaa
open Go.RowKit

/-- An item, with the address of its contents. -/
structure It where
  num : Int
  sv : Int
  nw : Int
  pr : Int
  tp : Int
  fr : Int
  sl : Int
  dat : List Int
  loc : Option Addr
def encIt (y : It) : List Value := [.int .i64 y.num, .int .u8 y.sv, .int .u8 y.nw, .int .u8 y.pr, .int .u16 y.tp, .int .u16 y.fr, .int .u8 y.sl, .slice y.loc y.dat.length y.dat.length]
def cellsIt (l : List It) : List Value := l.flatMap encIt
theorem encIt_length (y : It) : (encIt y).length = 8 := rfl
theorem cellsIt_length (l : List It) : (cellsIt l).length = l.length * 8 := by
  induction l with
  | nil => rfl
  | cons y l ih => simp only [cellsIt, List.flatMap_cons, List.length_append, encIt_length, List.length_cons] at ih ⊢; omega
theorem cellsIt_append (l k : List It) : cellsIt (l ++ k) = cellsIt l ++ cellsIt k := by simp [cellsIt]
theorem cellsIt_one (y : It) : cellsIt [y] = encIt y := by simp [cellsIt]
theorem cellsIt_drop (l : List It) (p : Nat) : (cellsIt l).drop (p * 8) = cellsIt (l.drop p) := by
  induction l generalizing p with
  | nil => simp [cellsIt]
  | cons y l ih =>
    cases p with
    | zero => simp
    | succ p =>
      rw [List.drop_succ_cons, ← ih p, show (p + 1) * 8 = 8 + p * 8 by omega, ← List.drop_drop]
      rfl
theorem cellsIt_getD (l : List It) {i j : Nat} (d : It) (hi : i < l.length) (hj : j < 8) : (cellsIt l).getD (i * 8 + j) undef = (encIt (l.getD i d)).getD j undef := by
  induction l generalizing i with
  | nil => simp at hi
  | cons y l ih =>
    cases i with
    | zero =>
      rw [Nat.zero_mul, Nat.zero_add]
      show (encIt y ++ cellsIt l).getD j undef = (encIt y).getD j undef
      exact getD_append_left (by rw [encIt_length]; exact hj)
    | succ i =>
      have hh : i < l.length := by simp at hi; omega
      show (encIt y ++ cellsIt l).getD ((i + 1) * 8 + j) undef = (encIt (l.getD i d)).getD j undef
      rw [getD_append_right (by rw [encIt_length]; omega), encIt_length, show (i + 1) * 8 + j - 8 = i * 8 + j by omega]
      exact ih hh
theorem encIt_one (y : It) : ∀ u ∈ encIt y, u.oneCell' = true := by
  intro u hu
  simp only [encIt, List.mem_cons, List.not_mem_nil, or_false] at hu
  rcases hu with rfl | rfl | rfl | rfl | rfl | rfl | rfl | rfl <;> rfl
theorem und_it : Try.prog.underlying 41 = some (.slice 56) := Try.underlying41
theorem elem_it : Try.prog.elem 41 = 56 := by kernel_rfl
theorem und_it2 : Try.prog.underlying 41 = some (.slice (Try.prog.elem 41)) := by rw [elem_it]; exact und_it
def zeroIt : List Value := [.int .i64 0, .int .u8 0, .int .u8 0, .int .u8 0, .int .u16 0, .int .u16 0, .int .u8 0, .slice none 0 0]
theorem info_it : (Try.prog.info? 56).map (fun i => (i.zero, i.size, i.bytes)) = some (some (.agg zeroIt.toArray), 8, 48) := by kernel_rfl
theorem size_it (w : World) : (sizeOf 56).run Try.prog w = .ok 8 w := by
  obtain ⟨i, hi, _, hs, _⟩ := info_parts info_it
  simp [sizeOf, typeInfo, hi, hs]
/-- The contents of items, outside the blocks of T. -/
structure ItsAt (w : World) (T : Nat → Prop) (l : List It) : Prop where
  row : ∀ y ∈ l, Row .u8 w y.loc y.dat.length y.dat.length y.dat
  off : ∀ y ∈ l, ∀ z, y.loc = some z → ¬ T z.block ∧ z.block < w.heap.size
theorem ItsAt.nil (w : World) (T : Nat → Prop) : ItsAt w T [] := ⟨by simp, by simp⟩
theorem ItsAt.exc {T S : Nat → Prop} {w w' : World} {l : List It} (h : ItsAt w T l) (hx : Exc S w w') (hs : ∀ k, S k → T k) : ItsAt w' T l :=
  ⟨fun y hy => (h.row y hy).exc hx fun z hz hk => (h.off y hy z hz).1 (hs _ hk), fun y hy z hz => ⟨(h.off y hy z hz).1, Nat.lt_of_lt_of_le (h.off y hy z hz).2 hx.size⟩⟩
theorem ItsAt.exc' {T S : Nat → Prop} {w w' : World} {l : List It} (h : ItsAt w T l) (hx : Exc S w w') (hs : ∀ y ∈ l, ∀ z, y.loc = some z → ¬ S z.block) : ItsAt w' T l :=
  ⟨fun y hy => (h.row y hy).exc hx fun z hz hk => hs y hy z hz hk, fun y hy z hz => ⟨(h.off y hy z hz).1, Nat.lt_of_lt_of_le (h.off y hy z hz).2 hx.size⟩⟩
theorem ItsAt.part {T : Nat → Prop} {w : World} {l k : List It} (h : ItsAt w T l) (hk : ∀ y ∈ k, y ∈ l) : ItsAt w T k := ⟨fun y hy => h.row y (hk y hy), fun y hy => h.off y (hk y hy)⟩
theorem ItsAt.turn {T T' : Nat → Prop} {w : World} {l : List It} (h : ItsAt w T l) (ht : ∀ k, k < w.heap.size → T' k → T k) : ItsAt w T' l :=
  ⟨h.row, fun y hy z hz => ⟨fun hk => (h.off y hy z hz).1 (ht _ (h.off y hy z hz).2 hk), (h.off y hy z hz).2⟩⟩
theorem Buf.clip {w : World} {t sz : Nat} {g : Option Nat} {a : Option Addr} {n c : Nat} {cs : List Value} (h : Buf w t sz g a n c cs) : Buf w t sz g a n n cs := by
  refine ⟨h.len, Nat.le_refl _, Nat.le_trans h.le h.max, ?_⟩
  have hle := h.le
  rcases h.lies with ⟨h1, h2, h3⟩ | ⟨k, o, rs, h1, h2, h3, h4, h5⟩
  · exact .inl ⟨h1, h2, by omega⟩
  · exact .inr ⟨k, o, rs, h1, h2, h3, by have : n * sz ≤ c * sz := Nat.mul_le_mul_right sz hle; omega, h5⟩
/-- Items that a slice without spare leads to; they lie in blocks of P. -/
structure ItsIn (w : World) (P : Nat → Prop) (a : Option Addr) (l : List It) : Prop where
  buf : ∃ g, Buf w 56 8 g a l.length l.length (cellsIt l) ∧ ∀ k, g = some k → P k
  row : ∀ y ∈ l, Row .u8 w y.loc y.dat.length y.dat.length y.dat
  loc : ∀ y ∈ l, ∀ z, y.loc = some z → P z.block
theorem ItsIn.exc {S P : Nat → Prop} {w w' : World} {a : Option Addr} {l : List It} (h : ItsIn w P a l) (hx : Exc S w w') (hn : ∀ k, P k → ¬ S k) : ItsIn w' P a l := by
  obtain ⟨g, hb, hg⟩ := h.buf
  exact ⟨⟨g, hb.exc hx (fun k hk => hn k (hg k hk)), hg⟩, fun y hy => (h.row y hy).exc hx (fun z hz => hn _ (h.loc y hy z hz)), h.loc⟩
theorem ItsIn.later {P : Nat → Prop} {w w' : World} {a : Option Addr} {l : List It} (h : ItsIn w P a l) (hb : Below w.heap.size w w') : ItsIn w' P a l := h.exc (S := fun _ => False) (Exc.of_below hb) (fun _ _ hh => hh)
theorem ItsIn.at {w : World} {P : Nat → Prop} {a : Option Addr} {l : List It} (h : ItsIn w P a l) (d : It) {i : Nat} (hi : i < l.length) :
    ∃ k o, a = some ⟨k, o, none⟩ ∧ w.cell? ⟨k, o + i * 8, none⟩ = some (.int .i64 (l.getD i d).num) ∧ w.cell? ⟨k, o + i * 8 + 1, none⟩ = some (.int .u8 (l.getD i d).sv) ∧ w.cell? ⟨k, o + i * 8 + 2, none⟩ = some (.int .u8 (l.getD i d).nw) ∧ w.cell? ⟨k, o + i * 8 + 3, none⟩ = some (.int .u8 (l.getD i d).pr) ∧
      w.cell? ⟨k, o + i * 8 + 4, none⟩ = some (.int .u16 (l.getD i d).tp) ∧ w.cell? ⟨k, o + i * 8 + 5, none⟩ = some (.int .u16 (l.getD i d).fr) ∧ w.cell? ⟨k, o + i * 8 + 6, none⟩ = some (.int .u8 (l.getD i d).sl) ∧ w.cell? ⟨k, o + i * 8 + 7, none⟩ = some (.slice (l.getD i d).loc (l.getD i d).dat.length (l.getD i d).dat.length) ∧
      Row .u8 w (l.getD i d).loc (l.getD i d).dat.length (l.getD i d).dat.length (l.getD i d).dat := by
  obtain ⟨g, hb, _⟩ := h.buf
  obtain ⟨k, o, ha, _, hc⟩ := hb.cell (by omega)
  have hm : l.getD i d ∈ l := by rw [List.getD_eq_getElem?_getD, List.getElem?_eq_getElem hi]; exact List.getElem_mem hi
  have key : ∀ j, j < 8 → w.cell? ⟨k, o + i * 8 + j, none⟩ = some ((encIt (l.getD i d)).getD j undef) := fun j hj => by
    rw [Nat.add_assoc, hc (i * 8 + j) (by omega), cellsIt_getD l d hi hj]
  exact ⟨k, o, ha, key 0 (by decide), key 1 (by decide), key 2 (by decide), key 3 (by decide), key 4 (by decide), key 5 (by decide), key 6 (by decide), key 7 (by decide), h.row _ hm⟩
theorem ItsIn.nil_addr {w : World} {P : Nat → Prop} {a : Option Addr} {l : List It} (h : ItsIn w P a l) : l.length ≤ maxLen := by obtain ⟨g, hb, _⟩ := h.buf; exact hb.max
def It.none : It := ⟨0, 0, 0, 0, 0, 0, 0, [], Option.none⟩
end Go.Proofs.Ytnkpmjkbkdnfjaa
