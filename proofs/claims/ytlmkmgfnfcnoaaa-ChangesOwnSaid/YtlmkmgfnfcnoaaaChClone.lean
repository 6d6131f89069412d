/- Copies of contents: slices.Clone, slices.Clip; the closure that copies an item. -/
import Derived.Test.YtlmkmgfnfcnoaaaChAt
import Derived.Lib.SliceRun
namespace Go.Proofs.Ytlmkmgfnfcnoaaa
open Go.RowKit

set_option maxHeartbeats 1000000 in
set_option maxRecDepth 100000 in
theorem clip8_any (a : Option Addr) (n c : Nat) (w : World) (hnc : n ≤ c) (_hc : c ≤ maxLen) :
    Calls Try.prog 24 #[.slice a n c] w fun e w' => e = .returned (.slice a n n) ∧ w = w' := by
  have h1 : (n : Int) ≤ (c : Int) := by omega
  go_enter Try.func24, Try.ntmps24
  go_wp2
  go_ret
  exact ⟨rfl, rfl⟩
set_option maxHeartbeats 1000000 in
set_option maxRecDepth 100000 in
theorem clipIt_any (a : Option Addr) (n c : Nat) (w : World) (hnc : n ≤ c) (_hc : c ≤ maxLen) :
    Calls Try.prog 31 #[.slice a n c] w fun e w' => e = .returned (.slice a n n) ∧ w = w' := by
  have h1 : (n : Int) ≤ (c : Int) := by omega
  go_enter Try.func31, Try.ntmps31
  go_wp2
  go_ret
  exact ⟨rfl, rfl⟩
/-- A copy: its memory is new. -/
def CloneOut (w : World) (n : Nat) (l : List Int) (e : Ending) (w' : World) : Prop :=
  ∃ s c, e = .returned (.slice s n c) ∧ Row .u8 w' s n c l ∧ (∀ z, s = some z → w.heap.size ≤ z.block ∧ z.block < w'.heap.size) ∧ Below w.heap.size w w'
set_option maxHeartbeats 1000000 in
set_option maxRecDepth 100000 in
theorem clone8_any (a : Option Addr) (n c : Nat) (l : List Int) (w : World) (h : Row .u8 w a n c l) (hn : n ≤ 1000000) :
    Calls Try.prog 25 #[.slice a n c] w fun e w' => CloneOut w n l e w' := by
  rcases a with _ | ad
  · obtain rfl := h.isNil rfl
    obtain rfl : n = 0 := by have := h.le; omega
    have hl : l = [] := List.eq_nil_of_length_eq_zero h.len
    subst hl
    clear h
    have hq : ∀ w, (binOp .eql 34 (.slice none 0 0) (.slice none 0 0)).run Try.prog w = .ok (.bool true) w := fun w => Lib.run_eql_slice_nil w _ _ none 0 0 0 0 Try.underlying34
    go_enter Try.func25, Try.ntmps25
    go_wp2
    go_ret
    exact ⟨none, 0, rfl, Row.of_nil _ _, by simp, Below.refl _ _⟩
  · have H := Lib.hid h
    clear h
    obtain ⟨i0, hi, hz0, hz1, hz2⟩ := info_parts info8
    have HI := Lib.hid (And.intro hi (And.intro hz0 (And.intro hz1 hz2)))
    clear hi hz0 hz1 hz2
    have hq : ∀ w, (binOp .eql 34 (.slice (some ad) n c) (.slice none 0 0)).run Try.prog w = .ok (.bool false) w := fun w => Lib.run_eql_slice_nil w _ _ (some ad) n c 0 0 Try.underlying34
    go_enter Try.func25, Try.ntmps25
    have hb : Below w.heap.size w (w.alloc (.cells #[] 5)) := below_alloc w _
    have hbuf : Buf (w.alloc (.cells #[] 5)) 5 1 (some w.heap.size) (some ⟨w.heap.size, 0, none⟩) 0 0 [] :=
      ⟨rfl, Nat.le_refl _, Nat.zero_le _, .inr ⟨w.heap.size, 0, [], rfl, rfl, own_lit w _ #[] [] rfl, Nat.le_refl _, fun j hj => by omega⟩⟩
    have HB := Lib.hid hb
    have HBuf := Lib.hid hbuf
    have HSrc := Lib.hid ((H.out.later hb).src (P := Try.prog) Try.underlying34)
    clear hb hbuf
    go_wp2_with (with_reducible refine wpList_append_buf rfl (.tmp 5) (.tmp 6) 34 34 rfl 5 i0 (.int .u8 0) 1 1 Try.underlying34 HI.out.1 HI.out.2.1 HI.out.2.2.1 HI.out.2.2.2 rfl (by decide) (some w.heap.size) (some ⟨w.heap.size, 0, none⟩) 0 0 [] rfl HBuf.out (.slice (some ad) n c) n (nums .u8 l) rfl HSrc.out (by unfold maxLen; omega) (by omega) ?_)
    intro g' a' c' w' h1 h2 h3
    have hb2 : Below w.heap.size w w' := HB.out.trans (h2.below (by simp) (fun i _ hi => by cases hi; exact Nat.le_refl _))
    have hrow := h1.row H.out.wf
    have hz : ∀ z, a' = some z → w.heap.size ≤ z.block ∧ z.block < w'.heap.size := fun z hz => by
      obtain ⟨hg, _⟩ := h1.block hz
      refine ⟨?_, h1.lt hg⟩
      rcases h3 _ hg with h | h
      · first | omega | (simp only [Option.some.injEq] at h; omega)
      · first | omega | (rw [World.size_alloc] at h; omega)
    have HZ := Lib.hid hz
    have HR := Lib.hid hrow
    have HB2 := Lib.hid hb2
    clear h1 h2 h3 hz hrow hb2
    go_wp2
    go_ret
    exact ⟨a', c', rfl, HR.out, HZ.out, HB2.out⟩
theorem row_clip {k : IntKind} {w : World} {a : Option Addr} {n c : Nat} {l : List Int} (h : Row k w a n c l) : Row k w a n n l :=
  ⟨h.len, Nat.le_refl _, Nat.le_trans h.le h.max, h.wf, h.cells, fun ha => by have := h.isNil ha; have := h.le; omega⟩
/-- A copied item: its contents are new. -/
def CopyIt (w : World) (y : It) (e : Ending) (w' : World) : Prop :=
  ∃ s, e = .returned (.agg (encIt { y with loc := s }).toArray) ∧ Row .u8 w' s y.dat.length y.dat.length y.dat ∧ (∀ z, s = some z → w.heap.size ≤ z.block ∧ z.block < w'.heap.size) ∧ Below w.heap.size w w'
theorem own_eight {w : World} {b t : Nat} {v0 v1 v2 v3 v4 v5 v6 v7 : Value} (h : Own w b t [v0, v1, v2, v3, v4, v5, v6, v7]) :
    (w.cell? ⟨b, 0, none⟩ = some v0 ∧ w.cell? ⟨b, 1, none⟩ = some v1 ∧ w.cell? ⟨b, 2, none⟩ = some v2 ∧ w.cell? ⟨b, 3, none⟩ = some v3 ∧ w.cell? ⟨b, 4, none⟩ = some v4 ∧ w.cell? ⟨b, 5, none⟩ = some v5 ∧ w.cell? ⟨b, 6, none⟩ = some v6 ∧ w.cell? ⟨b, 7, none⟩ = some v7) ∧
    (w.frozen? ⟨b, 0, none⟩ = false ∧ w.frozen? ⟨b, 1, none⟩ = false ∧ w.frozen? ⟨b, 2, none⟩ = false ∧ w.frozen? ⟨b, 3, none⟩ = false ∧ w.frozen? ⟨b, 4, none⟩ = false ∧ w.frozen? ⟨b, 5, none⟩ = false ∧ w.frozen? ⟨b, 6, none⟩ = false ∧ w.frozen? ⟨b, 7, none⟩ = false) :=
  ⟨⟨h.cell 0 (by simp), h.cell 1 (by simp), h.cell 2 (by simp), h.cell 3 (by simp), h.cell 4 (by simp), h.cell 5 (by simp), h.cell 6 (by simp), h.cell 7 (by simp)⟩,
   ⟨h.frozen 0, h.frozen 1, h.frozen 2, h.frozen 3, h.frozen 4, h.frozen 5, h.frozen 6, h.frozen 7⟩⟩
set_option maxHeartbeats 2000000 in
set_option maxRecDepth 100000 in
theorem copied_any (num sv nw pr tp fr sl : Int) (a : Option Addr) (n c : Nat) (l : List Int) (w : World) (h : Row .u8 w a n c l) (hn : n ≤ 1000000) :
    Calls Try.prog 23 #[.agg #[.int .i64 num, .int .u8 sv, .int .u8 nw, .int .u8 pr, .int .u16 tp, .int .u16 fr, .int .u8 sl, .slice a n c]] w fun e w' => CopyIt w ⟨num, sv, nw, pr, tp, fr, sl, l, none⟩ e w' := by
  have hb2 : Below w.heap.size w ((w.alloc (.cells #[.int .i64 num, .int .u8 sv, .int .u8 nw, .int .u8 pr, .int .u16 tp, .int .u16 fr, .int .u8 sl, .slice a n c] 38)).alloc (.cells #[.int .i64 0, .int .u8 0, .int .u8 0, .int .u8 0, .int .u16 0, .int .u16 0, .int .u8 0, .slice none 0 0] 38)) := (below_alloc _ _).trans ((below_alloc _ _).mono (by simp))
  have o1 : Own ((w.alloc (.cells #[.int .i64 num, .int .u8 sv, .int .u8 nw, .int .u8 pr, .int .u16 tp, .int .u16 fr, .int .u8 sl, .slice a n c] 38)).alloc (.cells #[.int .i64 0, .int .u8 0, .int .u8 0, .int .u8 0, .int .u16 0, .int .u16 0, .int .u8 0, .slice none 0 0] 38)) w.heap.size 38 [.int .i64 num, .int .u8 sv, .int .u8 nw, .int .u8 pr, .int .u16 tp, .int .u16 fr, .int .u8 sl, .slice a n c] := (own_lit w _ _ _ rfl).below (below_alloc _ _) (by simp)
  have o2 : Own ((w.alloc (.cells #[.int .i64 num, .int .u8 sv, .int .u8 nw, .int .u8 pr, .int .u16 tp, .int .u16 fr, .int .u8 sl, .slice a n c] 38)).alloc (.cells #[.int .i64 0, .int .u8 0, .int .u8 0, .int .u8 0, .int .u16 0, .int .u16 0, .int .u8 0, .slice none 0 0] 38)) (w.heap.size + 1) 38 zeroIt := by
    have := own_lit (w.alloc (.cells #[.int .i64 num, .int .u8 sv, .int .u8 nw, .int .u8 pr, .int .u16 tp, .int .u16 fr, .int .u8 sl, .slice a n c] 38)) 38 #[.int .i64 0, .int .u8 0, .int .u8 0, .int .u8 0, .int .u16 0, .int .u16 0, .int .u8 0, .slice none 0 0] zeroIt rfl
    rw [World.size_alloc] at this
    exact this
  have hr := h.later hb2
  have hle := h.le
  have hmx := h.max
  have hll := h.len
  have HB2 := Lib.hid hb2
  have HR := Lib.hid hr
  have HO1 := Lib.hid o1
  have HO2 := Lib.hid o2
  have HLL := Lib.hid hll
  clear hb2 hr o1 o2 h hll
  go_enter Try.func23, Try.ntmps23
  go_upto_region 1 with fail
  generalize (w.alloc (.cells #[.int .i64 num, .int .u8 sv, .int .u8 nw, .int .u8 pr, .int .u16 tp, .int .u16 fr, .int .u8 sl, .slice a n c] 38)).alloc _ = W at *
  obtain ⟨b2, hb2⟩ : ∃ p, p = w.heap.size + 1 := ⟨_, rfl⟩
  obtain ⟨b1, hb1⟩ : ∃ p, p = w.heap.size := ⟨_, rfl⟩
  have o1 := HO1.out
  have o2 := HO2.out
  rw [← hb2] at o2 ⊢
  rw [← hb1] at o1 ⊢
  obtain ⟨⟨c0, c1, c2, c3, c4, c5, c6, c7⟩, _⟩ := own_eight o1
  have HC1 := Lib.hid (clone8_any a n c l W HR.out hn)
  have HP1 := Lib.hid o1
  have HP2 := Lib.hid o2
  have HN := Lib.hid (And.intro hb1 hb2)
  clear o1 o2 hb1 hb2 HO1 HO2
  go_wp2_with fail
  with_reducible refine HC1.out.mono ?_
  rintro e w2 ⟨s, c', rfl, hrow, hnew, hbl⟩
  have hbW := HB2.out.trans (hbl.mono HB2.out.size)
  have hcp := clip8_any s n c' w2 hrow.le hrow.max
  have p1 := HP1.out.below hbl HP1.out.lt
  have p2 := HP2.out.below hbl HP2.out.lt
  clear c0 c1 c2 c3 c4 c5 c6 c7
  obtain ⟨⟨c0, c1, c2, c3, c4, c5, c6, c7⟩, ⟨f0, f1, f2, f3, f4, f5, f6, f7⟩⟩ := own_eight p1
  obtain ⟨⟨k0, k1, k2, k3, k4, k5, k6, k7⟩, ⟨z0, z1, z2, z3, z4, z5, z6, z7⟩⟩ := own_eight p2
  have HCp := Lib.hid hcp
  have HRow := Lib.hid hrow
  have HNew := Lib.hid hnew
  have HBl := Lib.hid hbl
  have HBW := Lib.hid hbW
  have n1 : ¬ b1 = b2 := by have := HN.out; omega
  have n2 : ¬ b2 = b1 := by have := HN.out; omega
  clear hcp hrow hnew hbl hbW p1 p2
  go_wp2_with fail
  with_reducible refine HCp.out.mono ?_
  rintro e w3 ⟨rfl, rfl⟩
  go_wp2
  have HX := Lib.hid ((((((((((Exc.refl (fun k => k = b1 ∨ k = b2) w2).setCell ⟨b1, 7, none⟩ (.inl (.inl rfl)) (.slice s n n)).setCell ⟨b2, 0, none⟩ (.inl (.inr rfl)) (.int .i64 num)).setCell ⟨b2, 1, none⟩ (.inl (.inr rfl)) (.int .u8 sv)).setCell ⟨b2, 2, none⟩ (.inl (.inr rfl)) (.int .u8 nw)).setCell ⟨b2, 3, none⟩ (.inl (.inr rfl)) (.int .u8 pr)).setCell ⟨b2, 4, none⟩ (.inl (.inr rfl)) (.int .u16 tp)).setCell ⟨b2, 5, none⟩ (.inl (.inr rfl)) (.int .u16 fr)).setCell ⟨b2, 6, none⟩ (.inl (.inr rfl)) (.int .u8 sl)).setCell ⟨b2, 7, none⟩ (.inl (.inr rfl)) (.slice s n n))
  refine bodyPost_ret (v := .agg #[.int .i64 num, .int .u8 sv, .int .u8 nw, .int .u8 pr, .int .u16 tp, .int .u16 fr, .int .u8 sl, .slice s n n]) (by simp [results, Try.results23, go_sem, k0, k1, k2, k3, k4, k5, k6, k7]) rfl ?_
  have hN := HN.out
  have hs1 := HB2.out.size
  have hs2 := HP2.out.lt
  have hll := HLL.out
  subst hll
  refine ⟨s, rfl, row_clip (HRow.out.exc HX.out fun z hz hk => ?_), fun z hz => ?_, HBW.out.trans (HX.out.below HBW.out.size fun i _ hi => ?_)⟩
  · have := (HNew.out z hz).1
    omega
  · have h1 := HNew.out z hz
    have := HX.out.size
    omega
  · omega
end Go.Proofs.Ytlmkmgfnfcnoaaa
