/- Gates of layer 17: Offer. -/
import Derived.Test.YtnkpmjkbkdnfjaaRrAct
import Derived.Test.YtnkpmjkbkdnfjaaRrCopy
import Derived.Deep.RegionLaw
namespace Go.Proofs.Ytnkpmjkbkdnfjaa
open Go.RowKit

theorem src_it {w : World} {e0 : Nat} {y : It} (h : Own w e0 56 (encIt y)) : Src Try.prog 8 41 (.slice (some ⟨e0, 0, none⟩) 1 1) 1 (encIt y) w :=
  Src.ofSlice w Try.underlying41 ⟨e0, 0, none⟩ 1 1 _ rfl (fun j x hj => by
    have hlt : j < (encIt y).length := (List.getElem?_eq_some_iff.1 hj).1
    rw [Addr.add_lit, Nat.zero_add, h.cell j hlt]
    simp [List.getD_eq_getElem?_getD, hj]) (encIt_one y)
theorem GtAt.add {w w' : World} {b : Nat} {x : Gt} {y : It} {g' : Option Nat} {a' : Option Addr} {c' : Nat} (h : GtAt w b x) (hx : Exc (x.T b) w w') (hb : Buf w' 56 8 g' a' (x.its.length + 1) c' (cellsIt x.its ++ encIt y))
    (hl : ∀ k, g' = some k → x.g = some k ∨ (w.heap.size ≤ k ∧ ∀ z, y.loc = some z → z.block ≠ k)) (hr : Row .u8 w' y.loc y.dat.length y.dat.length y.dat) (hz : ∀ z, y.loc = some z → w.heap.size ≤ z.block ∧ z.block < w'.heap.size)
    (ho : Own w' b 71 (gtCells { x with its := x.its ++ [y], g := g', a := a', c := c' })) (hf : x.its.length < 60000) : GtTo w b x { x with its := x.its ++ [y], g := g', a := a', c := c' } w' := by
  have hbs := h.own.lt
  have hN : ∀ k, g' = some k → k ≠ b := fun k hk => by
    rcases hl k hk with h1 | ⟨h1, _⟩
    · exact h.gb k h1
    · omega
  refine ⟨⟨ho, ?_, ⟨fun z hzm => ?_, fun z hzm u hu => ?_⟩, hN, by show (x.its ++ [y]).length ≤ 60000; rw [List.length_append, List.length_singleton]; omega, h.ph1, h.ph4, h.hold, h.wf⟩, hx, fun k hk => ?_⟩
  · show Buf w' _ 8 g' a' (x.its ++ [y]).length c' (cellsIt (x.its ++ [y]))
    rw [cellsIt_append, cellsIt_one, List.length_append, List.length_singleton]
    exact hb
  · rcases List.mem_append.1 hzm with hm | hm
    · exact (h.its.row z hm).exc hx fun u hu hk => (h.its.off z hm u hu).1 hk
    · rw [List.mem_singleton.1 hm]; exact hr
  · rcases List.mem_append.1 hzm with hm | hm
    · have h1 := h.its.off z hm u hu
      refine ⟨?_, Nat.lt_of_lt_of_le h1.2 hx.size⟩
      rintro (hk | hk)
      · exact h1.1 (.inl hk)
      · rcases hl _ hk with h2 | ⟨h2, _⟩
        · exact h1.1 (.inr h2)
        · have := h1.2; omega
    · rw [List.mem_singleton.1 hm] at hu
      refine ⟨?_, (hz u hu).2⟩
      rintro (hk | hk)
      · have := (hz u hu).1; omega
      · rcases hl _ hk with h2 | ⟨_, h2⟩
        · have := h.buf.lt h2; have := (hz u hu).1; omega
        · exact h2 u hu rfl
  · rcases hk with (hk | hk) | ⟨z, hzm, u, hu, rfl⟩
    · exact .inl (.inl (.inl hk))
    · rcases hl k hk with h2 | ⟨h2, _⟩
      · exact .inl (.inl (.inr h2))
      · exact .inr h2
    · rcases List.mem_append.1 hzm with hm | hm
      · exact .inl (.inr ⟨z, hm, u, hu, rfl⟩)
      · rw [List.mem_singleton.1 hm] at hu
        exact .inr (hz u hu).1
/-- Offered: the item stands behind the others, its contents in new memory. -/
def OfferOut (w : World) (b : Nat) (x : Gt) (y : It) (e : Ending) (w' : World) : Prop :=
  e = .returned (.int .i64 0) ∧ ∃ s g a c, GtTo w b x { x with its := x.its ++ [{ y with loc := s }], g := g, a := a, c := c } w'
set_option maxHeartbeats 4000000 in
set_option maxRecDepth 100000 in
theorem offer_ok (b : Nat) (x : Gt) (num sv nw pr tp fr sl : Int) (a : Option Addr) (n c : Nat) (l : List Int) (w : World) (h : GtAt w b x) (hf : x.its.length < 60000) (hr : Row .u8 w a n c l) (hn : n ≤ 1000000) :
    Calls Try.prog 17 #[.pointer (some ⟨b, 0, none⟩), .agg #[.int .i64 num, .int .u8 sv, .int .u8 nw, .int .u8 pr, .int .u16 tp, .int .u16 fr, .int .u8 sl, .slice a n c]] w fun e w' => OfferOut w b x ⟨num, sv, nw, pr, tp, fr, sl, l, none⟩ e w' := by
  have hb0 : Below w.heap.size w (w.alloc (.cells #[.int .i64 num, .int .u8 sv, .int .u8 nw, .int .u8 pr, .int .u16 tp, .int .u16 fr, .int .u8 sl, .slice a n c] 56)) := below_alloc _ _
  have o0 : Own (w.alloc (.cells #[.int .i64 num, .int .u8 sv, .int .u8 nw, .int .u8 pr, .int .u16 tp, .int .u16 fr, .int .u8 sl, .slice a n c] 56)) w.heap.size 56 [.int .i64 num, .int .u8 sv, .int .u8 nw, .int .u8 pr, .int .u16 tp, .int .u16 fr, .int .u8 sl, .slice a n c] := own_lit w _ _ _ rfl
  have HC := Lib.hid (isNone_any b x.ph _ (h.later hb0).cells.2.2.1 h.ph1)
  have H := Lib.hid h
  have HR := Lib.hid hr
  have HB0 := Lib.hid hb0
  have HO0 := Lib.hid o0
  have HF := Lib.hid hf
  clear h hr hb0 o0 hf
  go_enter Try.func17, Try.ntmps17
  go_wp2_with fail
  refine HC.out.mono ?_
  rintro e w' ⟨rfl, q, rfl⟩
  have hb2 := below_drewN HB0.out q
  have o2 := HO0.out.below (below_draw _ q) HO0.out.lt
  generalize (w.alloc (.cells #[.int .i64 num, .int .u8 sv, .int .u8 nw, .int .u8 pr, .int .u16 tp, .int .u16 fr, .int .u8 sl, .slice a n c] 56)).drewN q = w2 at hb2 o2 ⊢
  obtain ⟨p, hp⟩ : ∃ p, p = w.heap.size := ⟨_, rfl⟩
  rw [← hp] at o2 ⊢
  have h2 := H.out.later hb2
  have hr2 := HR.out.later hb2
  obtain ⟨⟨k0, k1, k2, k3, k4, k5, k6, k7⟩, _⟩ := own_eight o2
  have c2 := h2.cells.2.1
  have hcl : Calls Try.prog 28 #[.agg #[.int .i64 num, .int .u8 sv, .int .u8 nw, .int .u8 pr, .int .u16 tp, .int .u16 fr, .int .u8 sl, .slice a n c]] w2.drew fun e w' => CopyIt w2.drew ⟨num, sv, nw, pr, tp, fr, sl, l, none⟩ e w' := copied_any num sv nw pr tp fr sl a n c l w2.drew (hr2.later (below_draw w2 1)) hn
  have hlen : ((x.its.length : Int) ≥ 65536) = False := by have := HF.out; simp; omega
  have hlen2 : decide ((65536 : Int) ≤ (x.its.length : Int)) = false := by have := HF.out; simp; omega
  obtain ⟨i0, hi, hz0, hz1', hz2⟩ := info_parts info_it
  have hbs : b < w2.heap.size := h2.own.lt
  have hgb : x.g ≠ some b := fun hh => h2.gb b hh rfl
  have hnn : x.its.length + 1 ≤ maxLen := by have := HF.out; unfold maxLen; omega
  have hbb : (x.its.length + 1) * 48 ≤ 140737488355328 := by have := HF.out; omega
  have H2 := Lib.hid h2
  have HCl := Lib.hid hcl
  have HB2 := Lib.hid hb2
  have HBf := Lib.hid h2.buf
  have HI := Lib.hid (And.intro hi (And.intro hz0 (And.intro hz1' hz2)))
  have HG := Lib.hid hgb
  have HNn := Lib.hid (And.intro hnn hbb)
  have f2 := h2.own.frozen 1
  clear hp hb2 o2 h2 hr2 hcl hi hz0 hz1' hz2 hgb hnn hbb
  go_wp2_with fail
  go_region_law
    (first
      | (go_simp; go_at_call 28; ((with_reducible refine (HCl.out).mono ?_); rintro e w3 ⟨s, rfl, hr3, hz3, hb3⟩; have kc2 := (hb3.cell (p := ⟨b, 1, none⟩) hbs).trans c2; have hbuf3 := HBf.out.later (Below.trans (below_draw w2 1) hb3); have h3s : w2.heap.size ≤ w3.heap.size := hb3.size; have hb3s : b < w3.heap.size := Nat.lt_of_lt_of_le hbs h3s; have HR3 := Lib.hid hr3; have HZ3 := Lib.hid hz3; have HB3 := Lib.hid (And.intro hb3 hbuf3); clear hr3 hz3 hb3 hbuf3; dsimp only [encIt]))
      | (refine step_append_buf (by rfl) _ _ _ _ (by rfl) 56 i0 _ 8 48 Try.underlying41 HI.out.1 HI.out.2.1 HI.out.2.2.1 HI.out.2.2.2 (by rfl) (by decide) x.g x.a x.its.length x.c (cellsIt x.its) (by rfl) (by exact HB3.out.2.later (below_alloc _ _)) _ 1 (encIt ⟨num, sv, nw, pr, tp, fr, sl, l, s⟩) (by rfl) (by exact src_it (own_lit w3 _ _ _ rfl)) HNn.out.1 HNn.out.2 ?_; intro g' a' c' w6 q1 q2 q3; have kct := q2.cell (p := ⟨b, 1, none⟩) (by exact (below_alloc w3 _).cell (p := ⟨b, 1, none⟩) hb3s |>.trans kc2) (fun hh => HG.out hh); have kf : w6.frozen? ⟨b, 1, none⟩ = false := ((H2.out.own.below ((below_draw w2 1).trans (HB3.out.1.trans (Below.mono (below_alloc w3 _) h3s))) hbs).exc q2 (fun hh => HG.out hh)).frozen 1; have HQ := Lib.hid (And.intro q1 (And.intro q2 q3)); clear q1 q2 q3)
      | fail)
  all_goals
    obtain ⟨q1, q2, q3⟩ := HQ.out
    obtain ⟨hb3, _⟩ := HB3.out
    have hb23 : Below w2.heap.size w2 w3 := (below_draw w2 1).trans hb3
    have hs3 : w3.heap.size ≤ (w3.alloc (.cells (encIt ⟨num, sv, nw, pr, tp, fr, sl, l, s⟩).toArray 56)).heap.size := (below_alloc w3 _).size
    have hx26 : Exc (fun k => x.g = some k) w2 w6 := (Exc.of_below (hb23.trans (Below.mono (below_alloc w3 _) h3s))).trans q2 (fun _ _ hh => hh)
    generalize hW7 : w6.setCell ⟨b, 1, none⟩ (.slice a' (x.its.length + 1) c') = W7
    have hx67 : Exc (fun k => k = b) w6 W7 := by rw [← hW7]; exact (Exc.refl (fun k => k = b) w6).setCell ⟨b, 1, none⟩ (.inl rfl) _
    have hx27 : Exc (x.T b) w2 W7 := (hx26.weak (fun _ _ hh => .inr hh)).trans hx67 (fun _ _ hh => .inl hh)
    have hl6 : ∀ k, g' = some k → x.g = some k ∨ w3.heap.size ≤ k := fun k hk => by
      rcases q3 k hk with h5 | h5
      · exact .inl h5
      · exact .inr (Nat.le_trans hs3 h5)
    have hgp' : ∀ k, g' = some k → ¬ k = b := fun k hk hp' => by
      rcases hl6 k hk with h5 | h5
      · exact HG.out (hp' ▸ h5)
      · omega
    have ho7 := (H2.out.own.exc hx26 (fun hh => HG.out hh)).set 1 (.slice a' (x.its.length + 1) c')
    rw [hW7] at ho7
    have hz := HZ3.out
    have hgz : ∀ z, s = some z → ¬ x.g = some z.block ∧ ¬ z.block = b := fun z hzz => ⟨fun hh => by have h8 := H2.out.buf.lt hh; have h9 := (hz z hzz).1; simp at h9; omega, fun hh => by have h9 := (hz z hzz).1; simp at h9; omega⟩
    have hr7 : Row .u8 W7 s l.length l.length l := ((HR3.out.later ((below_alloc w3 _))).exc q2 (fun z hzz => (hgz z hzz).1)).exc hx67 (fun z hzz => (hgz z hzz).2)
    have hb7 := q1.exc hx67 hgp'
    have hs36 : w3.heap.size ≤ w6.heap.size := Nat.le_trans hs3 q2.size
    have hs67 : w6.heap.size ≤ W7.heap.size := hx67.size
    have hfin := H2.out.add (y := ⟨num, sv, nw, pr, tp, fr, sl, l, s⟩) hx27 hb7 (fun k hk => by
      rcases hl6 k hk with h5 | h5
      · exact .inl h5
      · exact .inr ⟨Nat.le_trans h3s h5, fun z hzz => by have := (hz z hzz).2; omega⟩) hr7 (fun z hzz => ⟨by have h9 := (hz z hzz).1; simpa using h9, by have h9 := (hz z hzz).2; omega⟩) (by
      have e : gtCells { x with its := x.its ++ [⟨num, sv, nw, pr, tp, fr, sl, l, s⟩], g := g', a := a', c := c' } = (gtCells x).set 1 (.slice a' (x.its.length + 1) c') := by simp [gtCells]
      rw [e]; exact ho7) HF.out
    have HFin := Lib.hid hfin
    clear hfin hs36 hb7 hr7 hgz hz ho7 hgp' hl6 hx27 hx67 hs67 hW7 hx26 hs3 hb23 hb3 q1 q2 q3 kct kf kc2 c2 f2
    go_wp2
    go_ret
    exact ⟨rfl, s, g', a', c', HFin.out.after HB2.out⟩
end Go.Proofs.Ytnkpmjkbkdnfjaa
