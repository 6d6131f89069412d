/- The code's end of a link: a load is accepted; a load gets its number. -/
import Derived.Test.YtdjnflfcolpccaaEaAccept
namespace Go.Proofs.Ytdjnflfcolpccaa
open Go.RowKit

set_option maxHeartbeats 4000000 in
set_option maxRecDepth 100000 in
theorem accept_ok (b : Nat) (x : En) (L : ELay) (w : World) (a : Option Addr) (n c : Nat) (l : List Int) (h : EndL w b x L) (hf : x.failed = false) (h64 : x.que.length < 64) (hr : Row .u8 w a n c l) (h2 : 2 ≤ n) (h3 : n ≤ 273) :
    Calls Try.prog 8 #[.pointer (some ⟨b, 0, none⟩), .slice a n c] w fun e w' => e = .returned (.int .i64 0) ∧ ∃ L', EndL w' b (x.accept l) L' ∧ Turn (L.S b) w (L'.S b) w' := by
  have hcon := echeck_any b x L w h
  rw [hf] at hcon
  simp only [Bool.false_eq_true, if_false] at hcon
  have hck := fun q => ucheck_any 0 false 0 false 2 0 a n c (w.drewN q) (by omega) (by omega) (by omega) (by omega) (by omega) (by omega) (by omega) (by omega) (by omega)
  have hC : chk 0 0 2 0 n = 0 := by rw [chk_ok]; omega
  rw [hC] at hck
  have HC := Lib.hid hcon
  have HK := Lib.hid hck
  have H := Lib.hid h
  have HR := Lib.hid hr
  have HF := Lib.hid hf
  have H64 := Lib.hid h64
  clear h hcon hck hC hr hf
  go_enter Try.func8, Try.ntmps8
  go_wp2_with fail
  refine HC.out.mono ?_
  rintro e w' ⟨rfl, q, rfl⟩
  go_wp2_with fail
  refine (HK.out q).mono ?_
  rintro e w2 ⟨rfl, hb⟩
  have hb2 : Below w.heap.size w w2 := (below_draw w q).trans hb
  have h2 := H.out.later hb2
  have hr2 := HR.out.later hb2
  have c0 := h2.cells.2.2.1
  have hcl : Calls Try.prog 30 #[.slice a n c] w2.drew fun e w' => e = .returned (.slice (some ⟨w2.heap.size, 0, none⟩) n n) ∧ Below w2.heap.size w2.drew w' ∧ Own w' w2.heap.size 5 (nums .u8 l) := bclone_any a n c l w2.drew (hr2.later (below_draw w2 1)) (by omega)
  have hq1 : ((x.que.length : Int) == 64) = false := by simp; omega
  obtain ⟨vs, hbuf, hvs⟩ := h2.q
  have hvl := hbuf.len
  obtain ⟨i0, hi, hz0, hz1', hz2⟩ := info_parts infoRow
  have hbs : b < w2.heap.size := h2.own.lt
  have hgb : L.gq ≠ some b := fun hh => (h2.bq b hh).1 rfl
  have hnn : x.que.length + 1 ≤ maxLen := by unfold maxLen; omega
  have hbb : (x.que.length + 1) * 24 ≤ 140737488355328 := by omega
  have H2 := Lib.hid h2
  have HCl := Lib.hid hcl
  have HB2 := Lib.hid hb2
  have HBf := Lib.hid hbuf
  have HVs := Lib.hid hvs
  have HVl := Lib.hid hvl
  have HI := Lib.hid (And.intro hi (And.intro hz0 (And.intro hz1' hz2)))
  have HG := Lib.hid hgb
  have HNn := Lib.hid (And.intro hnn hbb)
  have f0 := h2.own.frozen 2
  clear hb hb2 h2 hr2 hcl hbuf hvs hvl hi hz0 hz1' hz2 hgb hnn hbb
  have H3 := Lib.hid h3
  clear h64 h3
  go_wp2_with fail
  go_region_law
    (first
      | (go_simp; go_at_call 30; ((with_reducible refine (HCl.out).mono ?_); rintro e w3 ⟨rfl, hb3, ho3⟩; have kc0 := (hb3.cell (p := ⟨b, 2, none⟩) hbs).trans c0; have hbuf3 := HBf.out.later (Below.trans (below_draw w2 1) hb3); have h3s := ho3.lt; have hb3s : b < w3.heap.size := Nat.lt_trans hbs h3s; have HB3 := Lib.hid (And.intro hb3 (And.intro ho3 hbuf3)); clear hb3 ho3 hbuf3; dsimp only))
      | (refine step_append_buf (by rfl) _ _ _ _ (by rfl) 36 i0 _ 1 24 Try.underlying52 HI.out.1 HI.out.2.1 HI.out.2.2.1 HI.out.2.2.2 (by rfl) (by decide) L.gq L.aq x.que.length L.cq vs (by rfl) (by exact HB3.out.2.2.later (below_alloc _ _)) _ 1 [.slice (some ⟨w2.heap.size, 0, none⟩) n n] (by rfl) (by exact src_row1 (own_lit w3 _ _ _ rfl) rfl) HNn.out.1 HNn.out.2 ?_; intro g' a' c' w6 q1 q2 q3; have kct := q2.cell (p := ⟨b, 2, none⟩) (by exact (below_alloc w3 _).cell (p := ⟨b, 2, none⟩) (Nat.lt_trans hbs h3s) |>.trans kc0) (fun hh => HG.out hh); have kf : w6.frozen? ⟨b, 2, none⟩ = false := ((H2.out.own.below ((below_draw w2 1).trans (HB3.out.1.trans (Below.mono (below_alloc w3 _) (Nat.le_of_lt h3s)))) hbs).exc q2 (fun hh => HG.out hh)).frozen 2; have HQ := Lib.hid (And.intro q1 (And.intro q2 q3)); clear q1 q2 q3)
      | fail)
  all_goals
    obtain ⟨q1, q2, q3⟩ := HQ.out
    obtain ⟨hb3, ho3, _⟩ := HB3.out
    have hb23 : Below w2.heap.size w2 w3 := (below_draw w2 1).trans hb3
    have hs3 : w3.heap.size ≤ (w3.alloc (.cells #[.slice (some ⟨w2.heap.size, 0, none⟩) n n] 36)).heap.size := (below_alloc w3 _).size
    have hx26 : Exc (fun k => L.gq = some k) w2 w6 := (Exc.of_below (hb23.trans (Below.mono (below_alloc w3 _) (Nat.le_of_lt h3s)))).trans q2 (fun _ _ hh => hh)
    have hn6 : w2.heap.size < w6.heap.size := Nat.lt_of_lt_of_le h3s (Nat.le_trans hs3 q2.size)
    have hgn : L.gq ≠ some w2.heap.size := fun hh => by have := H2.out.q.lt hh; omega
    have ho6 : Own w6 w2.heap.size 5 (nums .u8 l) := (ho3.below (below_alloc w3 _) h3s).exc q2 hgn
    generalize hW7 : w6.setCell ⟨b, 2, none⟩ (.slice a' (x.que.length + 1) c') = W7
    have hx67 : Exc (fun k => k = b) w6 W7 := by rw [← hW7]; exact (Exc.refl (fun k => k = b) w6).setCell ⟨b, 2, none⟩ (.inl rfl) _
    have hx27 : Exc (fun k => L.gq = some k ∨ k = b) w2 W7 := (hx26.weak (fun _ _ hh => .inl hh)).trans hx67 (fun _ _ hh => .inr hh)
    have hl6 : ∀ k, g' = some k → L.gq = some k ∨ w2.heap.size < k := fun k hk => by
      rcases q3 k hk with h5 | h5
      · exact .inl h5
      · exact .inr (by omega)
    have hgp' : ∀ k, g' = some k → ¬ k = b := fun k hk hp' => by
      rcases hl6 k hk with h5 | h5
      · exact HG.out (hp' ▸ h5)
      · omega
    have hlen : n = l.length := HR.out.len.symm
    have ho7 := (H2.out.own.exc hx26 (fun hh => HG.out hh)).set 2 (.slice a' (x.que.length + 1) c')
    rw [hW7] at ho7
    have hr7 : Row .u8 W7 (some ⟨w2.heap.size, 0, none⟩) n n l := (ho6.exc hx67 (by omega)).row0 n n hlen (Nat.le_refl _) (by have := H3.out; unfold maxLen; omega) HR.out.wf
    have hb7 := q1.exc hx67 hgp'
    subst hlen
    have hfin := H2.out.addq hx27 (by have := HVl.out; omega) HVs.out hb7 (Nat.le_refl _) (Nat.lt_of_lt_of_le hn6 hx67.size) hr7 hl6 (by
      have e : endCells (x.accept l) { L with gq := g', aq := a', cq := c', P := fun k => L.P k ∨ k = w2.heap.size } = (endCells x L).set 2 (.slice a' (x.que.length + 1) c') := by simp [endCells, En.accept]
      rw [e]; exact ho7) H64.out ⟨h2, H3.out⟩
    have HFin := Lib.hid hfin
    have HX27 := Lib.hid hx27
    clear hfin hx27 hb7 hr7 ho7 hgp' hl6 hx67 hW7 ho6 hgn hn6 hx26 hs3 hb23 hb3 ho3 q1 q2 q3 kct kf kc0 c0 f0
    go_wp2
    go_ret
    refine ⟨rfl, _, HFin.out.1, ?_⟩
    exact ⟨(Exc.of_below HB2.out).trans HFin.out.2.exc (fun k _ hk => hk), fun k hk => by
      rcases HFin.out.2.lies k hk with h5 | h5
      · exact .inl h5
      · exact .inr (Nat.le_trans HB2.out.size h5)⟩
end Go.Proofs.Ytdjnflfcolpccaa
