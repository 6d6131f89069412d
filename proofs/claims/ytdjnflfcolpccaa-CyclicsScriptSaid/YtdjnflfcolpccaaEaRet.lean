/- The code's end of a link: Retrieve. -/
import Derived.Test.YtdjnflfcolpccaaEaAdd
import Derived.Laws.MakeOwn
import Derived.OwnWalk
namespace Go.Proofs.Ytdjnflfcolpccaa
open Go.RowKit

theorem make_rows (c : Nat) (hc : c ≤ 1000000) (w : World) :
    (Instr.makeSlice 52 (.int .i64 0) (.int .i64 (c : Int))).run Try.prog w = .ok (.slice (some ⟨w.heap.size, 0, none⟩) 0 c) (w.alloc (.cells (madeCells #[.slice none 0 0] c) 36)) := by
  obtain ⟨i, hi, hz0, hz1, hz2⟩ := info_parts infoRow
  have h := run_make (P := Try.prog) w 52 36 i (.slice none 0 0) Try.underlying52 hi hz0 .i64 .i64 0 c (Int.le_refl _) (by omega) (by rw [hz2]; omega) (by omega)
  rw [hz1, Nat.mul_one] at h
  simpa [Value.cells] using h
theorem owns_rows (w : World) (B c : Nat) (hB : B ≤ w.heap.size) (hc : c ≤ 1000000) : (w.alloc (.cells (madeCells #[.slice none 0 0] c) 36)).ownsRow B 36 1 (.slice (some ⟨w.heap.size, 0, none⟩) 0 c) 0 [] := by
  have h := World.ownsRow_made (base := B) (e := 36) (size := 1) w (madeCells #[.slice none 0 0] c) c hB (by unfold maxLen; omega) (by have := size_madeCells #[.slice none 0 0] c; simpa using this)
  exact h
/-- What has been gathered: in block O, of N places, j of them; the two lists lie in block E. -/
structure RetAt (w0 w : World) (O E N : Nat) (all : List (List Int)) (r0 r1 : Value) (j : Nat) : Prop where
  own : ∃ vs, w.ownsRow w0.heap.size 36 1 (.slice (some ⟨O, 0, none⟩) j N) j vs ∧ ∀ i l, (all.take j)[i]? = some l → RowV w (fun k => E < k ∧ k < w.heap.size) true (vs.getD i undef) l
  lits : w.cell? ⟨E, 0, none⟩ = some r0 ∧ w.cell? ⟨E, 1, none⟩ = some r1
  bel : Below w0.heap.size w0 w
  lt : O < E ∧ E < w.heap.size ∧ w0.heap.size ≤ O
theorem RetAt.add {w0 w w4 w6 : World} {O E N : Nat} {all : List (List Int)} {r0 r1 : Value} {j : Nat} {l : List Int} {vs : List Value} (h : RetAt w0 w O E N all r0 r1 j) (hj : all[j]? = some l)
    (hvl : vs.length = j) (hvs : ∀ i l, (all.take j)[i]? = some l → RowV w (fun k => E < k ∧ k < w.heap.size) true (vs.getD i undef) l)
    (hb : Below w.heap.size w w4) (ho : Own w4 w.heap.size 5 (nums .u8 l)) (hwf : ∀ x ∈ l, (Lit.int .u8 x).wf = true) (hll : l.length ≤ 1000)
    (h6 : w6.ownsRow w0.heap.size 36 1 (.slice (some ⟨O, 0, none⟩) (j + 1) N) (j + 1) (vs ++ [.slice (some ⟨w.heap.size, 0, none⟩) l.length l.length]))
    (hg : (w4.alloc (.cells #[.slice (some ⟨w.heap.size, 0, none⟩) l.length l.length] 36)).grownBy w6 (some O)) : RetAt w0 w6 O E N all r0 r1 (j + 1) := by
  obtain ⟨l1, l2, l3⟩ := h.lt
  have h4s := ho.lt
  have hba : Below w4.heap.size w4 (w4.alloc (.cells #[.slice (some ⟨w.heap.size, 0, none⟩) l.length l.length] 36)) := below_alloc _ _
  have hb5 : Below w.heap.size w (w4.alloc (.cells #[.slice (some ⟨w.heap.size, 0, none⟩) l.length l.length] 36)) := hb.trans (hba.mono hb.size)
  have hx : Exc (fun k => k = O) w w6 := (Exc.of_below hb5).trans ((Exc.of_grown hg).weak (fun k _ hk => by cases hk; rfl)) (fun k _ hk => hk)
  have ho6 : Own w6 w.heap.size 5 (nums .u8 l) := (ho.below hba h4s).exc (Exc.of_grown hg) (fun hh => by cases hh; omega)
  have hs6 := ho6.lt
  refine ⟨⟨_, h6, fun i k hi => ?_⟩, ⟨hx.cell h.lits.1 (by show ¬ E = O; omega), hx.cell h.lits.2 (by show ¬ E = O; omega)⟩, h.bel.trans (hx.below h.bel.size (fun i _ hi => by omega)), l1, by have := hx.size; omega, l3⟩
  rw [List.getElem?_take] at hi
  split at hi
  · by_cases hil : i < j
    · rw [getD_append_left (by omega)]
      refine ((hvs i k (by rw [List.getElem?_take, if_pos hil]; exact hi)).exc hx (fun k hk hh => by omega)).mono (fun k _ hk => ⟨hk.1, by have := hx.size; omega⟩) (.inr fun k hk => ⟨hk.1, by have := hx.size; omega⟩)
    · obtain rfl : i = j := by omega
      rw [hj] at hi
      cases hi
      rw [getD_append_right (by omega), hvl, Nat.sub_self]
      exact ⟨_, _, rfl, ho6.row0 l.length l.length rfl (Nat.le_refl _) (by unfold maxLen; omega) hwf, fun _ => rfl, fun z hz => by cases hz; exact ⟨l2, hs6⟩⟩
  · cases hi
theorem RetAt.mat {w0 w : World} {O E N : Nat} {all : List (List Int)} {r0 r1 : Value} (h : RetAt w0 w O E N all r0 r1 N) (hN : all.length = N) : Mat w (fun k => w0.heap.size ≤ k ∧ k < w.heap.size) true (some ⟨O, 0, none⟩) N N all := by
  obtain ⟨vs, ho, hr⟩ := h.own
  obtain ⟨l1, l2, l3⟩ := h.lt
  have hvl := ho.1
  rcases ho.2 with ⟨h1, _⟩ | ⟨g, cap, cur, h1, hb, hg, hn, hc, hs, ht⟩
  · cases h1
  · cases h1
    refine ⟨hN, Nat.le_refl _, hc, .inr ⟨O, 0, rfl, ⟨l3, by omega⟩, fun i hi => ?_⟩, by simp⟩
    have hrow := hr i (all.getD i []) (by rw [List.getElem?_take, if_pos hi, List.getD_eq_getElem?_getD, List.getElem?_eq_getElem (by omega)]; rfl)
    refine ⟨vs.getD i undef, ?_, hrow.mono (fun k _ hk => ⟨by omega, hk.2⟩) (.inr fun k hk => ⟨by omega, hk.2⟩)⟩
    rw [cell_of_row w O (0 + i) cur _ _ hg, Nat.zero_add]
    have hh := congrArg (fun z => z[i]?) ht
    simp only [List.getElem?_take, Nat.mul_one, hi, if_true] at hh
    rw [← Array.getElem?_toList, hh]
    have hvl2 : i < vs.length := by omega
    simp [List.getD_eq_getElem?_getD, hvl2]
set_option maxHeartbeats 1000000 in
set_option maxRecDepth 100000 in
theorem retrieve_bad (b : Nat) (x : En) (L : ELay) (w : World) (t : Nat) (h : EndL w b x L) (ht : t < 256) (hno : 127 < t ∨ x.una.length < x.ahead t) :
    Calls Try.prog 19 #[.pointer (some ⟨b, 0, none⟩), .int .u8 (t : Int)] w fun e w' => e = .returned (.tuple #[.slice none 0 0, .int .i64 1]) ∧ ∃ q, w' = w.drewN q := by
  have hcon := isNone_any b x L w h
  have HC := Lib.hid hcon
  have H := Lib.hid h
  clear hcon h
  go_enter Try.func19, Try.ntmps19
  go_wp2_with fail
  refine HC.out.mono ?_
  rintro e w' ⟨rfl, q, hq⟩
  have h1 := H.out.later (by rw [hq]; exact below_draw w q : Below w.heap.size w w')
  have c1 := h1.cells.2.2.2.1
  obtain ⟨D, hD⟩ : ∃ D, D = x.ahead t := ⟨_, rfl⟩
  rw [← hD] at hno
  have hcov : ∀ q, Calls Try.prog 35 #[.pointer (some ⟨b, 0, none⟩), .int .u8 (t : Int)] (w'.drewN q) fun e w'' => e = .returned (.int .i64 (D : Int)) ∧ ∃ m, w'' = (w'.drewN q).drewN m := fun q => by
    rw [hD]
    exact covers_any b x L (w'.drewN q) t (h1.later (below_draw w' q)) ht
  have HCv := Lib.hid hcov
  have HQ := Lib.hid hq
  clear h1 hcov hD hq
  by_cases h127 : 127 < t
  · have hti : (127 : Int) < (t : Int) := by omega
    clear hno
    go_wp2_with fail
    go_quiet (fail)
    go_wp2
    go_ret2
    exact ⟨rfl, _, by rw [HQ.out, World.drewN_drewN]⟩
  · have hti : ¬ (127 : Int) < (t : Int) := by omega
    have htd : decide ((127 : Int) < (t : Int)) = false := decide_eq_false hti
    have hwi : (x.una.length : Int) < (D : Int) := by omega
    clear hno h127
    go_wp2_with fail
    go_quiet ((go_at_call 35; exact Calls.quiet_of (HCv.out _)))
    go_wp2
    go_ret2
    exact ⟨rfl, _, by rw [HQ.out, World.drewN_drewN]⟩
end Go.Proofs.Ytdjnflfcolpccaa
