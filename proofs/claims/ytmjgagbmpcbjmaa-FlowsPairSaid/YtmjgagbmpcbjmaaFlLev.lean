/- Flows: Levels. -/
import Derived.Test.YtmjgagbmpcbjmaaFlMk
namespace Go.Proofs.Ytmjgagbmpcbjmaa
open Go.RowKit

/-- What Levels returns. -/
def LvOut (b0 b1 b2 e0 e1 e2 : Int) (n : Nat) (l : List Int) (w : World) (e : Ending) (w' : World) : Prop := Below w.heap.size w w' ∧ (if okM b0 b1 b2 e0 e1 e2 = true ∧ (∀ x ∈ l, 0 ≤ x) then ∃ g, e = .returned (.tuple #[.slice (some ⟨g, 0, none⟩) n n, .int .i64 0]) ∧ w.heap.size ≤ g ∧ Row .i64 w' (some ⟨g, 0, none⟩) n n (lvs (nxL b0 b1 b2 e0 e1 e2) 0 l) else e = .returned (.tuple #[.slice none 0 0, .int .i64 1]))
/-- What a round of Levels keeps: g the slice's block, its list, the marks' block. -/
def LvI (b0 b1 b2 e0 e1 e2 : Int) (l : List Int) (g n : Nat) (w : World) (k : Nat) (wr : World) : Prop := (∀ z ∈ l.take k, 0 ≤ z) ∧ wr.ownsRow w.heap.size 3 1 (.slice (some ⟨g, 0, none⟩) k n) k (nums .i64 (lvs (nxL b0 b1 b2 e0 e1 e2) 0 (l.take k))) ∧ Own wr w.heap.size 52 [.int .i64 b0, .int .i64 b1, .int .i64 b2, .int .i64 e0, .int .i64 e1, .int .i64 e2] ∧ Below w.heap.size w wr
set_option maxHeartbeats 4000000 in
set_option maxRecDepth 100000 in
theorem fl_levels (b0 b1 b2 e0 e1 e2 : Int) (s : Option Addr) (n c : Nat) (l : List Int) (w : World) (h : Row .i64 w s n c l) (hn : n ≤ 1000) :
    Calls Try.prog 27 #[.agg #[.int .i64 b0, .int .i64 b1, .int .i64 b2, .int .i64 e0, .int .i64 e1, .int .i64 e2], .slice s n c] w fun e w' => LvOut b0 b1 b2 e0 e1 e2 n l w e w' := by
  obtain ⟨W, hW⟩ : ∃ W, W = w.alloc (.cells #[.int .i64 b0, .int .i64 b1, .int .i64 b2, .int .i64 e0, .int .i64 e1, .int .i64 e2] 52) := ⟨_, rfl⟩
  have o1 : Own W w.heap.size 52 [.int .i64 b0, .int .i64 b1, .int .i64 b2, .int .i64 e0, .int .i64 e1, .int .i64 e2] := by rw [hW]; exact Blk.fresh w _ _ _ rfl
  have hbl : Below w.heap.size w W := by rw [hW]; exact below_alloc w _
  have c0 := o1.cell 0 (by simp)
  have c1 := o1.cell 1 (by simp)
  have c2 := o1.cell 2 (by simp)
  have c3 := o1.cell 3 (by simp)
  have c4 := o1.cell 4 (by simp)
  have c5 := o1.cell 5 (by simp)
  simp only [List.getD_cons_succ, List.getD_cons_zero] at c0 c1 c2 c3 c4 c5
  have hs1 : W.heap.size = w.heap.size + 1 := by rw [hW]; simp
  obtain ⟨W2, hW2⟩ : ∃ X, X = W.alloc (.cells #[.int .i64 b0, .int .i64 b1, .int .i64 b2, .int .i64 e0, .int .i64 e1, .int .i64 e2] 52) := ⟨_, rfl⟩
  have hv := mk_areValid b0 b1 b2 e0 e1 e2 W
  rw [← hW2] at hv
  have o2 : Own W2 w.heap.size 52 [.int .i64 b0, .int .i64 b1, .int .i64 b2, .int .i64 e0, .int .i64 e1, .int .i64 e2] := by rw [hW2]; exact o1.below (below_alloc W _) (by omega)
  have hb2 : Below w.heap.size w W2 := by rw [hW2]; exact hbl.alloc (by omega) _
  have hmk := make_ints n (by omega)
  obtain ⟨W3, hW3⟩ : ∃ X, X = W2.alloc (.cells (madeCells #[.int .i64 0] n) 3) := ⟨_, rfl⟩
  obtain ⟨g, hg⟩ : ∃ g, g = W2.heap.size := ⟨_, rfl⟩
  have ow3 : W3.ownsRow w.heap.size 3 1 (.slice (some ⟨g, 0, none⟩) 0 n) 0 (nums .i64 []) := by rw [hW3, hg]; exact owns_ints W2 _ _ (by rw [hW2]; simp; omega) (by omega)
  have o3 : Own W3 w.heap.size 52 [.int .i64 b0, .int .i64 b1, .int .i64 b2, .int .i64 e0, .int .i64 e1, .int .i64 e2] := by rw [hW3]; exact o2.below (below_alloc W2 _) o2.lt
  have hb3 : Below w.heap.size w W3 := by rw [hW3]; exact hb2.alloc hb2.size _
  have hgl : w.heap.size < g := by rw [hg, hW2]; simp; omega
  have HV := Lib.hid hv
  have HW := Lib.hid hW
  have HW3 := Lib.hid hW3
  have HG := Lib.hid hg
  have HB2 := Lib.hid hb2
  have H3 := Lib.hid (And.intro ow3 (And.intro o3 (And.intro hb3 hgl)))
  have HR := Lib.hid h
  have HN := Lib.hid hn
  clear hv hW hW2 o1 o2 hbl hs1 hb2 hW3 hg ow3 o3 hb3 hgl h hn
  by_cases hok : okM b0 b1 b2 e0 e1 e2 = true
  · rw [hok] at HV
    have HOK := Lib.hid hok
    clear hok
    go_enter Try.func27, Try.ntmps27
    go_upto_region 1 with fail
    rw [← HW.out]
    go_wp2_with fail
    with_reducible refine HV.out.mono ?_
    rintro e w2 ⟨rfl, rfl⟩
    clear c0 c1 c2 c3 c4 c5 HW HV
    go_upto_region 4 with fail
    rw [← HG.out, ← HW3.out]
    clear HG HW3 hmk HB2
    go_wp2_with fail
    obtain ⟨FF, hFF⟩ : ∃ F : Nat → Int, F = fun k => (l.take k).foldl (nxL b0 b1 b2 e0 e1 e2) 0 := ⟨_, rfl⟩
    have HFF := Lib.hid hFF
    have HF0 := Lib.hid (show FF 0 = 0 by rw [hFF]; rfl)
    clear hFF
    go_loopw [6, 7, 18] (fun x y i wr => ∃ k : Nat, k ≤ n ∧ x = .slice (some ⟨g, 0, none⟩) k n ∧ y = .int .i64 (FF k) ∧ i = .int .i64 k ∧ LvI b0 b1 b2 e0 e1 e2 l g n w k wr) (fun _ _ i _ => n - (intOf i).toNat)
    case atStart => exact ⟨0, Nat.zero_le _, rfl, by rw [HF0.out], rfl, by simp, H3.out.1, H3.out.2.1, H3.out.2.2.1⟩
    case round =>
      obtain ⟨k, hk, rfl, rfl, rfl, hpos, how, ho, hb⟩ := hrel
      have HP := Lib.hid (And.intro hpos (And.intro how (And.intro ho hb)))
      have d0 := ho.cell 0 (by simp)
      have d1 := ho.cell 1 (by simp)
      have d2 := ho.cell 2 (by simp)
      have d3 := ho.cell 3 (by simp)
      have d4 := ho.cell 4 (by simp)
      have d5 := ho.cell 5 (by simp)
      simp only [List.getD_cons_succ, List.getD_cons_zero] at d0 d1 d2 d3 d4 d5
      obtain ⟨LA, hLA⟩ : ∃ LA, LA = FF k := ⟨_, rfl⟩
      rw [← hLA]
      rw [HFF.out] at hLA
      clear hpos how ho hb
      by_cases hlt : k < n
      · have hki : (k : Int) < (n : Int) := by omega
        have k0 : (0 : Int) ≤ (k : Int) := by omega
        have hrow := HR.out.later HP.out.2.2.2
        rcases hrow.cells with h0 | ⟨b, o, rfl, hc⟩
        · exact absurd h0 (by omega)
        have hcell := hc k hlt
        obtain ⟨x, hx⟩ : ∃ x, x = l.getD k 0 := ⟨_, rfl⟩
        rw [← hx] at hcell
        have hw1 : IntKind.i64.wrap ((k : Int) + 1) = ((k + 1 : Nat) : Int) := by have := HN.out; rw [IntWalk.i64_in _ (by omega)]; omega
        obtain ⟨K, hK⟩ : ∃ K, K = k + 1 := ⟨_, rfl⟩
        rw [← hK] at hw1
        have hxm : x ∈ l := by
          have hl := HR.out.len
          rw [hx, List.getD_eq_getElem?_getD, List.getElem?_eq_getElem (by omega)]
          exact List.getElem_mem _
        have htk : l.take (k + 1) = l.take k ++ [x] := by rw [hx]; exact take_succ' (by have hl := HR.out.len; omega)
        have HX := Lib.hid (And.intro hxm (And.intro htk (And.intro hK hlt)))
        have HLA := Lib.hid hLA
        clear hrow hc hx hxm htk hK hlt hk hLA
        by_cases hx0 : x < 0
        · have HX0 := Lib.hid hx0
          go_wp2
          go_ret2
          refine ⟨HP.out.2.2.2, ?_⟩
          rw [if_neg (fun hh => by have := hh.2 x HX.out.1; have := HX0.out; omega)]
          rfl
        · have HX0 := Lib.hid hx0
          go_wp2_with fail
          with_reducible refine (mk_next b0 b1 b2 e0 e1 e2 LA x _).mono ?_
          rintro e w4 ⟨rfl, rfl⟩
          obtain ⟨Y, hY⟩ : ∃ Y, Y = nxL b0 b1 b2 e0 e1 e2 LA x := ⟨_, rfl⟩
          rw [← hY]
          obtain ⟨W4, hW4⟩ : ∃ X, X = wr.alloc (.cells #[.int .i64 b0, .int .i64 b1, .int .i64 b2, .int .i64 e0, .int .i64 e1, .int .i64 e2] 52) := ⟨_, rfl⟩
          rw [← hW4]
          have ow4 : W4.ownsRow w.heap.size 3 1 (.slice (some ⟨g, 0, none⟩) k n) k (nums .i64 (lvs (nxL b0 b1 b2 e0 e1 e2) 0 (l.take k))) := by rw [hW4]; exact HP.out.2.1.alloc _
          have o4 : Own W4 w.heap.size 52 [.int .i64 b0, .int .i64 b1, .int .i64 b2, .int .i64 e0, .int .i64 e1, .int .i64 e2] := by rw [hW4]; exact HP.out.2.2.1.below (below_alloc wr _) HP.out.2.2.1.lt
          have hb4 : Below w.heap.size w W4 := by rw [hW4]; exact HP.out.2.2.2.alloc HP.out.2.2.2.size _
          have H4 := Lib.hid (And.intro ow4 (And.intro o4 hb4))
          have HY := Lib.hid hY
          clear ow4 o4 hb4 hW4 hY hx0 hcell d0 d1 d2 d3 d4 d5
          go_wp2_with (with_reducible refine Blk.append_fits Try.underlying57 info64 rfl _ _ rfl w.heap.size g k n (lvs (nxL b0 b1 b2 e0 e1 e2) 0 (l.take k)) Y rfl H4.out.1 rfl (by have := HX.out.2.2.2; omega) ?_)
          intro w5 h5 x5
          have o5 := H4.out.2.1.exc x5 (fun e => by have := H3.out.2.2.2; omega)
          have hb5 : Below w.heap.size w w5 := H4.out.2.2.trans (x5.below H4.out.2.2.size (fun i _ e => by have := H3.out.2.2.2; omega))
          have H5 := Lib.hid (And.intro h5 (And.intro o5 hb5))
          clear h5 x5 o5 hb5 H4
          go_wp2
          obtain ⟨hxm, htk, hK, hlt⟩ := HX.out
          obtain ⟨h5, o5, hb5⟩ := H5.out
          subst hK
          refine ⟨⟨k + 1, by omega, rfl, ?_, rfl, ?_, ?_, o5, hb5⟩, by simp only [intOf]; omega⟩
          · rw [HFF.out]
            show _ = Value.int .i64 ((l.take (k + 1)).foldl (nxL b0 b1 b2 e0 e1 e2) 0)
            rw [htk, List.foldl_append, ← HLA.out, HY.out]; rfl
          · rw [htk]
            intro z hz
            rcases List.mem_append.1 hz with hz | hz
            · exact HP.out.1 z hz
            · have : z = x := by simpa using hz
              rw [this]; have := HX0.out; omega
          · rw [htk, lvs_snoc, ← HLA.out, ← HY.out]; exact h5
      · obtain rfl : k = n := by omega
        have hki : ¬ (k : Int) < (k : Int) := by omega
        have hl := HR.out.len
        have HLL := Lib.hid hl
        clear hlt hk hLA hl
        go_wp2
        go_ret2
        obtain ⟨hpos, how, ho, hb⟩ := HP.out
        rw [List.take_of_length_le (by rw [HLL.out]; exact Nat.le_refl _)] at hpos how
        refine ⟨hb, ?_⟩
        rw [if_pos ⟨HOK.out, hpos⟩]
        refine ⟨g, rfl, by have := H3.out.2.2.2; omega, row_full how (by rw [lvs_length, HLL.out]) HN.out (fun x hx => wf_i64.2 ?_)⟩
        have := lvs_mem (P := fun y => 0 ≤ y ∧ y ≤ 3) (fun a n => nxL_in b0 b1 b2 e0 e1 e2 a n) l 0 x hx
        omega
  · have HOK := Lib.hid hok
    rw [Bool.not_eq_true] at hok
    rw [hok] at HV
    clear hok
    go_enter Try.func27, Try.ntmps27
    go_upto_region 1 with fail
    rw [← HW.out]
    go_wp2_with fail
    with_reducible refine HV.out.mono ?_
    rintro e w2 ⟨rfl, rfl⟩
    go_wp2
    go_ret2
    exact ⟨HB2.out, by rw [if_neg (fun h => HOK.out h.1)]; rfl⟩
end Go.Proofs.Ytmjgagbmpcbjmaa
