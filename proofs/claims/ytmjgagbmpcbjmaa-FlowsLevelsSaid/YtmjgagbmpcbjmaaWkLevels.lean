/- Statements of layer 10: FlowsLevels. -/
import Derived.Test.YtmjgagbmpcbjmaaWkLevel
import Derived.Deep.RegionHeld3
import Derived.Deep.CutBlock
namespace Go.Proofs.Ytmjgagbmpcbjmaa
open Go.RowKit

/-- The wanted error. -/
def wantL (l : List Int) : Nat := if ∀ x ∈ l, 0 ≤ x then 0 else 1
theorem wantL_snoc (l : List Int) (x : Int) : wantL (l ++ [x]) = if x < 0 then 1 else wantL l := by
  unfold wantL
  by_cases h : x < 0
  · rw [if_pos h, if_neg (fun hh => by have := hh x (by simp); omega)]
  · rw [if_neg h]
    congr 1
    apply propext
    constructor
    · intro hh y hy; exact hh y (by simp [hy])
    · intro hh y hy
      rcases List.mem_append.1 hy with hy | hy
      · exact hh y hy
      · have : y = x := by simpa using hy
        omega
theorem levels_yes (b0 b1 b2 e0 e1 e2 : Int) (s : Option Addr) (n c : Nat) (l : List Int) (w : World) (h : Row .i64 w s n c l) (hn : n ≤ 1000) (hh : okM b0 b1 b2 e0 e1 e2 = true ∧ ∀ x ∈ l, 0 ≤ x) :
    Calls Try.prog 27 #[.agg #[.int .i64 b0, .int .i64 b1, .int .i64 b2, .int .i64 e0, .int .i64 e1, .int .i64 e2], .slice s n c] w fun e w' => ∃ g, e = .returned (.tuple #[.slice (some ⟨g, 0, none⟩) n n, .int .i64 0]) ∧ Row .i64 w' (some ⟨g, 0, none⟩) n n (lvs (nxL b0 b1 b2 e0 e1 e2) 0 l) ∧ Below w.heap.size w w' := by
  refine (fl_levels b0 b1 b2 e0 e1 e2 s n c l w h hn).mono ?_
  rintro e w' ⟨h1, h2⟩
  rw [if_pos hh] at h2
  obtain ⟨g, rfl, _, h3⟩ := h2
  exact ⟨g, rfl, h3, h1⟩
theorem levels_no (b0 b1 b2 e0 e1 e2 : Int) (s : Option Addr) (n c : Nat) (l : List Int) (w : World) (h : Row .i64 w s n c l) (hn : n ≤ 1000) (hh : ¬ (okM b0 b1 b2 e0 e1 e2 = true ∧ ∀ x ∈ l, 0 ≤ x)) :
    Calls Try.prog 27 #[.agg #[.int .i64 b0, .int .i64 b1, .int .i64 b2, .int .i64 e0, .int .i64 e1, .int .i64 e2], .slice s n c] w fun e w' => e = .returned (.tuple #[.slice none 0 0, .int .i64 1]) ∧ Below w.heap.size w w' := by
  refine (fl_levels b0 b1 b2 e0 e1 e2 s n c l w h hn).mono ?_
  rintro e w' ⟨h1, h2⟩
  rw [if_neg hh] at h2
  exact ⟨h2, h1⟩
theorem foldl_in (b0 b1 b2 e0 e1 e2 : Int) (l : List Int) : 0 ≤ l.foldl (nxL b0 b1 b2 e0 e1 e2) 0 ∧ l.foldl (nxL b0 b1 b2 e0 e1 e2) 0 ≤ 3 := by
  suffices h : ∀ (l : List Int) (a : Int), 0 ≤ a ∧ a ≤ 3 → 0 ≤ l.foldl (nxL b0 b1 b2 e0 e1 e2) a ∧ l.foldl (nxL b0 b1 b2 e0 e1 e2) a ≤ 3 from h l 0 (by decide)
  intro l
  induction l with
  | nil => intro a h; exact h
  | cons n t ih => intro a _; exact ih _ (nxL_in b0 b1 b2 e0 e1 e2 a n)
set_option maxHeartbeats 4000000 in
set_option maxRecDepth 100000 in
theorem levels_any (b0 b1 b2 e0 e1 e2 : Int) (s : Option Addr) (n c : Nat) (l : List Int) (w : World) (hr : Row .i64 w s n c l) :
    Calls Try.prog 8 #[.agg #[.int .i64 b0, .int .i64 b1, .int .i64 b2, .int .i64 e0, .int .i64 e1, .int .i64 e2], .slice s n c] w fun e w' => e = .returned (.bool true) ∧ Below w.heap.size w w' := by
  obtain ⟨W, hW⟩ : ∃ W, W = w.alloc (.cells #[.int .i64 b0, .int .i64 b1, .int .i64 b2, .int .i64 e0, .int .i64 e1, .int .i64 e2] 52) := ⟨_, rfl⟩
  have o1 : Own W w.heap.size 52 [.int .i64 b0, .int .i64 b1, .int .i64 b2, .int .i64 e0, .int .i64 e1, .int .i64 e2] := by rw [hW]; exact Blk.fresh w _ _ _ rfl
  have hbl : Below w.heap.size w W := by rw [hW]; exact below_alloc w _
  have c0 := o1.cell 0 (by simp)
  have c1 := o1.cell 1 (by simp)
  have c2 := o1.cell 2 (by simp)
  have c3 := o1.cell 3 (by simp)
  have c4 := o1.cell 4 (by simp)
  have c5 := o1.cell 5 (by simp)
  simp only [List.getD_cons_succ, List.getD_cons_zero] at c0 c1 c2 c3 c4 c5
  have HW := Lib.hid hW
  have HO := Lib.hid o1
  have HB := Lib.hid hbl
  have HLv := Lib.hid lives_any
  have HR := Lib.hid hr
  clear hW o1 hbl hr
  by_cases g1 : 100 < n
  · have g2 : (100 : Int) < (n : Int) := by omega
    clear g1
    go_enter Try.func8, Try.ntmps8
    go_upto_region 1 with fail
    rw [← HW.out]
    clear HW
    go_wp2_with fail
    with_reducible refine (HLv.out _).mono ?_
    rintro e w99 ⟨rfl, hb99⟩
    have HB99 := Lib.hid ((HB.out).trans (Below.mono hb99 (HB.out).size))
    clear hb99 HLv
    go_wp2
    go_ret
    exact ⟨rfl, HB99.out⟩
  have g2 : ¬ (100 : Int) < (n : Int) := by omega
  have HG := Lib.hid g1
  clear g1
  by_cases hok : okM b0 b1 b2 e0 e1 e2 = true
  · by_cases hall : ∀ x ∈ l, 0 ≤ x
    · have HC := Lib.hid (And.intro hok hall)
      have HOK := Lib.hid hok
      clear hok hall
      go_enter Try.func8, Try.ntmps8
      go_upto_region 1 with fail
      rw [← HW.out]
      clear HW
      go_wp2_with fail
      with_reducible refine (levels_yes b0 b1 b2 e0 e1 e2 s n c l W (HR.out.later HB.out) (by have := HG.out; omega) HC.out).mono ?_
      rintro e w1 ⟨g, rfl, hrow, hb1⟩
      have o2 := HO.out.below hb1 HO.out.lt
      have hb2 := HB.out.trans (Below.mono hb1 HB.out.size)
      clear c0 c1 c2 c3 c4 c5
      have c0 := o2.cell 0 (by simp)
      have c1 := o2.cell 1 (by simp)
      have c2 := o2.cell 2 (by simp)
      have c3 := o2.cell 3 (by simp)
      have c4 := o2.cell 4 (by simp)
      have c5 := o2.cell 5 (by simp)
      simp only [List.getD_cons_succ, List.getD_cons_zero] at c0 c1 c2 c3 c4 c5
      have HO2 := Lib.hid o2
      have HB2 := Lib.hid hb2
      have HL2 := Lib.hid hrow
      clear hrow
      clear o2 hb2 hb1 HO HB g2
      go_wp2_with fail
      go_loopw [7, 8] (fun v i wr => ∃ k Q : Nat, k ≤ n ∧ v = .int .i64 (Q : Int) ∧ i = .int .i64 k ∧ Q = wantL (l.take k) ∧ wr = w1) (fun _ i _ => n - (intOf i).toNat)
      case atStart => exact ⟨0, 0, Nat.zero_le _, rfl, rfl, rfl, rfl⟩
      case round =>
        obtain ⟨k, Q, hk, rfl, rfl, hQ, rfl⟩ := hrel
        have HQ := Lib.hid hQ
        clear hQ
        by_cases hlt : k < n
        · have hki : (k : Int) < (n : Int) := by omega
          have k0 : (0 : Int) ≤ (k : Int) := by omega
          rcases (HR.out.later HB2.out).cells with h0 | ⟨b, o, rfl, hc⟩
          · exact absurd h0 (by omega)
          have hcell := hc k hlt
          obtain ⟨x, hx⟩ : ∃ x, x = l.getD k 0 := ⟨_, rfl⟩
          rw [← hx] at hcell
          have hw1 : IntKind.i64.wrap ((k : Int) + 1) = ((k + 1 : Nat) : Int) := by have := HG.out; rw [IntWalk.i64_in _ (by omega)]; omega
          obtain ⟨K, hK⟩ : ∃ K, K = k + 1 := ⟨_, rfl⟩
          rw [← hK] at hw1
          have htk : l.take (k + 1) = l.take k ++ [x] := by rw [hx]; exact take_succ' (by have hl := HR.out.len; omega)
          have HX := Lib.hid (And.intro htk (And.intro hK hlt))
          clear hc hx htk hK hlt hk
          by_cases hx0 : x < 0
          · have HX0 := Lib.hid hx0
            go_wp2
            obtain ⟨htk, hK, hlt⟩ := HX.out
            subst hK
            exact ⟨⟨k + 1, 1, by omega, rfl, rfl, by rw [htk, wantL_snoc, if_pos HX0.out], trivial⟩, by simp only [intOf]; omega⟩
          · have HX0 := Lib.hid hx0
            go_wp2
            obtain ⟨htk, hK, hlt⟩ := HX.out
            subst hK
            exact ⟨⟨k + 1, Q, by omega, rfl, rfl, by rw [htk, wantL_snoc, if_neg HX0.out]; exact HQ.out, trivial⟩, by simp only [intOf]; omega⟩
        · obtain rfl : k = n := by omega
          have hki : ¬ (k : Int) < (k : Int) := by omega
          have hq := HQ.out
          rw [List.take_of_length_le (by rw [HR.out.len]; exact Nat.le_refl _)] at hq
          obtain rfl : Q = 0 := by rw [hq]; exact if_pos HC.out.2
          clear hq hlt hk HQ
          go_wp2_with fail
          with_reducible refine (valid_is HOK.out _).mono ?_
          rintro e w2 ⟨rfl, hb3⟩
          have o3 := HO2.out.below hb3 HO2.out.lt
          have hb4 := HB2.out.trans (Below.mono hb3 HB2.out.size)
          clear c0 c1 c2 c3 c4 c5
          have c0 := o3.cell 0 (by simp)
          have c1 := o3.cell 1 (by simp)
          have c2 := o3.cell 2 (by simp)
          have c3 := o3.cell 3 (by simp)
          have c4 := o3.cell 4 (by simp)
          have c5 := o3.cell 5 (by simp)
          simp only [List.getD_cons_succ, List.getD_cons_zero] at c0 c1 c2 c3 c4 c5
          have HO3 := Lib.hid o3
          have HB3 := Lib.hid hb4
          have HL3 := Lib.hid (HL2.out.later hb3)
          clear HL2
          clear o3 hb4 hb3 HO2 HB2
          obtain ⟨FF, hFF⟩ : ∃ F : Nat → Int, F = fun k => (l.take k).foldl (nxL b0 b1 b2 e0 e1 e2) 0 := ⟨_, rfl⟩
          have HFF := Lib.hid hFF
          have HF0 := Lib.hid (show FF 0 = 0 by rw [hFF]; rfl)
          have HRg := Lib.hid (HR.out.later HB3.out)
          clear hFF c0 c1 c2 c3 c4 c5 hki
          go_wp2_with fail
          go_loopw [9, 10] (fun v i wr => ∃ j : Nat, j ≤ k ∧ v = .int .i64 (FF j) ∧ i = .int .i64 j ∧ Below w2.heap.size w2 wr) (fun _ i _ => k - (intOf i).toNat)
          case atStart => exact ⟨0, Nat.zero_le _, by rw [HF0.out], rfl, Below.refl _ _⟩
          case round =>
            obtain ⟨j, hj, rfl, rfl, hbj⟩ := hrel
            have HJ := Lib.hid hbj
            clear hbj
            obtain ⟨LA, hLA⟩ : ∃ LA, LA = FF j := ⟨_, rfl⟩
            rw [← hLA]
            by_cases hlt : j < k
            · have hji : (j : Int) < (k : Int) := by omega
              have hjn : j < k := hlt
              have hjd : decide ((j : Int) < (k : Int)) = true := decide_eq_true hji
              have hjd2 : decide (j < k) = true := decide_eq_true hlt
              have j0 : (0 : Int) ≤ (j : Int) := by omega
              rcases HRg.out.cells with h0 | ⟨b, o, rfl, hc⟩
              · exact absurd h0 (by omega)
              rcases HL3.out.cells with h0 | ⟨b', o', eg, hc'⟩
              · exact absurd h0 (by omega)
              cases eg
              have hcell0 := hc j hlt
              have hgot0 := hc' j hlt
              rw [Nat.zero_add] at hgot0
              obtain ⟨x, hx⟩ : ∃ x, x = l.getD j 0 := ⟨_, rfl⟩
              obtain ⟨Y, hY⟩ : ∃ Y, Y = nxL b0 b1 b2 e0 e1 e2 LA x := ⟨_, rfl⟩
              have hlen : j < l.length := by have hl := HR.out.len; omega
              rw [lvs_getD _ _ _ _ hlen, show (l.take j).foldl (nxL b0 b1 b2 e0 e1 e2) 0 = LA by rw [hLA, HFF.out], ← hx, ← hY] at hgot0
              rw [← hx] at hcell0
              have hxm : x ∈ l := by
                rw [hx, List.getD_eq_getElem?_getD, List.getElem?_eq_getElem hlen]
                exact List.getElem_mem _
              have htk : l.take (j + 1) = l.take j ++ [x] := by rw [hx]; exact take_succ' hlen
              have hla : 0 ≤ LA ∧ LA ≤ 3 := by
                rw [hLA, HFF.out]
                show 0 ≤ (l.take j).foldl (nxL b0 b1 b2 e0 e1 e2) 0 ∧ (l.take j).foldl (nxL b0 b1 b2 e0 e1 e2) 0 ≤ 3
                exact foldl_in b0 b1 b2 e0 e1 e2 (l.take j)
              have hw1 : IntKind.i64.wrap ((j : Int) + 1) = ((j + 1 : Nat) : Int) := by have := HG.out; rw [IntWalk.i64_in _ (by omega)]; omega
              obtain ⟨K, hK⟩ : ∃ K, K = j + 1 := ⟨_, rfl⟩
              rw [← hK] at hw1
              have hly := fun W' => level_yes b0 b1 b2 e0 e1 e2 LA x W' ⟨HC.out.1, hla.1, hla.2, HC.out.2 x hxm⟩
              rw [← hY] at hly
              have HLy := Lib.hid hly
              have HX := Lib.hid (And.intro htk (And.intro hK (And.intro hlt (And.intro hLA hY))))
              have hcl := HJ.out.cell (World.block_lt_of_cell? w2 _ hcell0)
              have oj := HO3.out.below HJ.out HO3.out.lt
              have c0 := oj.cell 0 (by simp)
              have c1 := oj.cell 1 (by simp)
              have c2 := oj.cell 2 (by simp)
              have c3 := oj.cell 3 (by simp)
              have c4 := oj.cell 4 (by simp)
              have c5 := oj.cell 5 (by simp)
              simp only [List.getD_cons_succ, List.getD_cons_zero] at c0 c1 c2 c3 c4 c5
              have hcell := hcl.trans hcell0
              have HS := Lib.hid (fun W' (hb : Below wr.drew.heap.size wr.drew W') => (show W'.cell? ⟨w.heap.size, 0, none⟩ = some (.int .i64 b0) ∧ W'.cell? ⟨w.heap.size, 1, none⟩ = some (.int .i64 b1) ∧ W'.cell? ⟨w.heap.size, 2, none⟩ = some (.int .i64 b2) ∧ W'.cell? ⟨w.heap.size, 3, none⟩ = some (.int .i64 e0) ∧ W'.cell? ⟨w.heap.size, 4, none⟩ = some (.int .i64 e1) ∧ W'.cell? ⟨w.heap.size, 5, none⟩ = some (.int .i64 e2) ∧ W'.cell? ⟨b, o + j, none⟩ = some (.int .i64 x) from by
                have ok := oj.below ((below_draw wr 1).trans hb) oj.lt
                exact ⟨ok.cell 0 (by simp), ok.cell 1 (by simp), ok.cell 2 (by simp), ok.cell 3 (by simp), ok.cell 4 (by simp), ok.cell 5 (by simp), (hb.cell (World.block_lt_of_cell? wr _ hcell)).trans hcell⟩))
              have HG0 := Lib.hid hgot0
              clear hc hc' hcell0 hx hxm htk hla hlen hK hlt hj hLA hY hly hcl oj hgot0
              go_wp2_with fail
              first
                | go_region_held3 (fun W' => W'.cell? ⟨w.heap.size, 0, none⟩ = some (.int .i64 b0) ∧ W'.cell? ⟨w.heap.size, 1, none⟩ = some (.int .i64 b1) ∧ W'.cell? ⟨w.heap.size, 2, none⟩ = some (.int .i64 b2) ∧ W'.cell? ⟨w.heap.size, 3, none⟩ = some (.int .i64 e0) ∧ W'.cell? ⟨w.heap.size, 4, none⟩ = some (.int .i64 e1) ∧ W'.cell? ⟨w.heap.size, 5, none⟩ = some (.int .i64 e2) ∧ W'.cell? ⟨b, o + j, none⟩ = some (.int .i64 x)) (first | assumption | exact HS.out _ (by assumption) | exact HS.out _ (Below.refl _ _) | go_keep)
                    (first
                      | (go_at_call 25; ((with_reducible refine (HLy.out _).mono ?_); rintro e w11 ⟨rfl, hb11⟩))
                      | fail)
                | fail
              have hb12 := (below_draw wr 1).trans (show Below wr.drew.heap.size wr.drew w11 from hb11)
              have hgot := ((HJ.out.trans (Below.mono hb12 HJ.out.size)).cell (World.block_lt_of_cell? w2 _ HG0.out)).trans HG0.out
              have HJ2 := Lib.hid (HJ.out.trans (Below.mono hb12 HJ.out.size))
              clear hb11 hb12 c0 c1 c2 c3 c4 c5 hcell HLy HS
              go_wp2
              obtain ⟨htk, hK, hlt, hLA, hY⟩ := HX.out
              subst hK
              exact ⟨⟨j + 1, by omega, by rw [HFF.out]; show _ = Value.int .i64 ((l.take (j + 1)).foldl (nxL b0 b1 b2 e0 e1 e2) 0); rw [htk, List.foldl_append, show (l.take j).foldl (nxL b0 b1 b2 e0 e1 e2) 0 = LA by rw [hLA, HFF.out], hY]; rfl, rfl, HJ2.out⟩, by simp only [intOf]; omega⟩
            · obtain rfl : j = k := by omega
              have hji : ¬ (j : Int) < (j : Int) := by omega
              have hjd : decide ((j : Int) < (j : Int)) = false := decide_eq_false hji
              clear hlt hj hLA
              go_wp2_with fail
              with_reducible refine (HLv.out _).mono ?_
              rintro e w99 ⟨rfl, hb99⟩
              have HB99 := Lib.hid ((HB3.out.trans (Below.mono HJ.out HB3.out.size)).trans (Below.mono hb99 (HB3.out.trans (Below.mono HJ.out HB3.out.size)).size))
              clear hb99 HLv
              go_wp2
              go_ret
              exact ⟨rfl, HB99.out⟩
    · have HC := Lib.hid (show ¬ (okM b0 b1 b2 e0 e1 e2 = true ∧ ∀ x ∈ l, 0 ≤ x) from fun h => hall h.2)
      have HOK := Lib.hid hok
      clear hok hall
      go_enter Try.func8, Try.ntmps8
      go_upto_region 1 with fail
      rw [← HW.out]
      clear HW
      go_wp2_with fail
      with_reducible refine (levels_no b0 b1 b2 e0 e1 e2 s n c l W (HR.out.later HB.out) (by have := HG.out; omega) HC.out).mono ?_
      rintro e w1 ⟨rfl, hb1⟩
      have o2 := HO.out.below hb1 HO.out.lt
      have hb2 := HB.out.trans (Below.mono hb1 HB.out.size)
      clear c0 c1 c2 c3 c4 c5
      have c0 := o2.cell 0 (by simp)
      have c1 := o2.cell 1 (by simp)
      have c2 := o2.cell 2 (by simp)
      have c3 := o2.cell 3 (by simp)
      have c4 := o2.cell 4 (by simp)
      have c5 := o2.cell 5 (by simp)
      simp only [List.getD_cons_succ, List.getD_cons_zero] at c0 c1 c2 c3 c4 c5
      have HO2 := Lib.hid o2
      have HB2 := Lib.hid hb2
      clear o2 hb2 hb1 HO HB g2
      go_wp2_with fail
      go_loopw [7, 8] (fun v i wr => ∃ k Q : Nat, k ≤ n ∧ v = .int .i64 (Q : Int) ∧ i = .int .i64 k ∧ Q = wantL (l.take k) ∧ wr = w1) (fun _ i _ => n - (intOf i).toNat)
      case atStart => exact ⟨0, 0, Nat.zero_le _, rfl, rfl, rfl, rfl⟩
      case round =>
        obtain ⟨k, Q, hk, rfl, rfl, hQ, rfl⟩ := hrel
        have HQ := Lib.hid hQ
        clear hQ
        by_cases hlt : k < n
        · have hki : (k : Int) < (n : Int) := by omega
          have k0 : (0 : Int) ≤ (k : Int) := by omega
          rcases (HR.out.later HB2.out).cells with h0 | ⟨b, o, rfl, hc⟩
          · exact absurd h0 (by omega)
          have hcell := hc k hlt
          obtain ⟨x, hx⟩ : ∃ x, x = l.getD k 0 := ⟨_, rfl⟩
          rw [← hx] at hcell
          have hw1 : IntKind.i64.wrap ((k : Int) + 1) = ((k + 1 : Nat) : Int) := by have := HG.out; rw [IntWalk.i64_in _ (by omega)]; omega
          obtain ⟨K, hK⟩ : ∃ K, K = k + 1 := ⟨_, rfl⟩
          rw [← hK] at hw1
          have htk : l.take (k + 1) = l.take k ++ [x] := by rw [hx]; exact take_succ' (by have hl := HR.out.len; omega)
          have HX := Lib.hid (And.intro htk (And.intro hK hlt))
          clear hc hx htk hK hlt hk
          by_cases hx0 : x < 0
          · have HX0 := Lib.hid hx0
            go_wp2
            obtain ⟨htk, hK, hlt⟩ := HX.out
            subst hK
            exact ⟨⟨k + 1, 1, by omega, rfl, rfl, by rw [htk, wantL_snoc, if_pos HX0.out], trivial⟩, by simp only [intOf]; omega⟩
          · have HX0 := Lib.hid hx0
            go_wp2
            obtain ⟨htk, hK, hlt⟩ := HX.out
            subst hK
            exact ⟨⟨k + 1, Q, by omega, rfl, rfl, by rw [htk, wantL_snoc, if_neg HX0.out]; exact HQ.out, trivial⟩, by simp only [intOf]; omega⟩
        · obtain rfl : k = n := by omega
          have hki : ¬ (k : Int) < (k : Int) := by omega
          have hq := HQ.out
          rw [List.take_of_length_le (by rw [HR.out.len]; exact Nat.le_refl _)] at hq
          obtain rfl : Q = 1 := by rw [hq]; exact if_neg (fun h => HC.out ⟨HOK.out, h⟩)
          clear hq hlt hk HQ
          go_wp2_with fail
          with_reducible refine (valid_is HOK.out _).mono ?_
          rintro e w2 ⟨rfl, hb3⟩
          have o3 := HO2.out.below hb3 HO2.out.lt
          have hb4 := HB2.out.trans (Below.mono hb3 HB2.out.size)
          clear c0 c1 c2 c3 c4 c5
          have c0 := o3.cell 0 (by simp)
          have c1 := o3.cell 1 (by simp)
          have c2 := o3.cell 2 (by simp)
          have c3 := o3.cell 3 (by simp)
          have c4 := o3.cell 4 (by simp)
          have c5 := o3.cell 5 (by simp)
          simp only [List.getD_cons_succ, List.getD_cons_zero] at c0 c1 c2 c3 c4 c5
          have HO3 := Lib.hid o3
          have HB3 := Lib.hid hb4
          clear o3 hb4 hb3 HO2 HB2
          go_wp2_with fail
          go_loopw [10] (fun i wr => i = .int .i64 0 ∧ wr = w2) (fun _ _ => 0)
          case atStart => exact ⟨rfl, rfl⟩
          case round =>
            obtain ⟨rfl, rfl⟩ := hrel
            by_cases hk0 : 0 < k
            · have hk1 : (0 : Int) < (k : Int) := by omega
              have hk2 : decide ((0 : Int) < (k : Int)) = true := decide_eq_true hk1
              have hk3 : decide (0 < k) = true := decide_eq_true hk0
              go_wp2_with fail
              with_reducible refine (HLv.out _).mono ?_
              rintro e w99 ⟨rfl, hb99⟩
              have HB99 := Lib.hid ((HB3.out).trans (Below.mono hb99 (HB3.out).size))
              clear hb99 HLv
              go_wp2
              go_ret
              exact ⟨rfl, HB99.out⟩
            · obtain rfl : k = 0 := by omega
              clear hk0
              go_wp2_with fail
              with_reducible refine (HLv.out _).mono ?_
              rintro e w99 ⟨rfl, hb99⟩
              have HB99 := Lib.hid ((HB3.out).trans (Below.mono hb99 (HB3.out).size))
              clear hb99 HLv
              go_wp2
              go_ret
              exact ⟨rfl, HB99.out⟩
  · have HC := Lib.hid (show ¬ (okM b0 b1 b2 e0 e1 e2 = true ∧ ∀ x ∈ l, 0 ≤ x) from fun h => hok h.1)
    rw [Bool.not_eq_true] at hok
    have HOK := Lib.hid hok
    clear hok
    go_enter Try.func8, Try.ntmps8
    go_upto_region 1 with fail
    rw [← HW.out]
    clear HW
    go_wp2_with fail
    with_reducible refine (levels_no b0 b1 b2 e0 e1 e2 s n c l W (HR.out.later HB.out) (by have := HG.out; omega) HC.out).mono ?_
    rintro e w1 ⟨rfl, hb1⟩
    have o2 := HO.out.below hb1 HO.out.lt
    have hb2 := HB.out.trans (Below.mono hb1 HB.out.size)
    clear c0 c1 c2 c3 c4 c5
    have c0 := o2.cell 0 (by simp)
    have c1 := o2.cell 1 (by simp)
    have c2 := o2.cell 2 (by simp)
    have c3 := o2.cell 3 (by simp)
    have c4 := o2.cell 4 (by simp)
    have c5 := o2.cell 5 (by simp)
    simp only [List.getD_cons_succ, List.getD_cons_zero] at c0 c1 c2 c3 c4 c5
    have HO2 := Lib.hid o2
    have HB2 := Lib.hid hb2
    clear o2 hb2 hb1 HO HB g2
    go_wp2_with fail
    go_loopw [7, 8] (fun v i wr => ∃ k Q : Nat, k ≤ n ∧ v = .int .i64 (Q : Int) ∧ i = .int .i64 k ∧ Q = wantL (l.take k) ∧ wr = w1) (fun _ i _ => n - (intOf i).toNat)
    case atStart => exact ⟨0, 0, Nat.zero_le _, rfl, rfl, rfl, rfl⟩
    case round =>
      obtain ⟨k, Q, hk, rfl, rfl, hQ, rfl⟩ := hrel
      have HQ := Lib.hid hQ
      clear hQ
      by_cases hlt : k < n
      · have hki : (k : Int) < (n : Int) := by omega
        have k0 : (0 : Int) ≤ (k : Int) := by omega
        rcases (HR.out.later HB2.out).cells with h0 | ⟨b, o, rfl, hc⟩
        · exact absurd h0 (by omega)
        have hcell := hc k hlt
        obtain ⟨x, hx⟩ : ∃ x, x = l.getD k 0 := ⟨_, rfl⟩
        rw [← hx] at hcell
        have hw1 : IntKind.i64.wrap ((k : Int) + 1) = ((k + 1 : Nat) : Int) := by have := HG.out; rw [IntWalk.i64_in _ (by omega)]; omega
        obtain ⟨K, hK⟩ : ∃ K, K = k + 1 := ⟨_, rfl⟩
        rw [← hK] at hw1
        have htk : l.take (k + 1) = l.take k ++ [x] := by rw [hx]; exact take_succ' (by have hl := HR.out.len; omega)
        have HX := Lib.hid (And.intro htk (And.intro hK hlt))
        clear hc hx htk hK hlt hk
        by_cases hx0 : x < 0
        · have HX0 := Lib.hid hx0
          go_wp2
          obtain ⟨htk, hK, hlt⟩ := HX.out
          subst hK
          exact ⟨⟨k + 1, 1, by omega, rfl, rfl, by rw [htk, wantL_snoc, if_pos HX0.out], trivial⟩, by simp only [intOf]; omega⟩
        · have HX0 := Lib.hid hx0
          go_wp2
          obtain ⟨htk, hK, hlt⟩ := HX.out
          subst hK
          exact ⟨⟨k + 1, Q, by omega, rfl, rfl, by rw [htk, wantL_snoc, if_neg HX0.out]; exact HQ.out, trivial⟩, by simp only [intOf]; omega⟩
      · obtain rfl : k = n := by omega
        have hki : ¬ (k : Int) < (k : Int) := by omega
        have hq := HQ.out
        rw [List.take_of_length_le (by rw [HR.out.len]; exact Nat.le_refl _)] at hq
        clear hq hlt hk HQ
        go_wp2_with fail
        with_reducible refine (valid_is HOK.out _).mono ?_
        rintro e w2 ⟨rfl, hb3⟩
        have o3 := HO2.out.below hb3 HO2.out.lt
        have hb4 := HB2.out.trans (Below.mono hb3 HB2.out.size)
        clear c0 c1 c2 c3 c4 c5
        have c0 := o3.cell 0 (by simp)
        have c1 := o3.cell 1 (by simp)
        have c2 := o3.cell 2 (by simp)
        have c3 := o3.cell 3 (by simp)
        have c4 := o3.cell 4 (by simp)
        have c5 := o3.cell 5 (by simp)
        simp only [List.getD_cons_succ, List.getD_cons_zero] at c0 c1 c2 c3 c4 c5
        have HO3 := Lib.hid o3
        have HB3 := Lib.hid hb4
        clear o3 hb4 hb3 HO2 HB2
        go_wp2_with fail
        go_loopw [10] (fun i wr => i = .int .i64 0 ∧ wr = w2) (fun _ _ => 0)
        case atStart => exact ⟨rfl, rfl⟩
        case round =>
          obtain ⟨rfl, rfl⟩ := hrel
          by_cases hk0 : 0 < k
          · have hk1 : (0 : Int) < (k : Int) := by omega
            have hk2 : decide ((0 : Int) < (k : Int)) = true := decide_eq_true hk1
            have hk3 : decide (0 < k) = true := decide_eq_true hk0
            go_wp2_with fail
            with_reducible refine (HLv.out _).mono ?_
            rintro e w99 ⟨rfl, hb99⟩
            have HB99 := Lib.hid ((HB3.out).trans (Below.mono hb99 (HB3.out).size))
            clear hb99 HLv
            go_wp2
            go_ret
            exact ⟨rfl, HB99.out⟩
          · obtain rfl : k = 0 := by omega
            clear hk0
            go_wp2_with fail
            with_reducible refine (HLv.out _).mono ?_
            rintro e w99 ⟨rfl, hb99⟩
            have HB99 := Lib.hid ((HB3.out).trans (Below.mono hb99 (HB3.out).size))
            clear hb99 HLv
            go_wp2
            go_ret
            exact ⟨rfl, HB99.out⟩
end Go.Proofs.Ytmjgagbmpcbjmaa
