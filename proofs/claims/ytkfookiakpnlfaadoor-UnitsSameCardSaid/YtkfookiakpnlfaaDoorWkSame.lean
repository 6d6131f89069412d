/- The walk of UnitsSame. -/
import Derived.Test.YtkfookiakpnlfaaDoorUnWalk
namespace Go.Proofs.YtkfookiakpnlfaaDoor
open Go.RowKit

theorem texts_same (a0 : Int) (b1 : Bool) (a2 : Int) (b3 : Bool) (a4 a5 : Int) (n : Nat) (l : List Int) (c0 : Int) (d1 : Bool) (c2 : Int) (d3 : Bool) (c4 c5 : Int) (m : Nat) (k : List Int)
    (h0 : 0 ≤ a0) (h2 : 0 ≤ a2) (h4 : 0 ≤ a4) (h5 : 0 ≤ a5) (g0 : 0 ≤ c0) (g2 : 0 ≤ c2) (g4 : 0 ≤ c4) (g5 : 0 ≤ c5) (hl : l.length = n) (hk : k.length = m) (ol : ∀ x ∈ l, 0 ≤ x ∧ x ≤ 255) (ok : ∀ x ∈ k, 0 ≤ x ∧ x ≤ 255)
    (hE : chk a0 a2 a4 a5 n = 0) (hG : chk c0 c2 c4 c5 m = 0) :
    ((bs (textL a0 b1 a2 b3 a4 a5 l)).toList == (bs (textL c0 d1 c2 d3 c4 c5 k)).toList) = decide (sameU a0 b1 a2 b3 a4 a5 l c0 d1 c2 d3 c4 c5 k) := by
  obtain ⟨e0, e2, e4, e5, e6, _, e8⟩ := chk_ok.1 hE
  obtain ⟨f0, f2, f4, f5, f6, _, f8⟩ := chk_ok.1 hG
  rw [bs_toList, bs_toList]
  by_cases hs : sameU a0 b1 a2 b3 a4 a5 l c0 d1 c2 d3 c4 c5 k
  · rw [decide_eq_true hs]
    obtain ⟨rfl, rfl, rfl, rfl, rfl, rfl, rfl⟩ := hs
    simp
  · rw [decide_eq_false hs]
    have hne : textL a0 b1 a2 b3 a4 a5 l ≠ textL c0 d1 c2 d3 c4 c5 k := fun he => hs (textL_inj ⟨h0, e0⟩ ⟨h2, e2⟩ ⟨g0, f0⟩ ⟨g2, f2⟩ ⟨h4, e4⟩ ⟨g4, f4⟩ ⟨h5, e5⟩ ⟨g5, f5⟩ e6 f6 ol ok (fun hh => List.eq_nil_of_length_eq_zero (by rw [hl]; exact e8 hh)) (fun hh => List.eq_nil_of_length_eq_zero (by rw [hk]; exact f8 hh)) he)
    simpa using hne
set_option maxHeartbeats 8000000 in
set_option maxRecDepth 100000 in
theorem unitsSame_walk (a0 : Int) (b1 : Bool) (a2 : Int) (b3 : Bool) (a4 a5 : Int) (s : Option Addr) (n c : Nat) (l : List Int) (c0 : Int) (d1 : Bool) (c2 : Int) (d3 : Bool) (c4 c5 : Int) (s2 : Option Addr) (m d : Nat) (k : List Int) (w : World) (hp : PowOk w)
    (h0 : (Lit.int .u8 a0).wf = true) (h2 : (Lit.int .u8 a2).wf = true) (h4 : (Lit.int .u8 a4).wf = true) (h5 : (Lit.int .u8 a5).wf = true) (h : Row .u8 w s n c l)
    (g0 : (Lit.int .u8 c0).wf = true) (g2 : (Lit.int .u8 c2).wf = true) (g4 : (Lit.int .u8 c4).wf = true) (g5 : (Lit.int .u8 c5).wf = true) (g : Row .u8 w s2 m d k) :
    Calls Tryd.prog 6 #[.agg #[.int .u8 a0, .bool b1, .int .u8 a2, .bool b3, .int .u8 a4, .int .u8 a5, .slice s n c], .agg #[.int .u8 c0, .bool d1, .int .u8 c2, .bool d3, .int .u8 c4, .int .u8 c5, .slice s2 m d]] w fun e w' => e = .returned (.bool true) ∧ Below w.heap.size w w' := by
  have hle := h.le
  have hcm := h.max
  have gle := g.le
  have gcm := g.max
  unfold maxLen at hcm gcm
  obtain ⟨h00, h01⟩ := wf_u8.1 h0
  obtain ⟨h20, h21⟩ := wf_u8.1 h2
  obtain ⟨h40, h41⟩ := wf_u8.1 h4
  obtain ⟨h50, h51⟩ := wf_u8.1 h5
  obtain ⟨g00, g01⟩ := wf_u8.1 g0
  obtain ⟨g20, g21⟩ := wf_u8.1 g2
  obtain ⟨g40, g41⟩ := wf_u8.1 g4
  obtain ⟨g50, g51⟩ := wf_u8.1 g5
  have hn63 : n ≤ 9223372036854775807 := by omega
  have gn63 : m ≤ 9223372036854775807 := by omega
  obtain ⟨w1, hw1⟩ : ∃ W, W = ((w.alloc (.cells #[.int .u8 a0, .bool b1, .int .u8 a2, .bool b3, .int .u8 a4, .int .u8 a5, .slice s n c] 25)).alloc (.cells #[.int .u8 c0, .bool d1, .int .u8 c2, .bool d3, .int .u8 c4, .int .u8 c5, .slice s2 m d] 25)) := ⟨_, rfl⟩
  have hb01 : Below w.heap.size w w1 := by rw [hw1]; exact ((Below.refl _ _).alloc (Nat.le_refl _) _).alloc (by simp) _
  have oa : Own w1 w.heap.size 25 [.int .u8 a0, .bool b1, .int .u8 a2, .bool b3, .int .u8 a4, .int .u8 a5, .slice s n c] := by rw [hw1]; exact (own_lit w _ _ _ rfl).below (below_alloc _ _) (by simp)
  have oc : Own w1 (w.heap.size + 1) 25 [.int .u8 c0, .bool d1, .int .u8 c2, .bool d3, .int .u8 c4, .int .u8 c5, .slice s2 m d] := by
    rw [hw1]
    have hh := own_lit (w.alloc (.cells #[.int .u8 a0, .bool b1, .int .u8 a2, .bool b3, .int .u8 a4, .int .u8 a5, .slice s n c] 25)) 25 #[.int .u8 c0, .bool d1, .int .u8 c2, .bool d3, .int .u8 c4, .int .u8 c5, .slice s2 m d] _ rfl
    rwa [World.size_alloc] at hh
  have hS : ∀ W, Below w1.heap.size w1 W → Below w1.heap.size w1 W ∧ W.cell? ⟨w.heap.size, 0, none⟩ = some (.int .u8 a0) ∧ W.cell? ⟨w.heap.size, 1, none⟩ = some (.bool b1) ∧ W.cell? ⟨w.heap.size, 2, none⟩ = some (.int .u8 a2) ∧ W.cell? ⟨w.heap.size, 3, none⟩ = some (.bool b3) ∧ W.cell? ⟨w.heap.size, 4, none⟩ = some (.int .u8 a4) ∧ W.cell? ⟨w.heap.size, 5, none⟩ = some (.int .u8 a5) ∧ W.cell? ⟨w.heap.size, 6, none⟩ = some (.slice s n c) ∧ W.cell? ⟨w.heap.size + 1, 0, none⟩ = some (.int .u8 c0) ∧ W.cell? ⟨w.heap.size + 1, 1, none⟩ = some (.bool d1) ∧ W.cell? ⟨w.heap.size + 1, 2, none⟩ = some (.int .u8 c2) ∧ W.cell? ⟨w.heap.size + 1, 3, none⟩ = some (.bool d3) ∧ W.cell? ⟨w.heap.size + 1, 4, none⟩ = some (.int .u8 c4) ∧ W.cell? ⟨w.heap.size + 1, 5, none⟩ = some (.int .u8 c5) ∧ W.cell? ⟨w.heap.size + 1, 6, none⟩ = some (.slice s2 m d) := fun W hW => by
    have q1 := oa.below hW oa.lt
    have q2 := oc.below hW oc.lt
    exact ⟨hW, q1.cell 0 (by simp), q1.cell 1 (by simp), q1.cell 2 (by simp), q1.cell 3 (by simp), q1.cell 4 (by simp), q1.cell 5 (by simp), q1.cell 6 (by simp), q2.cell 0 (by simp), q2.cell 1 (by simp), q2.cell 2 (by simp), q2.cell 3 (by simp), q2.cell 4 (by simp), q2.cell 5 (by simp), q2.cell 6 (by simp)⟩
  have hSn : ∀ W W', Below w1.heap.size w1 W → Below W.heap.size W W' → Below w1.heap.size w1 W' ∧ W'.cell? ⟨w.heap.size, 0, none⟩ = some (.int .u8 a0) ∧ W'.cell? ⟨w.heap.size, 1, none⟩ = some (.bool b1) ∧ W'.cell? ⟨w.heap.size, 2, none⟩ = some (.int .u8 a2) ∧ W'.cell? ⟨w.heap.size, 3, none⟩ = some (.bool b3) ∧ W'.cell? ⟨w.heap.size, 4, none⟩ = some (.int .u8 a4) ∧ W'.cell? ⟨w.heap.size, 5, none⟩ = some (.int .u8 a5) ∧ W'.cell? ⟨w.heap.size, 6, none⟩ = some (.slice s n c) ∧ W'.cell? ⟨w.heap.size + 1, 0, none⟩ = some (.int .u8 c0) ∧ W'.cell? ⟨w.heap.size + 1, 1, none⟩ = some (.bool d1) ∧ W'.cell? ⟨w.heap.size + 1, 2, none⟩ = some (.int .u8 c2) ∧ W'.cell? ⟨w.heap.size + 1, 3, none⟩ = some (.bool d3) ∧ W'.cell? ⟨w.heap.size + 1, 4, none⟩ = some (.int .u8 c4) ∧ W'.cell? ⟨w.heap.size + 1, 5, none⟩ = some (.int .u8 c5) ∧ W'.cell? ⟨w.heap.size + 1, 6, none⟩ = some (.slice s2 m d) := fun W W' x y => hS W' (x.trans (y.mono x.size))
  have hRa : ∀ W, Below w1.heap.size w1 W → Row .u8 W s n c l := fun W hW => h.later (hb01.trans (hW.mono hb01.size))
  have hRc : ∀ W, Below w1.heap.size w1 W → Row .u8 W s2 m d k := fun W hW => g.later (hb01.trans (hW.mono hb01.size))
  have hPw : ∀ W, Below w1.heap.size w1 W → PowOk W := fun W hW => hp.later (hb01.trans (hW.mono hb01.size))
  have hLv : ∀ W, Below w1.heap.size w1 W → Calls Tryd.prog 9 #[] W fun e w' => e = .returned (.bool true) ∧ Below W.heap.size W w' := fun W hW => lives_any W (hPw W hW)
  have HLv := Lib.hid hLv
  have HB01 := Lib.hid hb01
  have HW1 := Lib.hid hw1
  by_cases hbig : 400 < n ∨ 400 < m
  · have hL1 := hLv w1 (Below.refl _ _)
    have HL1 := Lib.hid hL1
    clear h g hp oa oc hS hSn hRa hRc hPw hLv hb01 hw1 hL1
    rcases (by omega : 400 < n ∨ (n ≤ 400 ∧ 400 < m)) with hbig | ⟨hbig, hbig2⟩
    all_goals
      go_enter Tryd.func6, Tryd.ntmps6
      go_wp2_with fail
      rw [← HW1.out]
      refine (HL1.out).mono ?_
      rintro e w2 ⟨rfl, hb⟩
      have BB := Lib.hid (HB01.out.trans (hb.mono HB01.out.size))
      clear hb
      go_wp2
      go_ret
      exact ⟨rfl, BB.out⟩
  · have hbn : n ≤ 400 := by omega
    have hbm : m ≤ 400 := by omega
    clear hbig
    obtain ⟨D, hD⟩ : ∃ D, D = decide (sameU a0 b1 a2 b3 a4 a5 l c0 d1 c2 d3 c4 c5 k) := ⟨_, rfl⟩
    have sAB : ∀ W, Below w1.heap.size w1 W → Calls Tryd.prog 25 #[.agg #[.int .u8 a0, .bool b1, .int .u8 a2, .bool b3, .int .u8 a4, .int .u8 a5, .slice s n c], .agg #[.int .u8 c0, .bool d1, .int .u8 c2, .bool d3, .int .u8 c4, .int .u8 c5, .slice s2 m d]] W fun e w' => e = .returned (.bool D) ∧ Below W.heap.size W w' := fun W hW => by rw [hD]; exact usame_any a0 b1 a2 b3 a4 a5 s n c l c0 d1 c2 d3 c4 c5 s2 m d k W (hRa W hW) (hRc W hW)
    have sAA : ∀ W, Below w1.heap.size w1 W → Calls Tryd.prog 25 #[.agg #[.int .u8 a0, .bool b1, .int .u8 a2, .bool b3, .int .u8 a4, .int .u8 a5, .slice s n c], .agg #[.int .u8 a0, .bool b1, .int .u8 a2, .bool b3, .int .u8 a4, .int .u8 a5, .slice s n c]] W fun e w' => e = .returned (.bool true) ∧ Below W.heap.size W w' := fun W hW => by
      have hu := usame_any a0 b1 a2 b3 a4 a5 s n c l a0 b1 a2 b3 a4 a5 s n c l W (hRa W hW) (hRa W hW)
      have e1 : decide (sameU a0 b1 a2 b3 a4 a5 l a0 b1 a2 b3 a4 a5 l) = true := by
        apply decide_eq_true
        exact ⟨rfl, rfl, rfl, rfl, rfl, rfl, rfl⟩
      rwa [e1] at hu
    have lAB : ∀ W, Below w1.heap.size w1 W → Calls Tryd.prog 22 #[.agg #[.int .u8 a0, .bool b1, .int .u8 a2, .bool b3, .int .u8 a4, .int .u8 a5, .slice s n c], .agg #[.int .u8 c0, .bool d1, .int .u8 c2, .bool d3, .int .u8 c4, .int .u8 c5, .slice s2 m d]] W fun e w' => e = .returned (.bool D) ∧ Below W.heap.size W w' := fun W hW => by rw [hD]; exact lawsame_any a0 b1 a2 b3 a4 a5 s n c l c0 d1 c2 d3 c4 c5 s2 m d k W (hRa W hW) (hRc W hW)
    obtain ⟨E, hE⟩ : ∃ E, chk a0 a2 a4 a5 n = E := ⟨_, rfl⟩
    obtain ⟨G, hG⟩ : ∃ E, chk c0 c2 c4 c5 m = E := ⟨_, rfl⟩
    have kA : ∀ W, Calls Tryd.prog 10 #[.agg #[.int .u8 a0, .bool b1, .int .u8 a2, .bool b3, .int .u8 a4, .int .u8 a5, .slice s n c]] W fun e w' => e = .returned (.int .i64 E) ∧ Below W.heap.size W w' := fun W => by rw [← hE]; exact lawcheck_any a0 b1 a2 b3 a4 a5 s n c W h00 h01 h20 h21 h40 h41 h50 h51 hn63
    have kC : ∀ W, Calls Tryd.prog 10 #[.agg #[.int .u8 c0, .bool d1, .int .u8 c2, .bool d3, .int .u8 c4, .int .u8 c5, .slice s2 m d]] W fun e w' => e = .returned (.int .i64 G) ∧ Below W.heap.size W w' := fun W => by rw [← hG]; exact lawcheck_any c0 d1 c2 d3 c4 c5 s2 m d W g00 g01 g20 g21 g40 g41 g50 g51 gn63
    have hS1 := hS w1 (Below.refl _ _)
    have hSd := hS w1.drew (Below.refl _ _).drew
    have HSn := Lib.hid hSn
    have HsAB := Lib.hid sAB
    have HsAA := Lib.hid sAA
    have HlAB := Lib.hid lAB
    have HD := Lib.hid hD
    by_cases hE0 : E = 0
    · subst hE0
      have HkA := Lib.hid kA
      by_cases hG0 : G = 0
      · subst hG0
        have HkC := Lib.hid kC
        have htt := texts_same a0 b1 a2 b3 a4 a5 n l c0 d1 c2 d3 c4 c5 m k h00 h20 h40 h50 g00 g20 g40 g50 h.len g.len (fun x hx => wf_u8.1 (h.wf x hx)) (fun x hx => wf_u8.1 (g.wf x hx)) hE hG
        rw [← hD] at htt
        obtain ⟨TA, hTA⟩ : ∃ x, x = bs (textL a0 b1 a2 b3 a4 a5 l) := ⟨_, rfl⟩
        obtain ⟨TC, hTC⟩ : ∃ x, x = bs (textL c0 d1 c2 d3 c4 c5 k) := ⟨_, rfl⟩
        rw [← hTA, ← hTC] at htt
        have tA : ∀ W, Below w1.heap.size w1 W → Calls Tryd.prog 13 #[.agg #[.int .u8 a0, .bool b1, .int .u8 a2, .bool b3, .int .u8 a4, .int .u8 a5, .slice s n c]] W fun e w' => e = .returned (.string TA) ∧ Below W.heap.size W w' := fun W hW => by rw [hTA]; exact text_ok a0 b1 a2 b3 a4 a5 s n c l W h00 h20 h40 h50 (hRa W hW) hE (hPw W hW)
        have tC : ∀ W, Below w1.heap.size w1 W → Calls Tryd.prog 13 #[.agg #[.int .u8 c0, .bool d1, .int .u8 c2, .bool d3, .int .u8 c4, .int .u8 c5, .slice s2 m d]] W fun e w' => e = .returned (.string TC) ∧ Below W.heap.size W w' := fun W hW => by rw [hTC]; exact text_ok c0 d1 c2 d3 c4 c5 s2 m d k W g00 g20 g40 g50 (hRc W hW) hG (hPw W hW)
        have HtA := Lib.hid tA
        have HtC := Lib.hid tC
        clear tA tC hTA hTC
        clear h g hp oa oc hS hSn hRa hRc hPw hLv hb01 hw1 sAB sAA lAB kA kC hE hG hD h0 h2 h4 h5 g0 g2 g4 g5
        go_enter Tryd.func6, Tryd.ntmps6
        go_wp2_with fail
        rw [← HW1.out]
        go_region_held3 (fun W => Below w1.heap.size w1 W ∧ W.cell? ⟨w.heap.size, 0, none⟩ = some (.int .u8 a0) ∧ W.cell? ⟨w.heap.size, 1, none⟩ = some (.bool b1) ∧ W.cell? ⟨w.heap.size, 2, none⟩ = some (.int .u8 a2) ∧ W.cell? ⟨w.heap.size, 3, none⟩ = some (.bool b3) ∧ W.cell? ⟨w.heap.size, 4, none⟩ = some (.int .u8 a4) ∧ W.cell? ⟨w.heap.size, 5, none⟩ = some (.int .u8 a5) ∧ W.cell? ⟨w.heap.size, 6, none⟩ = some (.slice s n c) ∧ W.cell? ⟨w.heap.size + 1, 0, none⟩ = some (.int .u8 c0) ∧ W.cell? ⟨w.heap.size + 1, 1, none⟩ = some (.bool d1) ∧ W.cell? ⟨w.heap.size + 1, 2, none⟩ = some (.int .u8 c2) ∧ W.cell? ⟨w.heap.size + 1, 3, none⟩ = some (.bool d3) ∧ W.cell? ⟨w.heap.size + 1, 4, none⟩ = some (.int .u8 c4) ∧ W.cell? ⟨w.heap.size + 1, 5, none⟩ = some (.int .u8 c5) ∧ W.cell? ⟨w.heap.size + 1, 6, none⟩ = some (.slice s2 m d)) (first | assumption | go_keep)
          (first
            | (go_at_call 25; ((with_reducible refine (HsAB.out _ (And.left (by assumption))).mono ?_); rintro e v1 ⟨rfl, hb1⟩; have hT1 := HSn.out _ _ (And.left (by assumption)) hb1; clear hb1))
            | (go_at_call 25; ((with_reducible refine (HsAA.out _ (And.left (by assumption))).mono ?_); rintro e v2 ⟨rfl, hb2⟩; have hT2 := HSn.out _ _ (And.left (by assumption)) hb2; clear hb2))
            | (go_at_call 22; ((with_reducible refine (HlAB.out _ (And.left (by assumption))).mono ?_); rintro e v3 ⟨rfl, hb3⟩; have hT3 := HSn.out _ _ (And.left (by assumption)) hb3; clear hb3))
            | fail)
        all_goals
          go_wp2_with fail
          go_region_held3 (fun W => Below w1.heap.size w1 W ∧ W.cell? ⟨w.heap.size, 0, none⟩ = some (.int .u8 a0) ∧ W.cell? ⟨w.heap.size, 1, none⟩ = some (.bool b1) ∧ W.cell? ⟨w.heap.size, 2, none⟩ = some (.int .u8 a2) ∧ W.cell? ⟨w.heap.size, 3, none⟩ = some (.bool b3) ∧ W.cell? ⟨w.heap.size, 4, none⟩ = some (.int .u8 a4) ∧ W.cell? ⟨w.heap.size, 5, none⟩ = some (.int .u8 a5) ∧ W.cell? ⟨w.heap.size, 6, none⟩ = some (.slice s n c) ∧ W.cell? ⟨w.heap.size + 1, 0, none⟩ = some (.int .u8 c0) ∧ W.cell? ⟨w.heap.size + 1, 1, none⟩ = some (.bool d1) ∧ W.cell? ⟨w.heap.size + 1, 2, none⟩ = some (.int .u8 c2) ∧ W.cell? ⟨w.heap.size + 1, 3, none⟩ = some (.bool d3) ∧ W.cell? ⟨w.heap.size + 1, 4, none⟩ = some (.int .u8 c4) ∧ W.cell? ⟨w.heap.size + 1, 5, none⟩ = some (.int .u8 c5) ∧ W.cell? ⟨w.heap.size + 1, 6, none⟩ = some (.slice s2 m d)) (first | assumption | (have hq := HSn.out _ _ (And.left (by assumption)) (Below.refl _ _).drew; exact hq) | go_keep)
            (first
              | (go_at_call 10; ((with_reducible refine (HkA.out _).mono ?_); rintro e v4 ⟨rfl, hb4⟩; have hT4 := HSn.out _ _ (And.left (by assumption)) hb4; clear hb4))
              | (go_at_call 10; ((with_reducible refine (HkC.out _).mono ?_); rintro e v5 ⟨rfl, hb5⟩; have hT5 := HSn.out _ _ (And.left (by assumption)) hb5; clear hb5))
              | (go_at_call 13; ((with_reducible refine (HtA.out _ (And.left (by assumption))).mono ?_); rintro e v6 ⟨rfl, hb6⟩; have hT6 := HSn.out _ _ (And.left (by assumption)) hb6; clear hb6))
              | (go_at_call 13; ((with_reducible refine (HtC.out _ (And.left (by assumption))).mono ?_); rintro e v7 ⟨rfl, hb7⟩; have hT7 := HSn.out _ _ (And.left (by assumption)) hb7; clear hb7))
              | (go_at_call 22; ((with_reducible refine (HlAB.out _ (And.left (by assumption))).mono ?_); rintro e v8 ⟨rfl, hb8⟩; have hT8 := HSn.out _ _ (And.left (by assumption)) hb8; clear hb8))
              | (go_at_call 9; ((with_reducible refine (HLv.out _ (And.left (by assumption))).mono ?_); rintro e v9 ⟨rfl, hb9⟩; have hT9 := HSn.out _ _ (And.left (by assumption)) hb9; clear hb9))
              | fail)
          all_goals
            go_wp2
            go_ret
            exact ⟨rfl, HB01.out.trans (Below.mono (And.left (by assumption)) HB01.out.size)⟩
      · have tG : (G != 0) = true := by simpa using hG0
        have HkC := Lib.hid kC
        clear h g hp oa oc hS hSn hRa hRc hPw hLv hb01 hw1 sAB sAA lAB kA kC hE hG hD h0 h2 h4 h5 g0 g2 g4 g5 hG0
        go_enter Tryd.func6, Tryd.ntmps6
        go_wp2_with fail
        rw [← HW1.out]
        go_region_held3 (fun W => Below w1.heap.size w1 W ∧ W.cell? ⟨w.heap.size, 0, none⟩ = some (.int .u8 a0) ∧ W.cell? ⟨w.heap.size, 1, none⟩ = some (.bool b1) ∧ W.cell? ⟨w.heap.size, 2, none⟩ = some (.int .u8 a2) ∧ W.cell? ⟨w.heap.size, 3, none⟩ = some (.bool b3) ∧ W.cell? ⟨w.heap.size, 4, none⟩ = some (.int .u8 a4) ∧ W.cell? ⟨w.heap.size, 5, none⟩ = some (.int .u8 a5) ∧ W.cell? ⟨w.heap.size, 6, none⟩ = some (.slice s n c) ∧ W.cell? ⟨w.heap.size + 1, 0, none⟩ = some (.int .u8 c0) ∧ W.cell? ⟨w.heap.size + 1, 1, none⟩ = some (.bool d1) ∧ W.cell? ⟨w.heap.size + 1, 2, none⟩ = some (.int .u8 c2) ∧ W.cell? ⟨w.heap.size + 1, 3, none⟩ = some (.bool d3) ∧ W.cell? ⟨w.heap.size + 1, 4, none⟩ = some (.int .u8 c4) ∧ W.cell? ⟨w.heap.size + 1, 5, none⟩ = some (.int .u8 c5) ∧ W.cell? ⟨w.heap.size + 1, 6, none⟩ = some (.slice s2 m d)) (first | assumption | go_keep)
          (first
            | (go_at_call 25; ((with_reducible refine (HsAB.out _ (And.left (by assumption))).mono ?_); rintro e v10 ⟨rfl, hb10⟩; have hT10 := HSn.out _ _ (And.left (by assumption)) hb10; clear hb10))
            | (go_at_call 25; ((with_reducible refine (HsAA.out _ (And.left (by assumption))).mono ?_); rintro e v11 ⟨rfl, hb11⟩; have hT11 := HSn.out _ _ (And.left (by assumption)) hb11; clear hb11))
            | (go_at_call 22; ((with_reducible refine (HlAB.out _ (And.left (by assumption))).mono ?_); rintro e v12 ⟨rfl, hb12⟩; have hT12 := HSn.out _ _ (And.left (by assumption)) hb12; clear hb12))
            | fail)
        all_goals
          go_wp2_with fail
          refine wp_region_held_drew (S := fun W => Below w1.heap.size w1 W ∧ W.cell? ⟨w.heap.size, 0, none⟩ = some (.int .u8 a0) ∧ W.cell? ⟨w.heap.size, 1, none⟩ = some (.bool b1) ∧ W.cell? ⟨w.heap.size, 2, none⟩ = some (.int .u8 a2) ∧ W.cell? ⟨w.heap.size, 3, none⟩ = some (.bool b3) ∧ W.cell? ⟨w.heap.size, 4, none⟩ = some (.int .u8 a4) ∧ W.cell? ⟨w.heap.size, 5, none⟩ = some (.int .u8 a5) ∧ W.cell? ⟨w.heap.size, 6, none⟩ = some (.slice s n c) ∧ W.cell? ⟨w.heap.size + 1, 0, none⟩ = some (.int .u8 c0) ∧ W.cell? ⟨w.heap.size + 1, 1, none⟩ = some (.bool d1) ∧ W.cell? ⟨w.heap.size + 1, 2, none⟩ = some (.int .u8 c2) ∧ W.cell? ⟨w.heap.size + 1, 3, none⟩ = some (.bool d3) ∧ W.cell? ⟨w.heap.size + 1, 4, none⟩ = some (.int .u8 c4) ∧ W.cell? ⟨w.heap.size + 1, 5, none⟩ = some (.int .u8 c5) ∧ W.cell? ⟨w.heap.size + 1, 6, none⟩ = some (.slice s2 m d)) (by kernel_rfl) ?_ (fun hHeld => ?_)
          · try dsimp only
            have hq := HSn.out _ _ (And.left (by assumption)) (Below.refl _ _).drew
            exact hq
          refine wpAnyH_take (i := 0) (v := ?_) rfl (by kernel_rfl) (by kernel_rfl) (by kernel_rfl) (fun _ _ _ h => h) (Or.inl ⟨by kernel_rfl, ?_⟩) (by assumption) ?_
          rotate_left
          · intro W hSw
            (try dsimp only at hSw)
            go_simp
            all_goals with_reducible rfl
          try simp only [Act.put, List.getElem_toArray, List.getElem_cons_succ, List.getElem_cons_zero, List.setIfInBounds_toArray, List.set_cons_zero, List.set_cons_succ]
          refine wpAnyH_ready (rs := [1]) (by kernel_rfl) (by simp) ?_
          refine AllReadyH.cons (o := _) rfl (fun K hK => ?_) AllReadyH.nil
          go_simp
          refine (HkA.out _).mono ?_
          rintro e v13 ⟨rfl, hb13⟩
          have hT13 := HSn.out _ _ (And.left (by assumption)) hb13
          clear hb13
          go_wp2_with fail
          refine hK.out _ _ ?_ (fun hHeld => ?_)
          · assumption
          clear hK K
          try simp only [Act.put, List.getElem_toArray, List.getElem_cons_succ, List.getElem_cons_zero, List.setIfInBounds_toArray, List.set_cons_zero, List.set_cons_succ]
          refine wpAnyH_take (i := 2) (v := ?_) rfl (by kernel_rfl) (by kernel_rfl) (by kernel_rfl) (fun _ _ _ h => h) (Or.inl ⟨by kernel_rfl, ?_⟩) (by assumption) ?_
          rotate_left
          · intro W hSw
            (try dsimp only at hSw)
            go_simp
            all_goals with_reducible rfl
          try simp only [Act.put, List.getElem_toArray, List.getElem_cons_succ, List.getElem_cons_zero, List.setIfInBounds_toArray, List.set_cons_zero, List.set_cons_succ]
          refine wpAnyH_take (i := 3) (v := ?_) rfl (by kernel_rfl) (by kernel_rfl) (by kernel_rfl) (fun _ _ _ h => h) (Or.inl ⟨by kernel_rfl, ?_⟩) (by assumption) ?_
          rotate_left
          · intro W hSw
            (try dsimp only at hSw)
            go_simp
            all_goals with_reducible rfl
          try simp only [Act.put, List.getElem_toArray, List.getElem_cons_succ, List.getElem_cons_zero, List.setIfInBounds_toArray, List.set_cons_zero, List.set_cons_succ]
          refine wpAnyH_take (i := 4) (v := ?_) rfl (by kernel_rfl) (by kernel_rfl) (by kernel_rfl) (fun _ _ _ h => h) (Or.inl ⟨by kernel_rfl, ?_⟩) (by assumption) ?_
          rotate_left
          · intro W hSw
            (try dsimp only at hSw)
            go_simp
            all_goals with_reducible rfl
          try simp only [Act.put, List.getElem_toArray, List.getElem_cons_succ, List.getElem_cons_zero, List.setIfInBounds_toArray, List.set_cons_zero, List.set_cons_succ]
          refine wpAnyH_ready (rs := [5]) (by kernel_rfl) (by simp) ?_
          refine AllReadyH.cons (o := _) rfl (fun K hK => ?_) AllReadyH.nil
          go_simp
          refine (HkC.out _).mono ?_
          rintro e v14 ⟨rfl, hb14⟩
          have hT14 := HSn.out _ _ (And.left (by assumption)) hb14
          clear hb14
          go_wp2_with fail
          refine hK.out _ _ ?_ (fun hHeld => ?_)
          · assumption
          clear hK K
          try simp only [Act.put, List.getElem_toArray, List.getElem_cons_succ, List.getElem_cons_zero, List.setIfInBounds_toArray, List.set_cons_zero, List.set_cons_succ]
          refine wpAnyH_take (i := 6) (v := ?_) rfl (by kernel_rfl) (by kernel_rfl) (by kernel_rfl) (fun _ _ _ h => h) (Or.inl ⟨by kernel_rfl, ?_⟩) (by assumption) ?_
          rotate_left
          · intro W hSw
            (try dsimp only at hSw)
            go_simp
            all_goals with_reducible rfl
          try simp only [Act.put, List.getElem_toArray, List.getElem_cons_succ, List.getElem_cons_zero, List.setIfInBounds_toArray, List.set_cons_zero, List.set_cons_succ]
          refine wpAnyH_take (i := 7) (v := ?_) rfl (by kernel_rfl) (by kernel_rfl) (by kernel_rfl) (fun _ _ _ h => h) (Or.inl ⟨by kernel_rfl, ?_⟩) (by assumption) ?_
          rotate_left
          · intro W hSw
            (try dsimp only at hSw)
            go_simp
            all_goals with_reducible rfl
          try simp only [Act.put, List.getElem_toArray, List.getElem_cons_succ, List.getElem_cons_zero, List.setIfInBounds_toArray, List.set_cons_zero, List.set_cons_succ]
          refine wpAnyH_take (i := 8) (v := ?_) rfl (by kernel_rfl) (by kernel_rfl) (by kernel_rfl) (fun _ _ _ h => h) (Or.inl ⟨by kernel_rfl, ?_⟩) (by assumption) ?_
          rotate_left
          · intro W hSw
            (try dsimp only at hSw)
            go_simp
            all_goals with_reducible rfl
          try simp only [Act.put, List.getElem_toArray, List.getElem_cons_succ, List.getElem_cons_zero, List.setIfInBounds_toArray, List.set_cons_zero, List.set_cons_succ]
          refine wpAnyH_take (i := 9) (v := undef) rfl (by kernel_rfl) (by kernel_rfl) (by kernel_rfl) (fun _ _ _ h => h) (Or.inr ⟨by kernel_rfl, rfl⟩) (by assumption) ?_
          try simp only [Act.put, List.getElem_toArray, List.getElem_cons_succ, List.getElem_cons_zero, List.setIfInBounds_toArray, List.set_cons_zero, List.set_cons_succ]
          refine wpAnyH_take (i := 10) (v := undef) rfl (by kernel_rfl) (by kernel_rfl) (by kernel_rfl) (fun _ _ _ h => h) (Or.inr ⟨by kernel_rfl, rfl⟩) (by assumption) ?_
          try simp only [Act.put, List.getElem_toArray, List.getElem_cons_succ, List.getElem_cons_zero, List.setIfInBounds_toArray, List.set_cons_zero, List.set_cons_succ]
          refine wpAnyH_take (i := 11) (v := undef) rfl (by kernel_rfl) (by kernel_rfl) (by kernel_rfl) (fun _ _ _ h => h) (Or.inr ⟨by kernel_rfl, rfl⟩) (by assumption) ?_
          try simp only [Act.put, List.getElem_toArray, List.getElem_cons_succ, List.getElem_cons_zero, List.setIfInBounds_toArray, List.set_cons_zero, List.set_cons_succ]
          refine wpAnyH_take (i := 12) (v := undef) rfl (by kernel_rfl) (by kernel_rfl) (by kernel_rfl) (fun _ _ _ h => h) (Or.inr ⟨by kernel_rfl, rfl⟩) (by assumption) ?_
          try simp only [Act.put, List.getElem_toArray, List.getElem_cons_succ, List.getElem_cons_zero, List.setIfInBounds_toArray, List.set_cons_zero, List.set_cons_succ]
          refine wpAnyH_take (i := 13) (v := undef) rfl (by kernel_rfl) (by kernel_rfl) (by kernel_rfl) (fun _ _ _ h => h) (Or.inr ⟨by kernel_rfl, rfl⟩) (by assumption) ?_
          try simp only [Act.put, List.getElem_toArray, List.getElem_cons_succ, List.getElem_cons_zero, List.setIfInBounds_toArray, List.set_cons_zero, List.set_cons_succ]
          refine wpAnyH_take (i := 14) (v := undef) rfl (by kernel_rfl) (by kernel_rfl) (by kernel_rfl) (fun _ _ _ h => h) (Or.inr ⟨by kernel_rfl, rfl⟩) (by assumption) ?_
          try simp only [Act.put, List.getElem_toArray, List.getElem_cons_succ, List.getElem_cons_zero, List.setIfInBounds_toArray, List.set_cons_zero, List.set_cons_succ]
          refine wpAnyH_take (i := 15) (v := undef) rfl (by kernel_rfl) (by kernel_rfl) (by kernel_rfl) (fun _ _ _ h => h) (Or.inr ⟨by kernel_rfl, rfl⟩) (by assumption) ?_
          try simp only [Act.put, List.getElem_toArray, List.getElem_cons_succ, List.getElem_cons_zero, List.setIfInBounds_toArray, List.set_cons_zero, List.set_cons_succ]
          refine wpAnyH_take (i := 16) (v := undef) rfl (by kernel_rfl) (by kernel_rfl) (by kernel_rfl) (fun _ _ _ h => h) (Or.inr ⟨by kernel_rfl, rfl⟩) (by assumption) ?_
          try simp only [Act.put, List.getElem_toArray, List.getElem_cons_succ, List.getElem_cons_zero, List.setIfInBounds_toArray, List.set_cons_zero, List.set_cons_succ]
          refine wpAnyH_take (i := 17) (v := undef) rfl (by kernel_rfl) (by kernel_rfl) (by kernel_rfl) (fun _ _ _ h => h) (Or.inr ⟨by kernel_rfl, rfl⟩) (by assumption) ?_
          try simp only [Act.put, List.getElem_toArray, List.getElem_cons_succ, List.getElem_cons_zero, List.setIfInBounds_toArray, List.set_cons_zero, List.set_cons_succ]
          refine wpAnyH_take (i := 18) (v := ?_) rfl (by kernel_rfl) (by kernel_rfl) (by kernel_rfl) (fun _ _ _ h => h) (Or.inl ⟨by kernel_rfl, ?_⟩) (by assumption) ?_
          rotate_left
          · intro W hSw
            (try dsimp only at hSw)
            go_simp
            all_goals with_reducible rfl
          try simp only [Act.put, List.getElem_toArray, List.getElem_cons_succ, List.getElem_cons_zero, List.setIfInBounds_toArray, List.set_cons_zero, List.set_cons_succ]
          refine wpAnyH_take (i := 19) (v := ?_) rfl (by kernel_rfl) (by kernel_rfl) (by kernel_rfl) (fun _ _ _ h => h) (Or.inl ⟨by kernel_rfl, ?_⟩) (by assumption) ?_
          rotate_left
          · intro W hSw
            (try dsimp only at hSw)
            go_simp
            all_goals with_reducible rfl
          try simp only [Act.put, List.getElem_toArray, List.getElem_cons_succ, List.getElem_cons_zero, List.setIfInBounds_toArray, List.set_cons_zero, List.set_cons_succ]
          refine wpAnyH_ready (rs := [20]) (by kernel_rfl) (by simp) ?_
          refine AllReadyH.cons (o := _) rfl (fun K hK => ?_) AllReadyH.nil
          go_simp
          refine (HLv.out _ (And.left (by assumption))).mono ?_
          rintro e v15 ⟨rfl, hb15⟩
          have hT15 := HSn.out _ _ (And.left (by assumption)) hb15
          clear hb15
          go_wp2_with fail
          refine hK.out _ _ ?_ (fun hHeld => ?_)
          · assumption
          clear hK K
          try simp only [Act.put, List.getElem_toArray, List.getElem_cons_succ, List.getElem_cons_zero, List.setIfInBounds_toArray, List.set_cons_zero, List.set_cons_succ]
          refine wpAnyH_take (i := 21) (v := ?_) rfl (by kernel_rfl) (by kernel_rfl) (by kernel_rfl) (fun _ _ _ h => h) (Or.inl ⟨by kernel_rfl, ?_⟩) (by assumption) ?_
          rotate_left
          · intro W hSw
            (try dsimp only at hSw)
            go_simp
            all_goals with_reducible rfl
          try simp only [Act.put, List.getElem_toArray, List.getElem_cons_succ, List.getElem_cons_zero, List.setIfInBounds_toArray, List.set_cons_zero, List.set_cons_succ]
          refine wpAnyH_take (i := 22) (v := ?_) rfl (by kernel_rfl) (by kernel_rfl) (by kernel_rfl) (fun _ _ _ h => h) (Or.inl ⟨by kernel_rfl, ?_⟩) (by assumption) ?_
          rotate_left
          · intro W hSw
            (try dsimp only at hSw)
            go_simp
            all_goals with_reducible rfl
          try simp only [Act.put, List.getElem_toArray, List.getElem_cons_succ, List.getElem_cons_zero, List.setIfInBounds_toArray, List.set_cons_zero, List.set_cons_succ]
          refine wpAnyH_done (by kernel_rfl) ?_ _
          go_wp2
          go_ret
          exact ⟨rfl, HB01.out.trans (Below.mono (And.left (by assumption)) HB01.out.size)⟩
    · have tE : (E != 0) = true := by simpa using hE0
      have HkA := Lib.hid kA
      clear h g hp oa oc hS hSn hRa hRc hPw hLv hb01 hw1 sAB sAA lAB kA kC hE hG hD h0 h2 h4 h5 g0 g2 g4 g5 hE0
      go_enter Tryd.func6, Tryd.ntmps6
      go_wp2_with fail
      rw [← HW1.out]
      go_region_held3 (fun W => Below w1.heap.size w1 W ∧ W.cell? ⟨w.heap.size, 0, none⟩ = some (.int .u8 a0) ∧ W.cell? ⟨w.heap.size, 1, none⟩ = some (.bool b1) ∧ W.cell? ⟨w.heap.size, 2, none⟩ = some (.int .u8 a2) ∧ W.cell? ⟨w.heap.size, 3, none⟩ = some (.bool b3) ∧ W.cell? ⟨w.heap.size, 4, none⟩ = some (.int .u8 a4) ∧ W.cell? ⟨w.heap.size, 5, none⟩ = some (.int .u8 a5) ∧ W.cell? ⟨w.heap.size, 6, none⟩ = some (.slice s n c) ∧ W.cell? ⟨w.heap.size + 1, 0, none⟩ = some (.int .u8 c0) ∧ W.cell? ⟨w.heap.size + 1, 1, none⟩ = some (.bool d1) ∧ W.cell? ⟨w.heap.size + 1, 2, none⟩ = some (.int .u8 c2) ∧ W.cell? ⟨w.heap.size + 1, 3, none⟩ = some (.bool d3) ∧ W.cell? ⟨w.heap.size + 1, 4, none⟩ = some (.int .u8 c4) ∧ W.cell? ⟨w.heap.size + 1, 5, none⟩ = some (.int .u8 c5) ∧ W.cell? ⟨w.heap.size + 1, 6, none⟩ = some (.slice s2 m d)) (first | assumption | go_keep)
        (first
          | (go_at_call 25; ((with_reducible refine (HsAB.out _ (And.left (by assumption))).mono ?_); rintro e v16 ⟨rfl, hb16⟩; have hT16 := HSn.out _ _ (And.left (by assumption)) hb16; clear hb16))
          | (go_at_call 25; ((with_reducible refine (HsAA.out _ (And.left (by assumption))).mono ?_); rintro e v17 ⟨rfl, hb17⟩; have hT17 := HSn.out _ _ (And.left (by assumption)) hb17; clear hb17))
          | (go_at_call 22; ((with_reducible refine (HlAB.out _ (And.left (by assumption))).mono ?_); rintro e v18 ⟨rfl, hb18⟩; have hT18 := HSn.out _ _ (And.left (by assumption)) hb18; clear hb18))
          | fail)
      all_goals
        go_wp2_with fail
        refine wp_region_held_drew (S := fun W => Below w1.heap.size w1 W ∧ W.cell? ⟨w.heap.size, 0, none⟩ = some (.int .u8 a0) ∧ W.cell? ⟨w.heap.size, 1, none⟩ = some (.bool b1) ∧ W.cell? ⟨w.heap.size, 2, none⟩ = some (.int .u8 a2) ∧ W.cell? ⟨w.heap.size, 3, none⟩ = some (.bool b3) ∧ W.cell? ⟨w.heap.size, 4, none⟩ = some (.int .u8 a4) ∧ W.cell? ⟨w.heap.size, 5, none⟩ = some (.int .u8 a5) ∧ W.cell? ⟨w.heap.size, 6, none⟩ = some (.slice s n c) ∧ W.cell? ⟨w.heap.size + 1, 0, none⟩ = some (.int .u8 c0) ∧ W.cell? ⟨w.heap.size + 1, 1, none⟩ = some (.bool d1) ∧ W.cell? ⟨w.heap.size + 1, 2, none⟩ = some (.int .u8 c2) ∧ W.cell? ⟨w.heap.size + 1, 3, none⟩ = some (.bool d3) ∧ W.cell? ⟨w.heap.size + 1, 4, none⟩ = some (.int .u8 c4) ∧ W.cell? ⟨w.heap.size + 1, 5, none⟩ = some (.int .u8 c5) ∧ W.cell? ⟨w.heap.size + 1, 6, none⟩ = some (.slice s2 m d)) (by kernel_rfl) ?_ (fun hHeld => ?_)
        · try dsimp only
          have hq := HSn.out _ _ (And.left (by assumption)) (Below.refl _ _).drew
          exact hq
        refine wpAnyH_take (i := 0) (v := ?_) rfl (by kernel_rfl) (by kernel_rfl) (by kernel_rfl) (fun _ _ _ h => h) (Or.inl ⟨by kernel_rfl, ?_⟩) (by assumption) ?_
        rotate_left
        · intro W hSw
          (try dsimp only at hSw)
          go_simp
          all_goals with_reducible rfl
        try simp only [Act.put, List.getElem_toArray, List.getElem_cons_succ, List.getElem_cons_zero, List.setIfInBounds_toArray, List.set_cons_zero, List.set_cons_succ]
        refine wpAnyH_ready (rs := [1]) (by kernel_rfl) (by simp) ?_
        refine AllReadyH.cons (o := _) rfl (fun K hK => ?_) AllReadyH.nil
        go_simp
        refine (HkA.out _).mono ?_
        rintro e v19 ⟨rfl, hb19⟩
        have hT19 := HSn.out _ _ (And.left (by assumption)) hb19
        clear hb19
        go_wp2_with fail
        refine hK.out _ _ ?_ (fun hHeld => ?_)
        · assumption
        clear hK K
        try simp only [Act.put, List.getElem_toArray, List.getElem_cons_succ, List.getElem_cons_zero, List.setIfInBounds_toArray, List.set_cons_zero, List.set_cons_succ]
        refine wpAnyH_take (i := 2) (v := ?_) rfl (by kernel_rfl) (by kernel_rfl) (by kernel_rfl) (fun _ _ _ h => h) (Or.inl ⟨by kernel_rfl, ?_⟩) (by assumption) ?_
        rotate_left
        · intro W hSw
          (try dsimp only at hSw)
          go_simp
          all_goals with_reducible rfl
        try simp only [Act.put, List.getElem_toArray, List.getElem_cons_succ, List.getElem_cons_zero, List.setIfInBounds_toArray, List.set_cons_zero, List.set_cons_succ]
        refine wpAnyH_take (i := 3) (v := ?_) rfl (by kernel_rfl) (by kernel_rfl) (by kernel_rfl) (fun _ _ _ h => h) (Or.inl ⟨by kernel_rfl, ?_⟩) (by assumption) ?_
        rotate_left
        · intro W hSw
          (try dsimp only at hSw)
          go_simp
          all_goals with_reducible rfl
        try simp only [Act.put, List.getElem_toArray, List.getElem_cons_succ, List.getElem_cons_zero, List.setIfInBounds_toArray, List.set_cons_zero, List.set_cons_succ]
        refine wpAnyH_take (i := 4) (v := undef) rfl (by kernel_rfl) (by kernel_rfl) (by kernel_rfl) (fun _ _ _ h => h) (Or.inr ⟨by kernel_rfl, rfl⟩) (by assumption) ?_
        try simp only [Act.put, List.getElem_toArray, List.getElem_cons_succ, List.getElem_cons_zero, List.setIfInBounds_toArray, List.set_cons_zero, List.set_cons_succ]
        refine wpAnyH_take (i := 5) (v := undef) rfl (by kernel_rfl) (by kernel_rfl) (by kernel_rfl) (fun _ _ _ h => h) (Or.inr ⟨by kernel_rfl, rfl⟩) (by assumption) ?_
        try simp only [Act.put, List.getElem_toArray, List.getElem_cons_succ, List.getElem_cons_zero, List.setIfInBounds_toArray, List.set_cons_zero, List.set_cons_succ]
        refine wpAnyH_take (i := 6) (v := undef) rfl (by kernel_rfl) (by kernel_rfl) (by kernel_rfl) (fun _ _ _ h => h) (Or.inr ⟨by kernel_rfl, rfl⟩) (by assumption) ?_
        try simp only [Act.put, List.getElem_toArray, List.getElem_cons_succ, List.getElem_cons_zero, List.setIfInBounds_toArray, List.set_cons_zero, List.set_cons_succ]
        refine wpAnyH_take (i := 7) (v := ?_) rfl (by kernel_rfl) (by kernel_rfl) (by kernel_rfl) (fun _ _ _ h => h) (Or.inl ⟨by kernel_rfl, ?_⟩) (by assumption) ?_
        rotate_left
        · intro W hSw
          (try dsimp only at hSw)
          go_simp
          all_goals with_reducible rfl
        try simp only [Act.put, List.getElem_toArray, List.getElem_cons_succ, List.getElem_cons_zero, List.setIfInBounds_toArray, List.set_cons_zero, List.set_cons_succ]
        refine wpAnyH_take (i := 8) (v := ?_) rfl (by kernel_rfl) (by kernel_rfl) (by kernel_rfl) (fun _ _ _ h => h) (Or.inl ⟨by kernel_rfl, ?_⟩) (by assumption) ?_
        rotate_left
        · intro W hSw
          (try dsimp only at hSw)
          go_simp
          all_goals with_reducible rfl
        try simp only [Act.put, List.getElem_toArray, List.getElem_cons_succ, List.getElem_cons_zero, List.setIfInBounds_toArray, List.set_cons_zero, List.set_cons_succ]
        refine wpAnyH_take (i := 9) (v := undef) rfl (by kernel_rfl) (by kernel_rfl) (by kernel_rfl) (fun _ _ _ h => h) (Or.inr ⟨by kernel_rfl, rfl⟩) (by assumption) ?_
        try simp only [Act.put, List.getElem_toArray, List.getElem_cons_succ, List.getElem_cons_zero, List.setIfInBounds_toArray, List.set_cons_zero, List.set_cons_succ]
        refine wpAnyH_take (i := 10) (v := undef) rfl (by kernel_rfl) (by kernel_rfl) (by kernel_rfl) (fun _ _ _ h => h) (Or.inr ⟨by kernel_rfl, rfl⟩) (by assumption) ?_
        try simp only [Act.put, List.getElem_toArray, List.getElem_cons_succ, List.getElem_cons_zero, List.setIfInBounds_toArray, List.set_cons_zero, List.set_cons_succ]
        refine wpAnyH_take (i := 11) (v := undef) rfl (by kernel_rfl) (by kernel_rfl) (by kernel_rfl) (fun _ _ _ h => h) (Or.inr ⟨by kernel_rfl, rfl⟩) (by assumption) ?_
        try simp only [Act.put, List.getElem_toArray, List.getElem_cons_succ, List.getElem_cons_zero, List.setIfInBounds_toArray, List.set_cons_zero, List.set_cons_succ]
        refine wpAnyH_take (i := 12) (v := undef) rfl (by kernel_rfl) (by kernel_rfl) (by kernel_rfl) (fun _ _ _ h => h) (Or.inr ⟨by kernel_rfl, rfl⟩) (by assumption) ?_
        try simp only [Act.put, List.getElem_toArray, List.getElem_cons_succ, List.getElem_cons_zero, List.setIfInBounds_toArray, List.set_cons_zero, List.set_cons_succ]
        refine wpAnyH_take (i := 13) (v := undef) rfl (by kernel_rfl) (by kernel_rfl) (by kernel_rfl) (fun _ _ _ h => h) (Or.inr ⟨by kernel_rfl, rfl⟩) (by assumption) ?_
        try simp only [Act.put, List.getElem_toArray, List.getElem_cons_succ, List.getElem_cons_zero, List.setIfInBounds_toArray, List.set_cons_zero, List.set_cons_succ]
        refine wpAnyH_take (i := 14) (v := undef) rfl (by kernel_rfl) (by kernel_rfl) (by kernel_rfl) (fun _ _ _ h => h) (Or.inr ⟨by kernel_rfl, rfl⟩) (by assumption) ?_
        try simp only [Act.put, List.getElem_toArray, List.getElem_cons_succ, List.getElem_cons_zero, List.setIfInBounds_toArray, List.set_cons_zero, List.set_cons_succ]
        refine wpAnyH_take (i := 15) (v := undef) rfl (by kernel_rfl) (by kernel_rfl) (by kernel_rfl) (fun _ _ _ h => h) (Or.inr ⟨by kernel_rfl, rfl⟩) (by assumption) ?_
        try simp only [Act.put, List.getElem_toArray, List.getElem_cons_succ, List.getElem_cons_zero, List.setIfInBounds_toArray, List.set_cons_zero, List.set_cons_succ]
        refine wpAnyH_take (i := 16) (v := undef) rfl (by kernel_rfl) (by kernel_rfl) (by kernel_rfl) (fun _ _ _ h => h) (Or.inr ⟨by kernel_rfl, rfl⟩) (by assumption) ?_
        try simp only [Act.put, List.getElem_toArray, List.getElem_cons_succ, List.getElem_cons_zero, List.setIfInBounds_toArray, List.set_cons_zero, List.set_cons_succ]
        refine wpAnyH_take (i := 17) (v := undef) rfl (by kernel_rfl) (by kernel_rfl) (by kernel_rfl) (fun _ _ _ h => h) (Or.inr ⟨by kernel_rfl, rfl⟩) (by assumption) ?_
        try simp only [Act.put, List.getElem_toArray, List.getElem_cons_succ, List.getElem_cons_zero, List.setIfInBounds_toArray, List.set_cons_zero, List.set_cons_succ]
        refine wpAnyH_take (i := 18) (v := ?_) rfl (by kernel_rfl) (by kernel_rfl) (by kernel_rfl) (fun _ _ _ h => h) (Or.inl ⟨by kernel_rfl, ?_⟩) (by assumption) ?_
        rotate_left
        · intro W hSw
          (try dsimp only at hSw)
          go_simp
          all_goals with_reducible rfl
        try simp only [Act.put, List.getElem_toArray, List.getElem_cons_succ, List.getElem_cons_zero, List.setIfInBounds_toArray, List.set_cons_zero, List.set_cons_succ]
        refine wpAnyH_take (i := 19) (v := ?_) rfl (by kernel_rfl) (by kernel_rfl) (by kernel_rfl) (fun _ _ _ h => h) (Or.inl ⟨by kernel_rfl, ?_⟩) (by assumption) ?_
        rotate_left
        · intro W hSw
          (try dsimp only at hSw)
          go_simp
          all_goals with_reducible rfl
        try simp only [Act.put, List.getElem_toArray, List.getElem_cons_succ, List.getElem_cons_zero, List.setIfInBounds_toArray, List.set_cons_zero, List.set_cons_succ]
        refine wpAnyH_ready (rs := [20]) (by kernel_rfl) (by simp) ?_
        refine AllReadyH.cons (o := _) rfl (fun K hK => ?_) AllReadyH.nil
        go_simp
        refine (HLv.out _ (And.left (by assumption))).mono ?_
        rintro e v20 ⟨rfl, hb20⟩
        have hT20 := HSn.out _ _ (And.left (by assumption)) hb20
        clear hb20
        go_wp2_with fail
        refine hK.out _ _ ?_ (fun hHeld => ?_)
        · assumption
        clear hK K
        try simp only [Act.put, List.getElem_toArray, List.getElem_cons_succ, List.getElem_cons_zero, List.setIfInBounds_toArray, List.set_cons_zero, List.set_cons_succ]
        refine wpAnyH_take (i := 21) (v := ?_) rfl (by kernel_rfl) (by kernel_rfl) (by kernel_rfl) (fun _ _ _ h => h) (Or.inl ⟨by kernel_rfl, ?_⟩) (by assumption) ?_
        rotate_left
        · intro W hSw
          (try dsimp only at hSw)
          go_simp
          all_goals with_reducible rfl
        try simp only [Act.put, List.getElem_toArray, List.getElem_cons_succ, List.getElem_cons_zero, List.setIfInBounds_toArray, List.set_cons_zero, List.set_cons_succ]
        refine wpAnyH_take (i := 22) (v := ?_) rfl (by kernel_rfl) (by kernel_rfl) (by kernel_rfl) (fun _ _ _ h => h) (Or.inl ⟨by kernel_rfl, ?_⟩) (by assumption) ?_
        rotate_left
        · intro W hSw
          (try dsimp only at hSw)
          go_simp
          all_goals with_reducible rfl
        try simp only [Act.put, List.getElem_toArray, List.getElem_cons_succ, List.getElem_cons_zero, List.setIfInBounds_toArray, List.set_cons_zero, List.set_cons_succ]
        refine wpAnyH_done (by kernel_rfl) ?_ _
        go_wp2
        go_ret
        exact ⟨rfl, HB01.out.trans (Below.mono (And.left (by assumption)) HB01.out.size)⟩
end Go.Proofs.YtkfookiakpnlfaaDoor
