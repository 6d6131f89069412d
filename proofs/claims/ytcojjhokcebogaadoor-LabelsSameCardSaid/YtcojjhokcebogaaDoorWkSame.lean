/- The statement LabelsSame: the walk. -/
import Derived.Test.YtcojjhokcebogaaDoorLsLives
import Derived.Test.YtcojjhokcebogaaDoorLsSame
import Derived.Deep.RegionHeld3
import Derived.StillTailTactics
namespace Go.Proofs.YtcojjhokcebogaaDoor
open Go.RowKit

set_option maxHeartbeats 1000000 in
theorem same_long (sv nw pr to fr sl : Int) (a : Option Addr) (n c : Nat) (l : List Int) (sv' nw' pr' to' fr' sl' : Int) (a' : Option Addr) (n' c' : Nat) (l' : List Int) (z : Int) (w : World) (hp : PowOk w) (hn : n ≤ 9223372036854775807) (hn' : n' ≤ 9223372036854775807) (h : 600 < n ∨ 600 < n') :
    Calls Tryd.prog 10 #[.agg #[.int .u8 sv, .int .u8 nw, .int .u8 pr, .int .u16 to, .int .u16 fr, .int .u8 sl, .slice a n c], .agg #[.int .u8 sv', .int .u8 nw', .int .u8 pr', .int .u16 to', .int .u16 fr', .int .u8 sl', .slice a' n' c'], .int .u16 z] w fun e w' => e = .returned (.bool true) ∧ Below w.heap.size w w' := by
  have hb2 := below_two w (.cells #[.int .u8 sv, .int .u8 nw, .int .u8 pr, .int .u16 to, .int .u16 fr, .int .u8 sl, .slice a n c] 38) (.cells #[.int .u8 sv', .int .u8 nw', .int .u8 pr', .int .u16 to', .int .u16 fr', .int .u8 sl', .slice a' n' c'] 38)
  have HL := Lib.hid (lives_any _ (hp.later hb2))
  have HB := Lib.hid hb2
  have e0 : l = l := rfl
  have e1 : l' = l' := rfl
  clear hp hb2 e0 e1
  by_cases h1 : 600 < n
  · have hd : decide ((600 : Int) < (n : Int)) = true := by simp; omega
    clear h h1
    go_enter Tryd.func10, Tryd.ntmps10
    go_wp2_with fail
    refine (HL.out).mono ?_
    rintro e w1 ⟨rfl, hb1⟩
    have B1 := Lib.hid (HB.out.trans (hb1.mono HB.out.size))
    clear hb1
    go_wp2
    go_ret
    exact ⟨rfl, B1.out⟩
  · have hd : decide ((600 : Int) < (n : Int)) = false := by simp; omega
    have hd2 : decide ((600 : Int) < (n' : Int)) = true := by simp; omega
    clear h h1
    go_enter Tryd.func10, Tryd.ntmps10
    go_wp2_with fail
    refine (HL.out).mono ?_
    rintro e w1 ⟨rfl, hb1⟩
    have B1 := Lib.hid (HB.out.trans (hb1.mono HB.out.size))
    clear hb1
    go_wp2
    go_ret
    exact ⟨rfl, B1.out⟩
set_option maxHeartbeats 8000000 in
set_option maxRecDepth 100000 in
theorem same_short (sv nw pr to fr sl : Int) (a : Option Addr) (n c : Nat) (l : List Int) (sv' nw' pr' to' fr' sl' : Int) (a' : Option Addr) (n' c' : Nat) (l' : List Int) (z : Int) (w : World) (hp : PowOk w) (h : Row .u8 w a n c l) (h' : Row .u8 w a' n' c' l') (hn : n ≤ 600) (hn' : n' ≤ 600) (_hpr : 0 ≤ pr ∧ pr ≤ 255) (_hsl : 0 ≤ sl ∧ sl ≤ 255) (hz : 0 ≤ z ∧ z ≤ 65535) :
    Calls Tryd.prog 10 #[.agg #[.int .u8 sv, .int .u8 nw, .int .u8 pr, .int .u16 to, .int .u16 fr, .int .u8 sl, .slice a n c], .agg #[.int .u8 sv', .int .u8 nw', .int .u8 pr', .int .u16 to', .int .u16 fr', .int .u8 sl', .slice a' n' c'], .int .u16 z] w fun e w' => e = .returned (.bool true) ∧ Below w.heap.size w w' := by
  have d1 : decide ((600 : Int) < (n : Int)) = false := by simp; omega
  have d2 : decide ((600 : Int) < (n' : Int)) = false := by simp; omega
  have HR := Lib.hid h
  have HR' := Lib.hid h'
  have HL := Lib.hid (fun W hW => lives_any W hW)
  have HP := Lib.hid hp
  have hln := h.len
  have hoct : ∀ j, 0 ≤ l.getD j 0 ∧ l.getD j 0 ≤ 255 := by
    intro j
    by_cases hj : j < l.length
    · rw [List.getD_eq_getElem?_getD, List.getElem?_eq_getElem hj]
      exact wf_u8.1 (h.wf _ (List.getElem_mem hj))
    · rw [List.getD_eq_getElem?_getD, List.getElem?_eq_none (by omega)]
      exact ⟨Int.le_refl _, by decide⟩
  have HOct := Lib.hid hoct
  have HWf := Lib.hid h.wf
  have HLn := Lib.hid hln
  clear h h' hp hoct hln
  go_enter Tryd.func10, Tryd.ntmps10
  go_upto_region 3 with fail
  clear d1 d2
  have hb0 := below_two w (.cells #[.int .u8 sv, .int .u8 nw, .int .u8 pr, .int .u16 to, .int .u16 fr, .int .u8 sl, .slice a n c] 38) (.cells #[.int .u8 sv', .int .u8 nw', .int .u8 pr', .int .u16 to', .int .u16 fr', .int .u8 sl', .slice a' n' c'] 38)
  have oa := (own_lit w 38 #[.int .u8 sv, .int .u8 nw, .int .u8 pr, .int .u16 to, .int .u16 fr, .int .u8 sl, .slice a n c] _ rfl).below (below_alloc _ (.cells #[.int .u8 sv', .int .u8 nw', .int .u8 pr', .int .u16 to', .int .u16 fr', .int .u8 sl', .slice a' n' c'] 38)) (by simp)
  have ob := own_lit (w.alloc (.cells #[.int .u8 sv, .int .u8 nw, .int .u8 pr, .int .u16 to, .int .u16 fr, .int .u8 sl, .slice a n c] 38)) 38 #[.int .u8 sv', .int .u8 nw', .int .u8 pr', .int .u16 to', .int .u16 fr', .int .u8 sl', .slice a' n' c'] _ rfl
  rw [World.size_alloc] at ob
  generalize (w.alloc (.cells #[.int .u8 sv, .int .u8 nw, .int .u8 pr, .int .u16 to, .int .u16 fr, .int .u8 sl, .slice a n c] 38)).alloc (.cells #[.int .u8 sv', .int .u8 nw', .int .u8 pr', .int .u16 to', .int .u16 fr', .int .u8 sl', .slice a' n' c'] 38) = W0 at *
  obtain ⟨pb, hpb⟩ : ∃ p, p = w.heap.size + 1 := ⟨_, rfl⟩
  obtain ⟨pa, hpa⟩ : ∃ p, p = w.heap.size := ⟨_, rfl⟩
  rw [← hpb] at ob ⊢
  rw [← hpa] at oa ⊢
  have hab : pa < pb := by omega
  have hwa : w.heap.size ≤ pa := by omega
  clear hpa hpb
  have B0 := Lib.hid hb0
  clear hb0
  have hla0 := oa.lt
  have Oa0 := Lib.hid oa
  have hlb0 := ob.lt
  have Ob0 := Lib.hid ob
  obtain ⟨a0, a1, a2, a3, a4, a5, a6⟩ := unit_cells oa
  obtain ⟨b0, b1, b2, b3, b4, b5, b6⟩ := unit_cells ob
  clear oa ob
  go_wp2_with fail
  refine (copy_any sv nw pr to fr sl a n c l _ (HR.out.later B0.out) (by omega)).mono ?_
  rintro e x1 ⟨g, rfl, hg0, og, hb⟩
  clear a0 a1 a2 a3 a4 a5 a6 b0 b1 b2 b3 b4 b5 b6
  have oa := Oa0.out.below hb (by omega)
  have ob := Ob0.out.below hb (by omega)
  have hz1 := hb.size
  have B1 := Lib.hid (B0.out.trans (hb.mono B0.out.size))
  have hla1 := oa.lt
  have Oa1 := Lib.hid oa
  have hlb1 := ob.lt
  have Ob1 := Lib.hid ob
  have hlg1 := og.lt
  have Og1 := Lib.hid og
  obtain ⟨a0, a1, a2, a3, a4, a5, a6⟩ := unit_cells oa
  obtain ⟨b0, b1, b2, b3, b4, b5, b6⟩ := unit_cells ob
  clear oa ob og
  clear hb
  go_upto_region 4 with fail
  have hb := below_alloc x1 (.cells #[.int .u8 sv, .int .u8 nw, .int .u8 pr, .int .u16 to, .int .u16 fr, .int .u8 sl, .slice (some ⟨g, 0, none⟩) n n] 38)
  have oc := own_lit x1 38 #[.int .u8 sv, .int .u8 nw, .int .u8 pr, .int .u16 to, .int .u16 fr, .int .u8 sl, .slice (some ⟨g, 0, none⟩) n n] _ rfl
  generalize x1.alloc (.cells #[.int .u8 sv, .int .u8 nw, .int .u8 pr, .int .u16 to, .int .u16 fr, .int .u8 sl, .slice (some ⟨g, 0, none⟩) n n] 38) = W2 at *
  obtain ⟨pc, hpc⟩ : ∃ p, p = x1.heap.size := ⟨_, rfl⟩
  rw [← hpc] at oc ⊢
  have hgc : g < pc := by omega
  have hbg : pb < g := by omega
  clear hpc
  clear a0 a1 a2 a3 a4 a5 a6 b0 b1 b2 b3 b4 b5 b6
  have oa := Oa1.out.below hb (by omega)
  have ob := Ob1.out.below hb (by omega)
  have og := Og1.out.below hb (by omega)
  have hz2 := hb.size
  have B2 := Lib.hid (B1.out.trans (hb.mono B1.out.size))
  have hla2 := oa.lt
  have Oa2 := Lib.hid oa
  have hlb2 := ob.lt
  have Ob2 := Lib.hid ob
  have hlg2 := og.lt
  have Og2 := Lib.hid og
  have hlc2 := oc.lt
  have Oc2 := Lib.hid oc
  obtain ⟨a0, a1, a2, a3, a4, a5, a6⟩ := unit_cells oa
  obtain ⟨b0, b1, b2, b3, b4, b5, b6⟩ := unit_cells ob
  obtain ⟨c0, c1, c2, c3, c4, c5, c6⟩ := unit_cells oc
  clear oa ob og oc
  clear hb
  obtain ⟨Q, hQ⟩ : ∃ Q, Q = decide (SameM sv nw pr to fr sl l sv' nw' pr' to' fr' sl' l') := ⟨_, rfl⟩
  have hRA : ∀ W, Below W2.heap.size W2 W → Row .u8 W a n c l := fun W hb => HR.out.later (B2.out.trans (hb.mono B2.out.size))
  have hRB : ∀ W, Below W2.heap.size W2 W → Row .u8 W a' n' c' l' := fun W hb => HR'.out.later (B2.out.trans (hb.mono B2.out.size))
  have hRC : ∀ W, Below W2.heap.size W2 W → Row .u8 W (some ⟨g, 0, none⟩) n n l := fun W hb => Own.row0 (Og2.out.below hb hlg2) n n HLn.out.symm (Nat.le_refl _) (by unfold maxLen; omega) HWf.out
  have hyy : decide (SameM sv nw pr to fr sl l sv nw pr to fr sl l) = true := by simp [SameM]
  have K1 := Lib.hid (fun W (hb : Below W2.heap.size W2 W) => lsame_any sv nw pr to fr sl a n c l sv nw pr to fr sl (some ⟨g, 0, none⟩) n n l W (hRA W hb) (hRC W hb))
  have K2 := Lib.hid (fun W (hb : Below W2.heap.size W2 W) => same_any sv nw pr to fr sl a n c l sv nw pr to fr sl (some ⟨g, 0, none⟩) n n l W (hRA W hb) (hRC W hb))
  have K3 := Lib.hid (fun W (hb : Below W2.heap.size W2 W) => same_any sv nw pr to fr sl a n c l sv' nw' pr' to' fr' sl' a' n' c' l' W (hRA W hb) (hRB W hb))
  have K4 := Lib.hid (fun W (hb : Below W2.heap.size W2 W) => lsame_any sv nw pr to fr sl a n c l sv' nw' pr' to' fr' sl' a' n' c' l' W (hRA W hb) (hRB W hb))
  rw [hyy] at K1 K2
  rw [← hQ] at K3 K4
  have hS : ∀ W W', Below W2.heap.size W2 W → Below W.heap.size W W' → Below W2.heap.size W2 W' ∧ W'.cell? ⟨pa, 0, none⟩ = some (.int .u8 sv) ∧ W'.cell? ⟨pa, 1, none⟩ = some (.int .u8 nw) ∧ W'.cell? ⟨pa, 2, none⟩ = some (.int .u8 pr) ∧ W'.cell? ⟨pa, 3, none⟩ = some (.int .u16 to) ∧ W'.cell? ⟨pa, 4, none⟩ = some (.int .u16 fr) ∧ W'.cell? ⟨pa, 5, none⟩ = some (.int .u8 sl) ∧ W'.cell? ⟨pa, 6, none⟩ = some (.slice a n c) ∧ W'.cell? ⟨pb, 0, none⟩ = some (.int .u8 sv') ∧ W'.cell? ⟨pb, 1, none⟩ = some (.int .u8 nw') ∧ W'.cell? ⟨pb, 2, none⟩ = some (.int .u8 pr') ∧ W'.cell? ⟨pb, 3, none⟩ = some (.int .u16 to') ∧ W'.cell? ⟨pb, 4, none⟩ = some (.int .u16 fr') ∧ W'.cell? ⟨pb, 5, none⟩ = some (.int .u8 sl') ∧ W'.cell? ⟨pb, 6, none⟩ = some (.slice a' n' c') ∧ W'.cell? ⟨pc, 0, none⟩ = some (.int .u8 sv) ∧ W'.cell? ⟨pc, 1, none⟩ = some (.int .u8 nw) ∧ W'.cell? ⟨pc, 2, none⟩ = some (.int .u8 pr) ∧ W'.cell? ⟨pc, 3, none⟩ = some (.int .u16 to) ∧ W'.cell? ⟨pc, 4, none⟩ = some (.int .u16 fr) ∧ W'.cell? ⟨pc, 5, none⟩ = some (.int .u8 sl) ∧ W'.cell? ⟨pc, 6, none⟩ = some (.slice (some ⟨g, 0, none⟩) n n) := by
    intro W W' h h'
    have hh := h.trans (h'.mono h.size)
    obtain ⟨a0, a1, a2, a3, a4, a5, a6⟩ := unit_cells (Oa2.out.below hh hla2)
    obtain ⟨b0, b1, b2, b3, b4, b5, b6⟩ := unit_cells (Ob2.out.below hh hlb2)
    obtain ⟨c0, c1, c2, c3, c4, c5, c6⟩ := unit_cells (Oc2.out.below hh hlc2)
    exact ⟨hh, a0, a1, a2, a3, a4, a5, a6, b0, b1, b2, b3, b4, b5, b6, c0, c1, c2, c3, c4, c5, c6⟩
  have hS0 := hS _ _ (Below.refl _ _) (Below.refl _ _)
  have hSd := hS _ _ (Below.refl _ W2) (Below.refl _ W2).drew
  have HS := Lib.hid hS
  clear hS hRA hRB hRC hyy hQ a0 a1 a2 a3 a4 a5 a6 b0 b1 b2 b3 b4 b5 b6 c0 c1 c2 c3 c4 c5 c6
  go_region_held3 (fun W => Below W2.heap.size W2 W ∧ W.cell? ⟨pa, 0, none⟩ = some (.int .u8 sv) ∧ W.cell? ⟨pa, 1, none⟩ = some (.int .u8 nw) ∧ W.cell? ⟨pa, 2, none⟩ = some (.int .u8 pr) ∧ W.cell? ⟨pa, 3, none⟩ = some (.int .u16 to) ∧ W.cell? ⟨pa, 4, none⟩ = some (.int .u16 fr) ∧ W.cell? ⟨pa, 5, none⟩ = some (.int .u8 sl) ∧ W.cell? ⟨pa, 6, none⟩ = some (.slice a n c) ∧ W.cell? ⟨pb, 0, none⟩ = some (.int .u8 sv') ∧ W.cell? ⟨pb, 1, none⟩ = some (.int .u8 nw') ∧ W.cell? ⟨pb, 2, none⟩ = some (.int .u8 pr') ∧ W.cell? ⟨pb, 3, none⟩ = some (.int .u16 to') ∧ W.cell? ⟨pb, 4, none⟩ = some (.int .u16 fr') ∧ W.cell? ⟨pb, 5, none⟩ = some (.int .u8 sl') ∧ W.cell? ⟨pb, 6, none⟩ = some (.slice a' n' c') ∧ W.cell? ⟨pc, 0, none⟩ = some (.int .u8 sv) ∧ W.cell? ⟨pc, 1, none⟩ = some (.int .u8 nw) ∧ W.cell? ⟨pc, 2, none⟩ = some (.int .u8 pr) ∧ W.cell? ⟨pc, 3, none⟩ = some (.int .u16 to) ∧ W.cell? ⟨pc, 4, none⟩ = some (.int .u16 fr) ∧ W.cell? ⟨pc, 5, none⟩ = some (.int .u8 sl) ∧ W.cell? ⟨pc, 6, none⟩ = some (.slice (some ⟨g, 0, none⟩) n n)) (first | assumption | go_keep)
    (first
      | (go_at_call 22; ((with_reducible refine (K1.out _ (And.left (by assumption))).mono ?_); rintro e y1 ⟨rfl, hc1⟩; have hS1 := HS.out _ _ (And.left (by assumption)) hc1; clear hc1))
      | (go_at_call 28; ((with_reducible refine (K2.out _ (And.left (by assumption))).mono ?_); rintro e y2 ⟨rfl, hc2⟩; have hS2 := HS.out _ _ (And.left (by assumption)) hc2; clear hc2))
      | (go_at_call 28; ((with_reducible refine (K3.out _ (And.left (by assumption))).mono ?_); rintro e y3 ⟨rfl, hc3⟩; have hS3 := HS.out _ _ (And.left (by assumption)) hc3; clear hc3))
      | (go_at_call 22; ((with_reducible refine (K4.out _ (And.left (by assumption))).mono ?_); rintro e y4 ⟨rfl, hc4⟩; have hS4 := HS.out _ _ (And.left (by assumption)) hc4; clear hc4))
      | fail)
  have hb := hS4.1
  clear hS0 hSd hS1 hS2 hS3 hS4 HS K1 K2 K3 K4
  have oa := Oa2.out.below hb (by omega)
  have ob := Ob2.out.below hb (by omega)
  have og := Og2.out.below hb (by omega)
  have oc := Oc2.out.below hb (by omega)
  have hz3 := hb.size
  have B3 := Lib.hid (B2.out.trans (hb.mono B2.out.size))
  have hla3 := oa.lt
  have Oa3 := Lib.hid oa
  have hlb3 := ob.lt
  have Ob3 := Lib.hid ob
  have hlg3 := og.lt
  have Og3 := Lib.hid og
  have hlc3 := oc.lt
  have Oc3 := Lib.hid oc
  obtain ⟨a0, a1, a2, a3, a4, a5, a6⟩ := unit_cells oa
  obtain ⟨b0, b1, b2, b3, b4, b5, b6⟩ := unit_cells ob
  obtain ⟨c0, c1, c2, c3, c4, c5, c6⟩ := unit_cells oc
  clear oa ob og oc
  clear hb
  go_upto_region 6 with fail
  by_cases hn0 : n = 0
  · skip
    have hn1 : ¬ 0 < n := by omega
    clear hn0
    obtain ⟨s1, hs1⟩ : ∃ s : Int, s = (sl + 1) % 256 := ⟨_, rfl⟩
    obtain ⟨p1, hp1⟩ : ∃ s : Int, s = (pr + 1) % 256 := ⟨_, rfl⟩
    have es1 : (sl + 1) % 256 = s1 := hs1.symm
    have ep1 : (pr + 1) % 256 = p1 := hp1.symm
    have N1 := Lib.hid (fun W (h : Row .u8 W a n c l) => show Calls Tryd.prog 28 #[.agg #[.int .u8 sv, .int .u8 nw, .int .u8 pr, .int .u16 to, .int .u16 fr, .int .u8 sl, .slice a n c], .agg #[.int .u8 sv, .int .u8 nw, .int .u8 pr, .int .u16 to, .int .u16 fr, .int .u8 s1, .slice a n c]] W fun e w' => e = .returned (.bool false) ∧ Below W.heap.size W w' from
      same_no sv nw pr to fr sl a n c sv nw pr to fr s1 a n c W (by omega))
    have N2 := Lib.hid (fun W (h : Row .u8 W a n c l) => show Calls Tryd.prog 28 #[.agg #[.int .u8 sv, .int .u8 nw, .int .u8 pr, .int .u16 to, .int .u16 fr, .int .u8 sl, .slice a n c], .agg #[.int .u8 sv, .int .u8 nw, .int .u8 p1, .int .u16 to, .int .u16 fr, .int .u8 sl, .slice a n c]] W fun e w' => e = .returned (.bool false) ∧ Below W.heap.size W w' from
      same_no sv nw pr to fr sl a n c sv nw p1 to fr sl a n c W (by omega))
    clear hs1 hp1
    generalize y4 = WT at *
    go_upto_region 12 with fail
    have hb := below_alloc WT (.cells #[.int .u8 sv, .int .u8 nw, .int .u8 pr, .int .u16 to, .int .u16 fr, .int .u8 sl, .slice a n c] 38)
    have od := own_lit WT 38 #[.int .u8 sv, .int .u8 nw, .int .u8 pr, .int .u16 to, .int .u16 fr, .int .u8 sl, .slice a n c] _ rfl
    generalize WT.alloc (.cells #[.int .u8 sv, .int .u8 nw, .int .u8 pr, .int .u16 to, .int .u16 fr, .int .u8 sl, .slice a n c] 38) = WD at *
    obtain ⟨pd, hpd⟩ : ∃ p, p = WT.heap.size := ⟨_, rfl⟩
    rw [← hpd] at od ⊢
    have had : pa < pd := by omega
    clear hpd
    clear a0 a1 a2 a3 a4 a5 a6 b0 b1 b2 b3 b4 b5 b6 c0 c1 c2 c3 c4 c5 c6
    have oa := Oa3.out.below hb (by omega)
    have ob := Ob3.out.below hb (by omega)
    have og := Og3.out.below hb (by omega)
    have oc := Oc3.out.below hb (by omega)
    have hz4 := hb.size
    have B4 := Lib.hid (B3.out.trans (hb.mono B3.out.size))
    have hla4 := oa.lt
    have Oa4 := Lib.hid oa
    have hlb4 := ob.lt
    have Ob4 := Lib.hid ob
    have hlg4 := og.lt
    have Og4 := Lib.hid og
    have hlc4 := oc.lt
    have Oc4 := Lib.hid oc
    have hld4 := od.lt
    have Od4 := Lib.hid od
    obtain ⟨a0, a1, a2, a3, a4, a5, a6⟩ := unit_cells oa
    obtain ⟨b0, b1, b2, b3, b4, b5, b6⟩ := unit_cells ob
    obtain ⟨c0, c1, c2, c3, c4, c5, c6⟩ := unit_cells oc
    obtain ⟨d0, d1, d2, d3, d4, d5, d6⟩ := unit_cells od
    clear oa ob og oc od
    clear hb
    have fd5 := Od4.out.frozen 5
    go_upto_region 13 with fail
    clear fd5
    have hx := (Exc.refl (fun k => k = pd) WD).setCell ⟨pd, 5, none⟩ (.inl rfl) (.int .u8 s1)
    have od := Od4.out.set 5 (.int .u8 s1)
    have oa := Oa4.out.exc hx (by omega)
    have hb := hx.below (B := w.heap.size) B4.out.size (fun i _ hi => by omega)
    generalize WD.setCell ⟨pd, 5, none⟩ (.int .u8 s1) = WF at *
    have hwf := hx.size
    clear a0 a1 a2 a3 a4 a5 a6 b0 b1 b2 b3 b4 b5 b6 c0 c1 c2 c3 c4 c5 c6 d0 d1 d2 d3 d4 d5 d6
    have B5 := Lib.hid (B4.out.trans hb)
    have hla5 := oa.lt
    have Oa5 := Lib.hid oa
    have hld5 := od.lt
    have Od5 := Lib.hid od
    obtain ⟨a0, a1, a2, a3, a4, a5, a6⟩ := unit_cells oa
    obtain ⟨d0, d1, d2, d3, d4, d5, d6⟩ := unit_cells od
    clear oa od
    clear hb hx
    go_upto_region 14 with fail
    have hb := below_alloc WF (.cells #[.int .u8 sv, .int .u8 nw, .int .u8 pr, .int .u16 to, .int .u16 fr, .int .u8 sl, .slice a n c] 38)
    have oe := own_lit WF 38 #[.int .u8 sv, .int .u8 nw, .int .u8 pr, .int .u16 to, .int .u16 fr, .int .u8 sl, .slice a n c] _ rfl
    generalize WF.alloc (.cells #[.int .u8 sv, .int .u8 nw, .int .u8 pr, .int .u16 to, .int .u16 fr, .int .u8 sl, .slice a n c] 38) = WE at *
    obtain ⟨pe, hpe⟩ : ∃ p, p = WF.heap.size := ⟨_, rfl⟩
    rw [← hpe] at oe ⊢
    have hae : pa < pe := by omega
    have hde : pd < pe := by omega
    clear hpe
    clear a0 a1 a2 a3 a4 a5 a6 d0 d1 d2 d3 d4 d5 d6
    have oa := Oa5.out.below hb (by omega)
    have od := Od5.out.below hb (by omega)
    have hz6 := hb.size
    have B6 := Lib.hid (B5.out.trans (hb.mono B5.out.size))
    have hla6 := oa.lt
    have Oa6 := Lib.hid oa
    have hld6 := od.lt
    have Od6 := Lib.hid od
    have hle6 := oe.lt
    have Oe6 := Lib.hid oe
    obtain ⟨a0, a1, a2, a3, a4, a5, a6⟩ := unit_cells oa
    obtain ⟨d0, d1, d2, d3, d4, d5, d6⟩ := unit_cells od
    obtain ⟨e0, e1, e2, e3, e4, e5, e6⟩ := unit_cells oe
    clear oa od oe
    clear hb
    have fe2 := Oe6.out.frozen 2
    go_upto_region 15 with fail
    clear fe2
    have hx := (Exc.refl (fun k => k = pe) WE).setCell ⟨pe, 2, none⟩ (.inl rfl) (.int .u8 p1)
    have oe := Oe6.out.set 2 (.int .u8 p1)
    have oa := Oa6.out.exc hx (by omega)
    have od := Od6.out.exc hx (by omega)
    have hb := hx.below (B := w.heap.size) B6.out.size (fun i _ hi => by omega)
    generalize WE.setCell ⟨pe, 2, none⟩ (.int .u8 p1) = WG at *
    have hwg := hx.size
    clear a0 a1 a2 a3 a4 a5 a6 d0 d1 d2 d3 d4 d5 d6 e0 e1 e2 e3 e4 e5 e6
    have B7 := Lib.hid (B6.out.trans hb)
    have hla7 := oa.lt
    have Oa7 := Lib.hid oa
    have hld7 := od.lt
    have Od7 := Lib.hid od
    have hle7 := oe.lt
    have Oe7 := Lib.hid oe
    obtain ⟨a0, a1, a2, a3, a4, a5, a6⟩ := unit_cells oa
    obtain ⟨d0, d1, d2, d3, d4, d5, d6⟩ := unit_cells od
    obtain ⟨e0, e1, e2, e3, e4, e5, e6⟩ := unit_cells oe
    clear oa od oe
    clear hb hx
    go_wp2_with fail
    refine (N1.out _ (HR.out.later B7.out)).mono ?_
    rintro e v1 ⟨rfl, hb⟩
    clear a0 a1 a2 a3 a4 a5 a6 d0 d1 d2 d3 d4 d5 d6 e0 e1 e2 e3 e4 e5 e6
    have oa := Oa7.out.below hb (by omega)
    have od := Od7.out.below hb (by omega)
    have oe := Oe7.out.below hb (by omega)
    have hz8 := hb.size
    have B8 := Lib.hid (B7.out.trans (hb.mono B7.out.size))
    have hla8 := oa.lt
    have Oa8 := Lib.hid oa
    have hld8 := od.lt
    have Od8 := Lib.hid od
    have hle8 := oe.lt
    have Oe8 := Lib.hid oe
    obtain ⟨a0, a1, a2, a3, a4, a5, a6⟩ := unit_cells oa
    obtain ⟨d0, d1, d2, d3, d4, d5, d6⟩ := unit_cells od
    obtain ⟨e0, e1, e2, e3, e4, e5, e6⟩ := unit_cells oe
    clear oa od oe
    clear hb
    go_wp2_with fail
    refine (N2.out _ (HR.out.later B8.out)).mono ?_
    rintro e v2 ⟨rfl, hb⟩
    clear a0 a1 a2 a3 a4 a5 a6 d0 d1 d2 d3 d4 d5 d6 e0 e1 e2 e3 e4 e5 e6
    have oa := Oa8.out.below hb (by omega)
    have od := Od8.out.below hb (by omega)
    have oe := Oe8.out.below hb (by omega)
    have hz9 := hb.size
    have B9 := Lib.hid (B8.out.trans (hb.mono B8.out.size))
    clear oa od oe
    clear hb
    go_wp2_with fail
    refine (HL.out _ (HP.out.later B9.out)).mono ?_
    rintro e v3 ⟨rfl, hb⟩
    have B99 := Lib.hid (B9.out.trans (hb.mono B9.out.size))
    clear hb
    go_wp2
    go_ret
    exact ⟨rfl, B99.out⟩
  · skip
    have hn1 : (0 : Int) < (n : Int) := by omega
    have hn2 : ((n : Int) == 0) = false := by simp; omega
    have hn3 : 0 < n := by omega
    obtain ⟨i, hi⟩ : ∃ i : Nat, i = (z % (n : Int)).toNat := ⟨_, rfl⟩
    have hzm := Int.emod_nonneg z (show (n : Int) ≠ 0 by omega)
    have hzl := Int.emod_lt_of_pos z hn1
    have ez : z.tmod (n : Int) = (i : Int) := by rw [Int.tmod_eq_emod_of_nonneg hz.1, hi]; omega
    have hin : i < n := by omega
    have hin2 : (i : Int) < (n : Int) := by omega
    obtain ⟨x, hx⟩ : ∃ x, x = l.getD i 0 := ⟨_, rfl⟩
    have hxr := HOct.out i
    rw [← hx] at hxr
    obtain ⟨y, hy⟩ : ∃ y, y = (x + 1) % 256 := ⟨_, rfl⟩
    have ey : (x + 1) % 256 = y := hy.symm
    have gx := Og3.out.cell i (by rw [nums_length, HLn.out]; exact hin)
    rw [nums_getD _ _ _ (by rw [HLn.out]; exact hin), ← hx] at gx
    have gf := Og3.out.frozen i
    have HX := Lib.hid hx
    have HY := Lib.hid hy
    clear hi hzm hzl hx hy
    go_upto_region 8 with fail
    go_still_tail 10, (by kernel_rfl)
    change wpList _ _ _ _ _ y4.drew
    go_upto_region 9 with fail
    try rw [ey]
    clear gx gf
    have hx : Exc (fun k => k = g) y4 (y4.setCell ⟨g, i, none⟩ (.int .u8 y)).drew := ((Exc.refl (fun k => k = g) y4).setCell ⟨g, i, none⟩ (.inl rfl) (.int .u8 y)).drawN 1
    have og : Own (y4.setCell ⟨g, i, none⟩ (.int .u8 y)).drew g 5 (nums .u8 (l.set i y)) := by
      have := Own.set (w := y4) Og3.out i (.int .u8 y)
      rw [nums_set] at this
      exact this
    have oa := Oa3.out.exc hx (by omega)
    have oc := Oc3.out.exc hx (by omega)
    have hb := hx.below (B := w.heap.size) B3.out.size (fun i _ hi => by omega)
    generalize (y4.setCell ⟨g, i, none⟩ (.int .u8 y)).drew = WT at *
    have hwt := hx.size
    clear a0 a1 a2 a3 a4 a5 a6 b0 b1 b2 b3 b4 b5 b6 c0 c1 c2 c3 c4 c5 c6
    have B4 := Lib.hid (B3.out.trans hb)
    have hla4 := oa.lt
    have Oa4 := Lib.hid oa
    have hlg4 := og.lt
    have Og4 := Lib.hid og
    have hlc4 := oc.lt
    have Oc4 := Lib.hid oc
    obtain ⟨a0, a1, a2, a3, a4, a5, a6⟩ := unit_cells oa
    obtain ⟨c0, c1, c2, c3, c4, c5, c6⟩ := unit_cells oc
    clear oa og oc
    clear hb hx
    have hsz : (l.set i y).length = n := by rw [List.length_set]; exact HLn.out
    have hwfs : ∀ v ∈ l.set i y, (Lit.int .u8 v).wf = true := by
      intro v hv
      rcases List.mem_or_eq_of_mem_set hv with h | h
      · exact HWf.out v h
      · rw [h]; exact wf_u8.2 (by omega)
    have hRC : ∀ W, Below WT.heap.size WT W → Row .u8 W (some ⟨g, 0, none⟩) n n (l.set i y) := fun W hb => Own.row0 (Og4.out.below hb hlg4) n n hsz.symm (Nat.le_refl _) (by unfold maxLen; omega) hwfs
    have hne : ¬ SameM sv nw pr to fr sl l sv nw pr to fr sl (l.set i y) := by
      intro h
      have h2 := h.2.2.2.2.2.2
      have h3 := congrArg (fun q => q.getD i 0) h2
      simp only [List.getD_eq_getElem?_getD] at h3
      rw [List.getElem?_set_self (by rw [HLn.out]; exact hin), Option.getD_some, ← List.getD_eq_getElem?_getD, ← HX.out] at h3
      have hy := HY.out
      omega
    have hdn := decide_eq_false hne
    have M1 := Lib.hid (fun W (hb : Below WT.heap.size WT W) => same_any sv nw pr to fr sl a n c l sv nw pr to fr sl (some ⟨g, 0, none⟩) n n (l.set i y) W (HR.out.later (B4.out.trans (hb.mono B4.out.size))) (hRC W hb))
    have M2 := Lib.hid (fun W (hb : Below WT.heap.size WT W) => lsame_any sv nw pr to fr sl a n c l sv nw pr to fr sl (some ⟨g, 0, none⟩) n n (l.set i y) W (HR.out.later (B4.out.trans (hb.mono B4.out.size))) (hRC W hb))
    rw [hdn] at M1 M2
    clear hsz hwfs hRC hne hdn
    go_wp2_with fail
    refine (M1.out _ (Below.refl _ _)).mono ?_
    rintro e u1 ⟨rfl, hb⟩
    have hb1 := hb
    clear a0 a1 a2 a3 a4 a5 a6 c0 c1 c2 c3 c4 c5 c6
    have oa := Oa4.out.below hb (by omega)
    have og := Og4.out.below hb (by omega)
    have oc := Oc4.out.below hb (by omega)
    have hz5 := hb.size
    have B5 := Lib.hid (B4.out.trans (hb.mono B4.out.size))
    have hla5 := oa.lt
    have Oa5 := Lib.hid oa
    have hlg5 := og.lt
    have Og5 := Lib.hid og
    have hlc5 := oc.lt
    have Oc5 := Lib.hid oc
    obtain ⟨a0, a1, a2, a3, a4, a5, a6⟩ := unit_cells oa
    obtain ⟨c0, c1, c2, c3, c4, c5, c6⟩ := unit_cells oc
    clear oa og oc
    clear hb
    go_wp2_with fail
    refine (M2.out _ hb1).mono ?_
    rintro e u2 ⟨rfl, hb⟩
    clear hb1
    clear a0 a1 a2 a3 a4 a5 a6 c0 c1 c2 c3 c4 c5 c6
    have oa := Oa5.out.below hb (by omega)
    have og := Og5.out.below hb (by omega)
    have oc := Oc5.out.below hb (by omega)
    have hz6 := hb.size
    have B6 := Lib.hid (B5.out.trans (hb.mono B5.out.size))
    have hla6 := oa.lt
    have Oa6 := Lib.hid oa
    have hlg6 := og.lt
    have Og6 := Lib.hid og
    have hlc6 := oc.lt
    have Oc6 := Lib.hid oc
    obtain ⟨a0, a1, a2, a3, a4, a5, a6⟩ := unit_cells oa
    obtain ⟨c0, c1, c2, c3, c4, c5, c6⟩ := unit_cells oc
    clear oa og oc
    clear hb
    obtain ⟨s1, hs1⟩ : ∃ s : Int, s = (sl + 1) % 256 := ⟨_, rfl⟩
    obtain ⟨p1, hp1⟩ : ∃ s : Int, s = (pr + 1) % 256 := ⟨_, rfl⟩
    have es1 : (sl + 1) % 256 = s1 := hs1.symm
    have ep1 : (pr + 1) % 256 = p1 := hp1.symm
    have N1 := Lib.hid (fun W (h : Row .u8 W a n c l) => show Calls Tryd.prog 28 #[.agg #[.int .u8 sv, .int .u8 nw, .int .u8 pr, .int .u16 to, .int .u16 fr, .int .u8 sl, .slice a n c], .agg #[.int .u8 sv, .int .u8 nw, .int .u8 pr, .int .u16 to, .int .u16 fr, .int .u8 s1, .slice a n c]] W fun e w' => e = .returned (.bool false) ∧ Below W.heap.size W w' from
      same_no sv nw pr to fr sl a n c sv nw pr to fr s1 a n c W (by omega))
    have N2 := Lib.hid (fun W (h : Row .u8 W a n c l) => show Calls Tryd.prog 28 #[.agg #[.int .u8 sv, .int .u8 nw, .int .u8 pr, .int .u16 to, .int .u16 fr, .int .u8 sl, .slice a n c], .agg #[.int .u8 sv, .int .u8 nw, .int .u8 p1, .int .u16 to, .int .u16 fr, .int .u8 sl, .slice a n c]] W fun e w' => e = .returned (.bool false) ∧ Below W.heap.size W w' from
      same_no sv nw pr to fr sl a n c sv nw p1 to fr sl a n c W (by omega))
    clear hs1 hp1
    generalize u2 = WT2 at *
    go_upto_region 12 with fail
    have hb := below_alloc WT2 (.cells #[.int .u8 sv, .int .u8 nw, .int .u8 pr, .int .u16 to, .int .u16 fr, .int .u8 sl, .slice a n c] 38)
    have od := own_lit WT2 38 #[.int .u8 sv, .int .u8 nw, .int .u8 pr, .int .u16 to, .int .u16 fr, .int .u8 sl, .slice a n c] _ rfl
    generalize WT2.alloc (.cells #[.int .u8 sv, .int .u8 nw, .int .u8 pr, .int .u16 to, .int .u16 fr, .int .u8 sl, .slice a n c] 38) = WD at *
    obtain ⟨pd, hpd⟩ : ∃ p, p = WT2.heap.size := ⟨_, rfl⟩
    rw [← hpd] at od ⊢
    have had : pa < pd := by omega
    clear hpd
    clear a0 a1 a2 a3 a4 a5 a6 c0 c1 c2 c3 c4 c5 c6
    have oa := Oa6.out.below hb (by omega)
    have og := Og6.out.below hb (by omega)
    have oc := Oc6.out.below hb (by omega)
    have hz7 := hb.size
    have B7 := Lib.hid (B6.out.trans (hb.mono B6.out.size))
    have hla7 := oa.lt
    have Oa7 := Lib.hid oa
    have hlg7 := og.lt
    have Og7 := Lib.hid og
    have hlc7 := oc.lt
    have Oc7 := Lib.hid oc
    have hld7 := od.lt
    have Od7 := Lib.hid od
    obtain ⟨a0, a1, a2, a3, a4, a5, a6⟩ := unit_cells oa
    obtain ⟨c0, c1, c2, c3, c4, c5, c6⟩ := unit_cells oc
    obtain ⟨d0, d1, d2, d3, d4, d5, d6⟩ := unit_cells od
    clear oa og oc od
    clear hb
    have fd5 := Od7.out.frozen 5
    go_upto_region 13 with fail
    clear fd5
    have hx := (Exc.refl (fun k => k = pd) WD).setCell ⟨pd, 5, none⟩ (.inl rfl) (.int .u8 s1)
    have od := Od7.out.set 5 (.int .u8 s1)
    have oa := Oa7.out.exc hx (by omega)
    have hb := hx.below (B := w.heap.size) B7.out.size (fun i _ hi => by omega)
    generalize WD.setCell ⟨pd, 5, none⟩ (.int .u8 s1) = WF at *
    have hwf := hx.size
    clear a0 a1 a2 a3 a4 a5 a6 c0 c1 c2 c3 c4 c5 c6 d0 d1 d2 d3 d4 d5 d6
    have B8 := Lib.hid (B7.out.trans hb)
    have hla8 := oa.lt
    have Oa8 := Lib.hid oa
    have hld8 := od.lt
    have Od8 := Lib.hid od
    obtain ⟨a0, a1, a2, a3, a4, a5, a6⟩ := unit_cells oa
    obtain ⟨d0, d1, d2, d3, d4, d5, d6⟩ := unit_cells od
    clear oa od
    clear hb hx
    go_upto_region 14 with fail
    have hb := below_alloc WF (.cells #[.int .u8 sv, .int .u8 nw, .int .u8 pr, .int .u16 to, .int .u16 fr, .int .u8 sl, .slice a n c] 38)
    have oe := own_lit WF 38 #[.int .u8 sv, .int .u8 nw, .int .u8 pr, .int .u16 to, .int .u16 fr, .int .u8 sl, .slice a n c] _ rfl
    generalize WF.alloc (.cells #[.int .u8 sv, .int .u8 nw, .int .u8 pr, .int .u16 to, .int .u16 fr, .int .u8 sl, .slice a n c] 38) = WE at *
    obtain ⟨pe, hpe⟩ : ∃ p, p = WF.heap.size := ⟨_, rfl⟩
    rw [← hpe] at oe ⊢
    have hae : pa < pe := by omega
    have hde : pd < pe := by omega
    clear hpe
    clear a0 a1 a2 a3 a4 a5 a6 d0 d1 d2 d3 d4 d5 d6
    have oa := Oa8.out.below hb (by omega)
    have od := Od8.out.below hb (by omega)
    have hz9 := hb.size
    have B9 := Lib.hid (B8.out.trans (hb.mono B8.out.size))
    have hla9 := oa.lt
    have Oa9 := Lib.hid oa
    have hld9 := od.lt
    have Od9 := Lib.hid od
    have hle9 := oe.lt
    have Oe9 := Lib.hid oe
    obtain ⟨a0, a1, a2, a3, a4, a5, a6⟩ := unit_cells oa
    obtain ⟨d0, d1, d2, d3, d4, d5, d6⟩ := unit_cells od
    obtain ⟨e0, e1, e2, e3, e4, e5, e6⟩ := unit_cells oe
    clear oa od oe
    clear hb
    have fe2 := Oe9.out.frozen 2
    go_upto_region 15 with fail
    clear fe2
    have hx := (Exc.refl (fun k => k = pe) WE).setCell ⟨pe, 2, none⟩ (.inl rfl) (.int .u8 p1)
    have oe := Oe9.out.set 2 (.int .u8 p1)
    have oa := Oa9.out.exc hx (by omega)
    have od := Od9.out.exc hx (by omega)
    have hb := hx.below (B := w.heap.size) B9.out.size (fun i _ hi => by omega)
    generalize WE.setCell ⟨pe, 2, none⟩ (.int .u8 p1) = WG at *
    have hwg := hx.size
    clear a0 a1 a2 a3 a4 a5 a6 d0 d1 d2 d3 d4 d5 d6 e0 e1 e2 e3 e4 e5 e6
    have B10 := Lib.hid (B9.out.trans hb)
    have hla10 := oa.lt
    have Oa10 := Lib.hid oa
    have hld10 := od.lt
    have Od10 := Lib.hid od
    have hle10 := oe.lt
    have Oe10 := Lib.hid oe
    obtain ⟨a0, a1, a2, a3, a4, a5, a6⟩ := unit_cells oa
    obtain ⟨d0, d1, d2, d3, d4, d5, d6⟩ := unit_cells od
    obtain ⟨e0, e1, e2, e3, e4, e5, e6⟩ := unit_cells oe
    clear oa od oe
    clear hb hx
    go_wp2_with fail
    refine (N1.out _ (HR.out.later B10.out)).mono ?_
    rintro e v1 ⟨rfl, hb⟩
    clear a0 a1 a2 a3 a4 a5 a6 d0 d1 d2 d3 d4 d5 d6 e0 e1 e2 e3 e4 e5 e6
    have oa := Oa10.out.below hb (by omega)
    have od := Od10.out.below hb (by omega)
    have oe := Oe10.out.below hb (by omega)
    have hz11 := hb.size
    have B11 := Lib.hid (B10.out.trans (hb.mono B10.out.size))
    have hla11 := oa.lt
    have Oa11 := Lib.hid oa
    have hld11 := od.lt
    have Od11 := Lib.hid od
    have hle11 := oe.lt
    have Oe11 := Lib.hid oe
    obtain ⟨a0, a1, a2, a3, a4, a5, a6⟩ := unit_cells oa
    obtain ⟨d0, d1, d2, d3, d4, d5, d6⟩ := unit_cells od
    obtain ⟨e0, e1, e2, e3, e4, e5, e6⟩ := unit_cells oe
    clear oa od oe
    clear hb
    go_wp2_with fail
    refine (N2.out _ (HR.out.later B11.out)).mono ?_
    rintro e v2 ⟨rfl, hb⟩
    clear a0 a1 a2 a3 a4 a5 a6 d0 d1 d2 d3 d4 d5 d6 e0 e1 e2 e3 e4 e5 e6
    have oa := Oa11.out.below hb (by omega)
    have od := Od11.out.below hb (by omega)
    have oe := Oe11.out.below hb (by omega)
    have hz12 := hb.size
    have B12 := Lib.hid (B11.out.trans (hb.mono B11.out.size))
    clear oa od oe
    clear hb
    go_wp2_with fail
    refine (HL.out _ (HP.out.later B12.out)).mono ?_
    rintro e v3 ⟨rfl, hb⟩
    have B99 := Lib.hid (B12.out.trans (hb.mono B12.out.size))
    clear hb
    go_wp2
    go_ret
    exact ⟨rfl, B99.out⟩
theorem same_walk (sv nw pr to fr sl : Int) (a : Option Addr) (n c : Nat) (l : List Int) (sv' nw' pr' to' fr' sl' : Int) (a' : Option Addr) (n' c' : Nat) (l' : List Int) (z : Int) (w : World) (hp : PowOk w) (_w0 : (Lit.int .u8 sv).wf = true) (_w1 : (Lit.int .u8 nw).wf = true) (w2 : (Lit.int .u8 pr).wf = true) (_w3 : (Lit.int .u16 to).wf = true) (_w4 : (Lit.int .u16 fr).wf = true) (w5 : (Lit.int .u8 sl).wf = true) (wr : Row .u8 w a n c l)
    (_w0' : (Lit.int .u8 sv').wf = true) (_w1' : (Lit.int .u8 nw').wf = true) (_w2' : (Lit.int .u8 pr').wf = true) (_w3' : (Lit.int .u16 to').wf = true) (_w4' : (Lit.int .u16 fr').wf = true) (_w5' : (Lit.int .u8 sl').wf = true) (wr' : Row .u8 w a' n' c' l') (wz : (Lit.int .u16 z).wf = true) :
    Calls Tryd.prog 10 #[.agg #[.int .u8 sv, .int .u8 nw, .int .u8 pr, .int .u16 to, .int .u16 fr, .int .u8 sl, .slice a n c], .agg #[.int .u8 sv', .int .u8 nw', .int .u8 pr', .int .u16 to', .int .u16 fr', .int .u8 sl', .slice a' n' c'], .int .u16 z] w fun e w' => e = .returned (.bool true) ∧ Below w.heap.size w w' := by
  have h1 := wr.le
  have h2 := wr.max
  have h1' := wr'.le
  have h2' := wr'.max
  unfold maxLen at h2 h2'
  by_cases h : 600 < n ∨ 600 < n'
  · exact same_long sv nw pr to fr sl a n c l sv' nw' pr' to' fr' sl' a' n' c' l' z w hp (by omega) (by omega) h
  · exact same_short sv nw pr to fr sl a n c l sv' nw' pr' to' fr' sl' a' n' c' l' z w hp wr wr' (by omega) (by omega) (wf_u8.1 w2) (wf_u8.1 w5) (wf_u16.1 wz)
end Go.Proofs.YtcojjhokcebogaaDoor
