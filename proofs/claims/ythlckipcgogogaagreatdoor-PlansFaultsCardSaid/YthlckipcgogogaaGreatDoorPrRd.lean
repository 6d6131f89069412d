import Derived.Test.YthlckipcgogogaaGreatDoorPrSplit
import Derived.Test.YthlckipcgogogaaGreatDoorUnBase
import Derived.Test.YthlckipcgogogaaGreatDoorPlCut
import Derived.Test.YthlckipcgogogaaGreatDoorPlCells
import Derived.Deep.RegionLaw
import Derived.Deep.Cut
/- The reader in memory; readPlace. -/
namespace Go.Proofs.YthlckipcgogogaaGreatDoor
set_option linter.unusedVariables false
open Go.RowKit

def rdCells (vP vL : Value) (p : Pn) (part : Nat) : List Value := [vP, vL, .int .i64 p.rate, .int .i64 p.room, .int .i64 p.m0, .int .i64 p.m1, .int .i64 p.m2, .int .i64 (part : Int)]
/-- The reader at block rb: what it has read so far; its rows lie from B on. -/
structure RdAt (B : Nat) (w : World) (rb : Nat) (vP vL : Value) (p : Pn) (part : Nat) : Prop where
  own : Own w rb 93 (rdCells vP vL p part)
  ps : w.ownsRow B 72 2 vP p.P.length (cellsP p.P)
  ls : w.ownsRow B 76 4 vL p.L.length (cellsL p.L)
  ne : ∀ j, vP.ownBlock = some j → vL.ownBlock ≠ some j
  lt : rb < B
  sz : B ≤ w.heap.size
def RdS (rb : Nat) (vP vL : Value) : Nat → Prop := fun k => k = rb ∨ vP.ownBlock = some k ∨ vL.ownBlock = some k
theorem RdAt.exc {B : Nat} {w w' : World} {rb : Nat} {vP vL : Value} {p : Pn} {part : Nat} {S : Nat → Prop} (h : RdAt B w rb vP vL p part) (hx : Exc S w w') (hS : ∀ k, RdS rb vP vL k → ¬ S k) : RdAt B w' rb vP vL p part :=
  ⟨by unfold Own; rw [hx.block rb h.own.lt (hS rb (.inl rfl))]; exact h.own, ownsK_exc h.ps hx (fun j hj => hS j (.inr (.inl hj))), ownsK_exc h.ls hx (fun j hj => hS j (.inr (.inr hj))), h.ne, h.lt, Nat.le_trans h.sz hx.size⟩
theorem RdAt.below {B : Nat} {w w' : World} {rb : Nat} {vP vL : Value} {p : Pn} {part : Nat} (h : RdAt B w rb vP vL p part) (hb : Below w.heap.size w w') : RdAt B w' rb vP vL p part := h.exc (S := fun _ => False) (Exc.of_below hb) (fun _ _ h => h)
/-- What a line's words leave: the plan read on, or not. -/
def RdOut (B rb : Nat) (vP vL : Value) (part : Nat) (w : World) (r : Option Pn) (e : Ending) (w' : World) : Prop :=
  e = .returned (.bool r.isSome) ∧ Exc (RdS rb vP vL) w w' ∧ ∀ q, r = some q → ∃ vP' vL', RdAt B w' rb vP' vL' q part
theorem Own.exc' {w w' : World} {b t : Nat} {cs : List Value} {S : Nat → Prop} (h : Own w b t cs) (hx : Exc S w w') (hn : ¬ S b) : Own w' b t cs := by
  unfold Own; rw [hx.block b h.lt hn]; exact h
/-- Words in a slice. -/
def WsAt (w : World) (wb wo : Nat) (ws : List (List UInt8)) : Prop := ∀ i, i < ws.length → w.cell? ⟨wb, wo + i, none⟩ = some (.string (bs (ws.getD i [])))
theorem WsAt.exc {w w' : World} {wb wo : Nat} {ws : List (List UInt8)} {S : Nat → Prop} (h : WsAt w wb wo ws) (hx : Exc S w w') (hn : ¬ S wb) : WsAt w' wb wo ws := fun i hi => hx.cell (h i hi) hn
set_option maxHeartbeats 2000000 in
set_option maxRecDepth 100000 in
theorem readPlace_len {B : Nat} {w : World} {rb : Nat} {vP vL : Value} {p : Pn} {part : Nat} (_h : RdAt B w rb vP vL p part) (a : Option Addr) (n c : Nat) (hn : n ≠ 2) :
    Calls Tryz.prog 77 #[.pointer (some ⟨rb, 0, none⟩), .slice a n c] w (RdOut B rb vP vL part w none) := by
  have hne : ((n : Int) != 2) = true := by simp; omega
  have HB : Hid (∀ o, Below w.heap.size w (w.alloc o)) := Lib.hid (fun o => below_alloc w o)
  go_enter Tryz.func77, Tryz.ntmps77
  go_wp2
  go_ret
  exact ⟨rfl, Exc.of_below (HB.out _), fun q hq => by cases hq⟩
set_option maxHeartbeats 2000000 in
set_option maxRecDepth 100000 in
theorem readPlace_two {B : Nat} {w : World} {rb : Nat} {vP vL : Value} {p : Pn} {part : Nat} (h : RdAt B w rb vP vL p part) (wb wo c : Nat) (x y : List UInt8) (hw : WsAt w wb wo [x, y]) (hx : x.length ≤ 1048576) (hP : p.P.length ≤ 1048576) :
    Calls Tryz.prog 77 #[.pointer (some ⟨rb, 0, none⟩), .slice (some ⟨wb, wo, none⟩) 2 c] w (RdOut B rb vP vL part w (placeM p [x, y])) := by
  have H := Lib.hid h
  have o1 : Own (w.alloc (.cells #[.int .u16 0, .bool false] 72)) w.heap.size 72 [.int .u16 0, .bool false] := heap_alloc_new w _
  have HB := Lib.hid (below_alloc w (.cells #[.int .u16 0, .bool false] 72))
  have hwb : wb < w.heap.size := World.block_lt_of_cell? w _ (hw 0 (by simp))
  have hw1 := hw.exc (Exc.of_below (S := fun _ => False) HB.out) (fun h => h)
  have hS := storePoint_any x w.heap.size 0 _ _ _ o1 (by simp) (by omega)
  have c0 := hw1 0 (by simp)
  have c1 := hw1 1 (by simp)
  simp only [List.getD_cons_zero, List.getD_cons_succ, Nat.add_zero] at c0 c1
  have HS := Lib.hid hS
  have HC1 := Lib.hid c1
  have hM : placeM p [x, y] = if parseE x = 0 then (if y = transferW then some { p with P := p.P ++ [((parseN x : Int), true)] } else if y = endW then some { p with P := p.P ++ [((parseN x : Int), false)] } else none) else none := by
    unfold placeM pointO
    by_cases h : parseE x = 0
    · rw [if_pos h]; simp only [h, if_true]
    · rw [if_neg h]; simp only [h, if_false]
  obtain ⟨R, hR⟩ : ∃ R, R = placeM p [x, y] := ⟨_, rfl⟩
  rw [← hR]
  rw [← hR] at hM
  have HR := Lib.hid hM
  clear h hw hw1 hS o1 hM hR
  go_enter Tryz.func77, Tryz.ntmps77
  go_wp2_with fail
  refine HS.out.mono ?_
  rintro e w2 ⟨rfl, ho2, hx2⟩
  have HX2 : Hid (Exc (fun _ => False) w w2) := Lib.hid ((Exc.of_below (S := fun _ => False) HB.out).trans hx2 (fun i hi e => by omega))
  have HO2 := Lib.hid ho2
  have c1 : w2.cell? ⟨wb, wo + 1, none⟩ = some (.string (bs y)) := hx2.cell HC1.out (by show ¬ wb = w.heap.size; omega)
  have H2 := Lib.hid (H.out.exc HX2.out (fun _ _ h => h))
  have hYl : (bs y).toList = y := bs_list y
  have HPx : Hid (rb ≠ w.heap.size) := Lib.hid (by have := H.out.lt; have := H.out.sz; omega)
  have HPb : Hid (B ≤ w.heap.size ∧ w.heap.size < w2.heap.size) := Lib.hid ⟨H.out.sz, HO2.out.lt⟩
  have HWp : Hid (wb ≠ w.heap.size) := Lib.hid (by omega)
  clear hx2 ho2 HC1 HS hwb
  by_cases hE : parseE x = 0
  · have hR := HR.out
    rw [if_pos hE] at hR
    have e0 : (parseE x == 0) = true := by rw [hE]; rfl
    rw [e0]
    have HPv : Hid (parseP x = (parseN x : Int)) := Lib.hid (by unfold parseP; rw [if_pos hE])
    clear e0 hE
    by_cases hT : y = transferW
    · rw [if_pos hT] at hR
      have t1 : (y == [116, 114, 97, 110, 115, 102, 101, 114]) = true := by rw [hT]; rfl
      clear hT
      have HR := Lib.hid hR
      obtain ⟨N, hN⟩ : ∃ N, N = parseP x := ⟨_, rfl⟩
      have HNv := Lib.hid (show N = (parseN x : Int) by rw [hN]; exact HPv.out)
      have hO2 := HO2.out
      change Own w2 w.heap.size 72 [.int .u16 (parseP x), .bool false] at hO2
      rw [← hN] at hO2
      have HO2 := Lib.hid hO2
      have d1 := hO2.cell 1 (by simp)
      have e1 := hO2.frozen 1
      clear hR hN hO2 hx
      go_upto_region 5 with fail
      have HO3 := Lib.hid (HO2.out.set 1 (.bool true))
      have hx3 : Exc (fun k => k = w.heap.size) w2 (w2.setCell ⟨w.heap.size, 1, none⟩ (.bool true)) := (Exc.refl (fun k => k = w.heap.size) w2).setCell ⟨w.heap.size, 1, none⟩ (.inl rfl) _
      have HX3 := Lib.hid (HX2.out.trans (S' := fun k => k = w.heap.size) hx3 (fun i hi e => by omega))
      have H3 := Lib.hid (H2.out.exc hx3 (fun k hk e => by
        subst e
        rcases hk with hk | hk | hk
        · exact HPx.out hk.symm
        · have := (ownsK_lt H.out.ps hk).2; omega
        · have := (ownsK_lt H.out.ls hk).2; omega))
      have HPb3 : Hid (w.heap.size < (w2.setCell ⟨w.heap.size, 1, none⟩ (.bool true)).heap.size) := Lib.hid HO3.out.lt
      clear hx3 d1 e1 c1
      have h3 := H3.out
      have x3 := HX3.out
      have o3 := HO3.out
      have b3 := HPb3.out
      simp only [List.set_cons_succ, List.set_cons_zero] at o3
      generalize w2.setCell ⟨w.heap.size, 1, none⟩ (.bool true) = W at h3 x3 o3 b3 ⊢
      obtain ⟨px, hpx⟩ : ∃ q, q = w.heap.size := ⟨_, rfl⟩
      rw [← hpx] at o3 b3 ⊢
      have hpB : B ≤ px := by rw [hpx]; exact HPb.out.1
      have HX3 := Lib.hid x3
      have hcell0 : W.cell? ⟨rb, 0, none⟩ = some vP := h3.own.cell 0 (by simp [rdCells])
      obtain ⟨g0, g1⟩ : _ ∧ _ := ⟨o3.cell 0 (by simp), o3.cell 1 (by simp)⟩
      simp only [List.getD_cons_zero, List.getD_cons_succ] at g0 g1
      have b4 := below_alloc W (.cells #[.int .u16 N, .bool true] 72)
      have HWa := Lib.hid (ownsK_below h3.ps b4)
      have HWb := Lib.hid (ownsK_below h3.ps b4.drew)
      have HGa := Lib.hid (show Own (W.alloc (.cells #[.int .u16 N, .bool true] 72)) W.heap.size 72 [.int .u16 N, .bool true] from heap_alloc_new W _)
      have HGb := Lib.hid (show Own (W.alloc (.cells #[.int .u16 N, .bool true] 72)).drew W.heap.size 72 [.int .u16 N, .bool true] from heap_alloc_new W _)
      have HRa := Lib.hid (h3.below b4)
      have HRb := Lib.hid (h3.below b4.drew)
      have hcell0a : (W.alloc (.cells #[.int .u16 N, .bool true] 72)).cell? ⟨rb, 0, none⟩ = some vP := HRa.out.own.cell 0 (by simp [rdCells])
      have HXa := Lib.hid (Exc.of_below (S := RdS rb vP vL) b4)
      have HXb := Lib.hid (Exc.of_below (S := RdS rb vP vL) b4.drew)
      have hk9 : p.P.length + 1 ≤ 1099511627776 := by omega
      have HOne := Lib.hid (show ∀ u ∈ ([.int .u16 N, .bool true] : List Value), u.oneCell' = true from fun u hu => by simp at hu; rcases hu with rfl | rfl <;> rfl)
      have HNe := Lib.hid (show ¬ vP.ownBlock = some rb from fun hh => by have h1 := (ownsK_lt h3.ps hh).1; have h2 := h3.lt; omega)
      have HLt := Lib.hid (show ∀ j, vL.ownBlock = some j → j < W.heap.size from fun j hj => (ownsK_lt h3.ls hj).2)
      have HBW := Lib.hid h3.sz
      clear h3 x3 o3 b3 hpx b4 HO3 H3 HPb3
      go_region_law
        (first
          | (refine step_append_agg Tryz.underlying27 infoPl rfl (by decide) (by decide) (by rfl) _ _ (by rfl) B vP p.P.length (cellsP p.P) [.int .u16 N, .bool true] (by rfl) HOne.out (by rfl) (by first | exact HWa.out | exact HWb.out) W.heap.size (by rfl) (by first | exact HGa.out | exact HGb.out) hk9 (by first | exact HRa.out.sz | exact HRb.out.sz) ?_; intro v4 w4 h4 g4; obtain ⟨gx, cx, rfl, _⟩ := ownsK_cells h4 (Nat.succ_pos p.P.length); have ho4 := (by first | exact HRa.out.own.exc' g4.exc HNe.out | exact HRb.out.own.exc' g4.exc HNe.out : Own w4 rb 93 (rdCells vP vL p part)); have hl4 := (by first | exact ownsK_exc HRa.out.ls g4.exc (fun j hj e => HRa.out.ne j e hj) | exact ownsK_exc HRb.out.ls g4.exc (fun j hj e => HRb.out.ne j e hj) : w4.ownsRow B 76 4 vL p.L.length (cellsL p.L)); have hx4 : Exc (RdS rb vP vL) W w4 := (by first | exact HXa.out.trans g4.exc (fun _ _ hh => .inr (.inl hh)) | exact HXb.out.trans g4.exc (fun _ _ hh => .inr (.inl hh))); have hn4 : ∀ j, vL.ownBlock = some j → j ≠ gx := (fun j hj e => (g4.lies gx rfl).elim (fun hh => (by first | exact HRa.out.ne gx hh | exact HRb.out.ne gx hh : vL.ownBlock ≠ some gx) (e ▸ hj)) (fun hh => by have h5 := HLt.out j hj; have h7 := (below_alloc W (.cells #[.int .u16 N, .bool true] 72)).size; have h8 := (below_alloc W (.cells #[.int .u16 N, .bool true] 72)).drew.size; first | omega | (change (W.alloc (.cells #[.int .u16 N, .bool true] 72)).heap.size ≤ gx at hh; omega))); have c4 := ho4.cell 0 (by simp [rdCells]); have f4 := ho4.frozen 0; simp only [rdCells, List.getD_cons_zero] at c4; have HQ4 := Lib.hid h4; have HO4 := Lib.hid ho4; have HL4 := Lib.hid hl4; have HX4 := Lib.hid hx4; have HN4 := Lib.hid hn4; clear h4 g4 ho4 hl4 hx4 hn4)
          | fail)
      all_goals
        have HS5 := Lib.hid (HO4.out.set 0 (.slice (some ⟨gx, 0, none⟩) (p.P.length + 1) cx))
        have hxs := (Exc.refl (fun q => q = rb) w4).setCell ⟨rb, 0, none⟩ (.inl rfl) (.slice (some ⟨gx, 0, none⟩) (p.P.length + 1) cx)
        have HP5 := Lib.hid (ownsK_exc HQ4.out hxs (fun j hj e => by have h1 := (ownsK_lt HQ4.out hj).1; have h2 := H.out.lt; omega))
        have HL5 := Lib.hid (ownsK_exc HL4.out hxs (fun j hj e => by have h1 := (ownsK_lt HL4.out hj).1; have h2 := H.out.lt; omega))
        have HX5 := Lib.hid ((HX4.out.trans (S' := RdS rb vP vL) (hxs.weak (fun _ _ h => .inl h)) (fun _ _ h => h)))
        have HZ5 : Hid (B ≤ (w4.setCell ⟨rb, 0, none⟩ (.slice (some ⟨gx, 0, none⟩) (p.P.length + 1) cx)).heap.size) := Lib.hid (Nat.le_trans HBW.out HX5.out.size)
        clear hxs c4 f4
        go_wp2_with fail
        go_ret
        refine ⟨by rw [HR.out]; rfl, (HX3.out.weak (S' := RdS rb vP vL) (fun _ _ h => h.elim)).trans HX5.out (fun _ _ h => h), fun q hq => ?_⟩
        rw [HR.out] at hq
        obtain rfl := Option.some.inj hq
        refine ⟨.slice (some ⟨gx, 0, none⟩) (p.P.length + 1) cx, vL, HS5.out, ?_, HL5.out, fun j hj e => HN4.out j e (by simpa [Value.ownBlock] using hj.symm), H.out.lt, HZ5.out⟩
        rw [← HNv.out, List.length_append, cellsP_append]
        exact HP5.out
    · rw [if_neg hT] at hR
      have t1 : (y == [116, 114, 97, 110, 115, 102, 101, 114]) = false := beq_eq_false_iff_ne.2 hT
      by_cases hE2 : y = endW
      · rw [if_pos hE2] at hR
        have t2 : (y == [101, 110, 100]) = true := by rw [hE2]; rfl
        clear hE2 hT
        have HR := Lib.hid hR
        obtain ⟨N, hN⟩ : ∃ N, N = parseP x := ⟨_, rfl⟩
        have HNv := Lib.hid (show N = (parseN x : Int) by rw [hN]; exact HPv.out)
        have hO2 := HO2.out
        change Own w2 w.heap.size 72 [.int .u16 (parseP x), .bool false] at hO2
        rw [← hN] at hO2
        have HO2 := Lib.hid hO2
        have d1 := hO2.cell 1 (by simp)
        have e1 := hO2.frozen 1
        clear hR hN hO2 hx
        go_upto_region 5 with fail
        have HO3 := Lib.hid (HO2.out.set 1 (.bool false))
        have hx3 : Exc (fun k => k = w.heap.size) w2 (w2.setCell ⟨w.heap.size, 1, none⟩ (.bool false)) := (Exc.refl (fun k => k = w.heap.size) w2).setCell ⟨w.heap.size, 1, none⟩ (.inl rfl) _
        have HX3 := Lib.hid (HX2.out.trans (S' := fun k => k = w.heap.size) hx3 (fun i hi e => by omega))
        have H3 := Lib.hid (H2.out.exc hx3 (fun k hk e => by
          subst e
          rcases hk with hk | hk | hk
          · exact HPx.out hk.symm
          · have := (ownsK_lt H.out.ps hk).2; omega
          · have := (ownsK_lt H.out.ls hk).2; omega))
        have HPb3 : Hid (w.heap.size < (w2.setCell ⟨w.heap.size, 1, none⟩ (.bool false)).heap.size) := Lib.hid HO3.out.lt
        clear hx3 d1 e1 c1
        have h3 := H3.out
        have x3 := HX3.out
        have o3 := HO3.out
        have b3 := HPb3.out
        simp only [List.set_cons_succ, List.set_cons_zero] at o3
        generalize w2.setCell ⟨w.heap.size, 1, none⟩ (.bool false) = W at h3 x3 o3 b3 ⊢
        obtain ⟨px, hpx⟩ : ∃ q, q = w.heap.size := ⟨_, rfl⟩
        rw [← hpx] at o3 b3 ⊢
        have hpB : B ≤ px := by rw [hpx]; exact HPb.out.1
        have HX3 := Lib.hid x3
        have hcell0 : W.cell? ⟨rb, 0, none⟩ = some vP := h3.own.cell 0 (by simp [rdCells])
        obtain ⟨g0, g1⟩ : _ ∧ _ := ⟨o3.cell 0 (by simp), o3.cell 1 (by simp)⟩
        simp only [List.getD_cons_zero, List.getD_cons_succ] at g0 g1
        have b4 := below_alloc W (.cells #[.int .u16 N, .bool false] 72)
        have HWa := Lib.hid (ownsK_below h3.ps b4)
        have HWb := Lib.hid (ownsK_below h3.ps b4.drew)
        have HGa := Lib.hid (show Own (W.alloc (.cells #[.int .u16 N, .bool false] 72)) W.heap.size 72 [.int .u16 N, .bool false] from heap_alloc_new W _)
        have HGb := Lib.hid (show Own (W.alloc (.cells #[.int .u16 N, .bool false] 72)).drew W.heap.size 72 [.int .u16 N, .bool false] from heap_alloc_new W _)
        have HRa := Lib.hid (h3.below b4)
        have HRb := Lib.hid (h3.below b4.drew)
        have hcell0a : (W.alloc (.cells #[.int .u16 N, .bool false] 72)).cell? ⟨rb, 0, none⟩ = some vP := HRa.out.own.cell 0 (by simp [rdCells])
        have HXa := Lib.hid (Exc.of_below (S := RdS rb vP vL) b4)
        have HXb := Lib.hid (Exc.of_below (S := RdS rb vP vL) b4.drew)
        have hk9 : p.P.length + 1 ≤ 1099511627776 := by omega
        have HOne := Lib.hid (show ∀ u ∈ ([.int .u16 N, .bool false] : List Value), u.oneCell' = true from fun u hu => by simp at hu; rcases hu with rfl | rfl <;> rfl)
        have HNe := Lib.hid (show ¬ vP.ownBlock = some rb from fun hh => by have h1 := (ownsK_lt h3.ps hh).1; have h2 := h3.lt; omega)
        have HLt := Lib.hid (show ∀ j, vL.ownBlock = some j → j < W.heap.size from fun j hj => (ownsK_lt h3.ls hj).2)
        have HBW := Lib.hid h3.sz
        clear h3 x3 o3 b3 hpx b4 HO3 H3 HPb3
        go_region_law
          (first
            | (refine step_append_agg Tryz.underlying27 infoPl rfl (by decide) (by decide) (by rfl) _ _ (by rfl) B vP p.P.length (cellsP p.P) [.int .u16 N, .bool false] (by rfl) HOne.out (by rfl) (by first | exact HWa.out | exact HWb.out) W.heap.size (by rfl) (by first | exact HGa.out | exact HGb.out) hk9 (by first | exact HRa.out.sz | exact HRb.out.sz) ?_; intro v4 w4 h4 g4; obtain ⟨gx, cx, rfl, _⟩ := ownsK_cells h4 (Nat.succ_pos p.P.length); have ho4 := (by first | exact HRa.out.own.exc' g4.exc HNe.out | exact HRb.out.own.exc' g4.exc HNe.out : Own w4 rb 93 (rdCells vP vL p part)); have hl4 := (by first | exact ownsK_exc HRa.out.ls g4.exc (fun j hj e => HRa.out.ne j e hj) | exact ownsK_exc HRb.out.ls g4.exc (fun j hj e => HRb.out.ne j e hj) : w4.ownsRow B 76 4 vL p.L.length (cellsL p.L)); have hx4 : Exc (RdS rb vP vL) W w4 := (by first | exact HXa.out.trans g4.exc (fun _ _ hh => .inr (.inl hh)) | exact HXb.out.trans g4.exc (fun _ _ hh => .inr (.inl hh))); have hn4 : ∀ j, vL.ownBlock = some j → j ≠ gx := (fun j hj e => (g4.lies gx rfl).elim (fun hh => (by first | exact HRa.out.ne gx hh | exact HRb.out.ne gx hh : vL.ownBlock ≠ some gx) (e ▸ hj)) (fun hh => by have h5 := HLt.out j hj; have h7 := (below_alloc W (.cells #[.int .u16 N, .bool false] 72)).size; have h8 := (below_alloc W (.cells #[.int .u16 N, .bool false] 72)).drew.size; first | omega | (change (W.alloc (.cells #[.int .u16 N, .bool false] 72)).heap.size ≤ gx at hh; omega))); have c4 := ho4.cell 0 (by simp [rdCells]); have f4 := ho4.frozen 0; simp only [rdCells, List.getD_cons_zero] at c4; have HQ4 := Lib.hid h4; have HO4 := Lib.hid ho4; have HL4 := Lib.hid hl4; have HX4 := Lib.hid hx4; have HN4 := Lib.hid hn4; clear h4 g4 ho4 hl4 hx4 hn4)
            | fail)
        all_goals
          have HS5 := Lib.hid (HO4.out.set 0 (.slice (some ⟨gx, 0, none⟩) (p.P.length + 1) cx))
          have hxs := (Exc.refl (fun q => q = rb) w4).setCell ⟨rb, 0, none⟩ (.inl rfl) (.slice (some ⟨gx, 0, none⟩) (p.P.length + 1) cx)
          have HP5 := Lib.hid (ownsK_exc HQ4.out hxs (fun j hj e => by have h1 := (ownsK_lt HQ4.out hj).1; have h2 := H.out.lt; omega))
          have HL5 := Lib.hid (ownsK_exc HL4.out hxs (fun j hj e => by have h1 := (ownsK_lt HL4.out hj).1; have h2 := H.out.lt; omega))
          have HX5 := Lib.hid ((HX4.out.trans (S' := RdS rb vP vL) (hxs.weak (fun _ _ h => .inl h)) (fun _ _ h => h)))
          have HZ5 : Hid (B ≤ (w4.setCell ⟨rb, 0, none⟩ (.slice (some ⟨gx, 0, none⟩) (p.P.length + 1) cx)).heap.size) := Lib.hid (Nat.le_trans HBW.out HX5.out.size)
          clear hxs c4 f4
          go_wp2_with fail
          go_ret
          refine ⟨by rw [HR.out]; rfl, (HX3.out.weak (S' := RdS rb vP vL) (fun _ _ h => h.elim)).trans HX5.out (fun _ _ h => h), fun q hq => ?_⟩
          rw [HR.out] at hq
          obtain rfl := Option.some.inj hq
          refine ⟨.slice (some ⟨gx, 0, none⟩) (p.P.length + 1) cx, vL, HS5.out, ?_, HL5.out, fun j hj e => HN4.out j e (by simpa [Value.ownBlock] using hj.symm), H.out.lt, HZ5.out⟩
          rw [← HNv.out, List.length_append, cellsP_append]
          exact HP5.out
      · rw [if_neg hE2] at hR
        have t2 : (y == [101, 110, 100]) = false := beq_eq_false_iff_ne.2 hE2
        have HR := Lib.hid hR
        clear hT hE2 hR
        go_wp2
        go_ret
        exact ⟨by rw [HR.out]; rfl, HX2.out.weak (fun _ _ h => h.elim), fun q hq => by rw [HR.out] at hq; cases hq⟩
  · have hR := HR.out
    rw [if_neg hE] at hR
    have HR := Lib.hid hR
    have e0 : (parseE x == 0) = false := beq_eq_false_iff_ne.2 hE
    rw [e0]
    clear e0 hE hR
    go_wp2
    go_ret
    exact ⟨by rw [HR.out]; rfl, HX2.out.weak (fun _ _ h => h.elim), fun q hq => by rw [HR.out] at hq; cases hq⟩
end Go.Proofs.YthlckipcgogogaaGreatDoor
