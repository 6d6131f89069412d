import Derived.Test.YthlckipcgogogaaGreatDoorPrRd
/- readLine. -/
namespace Go.Proofs.YthlckipcgogogaaGreatDoor
set_option linter.unusedVariables false
open Go.RowKit

set_option maxHeartbeats 2000000 in
set_option maxRecDepth 100000 in
theorem readLine_len {B : Nat} {w : World} {rb : Nat} {vP vL : Value} (part : Nat) (a : Option Addr) (n c : Nat) (hn : n ≠ 4) :
    Calls Tryz.prog 78 #[.pointer (some ⟨rb, 0, none⟩), .slice a n c] w (RdOut B rb vP vL part w none) := by
  have hne : ((n : Int) != 4) = true := by simp; omega
  have HB : Hid (∀ o o2, Below w.heap.size w ((w.alloc o).alloc o2)) := Lib.hid (fun o o2 => (below_alloc w o).trans ((below_alloc _ o2).mono (by rw [World.size_alloc]; omega)))
  go_enter Tryz.func78, Tryz.ntmps78
  go_wp2
  go_ret
  exact ⟨rfl, Exc.of_below (HB.out _ _), fun q hq => by cases hq⟩
theorem stN_exc {w : World} {ps : Nat → Addr} {vs : Nat → Int} {S : Nat → Prop} : ∀ k, (∀ i, i < k → S (ps i).block) → Exc S w (stN w ps vs k)
  | 0, _ => Exc.refl _ _
  | k + 1, h => (stN_exc k (fun i hi => h i (by omega))).setCell (ps k) (.inl (h k (by omega))) _
theorem lineM_eq (p : Pn) (x y z u : List UInt8) : lineM p [x, y, z, u] = if parseE x = 0 ∧ parseE y = 0 ∧ numS z = true ∧ numS u = true ∧ numV z ≤ 255 then some { p with L := p.L ++ [⟨(parseN x : Nat), (parseN y : Nat), (numV z : Nat), (numV u : Nat)⟩] } else none := by
  unfold lineM pointO numO
  by_cases h1 : parseE x = 0
  · by_cases h2 : parseE y = 0
    · by_cases h3 : numS z = true
      · by_cases h4 : numS u = true
        · by_cases h5 : numV z ≤ 255 <;> simp [h1, h2, h3, h4, h5]
        · simp [h1, h2, h4]
      · simp [h1, h2, h3]
    · simp [h1, h2]
  · simp [h1]
set_option maxHeartbeats 4000000 in
set_option maxRecDepth 100000 in
/-- The line's points stored, or not. -/
theorem readLine_four {B : Nat} {w : World} {rb : Nat} {vP vL : Value} {p : Pn} {part : Nat} (h : RdAt B w rb vP vL p part) (wb wo c : Nat) (x y z u : List UInt8) (hw : WsAt w wb wo [x, y, z, u]) (hl : x.length ≤ 1048576 ∧ y.length ≤ 1048576 ∧ z.length ≤ 1048576 ∧ u.length ≤ 1048576) (hP : p.L.length ≤ 1048576) (hc : 4 ≤ c ∧ c ≤ 1048577 ∧ wo ≤ 1) :
    Calls Tryz.prog 78 #[.pointer (some ⟨rb, 0, none⟩), .slice (some ⟨wb, wo, none⟩) 4 c] w (RdOut B rb vP vL part w (lineM p [x, y, z, u])) := by
  have H := Lib.hid h
  have o1 : Own (w.alloc (.cells #[.int .u16 0, .int .u16 0, .int .u8 0, .int .i64 0] 76)) w.heap.size 76 [.int .u16 0, .int .u16 0, .int .u8 0, .int .i64 0] := heap_alloc_new w _
  have o2 := heap_alloc_new (w.alloc (.cells #[.int .u16 0, .int .u16 0, .int .u8 0, .int .i64 0] 76)) (.cells #[.int .i64 0] 3)
  rw [World.size_alloc] at o2
  obtain ⟨W, hW⟩ : ∃ q, q = (w.alloc (.cells #[.int .u16 0, .int .u16 0, .int .u8 0, .int .i64 0] 76)).alloc (.cells #[.int .i64 0] 3) := ⟨_, rfl⟩
  have b1 : Below w.heap.size w W := by rw [hW]; exact (below_alloc w _).trans ((below_alloc _ _).mono (by rw [World.size_alloc]; omega))
  have o1 : Own W w.heap.size 76 [.int .u16 0, .int .u16 0, .int .u8 0, .int .i64 0] := by rw [hW]; exact o1.below (below_alloc _ _) o1.lt
  have o2 : Own W (w.heap.size + 1) 3 [.int .i64 0] := by rw [hW]; exact o2
  have hwb : wb < w.heap.size := World.block_lt_of_cell? w _ (hw 0 (by simp))
  have hw1 := hw.exc (Exc.of_below (S := fun _ => False) b1) (fun h => h)
  have hS := storePoint_any x w.heap.size 0 _ _ _ o1 (by simp) (by omega)
  have c0 := hw1 0 (by simp)
  have c1 := hw1 1 (by simp)
  simp only [List.getD_cons_zero, List.getD_cons_succ, Nat.add_zero] at c0 c1
  have HS := Lib.hid hS
  have HW1 := Lib.hid hw1
  have HO1 := Lib.hid (And.intro o1 o2)
  have HB := Lib.hid b1
  have HL := Lib.hid hl
  have HC := Lib.hid hc
  obtain ⟨R, hR⟩ : ∃ R, R = lineM p [x, y, z, u] := ⟨_, rfl⟩
  rw [← hR]
  have HR := Lib.hid hR
  have HWs := Lib.hid hW
  clear h hw hw1 hS o1 o2 b1 hR hl hc
  rw [hW] at c0 c1
  have hWb := hwb
  go_enter Tryz.func78, Tryz.ntmps78
  go_wp2_with fail
  rw [← hW]
  refine HS.out.mono ?_
  rintro e w2 ⟨rfl, ho2, hx2⟩
  have HX2 : Hid (Exc (fun k => k = w.heap.size) W w2) := Lib.hid hx2
  have HO2 := Lib.hid ho2
  have HC2 := Lib.hid (HO1.out.2.exc' hx2 (by omega))
  have HWn : Hid (wb ≠ w.heap.size ∧ wb ≠ w.heap.size + 1) := Lib.hid ⟨by omega, by omega⟩
  have HW2 := Lib.hid (HW1.out.exc hx2 (by omega))
  have HRm : Hid (R = lineM p [x, y, z, u]) := HR
  have HZ : Hid (∀ v, Exc (fun k => w.heap.size ≤ k) w v → RdOut B rb vP vL part w none (.returned (.bool false)) v) := Lib.hid (fun v hv => ⟨rfl, Exc.of_below (hv.below (Nat.le_refl _) (fun i _ hi => hi)), fun q hq => by cases hq⟩)
  have HX2w : Hid (Exc (fun k => w.heap.size ≤ k) w w2) := Lib.hid ((Exc.of_below (S := fun k => w.heap.size ≤ k) HB.out).trans hx2 (fun i hi e => by omega))
  clear hx2 ho2 HS HW1 HO1 hwb hWb c0 c1
  by_cases hE : parseE x = 0
  rotate_left
  · have hN : R = none := by rw [HR.out, lineM_eq, if_neg (fun h => hE h.1)]
    have HN := Lib.hid hN
    have e0 : (parseE x == 0) = false := beq_eq_false_iff_ne.2 hE
    rw [e0]
    clear e0 hE hN
    go_wp2
    go_ret
    rw [HN.out]
    exact HZ.out _ HX2w.out
  have HEx := Lib.hid hE
  have e0 : (parseE x == 0) = true := by rw [hE]; rfl
  rw [e0]
  have c1 := HW2.out 1 (by simp)
  simp only [List.getD_cons_zero, List.getD_cons_succ] at c1
  have hS2 := storePoint_any y w.heap.size 1 _ _ w2 HO2.out (by simp) (by have := HL.out; omega)
  have HS2 := Lib.hid hS2
  clear e0 hE hS2
  go_wp2_with fail
  refine HS2.out.mono ?_
  rintro e w3 ⟨rfl, ho3, hx3⟩
  have HO3 := Lib.hid ho3
  have HC3 := Lib.hid (HC2.out.exc' hx3 (by omega))
  have HW3 := Lib.hid (HW2.out.exc hx3 HWn.out.1)
  have HX3w : Hid (Exc (fun k => w.heap.size ≤ k) w w3) := Lib.hid (HX2w.out.trans hx3 (fun i hi e => by omega))
  clear hx3 ho3 HS2 c1
  by_cases hE : parseE y = 0
  rotate_left
  · have hN : R = none := by rw [HR.out, lineM_eq, if_neg (fun h => hE h.2.1)]
    have HN := Lib.hid hN
    have e0 : (parseE y == 0) = false := beq_eq_false_iff_ne.2 hE
    rw [e0]
    clear e0 hE hN
    go_wp2
    go_ret
    rw [HN.out]
    exact HZ.out _ HX3w.out
  have HEy := Lib.hid hE
  have e0 : (parseE y == 0) = true := by rw [hE]; rfl
  rw [e0]
  have hc := HC.out
  clear e0 hE
  go_wp2_with fail
  obtain ⟨W5, hW5⟩ : ∃ q, q = w3.alloc (.cells #[.pointer (some ⟨w.heap.size + 1, 0, none⟩), .pointer (some ⟨w.heap.size, 3, none⟩)] 135) := ⟨_, rfl⟩
  rw [← hW5]
  have hp5 : Own W5 w3.heap.size 135 [.pointer (some ⟨w.heap.size + 1, 0, none⟩), .pointer (some ⟨w.heap.size, 3, none⟩)] := by rw [hW5]; exact heap_alloc_new w3 _
  have hb5 : Below w3.heap.size w3 W5 := by rw [hW5]; exact below_alloc w3 _
  have ho5 := HO3.out.below hb5 HO3.out.lt
  have hc5 := HC3.out.below hb5 HC3.out.lt
  have hw5 := HW3.out.exc (Exc.of_below (S := fun _ => False) hb5) (fun h => h)
  have hlt3 : w.heap.size < w3.heap.size ∧ w.heap.size + 1 < w3.heap.size := ⟨HO3.out.lt, HC3.out.lt⟩
  obtain ⟨ps, hps⟩ : ∃ ps : Nat → Addr, ps = fun i => if i = 0 then ⟨w.heap.size + 1, 0, none⟩ else ⟨w.heap.size, 3, none⟩ := ⟨_, rfl⟩
  obtain ⟨ws, hws⟩ : ∃ ws : Nat → List UInt8, ws = fun i => if i = 0 then z else u := ⟨_, rfl⟩
  have hex : ∀ k, k ≤ 2 → Exc (fun i => i = w.heap.size ∨ i = w.heap.size + 1) W5 (stN W5 ps (fun i => (numV (ws i) : Int)) k) := fun k hk => stN_exc k (fun i hi => by
    rw [hps]
    by_cases h : i = 0
    · exact .inr (by simp [h])
    · exact .inl (by simp [h]))
  have hq0 : ps 0 = ⟨w.heap.size + 1, 0, none⟩ := by rw [hps]; rfl
  have hq1 : ps 1 = ⟨w.heap.size, 3, none⟩ := by rw [hps]; rfl
  have hr0 : ws 0 = z := by rw [hws]; rfl
  have hr1 : ws 1 = u := by rw [hws]; rfl
  have hsn := storeNumbers_any 2 (c - 2) 2 wb (wo + 2) w3.heap.size ws ps W5 (by omega)
    (fun k j hk hj => (hex k hk).cell (by
      rcases (show j = 0 ∨ j = 1 by omega) with rfl | rfl
      · rw [hr0]; exact hw5 2 (by simp)
      · rw [hr1]; exact hw5 3 (by simp)) (by have := HWn.out; show ¬ (wb = w.heap.size ∨ wb = w.heap.size + 1); omega))
    (fun k j hk hj => (hex k hk).cell (by
      rcases (show j = 0 ∨ j = 1 by omega) with rfl | rfl
      · rw [hq0]; exact hp5.cell 0 (by simp)
      · rw [hq1]; exact hp5.cell 1 (by simp)) (by show ¬ (w3.heap.size = w.heap.size ∨ w3.heap.size = w.heap.size + 1); omega))
    (fun k hk => by
      rcases (show k = 0 ∨ k = 1 by omega) with rfl | rfl
      · rw [hq0]; exact ⟨⟨_, hc5.cell 0 (by simp)⟩, hc5.frozen 0⟩
      · rw [hq1]
        have h1 : stN W5 ps (fun i => (numV (ws i) : Int)) 1 = W5.setCell ⟨w.heap.size + 1, 0, none⟩ (.int .i64 (numV z : Int)) := by show W5.setCell (ps 0) (.int .i64 (numV (ws 0) : Int)) = _; rw [hq0, hr0]
        rw [h1]
        have h2 := ho5.other ⟨w.heap.size + 1, 0, none⟩ (by show w.heap.size ≠ w.heap.size + 1; omega) (.int .i64 (numV z : Int))
        exact ⟨⟨_, h2.cell 3 (by simp)⟩, h2.frozen 3⟩)
    (fun j hj => by
      have := HL.out
      rcases (show j = 0 ∨ j = 1 by omega) with rfl | rfl
      · rw [hr0]; omega
      · rw [hr1]; omega)
  have hall : allN ws 2 = (numS z && numS u) := by simp [allN, hr0, hr1]
  have hst : stN W5 ps (fun i => (numV (ws i) : Int)) 2 = (W5.setCell ⟨w.heap.size + 1, 0, none⟩ (.int .i64 (numV z : Int))).setCell ⟨w.heap.size, 3, none⟩ (.int .i64 (numV u : Int)) := by
    show (W5.setCell (ps 0) (.int .i64 (numV (ws 0) : Int))).setCell (ps 1) (.int .i64 (numV (ws 1) : Int)) = _
    rw [hq0, hq1, hr0, hr1]
  rw [hall] at hsn
  have HX5w : Hid (Exc (fun k => w.heap.size ≤ k) w W5) := Lib.hid (HX3w.out.trans (Exc.of_below (S := fun k => w.heap.size ≤ k) hb5) (fun i hi e => e))
  have HSn := Lib.hid hsn
  have HSt := Lib.hid hst
  have HEx5 : Hid (∀ k, k ≤ 2 → Exc (fun k => w.heap.size ≤ k) w (stN W5 ps (fun i => (numV (ws i) : Int)) k)) := Lib.hid (fun k hk => HX5w.out.trans (hex k hk) (fun i hi e => by rcases e with e | e <;> omega))
  have HO5 := Lib.hid (And.intro ho5 hc5)
  clear hsn hst hex hps hws hq0 hq1 hr0 hr1 hw5 hc5 ho5 hb5 hp5 hlt3 hall
  refine HSn.out.mono ?_
  rintro e w6 ⟨rfl, hy6, k6, hk6, hw6⟩
  have HX6w : Hid (Exc (fun k => w.heap.size ≤ k) w w6) := Lib.hid (by rw [hw6]; exact HEx5.out k6 hk6)
  clear hw6 hk6
  by_cases hN : numS z = true ∧ numS u = true
  rotate_left
  · have hR := HR.out
    rw [lineM_eq, if_neg (fun h => hN ⟨h.2.2.1, h.2.2.2.1⟩)] at hR
    have HN := Lib.hid hR
    have e0 : (numS z && numS u) = false := by cases h1 : numS z <;> cases h2 : numS u <;> simp_all
    rw [e0]
    clear e0 hN hR hy6
    go_wp2
    go_ret
    rw [HN.out]
    exact HZ.out _ HX6w.out
  have e0 : (numS z && numS u) = true := by rw [hN.1, hN.2]; rfl
  have hw6 := hy6 e0
  rw [e0]
  rw [HSt.out] at hw6
  have HW6 := Lib.hid hw6
  have HNn := Lib.hid hN
  obtain ⟨A, hA⟩ : ∃ N, N = parseP x := ⟨_, rfl⟩
  obtain ⟨C, hC⟩ : ∃ N, N = parseP y := ⟨_, rfl⟩
  obtain ⟨K, hK⟩ : ∃ N : Int, N = (numV z : Int) := ⟨_, rfl⟩
  obtain ⟨D, hD⟩ : ∃ N : Int, N = (numV u : Int) := ⟨_, rfl⟩
  have ho6 : Own w6 w.heap.size 76 [.int .u16 A, .int .u16 C, .int .u8 0, .int .i64 D] := by
    rw [HW6.out, hA, hC, hD]
    exact (HO5.out.1.other ⟨w.heap.size + 1, 0, none⟩ (by show w.heap.size ≠ w.heap.size + 1; omega) _).set 3 (.int .i64 (numV u : Int))
  have hc6 : Own w6 (w.heap.size + 1) 3 [.int .i64 K] := by
    rw [HW6.out, hK]
    exact (HO5.out.2.set 0 (.int .i64 (numV z : Int))).other ⟨w.heap.size, 3, none⟩ (by show w.heap.size + 1 ≠ w.heap.size; omega) _
  have HVal := Lib.hid (show A = (parseN x : Int) ∧ C = (parseN y : Int) ∧ K = (numV z : Int) ∧ D = (numV u : Int) from ⟨by rw [hA]; unfold parseP; rw [if_pos HEx.out], by rw [hC]; unfold parseP; rw [if_pos HEy.out], hK, hD⟩)
  have t6 := hc6.cell 0 (by simp)
  simp only [List.getD_cons_zero] at t6
  have d2 := ho6.cell 2 (by simp)
  have e2 := ho6.frozen 2
  simp only [List.getD_cons_zero, List.getD_cons_succ] at d2
  have hK0 : 0 ≤ K := by rw [hK]; omega
  have HO6 := Lib.hid ho6
  have hR := HR.out
  rw [lineM_eq] at hR
  have H6 : Hid (RdAt B w6 rb vP vL p part) := Lib.hid (H.out.exc HX6w.out (fun k hk hh => by
    rcases hk with hk | hk | hk
    · have h1 := H.out.lt; have h2 := H.out.sz; omega
    · have h1 := (ownsK_lt H.out.ps hk).2; omega
    · have h1 := (ownsK_lt H.out.ls hk).2; omega))
  by_cases hbig : 255 < K
  · have hNo : R = none := by rw [hR, if_neg (fun h => by have h5 := h.2.2.2.2; omega)]
    have HN := Lib.hid hNo
    clear hR hNo hw6 hy6 e0 hN hA hC hK hD ho6 hc6 d2 e2
    go_wp2
    go_ret
    rw [HN.out]
    exact HZ.out _ HX6w.out
  have hR2 : R = some { p with L := p.L ++ [⟨A, C, K, D⟩] } := by rw [hR, if_pos ⟨HEx.out, HEy.out, HNn.out.1, HNn.out.2, by omega⟩, HVal.out.1, HVal.out.2.1, HVal.out.2.2.1, HVal.out.2.2.2]
  have HR2 := Lib.hid hR2
  have hKw : IntKind.u8.wrap K = K := by rw [IntKind.wrap_u8]; omega
  clear hR hR2 hw6 hy6 e0 hA hC hK hD ho6 hc6 hN
  go_upto_region 8 with fail
  have HO7 := Lib.hid (HO6.out.set 2 (.int .u8 K))
  have hx7 : Exc (fun k => w.heap.size ≤ k) w6 (w6.setCell ⟨w.heap.size, 2, none⟩ (.int .u8 K)) := (Exc.refl (fun k => w.heap.size ≤ k) w6).setCell ⟨w.heap.size, 2, none⟩ (.inl (Nat.le_refl _)) _
  have HX7 := Lib.hid (HX6w.out.trans hx7 (fun i hi e => e))
  have H7 := Lib.hid (H.out.exc HX7.out (fun k hk hh => by
    rcases hk with hk | hk | hk
    · have h1 := H.out.lt; have h2 := H.out.sz; omega
    · have h1 := (ownsK_lt H.out.ps hk).2; omega
    · have h1 := (ownsK_lt H.out.ls hk).2; omega))
  clear hx7 d2 e2 t6
  have h3 := H7.out
  have x3 := HX7.out
  have o3 := HO7.out
  simp only [List.set_cons_succ, List.set_cons_zero] at o3
  generalize w6.setCell ⟨w.heap.size, 2, none⟩ (.int .u8 K) = W9 at h3 x3 o3 ⊢
  have HX9 := Lib.hid x3
  have hcell1 : W9.cell? ⟨rb, 1, none⟩ = some vL := h3.own.cell 1 (by simp [rdCells])
  obtain ⟨g0, g1, g2, g3⟩ : _ ∧ _ ∧ _ ∧ _ := ⟨o3.cell 0 (by simp), o3.cell 1 (by simp), o3.cell 2 (by simp), o3.cell 3 (by simp)⟩
  simp only [List.getD_cons_zero, List.getD_cons_succ] at g0 g1 g2 g3
  have b4 := below_alloc W9 (.cells #[.int .u16 A, .int .u16 C, .int .u8 K, .int .i64 D] 76)
  have HWa := Lib.hid (ownsK_below h3.ls b4)
  have HWb := Lib.hid (ownsK_below h3.ls b4.drew)
  have HGa := Lib.hid (show Own (W9.alloc (.cells #[.int .u16 A, .int .u16 C, .int .u8 K, .int .i64 D] 76)) W9.heap.size 76 [.int .u16 A, .int .u16 C, .int .u8 K, .int .i64 D] from heap_alloc_new W9 _)
  have HGb := Lib.hid (show Own (W9.alloc (.cells #[.int .u16 A, .int .u16 C, .int .u8 K, .int .i64 D] 76)).drew W9.heap.size 76 [.int .u16 A, .int .u16 C, .int .u8 K, .int .i64 D] from heap_alloc_new W9 _)
  have HRa := Lib.hid (h3.below b4)
  have HRb := Lib.hid (h3.below b4.drew)
  have hcell1a : (W9.alloc (.cells #[.int .u16 A, .int .u16 C, .int .u8 K, .int .i64 D] 76)).cell? ⟨rb, 1, none⟩ = some vL := HRa.out.own.cell 1 (by simp [rdCells])
  have HXa := Lib.hid (Exc.of_below (S := RdS rb vP vL) b4)
  have HXb := Lib.hid (Exc.of_below (S := RdS rb vP vL) b4.drew)
  have hk9 : p.L.length + 1 ≤ 1099511627776 := by omega
  have HOne := Lib.hid (show ∀ u ∈ ([.int .u16 A, .int .u16 C, .int .u8 K, .int .i64 D] : List Value), u.oneCell' = true from fun u hu => by simp at hu; rcases hu with rfl | rfl | rfl | rfl <;> rfl)
  have HNe := Lib.hid (show ¬ vL.ownBlock = some rb from fun hh => by have h1 := (ownsK_lt h3.ls hh).1; have h2 := h3.lt; omega)
  have HLt := Lib.hid (show ∀ j, vP.ownBlock = some j → j < W9.heap.size from fun j hj => (ownsK_lt h3.ps hj).2)
  have HBW := Lib.hid h3.sz
  clear h3 x3 o3 b4 HO7 H7 hK0 hbig hKw
  go_region_law
    (first
      | (refine step_append_agg Tryz.underlying28 infoLn rfl (by decide) (by decide) (by rfl) _ _ (by rfl) B vL p.L.length (cellsL p.L) [.int .u16 A, .int .u16 C, .int .u8 K, .int .i64 D] (by rfl) HOne.out (by rfl) (by first | exact HWa.out | exact HWb.out) W9.heap.size (by rfl) (by first | exact HGa.out | exact HGb.out) hk9 (by first | exact HRa.out.sz | exact HRb.out.sz) ?_; intro v4 w4 h4 g4; obtain ⟨gx, cx, rfl, _⟩ := ownsK_cells h4 (Nat.succ_pos p.L.length); have ho4 := (by first | exact HRa.out.own.exc' g4.exc HNe.out | exact HRb.out.own.exc' g4.exc HNe.out : Own w4 rb 93 (rdCells vP vL p part)); have hl4 := (by first | exact ownsK_exc HRa.out.ps g4.exc (fun j hj e => HRa.out.ne j hj e) | exact ownsK_exc HRb.out.ps g4.exc (fun j hj e => HRb.out.ne j hj e) : w4.ownsRow B 72 2 vP p.P.length (cellsP p.P)); have hx4 : Exc (RdS rb vP vL) W9 w4 := (by first | exact HXa.out.trans g4.exc (fun _ _ hh => .inr (.inr hh)) | exact HXb.out.trans g4.exc (fun _ _ hh => .inr (.inr hh))); have hn4 : ∀ j, vP.ownBlock = some j → j ≠ gx := (fun j hj e => (g4.lies gx rfl).elim (fun hh => (by first | exact HRa.out.ne j hj | exact HRb.out.ne j hj : vL.ownBlock ≠ some j) (e ▸ hh)) (fun hh => by have h5 := HLt.out j hj; have h7 := (below_alloc W9 (.cells #[.int .u16 A, .int .u16 C, .int .u8 K, .int .i64 D] 76)).size; have h8 := (below_alloc W9 (.cells #[.int .u16 A, .int .u16 C, .int .u8 K, .int .i64 D] 76)).drew.size; first | omega | (change (W9.alloc (.cells #[.int .u16 A, .int .u16 C, .int .u8 K, .int .i64 D] 76)).heap.size ≤ gx at hh; omega))); have c4 := ho4.cell 1 (by simp [rdCells]); have f4 := ho4.frozen 1; simp only [rdCells, List.getD_cons_zero, List.getD_cons_succ] at c4; have HQ4 := Lib.hid h4; have HO4 := Lib.hid ho4; have HL4 := Lib.hid hl4; have HX4 := Lib.hid hx4; have HN4 := Lib.hid hn4; clear h4 g4 ho4 hl4 hx4 hn4)
      | fail)
  all_goals
    have HS5 := Lib.hid (HO4.out.set 1 (.slice (some ⟨gx, 0, none⟩) (p.L.length + 1) cx))
    have hxs := (Exc.refl (fun q => q = rb) w4).setCell ⟨rb, 1, none⟩ (.inl rfl) (.slice (some ⟨gx, 0, none⟩) (p.L.length + 1) cx)
    have HP5 := Lib.hid (ownsK_exc HQ4.out hxs (fun j hj e => by have h1 := (ownsK_lt HQ4.out hj).1; have h2 := H.out.lt; omega))
    have HL5 := Lib.hid (ownsK_exc HL4.out hxs (fun j hj e => by have h1 := (ownsK_lt HL4.out hj).1; have h2 := H.out.lt; omega))
    have HX5 := Lib.hid ((HX4.out.trans (S' := RdS rb vP vL) (hxs.weak (fun _ _ h => .inl h)) (fun _ _ h => h)))
    have HZ5 : Hid (B ≤ (w4.setCell ⟨rb, 1, none⟩ (.slice (some ⟨gx, 0, none⟩) (p.L.length + 1) cx)).heap.size) := Lib.hid (Nat.le_trans HBW.out HX5.out.size)
    clear hxs c4 f4
    go_wp2_with fail
    go_ret
    refine ⟨by rw [HR2.out]; rfl, (Exc.of_below (S := RdS rb vP vL) (HX9.out.below (Nat.le_refl _) (fun i _ hi => hi))).trans HX5.out (fun _ _ h => h), fun q hq => ?_⟩
    rw [HR2.out] at hq
    obtain rfl := Option.some.inj hq
    refine ⟨vP, .slice (some ⟨gx, 0, none⟩) (p.L.length + 1) cx, HS5.out, HL5.out, ?_, fun j hj e => HN4.out j hj (by simpa [Value.ownBlock] using e.symm), H.out.lt, HZ5.out⟩
    rw [List.length_append, cellsL_append]
    exact HP5.out
end Go.Proofs.YthlckipcgogogaaGreatDoor
