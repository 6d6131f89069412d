import Derived.Test.YthlckipcgogogaaGreatDoorPrRl
import Derived.Deep.RegionHeld3
/- read: one line of a text. -/
namespace Go.Proofs.YthlckipcgogogaaGreatDoor
set_option linter.unusedVariables false
open Go.RowKit

theorem placeM_len {p : Pn} {r : List (List UInt8)} (h : r.length ≠ 2) : placeM p r = none := by
  unfold placeM
  split
  · simp at h
  · rfl
theorem lineM_len {p : Pn} {r : List (List UInt8)} (h : r.length ≠ 4) : lineM p r = none := by
  unfold lineM
  split
  · simp at h
  · rfl
theorem len2 {r : List (List UInt8)} (h : r.length = 2) : ∃ x y, r = [x, y] := by
  match r, h with
  | [x, y], _ => exact ⟨x, y, rfl⟩
theorem len4 {r : List (List UInt8)} (h : r.length = 4) : ∃ x y z u, r = [x, y, z, u] := by
  match r, h with
  | [x, y, z, u], _ => exact ⟨x, y, z, u, rfl⟩
theorem mem_unw_len : ∀ (ws : List (List UInt8)) (x : List UInt8), x ∈ ws → x.length ≤ (unw ws).length
  | [], x, h => by cases h
  | [w], x, h => by
    simp only [List.mem_singleton] at h
    subst h
    exact Nat.le_refl _
  | w :: v :: ws, x, h => by
    have h2 : (unw (w :: v :: ws)).length = w.length + 1 + (unw (v :: ws)).length := by simp [unw]; omega
    rw [h2]
    rcases List.mem_cons.1 h with h | h
    · subst h; omega
    · have := mem_unw_len (v :: ws) x h
      omega
/-- The words behind the first one: their slice. -/
structure RsAt (w : World) (a : Option Addr) (wb : Nat) (n : Nat) (r : List (List UInt8)) : Prop where
  len : r.length = n
  at' : 0 < n → a = some ⟨wb, 1, none⟩ ∧ WsAt w wb 1 r
  small : ∀ x ∈ r, x.length ≤ 1048576
  le : n ≤ 1048577
theorem RsAt.exc {w w' : World} {a : Option Addr} {wb n : Nat} {r : List (List UInt8)} {S : Nat → Prop} (h : RsAt w a wb n r) (hx : Exc S w w') (hn : ¬ S wb) : RsAt w' a wb n r := ⟨h.len, fun h0 => ⟨(h.at' h0).1, (h.at' h0).2.exc hx hn⟩, h.small, h.le⟩
theorem readPlace_any {B : Nat} {w : World} {rb : Nat} {vP vL : Value} {p : Pn} {part : Nat} (h : RdAt B w rb vP vL p part) {a : Option Addr} {wb n : Nat} {r : List (List UInt8)} (hr : RsAt w a wb n r) (hP : p.P.length ≤ 1048576) :
    Calls Tryz.prog 77 #[.pointer (some ⟨rb, 0, none⟩), .slice a n n] w (RdOut B rb vP vL part w (placeM p r)) := by
  by_cases h2 : n = 2
  · subst h2
    obtain ⟨x, y, rfl⟩ := len2 hr.len
    obtain ⟨rfl, hw⟩ := hr.at' (by decide)
    exact readPlace_two h wb 1 2 x y hw (hr.small x (by simp)) hP
  · rw [placeM_len (by rw [hr.len]; exact h2)]
    exact readPlace_len h a n n h2
theorem readLine_any {B : Nat} {w : World} {rb : Nat} {vP vL : Value} {p : Pn} {part : Nat} (h : RdAt B w rb vP vL p part) {a : Option Addr} {wb n : Nat} {r : List (List UInt8)} (hr : RsAt w a wb n r) (hP : p.L.length ≤ 1048576) :
    Calls Tryz.prog 78 #[.pointer (some ⟨rb, 0, none⟩), .slice a n n] w (RdOut B rb vP vL part w (lineM p r)) := by
  by_cases h2 : n = 4
  · subst h2
    obtain ⟨x, y, z, u, rfl⟩ := len4 hr.len
    obtain ⟨rfl, hw⟩ := hr.at' (by decide)
    exact readLine_four h wb 1 4 x y z u hw ⟨hr.small x (by simp), hr.small y (by simp), hr.small z (by simp), hr.small u (by simp)⟩ hP ⟨by omega, by omega, by omega⟩
  · rw [lineM_len (by rw [hr.len]; exact h2)]
    exact readLine_len part a n n h2
/-- enter, over the reader. -/
theorem enter_rd {B : Nat} {w : World} {rb : Nat} {vP vL : Value} {p : Pn} {part : Nat} (h : RdAt B w rb vP vL p part) (q : Nat) (hq : q ≤ 4) (hp : part ≤ 4) :
    Calls Tryz.prog 76 #[.pointer (some ⟨rb, 0, none⟩), .int .i64 (q : Int)] w fun e w' => e = .returned (.bool (entB part q)) ∧ RdAt B w' rb vP vL p q ∧ Exc (fun k => k = rb) w w' :=
  (enter_any q part rb _ _ w h.own rfl rfl hq hp).mono fun _ _ ⟨he, ho, hx⟩ =>
    ⟨he, ⟨ho, ownsK_exc h.ps hx (fun j hj e => by have h1 := (ownsK_lt h.ps hj).1; have h2 := h.lt; omega), ownsK_exc h.ls hx (fun j hj e => by have h1 := (ownsK_lt h.ls hj).1; have h2 := h.lt; omega), h.ne, h.lt, Nat.le_trans h.sz hx.size⟩, hx⟩
/-- storeNumbers into fields of the reader that stand side by side. -/
theorem storeR {B : Nat} {w : World} {rb : Nat} {vP vL : Value} {p : Pn} {part : Nat} (h : RdAt B w rb vP vL p part) {A : Option Addr} {wb n : Nat} {r : List (List UInt8)} (hr : RsAt w A wb n r) (hwb : wb ≠ rb) (pq idx m : Nat) (hq : pq ≠ rb) (hm : 0 < m ∧ m ≤ 3 ∧ idx + m ≤ 8)
    (hpq : ∀ i, i < m → w.cell? ⟨pq, i, none⟩ = some (.pointer (some ⟨rb, idx + i, none⟩))) :
    Calls Tryz.prog 79 #[.slice A n n, .slice (some ⟨pq, 0, none⟩) m m] w fun e w' => e = .returned (.bool (decide (n = m) && allN (fun i => r.getD i []) m)) ∧ Exc (fun k => k = rb) w w' ∧
      ((decide (n = m) && allN (fun i => r.getD i []) m) = true → w' = stN w (fun i => ⟨rb, idx + i, none⟩) (fun i => (numV (r.getD i []) : Int)) m) := by
  by_cases hn : n = m
  · subst hn
    obtain ⟨rfl, hw⟩ := hr.at' hm.1
    have hx : ∀ k, Exc (fun k => k = rb) w (stN w (fun i => ⟨rb, idx + i, none⟩) (fun i => (numV (r.getD i []) : Int)) k) := fun k => stN_exc k (fun i _ => rfl)
    have hown : ∀ k, k ≤ n → ∃ cs, cs.length = 8 ∧ Own (stN w (fun i => ⟨rb, idx + i, none⟩) (fun i => (numV (r.getD i []) : Int)) k) rb 93 cs := by
      intro k
      induction k with
      | zero => exact fun _ => ⟨_, rfl, h.own⟩
      | succ k ih =>
        intro hk
        obtain ⟨cs, h1, h2⟩ := ih (by omega)
        exact ⟨_, by rw [List.length_set]; exact h1, h2.set (idx + k) (.int .i64 (numV (r.getD k []) : Int))⟩
    refine (storeNumbers_any n n n wb 1 pq (fun i => r.getD i []) (fun i => ⟨rb, idx + i, none⟩) w (by omega) (fun k j hk hj => (hx k).cell (hw j (by rw [hr.len]; exact hj)) hwb) (fun k j hk hj => (hx k).cell (hpq j hj) hq)
      (fun k hk => by
        obtain ⟨cs, h1, h2⟩ := hown k (by omega)
        exact ⟨⟨_, h2.cell (idx + k) (by omega)⟩, h2.frozen (idx + k)⟩)
      (fun j hj => by
        have h1 : r.getD j [] ∈ r := by rw [List.getD_eq_getElem?_getD, List.getElem?_eq_getElem (by rw [hr.len]; exact hj)]; exact List.getElem_mem _
        have := hr.small _ h1
        omega)).mono ?_
    rintro e w' ⟨rfl, h1, k, _, h2⟩
    rw [decide_eq_true rfl, Bool.true_and]
    exact ⟨rfl, by rw [h2]; exact hx k, h1⟩
  · refine (storeNumbers_len A (some ⟨pq, 0, none⟩) n n m m w hn).mono ?_
    rintro e w' ⟨rfl, rfl⟩
    rw [decide_eq_false hn, Bool.false_and]
    exact ⟨rfl, Exc.refl _ _, fun h => by cases h⟩
theorem len1 {r : List (List UInt8)} (h : r.length = 1) : ∃ x, r = [x] := by
  match r, h with
  | [x], _ => exact ⟨x, rfl⟩
theorem len3 {r : List (List UInt8)} (h : r.length = 3) : ∃ x y z, r = [x, y, z] := by
  match r, h with
  | [x, y, z], _ => exact ⟨x, y, z, rfl⟩
theorem elemW : Tryz.prog.elem 46 = 9 := by kernel_rfl
theorem undW : Tryz.prog.underlying 46 = some (.slice (Tryz.prog.elem 46)) := by rw [elemW]; exact Tryz.underlying46
theorem sizeW_run (w : World) : (sizeOf 9).run Tryz.prog w = .ok 1 w := by kernel_rfl
/-- words[1:], one equation with a letter. -/
theorem cutW (b n : Nat) (hn : n ≤ 1048576) : ∃ A : Option Addr, (∀ W, (Instr.slice 46 (.slice (some ⟨b, 0, none⟩) (n + 1) (n + 1)) (some (.int .i64 1)) none none).run Tryz.prog W = .ok (.slice A n n) W) ∧
    (∀ W, (Instr.sliceAt 46 (.slice (some ⟨b, 0, none⟩) (n + 1) (n + 1)) (some (.int .i64 1)) none none).run Tryz.prog W = .ok (.slice A n n) W) ∧ (0 < n → A = some ⟨b, 1, none⟩) := by
  have key : ∀ W, (Instr.slice 46 (.slice (some ⟨b, 0, none⟩) (n + 1) (n + 1)) (some (.int .i64 1)) none none).run Tryz.prog W = .ok (.slice (if n + 1 = 1 then some ⟨b, 0, none⟩ else some ⟨b, 1, none⟩) n n) W := by
    intro W
    rw [run_slice_l W 46 _ _ _ undW .i64 (1 : Int) (by omega) (by omega), elemW, sizeW_run]
    by_cases h : n = 0
    · simp [sliced, Result.andThen, h]
    · simp [sliced, Result.andThen, h, Addr.add]
  exact ⟨_, key, fun W => by rw [run_sliceAt_slice _ _ _ _ _ _ undW]; exact key W, fun h => if_neg (by omega)⟩
/-- The outcome of a line. -/
def RdOut2 (B rb : Nat) (vP vL : Value) (w : World) (r : Option (Pn × Nat)) (e : Ending) (w' : World) : Prop :=
  e = .returned (.bool r.isSome) ∧ Exc (RdS rb vP vL) w w' ∧ ∀ q part, r = some (q, part) → ∃ vP' vL', RdAt B w' rb vP' vL' q part
set_option maxHeartbeats 4000000 in
set_option maxRecDepth 100000 in
theorem read_any {B : Nat} {w : World} {rb : Nat} {vP vL : Value} {p : Pn} {part : Nat} (h : RdAt B w rb vP vL p part) (hpart : part ≤ 4) (c : List UInt8) (hc : c.length ≤ 1048576) (hP : p.P.length ≤ 1048576) (hL : p.L.length ≤ 1048576) :
    Calls Tryz.prog 38 #[.pointer (some ⟨rb, 0, none⟩), .string (bs c)] w (RdOut2 B rb vP vL w (stepM p part c)) := by
  have H := Lib.hid h
  have HSp := Lib.hid (words_any c w hc)
  obtain ⟨w0, r, hwd⟩ : ∃ w0 r, wds c = w0 :: r := by
    cases hq : wds c with
    | nil => exact absurd hq (wds_ne c)
    | cons a b => exact ⟨a, b, rfl⟩
  have hwl : (wds c).length = r.length + 1 := by rw [hwd]; rfl
  have hlen : r.length ≤ 1048576 := by have h1 := wds_length c; have h2 := List.count_le_length (a := (32 : UInt8)) (l := c); omega
  obtain ⟨R, hR⟩ : ∃ R, R = stepM p part c := ⟨_, rfl⟩
  rw [← hR]
  have HR := Lib.hid hR
  have HWd := Lib.hid hwd
  have HP := Lib.hid (And.intro hP (And.intro hL hpart))
  have ho : Own (w.alloc (.cells ((wds c).map fun x => Value.string (bs x)).toArray 9)) w.heap.size 9 ((wds c).map fun x => Value.string (bs x)) := heap_alloc_new w _
  have HO := Lib.hid ho
  have hb := below_alloc w (.cells ((wds c).map fun x => Value.string (bs x)).toArray 9)
  have HB := Lib.hid hb
  rw [hwl] at HSp
  obtain ⟨W, hW⟩ : ∃ W, W = w.alloc (.cells ((wds c).map fun x => Value.string (bs x)).toArray 9) := ⟨_, rfl⟩
  rw [← hW] at HSp HO HB
  obtain ⟨n, hn⟩ : ∃ n, n = r.length := ⟨_, rfl⟩
  rw [← hn] at HSp hlen
  have HN := Lib.hid hn
  clear h hR hwd hP hL hpart ho hb hW hwl hn
  go_enter Tryz.func38, Tryz.ntmps38
  go_wp2_with fail
  refine HSp.out.mono ?_
  rintro e w' ⟨rfl, hw⟩
  subst hw
  have c0 := HO.out.cell 0 (by rw [HWd.out]; simp)
  rw [HWd.out] at c0
  simp only [List.map_cons, List.getD_cons_zero] at c0
  obtain ⟨A, hA1, hA2, hA⟩ := cutW w.heap.size n hlen
  have hrs : RsAt w' A w.heap.size n r := ⟨HN.out.symm, fun h0 => ⟨hA h0, fun i hi => by
    have h1 := HO.out.cell (1 + i) (by rw [HWd.out]; simp; omega)
    rw [HWd.out] at h1
    rw [h1, List.map_cons, Nat.add_comm 1 i, List.getD_cons_succ, List.getD_eq_getElem?_getD, List.getD_eq_getElem?_getD, List.getElem?_map, List.getElem?_eq_getElem hi]
    rfl⟩, fun x hx => by
    have h1 := mem_unw_len (wds c) x (by rw [HWd.out]; exact List.mem_cons_of_mem _ hx)
    rw [unw_wds] at h1
    omega, by omega⟩
  have HRs := Lib.hid hrs
  have hl0 : (bs w0).toList = w0 := bs_list w0
  have HB2 := Lib.hid (Exc.of_below (S := RdS rb vP vL) HB.out)
  have H2 := Lib.hid (H.out.below HB.out)
  have HNb : Hid (¬ RdS rb vP vL w.heap.size) := Lib.hid (fun hk => by
    rcases hk with hk | hk | hk
    · have h1 := H.out.lt; have h2 := H.out.sz; omega
    · have h1 := (ownsK_lt H.out.ps hk).2; omega
    · have h1 := (ownsK_lt H.out.ls hk).2; omega)
  have HSz := Lib.hid hlen
  clear hrs hA hlen HSp HO
  by_cases k0 : w0 = placeW
  · have e0 : (w0 == [112, 108, 97, 99, 101]) = true := by rw [k0]; rfl
    have HK0 := Lib.hid k0
    clear k0
    have HE := Lib.hid (enter_rd H2.out 0 (by omega) HP.out.2.2)
    go_wp2_with fail
    refine HE.out.mono ?_
    rintro e w2 ⟨rfl, hr2, hx2⟩
    have H3 := Lib.hid hr2
    have HX3 := Lib.hid (HB2.out.trans (S' := RdS rb vP vL) (hx2.weak (fun _ _ h => .inl h)) (fun _ _ h => h))
    have HRs3 := Lib.hid (HRs.out.exc hx2 (fun h => HNb.out (.inl h)))
    clear hr2 hx2
    by_cases hle : part ≤ 0
    · have e9 : entB part 0 = true := by simp [entB, hle]
      rw [e9]
      have hR2 : R = (placeM p r).map fun q => (q, 0) := by rw [HR.out]; unfold stepM; rw [HWd.out]; simp only []; rw [if_pos HK0.out, if_pos hle]
      have HR2 := Lib.hid hR2
      have HC := Lib.hid (readPlace_any H3.out HRs3.out HP.out.1)
      clear e9 hle hR2
      go_wp2_with fail
      refine HC.out.mono ?_
      rintro e w3 ⟨rfl, hx4, hq4⟩
      have HX4 := Lib.hid (HX3.out.trans hx4 (fun _ _ h => h))
      have HQ4 := Lib.hid hq4
      obtain ⟨M, hM⟩ : ∃ M, M = placeM p r := ⟨_, rfl⟩
      rw [← hM] at HQ4 HR2 ⊢
      clear hx4 hq4 hM
      cases M
      · go_wp2
        go_ret
        rw [HR2.out]
        exact ⟨rfl, HX4.out, fun q part hq => by cases hq⟩
      · rename_i M
        go_wp2
        go_ret
        rw [HR2.out]
        refine ⟨rfl, HX4.out, fun q part hq => ?_⟩
        obtain ⟨rfl, rfl⟩ := Prod.mk.inj (Option.some.inj hq)
        exact HQ4.out _ rfl
    · have e9 : entB part 0 = false := by simp [entB, hle]
      rw [e9]
      have hno : R = none := by rw [HR.out]; unfold stepM; rw [HWd.out]; simp only []; rw [if_pos HK0.out, if_neg hle]
      have HNo := Lib.hid hno
      clear hno hle e9
      go_wp2
      go_ret
      rw [HNo.out]
      exact ⟨rfl, HX3.out, fun q part hq => by cases hq⟩
  have e0 : (w0 == [112, 108, 97, 99, 101]) = false := beq_eq_false_iff_ne.2 k0
  have HK0 := Lib.hid k0
  clear k0
  by_cases k1 : w0 = lineW
  · have e1 : (w0 == [108, 105, 110, 101]) = true := by rw [k1]; rfl
    have HK1 := Lib.hid k1
    clear k1
    have HE := Lib.hid (enter_rd H2.out 1 (by omega) HP.out.2.2)
    go_wp2_with fail
    refine HE.out.mono ?_
    rintro e w2 ⟨rfl, hr2, hx2⟩
    have H3 := Lib.hid hr2
    have HX3 := Lib.hid (HB2.out.trans (S' := RdS rb vP vL) (hx2.weak (fun _ _ h => .inl h)) (fun _ _ h => h))
    have HRs3 := Lib.hid (HRs.out.exc hx2 (fun h => HNb.out (.inl h)))
    clear hr2 hx2
    by_cases hle : part ≤ 1
    · have e9 : entB part 1 = true := by simp [entB, hle]
      rw [e9]
      have hR2 : R = (lineM p r).map fun q => (q, 1) := by rw [HR.out]; unfold stepM; rw [HWd.out]; simp only []; rw [if_neg HK0.out]; rw [if_pos HK1.out, if_pos hle]
      have HR2 := Lib.hid hR2
      have HC := Lib.hid (readLine_any H3.out HRs3.out HP.out.2.1)
      clear e9 hle hR2
      go_wp2_with fail
      refine HC.out.mono ?_
      rintro e w3 ⟨rfl, hx4, hq4⟩
      have HX4 := Lib.hid (HX3.out.trans hx4 (fun _ _ h => h))
      have HQ4 := Lib.hid hq4
      obtain ⟨M, hM⟩ : ∃ M, M = lineM p r := ⟨_, rfl⟩
      rw [← hM] at HQ4 HR2 ⊢
      clear hx4 hq4 hM
      cases M
      · go_wp2
        go_ret
        rw [HR2.out]
        exact ⟨rfl, HX4.out, fun q part hq => by cases hq⟩
      · rename_i M
        go_wp2
        go_ret
        rw [HR2.out]
        refine ⟨rfl, HX4.out, fun q part hq => ?_⟩
        obtain ⟨rfl, rfl⟩ := Prod.mk.inj (Option.some.inj hq)
        exact HQ4.out _ rfl
    · have e9 : entB part 1 = false := by simp [entB, hle]
      rw [e9]
      have hno : R = none := by rw [HR.out]; unfold stepM; rw [HWd.out]; simp only []; rw [if_neg HK0.out]; rw [if_pos HK1.out, if_neg hle]
      have HNo := Lib.hid hno
      clear hno hle e9
      go_wp2
      go_ret
      rw [HNo.out]
      exact ⟨rfl, HX3.out, fun q part hq => by cases hq⟩
  have e1 : (w0 == [108, 105, 110, 101]) = false := beq_eq_false_iff_ne.2 k1
  have HK1 := Lib.hid k1
  clear k1
  by_cases k2 : w0 = rateW
  · have e2 : (w0 == [114, 97, 116, 101]) = true := by rw [k2]; rfl
    have HK2 := Lib.hid k2
    clear k2
    have HE := Lib.hid (enter_rd H2.out 2 (by omega) HP.out.2.2)
    go_wp2_with fail
    refine HE.out.mono ?_
    rintro e w2 ⟨rfl, hr2, hx2⟩
    have H3 := Lib.hid hr2
    have HX3 := Lib.hid (HB2.out.trans (S' := RdS rb vP vL) (hx2.weak (fun _ _ h => .inl h)) (fun _ _ h => h))
    have HRs3 := Lib.hid (HRs.out.exc hx2 (fun h => HNb.out (.inl h)))
    clear hr2 hx2
    by_cases hle : part < 2
    · have e9 : entB part 2 = true := by simp [entB, hle]
      rw [e9]
      have HLe := Lib.hid hle
      have b3 := below_alloc w2 (.cells #[.pointer (some ⟨rb, 2, none⟩)] 135)
      have hpq : Own (w2.alloc (.cells #[.pointer (some ⟨rb, 2, none⟩)] 135)) w2.heap.size 135 [.pointer (some ⟨rb, 2, none⟩)] := heap_alloc_new w2 _
      have h4 := H3.out.below b3
      have hrb := H3.out.own.lt
      have HC := Lib.hid (storeR h4 (HRs3.out.exc (Exc.of_below (S := fun _ => False) b3) (fun h => h)) (fun e => HNb.out (.inl e)) w2.heap.size 2 1 (by omega) ⟨by omega, by omega, by omega⟩ (fun i hi => by
        obtain rfl : i = 0 := by omega
        exact hpq.cell 0 (by simp)))
      have H4 := Lib.hid h4
      have HB3 := Lib.hid (Exc.of_below (S := RdS rb vP vL) b3)
      clear e9 hle b3 hpq h4 hrb
      go_wp2_with fail
      refine HC.out.mono ?_
      rintro e w3 ⟨rfl, hx4, hw3⟩
      have HX4 := Lib.hid ((HX3.out.trans HB3.out (fun _ _ h => h)).trans (S' := RdS rb vP vL) (hx4.weak (fun _ _ h => .inl h)) (fun _ _ h => h))
      by_cases hok : (decide (n = 1) && allN (fun i => r.getD i []) 1) = true
      · have hw4 := hw3 hok
        rw [hok]
        have hn1 : n = 1 ∧ allN (fun i => r.getD i []) 1 = true := by simpa using hok
        obtain ⟨a, ha⟩ := len1 (r := r) (by rw [← HN.out]; exact hn1.1)
        have hns : numS a = true := by have h1 := hn1.2; rw [ha] at h1; simpa [allN] using h1
        have hR2 : R = some ({ p with rate := (numV a : Int) }, 2) := by rw [HR.out]; unfold stepM; rw [HWd.out]; simp only []; rw [if_neg HK0.out]; rw [if_neg HK1.out]; rw [if_pos HK2.out, if_pos HLe.out, ha]; simp [numO, hns]
        have HR2 := Lib.hid hR2
        have hw5 : w3 = (w2.alloc (.cells #[.pointer (some ⟨rb, 2, none⟩)] 135)).setCell ⟨rb, 2, none⟩ (.int .i64 (numV a : Int)) := by rw [hw4, ha]; rfl
        have HW5 := Lib.hid hw5
        clear hok hw3 hw4 hx4 hn1 ha hns hR2 hw5
        go_wp2
        go_ret
        rw [HR2.out]
        refine ⟨rfl, HX4.out, fun q part hq => ?_⟩
        obtain ⟨rfl, rfl⟩ := Prod.mk.inj (Option.some.inj hq)
        have hxs : Exc (fun k => k = rb) (w2.alloc (.cells #[.pointer (some ⟨rb, 2, none⟩)] 135)) w3 := by rw [HW5.out]; exact (Exc.refl (fun k => k = rb) _).setCell ⟨rb, 2, none⟩ (.inl rfl) _
        refine ⟨vP, vL, ⟨?_, ownsK_exc H4.out.ps hxs (fun j hj e => by have h1 := (ownsK_lt H4.out.ps hj).1; have h2 := H.out.lt; omega), ownsK_exc H4.out.ls hxs (fun j hj e => by have h1 := (ownsK_lt H4.out.ls hj).1; have h2 := H.out.lt; omega), H.out.ne, H.out.lt, Nat.le_trans H4.out.sz hxs.size⟩⟩
        rw [HW5.out]
        exact H4.out.own.set 2 (.int .i64 (numV a : Int))
      · have hok2 : (decide (n = 1) && allN (fun i => r.getD i []) 1) = false := by simpa using hok
        have hno : R = none := by
          rw [HR.out]; unfold stepM; rw [HWd.out]; simp only []; rw [if_neg HK0.out]; rw [if_neg HK1.out]; rw [if_pos HK2.out, if_pos HLe.out]
          split
          · rename_i a
            have hns : numS a = false := by rw [HN.out] at hok2; simpa [allN] using hok2
            simp [numO, hns]
          · rfl
        rw [hok2]
        have HNo := Lib.hid hno
        clear hno hok hok2 hw3 hx4
        go_wp2
        go_ret
        rw [HNo.out]
        exact ⟨rfl, HX4.out, fun q part hq => by cases hq⟩
    · have e9 : entB part 2 = false := by simp [entB]; omega
      rw [e9]
      have hno : R = none := by rw [HR.out]; unfold stepM; rw [HWd.out]; simp only []; rw [if_neg HK0.out]; rw [if_neg HK1.out]; rw [if_pos HK2.out, if_neg hle]
      have HNo := Lib.hid hno
      clear hno hle e9
      go_wp2
      go_ret
      rw [HNo.out]
      exact ⟨rfl, HX3.out, fun q part hq => by cases hq⟩
  have e2 : (w0 == [114, 97, 116, 101]) = false := beq_eq_false_iff_ne.2 k2
  have HK2 := Lib.hid k2
  clear k2
  by_cases k3 : w0 = roomW
  · have e3 : (w0 == [114, 111, 111, 109]) = true := by rw [k3]; rfl
    have HK3 := Lib.hid k3
    clear k3
    have HE := Lib.hid (enter_rd H2.out 3 (by omega) HP.out.2.2)
    go_wp2_with fail
    refine HE.out.mono ?_
    rintro e w2 ⟨rfl, hr2, hx2⟩
    have H3 := Lib.hid hr2
    have HX3 := Lib.hid (HB2.out.trans (S' := RdS rb vP vL) (hx2.weak (fun _ _ h => .inl h)) (fun _ _ h => h))
    have HRs3 := Lib.hid (HRs.out.exc hx2 (fun h => HNb.out (.inl h)))
    clear hr2 hx2
    by_cases hle : part = 2
    · have e9 : entB part 3 = true := by simp [entB, hle]
      rw [e9]
      have HLe := Lib.hid hle
      have b3 := below_alloc w2 (.cells #[.pointer (some ⟨rb, 3, none⟩)] 135)
      have hpq : Own (w2.alloc (.cells #[.pointer (some ⟨rb, 3, none⟩)] 135)) w2.heap.size 135 [.pointer (some ⟨rb, 3, none⟩)] := heap_alloc_new w2 _
      have h4 := H3.out.below b3
      have hrb := H3.out.own.lt
      have HC := Lib.hid (storeR h4 (HRs3.out.exc (Exc.of_below (S := fun _ => False) b3) (fun h => h)) (fun e => HNb.out (.inl e)) w2.heap.size 3 1 (by omega) ⟨by omega, by omega, by omega⟩ (fun i hi => by
        obtain rfl : i = 0 := by omega
        exact hpq.cell 0 (by simp)))
      have H4 := Lib.hid h4
      have HB3 := Lib.hid (Exc.of_below (S := RdS rb vP vL) b3)
      clear e9 hle b3 hpq h4 hrb
      go_wp2_with fail
      refine HC.out.mono ?_
      rintro e w3 ⟨rfl, hx4, hw3⟩
      have HX4 := Lib.hid ((HX3.out.trans HB3.out (fun _ _ h => h)).trans (S' := RdS rb vP vL) (hx4.weak (fun _ _ h => .inl h)) (fun _ _ h => h))
      by_cases hok : (decide (n = 1) && allN (fun i => r.getD i []) 1) = true
      · have hw4 := hw3 hok
        rw [hok]
        have hn1 : n = 1 ∧ allN (fun i => r.getD i []) 1 = true := by simpa using hok
        obtain ⟨a, ha⟩ := len1 (r := r) (by rw [← HN.out]; exact hn1.1)
        have hns : numS a = true := by have h1 := hn1.2; rw [ha] at h1; simpa [allN] using h1
        have hR2 : R = some ({ p with room := (numV a : Int) }, 3) := by rw [HR.out]; unfold stepM; rw [HWd.out]; simp only []; rw [if_neg HK0.out]; rw [if_neg HK1.out]; rw [if_neg HK2.out]; rw [if_pos HK3.out, if_pos HLe.out, ha]; simp [numO, hns]
        have HR2 := Lib.hid hR2
        have hw5 : w3 = (w2.alloc (.cells #[.pointer (some ⟨rb, 3, none⟩)] 135)).setCell ⟨rb, 3, none⟩ (.int .i64 (numV a : Int)) := by rw [hw4, ha]; rfl
        have HW5 := Lib.hid hw5
        clear hok hw3 hw4 hx4 hn1 ha hns hR2 hw5
        go_wp2
        go_ret
        rw [HR2.out]
        refine ⟨rfl, HX4.out, fun q part hq => ?_⟩
        obtain ⟨rfl, rfl⟩ := Prod.mk.inj (Option.some.inj hq)
        have hxs : Exc (fun k => k = rb) (w2.alloc (.cells #[.pointer (some ⟨rb, 3, none⟩)] 135)) w3 := by rw [HW5.out]; exact (Exc.refl (fun k => k = rb) _).setCell ⟨rb, 3, none⟩ (.inl rfl) _
        refine ⟨vP, vL, ⟨?_, ownsK_exc H4.out.ps hxs (fun j hj e => by have h1 := (ownsK_lt H4.out.ps hj).1; have h2 := H.out.lt; omega), ownsK_exc H4.out.ls hxs (fun j hj e => by have h1 := (ownsK_lt H4.out.ls hj).1; have h2 := H.out.lt; omega), H.out.ne, H.out.lt, Nat.le_trans H4.out.sz hxs.size⟩⟩
        rw [HW5.out]
        exact H4.out.own.set 3 (.int .i64 (numV a : Int))
      · have hok2 : (decide (n = 1) && allN (fun i => r.getD i []) 1) = false := by simpa using hok
        have hno : R = none := by
          rw [HR.out]; unfold stepM; rw [HWd.out]; simp only []; rw [if_neg HK0.out]; rw [if_neg HK1.out]; rw [if_neg HK2.out]; rw [if_pos HK3.out, if_pos HLe.out]
          split
          · rename_i a
            have hns : numS a = false := by rw [HN.out] at hok2; simpa [allN] using hok2
            simp [numO, hns]
          · rfl
        rw [hok2]
        have HNo := Lib.hid hno
        clear hno hok hok2 hw3 hx4
        go_wp2
        go_ret
        rw [HNo.out]
        exact ⟨rfl, HX4.out, fun q part hq => by cases hq⟩
    · have e9 : entB part 3 = false := by simp [entB]; omega
      rw [e9]
      have hno : R = none := by rw [HR.out]; unfold stepM; rw [HWd.out]; simp only []; rw [if_neg HK0.out]; rw [if_neg HK1.out]; rw [if_neg HK2.out]; rw [if_pos HK3.out, if_neg hle]
      have HNo := Lib.hid hno
      clear hno hle e9
      go_wp2
      go_ret
      rw [HNo.out]
      exact ⟨rfl, HX3.out, fun q part hq => by cases hq⟩
  have e3 : (w0 == [114, 111, 111, 109]) = false := beq_eq_false_iff_ne.2 k3
  have HK3 := Lib.hid k3
  clear k3
  by_cases k4 : w0 = marksW
  · have e4 : (w0 == [109, 97, 114, 107, 115]) = true := by rw [k4]; rfl
    have HK4 := Lib.hid k4
    clear k4
    have hdb : Below w'.heap.size w' w'.drew := below_draw w' 1
    have hd := H2.out.below hdb
    have hE : Calls Tryz.prog 76 #[.pointer (some ⟨rb, 0, none⟩), .int .i64 4] w'.drew fun e w'' => e = .returned (.bool (entB part 4)) ∧ RdAt B w'' rb vP vL p 4 ∧ Exc (fun k => k = rb) w'.drew w'' := enter_rd hd 4 (by omega) HP.out.2.2
    have HE := Lib.hid hE
    clear hE
    have HXd := Lib.hid (HB2.out.trans (Exc.of_below (S := RdS rb vP vL) hdb) (fun _ _ h => h))
    have HRsd := Lib.hid (HRs.out.exc (Exc.of_below (S := fun _ => False) hdb) (fun h => h))
    clear hd hdb
    go_upto_region 14 with fail
    by_cases hle : part = 3
    · have e9 : entB part 4 = true := by simp [entB, hle]
      rw [e9] at HE
      have HLe := Lib.hid hle
      clear hle e9
      refine wp_region_held_drew (S := fun _ => True) (by kernel_rfl) ?_ (fun hHeld => ?_)
      · try dsimp only
        all_goals trivial
      refine wpAnyH_take (i := 0) (oi := { dst := some 65, op := Op.move (Operand.tmp 0), type := 132, pos := "texts.go:121", after := #[], guard := none }) (v := ?_) rfl (by kernel_rfl) (by kernel_rfl) (by kernel_rfl) (fun _ _ _ h => h) (Or.inl ⟨by rfl, ?_⟩) (by assumption) ?_
      rotate_left 1
      · intro w hSw
        (try dsimp only at hSw)
        go_simp
        try with_reducible rfl
      try simp only [Act.put, List.setIfInBounds_toArray, List.set_cons_zero, List.set_cons_succ]
      refine wpAnyH_ready (rs := [1]) (by kernel_rfl) (by simp) ?_
      refine AllReadyH.cons (o := { dst := some 66, op := Op.call { callee := Callee.value (Operand.func 76), args := #[Operand.tmp 65, Operand.const (Value.int IntKind.i64 4)], argTypes := #[132, 3] }, type := 4, pos := "texts.go:121", after := #[{ on := 0, ground := Ground.data }], guard := none }) rfl (fun K hK => ?_) AllReadyH.nil
      go_simp
      refine HE.out.mono ?_
      rintro e w2 ⟨rfl, hr2, hx2⟩
      have H3 := Lib.hid hr2
      have HX3 := Lib.hid (HXd.out.trans (S' := RdS rb vP vL) (hx2.weak (fun _ _ h => .inl h)) (fun _ _ h => h))
      have HRs3 := Lib.hid (HRsd.out.exc hx2 (fun h => HNb.out (.inl h)))
      clear hr2 hx2
      go_wp2_with fail
      refine hK.out _ _ ?_ (fun hHeld => ?_)
      · try dsimp only
        all_goals trivial
      clear hK K
      try simp only [Act.put, List.setIfInBounds_toArray, List.set_cons_zero, List.set_cons_succ]
      refine wpAnyH_take (i := 2) (oi := { dst := some 67, op := Op.move (Operand.tmp 66), type := 4, pos := "texts.go:121", after := #[{ on := 1, ground := Ground.data }, { on := 1, ground := Ground.chain }], guard := none }) (v := ?_) rfl (by kernel_rfl) (by kernel_rfl) (by kernel_rfl) (fun _ _ _ h => h) (Or.inl ⟨by rfl, ?_⟩) (by assumption) ?_
      rotate_left 1
      · intro w hSw
        (try dsimp only at hSw)
        go_simp
        try with_reducible rfl
      try simp only [Act.put, List.setIfInBounds_toArray, List.set_cons_zero, List.set_cons_succ]
      refine wpAnyH_take (i := 3) (oi := { dst := some 68, op := Op.move (Operand.tmp 6), type := 46, pos := "texts.go:121", after := #[{ on := 2, ground := Ground.guard }], guard := some (2, true) }) (v := ?_) rfl (by kernel_rfl) (by kernel_rfl) (by kernel_rfl) (fun _ _ _ h => h) (Or.inl ⟨by rfl, ?_⟩) (by assumption) ?_
      rotate_left 1
      · intro w hSw
        (try dsimp only at hSw)
        go_simp
        try with_reducible rfl
      try simp only [Act.put, List.setIfInBounds_toArray, List.set_cons_zero, List.set_cons_succ]
      refine wpAnyH_take (i := 4) (oi := { dst := some 69, op := Op.move (Operand.tmp 7), type := 136, pos := "texts.go:121", after := #[{ on := 2, ground := Ground.guard }], guard := some (2, true) }) (v := ?_) rfl (by kernel_rfl) (by kernel_rfl) (by kernel_rfl) (fun _ _ _ h => h) (Or.inl ⟨by rfl, ?_⟩) (by assumption) ?_
      rotate_left 1
      · intro w hSw
        (try dsimp only at hSw)
        go_simp
        try with_reducible rfl
      try simp only [Act.put, List.setIfInBounds_toArray, List.set_cons_zero, List.set_cons_succ]
      refine wpAnyH_take (i := 5) (oi := { dst := some 70, op := Op.nilCheck (Operand.tmp 69), type := 0, pos := "texts.go:121", after := #[{ on := 4, ground := Ground.data }, { on := 2, ground := Ground.guard }], guard := some (2, true) }) (v := ?_) rfl (by kernel_rfl) (by kernel_rfl) (by kernel_rfl) (fun _ _ _ h => h) (Or.inl ⟨by rfl, ?_⟩) (by assumption) ?_
      rotate_left 1
      · intro w hSw
        (try dsimp only at hSw)
        go_simp
        try with_reducible rfl
      try simp only [Act.put, List.setIfInBounds_toArray, List.set_cons_zero, List.set_cons_succ]
      refine wpAnyH_take (i := 6) (oi := { dst := some 71, op := Op.indexAddr 29 (Operand.tmp 70) (Operand.const (Value.int IntKind.i64 0)), type := 0, pos := "texts.go:121", after := #[{ on := 5, ground := Ground.data }, { on := 2, ground := Ground.guard }], guard := some (2, true) }) (v := ?_) rfl (by kernel_rfl) (by kernel_rfl) (by kernel_rfl) (fun _ _ _ h => h) (Or.inl ⟨by rfl, ?_⟩) (by assumption) ?_
      rotate_left 1
      · intro w hSw
        (try dsimp only at hSw)
        go_simp
        try with_reducible rfl
      try simp only [Act.put, List.setIfInBounds_toArray, List.set_cons_zero, List.set_cons_succ]
      refine wpAnyH_take (i := 7) (oi := { dst := some 72, op := Op.move (Operand.tmp 7), type := 136, pos := "texts.go:121", after := #[{ on := 2, ground := Ground.guard }], guard := some (2, true) }) (v := ?_) rfl (by kernel_rfl) (by kernel_rfl) (by kernel_rfl) (fun _ _ _ h => h) (Or.inl ⟨by rfl, ?_⟩) (by assumption) ?_
      rotate_left 1
      · intro w hSw
        (try dsimp only at hSw)
        go_simp
        try with_reducible rfl
      try simp only [Act.put, List.setIfInBounds_toArray, List.set_cons_zero, List.set_cons_succ]
      refine wpAnyH_take (i := 8) (oi := { dst := some 73, op := Op.nilCheck (Operand.tmp 72), type := 0, pos := "texts.go:121", after := #[{ on := 7, ground := Ground.data }, { on := 2, ground := Ground.guard }], guard := some (2, true) }) (v := ?_) rfl (by kernel_rfl) (by kernel_rfl) (by kernel_rfl) (fun _ _ _ h => h) (Or.inl ⟨by rfl, ?_⟩) (by assumption) ?_
      rotate_left 1
      · intro w hSw
        (try dsimp only at hSw)
        go_simp
        try with_reducible rfl
      try simp only [Act.put, List.setIfInBounds_toArray, List.set_cons_zero, List.set_cons_succ]
      refine wpAnyH_take (i := 9) (oi := { dst := some 74, op := Op.indexAddr 29 (Operand.tmp 73) (Operand.const (Value.int IntKind.i64 1)), type := 0, pos := "texts.go:121", after := #[{ on := 8, ground := Ground.data }, { on := 2, ground := Ground.guard }], guard := some (2, true) }) (v := ?_) rfl (by kernel_rfl) (by kernel_rfl) (by kernel_rfl) (fun _ _ _ h => h) (Or.inl ⟨by rfl, ?_⟩) (by assumption) ?_
      rotate_left 1
      · intro w hSw
        (try dsimp only at hSw)
        go_simp
        try with_reducible rfl
      try simp only [Act.put, List.setIfInBounds_toArray, List.set_cons_zero, List.set_cons_succ]
      refine wpAnyH_take (i := 10) (oi := { dst := some 75, op := Op.move (Operand.tmp 7), type := 136, pos := "texts.go:121", after := #[{ on := 2, ground := Ground.guard }], guard := some (2, true) }) (v := ?_) rfl (by kernel_rfl) (by kernel_rfl) (by kernel_rfl) (fun _ _ _ h => h) (Or.inl ⟨by rfl, ?_⟩) (by assumption) ?_
      rotate_left 1
      · intro w hSw
        (try dsimp only at hSw)
        go_simp
        try with_reducible rfl
      try simp only [Act.put, List.setIfInBounds_toArray, List.set_cons_zero, List.set_cons_succ]
      refine wpAnyH_take (i := 11) (oi := { dst := some 76, op := Op.nilCheck (Operand.tmp 75), type := 0, pos := "texts.go:121", after := #[{ on := 10, ground := Ground.data }, { on := 2, ground := Ground.guard }], guard := some (2, true) }) (v := ?_) rfl (by kernel_rfl) (by kernel_rfl) (by kernel_rfl) (fun _ _ _ h => h) (Or.inl ⟨by rfl, ?_⟩) (by assumption) ?_
      rotate_left 1
      · intro w hSw
        (try dsimp only at hSw)
        go_simp
        try with_reducible rfl
      try simp only [Act.put, List.setIfInBounds_toArray, List.set_cons_zero, List.set_cons_succ]
      refine wpAnyH_take (i := 12) (oi := { dst := some 77, op := Op.indexAddr 29 (Operand.tmp 76) (Operand.const (Value.int IntKind.i64 2)), type := 0, pos := "texts.go:121", after := #[{ on := 11, ground := Ground.data }, { on := 2, ground := Ground.guard }], guard := some (2, true) }) (v := ?_) rfl (by kernel_rfl) (by kernel_rfl) (by kernel_rfl) (fun _ _ _ h => h) (Or.inl ⟨by rfl, ?_⟩) (by assumption) ?_
      rotate_left 1
      · intro w hSw
        (try dsimp only at hSw)
        go_simp
        try with_reducible rfl
      try simp only [Act.put, List.setIfInBounds_toArray, List.set_cons_zero, List.set_cons_succ]
      refine wpAnyH_ready (rs := [13]) (by kernel_rfl) (by simp) ?_
      refine AllReadyH.cons (o := { dst := some 78, op := Op.buildSlice 156 3 #[(0, Operand.tmp 71), (1, Operand.tmp 74), (2, Operand.tmp 77)], type := 156, pos := "texts.go:121", after := #[{ on := 6, ground := Ground.data }, { on := 9, ground := Ground.data }, { on := 12, ground := Ground.data }, { on := 2, ground := Ground.guard }], guard := some (2, true) }) rfl (fun K hK => ?_) AllReadyH.nil
      go_simp
      skip
      go_wp2_with fail
      refine hK.out _ _ ?_ (fun hHeld => ?_)
      · try dsimp only
        all_goals trivial
      clear hK K
      try simp only [Act.put, List.setIfInBounds_toArray, List.set_cons_zero, List.set_cons_succ]
      refine wpAnyH_ready (rs := [14]) (by kernel_rfl) (by simp) ?_
      refine AllReadyH.cons (o := { dst := some 79, op := Op.call { callee := Callee.value (Operand.func 79), args := #[Operand.tmp 68, Operand.tmp 78], argTypes := #[46, 156] }, type := 4, pos := "texts.go:121", after := #[{ on := 3, ground := Ground.data }, { on := 13, ground := Ground.data }, { on := 2, ground := Ground.chain }, { on := 2, ground := Ground.guard }], guard := some (2, true) }) rfl (fun K hK => ?_) AllReadyH.nil
      go_simp
      obtain ⟨pq, hpqe⟩ : ∃ x, x = w2.heap.size := ⟨_, rfl⟩
      have b3 := below_alloc w2 (.cells #[.pointer (some ⟨rb, 4, none⟩), .pointer (some ⟨rb, 5, none⟩), .pointer (some ⟨rb, 6, none⟩)] 135)
      have hpq : Own (w2.alloc (.cells #[.pointer (some ⟨rb, 4, none⟩), .pointer (some ⟨rb, 5, none⟩), .pointer (some ⟨rb, 6, none⟩)] 135)) w2.heap.size 135 [.pointer (some ⟨rb, 4, none⟩), .pointer (some ⟨rb, 5, none⟩), .pointer (some ⟨rb, 6, none⟩)] := heap_alloc_new w2 _
      have h4 := H3.out.below b3
      have hrb := H3.out.own.lt
      have HC := Lib.hid (storeR h4 (HRs3.out.exc (Exc.of_below (S := fun _ => False) b3) (fun h => h)) (fun e => HNb.out (.inl e)) w2.heap.size 4 3 (by omega) ⟨by omega, by omega, by omega⟩ (fun i hi => by
        rcases (show i = 0 ∨ i = 1 ∨ i = 2 by omega) with rfl | rfl | rfl
        · exact hpq.cell 0 (by simp)
        · exact hpq.cell 1 (by simp)
        · exact hpq.cell 2 (by simp)))
      have H4 := Lib.hid h4
      have HB3 := Lib.hid (Exc.of_below (S := RdS rb vP vL) b3)
      clear b3 hpq h4 hrb hpqe
      refine HC.out.mono ?_
      rintro e w3 ⟨rfl, hx4, hw3⟩
      have HX4 := Lib.hid ((HX3.out.trans HB3.out (fun _ _ h => h)).trans (S' := RdS rb vP vL) (hx4.weak (fun _ _ h => .inl h)) (fun _ _ h => h))
      have HX4b := Lib.hid hx4
      have HW3 := Lib.hid hw3
      clear hx4 hw3
      go_wp2_with fail
      refine hK.out _ _ ?_ (fun hHeld => ?_)
      · try dsimp only
        all_goals trivial
      clear hK K
      try simp only [Act.put, List.setIfInBounds_toArray, List.set_cons_zero, List.set_cons_succ]
      refine wpAnyH_take (i := 15) (oi := { dst := some 80, op := Op.pick (Operand.tmp 67) (Operand.tmp 79) (Operand.const (Value.bool false)), type := 4, pos := "texts.go:121", after := #[{ on := 2, ground := Ground.data }, { on := 14, ground := Ground.data }], guard := none }) (v := ?_) rfl (by kernel_rfl) (by kernel_rfl) (by kernel_rfl) (fun _ _ _ h => h) (Or.inl ⟨by rfl, ?_⟩) (by assumption) ?_
      rotate_left 1
      · intro w hSw
        (try dsimp only at hSw)
        go_simp
        try with_reducible rfl
      try simp only [Act.put, List.setIfInBounds_toArray, List.set_cons_zero, List.set_cons_succ]
      refine wpAnyH_take (i := 16) (oi := { dst := some 4, op := Op.assign (Operand.tmp 80), type := 4, pos := "texts.go:121", after := #[{ on := 15, ground := Ground.data }, { on := 14, ground := Ground.chain }, { on := 0, ground := Ground.phase }, { on := 1, ground := Ground.phase }, { on := 2, ground := Ground.phase }, { on := 3, ground := Ground.phase }, { on := 4, ground := Ground.phase }, { on := 5, ground := Ground.phase }, { on := 6, ground := Ground.phase }, { on := 7, ground := Ground.phase }, { on := 8, ground := Ground.phase }, { on := 9, ground := Ground.phase }, { on := 10, ground := Ground.phase }, { on := 11, ground := Ground.phase }, { on := 12, ground := Ground.phase }, { on := 13, ground := Ground.phase }, { on := 14, ground := Ground.phase }, { on := 15, ground := Ground.phase }], guard := none }) (v := ?_) rfl (by kernel_rfl) (by kernel_rfl) (by kernel_rfl) (fun _ _ _ h => h) (Or.inl ⟨by rfl, ?_⟩) (by assumption) ?_
      rotate_left 1
      · intro w hSw
        (try dsimp only at hSw)
        go_simp
        try with_reducible rfl
      try simp only [Act.put, List.setIfInBounds_toArray, List.set_cons_zero, List.set_cons_succ]
      refine wpAnyH_done (by kernel_rfl) ?_ _
      rw [show (fun i => r[i]?.getD []) = (fun i => r.getD i []) from funext fun i => (List.getD_eq_getElem?_getD ..).symm]
      by_cases hok : (decide (n = 3) && allN (fun i => r.getD i []) 3) = true
      · rw [hok]
        have hw4 := HW3.out hok
        have hn1 : n = 3 ∧ allN (fun i => r.getD i []) 3 = true := by simpa using hok
        obtain ⟨a, b, d, ha⟩ := len3 (r := r) (by rw [← HN.out]; exact hn1.1)
        have hns : numS a = true ∧ numS b = true ∧ numS d = true := by have h1 := hn1.2; rw [ha] at h1; simp [allN] at h1; exact ⟨h1.1.1, h1.1.2, h1.2⟩
        have hR2 : R = some ({ p with m0 := (numV a : Int), m1 := (numV b : Int), m2 := (numV d : Int) }, 4) := by rw [HR.out]; unfold stepM; rw [HWd.out]; simp only []; rw [if_neg HK0.out]; rw [if_neg HK1.out]; rw [if_neg HK2.out]; rw [if_neg HK3.out]; rw [if_pos HK4.out, if_pos HLe.out, ha]; simp [numO, hns.1, hns.2.1, hns.2.2]
        have HR2 := Lib.hid hR2
        have hw5 : w3 = (((w2.alloc (.cells #[.pointer (some ⟨rb, 4, none⟩), .pointer (some ⟨rb, 5, none⟩), .pointer (some ⟨rb, 6, none⟩)] 135)).setCell ⟨rb, 4, none⟩ (.int .i64 (numV a : Int))).setCell ⟨rb, 5, none⟩ (.int .i64 (numV b : Int))).setCell ⟨rb, 6, none⟩ (.int .i64 (numV d : Int)) := by rw [hw4, ha]; rfl
        have HW5 := Lib.hid hw5
        clear hok hw4 hn1 ha hns hR2 hw5
        go_wp2
        go_ret
        rw [HR2.out]
        refine ⟨rfl, HX4.out, fun q part hq => ?_⟩
        obtain ⟨rfl, rfl⟩ := Prod.mk.inj (Option.some.inj hq)
        have hxs := HX4b.out
        refine ⟨vP, vL, ⟨?_, ownsK_exc H4.out.ps hxs (fun j hj e => by have h1 := (ownsK_lt H4.out.ps hj).1; have h2 := H.out.lt; omega), ownsK_exc H4.out.ls hxs (fun j hj e => by have h1 := (ownsK_lt H4.out.ls hj).1; have h2 := H.out.lt; omega), H.out.ne, H.out.lt, Nat.le_trans H4.out.sz hxs.size⟩⟩
        rw [HW5.out]
        exact ((H4.out.own.set 4 (.int .i64 (numV a : Int))).set 5 (.int .i64 (numV b : Int))).set 6 (.int .i64 (numV d : Int))
      · have hok2 : (decide (n = 3) && allN (fun i => r.getD i []) 3) = false := by simpa using hok
        have hno : R = none := by
          rw [HR.out]; unfold stepM; rw [HWd.out]; simp only []; rw [if_neg HK0.out]; rw [if_neg HK1.out]; rw [if_neg HK2.out]; rw [if_neg HK3.out]; rw [if_pos HK4.out, if_pos HLe.out]
          split
          · rename_i a b d
            rw [HN.out] at hok2
            have hns : ¬ (numS a = true ∧ numS b = true ∧ numS d = true) := fun h => by simp [allN, h.1, h.2.1, h.2.2] at hok2
            unfold numO
            by_cases h1 : numS a = true
            · by_cases h2 : numS b = true
              · have h3 : numS d = false := by cases h4 : numS d; rfl; exact absurd ⟨h1, h2, h4⟩ hns
                simp [h1, h2, h3]
              · simp [h1, h2]
            · simp [h1]
          · rfl
        rw [hok2]
        have HNo := Lib.hid hno
        clear hno hok hok2
        go_wp2
        go_ret
        rw [HNo.out]
        exact ⟨rfl, HX4.out, fun q part hq => by cases hq⟩
    · have e9 : entB part 4 = false := by simp [entB]; omega
      rw [e9] at HE
      have hno : R = none := by rw [HR.out]; unfold stepM; rw [HWd.out]; simp only []; rw [if_neg HK0.out]; rw [if_neg HK1.out]; rw [if_neg HK2.out]; rw [if_neg HK3.out]; rw [if_pos HK4.out, if_neg hle]
      have HNo := Lib.hid hno
      clear hno hle e9
      refine wp_region_held_drew (S := fun _ => True) (by kernel_rfl) ?_ (fun hHeld => ?_)
      · try dsimp only
        all_goals trivial
      refine wpAnyH_take (i := 0) (oi := { dst := some 65, op := Op.move (Operand.tmp 0), type := 132, pos := "texts.go:121", after := #[], guard := none }) (v := ?_) rfl (by kernel_rfl) (by kernel_rfl) (by kernel_rfl) (fun _ _ _ h => h) (Or.inl ⟨by rfl, ?_⟩) (by assumption) ?_
      rotate_left 1
      · intro w hSw
        (try dsimp only at hSw)
        go_simp
        try with_reducible rfl
      try simp only [Act.put, List.setIfInBounds_toArray, List.set_cons_zero, List.set_cons_succ]
      refine wpAnyH_ready (rs := [1]) (by kernel_rfl) (by simp) ?_
      refine AllReadyH.cons (o := { dst := some 66, op := Op.call { callee := Callee.value (Operand.func 76), args := #[Operand.tmp 65, Operand.const (Value.int IntKind.i64 4)], argTypes := #[132, 3] }, type := 4, pos := "texts.go:121", after := #[{ on := 0, ground := Ground.data }], guard := none }) rfl (fun K hK => ?_) AllReadyH.nil
      go_simp
      refine HE.out.mono ?_
      rintro e w2 ⟨rfl, hr2, hx2⟩
      have H3 := Lib.hid hr2
      have HX3 := Lib.hid (HXd.out.trans (S' := RdS rb vP vL) (hx2.weak (fun _ _ h => .inl h)) (fun _ _ h => h))
      have HRs3 := Lib.hid (HRsd.out.exc hx2 (fun h => HNb.out (.inl h)))
      clear hr2 hx2
      go_wp2_with fail
      refine hK.out _ _ ?_ (fun hHeld => ?_)
      · try dsimp only
        all_goals trivial
      clear hK K
      try simp only [Act.put, List.setIfInBounds_toArray, List.set_cons_zero, List.set_cons_succ]
      refine wpAnyH_take (i := 2) (oi := { dst := some 67, op := Op.move (Operand.tmp 66), type := 4, pos := "texts.go:121", after := #[{ on := 1, ground := Ground.data }, { on := 1, ground := Ground.chain }], guard := none }) (v := ?_) rfl (by kernel_rfl) (by kernel_rfl) (by kernel_rfl) (fun _ _ _ h => h) (Or.inl ⟨by rfl, ?_⟩) (by assumption) ?_
      rotate_left 1
      · intro w hSw
        (try dsimp only at hSw)
        go_simp
        try with_reducible rfl
      try simp only [Act.put, List.setIfInBounds_toArray, List.set_cons_zero, List.set_cons_succ]
      refine wpAnyH_take (i := 3) (oi := { dst := some 68, op := Op.move (Operand.tmp 6), type := 46, pos := "texts.go:121", after := #[{ on := 2, ground := Ground.guard }], guard := some (2, true) }) (v := undef) rfl (by kernel_rfl) (by kernel_rfl) (by kernel_rfl) (fun _ _ _ h => h) (Or.inr ⟨by rfl, rfl⟩) (by assumption) ?_
      try simp only [Act.put, List.setIfInBounds_toArray, List.set_cons_zero, List.set_cons_succ]
      refine wpAnyH_take (i := 4) (oi := { dst := some 69, op := Op.move (Operand.tmp 7), type := 136, pos := "texts.go:121", after := #[{ on := 2, ground := Ground.guard }], guard := some (2, true) }) (v := undef) rfl (by kernel_rfl) (by kernel_rfl) (by kernel_rfl) (fun _ _ _ h => h) (Or.inr ⟨by rfl, rfl⟩) (by assumption) ?_
      try simp only [Act.put, List.setIfInBounds_toArray, List.set_cons_zero, List.set_cons_succ]
      refine wpAnyH_take (i := 5) (oi := { dst := some 70, op := Op.nilCheck (Operand.tmp 69), type := 0, pos := "texts.go:121", after := #[{ on := 4, ground := Ground.data }, { on := 2, ground := Ground.guard }], guard := some (2, true) }) (v := undef) rfl (by kernel_rfl) (by kernel_rfl) (by kernel_rfl) (fun _ _ _ h => h) (Or.inr ⟨by rfl, rfl⟩) (by assumption) ?_
      try simp only [Act.put, List.setIfInBounds_toArray, List.set_cons_zero, List.set_cons_succ]
      refine wpAnyH_take (i := 6) (oi := { dst := some 71, op := Op.indexAddr 29 (Operand.tmp 70) (Operand.const (Value.int IntKind.i64 0)), type := 0, pos := "texts.go:121", after := #[{ on := 5, ground := Ground.data }, { on := 2, ground := Ground.guard }], guard := some (2, true) }) (v := undef) rfl (by kernel_rfl) (by kernel_rfl) (by kernel_rfl) (fun _ _ _ h => h) (Or.inr ⟨by rfl, rfl⟩) (by assumption) ?_
      try simp only [Act.put, List.setIfInBounds_toArray, List.set_cons_zero, List.set_cons_succ]
      refine wpAnyH_take (i := 7) (oi := { dst := some 72, op := Op.move (Operand.tmp 7), type := 136, pos := "texts.go:121", after := #[{ on := 2, ground := Ground.guard }], guard := some (2, true) }) (v := undef) rfl (by kernel_rfl) (by kernel_rfl) (by kernel_rfl) (fun _ _ _ h => h) (Or.inr ⟨by rfl, rfl⟩) (by assumption) ?_
      try simp only [Act.put, List.setIfInBounds_toArray, List.set_cons_zero, List.set_cons_succ]
      refine wpAnyH_take (i := 8) (oi := { dst := some 73, op := Op.nilCheck (Operand.tmp 72), type := 0, pos := "texts.go:121", after := #[{ on := 7, ground := Ground.data }, { on := 2, ground := Ground.guard }], guard := some (2, true) }) (v := undef) rfl (by kernel_rfl) (by kernel_rfl) (by kernel_rfl) (fun _ _ _ h => h) (Or.inr ⟨by rfl, rfl⟩) (by assumption) ?_
      try simp only [Act.put, List.setIfInBounds_toArray, List.set_cons_zero, List.set_cons_succ]
      refine wpAnyH_take (i := 9) (oi := { dst := some 74, op := Op.indexAddr 29 (Operand.tmp 73) (Operand.const (Value.int IntKind.i64 1)), type := 0, pos := "texts.go:121", after := #[{ on := 8, ground := Ground.data }, { on := 2, ground := Ground.guard }], guard := some (2, true) }) (v := undef) rfl (by kernel_rfl) (by kernel_rfl) (by kernel_rfl) (fun _ _ _ h => h) (Or.inr ⟨by rfl, rfl⟩) (by assumption) ?_
      try simp only [Act.put, List.setIfInBounds_toArray, List.set_cons_zero, List.set_cons_succ]
      refine wpAnyH_take (i := 10) (oi := { dst := some 75, op := Op.move (Operand.tmp 7), type := 136, pos := "texts.go:121", after := #[{ on := 2, ground := Ground.guard }], guard := some (2, true) }) (v := undef) rfl (by kernel_rfl) (by kernel_rfl) (by kernel_rfl) (fun _ _ _ h => h) (Or.inr ⟨by rfl, rfl⟩) (by assumption) ?_
      try simp only [Act.put, List.setIfInBounds_toArray, List.set_cons_zero, List.set_cons_succ]
      refine wpAnyH_take (i := 11) (oi := { dst := some 76, op := Op.nilCheck (Operand.tmp 75), type := 0, pos := "texts.go:121", after := #[{ on := 10, ground := Ground.data }, { on := 2, ground := Ground.guard }], guard := some (2, true) }) (v := undef) rfl (by kernel_rfl) (by kernel_rfl) (by kernel_rfl) (fun _ _ _ h => h) (Or.inr ⟨by rfl, rfl⟩) (by assumption) ?_
      try simp only [Act.put, List.setIfInBounds_toArray, List.set_cons_zero, List.set_cons_succ]
      refine wpAnyH_take (i := 12) (oi := { dst := some 77, op := Op.indexAddr 29 (Operand.tmp 76) (Operand.const (Value.int IntKind.i64 2)), type := 0, pos := "texts.go:121", after := #[{ on := 11, ground := Ground.data }, { on := 2, ground := Ground.guard }], guard := some (2, true) }) (v := undef) rfl (by kernel_rfl) (by kernel_rfl) (by kernel_rfl) (fun _ _ _ h => h) (Or.inr ⟨by rfl, rfl⟩) (by assumption) ?_
      try simp only [Act.put, List.setIfInBounds_toArray, List.set_cons_zero, List.set_cons_succ]
      refine wpAnyH_take (i := 13) (oi := { dst := some 78, op := Op.buildSlice 156 3 #[(0, Operand.tmp 71), (1, Operand.tmp 74), (2, Operand.tmp 77)], type := 156, pos := "texts.go:121", after := #[{ on := 6, ground := Ground.data }, { on := 9, ground := Ground.data }, { on := 12, ground := Ground.data }, { on := 2, ground := Ground.guard }], guard := some (2, true) }) (v := undef) rfl (by kernel_rfl) (by kernel_rfl) (by kernel_rfl) (fun _ _ _ h => h) (Or.inr ⟨by rfl, rfl⟩) (by assumption) ?_
      try simp only [Act.put, List.setIfInBounds_toArray, List.set_cons_zero, List.set_cons_succ]
      refine wpAnyH_take (i := 14) (oi := { dst := some 79, op := Op.call { callee := Callee.value (Operand.func 79), args := #[Operand.tmp 68, Operand.tmp 78], argTypes := #[46, 156] }, type := 4, pos := "texts.go:121", after := #[{ on := 3, ground := Ground.data }, { on := 13, ground := Ground.data }, { on := 2, ground := Ground.chain }, { on := 2, ground := Ground.guard }], guard := some (2, true) }) (v := undef) rfl (by kernel_rfl) (by kernel_rfl) (by kernel_rfl) (fun _ _ _ h => h) (Or.inr ⟨by rfl, rfl⟩) (by assumption) ?_
      try simp only [Act.put, List.setIfInBounds_toArray, List.set_cons_zero, List.set_cons_succ]
      refine wpAnyH_take (i := 15) (oi := { dst := some 80, op := Op.pick (Operand.tmp 67) (Operand.tmp 79) (Operand.const (Value.bool false)), type := 4, pos := "texts.go:121", after := #[{ on := 2, ground := Ground.data }, { on := 14, ground := Ground.data }], guard := none }) (v := ?_) rfl (by kernel_rfl) (by kernel_rfl) (by kernel_rfl) (fun _ _ _ h => h) (Or.inl ⟨by rfl, ?_⟩) (by assumption) ?_
      rotate_left 1
      · intro w hSw
        (try dsimp only at hSw)
        go_simp
        try with_reducible rfl
      try simp only [Act.put, List.setIfInBounds_toArray, List.set_cons_zero, List.set_cons_succ]
      refine wpAnyH_take (i := 16) (oi := { dst := some 4, op := Op.assign (Operand.tmp 80), type := 4, pos := "texts.go:121", after := #[{ on := 15, ground := Ground.data }, { on := 14, ground := Ground.chain }, { on := 0, ground := Ground.phase }, { on := 1, ground := Ground.phase }, { on := 2, ground := Ground.phase }, { on := 3, ground := Ground.phase }, { on := 4, ground := Ground.phase }, { on := 5, ground := Ground.phase }, { on := 6, ground := Ground.phase }, { on := 7, ground := Ground.phase }, { on := 8, ground := Ground.phase }, { on := 9, ground := Ground.phase }, { on := 10, ground := Ground.phase }, { on := 11, ground := Ground.phase }, { on := 12, ground := Ground.phase }, { on := 13, ground := Ground.phase }, { on := 14, ground := Ground.phase }, { on := 15, ground := Ground.phase }], guard := none }) (v := ?_) rfl (by kernel_rfl) (by kernel_rfl) (by kernel_rfl) (fun _ _ _ h => h) (Or.inl ⟨by rfl, ?_⟩) (by assumption) ?_
      rotate_left 1
      · intro w hSw
        (try dsimp only at hSw)
        go_simp
        try with_reducible rfl
      try simp only [Act.put, List.setIfInBounds_toArray, List.set_cons_zero, List.set_cons_succ]
      refine wpAnyH_done (by kernel_rfl) ?_ _
      go_wp2
      go_ret
      rw [HNo.out]
      exact ⟨rfl, HX3.out, fun q part hq => by cases hq⟩
  have e4 : (w0 == [109, 97, 114, 107, 115]) = false := beq_eq_false_iff_ne.2 k4
  have hno : R = none := by rw [HR.out]; unfold stepM; rw [HWd.out]; simp only []; rw [if_neg HK0.out]; rw [if_neg HK1.out]; rw [if_neg HK2.out]; rw [if_neg HK3.out]; rw [if_neg k4]
  have HNo := Lib.hid hno
  clear hno k4
  go_wp2
  go_ret
  rw [HNo.out]
  exact ⟨rfl, HB2.out, fun q part hq => by cases hq⟩
end Go.Proofs.YthlckipcgogogaaGreatDoor
