/- Contracts: a pair of ends: send. -/
import Derived.Test.YtdjnflfcolpccaaBaPairL
import Derived.Deep.RegionLaw
namespace Go.Proofs.Ytdjnflfcolpccaa
open Go.RowKit

theorem src_unit {w : World} {e0 : Nat} {u : Un} {s : Option Addr} {k : Nat} (h : Own w e0 45 (unCells u s k k)) : Src Try.prog 7 64 (.slice (some ⟨e0, 0, none⟩) 1 1) 1 (unCells u s k k) w :=
  Src.ofSlice w Try.underlying64 ⟨e0, 0, none⟩ 1 1 _ rfl (fun j x hj => by
    have hlt : j < (unCells u s k k).length := (List.getElem?_eq_some_iff.1 hj).1
    rw [Addr.add_lit, Nat.zero_add, h.cell j hlt]
    simp [List.getD_eq_getElem?_getD, hj]) (fun x hx => by
    simp only [unCells, List.mem_cons, List.not_mem_nil, or_false] at hx
    rcases hx with rfl | rfl | rfl | rfl | rfl | rfl | rfl <;> rfl)
set_option maxHeartbeats 4000000 in
set_option maxRecDepth 100000 in
theorem send0_any (I : EndFace) (w : World) (p : Nat) (st : PSt) (L : PLay) (h : PairAt I w p st L) (hf : st.x0.failed = false) (hn : st.f1.length ≤ 100000) :
    Calls Try.prog 40 #[.pointer (some ⟨p, 0, none⟩), .int .i64 0] w fun e w' => e = .returned (.tuple #[]) ∧ (∃ L', L'.B = L.B ∧ PairAt I w' p { st with x0 := st.x0.next.2, f1 := st.f1 ++ [st.x0.next.1] } L') ∧ Below L.B w w' := by
  have hcon := I.next h.e0 hf
  have hc := h.own.cell 0 (by simp [pairCells])
  have hp := h.own.lt
  simp only [pairCells, List.getD_cons_zero] at hc
  obtain ⟨u, hu⟩ : ∃ u, u = st.x0.next.1 := ⟨_, rfl⟩
  rw [← hu] at hcon ⊢
  obtain ⟨ub, bb, uf, fb, uk, us, ul⟩ := u
  have HC := Lib.hid hcon
  have H := Lib.hid h
  have HN := Lib.hid hn
  have Hu := Lib.hid hu
  clear hcon h hf hn hu
  go_enter Try.func40, Try.ntmps40
  go_wp2_with fail
  refine HC.out.mono ?_
  rintro e w1 ⟨S', ⟨s, rfl, hr, hz⟩, ha, ht⟩
  have h1 := H.out.turn0 ha ht
  have hb01 := H.out.below ht.exc (fun i _ hi => by rw [H.out.s0 i hi]; decide)
  have hs1 := ht.exc.size
  have hz1 : ∀ z, s = some z → Load w1 (recol L.col w.heap.size S' 1) z.block := fun z hzz => ⟨recol_out (by have := (hz z hzz).1; omega) (hz z hzz).2.2, (hz z hzz).2.1⟩
  obtain ⟨L1, hL1⟩ : ∃ X, X = ({ L with S0 := S', col := recol L.col w.heap.size S' 1 } : PLay) := ⟨_, rfl⟩
  have eB : L1.B = L.B := by rw [hL1]
  have ecol : L1.col = recol L.col w.heap.size S' 1 := by rw [hL1]
  rw [← hL1] at h1
  rw [← ecol] at hz1
  obtain ⟨w2, hw2⟩ : ∃ X, X = w1.alloc (.cells (unCells ⟨ub, bb, uf, fb, uk, us, ul⟩ s ul.length ul.length).toArray 45) := ⟨_, rfl⟩
  have hb12 : Below w1.heap.size w1 w2 := by rw [hw2]; exact below_alloc _ _
  have ou2 : Own w2 w1.heap.size 45 (unCells ⟨ub, bb, uf, fb, uk, us, ul⟩ s ul.length ul.length) := by rw [hw2]; exact own_lit w1 _ _ _ rfl
  have h2 := h1.later hb12
  have hp1 : p < w1.heap.size := by omega
  have hne : p ≠ w1.heap.size := by omega
  have h2s := ou2.lt
  have g8 := h2.own.cell 8 (by simp [pairCells])
  have gf8 := h2.own.frozen 8
  simp only [pairCells, List.getD_cons_succ, List.getD_cons_zero] at g8
  have HW2 := Lib.hid hw2
  have H1 := Lib.hid h1
  have H2 := Lib.hid h2
  have HU2 := Lib.hid ou2
  have HR := Lib.hid hr
  have HZ := Lib.hid hz1
  have HB01 := Lib.hid hb01
  have HB12 := Lib.hid hb12
  have HEB := Lib.hid eB
  clear ha ht h1 hz hr hz1 hb01 hL1 ecol hw2 hb12 ou2 h2 hc eB
  have c8 := (H1.out.own.cell 8 (by simp [pairCells]))
  have cf8 := (H1.out.own.frozen 8)
  simp only [pairCells, List.getD_cons_succ, List.getD_cons_zero] at c8
  simp only [unCells] at HW2 HU2 HR ⊢
  go_wp2_with fail
  generalize hW3 : (w1.setCell ⟨p, 8, none⟩ (.bool false)).alloc (.cells #[.int .u8 (ub : Int), .bool bb, .int .u8 (uf : Int), .bool fb, .int .u8 (uk : Int), .int .u8 (us : Int), .slice s ul.length ul.length] 45) = W3
  have hxp : Exc (fun k => k = p) w1 (w1.setCell ⟨p, 8, none⟩ (.bool false)) := (Exc.refl (fun k => k = p) w1).setCell ⟨p, 8, none⟩ (.inl rfl) (.bool false)
  have h1' : PairAt I (w1.setCell ⟨p, 8, none⟩ (.bool false)) p { st with x0 := st.x0.next.2 } L1 := H1.out.redo hxp (H1.out.own.set 8 (.bool false)) rfl rfl rfl rfl rfl rfl rfl
  have hb3 : Below w1.heap.size (w1.setCell ⟨p, 8, none⟩ (.bool false)) W3 := by rw [← hW3]; exact (Below.refl _ _).alloc (by simp) _
  have h3 : PairAt I W3 p { st with x0 := st.x0.next.2 } L1 := by rw [← hW3]; exact h1'.later (below_alloc _ _)
  have hx3 : Exc (fun k => k = p) w1 W3 := by rw [← hW3]; exact hxp.alloc _
  have ou3 : Own W3 w1.heap.size 45 (unCells ⟨ub, bb, uf, fb, uk, us, ul⟩ s ul.length ul.length) := by
    have hh := own_lit (w1.setCell ⟨p, 8, none⟩ (.bool false)) 45 #[.int .u8 (ub : Int), .bool bb, .int .u8 (uf : Int), .bool fb, .int .u8 (uk : Int), .int .u8 (us : Int), .slice s ul.length ul.length] _ rfl
    rw [hW3] at hh
    have ez : (w1.setCell ⟨p, 8, none⟩ (.bool false)).heap.size = w1.heap.size := by simp
    rw [ez] at hh
    exact hh
  have z3 : w1.heap.size + 1 ≤ W3.heap.size := by rw [← hW3]; simp
  have hr3 := HR.out.exc hx3 (fun z hz hk => by have h5 := (HZ.out z hz).1; rw [hk, H1.out.cp] at h5; omega)
  obtain ⟨cs, hbuf, hus⟩ := h3.w1
  have hcl := hbuf.len
  have c3 := h3.own.cell 3 (by simp [pairCells])
  have cf3 := h3.own.frozen 3
  simp only [pairCells, List.getD_cons_succ, List.getD_cons_zero] at c3
  obtain ⟨v0, v1, v2, v3, v4, v5, v6⟩ := unit_cells ou3
  simp only at v0 v1 v2 v3 v4 v5 v6
  obtain ⟨i0, hi, hz0, hz1', hz2⟩ := info_parts infoUnit
  have hl3 := H1.out.lowB
  have h8 : ∀ k, k < W3.heap.size → L1.col k = 7 → ¬ (L1.g1 = some k ∨ k = p) := fun k _ hc hs => by
    rcases hs with hs | hs
    · rw [h3.cg1 k hs] at hc; omega
    · rw [hs, h3.cp] at hc; omega
  have hpg : ∀ k, L1.g1 = some k → k ≠ p := fun k hk hp' => by have h5 := h3.cg1 k hk; rw [hp', h3.cp] at h5; omega
  have hnn : st.f1.length + 1 ≤ maxLen := by have := HN.out; unfold maxLen; omega
  have hbb : (st.f1.length + 1) * 32 ≤ 140737488355328 := by have := HN.out; omega
  have H3 := Lib.hid h3
  have HX3 := Lib.hid hx3
  have HU3 := Lib.hid ou3
  have HR3 := Lib.hid hr3
  have HBf := Lib.hid hbuf
  have HUs := Lib.hid hus
  have HCl := Lib.hid hcl
  have HI := Lib.hid (And.intro hi (And.intro hz0 (And.intro hz1' hz2)))
  have H8 := Lib.hid h8
  have HPg := Lib.hid hpg
  have HNn := Lib.hid (And.intro hnn hbb)
  clear hxp h1' hb3 h3 hx3 ou3 hr3 hbuf hus hcl hi hz0 hz1' hz2 hW3 g8 gf8 c8 cf8 h8 hpg hnn hbb
  have hpz : p ≠ W3.heap.size := by omega
  have hpz2 : p < W3.heap.size := by omega
  have huz2 : w1.heap.size < W3.heap.size := by omega
  have hgp : L1.g1 ≠ some p := fun hk => HPg.out p hk rfl
  have hgu : L1.g1 ≠ some w1.heap.size := fun hk => by have := H1.out.w1_lt hk; omega
  have HG2 := Lib.hid (And.intro hgp hgu)
  have HC3 := Lib.hid (And.intro c3 (And.intro v0 (And.intro v1 (And.intro v2 (And.intro v3 (And.intro v4 (And.intro v5 v6)))))))
  have ew1 : IntKind.i64.wrap ((1 : Int) - 0) = 1 := by decide
  have ew2 : IntKind.i64.wrap (1 : Int) = 1 := by decide
  clear hgp hgu
  have huz : w1.heap.size ≠ W3.heap.size := by omega
  go_region_law
    (first
      | (refine step_append_buf (by rfl) _ _ _ _ (by rfl) 45 i0 _ 7 32 Try.underlying64 HI.out.1 HI.out.2.1 HI.out.2.2.1 HI.out.2.2.2 (by rfl) (by decide) L1.g1 L1.a1 st.f1.length L1.c1 cs (by rfl) (by first | exact HBf.out.later (below_alloc _ _) | exact HBf.out.later ((below_alloc _ _).drew)) _ 1 (unCells ⟨ub, bb, uf, fb, uk, us, ul⟩ s ul.length ul.length) (by rfl) (by exact src_unit (own_lit W3 _ _ _ rfl)) HNn.out.1 HNn.out.2 ?_; intro g' a' c' w4 q1 q2 q3; have hk8 : ∀ (b j : Nat) (v : Value), b < W3.heap.size → W3.cell? ⟨b, j, none⟩ = some v → L1.g1 ≠ some b → w4.cell? ⟨b, j, none⟩ = some v := fun b j v hb hc hg => q2.cell (by first | exact ((below_alloc W3 _).cell (p := ⟨b, j, none⟩) hb).trans hc | exact (((below_alloc W3 _).drew).cell (p := ⟨b, j, none⟩) hb).trans hc) hg; have k3 := hk8 p 3 _ (by omega) HC3.out.1 HG2.out.1; have k40 := hk8 w1.heap.size 0 _ (by omega) HC3.out.2.1 HG2.out.2; have k41 := hk8 w1.heap.size 1 _ (by omega) HC3.out.2.2.1 HG2.out.2; have k42 := hk8 w1.heap.size 2 _ (by omega) HC3.out.2.2.2.1 HG2.out.2; have k43 := hk8 w1.heap.size 3 _ (by omega) HC3.out.2.2.2.2.1 HG2.out.2; have k44 := hk8 w1.heap.size 4 _ (by omega) HC3.out.2.2.2.2.2.1 HG2.out.2; have k45 := hk8 w1.heap.size 5 _ (by omega) HC3.out.2.2.2.2.2.2.1 HG2.out.2; have k46 := hk8 w1.heap.size 6 _ (by omega) HC3.out.2.2.2.2.2.2.2 HG2.out.2; have kf : w4.frozen? ⟨p, 3, none⟩ = false := (by first | exact ((H3.out.own.below (below_alloc W3 _) (by omega)).exc q2 (fun hh => HG2.out.1 hh)).frozen 3 | exact ((H3.out.own.below ((below_alloc W3 _).drew) (by omega)).exc q2 (fun hh => HG2.out.1 hh)).frozen 3); have HQ := Lib.hid (And.intro q1 (And.intro q2 q3)); clear q1 q2 q3 hk8)
      | fail)
  all_goals
    obtain ⟨q1, q2, q3⟩ := HQ.out
    have hx34 : Exc (fun k => L1.g1 = some k) W3 w4 := by first | exact (Exc.of_below (below_alloc W3 _)).trans q2 (fun _ _ hh => hh) | exact (Exc.of_below ((below_alloc W3 _).drew)).trans q2 (fun _ _ hh => hh)
    have hlies : ∀ k, g' = some k → L1.g1 = some k ∨ W3.heap.size ≤ k := fun k hk => by
      rcases q3 k hk with h5 | h5
      · exact .inl h5
      · right
        first | exact Nat.le_trans (below_alloc W3 _).size h5 | exact Nat.le_trans ((below_alloc W3 _).drew).size h5
    have HX34 := Lib.hid hx34
    have HLi := Lib.hid hlies
    have HQ1 := Lib.hid q1
    clear q1 q2 q3 hx34 hlies HQ k3 k40 k41 k42 k43 k44 k45 k46 kf c3 cf3 v0 v1 v2 v3 v4 v5 v6 ew1 ew2
    generalize hW5 : w4.setCell ⟨p, 3, none⟩ (.slice a' (st.f1.length + 1) c') = W5
    have hx45 : Exc (fun k => k = p) w4 W5 := by rw [← hW5]; exact (Exc.refl (fun k => k = p) w4).setCell ⟨p, 3, none⟩ (.inl rfl) _
    have hx35 : Exc (fun k => L1.g1 = some k ∨ k = p) W3 W5 := (HX34.out.weak (fun _ _ hh => .inl hh)).trans hx45 (fun _ _ hh => .inr hh)
    have hx15 : Exc (fun k => L1.g1 = some k ∨ k = p) w1 W5 := (HX3.out.weak (fun _ _ hh => .inr hh)).trans hx35 (fun _ _ hh => hh)
    have ho5 := (H3.out.own.exc HX34.out (fun hh => HG2.out.1 hh)).set 3 (.slice a' (st.f1.length + 1) c')
    rw [hW5] at ho5
    have hgp' : ∀ k, g' = some k → ¬ k = p := fun k hk hp' => by
      rcases HLi.out k hk with h5 | h5
      · exact HPg.out k h5 hp'
      · omega
    have hb5 := HQ1.out.exc hx45 hgp'
    have hr5 := HR3.out.exc hx35 (fun z hz => H8.out z.block (Nat.lt_of_lt_of_le (HZ.out z hz).2 HX3.out.size) (HZ.out z hz).1)
    have hz5 : ∀ z, s = some z → Load W5 (recol L1.col W3.heap.size (fun k => g' = some k) 4) z.block := fun z hz => ⟨by rw [recol_old (Nat.lt_of_lt_of_le (HZ.out z hz).2 HX3.out.size)]; exact (HZ.out z hz).1, Nat.lt_of_lt_of_le (HZ.out z hz).2 hx15.size⟩
    have hway : WayAt W5 (recol L1.col W3.heap.size (fun k => g' = some k) 4) g' a' c' (st.f1 ++ [⟨ub, bb, uf, fb, uk, us, ul⟩]) := WayAt.add HUs.out HCl.out hx35 H8.out (fun k hk => recol_old hk) hb5 hr5 hz5
    have hP := H3.out.way1 hx35 (us := st.f1 ++ [⟨ub, bb, uf, fb, uk, us, ul⟩]) (by
      have e : pairCells { { st with x0 := st.x0.next.2 } with f1 := st.f1 ++ [⟨ub, bb, uf, fb, uk, us, ul⟩] } { L1 with g1 := g', a1 := a', c1 := c', col := recol L1.col W3.heap.size (fun k => g' = some k) 4 } = (pairCells { st with x0 := st.x0.next.2 } L1).set 3 (.slice a' (st.f1.length + 1) c') := by simp [pairCells]
      rw [e]; exact ho5) hway HLi.out
    have hB5 := H1.out.below hx15 (fun k _ hk => by
      rcases hk with hk | hk
      · rw [H1.out.cg1 k hk]; decide
      · rw [hk, H1.out.cp]; decide)
    rw [HEB.out] at hB5
    have HP := Lib.hid hP
    have HB5 := Lib.hid (HB01.out.trans hB5)
    clear hP hB5 hway hz5 hr5 hb5 hgp' ho5 hx15 hx35 hx45 hW5
    go_wp2
    go_end0
    refine ⟨rfl, ⟨_, ?_, HP.out⟩, HB5.out⟩
    exact HEB.out
set_option maxHeartbeats 4000000 in
set_option maxRecDepth 100000 in
theorem send1_any (I : EndFace) (w : World) (p : Nat) (st : PSt) (L : PLay) (h : PairAt I w p st L) (hf : st.x1.failed = false) (hn : st.f0.length ≤ 100000) :
    Calls Try.prog 40 #[.pointer (some ⟨p, 0, none⟩), .int .i64 1] w fun e w' => e = .returned (.tuple #[]) ∧ (∃ L', L'.B = L.B ∧ PairAt I w' p { st with x1 := st.x1.next.2, f0 := st.f0 ++ [st.x1.next.1] } L') ∧ Below L.B w w' := by
  have hcon := I.next h.e1 hf
  have hc := h.own.cell 1 (by simp [pairCells])
  have hp := h.own.lt
  simp only [pairCells, List.getD_cons_succ, List.getD_cons_zero] at hc
  obtain ⟨u, hu⟩ : ∃ u, u = st.x1.next.1 := ⟨_, rfl⟩
  rw [← hu] at hcon ⊢
  obtain ⟨ub, bb, uf, fb, uk, us, ul⟩ := u
  have HC := Lib.hid hcon
  have H := Lib.hid h
  have HN := Lib.hid hn
  have Hu := Lib.hid hu
  clear hcon h hf hn hu
  go_enter Try.func40, Try.ntmps40
  go_wp2_with fail
  refine HC.out.mono ?_
  rintro e w1 ⟨S', ⟨s, rfl, hr, hz⟩, ha, ht⟩
  have h1 := H.out.turn1 ha ht
  have hb01 := H.out.below ht.exc (fun i _ hi => by rw [H.out.s1 i hi]; decide)
  have hs1 := ht.exc.size
  have hz1 : ∀ z, s = some z → Load w1 (recol L.col w.heap.size S' 2) z.block := fun z hzz => ⟨recol_out (by have := (hz z hzz).1; omega) (hz z hzz).2.2, (hz z hzz).2.1⟩
  obtain ⟨L1, hL1⟩ : ∃ X, X = ({ L with S1 := S', col := recol L.col w.heap.size S' 2 } : PLay) := ⟨_, rfl⟩
  have eB : L1.B = L.B := by rw [hL1]
  have ecol : L1.col = recol L.col w.heap.size S' 2 := by rw [hL1]
  rw [← hL1] at h1
  rw [← ecol] at hz1
  obtain ⟨w2, hw2⟩ : ∃ X, X = w1.alloc (.cells (unCells ⟨ub, bb, uf, fb, uk, us, ul⟩ s ul.length ul.length).toArray 45) := ⟨_, rfl⟩
  have hb12 : Below w1.heap.size w1 w2 := by rw [hw2]; exact below_alloc _ _
  have ou2 : Own w2 w1.heap.size 45 (unCells ⟨ub, bb, uf, fb, uk, us, ul⟩ s ul.length ul.length) := by rw [hw2]; exact own_lit w1 _ _ _ rfl
  have h2 := h1.later hb12
  have hp1 : p < w1.heap.size := by omega
  have hne : p ≠ w1.heap.size := by omega
  have h2s := ou2.lt
  have g8 := h2.own.cell 8 (by simp [pairCells])
  have gf8 := h2.own.frozen 8
  simp only [pairCells, List.getD_cons_succ, List.getD_cons_zero] at g8
  have HW2 := Lib.hid hw2
  have H1 := Lib.hid h1
  have H2 := Lib.hid h2
  have HU2 := Lib.hid ou2
  have HR := Lib.hid hr
  have HZ := Lib.hid hz1
  have HB01 := Lib.hid hb01
  have HB12 := Lib.hid hb12
  have HEB := Lib.hid eB
  clear ha ht h1 hz hr hz1 hb01 hL1 ecol hw2 hb12 ou2 h2 hc eB
  have c8 := (H1.out.own.cell 8 (by simp [pairCells]))
  have cf8 := (H1.out.own.frozen 8)
  simp only [pairCells, List.getD_cons_succ, List.getD_cons_zero] at c8
  simp only [unCells] at HW2 HU2 HR ⊢
  go_wp2_with fail
  generalize hW3 : (w1.setCell ⟨p, 8, none⟩ (.bool false)).alloc (.cells #[.int .u8 (ub : Int), .bool bb, .int .u8 (uf : Int), .bool fb, .int .u8 (uk : Int), .int .u8 (us : Int), .slice s ul.length ul.length] 45) = W3
  have hxp : Exc (fun k => k = p) w1 (w1.setCell ⟨p, 8, none⟩ (.bool false)) := (Exc.refl (fun k => k = p) w1).setCell ⟨p, 8, none⟩ (.inl rfl) (.bool false)
  have h1' : PairAt I (w1.setCell ⟨p, 8, none⟩ (.bool false)) p { st with x1 := st.x1.next.2 } L1 := H1.out.redo hxp (H1.out.own.set 8 (.bool false)) rfl rfl rfl rfl rfl rfl rfl
  have hb3 : Below w1.heap.size (w1.setCell ⟨p, 8, none⟩ (.bool false)) W3 := by rw [← hW3]; exact (Below.refl _ _).alloc (by simp) _
  have h3 : PairAt I W3 p { st with x1 := st.x1.next.2 } L1 := by rw [← hW3]; exact h1'.later (below_alloc _ _)
  have hx3 : Exc (fun k => k = p) w1 W3 := by rw [← hW3]; exact hxp.alloc _
  have ou3 : Own W3 w1.heap.size 45 (unCells ⟨ub, bb, uf, fb, uk, us, ul⟩ s ul.length ul.length) := by
    have hh := own_lit (w1.setCell ⟨p, 8, none⟩ (.bool false)) 45 #[.int .u8 (ub : Int), .bool bb, .int .u8 (uf : Int), .bool fb, .int .u8 (uk : Int), .int .u8 (us : Int), .slice s ul.length ul.length] _ rfl
    rw [hW3] at hh
    have ez : (w1.setCell ⟨p, 8, none⟩ (.bool false)).heap.size = w1.heap.size := by simp
    rw [ez] at hh
    exact hh
  have z3 : w1.heap.size + 1 ≤ W3.heap.size := by rw [← hW3]; simp
  have hr3 := HR.out.exc hx3 (fun z hz hk => by have h5 := (HZ.out z hz).1; rw [hk, H1.out.cp] at h5; omega)
  obtain ⟨cs, hbuf, hus⟩ := h3.w0
  have hcl := hbuf.len
  have c3 := h3.own.cell 2 (by simp [pairCells])
  have cf3 := h3.own.frozen 2
  simp only [pairCells, List.getD_cons_succ, List.getD_cons_zero] at c3
  obtain ⟨v0, v1, v2, v3, v4, v5, v6⟩ := unit_cells ou3
  simp only at v0 v1 v2 v3 v4 v5 v6
  obtain ⟨i0, hi, hz0, hz1', hz2⟩ := info_parts infoUnit
  have hl3 := H1.out.lowB
  have h8 : ∀ k, k < W3.heap.size → L1.col k = 7 → ¬ (L1.g0 = some k ∨ k = p) := fun k _ hc hs => by
    rcases hs with hs | hs
    · rw [h3.cg0 k hs] at hc; omega
    · rw [hs, h3.cp] at hc; omega
  have hpg : ∀ k, L1.g0 = some k → k ≠ p := fun k hk hp' => by have h5 := h3.cg0 k hk; rw [hp', h3.cp] at h5; omega
  have hnn : st.f0.length + 1 ≤ maxLen := by have := HN.out; unfold maxLen; omega
  have hbb : (st.f0.length + 1) * 32 ≤ 140737488355328 := by have := HN.out; omega
  have H3 := Lib.hid h3
  have HX3 := Lib.hid hx3
  have HU3 := Lib.hid ou3
  have HR3 := Lib.hid hr3
  have HBf := Lib.hid hbuf
  have HUs := Lib.hid hus
  have HCl := Lib.hid hcl
  have HI := Lib.hid (And.intro hi (And.intro hz0 (And.intro hz1' hz2)))
  have H8 := Lib.hid h8
  have HPg := Lib.hid hpg
  have HNn := Lib.hid (And.intro hnn hbb)
  clear hxp h1' hb3 h3 hx3 ou3 hr3 hbuf hus hcl hi hz0 hz1' hz2 hW3 g8 gf8 c8 cf8 h8 hpg hnn hbb
  have hpz : p ≠ W3.heap.size := by omega
  have hpz2 : p < W3.heap.size := by omega
  have huz2 : w1.heap.size < W3.heap.size := by omega
  have hgp : L1.g0 ≠ some p := fun hk => HPg.out p hk rfl
  have hgu : L1.g0 ≠ some w1.heap.size := fun hk => by have := H1.out.w0_lt hk; omega
  have HG2 := Lib.hid (And.intro hgp hgu)
  have HC3 := Lib.hid (And.intro c3 (And.intro v0 (And.intro v1 (And.intro v2 (And.intro v3 (And.intro v4 (And.intro v5 v6)))))))
  have ew1 : IntKind.i64.wrap ((1 : Int) - 1) = 0 := by decide
  have ew2 : IntKind.i64.wrap (0 : Int) = 0 := by decide
  clear hgp hgu
  have huz : w1.heap.size ≠ W3.heap.size := by omega
  go_region_law
    (first
      | (refine step_append_buf (by rfl) _ _ _ _ (by rfl) 45 i0 _ 7 32 Try.underlying64 HI.out.1 HI.out.2.1 HI.out.2.2.1 HI.out.2.2.2 (by rfl) (by decide) L1.g0 L1.a0 st.f0.length L1.c0 cs (by rfl) (by first | exact HBf.out.later (below_alloc _ _) | exact HBf.out.later ((below_alloc _ _).drew)) _ 1 (unCells ⟨ub, bb, uf, fb, uk, us, ul⟩ s ul.length ul.length) (by rfl) (by exact src_unit (own_lit W3 _ _ _ rfl)) HNn.out.1 HNn.out.2 ?_; intro g' a' c' w4 q1 q2 q3; have hk8 : ∀ (b j : Nat) (v : Value), b < W3.heap.size → W3.cell? ⟨b, j, none⟩ = some v → L1.g0 ≠ some b → w4.cell? ⟨b, j, none⟩ = some v := fun b j v hb hc hg => q2.cell (by first | exact ((below_alloc W3 _).cell (p := ⟨b, j, none⟩) hb).trans hc | exact (((below_alloc W3 _).drew).cell (p := ⟨b, j, none⟩) hb).trans hc) hg; have k3 := hk8 p 2 _ (by omega) HC3.out.1 HG2.out.1; have k40 := hk8 w1.heap.size 0 _ (by omega) HC3.out.2.1 HG2.out.2; have k41 := hk8 w1.heap.size 1 _ (by omega) HC3.out.2.2.1 HG2.out.2; have k42 := hk8 w1.heap.size 2 _ (by omega) HC3.out.2.2.2.1 HG2.out.2; have k43 := hk8 w1.heap.size 3 _ (by omega) HC3.out.2.2.2.2.1 HG2.out.2; have k44 := hk8 w1.heap.size 4 _ (by omega) HC3.out.2.2.2.2.2.1 HG2.out.2; have k45 := hk8 w1.heap.size 5 _ (by omega) HC3.out.2.2.2.2.2.2.1 HG2.out.2; have k46 := hk8 w1.heap.size 6 _ (by omega) HC3.out.2.2.2.2.2.2.2 HG2.out.2; have kf : w4.frozen? ⟨p, 2, none⟩ = false := (by first | exact ((H3.out.own.below (below_alloc W3 _) (by omega)).exc q2 (fun hh => HG2.out.1 hh)).frozen 2 | exact ((H3.out.own.below ((below_alloc W3 _).drew) (by omega)).exc q2 (fun hh => HG2.out.1 hh)).frozen 2); have HQ := Lib.hid (And.intro q1 (And.intro q2 q3)); clear q1 q2 q3 hk8)
      | fail)
  all_goals
    obtain ⟨q1, q2, q3⟩ := HQ.out
    have hx34 : Exc (fun k => L1.g0 = some k) W3 w4 := by first | exact (Exc.of_below (below_alloc W3 _)).trans q2 (fun _ _ hh => hh) | exact (Exc.of_below ((below_alloc W3 _).drew)).trans q2 (fun _ _ hh => hh)
    have hlies : ∀ k, g' = some k → L1.g0 = some k ∨ W3.heap.size ≤ k := fun k hk => by
      rcases q3 k hk with h5 | h5
      · exact .inl h5
      · right
        first | exact Nat.le_trans (below_alloc W3 _).size h5 | exact Nat.le_trans ((below_alloc W3 _).drew).size h5
    have HX34 := Lib.hid hx34
    have HLi := Lib.hid hlies
    have HQ1 := Lib.hid q1
    clear q1 q2 q3 hx34 hlies HQ k3 k40 k41 k42 k43 k44 k45 k46 kf c3 cf3 v0 v1 v2 v3 v4 v5 v6 ew1 ew2
    generalize hW5 : w4.setCell ⟨p, 2, none⟩ (.slice a' (st.f0.length + 1) c') = W5
    have hx45 : Exc (fun k => k = p) w4 W5 := by rw [← hW5]; exact (Exc.refl (fun k => k = p) w4).setCell ⟨p, 2, none⟩ (.inl rfl) _
    have hx35 : Exc (fun k => L1.g0 = some k ∨ k = p) W3 W5 := (HX34.out.weak (fun _ _ hh => .inl hh)).trans hx45 (fun _ _ hh => .inr hh)
    have hx15 : Exc (fun k => L1.g0 = some k ∨ k = p) w1 W5 := (HX3.out.weak (fun _ _ hh => .inr hh)).trans hx35 (fun _ _ hh => hh)
    have ho5 := (H3.out.own.exc HX34.out (fun hh => HG2.out.1 hh)).set 2 (.slice a' (st.f0.length + 1) c')
    rw [hW5] at ho5
    have hgp' : ∀ k, g' = some k → ¬ k = p := fun k hk hp' => by
      rcases HLi.out k hk with h5 | h5
      · exact HPg.out k h5 hp'
      · omega
    have hb5 := HQ1.out.exc hx45 hgp'
    have hr5 := HR3.out.exc hx35 (fun z hz => H8.out z.block (Nat.lt_of_lt_of_le (HZ.out z hz).2 HX3.out.size) (HZ.out z hz).1)
    have hz5 : ∀ z, s = some z → Load W5 (recol L1.col W3.heap.size (fun k => g' = some k) 3) z.block := fun z hz => ⟨by rw [recol_old (Nat.lt_of_lt_of_le (HZ.out z hz).2 HX3.out.size)]; exact (HZ.out z hz).1, Nat.lt_of_lt_of_le (HZ.out z hz).2 hx15.size⟩
    have hway : WayAt W5 (recol L1.col W3.heap.size (fun k => g' = some k) 3) g' a' c' (st.f0 ++ [⟨ub, bb, uf, fb, uk, us, ul⟩]) := WayAt.add HUs.out HCl.out hx35 H8.out (fun k hk => recol_old hk) hb5 hr5 hz5
    have hP := H3.out.way0 hx35 (us := st.f0 ++ [⟨ub, bb, uf, fb, uk, us, ul⟩]) (by
      have e : pairCells { { st with x1 := st.x1.next.2 } with f0 := st.f0 ++ [⟨ub, bb, uf, fb, uk, us, ul⟩] } { L1 with g0 := g', a0 := a', c0 := c', col := recol L1.col W3.heap.size (fun k => g' = some k) 3 } = (pairCells { st with x1 := st.x1.next.2 } L1).set 2 (.slice a' (st.f0.length + 1) c') := by simp [pairCells]
      rw [e]; exact ho5) hway HLi.out
    have hB5 := H1.out.below hx15 (fun k _ hk => by
      rcases hk with hk | hk
      · rw [H1.out.cg0 k hk]; decide
      · rw [hk, H1.out.cp]; decide)
    rw [HEB.out] at hB5
    have HP := Lib.hid hP
    have HB5 := Lib.hid (HB01.out.trans hB5)
    clear hP hB5 hway hz5 hr5 hb5 hgp' ho5 hx15 hx35 hx45 hW5
    go_wp2
    go_end0
    refine ⟨rfl, ⟨_, ?_, HP.out⟩, HB5.out⟩
    exact HEB.out
end Go.Proofs.Ytdjnflfcolpccaa
