/- SharesEven: the walk. -/
import Derived.Test.YtpgdaodgdckehaaShMk
namespace Go.Proofs.Ytpgdaodgdckehaa
open Go.RowKit

theorem infoCh : (Try.prog.info? 48).map (fun i => (i.zero, i.size, i.bytes)) = some (some (.agg #[.int .u16 0, .int .i64 0]), 2, 16) := by kernel_rfl
theorem infoSt : (Try.prog.info? 49).map (fun i => (i.zero, i.size, i.bytes)) = some (some (.int .u8 0), 1, 1) := by kernel_rfl
theorem make_choices (n : Nat) (hn : n ≤ 1000) (w : World) :
    (Instr.makeSlice 22 (.int .i64 (n : Int)) (.int .i64 (n : Int))).run Try.prog w = .ok (.slice (some ⟨w.heap.size, 0, none⟩) n n) (w.alloc (.cells (madeCells #[.int .u16 0, .int .i64 0] (n * 2)) 48)) := by
  obtain ⟨i, hi, hz0, hz1, hz2⟩ := info_parts infoCh
  have h := run_make (P := Try.prog) w 22 48 i _ Try.underlying22 hi hz0 .i64 .i64 n n (by omega) (by omega) (by rw [hz2]; omega) (by omega)
  rw [hz1] at h
  simpa [Value.cells] using h
theorem make_sts (n : Nat) (hn : n ≤ 1000) (w : World) :
    (Instr.makeSlice 23 (.int .i64 (n : Int)) (.int .i64 (n : Int))).run Try.prog w = .ok (.slice (some ⟨w.heap.size, 0, none⟩) n n) (w.alloc (.cells (madeCells #[.int .u8 0] n) 49)) :=
  run_make_row' 23 49 (.int .u8 0) 1 Try.underlying23 infoSt rfl .i64 .i64 n (by omega) (by omega) w
theorem make_nums (n : Nat) (hn : n ≤ 1000) (w : World) :
    (Instr.makeSlice 31 (.int .i64 (n : Int)) (.int .i64 (n : Int))).run Try.prog w = .ok (.slice (some ⟨w.heap.size, 0, none⟩) n n) (w.alloc (.cells (madeCells #[.int .i64 0] n) 3)) :=
  run_make_row' 31 3 (.int .i64 0) 8 Try.underlying31 info64 rfl .i64 .i64 n (by omega) (by omega) w
theorem crow_made (n : Nat) (hn : n ≤ 1000) (w : World) : CRow (w.alloc (.cells (madeCells #[.int .u16 0, .int .i64 0] (n * 2)) 48)) (some ⟨w.heap.size, 0, none⟩) n n (List.replicate n (0, 0)) := by
  refine ⟨by simp, Nat.le_refl _, by unfold maxLen; omega, .inr ⟨w.heap.size, 0, rfl, fun i hi => ?_⟩⟩
  have ho := lit_own w 48 (madeCells #[.int .u16 0, .int .i64 0] (n * 2)) _ rfl
  have e : (List.replicate n ((0 : Int), (0 : Int))).getD i (0, 0) = (0, 0) := by rw [List.getD_eq_getElem?_getD, List.getElem?_replicate, if_pos hi]; rfl
  rw [e]
  simp only [Nat.zero_add]
  have h0 : i * 2 < n * 2 := by omega
  have h1 : i * 2 + 1 < n * 2 := by omega
  have e0 : i * 2 % 2 = 0 := by omega
  have e1 : (i * 2 + 1) % 2 = 1 := by omega
  exact ⟨by rw [ho.cell (i * 2) (by simp [madeCells]; omega)]; simp [madeCells, List.getD_eq_getElem?_getD, h0], by rw [ho.cell (i * 2 + 1) (by simp [madeCells]; omega)]; simp [madeCells, List.getD_eq_getElem?_getD, h1, e1]⟩
theorem zeros_next : ∀ n, n < 17 → 0 < n → ∀ s, s < 16 → nextM (rks (List.replicate n (0, 0))) (List.replicate n 0) s = placeM (List.range n) (fun _ => true) s := by decide +kernel
theorem tab_congr16 {f g : Nat → Int} (h : ∀ s, s < 16 → f s = g s) : tab f = tab g := by unfold tab; exact List.map_congr_left fun s hs => h s (List.mem_range.1 hs)
theorem place_in {n s : Nat} (hn : 0 < n) : ∃ x : Nat, placeM (List.range n) (fun _ => true) s = x ∧ x < n := by
  have hm : s % n < n := Nat.mod_lt _ hn
  refine ⟨s % n, ?_, hm⟩
  have h := placeM_home (g := List.range n) (us := fun _ => true) (q := s) (by simp; omega) rfl
  rw [List.length_range, range_getD hm] at h
  exact h
theorem link_in {n s : Nat} (hn : 0 < n) : ∃ x : Nat, linkM n (fun _ => true) s = x ∧ x < n := ⟨_, linkM_home hn rfl, Nat.mod_lt _ hn⟩
theorem cntM_le (f : Nat → Int) (i : Nat) : ∀ k, cntM f i k ≤ k
  | 0 => Nat.le_refl _
  | k + 1 => by have := cntM_le f i k; show cntM f i k + (if _ then 1 else 0) ≤ k + 1; split <;> omega
/-- The counters of the first k selection codes. -/
def cnts (f : Nat → Int) (n k : Nat) : List Int := (List.range n).map fun i => (cntM f i k : Int)
theorem cnts_length (f : Nat → Int) (n k : Nat) : (cnts f n k).length = n := by simp [cnts]
theorem cnts_0 (f : Nat → Int) (n : Nat) : cnts f n 0 = List.replicate n 0 := by
  refine List.ext_getElem (by simp [cnts]) fun i h1 h2 => by simp [cnts, cntM]
theorem cnts_getD (f : Nat → Int) {n k i : Nat} (h : i < n) : (cnts f n k).getD i 0 = cntM f i k := by simp [cnts, List.getD_eq_getElem?_getD, h]
theorem cnts_set {f : Nat → Int} {n k x : Nat} (hx : f k = x) : (cnts f n k).set x ((cntM f x k : Int) + 1) = cnts f n (k + 1) := by
  refine List.ext_getElem (by simp [cnts]) fun i h1 h2 => ?_
  rw [List.getElem_set]
  have e : ∀ i, cntM f i (k + 1) = cntM f i k + (if f k = i then 1 else 0) := fun _ => rfl
  by_cases h : x = i
  · subst h
    rw [if_pos rfl]
    simp [cnts, e, hx]
  · rw [if_neg h]
    have : ¬ (x : Int) = (i : Int) := by omega
    simp [cnts, e, hx, this]
set_option maxHeartbeats 4000000 in
set_option maxRecDepth 100000 in
theorem even_walk (z : Int) (w : World) (hz : (Lit.int .u8 z).wf = true) :
    Calls Try.prog 7 #[.int .u8 z] w fun e w' => e = .returned (.bool true) ∧ Below w.heap.size w w' := by
  have hz2 := wf_u8.1 hz
  obtain ⟨s, rfl⟩ : ∃ s : Nat, z = (s : Int) := ⟨z.toNat, by omega⟩
  have HL : Hid (∀ W, Calls Try.prog 8 #[] W fun e w' => e = .returned (.bool true) ∧ Below W.heap.size W w') := Lib.hid lives_any
  have hs255 : (s : Int) ≤ 255 := by omega
  obtain ⟨m, hm⟩ : ∃ m, m = 1 + s % 16 := ⟨_, rfl⟩
  have hm1 : 0 < m := by omega
  have hm2 : m < 17 := by omega
  have hsum : 1 + (s : Int) % 16 = (m : Int) := by omega
  have hmk := make_links m (by omega) w
  obtain ⟨W1, hW1⟩ : ∃ W, W = w.alloc (.cells (madeCells #[.int .u16 0, .int .u16 0, .int .u8 0] (m * 3)) 43) := ⟨_, rfl⟩
  have l1 : LinksIn W1 w.heap.size m := by rw [hW1]; exact linksIn_made m w
  have b1 : Below w.heap.size w W1 := by rw [hW1]; exact below_alloc _ _
  have z1 : W1.heap.size = w.heap.size + 1 := by rw [hW1]; simp
  have hmk1 := make_choices m (by omega) W1
  obtain ⟨W2, hW2⟩ : ∃ W, W = W1.alloc (.cells (madeCells #[.int .u16 0, .int .i64 0] (m * 2)) 48) := ⟨_, rfl⟩
  have l2 : CRow W2 (some ⟨W1.heap.size, 0, none⟩) m m (List.replicate m (0, 0)) := by rw [hW2]; exact crow_made m (by omega) W1
  have b2 : Below W1.heap.size W1 W2 := by rw [hW2]; exact below_alloc _ _
  have z2 : W2.heap.size = w.heap.size + 2 := by rw [hW2]; simp [z1]
  have hmk2 := make_bools m (by omega) W2
  obtain ⟨W3, hW3⟩ : ∃ W, W = W2.alloc (.cells (madeCells #[.bool false] m) 4) := ⟨_, rfl⟩
  have l3 : Own W3 W2.heap.size 4 (bools (List.replicate m false)) := by rw [hW3]; exact own_made_b m _ W2
  have b3 : Below W2.heap.size W2 W3 := by rw [hW3]; exact below_alloc _ _
  have z3 : W3.heap.size = w.heap.size + 3 := by rw [hW3]; simp [z2]
  rw [← hW1] at hmk
  rw [← hW2] at hmk1
  rw [← hW3] at hmk2
  have l1' := (l1.below b2).below b3
  have l2' := l2.later b3
  have bb := b1.trans ((b2.trans (b3.mono b2.size)).mono b1.size)
  rw [z1] at l2' hmk1
  rw [z2] at l3 hmk2
  obtain ⟨g, hg⟩ : ∃ g, g = w.heap.size := ⟨_, rfl⟩
  rw [← hg] at l1' l2' l3 hmk hmk1 hmk2 z3
  have H1 := Lib.hid l1'
  have H2 := Lib.hid l2'
  have H3 := Lib.hid l3
  have HB := Lib.hid bb
  have HG := Lib.hid hg
  have HZ3 := Lib.hid z3
  clear hz hz2 hm l1 l2 l3 b1 b2 b3 z1 z2 z3 l1' l2' bb hg hW1 hW2 hW3
  go_enter Try.func7, Try.ntmps7
  go_wp2_with fail
  clear hmk hmk1 hmk2
  go_loopw [7] (fun i wr => ∃ j : Nat, j ≤ m ∧ i = .int .i64 j ∧ Own wr (g + 2) 4 (bools (boK (fun _ => true) m j)) ∧ Exc (fun q => q = g + 2) W3 wr) (fun i _ => m - (intOf i).toNat)
  case atStart => exact ⟨0, Nat.zero_le _, rfl, by rw [boK_0]; exact H3.out, Exc.refl _ _⟩
  case round =>
    obtain ⟨j, hj, rfl, ha, hx⟩ := hrel
    by_cases hjm : j < m
    · have ca := ha.cell j (by rw [bools_length, boK_length _ hj]; exact hjm)
      have fa := ha.frozen j
      have o4 := setCell_bown ha j true
      rw [show (boK (fun _ => true) m j).set j true = boK (fun _ => true) m (j + 1) from boK_set (fun _ => true) hjm] at o4
      have HO := Lib.hid o4
      have HX := Lib.hid (hx.setCell ⟨g + 2, j, none⟩ (.inl rfl) (.bool true))
      clear ha hx o4
      go_wp2
      exact ⟨⟨j + 1, by omega, by go_num, HO.out, HX.out⟩, by simp [intOf]; omega⟩
    · obtain rfl : j = m := by omega
      obtain ⟨w4, hw4⟩ : ∃ x, x = wr := ⟨_, rfl⟩
      rw [← hw4] at ha hx ⊢
      rw [boK_all] at ha
      have hl := H1.out.exc hx (by omega)
      have hc := H2.out.exc hx (fun x hx => by cases hx; show ¬ (g + 1 = g + 2); omega)
      have hb : Below w.heap.size w w4 := by
        have h1 := HB.out
        have h2 := HG.out
        subst h2
        exact h1.trans (hx.below (by have := HZ3.out; omega) (fun i _ hi => by subst hi; omega))
      obtain ⟨Z, hz⟩ := hl.zrow (by omega)
      have P2 := Lib.hid hc
      have P3 := Lib.hid ha
      have PB := Lib.hid hb
      have hlines := lines_any (some ⟨g, 0, none⟩) j j Z (some ⟨g + 2, 0, none⟩) j j _ w4 (by omega) hz (bo_full ha (by omega))
      have HLi := Lib.hid hlines
      clear hl hc ha hb hx hz hw4 H1 H2 H3 HB HZ3 hlines
      go_wp2_with fail
      with_reducible refine HLi.out.mono ?_
      rintro e w5 ⟨g1, hg1, rfl, ho1, hx1⟩
      rw [tab_congr (fun s => linkM_up (fun _ => true) j s)] at ho1
      have P2 := Lib.hid (P2.out.later hx1)
      have PB := Lib.hid (PB.out.trans (hx1.mono PB.out.size))
      have T1 := Lib.hid ho1
      have hmk := make_sts j (by omega) w5
      clear HLi P3 hg1 ho1 hx1
      have hb6 := below_alloc w5 (.cells (madeCells #[.int .u8 0] j) 49)
      have os := own_made .u8 j 49 w5
      have hst : Row .u8 (w5.alloc (.cells (madeCells #[.int .u8 0] j) 49)) (some ⟨w5.heap.size, 0, none⟩) j j (List.replicate j 0) := os.row0 j j (by simp) (Nat.le_refl _) (by unfold maxLen; omega) (fun x hx => by rw [List.eq_of_mem_replicate hx]; decide)
      have hpl := places_any (some ⟨g + 1, 0, none⟩) j j (List.replicate j (0, 0)) (some ⟨w5.heap.size, 0, none⟩) j j (List.replicate j 0) _ (by omega) (P2.out.later hb6) hst
      have HP := Lib.hid hpl
      have HB6 := Lib.hid hb6
      clear hb6 os hst hpl P2
      go_wp2_with fail
      with_reducible refine HP.out.mono ?_
      rintro e w6 ⟨g2, hg2, rfl, ho2, hx2⟩
      rw [tab_congr16 (zeros_next j (by omega) hm1)] at ho2
      have hy := HB6.out.trans (hx2.mono HB6.out.size)
      have T1 := Lib.hid (T1.out.below hy T1.out.lt)
      have T2 := Lib.hid ho2
      have PB := Lib.hid (PB.out.trans (hy.mono PB.out.size))
      have E1 := Lib.hid (fun q => @link_in j q hm1)
      have E2 := Lib.hid (fun q => @place_in j q hm1)
      have V1 := Lib.hid (even_links j hm2 hm1)
      have V2 := Lib.hid (even_places j hm2 hm1)
      obtain ⟨f1, hf1⟩ : ∃ f, f = linkM j (fun _ => true) := ⟨_, rfl⟩
      obtain ⟨f2, hf2⟩ : ∃ f, f = placeM (List.range j) (fun _ => true) := ⟨_, rfl⟩
      have e2 : (fun s => placeM (List.range j) (fun _ => true) s) = f2 := hf2.symm
      rw [← hf1] at T1 E1 V1
      rw [e2] at V2
      rw [← hf2] at T2 E2
      have hmx := make_nums j (by omega) w6
      have hb7 := below_alloc w6 (.cells (madeCells #[.int .i64 0] j) 3)
      have ox := own_made .i64 j 3 w6
      have zx : (w6.alloc (.cells (madeCells #[.int .i64 0] j) 3)).heap.size = w6.heap.size + 1 := by simp
      generalize w6.alloc (.cells (madeCells #[.int .i64 0] j) 3) = w7 at *
      have hmy := make_nums j (by omega) w7
      have hb8 := below_alloc w7 (.cells (madeCells #[.int .i64 0] j) 3)
      have oy := own_made .i64 j 3 w7
      have ox := ox.below hb8 ox.lt
      rw [zx] at hmy oy
      have hb9 := hb7.trans (hb8.mono hb7.size)
      generalize w7.alloc (.cells (madeCells #[.int .i64 0] j) 3) = w8 at *
      have hgs : w.heap.size ≤ w6.heap.size := PB.out.size
      have D1 := T1.out.lt
      have D2 := T2.out.lt
      have T1 := Lib.hid (T1.out.below hb9 T1.out.lt)
      have T2 := Lib.hid (T2.out.below hb9 T2.out.lt)
      have PB := Lib.hid (PB.out.trans (hb9.mono PB.out.size))
      have X0 : Own w8 w6.heap.size 3 (nums .i64 (cnts f1 j 0)) := by rw [cnts_0]; exact ox
      have Y0 : Own w8 (w6.heap.size + 1) 3 (nums .i64 (cnts f2 j 0)) := by rw [cnts_0]; exact oy
      have X0 := Lib.hid X0
      have Y0 := Lib.hid Y0
      obtain ⟨gx, hgx⟩ : ∃ x, x = w6.heap.size := ⟨_, rfl⟩
      rw [← hgx] at X0 Y0 hmx hmy D1 D2 hgs
      have T1f : Hid (∀ q, q < 16 → ∀ W, Own W g1 3 (nums .i64 (tab f1)) → W.cell? ⟨g1, q, none⟩ = some (.int .i64 (f1 q))) := Lib.hid fun q hqn W h => by
        have h2 := h.cell q (by rw [nums_length, tab_length]; exact hqn)
        rw [nums_getD _ _ _ (by rw [tab_length]; exact hqn), tab_getD _ hqn] at h2
        exact h2
      have T2f : Hid (∀ q, q < 16 → ∀ W, Own W g2 3 (nums .i64 (tab f2)) → W.cell? ⟨g2, q, none⟩ = some (.int .i64 (f2 q))) := Lib.hid fun q hqn W h => by
        have h2 := h.cell q (by rw [nums_length, tab_length]; exact hqn)
        rw [nums_getD _ _ _ (by rw [tab_length]; exact hqn), tab_getD _ hqn] at h2
        exact h2
      clear hb7 hb8 hb9 ox oy zx hx2 hg2 ho2 hy HP HB6 hf1 hf2 e2 hgx
      go_wp2_with fail
      clear hmx hmy hmk
      go_loopw [12] (fun i wr => ∃ q : Nat, q ≤ 16 ∧ i = .int .i64 q ∧ Own wr g1 3 (nums .i64 (tab f1)) ∧ Own wr g2 3 (nums .i64 (tab f2)) ∧ Own wr gx 3 (nums .i64 (cnts f1 j q)) ∧ Own wr (gx + 1) 3 (nums .i64 (cnts f2 j q)) ∧ Below w.heap.size w wr) (fun i _ => 16 - (intOf i).toNat)
      case atStart => exact ⟨0, Nat.zero_le _, rfl, T1.out, T2.out, X0.out, Y0.out, PB.out⟩
      case round =>
        obtain ⟨q, hq, rfl, t1, t2, x1, y1, hb⟩ := hrel
        by_cases hqn : q < 16
        · obtain ⟨a1, ha1, hlt1⟩ := E1.out q
          obtain ⟨a2, ha2, hlt2⟩ := E2.out q
          have ce1 := T1f.out q hqn wr t1
          have ce2 := T2f.out q hqn wr t2
          rw [ha1] at ce1
          rw [ha2] at ce2
          have cx := x1.cell a1 (by rw [nums_length, cnts_length]; exact hlt1)
          rw [nums_getD _ _ _ (by rw [cnts_length]; exact hlt1), cnts_getD _ hlt1] at cx
          have fx := x1.frozen a1
          have le1 := cntM_le f1 a1 q
          have le2 := cntM_le f2 a2 q
          have e3 := cnts_getD f2 (k := q) hlt2
          have sx := cnts_set (f := f1) (n := j) ha1
          have sy := cnts_set (f := f2) (n := j) ha2
          generalize cntM f1 a1 q = m1 at *
          generalize cntM f2 a2 q = m2 at *
          have x2 := setCell_own x1 a1 ((m1 : Int) + 1)
          rw [sx] at x2
          have t1' := t1.other ⟨gx, a1, none⟩ (by show g1 ≠ gx; omega) (.int .i64 ((m1 : Int) + 1))
          have t2' := t2.other ⟨gx, a1, none⟩ (by show g2 ≠ gx; omega) (.int .i64 ((m1 : Int) + 1))
          have y1' := y1.other ⟨gx, a1, none⟩ (by show gx + 1 ≠ gx; omega) (.int .i64 ((m1 : Int) + 1))
          have hb' := hb.setCell (p := ⟨gx, a1, none⟩) (by show w.heap.size ≤ gx; omega) (.int .i64 ((m1 : Int) + 1))
          have ce2' := T2f.out q hqn _ t2'
          rw [ha2] at ce2'
          have cy := y1'.cell a2 (by rw [nums_length, cnts_length]; exact hlt2)
          rw [nums_getD _ _ _ (by rw [cnts_length]; exact hlt2), e3] at cy
          have fy := y1'.frozen a2
          have y2 := setCell_own y1' a2 ((m2 : Int) + 1)
          rw [sy] at y2
          have x3 := x2.other ⟨gx + 1, a2, none⟩ (by show gx ≠ gx + 1; omega) (.int .i64 ((m2 : Int) + 1))
          have t13 := t1'.other ⟨gx + 1, a2, none⟩ (by show g1 ≠ gx + 1; omega) (.int .i64 ((m2 : Int) + 1))
          have t23 := t2'.other ⟨gx + 1, a2, none⟩ (by show g2 ≠ gx + 1; omega) (.int .i64 ((m2 : Int) + 1))
          have hb3 := hb'.setCell (p := ⟨gx + 1, a2, none⟩) (by show w.heap.size ≤ gx + 1; omega) (.int .i64 ((m2 : Int) + 1))
          have R1 := Lib.hid t13
          have R2 := Lib.hid t23
          have R3 := Lib.hid x3
          have R4 := Lib.hid y2
          have R5 := Lib.hid hb3
          have q1 : (a1 : Int) < (j : Int) := by omega
          have q2 : (a2 : Int) < (j : Int) := by omega
          have q3 : (m1 : Int) ≤ 16 := by omega
          have q4 : (m2 : Int) ≤ 16 := by omega
          clear t1 t2 x1 y1 hb x2 t1' t2' y1' hb' y2 x3 t13 t23 hb3 sx sy ha1 ha2 e3
          go_wp2
          exact ⟨⟨q + 1, by omega, by go_num, R1.out, R2.out, R3.out, R4.out, R5.out⟩, by simp [intOf]; omega⟩
        · obtain rfl : q = 16 := by omega
          obtain ⟨w9, hw9⟩ : ∃ x, x = wr := ⟨_, rfl⟩
          rw [← hw9] at x1 y1 hb ⊢
          have X1 := Lib.hid x1
          have Y1 := Lib.hid y1
          have PB := Lib.hid hb
          clear t1 t2 x1 y1 hb hw9 T1 T2 T1f T2f X0 Y0
          go_wp2_with fail
          go_loopw [13] (fun i wr => ∃ r : Nat, r ≤ j ∧ i = .int .i64 r ∧ Below w9.heap.size w9 wr) (fun i _ => j - (intOf i).toNat)
          case atStart => exact ⟨0, Nat.zero_le _, rfl, Below.refl _ _⟩
          case round =>
            obtain ⟨r, hr, rfl, hb⟩ := hrel
            by_cases hrn : r < j
            · have cx := (X1.out.below hb X1.out.lt).cell r (by rw [nums_length, cnts_length]; exact hrn)
              have cy := (Y1.out.below hb Y1.out.lt).cell r (by rw [nums_length, cnts_length]; exact hrn)
              rw [nums_getD _ _ _ (by rw [cnts_length]; exact hrn), cnts_getD _ hrn] at cx cy
              obtain ⟨v1, v2⟩ := V1.out r hrn
              obtain ⟨v3, v4⟩ := V2.out r hrn
              generalize cntM f1 r 16 = m1 at *
              generalize cntM f2 r 16 = m2 at *
              have td1 : (16 : Int).tdiv (j : Int) = ((16 / j : Nat) : Int) := by
                have := Int.tdiv_eq_ediv_of_nonneg (a := 16) (b := (j : Int)) (by decide)
                rw [this]; rfl
              have td2 : (15 + (j : Int)).tdiv (j : Int) = (((15 + j) / j : Nat) : Int) := by
                rw [Int.tdiv_eq_ediv_of_nonneg (by omega)]; rfl
              obtain ⟨lo, hlo⟩ : ∃ x, x = 16 / j := ⟨_, rfl⟩
              obtain ⟨up, hup⟩ : ∃ x, x = (15 + j) / j := ⟨_, rfl⟩
              have hlo16 : lo ≤ 16 := by rw [hlo]; exact Nat.div_le_self _ _
              have hup31 : up ≤ 31 := by rw [hup]; exact Nat.le_trans (Nat.div_le_self _ _) (by omega)
              rw [← hlo] at v1 v3 td1
              rw [← hup] at v2 v4 td2
              have n1 : decide ((m1 : Int) < (lo : Int)) = false := decide_eq_false (by omega)
              have n2 : decide ((up : Int) < (m1 : Int)) = false := decide_eq_false (by omega)
              have n3 : decide ((m2 : Int) < (lo : Int)) = false := decide_eq_false (by omega)
              have n4 : decide ((up : Int) < (m2 : Int)) = false := decide_eq_false (by omega)
              have l1 : ¬ m1 < lo := by omega
              have l2 : ¬ up < m1 := by omega
              have l3 : ¬ m2 < lo := by omega
              have l4 : ¬ up < m2 := by omega
              have hj0 : ¬ (j : Int) = 0 := by omega
              have hj0n : ¬ j = 0 := by omega
              have de1 : (16 : Int) / (j : Int) = (lo : Int) := by rw [← td1]; exact (Int.tdiv_eq_ediv_of_nonneg (by decide)).symm
              have de2 : (15 + (j : Int)) / (j : Int) = (up : Int) := by rw [← td2]; exact (Int.tdiv_eq_ediv_of_nonneg (by omega)).symm
              have hri : (r : Int) < (j : Int) := by omega
              have wl : IntKind.i64.wrap (lo : Int) = lo := IntWalk.i64_in _ (by omega)
              have wu : IntKind.i64.wrap (up : Int) = up := IntWalk.i64_in _ (by omega)
              have HBr := Lib.hid hb
              clear hb hlo hup V1 V2 X1 Y1 E1 E2 PB HL HG
              go_wp2_with fail
              go_quiet (fail)
              go_wp2
              exact ⟨⟨r + 1, by omega, by go_num, HBr.out.trans ((below_draw _ _).mono HBr.out.size)⟩, by simp [intOf]; omega⟩
            · obtain rfl : r = j := by omega
              have HB9 := Lib.hid (PB.out.trans (hb.mono PB.out.size))
              clear hb
              go_wp2_with fail
              with_reducible refine (HL.out _).mono ?_
              rintro e wz ⟨rfl, hb8⟩
              have HB8 := Lib.hid (HB9.out.trans (hb8.mono HB9.out.size))
              clear hb8
              go_wp2
              go_ret
              exact ⟨rfl, HB8.out⟩
end Go.Proofs.Ytpgdaodgdckehaa
