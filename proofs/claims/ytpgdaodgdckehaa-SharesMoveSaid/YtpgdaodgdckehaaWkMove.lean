/- SharesMove: the walk. -/
import Derived.Test.YtpgdaodgdckehaaShMk
namespace Go.Proofs.Ytpgdaodgdckehaa
open Go.RowKit

/-- Which links the statement has up. -/
def upN (U : List Bool) (k i : Nat) : Bool := decide (i = k) || upM U i
def notK (f : Nat → Bool) (k i : Nat) : Bool := f i && decide (i ≠ k)
theorem set_false (f : Nat → Bool) {n k : Nat} : ((List.range n).map f).set k false = (List.range n).map (notK f k) := by
  refine List.ext_getElem (by simp) fun i h1 h2 => ?_
  simp at h1 h2
  rw [List.getElem_set]
  by_cases h : k = i
  · subst h; simp [notK]
  · have h' : i ≠ k := fun e => h e.symm
    simp [notK, h, h']
theorem set_true (f : Nat → Bool) {n k : Nat} (hf : f k = true) : ((List.range n).map (notK f k)).set k true = (List.range n).map f := by
  refine List.ext_getElem (by simp) fun i h1 h2 => ?_
  simp at h1 h2
  rw [List.getElem_set]
  by_cases h : k = i
  · subst h; simp [hf]
  · have h' : i ≠ k := fun e => h e.symm
    simp [notK, h, h']
theorem tab_wf {n : Nat} {f : Nat → Bool} (hn : n ≤ 1000) : ∀ x ∈ tab (linkM n f), (Lit.int .i64 x).wf = true := by
  intro x hx
  unfold tab at hx
  obtain ⟨s, _, rfl⟩ := List.mem_map.1 hx
  have := lk_range n f s
  simp [Lit.wf, IntKind.min, IntKind.max, IntKind.bits, IntKind.signed]; omega
theorem move_law2 {n k : Nat} {up : Nat → Bool} (hn : 0 < n) (s : Nat) :
    ∃ home : Nat, linkM n (fun _ => true) s = home ∧ home < n ∧ (home ≠ k → linkM n (notK (fun _ => true) k) s = home) ∧ linkM n (notK up k) s ≠ k ∧ linkM n (notK (fun _ => true) k) s ≠ k ∧
      (up home = true → home ≠ k → linkM n up s = home ∧ linkM n (notK up k) s = home) := by
  have h := move_law (n := n) (k := k) (up := up) hn s
  have e : (fun i => decide (i ≠ k)) = notK (fun _ => true) k := by funext i; simp [notK]
  have e2 : (fun i => up i && decide (i ≠ k)) = notK up k := rfl
  rw [e, e2] at h
  exact h
set_option maxHeartbeats 4000000 in
set_option maxRecDepth 100000 in
theorem move_walk (z : Int) (a' : Option Addr) (n' c' : Nat) (U : List Bool) (y : Int) (w : World) (hz : (Lit.int .u8 z).wf = true) (hU : BRow w a' n' c' U) (hy : (Lit.int .u8 y).wf = true) :
    Calls Try.prog 6 #[.int .u8 z, .slice a' n' c', .int .u8 y] w fun e w' => e = .returned (.bool true) ∧ Below w.heap.size w w' := by
  have hz2 := wf_u8.1 hz
  have hy2 := wf_u8.1 hy
  obtain ⟨s, rfl⟩ : ∃ s : Nat, z = (s : Int) := ⟨z.toNat, by omega⟩
  obtain ⟨t, rfl⟩ : ∃ t : Nat, y = (t : Int) := ⟨y.toNat, by omega⟩
  have HL : Hid (∀ W, Calls Try.prog 8 #[] W fun e w' => e = .returned (.bool true) ∧ Below W.heap.size W w') := Lib.hid lives_any
  have ht255 : (t : Int) ≤ 255 := by omega
  have hs255 : (s : Int) ≤ 255 := by omega
  have hs16 : (s : Int).tmod 16 = ((s % 16 : Nat) : Int) := by rw [Int.tmod_eq_emod_of_nonneg (Int.natCast_nonneg _)]; rfl
  obtain ⟨m, hm⟩ : ∃ m, m = 1 + s % 16 := ⟨_, rfl⟩
  have hm1 : 1 ≤ m := by omega
  have hm2 : m ≤ 16 := by omega
  have hsum : 1 + (s : Int) % 16 = (m : Int) := by omega
  have htm : (t : Int).tmod (m : Int) = ((t % m : Nat) : Int) := by rw [Int.tmod_eq_emod_of_nonneg (Int.natCast_nonneg _)]; rfl
  have hkm : t % m < m := Nat.mod_lt _ (by omega)
  obtain ⟨k, hk⟩ : ∃ k, k = t % m := ⟨_, rfl⟩
  rw [← hk] at htm hkm
  have hm0 : ¬ (m : Int) = 0 := by omega
  have hmk := make_links m (by omega) w
  obtain ⟨W1, hW1⟩ : ∃ W, W = w.alloc (.cells (madeCells #[.int .u16 0, .int .u16 0, .int .u8 0] (m * 3)) 43) := ⟨_, rfl⟩
  have l1 : LinksIn W1 w.heap.size m := by rw [hW1]; exact linksIn_made m w
  have b1 : Below w.heap.size w W1 := by rw [hW1]; exact below_alloc _ _
  have z1 : W1.heap.size = w.heap.size + 1 := by rw [hW1]; simp
  have hmk1 := make_bools m (by omega) W1
  obtain ⟨W2, hW2⟩ : ∃ W, W = W1.alloc (.cells (madeCells #[.bool false] m) 4) := ⟨_, rfl⟩
  have l2 : Own W2 W1.heap.size 4 (bools (List.replicate m false)) := by rw [hW2]; exact own_made_b m _ W1
  have b2 : Below W1.heap.size W1 W2 := by rw [hW2]; exact below_alloc _ _
  have z2 : W2.heap.size = w.heap.size + 2 := by rw [hW2]; simp [z1]
  have hmk2 := make_bools m (by omega) W2
  obtain ⟨W3, hW3⟩ : ∃ W, W = W2.alloc (.cells (madeCells #[.bool false] m) 4) := ⟨_, rfl⟩
  have l3 : Own W3 W2.heap.size 4 (bools (List.replicate m false)) := by rw [hW3]; exact own_made_b m _ W2
  have b3 : Below W2.heap.size W2 W3 := by rw [hW3]; exact below_alloc _ _
  have z3 : W3.heap.size = w.heap.size + 3 := by rw [hW3]; simp [z2]
  rw [← hW1] at hmk
  rw [← hW2] at hmk1
  rw [← hW3] at hmk2
  have l1' := (l1.below b2).below b3
  have l2' := l2.below b3 l2.lt
  have bb := b1.trans ((b2.trans (b3.mono b2.size)).mono b1.size)
  rw [z1] at l2' hmk1
  rw [z2] at l3 hmk2
  obtain ⟨g, hg⟩ : ∃ g, g = w.heap.size := ⟨_, rfl⟩
  rw [← hg] at l1' l2' l3 hmk hmk1 hmk2 z3
  have H1 := Lib.hid l1'
  have H2 := Lib.hid l2'
  have H3 := Lib.hid l3
  have HB := Lib.hid bb
  have HG := Lib.hid hg
  have HU := Lib.hid hU
  have HZ3 := Lib.hid z3
  clear hz hy hz2 hy2 hm hk l1 l2 l3 b1 b2 b3 z1 z2 z3 l1' l2' bb hg hU hW1 hW2 hW3
  go_enter Try.func6, Try.ntmps6
  go_wp2_with fail
  clear hmk hmk1 hmk2
  go_loopw [11] (fun i wr => ∃ j : Nat, j ≤ m ∧ i = .int .i64 j ∧ LinksIn wr g m ∧ Own wr (g + 1) 4 (bools (boK (upN U k) m j)) ∧ Own wr (g + 2) 4 (bools (boK (fun _ => true) m j)) ∧ Below g w wr) (fun i _ => m - (intOf i).toNat)
  case atStart => exact ⟨0, Nat.zero_le _, rfl, H1.out, by rw [boK_0]; exact H2.out, by rw [boK_0]; exact H3.out, by rw [HG.out]; exact HB.out⟩
  case round =>
    obtain ⟨j, hj, rfl, hl, hu, ha, hb⟩ := hrel
    by_cases hjm : j < m
    · have hw8 : IntKind.u8.wrap (j : Int) = (j : Int) := IntWalk.u8_in _ (by omega)
      obtain ⟨⟨x, cx⟩, fx⟩ := hl.code hjm
      obtain ⟨Wa, hWa⟩ : ∃ W, W = wr.setCell ⟨g, j * 3 + 2, none⟩ (.int .u8 (j : Int)) := ⟨_, rfl⟩
      have hla : LinksIn Wa g m := by rw [hWa]; exact hl.set hjm _
      have hua : Own Wa (g + 1) 4 (bools (boK (upN U k) m j)) := by rw [hWa]; exact hu.other _ (by simp) _
      have haa : Own Wa (g + 2) 4 (bools (boK (fun _ => true) m j)) := by rw [hWa]; exact ha.other _ (by simp) _
      have hba : Below g w Wa := by rw [hWa]; exact hb.setCell (Nat.le_refl _) _
      have cu := hua.cell j (by rw [bools_length, boK_length _ hj]; exact hjm)
      have fu := hua.frozen j
      have hres : ∀ v : Bool, upN U k j = v → ∃ Wb Wc, Wb = Wa.setCell ⟨g + 1, j, none⟩ (.bool v) ∧ Wc = Wb.setCell ⟨g + 2, j, none⟩ (.bool true) ∧ (∃ u, Wb.cell? ⟨g + 2, j, none⟩ = some u) ∧ Wb.frozen? ⟨g + 2, j, none⟩ = false ∧
          LinksIn Wc g m ∧ Own Wc (g + 1) 4 (bools (boK (upN U k) m (j + 1))) ∧ Own Wc (g + 2) 4 (bools (boK (fun _ => true) m (j + 1))) ∧ Below g w Wc := by
        intro v hv
        have o1 := setCell_bown hua j v
        rw [← hv, boK_set _ hjm, hv] at o1
        have o2 := haa.other ⟨g + 1, j, none⟩ (by simp) (.bool v)
        have o3 := hla.exc ((Exc.refl (fun q => q = g + 1) Wa).setCell ⟨g + 1, j, none⟩ (.inl rfl) (.bool v)) (by omega)
        have o4 := setCell_bown o2 j true
        rw [show (boK (fun _ => true) m j).set j true = boK (fun _ => true) m (j + 1) from boK_set (fun _ => true) hjm] at o4
        refine ⟨_, _, rfl, rfl, ⟨_, o2.cell j (by rw [bools_length, boK_length _ hj]; exact hjm)⟩, o2.frozen j, ?_, ?_, o4, ?_⟩
        · exact o3.exc ((Exc.refl (fun q => q = g + 2) _).setCell ⟨g + 2, j, none⟩ (.inl rfl) (.bool true)) (by omega)
        · exact o1.other _ (by simp) _
        · exact (hba.setCell (p := ⟨g + 1, j, none⟩) (Nat.le_succ _) _).setCell (p := ⟨g + 2, j, none⟩) (by show g ≤ g + 2; omega) _
      have HRes := Lib.hid hres
      have hU2 : BRow Wa a' n' c' U := HU.out.later (by rw [← HG.out]; exact hba)
      clear hl hu ha hb hla hua haa hba hres
      subst hWa
      by_cases hjk : j = k
      · have hv : upN U k j = true := by unfold upN; simp [hjk]
        obtain ⟨Wb, Wc, e1, e2, ⟨u2, c2⟩, f2, r1, r2, r3, r4⟩ := HRes.out true hv
        have hjkb : ((j : Int) == (k : Int)) = true := by simp [hjk]
        have R1 := Lib.hid r1
        have R2 := Lib.hid r2
        have R3 := Lib.hid r3
        have R4 := Lib.hid r4
        clear hU2 HRes r1 r2 r3 r4 hv
        subst e1
        subst e2
        subst hjk
        go_wp2
        exact ⟨⟨j + 1, by omega, by go_num, R1.out, R2.out, R3.out, R4.out⟩, by simp [intOf]; omega⟩
      · have hjkb : ((j : Int) == (k : Int)) = false := by simp; omega
        have hvk : ∀ v, upM U j = v → upN U k j = v := fun v h => by unfold upN; rw [h]; simp [hjk]
        by_cases hjn : j < n'
        · obtain ⟨ub, uo, rfl, hc⟩ := hU2.at (by omega)
          have c0 := hc j hjn
          have e : upM U j = U.getD j true := by unfold upM; rw [decide_eq_true (by have := hU2.len; omega), Bool.true_and]
          generalize U.getD j true = u at *
          obtain ⟨Wb, Wc, e1, e2, ⟨u2, c2⟩, f2, r1, r2, r3, r4⟩ := HRes.out u (hvk u e)
          have hjni : (j : Int) < (n' : Int) := by omega
          have R1 := Lib.hid r1
          have R2 := Lib.hid r2
          have R3 := Lib.hid r3
          have R4 := Lib.hid r4
          clear hU2 HRes r1 r2 r3 r4 hvk hc e hjk
          subst e1
          subst e2
          go_wp2
          exact ⟨⟨j + 1, by omega, by go_num, R1.out, R2.out, R3.out, R4.out⟩, by simp [intOf]; omega⟩
        · have e : upM U j = false := by unfold upM; rw [decide_eq_false (by have := hU2.len; omega), Bool.false_and]
          obtain ⟨Wb, Wc, e1, e2, ⟨u2, c2⟩, f2, r1, r2, r3, r4⟩ := HRes.out false (hvk false e)
          have hjni : ¬ (j : Int) < (n' : Int) := by omega
          have R1 := Lib.hid r1
          have R2 := Lib.hid r2
          have R3 := Lib.hid r3
          have R4 := Lib.hid r4
          clear hU2 HRes r1 r2 r3 r4 hvk e hjk
          subst e1
          subst e2
          go_wp2
          exact ⟨⟨j + 1, by omega, by go_num, R1.out, R2.out, R3.out, R4.out⟩, by simp [intOf]; omega⟩
    · obtain rfl : j = m := by omega
      obtain ⟨w4, hw4⟩ : ∃ x, x = wr := ⟨_, rfl⟩
      rw [← hw4] at hl hu ha hb ⊢
      rw [boK_all] at hu ha
      have hgs := hl.lt
      have hkk : upN U k k = true := by unfold upN; simp
      generalize hup : upN U k = F at *
      have HKK := Lib.hid hkk
      have P1 := Lib.hid hl
      have P2 := Lib.hid hu
      have P3 := Lib.hid ha
      have PB := Lib.hid hb
      have hki : (k : Int) < (j : Int) := by omega
      clear hl hu ha hb hw4 H1 H2 H3 HB HU hkk hup HZ3
      have w4f : g + 2 < w4.heap.size := P3.out.lt
      go_wp2_with fail
      obtain ⟨Za, hza⟩ := P1.out.zrow (by omega)
      with_reducible refine (lines_any (some ⟨g, 0, none⟩) j j Za (some ⟨g + 1, 0, none⟩) j j _ w4 (by omega) hza (bo_full P2.out (by omega))).mono ?_
      rintro e wa ⟨ga, hga, rfl, hoa, hxa⟩
      rw [tab_congr (fun s => linkM_up F j s)] at hoa
      have P1 := Lib.hid (P1.out.below hxa)
      have P2 := Lib.hid (P2.out.below hxa P2.out.lt)
      have P3 := Lib.hid (P3.out.below hxa P3.out.lt)
      have PB := Lib.hid (PB.out.trans (hxa.mono (Nat.le_trans (Nat.le_of_lt (Nat.lt_of_le_of_lt (Nat.le_add_right g 2) w4f)) (Nat.le_refl _))))
      have Ta := Lib.hid hoa
      have Ga : g + 2 < ga := Nat.lt_of_lt_of_le (by have := w4f; exact this) hga
      clear hza hga hoa hxa
      have waf : g + 2 < wa.heap.size := P3.out.lt
      go_wp2_with fail
      obtain ⟨Zb, hzb⟩ := P1.out.zrow (by omega)
      with_reducible refine (lines_any (some ⟨g, 0, none⟩) j j Zb (some ⟨g + 2, 0, none⟩) j j _ wa (by omega) hzb (bo_full P3.out (by omega))).mono ?_
      rintro e wb ⟨gb, hgb, rfl, hob, hxb⟩
      rw [tab_congr (fun s => linkM_up (fun _ => true) j s)] at hob
      have P1 := Lib.hid (P1.out.below hxb)
      have P2 := Lib.hid (P2.out.below hxb P2.out.lt)
      have P3 := Lib.hid (P3.out.below hxb P3.out.lt)
      have Ta := Lib.hid (Ta.out.below hxb Ta.out.lt)
      have PB := Lib.hid (PB.out.trans (hxb.mono (Nat.le_trans (Nat.le_of_lt (Nat.lt_of_le_of_lt (Nat.le_add_right g 2) waf)) (Nat.le_refl _))))
      have Tb := Lib.hid hob
      have Gb : g + 2 < gb := Nat.lt_of_lt_of_le (by have := waf; exact this) hgb
      clear hzb hgb hob hxb
      go_upto_region 13 with fail
      have ckwb := P2.out.cell k (by rw [bools_length]; simpa using hkm)
      have fkwb := P2.out.frozen k
      have q1 := setCell_bown P2.out k false
      rw [set_false F] at q1
      have q2 := P3.out.other ⟨g + 1, k, none⟩ (by simp) (.bool false)
      have q3 := P1.out.exc ((Exc.refl (fun q => q = g + 1) wb).setCell ⟨g + 1, k, none⟩ (.inl rfl) (.bool false)) (by omega)
      have q4 := PB.out.setCell (p := ⟨g + 1, k, none⟩) (by show g ≤ g + 1; omega) (.bool false)
      have r0 := Ta.out.other ⟨g + 1, k, none⟩ (by have := Ga; show _ ≠ g + 1; omega) (.bool false)
      have r1 := Tb.out.other ⟨g + 1, k, none⟩ (by have := Gb; show _ ≠ g + 1; omega) (.bool false)
      go_upto_region 14 with fail
      generalize wb.setCell ⟨g + 1, k, none⟩ (.bool false) = wc at *
      have P2 := Lib.hid q1
      have P3 := Lib.hid q2
      have P1 := Lib.hid q3
      have PB := Lib.hid q4
      have Ta := Lib.hid r0
      have Tb := Lib.hid r1
      clear ckwb fkwb q1 q2 q3 q4 r0 r1
      have ckwc := P3.out.cell k (by rw [bools_length]; simpa using hkm)
      have fkwc := P3.out.frozen k
      have q1 := setCell_bown P3.out k false
      rw [set_false (fun _ => true)] at q1
      have q2 := P2.out.other ⟨g + 2, k, none⟩ (by simp) (.bool false)
      have q3 := P1.out.exc ((Exc.refl (fun q => q = g + 2) wc).setCell ⟨g + 2, k, none⟩ (.inl rfl) (.bool false)) (by omega)
      have q4 := PB.out.setCell (p := ⟨g + 2, k, none⟩) (by show g ≤ g + 2; omega) (.bool false)
      have r0 := Ta.out.other ⟨g + 2, k, none⟩ (by have := Ga; show _ ≠ g + 2; omega) (.bool false)
      have r1 := Tb.out.other ⟨g + 2, k, none⟩ (by have := Gb; show _ ≠ g + 2; omega) (.bool false)
      go_upto_region 15 with fail
      generalize wc.setCell ⟨g + 2, k, none⟩ (.bool false) = wd at *
      have P3 := Lib.hid q1
      have P2 := Lib.hid q2
      have P1 := Lib.hid q3
      have PB := Lib.hid q4
      have Ta := Lib.hid r0
      have Tb := Lib.hid r1
      clear ckwc fkwc q1 q2 q3 q4 r0 r1
      have wdf : g + 2 < wd.heap.size := P3.out.lt
      go_wp2_with fail
      obtain ⟨Zc, hzc⟩ := P1.out.zrow (by omega)
      with_reducible refine (lines_any (some ⟨g, 0, none⟩) j j Zc (some ⟨g + 1, 0, none⟩) j j _ wd (by omega) hzc (bo_full P2.out (by omega))).mono ?_
      rintro e we ⟨gc, hgc, rfl, hoc, hxc⟩
      rw [tab_congr (fun s => linkM_up (notK F k) j s)] at hoc
      have P1 := Lib.hid (P1.out.below hxc)
      have P2 := Lib.hid (P2.out.below hxc P2.out.lt)
      have P3 := Lib.hid (P3.out.below hxc P3.out.lt)
      have Ta := Lib.hid (Ta.out.below hxc Ta.out.lt)
      have Tb := Lib.hid (Tb.out.below hxc Tb.out.lt)
      have PB := Lib.hid (PB.out.trans (hxc.mono (Nat.le_trans (Nat.le_of_lt (Nat.lt_of_le_of_lt (Nat.le_add_right g 2) wdf)) (Nat.le_refl _))))
      have Tc := Lib.hid hoc
      have Gc : g + 2 < gc := Nat.lt_of_lt_of_le (by have := wdf; exact this) hgc
      clear hzc hgc hoc hxc
      have wef : g + 2 < we.heap.size := P3.out.lt
      go_wp2_with fail
      obtain ⟨Zd, hzd⟩ := P1.out.zrow (by omega)
      with_reducible refine (lines_any (some ⟨g, 0, none⟩) j j Zd (some ⟨g + 2, 0, none⟩) j j _ we (by omega) hzd (bo_full P3.out (by omega))).mono ?_
      rintro e wf ⟨gd, hgd, rfl, hod, hxd⟩
      rw [tab_congr (fun s => linkM_up (notK (fun _ => true) k) j s)] at hod
      have P1 := Lib.hid (P1.out.below hxd)
      have P2 := Lib.hid (P2.out.below hxd P2.out.lt)
      have P3 := Lib.hid (P3.out.below hxd P3.out.lt)
      have Ta := Lib.hid (Ta.out.below hxd Ta.out.lt)
      have Tb := Lib.hid (Tb.out.below hxd Tb.out.lt)
      have Tc := Lib.hid (Tc.out.below hxd Tc.out.lt)
      have PB := Lib.hid (PB.out.trans (hxd.mono (Nat.le_trans (Nat.le_of_lt (Nat.lt_of_le_of_lt (Nat.le_add_right g 2) wef)) (Nat.le_refl _))))
      have Td := Lib.hid hod
      have Gd : g + 2 < gd := Nat.lt_of_lt_of_le (by have := wef; exact this) hgd
      clear hzd hgd hod hxd
      go_upto_region 17 with fail
      have ckwf := P2.out.cell k (by rw [bools_length]; simpa using hkm)
      have fkwf := P2.out.frozen k
      have q1 := setCell_bown P2.out k true
      rw [set_true F HKK.out] at q1
      have q2 := P3.out.other ⟨g + 1, k, none⟩ (by simp) (.bool true)
      have q3 := P1.out.exc ((Exc.refl (fun q => q = g + 1) wf).setCell ⟨g + 1, k, none⟩ (.inl rfl) (.bool true)) (by omega)
      have q4 := PB.out.setCell (p := ⟨g + 1, k, none⟩) (by show g ≤ g + 1; omega) (.bool true)
      have r0 := Ta.out.other ⟨g + 1, k, none⟩ (by have := Ga; show _ ≠ g + 1; omega) (.bool true)
      have r1 := Tb.out.other ⟨g + 1, k, none⟩ (by have := Gb; show _ ≠ g + 1; omega) (.bool true)
      have r2 := Tc.out.other ⟨g + 1, k, none⟩ (by have := Gc; show _ ≠ g + 1; omega) (.bool true)
      have r3 := Td.out.other ⟨g + 1, k, none⟩ (by have := Gd; show _ ≠ g + 1; omega) (.bool true)
      go_upto_region 18 with fail
      generalize wf.setCell ⟨g + 1, k, none⟩ (.bool true) = wg at *
      have P2 := Lib.hid q1
      have P3 := Lib.hid q2
      have P1 := Lib.hid q3
      have PB := Lib.hid q4
      have Ta := Lib.hid r0
      have Tb := Lib.hid r1
      have Tc := Lib.hid r2
      have Td := Lib.hid r3
      clear ckwf fkwf q1 q2 q3 q4 r0 r1 r2 r3
      have wgf : g + 2 < wg.heap.size := P3.out.lt
      go_wp2_with fail
      obtain ⟨Ze, hze⟩ := P1.out.zrow (by omega)
      with_reducible refine (lines_any (some ⟨g, 0, none⟩) j j Ze (some ⟨g + 1, 0, none⟩) j j _ wg (by omega) hze (bo_full P2.out (by omega))).mono ?_
      rintro e wh ⟨ge, hge, rfl, hoe, hxe⟩
      rw [tab_congr (fun s => linkM_up F j s)] at hoe
      have P1 := Lib.hid (P1.out.below hxe)
      have P2 := Lib.hid (P2.out.below hxe P2.out.lt)
      have P3 := Lib.hid (P3.out.below hxe P3.out.lt)
      have Ta := Lib.hid (Ta.out.below hxe Ta.out.lt)
      have Tb := Lib.hid (Tb.out.below hxe Tb.out.lt)
      have Tc := Lib.hid (Tc.out.below hxe Tc.out.lt)
      have Td := Lib.hid (Td.out.below hxe Td.out.lt)
      have PB := Lib.hid (PB.out.trans (hxe.mono (Nat.le_trans (Nat.le_of_lt (Nat.lt_of_le_of_lt (Nat.le_add_right g 2) wgf)) (Nat.le_refl _))))
      have Te := Lib.hid hoe
      have Ge : g + 2 < ge := Nat.lt_of_lt_of_le (by have := wgf; exact this) hge
      clear hze hge hoe hxe
      have hrow := fun (b : Nat) W (h : Own W b 3 (nums .i64 (tab (linkM j F)))) => h.row0 16 16 (tab_length _).symm (Nat.le_refl _) (by unfold maxLen; decide) (tab_wf (by omega))
      go_wp2_with fail
      have whf : g + 2 < wh.heap.size := P3.out.lt
      with_reducible refine (ints_same (some ⟨ge, 0, none⟩) 16 (some ⟨ga, 0, none⟩) 16 (tab (linkM j F)) _ (hrow _ _ Te.out) (hrow _ _ Ta.out)).mono ?_
      rintro e wi ⟨rfl, hx⟩
      have Ta := Lib.hid (Ta.out.below hx Ta.out.lt)
      have Tb := Lib.hid (Tb.out.below hx Tb.out.lt)
      have Tc := Lib.hid (Tc.out.below hx Tc.out.lt)
      have Td := Lib.hid (Td.out.below hx Td.out.lt)
      have P2 := Lib.hid (P2.out.below hx P2.out.lt)
      have PB := Lib.hid (PB.out.trans (hx.mono (by omega)))
      have wif : g + 2 < wi.heap.size := Nat.lt_of_lt_of_le whf hx.size
      clear hx hrow Te P1 P3
      go_wp2_with fail
      go_loopw [17] (fun i wr => ∃ q : Nat, q ≤ 16 ∧ i = .int .i64 q ∧ Below wi.heap.size wi wr) (fun i _ => 16 - (intOf i).toNat)
      case atStart => exact ⟨0, Nat.zero_le _, rfl, Below.refl _ _⟩
      case round =>
        obtain ⟨q, hq, rfl, hb⟩ := hrel
        by_cases hqn : q < 16
        · have cell : ∀ (b : Nat) (f : Nat → Int), Own wi b 3 (nums .i64 (tab f)) → wr.cell? ⟨b, q, none⟩ = some (.int .i64 (f q)) := fun b f h => by
            have h2 := (h.below hb h.lt).cell q (by rw [nums_length, tab_length]; exact hqn)
            rw [nums_getD _ _ _ (by rw [tab_length]; exact hqn), tab_getD _ hqn] at h2
            exact h2
          have ca := cell _ _ Ta.out
          have cb := cell _ _ Tb.out
          have cc := cell _ _ Tc.out
          have cd := cell _ _ Td.out
          obtain ⟨home, e1, e2, e3, e4, e5, e6⟩ := move_law2 (n := j) (k := k) (up := F) (by omega) q
          have cu := (P2.out.below hb P2.out.lt).cell home (by rw [bools_length]; simpa using e2)
          rw [bools_getD _ _ (by simpa using e2), show ((List.range j).map F).getD home true = F home by simp [List.getD_eq_getElem?_getD, e2]] at cu
          rw [e1] at cb
          generalize linkM j (notK F k) q = vc at *
          generalize linkM j (notK (fun _ => true) k) q = vd at *
          generalize linkM j F q = va at *
          have hhj : (home : Int) < (j : Int) := by omega
          have b4 : (vc == (k : Int)) = false := by simpa using e4
          have n4 : ¬ vc = (k : Int) := e4
          have n5 : ¬ vd = (k : Int) := e5
          have b5 : (vd == (k : Int)) = false := by simpa using e5
          have HBr := Lib.hid hb
          have E3 := Lib.hid e3
          have E6 := Lib.hid e6
          have hu0 : F home = F home := rfl
          generalize hFu : F home = u at *
          clear cell hb e1 e3 e4 e5 e6 hu0
          clear HL HG P2 PB Ta Tb Tc Td Ga Gb Gc Gd Ge w4f waf wdf wef wgf whf wif hs16 htm hsum hgs ht255 hs255
          have hh0 : ¬ (home : Int) < 0 := by omega
          have hh1 : ¬ j ≤ home := by omega
          have hh2 : decide ((home : Int) < 0) = false := decide_eq_false hh0
          have hh3 : decide (j ≤ home) = false := decide_eq_false hh1
          by_cases hhk : home = k
          · have hb1 : ((home : Int) == (k : Int)) = true := by simp [hhk]
            have hb2 : (home == k) = true := by simp [hhk]
            have hb3 : (home != k) = false := by simp [hhk]
            have hb4 : ((home : Int) != (k : Int)) = false := by simp [hhk]
            have hb5 : decide (home = k) = true := by simp [hhk]
            have hut : u = true := by rw [← hFu, hhk]; exact HKK.out
            clear E3 E6 hFu HKK
            subst hut
            clear hhk
            · go_wp2
              try simp only [List.append_eq, List.cons_append, List.nil_append]
              go_quiet (fail)
              go_wp2
              exact ⟨⟨q + 1, by omega, by go_num, HBr.out.trans ((below_draw _ _).mono HBr.out.size)⟩, by simp [intOf]; omega⟩
          · have hb1 : ((home : Int) == (k : Int)) = false := by simp; omega
            have hb2 : (home == k) = false := by simp [hhk]
            have hb3 : (home != k) = true := by simp [hhk]
            have hb4 : ((home : Int) != (k : Int)) = true := by simp; omega
            have hb5 : decide (home = k) = false := by simp [hhk]
            clear HKK
            have e3 := E3.out hhk
            subst e3
            cases u
            · clear E3 E6 hFu
              go_wp2
              try simp only [List.append_eq, List.cons_append, List.nil_append]
              go_quiet (fail)
              go_wp2
              exact ⟨⟨q + 1, by omega, by go_num, HBr.out.trans ((below_draw _ _).mono HBr.out.size)⟩, by simp [intOf]; omega⟩
            · obtain ⟨rfl, rfl⟩ := E6.out rfl hhk
              clear E3 E6 hFu
              go_wp2
              try simp only [List.append_eq, List.cons_append, List.nil_append]
              go_quiet (fail)
              go_wp2
              exact ⟨⟨q + 1, by omega, by go_num, HBr.out.trans ((below_draw _ _).mono HBr.out.size)⟩, by simp [intOf]; omega⟩
        · obtain rfl : q = 16 := by omega
          have HB9 := Lib.hid (PB.out.trans (hb.mono (by omega)))
          clear hb
          go_wp2_with fail
          with_reducible refine (HL.out _).mono ?_
          rintro e w8 ⟨rfl, hb8⟩
          have HB8 : Hid (Below w.heap.size w w8) := Lib.hid (by
            have h1 := HB9.out
            have h2 := HG.out
            subst h2
            exact h1.trans (hb8.mono h1.size))
          clear hb8
          go_wp2
          go_ret
          exact ⟨rfl, HB8.out⟩
end Go.Proofs.Ytpgdaodgdckehaa
