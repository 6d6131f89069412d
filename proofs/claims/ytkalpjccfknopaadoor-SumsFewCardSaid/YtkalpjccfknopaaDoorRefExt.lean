/- Contracts of the reference of layer 3. -/
import Derived.Test.YtkalpjccfknopaaDoorSumsExt
import Derived.Test.YtkalpjccfknopaaDoorAppendZeros
import Derived.Test.YtkalpjccfknopaaDoorRefOf
import Derived.Test.YtkalpjccfknopaaDoorRefValue
import Derived.Test.YtkalpjccfknopaaDoorRefBit
import Derived.StillTailTactics
namespace Go.Proofs.YtkalpjccfknopaaDoor
open Go.RowKit

theorem Only.drew {b : Nat} {a w : World} (h : Only b a w) : Only b a w.drew := ⟨h.os, h.tape, h.output, h.size, h.block⟩
theorem Own.drew {w : World} {b t : Nat} {cs : List Value} (h : Own w b t cs) : Own w.drew b t cs := h
theorem Only.own_far {b p t : Nat} {a w : World} {cs : List Value} (h : Only b a w) (hp : Own a p t cs) (hne : p ≠ b) : Own w p t cs := by
  unfold Own
  rw [h.block p hp.lt (by simpa using hne)]
  exact hp
theorem Own.set_left {w : World} {b t : Nat} {k : IntKind} {l : List Int} {rest : List Value} (h : Own w b t (nums k l ++ rest)) (j : Nat) (hj : j < l.length) (x : Int) : Own (w.setCell ⟨b, j, none⟩ (.int k x)) b t (nums k (l.set j x) ++ rest) := by
  have := h.set j (.int k x)
  rw [List.set_append_left _ _ (by rw [nums_length]; exact hj), nums_set] at this
  exact this
theorem ownsRow_own2 {w : World} {B e n : Nat} {v : Value} {k : IntKind} {l : List Int} (h : w.ownsRow B e 1 v n (nums k l)) (hn : 0 < n) : ∃ g c rest, v = .slice (some ⟨g, 0, none⟩) n c ∧ B ≤ g ∧ Own w g e (nums k l ++ rest) ∧ n ≤ c ∧ c ≤ 9223372036854775807 := by
  rcases h.2 with ⟨rfl, h0⟩ | ⟨g, cap, cur, rfl, hb, hg, hn', hc, hs, ht⟩
  · omega
  · unfold maxLen at hc
    refine ⟨g, cap, cur.toList.drop (n * 1), rfl, hb, ?_, hn', by omega⟩
    unfold Own
    rw [hg, ← ht, List.take_append_drop]
theorem getD_left {α : Type} (a b : List α) (j : Nat) (d : α) (h : j < a.length) : (a ++ b).getD j d = a.getD j d := by
  rw [List.getD_eq_getElem?_getD, List.getElem?_append_left h, ← List.getD_eq_getElem?_getD]
set_option maxHeartbeats 400000 in
theorem polynomial_any (w : World) :
    Calls Tryd.prog 24 #[] w fun e w' => e = .returned (.slice (some ⟨w.heap.size, 0, none⟩) 17 17) ∧ Below w.heap.size w w' ∧ Own w' w.heap.size 5 (nums .u8 Crc.polL) := by
  have hmk := make8 17 (by decide) w
  rw [show ((17 : Nat) : Int) = 17 from rfl] at hmk
  have hown := own_made .u8 17 5 w
  obtain ⟨W, hW⟩ : ∃ W, W = w.alloc (.cells (madeCells #[.int .u8 0] 17) 5) := ⟨_, rfl⟩
  have hb : Below w.heap.size w W := by rw [hW]; exact below_alloc _ _
  rw [← hW] at hmk hown
  have c0 := hown.cell 0 (by simp [nums])
  have c5 := hown.cell 5 (by simp [nums])
  have c12 := hown.cell 12 (by simp [nums])
  have c16 := hown.cell 16 (by simp [nums])
  have f0 := hown.frozen 0
  have f5 := hown.frozen 5
  have f12 := hown.frozen 12
  have f16 := hown.frozen 16
  have HO := Lib.hid hown
  have HB := Lib.hid hb
  have HW := Lib.hid hW
  clear hown hb hW
  go_enter Tryd.func24, Tryd.ntmps24
  go_wp2
  go_ret
  refine ⟨rfl, (((HB.out.setCell (Nat.le_refl _) _).setCell (Nat.le_refl _) _).setCell (Nat.le_refl _) _).setCell (Nat.le_refl _) _, ?_⟩
  have h1 := (((HO.out.set 0 (.int .u8 1)).set 5 (.int .u8 1)).set 12 (.int .u8 1)).set 16 (.int .u8 1)
  rw [nums_set, nums_set, nums_set, nums_set] at h1
  exact h1
set_option maxHeartbeats 2000000 in
theorem refExtend_any (r : Nat) (a : Option Addr) (n c : Nat) (l : List Int) (w : World) (hr : r < 65536) (h : Row .u8 w a n c l) (hn : n ≤ 100000) :
    Calls Tryd.prog 11 #[.int .u16 r, .slice a n c] w fun e w' => e = .returned (.int .u16 ((Crc.ext r (toN l) : Nat) : Int)) ∧ Below w.heap.size w w' := by
  obtain ⟨N, hN⟩ : ∃ N, N = 8 * n := ⟨_, rfl⟩
  obtain ⟨M, hM⟩ : ∃ M, M = ofL l := ⟨_, rfl⟩
  have hMl : M.length = N := by rw [hM, ofL_length, h.len, hN]
  have hM01 : ∀ x ∈ M, 0 ≤ x ∧ x ≤ 1 := by rw [hM]; exact fun x hx => ofL_mem hx
  have hOf := refOf_n a n c N l w h (by omega) (by omega)
  rw [← hM] at hOf
  have hfin : Crc.bitReg r M = Crc.ext r (toN l) := by
    have := Crc.bitReg_ofL r (toN l) (toN_lt h.octs)
    rw [toN_ofN h.octs] at this
    rw [hM]; exact this
  obtain ⟨i0, hi, hz0, hz1, hz2⟩ := info_parts info8
  have hN8 : N ≤ 800000 := by omega
  have HOf := Lib.hid hOf
  have HM := Lib.hid hMl
  have H01 := Lib.hid hM01
  have HF := Lib.hid hfin
  have HI := Lib.hid hi
  have HZ0 := Lib.hid hz0
  have HZ1 := Lib.hid hz1
  have HZ2 := Lib.hid hz2
  clear hOf hMl hM01 hfin hM h hi hz0 hz1 hz2 hN
  go_enter Tryd.func11, Tryd.ntmps11
  go_wp2_with fail
  refine (HOf.out).mono ?_
  rintro e w1 ⟨⟨a1, c1, rfl, hrow⟩, hb⟩
  have HB1 := Lib.hid hb
  have HR1 := Lib.hid hrow
  have hs1 := hb.size
  have hle1 := hrow.le
  have hmx1 := hrow.max
  unfold maxLen at hmx1
  clear hb hrow HOf
  go_wp2_with (at_builtin; refine wpList_append_list rfl (.const (.slice none 0 0)) (.tmp 13) 23 rfl w1.heap.size 5 i0 (.int .u8 0) 1 Tryd.underlying23 HI.out HZ0.out HZ1.out HZ2.out rfl .u8 _ 0 [] rfl (World.ownsRow_nil _ _ _ _) a1 N c1 M rfl HR1.out ?_ ?_ (Nat.le_refl _) ?_)
  · unfold maxLen; omega
  · omega
  intro v2 w2 hown2 hg2
  have hb2 : Below w1.heap.size w1 w2 := (Below.refl _ _).grown hg2 (Nat.le_refl _) (by simp [Value.ownBlock])
  have HB2 := Lib.hid (HB1.out.trans (hb2.mono HB1.out.size))
  have HO2 := Lib.hid hown2
  have hs2 := hb2.size
  clear hown2 hg2 hb2 HR1 HB1
  go_wp2_with (at_builtin; refine wpList_append_zeros rfl (.tmp 14) (.const (.int .i64 16)) 23 3 rfl w1.heap.size 5 i0 (.int .u8 0) 1 Tryd.underlying23 Tryd.underlying3 HI.out HZ0.out HZ1.out HZ2.out rfl rfl _ N (nums .u8 M) rfl HO2.out 16 rfl (by decide) ?_ (by decide) hs2 ?_)
  · omega
  intro v3 w3 hown3 hg3
  have e0 : nums .u8 M ++ List.replicate 16 (Value.int .u8 0) = nums .u8 (M ++ List.replicate 16 0) := by simp [nums]
  have hown3 : w3.ownsRow w1.heap.size 5 1 v3 (N + 16) (nums .u8 (M ++ List.replicate 16 0)) := by rw [← e0]; exact hown3
  have hb3 : Below w1.heap.size w2 w3 := (Below.refl _ _).grown hg3 hs2 (fun g hg => (World.ownsRow.lt HO2.out g hg).1)
  obtain ⟨g, c3, rest, rfl, hgB, hown, hc3, hc3m⟩ := ownsRow_own2 hown3 (by omega)
  obtain ⟨L0, hL0⟩ : ∃ L0, L0 = M ++ List.replicate 16 (0 : Int) := ⟨_, rfl⟩
  rw [← hL0] at hown
  have hL0l : L0.length = N + 16 := by rw [hL0, List.length_append, HM.out]; simp
  have hL001 : ∀ x ∈ L0, 0 ≤ x ∧ x ≤ 1 := by
    intro x hx
    rw [hL0, List.mem_append] at hx
    rcases hx with hx | hx
    · exact H01.out x hx
    · rw [List.eq_of_mem_replicate hx]; decide
  have HL0 := Lib.hid hL0
  have HL0l := Lib.hid hL0l
  have H001 := Lib.hid hL001
  clear hL0 hL0l hL001
  have HB3 := Lib.hid (HB2.out.trans (hb3.mono hs1))
  have HO3 := Lib.hid hown
  have hs3 := hb3.size
  clear hown3 hg3 hb3 hown HB2 HO2 e0
  go_wp2
  go_loopw [7] (fun kk wr => ∃ k : Nat, k ≤ 16 ∧ kk = .int .i64 k ∧ Only g w3 wr ∧ Own wr g 5 (nums .u8 (Crc.regs r L0 k) ++ rest)) (fun kk _ => 16 - (intOf kk).toNat)
  case atStart => exact ⟨0, by omega, rfl, Only.refl _ _, HO3.out⟩
  case round =>
    obtain ⟨k, hk, rfl, honly, hown⟩ := hrel
    have hlen : (nums .u8 (Crc.regs r L0 k)).length = N + 16 := by rw [nums_length, Crc.regs_length, HL0l.out]
    have HLn := Lib.hid hlen
    clear hlen
    by_cases hlt : k < 16
    · have hcell := hown.cell k (by rw [List.length_append, HLn.out]; omega)
      have hfr := hown.frozen k
      have hy01 := getD_bits (Crc.regs_bits H001.out r k) k
      rw [getD_left _ _ _ _ (by rw [HLn.out]; omega), nums_getD _ _ _ (by have := HLn.out; rw [nums_length] at this; omega)] at hcell
      obtain ⟨y, hy⟩ : ∃ y, y = (Crc.regs r L0 k).getD k 0 := ⟨_, rfl⟩
      rw [← hy] at hcell hy01
      obtain ⟨hy0, hy1⟩ := hy01
      have hbit := fun W => (bit_any (r : Int) k W (by omega) (by omega) (by omega)).mono fun e w' (hh : e = .returned (.int .u8 ((r : Int) / 2 ^ k % 2)) ∧ W = w') => (⟨hh.1, hh.2.symm⟩ : e = .returned (.int .u8 ((r : Int) / 2 ^ k % 2)) ∧ w' = W)
      have hb01 := Crc.mod2_bits ((r : Int) / 2 ^ k)
      obtain ⟨z, hz⟩ : ∃ z, z = (r : Int) / 2 ^ k % 2 := ⟨_, rfl⟩
      rw [← hz] at hb01 hbit
      obtain ⟨hzl, hzh⟩ := hb01
      have HBit := Lib.hid hbit
      have HY := Lib.hid hy
      have HZ := Lib.hid hz
      have HOwn := Lib.hid hown
      have HOnly := Lib.hid honly
      have hkN : (k : Int) < (N : Int) + 16 := by omega
      have hwr : IntKind.u64.wrap (r : Int) = (r : Int) := IntWalk.u64_in _ (by omega)
      have hws : IntKind.u8.wrap (y + z) = y + z := IntWalk.u8_in _ (by omega)
      have htm : (y + z).tmod 2 = (y + z) % 2 := Int.tmod_eq_emod_of_nonneg (by omega)
      clear hbit hy hz hown honly
      go_wp2
      go_still_tail 13, (by kernel_rfl)
      still_call (HBit.out _)
      repeat still_step
      refine wpStill_nil ?_
      change wpList _ _ _ _ _ wr.drew
      go_wp2
      refine ⟨⟨k + 1, by omega, by go_num, (HOnly.out.setCell _ _).drew, ?_⟩, by simp [intOf]; omega⟩
      have h1 := HOwn.out.set_left k (by have := HLn.out; rw [nums_length] at this; omega) ((y + z) % 2)
      rw [HY.out, HZ.out] at h1
      rw [HY.out, HZ.out]
      exact h1.drew
    · have hk16 : k = 16 := by omega
      clear hlt hk
      obtain ⟨L, hL⟩ : ∃ L, L = Crc.regs r L0 k := ⟨_, rfl⟩
      rw [← hL] at hown HLn
      rw [hk16] at hL
      have HOwn := Lib.hid hown
      have HOnly := Lib.hid honly
      have HL := Lib.hid hL
      clear hown honly hL HO3
      subst hk16
      go_wp2_with fail
      refine (polynomial_any _).mono ?_
      rintro e w4 ⟨rfl, hb4, hpol⟩
      have hwl := HOwn.out.lt
      have hs4 := hb4.size
      have HOwn4 := Lib.hid (HOwn.out.below hb4 hwl)
      have HB4 := Lib.hid ((Only.below HB3.out HOnly.out (by have := HB3.out.size; omega) (by omega)).trans (hb4.mono (by have := HOnly.out.size; have := HB3.out.size; omega)))
      have HP4 := Lib.hid hpol
      have hgne : g ≠ wr.heap.size := by omega
      clear hb4 hpol HOwn HOnly
      obtain ⟨pb, hpb⟩ : ∃ pb, pb = wr.heap.size := ⟨_, rfl⟩
      rw [← hpb] at HP4 hgne hs4
      have hLl : L.length = N + 16 := by have := HLn.out; rw [nums_length] at this; exact this
      have hL01 : ∀ x ∈ L, 0 ≤ x ∧ x ≤ 1 := by rw [HL.out]; exact Crc.regs_bits H001.out r 16
      have HLl := Lib.hid hLl
      have HL01 := Lib.hid hL01
      clear hLl hL01
      go_wp2
      rw [← hpb]
      clear hpb
      go_loopw [9] (fun ii wr => ∃ i : Nat, i ≤ N ∧ ii = .int .i64 i ∧ Only g w4 wr ∧ Own wr g 5 (nums .u8 (Crc.divs L i) ++ rest)) (fun ii _ => N - (intOf ii).toNat)
      case atStart => exact ⟨0, Nat.zero_le _, rfl, Only.refl _ _, HOwn4.out⟩
      case round =>
        obtain ⟨i, hi, rfl, honly, hown⟩ := hrel
        obtain ⟨w5, rfl⟩ : ∃ x, x = wr := ⟨_, rfl⟩
        obtain ⟨D, hD⟩ : ∃ D, D = Crc.divs L i := ⟨_, rfl⟩
        rw [← hD] at hown
        have hDl : D.length = N + 16 := by rw [hD, Crc.divs_length, HLl.out]
        have hD01 : ∀ x ∈ D, 0 ≤ x ∧ x ≤ 1 := by rw [hD]; exact Crc.divs_bits HL01.out i
        have HD := Lib.hid hD
        have HDl := Lib.hid hDl
        have HD01 := Lib.hid hD01
        clear hD hDl hD01
        by_cases hlt : i < N
        · have hcell := hown.cell i (by rw [List.length_append, nums_length, HDl.out]; omega)
          rw [getD_left _ _ _ _ (by rw [nums_length, HDl.out]; omega), nums_getD _ _ _ (by rw [HDl.out]; omega)] at hcell
          have hx01 := getD_bits HD01.out i
          obtain ⟨x, hx⟩ : ∃ x, x = D.getD i 0 := ⟨_, rfl⟩
          rw [← hx] at hcell hx01
          have hstep : Crc.divs L (i + 1) = if x = 1 then Crc.adds D i 17 else D := by rw [Crc.divs, ← HD.out, ← hx]
          have HStep := Lib.hid hstep
          have HX := Lib.hid hx
          have HO5 := Lib.hid hown
          have HN5 := Lib.hid honly
          clear hx hstep hown honly
          by_cases hx1 : x = 1
          · have hs : Crc.divs L (i + 1) = Crc.adds D i 17 := by rw [HStep.out, if_pos hx1]
            have HS := Lib.hid hs
            subst hx1
            clear hs HStep
            go_wp2
            go_loopw [10] (fun jj wr => ∃ j : Nat, j ≤ 17 ∧ jj = .int .i64 j ∧ Only g w5 wr ∧ Own wr g 5 (nums .u8 (Crc.adds D i j) ++ rest)) (fun jj _ => 17 - (intOf jj).toNat)
            case atStart => exact ⟨0, by omega, rfl, Only.refl _ _, HO5.out⟩
            case round =>
              obtain ⟨j, hj, rfl, honly, hown⟩ := hrel
              by_cases hltj : j < 17
              · have hlen : (nums .u8 (Crc.adds D i j)).length = N + 16 := by rw [nums_length, Crc.adds_length, HDl.out]
                have hcell := hown.cell (i + j) (by rw [List.length_append, hlen]; omega)
                have hfr := hown.frozen (i + j)
                rw [getD_left _ _ _ _ (by rw [hlen]; omega), nums_getD _ _ _ (by rw [nums_length] at hlen; omega)] at hcell
                have hy01 := getD_bits (Crc.adds_bits HD01.out i j) (i + j)
                obtain ⟨y, hy⟩ : ∃ y, y = (Crc.adds D i j).getD (i + j) 0 := ⟨_, rfl⟩
                rw [← hy] at hcell hy01
                have hp5 := honly.own_far (HN5.out.own_far HP4.out hgne.symm) hgne.symm
                have hpc := hp5.cell (16 - j) (by show 16 - j < 17; omega)
                have hz01 := getD_bits (l := Crc.polL) (by decide) (16 - j)
                rw [nums_getD _ _ _ (by show 16 - j < 17; omega)] at hpc
                obtain ⟨z, hz⟩ : ∃ z, z = Crc.polL.getD (16 - j) 0 := ⟨_, rfl⟩
                rw [← hz] at hpc hz01
                obtain ⟨hy0, hy1⟩ := hy01
                obtain ⟨hz0, hz1⟩ := hz01
                have hkN : (i : Int) + (j : Int) < (N : Int) + 16 := by omega
                have hk0 : (0 : Int) ≤ (i : Int) + (j : Int) := by omega
                have hm0 : (0 : Int) ≤ 16 - (j : Int) := by omega
                have hm1 : (16 : Int) - (j : Int) < 17 := by omega
                have hmt : ((16 : Int) - (j : Int)).toNat = 16 - j := by omega
                have hat : ((i : Int) + (j : Int)).toNat = i + j := by omega
                have hw1 : IntKind.i64.wrap ((i : Int) + (j : Int)) = (i : Int) + (j : Int) := IntWalk.i64_in _ (by omega)
                have hw2 : IntKind.i64.wrap ((16 : Int) - (j : Int)) = (16 : Int) - (j : Int) := IntWalk.i64_in _ (by omega)
                have hws : IntKind.u8.wrap (y + z) = y + z := IntWalk.u8_in _ (by omega)
                have htm : (y + z).tmod 2 = (y + z) % 2 := Int.tmod_eq_emod_of_nonneg (by omega)
                have HY := Lib.hid hy
                have HZ := Lib.hid hz
                have HOwn := Lib.hid hown
                have HOnly := Lib.hid honly
                have HLn2 := Lib.hid hlen
                clear hy hz hown honly hp5 hlen
                go_wp2
                go_still_tail 18, (by kernel_rfl)
                change wpList _ _ _ _ _ wr.drew
                go_wp2
                refine ⟨⟨j + 1, by omega, by go_num, (HOnly.out.setCell _ _).drew, ?_⟩, by simp [intOf]; omega⟩
                have h1 := HOwn.out.set_left (i + j) (by have := HLn2.out; rw [nums_length] at this; omega) ((y + z) % 2)
                rw [HY.out, HZ.out] at h1
                rw [HY.out, HZ.out]
                exact h1.drew
              · obtain rfl : j = 17 := by omega
                rw [← HS.out] at hown
                have HOwn := Lib.hid hown
                have HOnly := Lib.hid (HN5.out.trans honly)
                clear hown honly
                go_wp2
                exact ⟨⟨i + 1, by omega, by go_num, HOnly.out, HOwn.out⟩, by simp [intOf]; omega⟩
          · have hs : Crc.divs L (i + 1) = D := by rw [HStep.out, if_neg hx1]
            have hxb : (x == 1) = false := by simpa using hx1
            have hown := HO5.out
            rw [← hs] at hown
            have HOwn := Lib.hid hown
            clear hs HStep hx1 hown
            go_wp2
            exact ⟨⟨i + 1, by omega, by go_num, HN5.out, HOwn.out⟩, by simp [intOf]; omega⟩
        · have hiN : i = N := by omega
          clear hlt hi
          have hrow : Row .u8 w5 (some ⟨g, N, none⟩) 16 (c3 - N) (D.drop N) := by
            refine ⟨by rw [List.length_drop, HDl.out]; omega, by omega, by unfold maxLen; omega, fun x hx => wf_u8.2 (by have := HD01.out x (List.mem_of_mem_drop hx); omega), .inr ⟨g, N, rfl, fun m hm => ?_⟩, by simp⟩
            have hcc := hown.cell (N + m) (by rw [List.length_append, nums_length, HDl.out]; omega)
            rw [getD_left _ _ _ _ (by rw [nums_length, HDl.out]; omega), nums_getD _ _ _ (by rw [HDl.out]; omega)] at hcc
            rw [hcc]
            simp [List.getD_eq_getElem?_getD]
          have hbits : isBits (D.drop N) = true := (isBits_iff _).2 fun x hx => (HD01.out x (List.mem_of_mem_drop hx)).2
          have hval : val (D.drop N) = ((Crc.ext r (toN l) : Nat) : Int) := by
            have h1 := Crc.divs_val r hr M H01.out
            rw [HM.out, ← HL0.out, ← HL.out] at h1
            rw [HD.out, hiN, h1, HF.out]
          have hcon := value_any (some ⟨g, N, none⟩) 16 (c3 - N) (D.drop N) w5 hrow hbits (by omega)
          rw [hval] at hcon
          obtain ⟨E, hE⟩ : ∃ E, E = Crc.ext r (toN l) := ⟨_, rfl⟩
          have hElt : E < 65536 := by rw [hE, ← HF.out]; exact Crc.bitReg_lt hr M H01.out
          rw [← hE] at hcon
          have HE := Lib.hid hE
          have HCon := Lib.hid hcon
          have HOnly := Lib.hid honly
          have HB5 := Lib.hid (Only.below HB4.out honly (by have := HB4.out.size; omega) (by omega))
          clear hrow hbits hval hcon hE hown honly
          subst hiN
          go_wp2_with fail
          refine (HCon.out).mono ?_
          rintro e w6 ⟨rfl, rfl⟩
          go_wp2
          go_ret
          exact ⟨ret_int (by rw [HE.out]), HB5.out⟩
theorem refSum_any (a : Option Addr) (n c : Nat) (l : List Int) (w : World) (h : Row .u8 w a n c l) (hn : n ≤ 100000) :
    Calls Tryd.prog 15 #[.slice a n c] w fun e w' => e = .returned (.int .u16 ((Crc.crc (toN l) : Nat) : Int)) ∧ Below w.heap.size w w' := by
  have hE := refExtend_any 65535 a n c l w (by decide) h hn
  obtain ⟨E, hEq⟩ : ∃ E, E = Crc.ext 65535 (toN l) := ⟨_, rfl⟩
  have hlt : E < 65536 := by rw [hEq]; exact ext_oct_lt (by decide) h.octs
  have hc : (65535 : Int) - (E : Int) = ((Crc.crc (toN l) : Nat) : Int) := by
    rw [Crc.crc, ← hEq, Crc.compl hlt]; omega
  rw [← hEq] at hE
  have HE := Lib.hid hE
  have HC := Lib.hid hc
  clear hE hc hEq h
  go_enter Tryd.func15, Tryd.ntmps15
  go_wp2_with fail
  refine (HE.out).mono ?_
  rintro e w1 ⟨rfl, hb⟩
  have HB := Lib.hid hb
  clear hb
  go_wp2
  go_ret
  exact ⟨ret_int HC.out, HB.out⟩
end Go.Proofs.YtkalpjccfknopaaDoor
