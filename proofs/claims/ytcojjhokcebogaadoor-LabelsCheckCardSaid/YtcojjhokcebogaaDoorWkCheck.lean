/- The statement LabelsCheck: the walk. -/
import Derived.Test.YtcojjhokcebogaaDoorLsLives
import Derived.Test.YtcojjhokcebogaaDoorLsZeros
namespace Go.Proofs.YtcojjhokcebogaaDoor
open Go.RowKit

set_option maxHeartbeats 8000000 in
set_option maxRecDepth 100000 in
theorem check_short (sv nw pr to fr sl : Int) (a : Option Addr) (n c : Nat) (l : List Int) (z : Int) (w : World) (hp : PowOk w) (h : Row .u8 w a n c l) (hn : n ≤ 600) (hz : 0 ≤ z ∧ z ≤ 65535) (h0 : 0 ≤ sv) (h1 : 0 ≤ nw) (h2 : 0 ≤ pr) (h3 : 0 ≤ to) (h4 : 0 ≤ fr) (h5 : 0 ≤ sl) :
    Calls Tryd.prog 5 #[.agg #[.int .u8 sv, .int .u8 nw, .int .u8 pr, .int .u16 to, .int .u16 fr, .int .u8 sl, .slice a n c], .int .u16 z] w fun e w' => e = .returned (.bool true) ∧ Below w.heap.size w w' := by
  have d1 : decide ((600 : Int) < (n : Int)) = false := by simp; omega
  obtain ⟨m, hm⟩ : ∃ m : Nat, m = (z % 300).toNat := ⟨_, rfl⟩
  have ez : z % 300 = (m : Int) := by omega
  have hm2 : m ≤ 299 := by omega
  obtain ⟨i0, hi, hz0, hz1, hz2⟩ := info_parts info8
  have HI := Lib.hid (And.intro hi (And.intro hz0 (And.intro hz1 hz2)))
  have hb0 := below_alloc w (.cells #[.int .u8 sv, .int .u8 nw, .int .u8 pr, .int .u16 to, .int .u16 fr, .int .u8 sl, .slice a n c] 38)
  have ob := own_lit w 38 #[.int .u8 sv, .int .u8 nw, .int .u8 pr, .int .u16 to, .int .u16 fr, .int .u8 sl, .slice a n c] _ rfl
  have hle := h.le
  have hmx := h.max
  unfold maxLen at hmx
  have hwf := h.wf
  have hln := h.len
  have HR0 := Lib.hid (h.later hb0)
  have HL := Lib.hid (fun W hW => lives_any W hW)
  have HP := Lib.hid hp
  have HWf := Lib.hid hwf
  have HLn := Lib.hid hln
  clear hm hi hz0 hz1 hz2 h hp hwf hln
  go_enter Tryd.func5, Tryd.ntmps5
  go_upto_region 3 with fail
  generalize w.alloc (.cells #[.int .u8 sv, .int .u8 nw, .int .u8 pr, .int .u16 to, .int .u16 fr, .int .u8 sl, .slice a n c] 38) = W0 at *
  obtain ⟨pb, hpb⟩ : ∃ p, p = w.heap.size := ⟨_, rfl⟩
  rw [← hpb] at ob ⊢
  have hwp : w.heap.size ≤ pb := by omega
  have hob := ob.lt
  clear hpb d1
  obtain ⟨c0, c1, c2, c3, c4, c5, c6⟩ := unit_cells ob
  have B0 := Lib.hid hb0
  have O0 := Lib.hid ob
  clear ob hb0
  go_wp2_with (at_builtin; refine wpList_append_list rfl (.const (.slice none 0 0)) (.tmp 14) 36 rfl W0.heap.size 5 i0 (.int .u8 0) 1 Tryd.underlying36 HI.out.1 HI.out.2.1 HI.out.2.2.1 HI.out.2.2.2 rfl .u8 _ 0 [] rfl (World.ownsRow_nil _ _ _ _) a n c l rfl HR0.out ?_ ?_ (Nat.le_refl _) ?_)
  · unfold maxLen; omega
  · omega
  intro v2 w2 hown2 hg2
  have hb2 : Below W0.heap.size W0 w2 := (Below.refl _ _).grown hg2 (Nat.le_refl _) (by simp [Value.ownBlock])
  have hs2 := hb2.size
  have o2 := O0.out.below hb2 hob
  clear c0 c1 c2 c3 c4 c5 c6
  obtain ⟨c0, c1, c2, c3, c4, c5, c6⟩ := unit_cells o2
  have B2 := Lib.hid (B0.out.trans (hb2.mono B0.out.size))
  have HO2 := Lib.hid hown2
  have O2 := Lib.hid o2
  clear hown2 hg2 hb2 o2
  go_wp2_with (at_builtin; refine wpList_append_zeros_any rfl (.tmp 15) (.tmp 18) 36 3 rfl W0.heap.size 5 i0 (.int .u8 0) 1 Tryd.underlying36 Tryd.underlying3 HI.out.1 HI.out.2.1 HI.out.2.2.1 HI.out.2.2.2 rfl rfl _ n (nums .u8 l) rfl HO2.out m rfl ?_ (by decide) hs2 ?_)
  · omega
  intro v3 w3 hown3 hg3
  have e0 : nums .u8 l ++ List.replicate m (Value.int .u8 0) = nums .u8 (l ++ List.replicate m 0) := by simp [nums]
  have hown3 : w3.ownsRow W0.heap.size 5 1 v3 (n + m) (nums .u8 (l ++ List.replicate m 0)) := by rw [← e0]; exact hown3
  have hb3 : Below W0.heap.size w2 w3 := (Below.refl _ _).grown hg3 hs2 (fun g hg => (World.ownsRow.lt HO2.out g hg).1)
  obtain ⟨a3, q3, rfl, hrow3, _⟩ := ownsRow_rowN .u8 hown3 (by
    intro x hx
    rw [List.mem_append] at hx
    rcases hx with hx | hx
    · exact HWf.out x hx
    · rw [List.eq_of_mem_replicate hx]; decide)
  have hne : ∀ x, a3 = some x → ¬ x.block = pb := fun x hx hxb => by
    have := (World.ownsRow.lt hown3 x.block (by rw [hx]; rfl)).1
    omega
  have o3 := O2.out.below hb3 hob
  have hb03 := B2.out.trans (hb3.mono B0.out.size)
  clear c0 c1 c2 c3 c4 c5 c6 e0
  obtain ⟨c0, c1, c2, c3, c4, c5, c6⟩ := unit_cells o3
  have f6 := o3.frozen 6
  have B3 := Lib.hid hb03
  have O3 := Lib.hid o3
  have R3 := Lib.hid hrow3
  have HNe := Lib.hid hne
  obtain ⟨N, hN⟩ : ∃ N, N = n + m := ⟨_, rfl⟩
  rw [← hN] at R3 ⊢
  have hN2 : N ≤ 899 := by omega
  obtain ⟨L, hL⟩ : ∃ L, L = l ++ List.replicate m (0 : Int) := ⟨_, rfl⟩
  rw [← hL] at R3
  clear hown3 hg3 hb3 hrow3 o3 hb03 hN hL hne
  go_upto_region 4 with fail
  have hx := (Exc.refl (fun k => k = pb) w3).setCell ⟨pb, 6, none⟩ (.inl rfl) (.slice a3 N q3)
  have o4 := O3.out.set 6 (.slice a3 N q3)
  have r4 := R3.out.exc hx HNe.out
  have hb4 := hx.below (B := w.heap.size) B3.out.size (fun i _ hi => by omega)
  generalize w3.setCell ⟨pb, 6, none⟩ (.slice a3 N q3) = W4 at *
  have hob4 := o4.lt
  clear c0 c1 c2 c3 c4 c5 c6 f6 hx
  obtain ⟨c0, c1, c2, c3, c4, c5, c6⟩ := unit_cells o4
  have B4 := Lib.hid (B3.out.trans hb4)
  have O4 := Lib.hid o4
  have R4 := Lib.hid r4
  clear o4 r4 hb4
  have hck := fun W => check_any sv nw pr to fr sl a3 N q3 W (by omega)
  have hcase := chkM_cases sv nw pr to fr sl N
  have hee := fun E W hE hne => encode_err sv nw pr to fr sl a3 N q3 E W (by omega) hE hne
  have heo := fun W hW hE => encode_ok sv nw pr to fr sl a3 N q3 L W hW hE h0 h1 h2 h3 h4 h5
  generalize chkM sv nw pr to fr sl N = E at *
  have hfi := fieldsB_iff (sv := sv) (nw := nw) (pr := pr) (to := to) (fr := fr) (sl := sl)
  generalize fieldsB sv nw pr to fr sl = F at *
  have HCk := Lib.hid hck
  have HCa := Lib.hid hcase
  have HEe := Lib.hid hee
  have HEo := Lib.hid heo
  have HFi := Lib.hid hfi
  clear hck hcase hee heo hfi
  by_cases gsv : 15 < sv
  · skip
    have hE : E = 1 := by
      rcases HCa.out with ⟨e, _⟩ | ⟨_, e, _⟩ | ⟨_, e, _⟩
      · exact e
      · exact absurd (HFi.out.1 e) (by omega)
      · exact absurd (HFi.out.1 e) (by omega)
    subst hE
    have K1 := Lib.hid HCk.out
    have K2 := Lib.hid (fun W => HEe.out 1 W rfl (by decide))
    clear HCk HEe HEo HCa HFi
    go_wp2_with fail
    refine (K2.out _).mono ?_
    rintro e w5 ⟨rfl, hb⟩
    have o5 := O4.out.below hb hob4
    clear c0 c1 c2 c3 c4 c5 c6
    obtain ⟨c0, c1, c2, c3, c4, c5, c6⟩ := unit_cells o5
    have hob5 := o5.lt
    have B5 := Lib.hid (B4.out.trans (hb.mono B4.out.size))
    have O5 := Lib.hid o5
    clear o5 hb
    go_wp2_with fail
    refine (K1.out _).mono ?_
    rintro e w6 ⟨rfl, hb⟩
    have o6 := O5.out.below hb hob5
    clear c0 c1 c2 c3 c4 c5 c6
    obtain ⟨c0, c1, c2, c3, c4, c5, c6⟩ := unit_cells o6
    have B6 := Lib.hid (B5.out.trans (hb.mono B5.out.size))
    clear o6 hb
    go_wp2_with fail
    refine (HL.out _ (HP.out.later B6.out)).mono ?_
    rintro e w7 ⟨rfl, hb⟩
    have B7 := Lib.hid (B6.out.trans (hb.mono B6.out.size))
    clear hb
    go_wp2
    go_ret
    exact ⟨rfl, B7.out⟩
  · have ksv : sv ≤ 15 := by omega
    by_cases gnw : 3 < nw
    · skip
      have hE : E = 1 := by
        rcases HCa.out with ⟨e, _⟩ | ⟨_, e, _⟩ | ⟨_, e, _⟩
        · exact e
        · exact absurd (HFi.out.1 e) (by omega)
        · exact absurd (HFi.out.1 e) (by omega)
      subst hE
      have K1 := Lib.hid HCk.out
      have K2 := Lib.hid (fun W => HEe.out 1 W rfl (by decide))
      clear HCk HEe HEo HCa HFi
      go_wp2_with fail
      refine (K2.out _).mono ?_
      rintro e w5 ⟨rfl, hb⟩
      have o5 := O4.out.below hb hob4
      clear c0 c1 c2 c3 c4 c5 c6
      obtain ⟨c0, c1, c2, c3, c4, c5, c6⟩ := unit_cells o5
      have hob5 := o5.lt
      have B5 := Lib.hid (B4.out.trans (hb.mono B4.out.size))
      have O5 := Lib.hid o5
      clear o5 hb
      go_wp2_with fail
      refine (K1.out _).mono ?_
      rintro e w6 ⟨rfl, hb⟩
      have o6 := O5.out.below hb hob5
      clear c0 c1 c2 c3 c4 c5 c6
      obtain ⟨c0, c1, c2, c3, c4, c5, c6⟩ := unit_cells o6
      have B6 := Lib.hid (B5.out.trans (hb.mono B5.out.size))
      clear o6 hb
      go_wp2_with fail
      refine (HL.out _ (HP.out.later B6.out)).mono ?_
      rintro e w7 ⟨rfl, hb⟩
      have B7 := Lib.hid (B6.out.trans (hb.mono B6.out.size))
      clear hb
      go_wp2
      go_ret
      exact ⟨rfl, B7.out⟩
    · have knw : nw ≤ 3 := by omega
      by_cases gpr : 3 < pr
      · skip
        have hE : E = 1 := by
          rcases HCa.out with ⟨e, _⟩ | ⟨_, e, _⟩ | ⟨_, e, _⟩
          · exact e
          · exact absurd (HFi.out.1 e) (by omega)
          · exact absurd (HFi.out.1 e) (by omega)
        subst hE
        have K1 := Lib.hid HCk.out
        have K2 := Lib.hid (fun W => HEe.out 1 W rfl (by decide))
        clear HCk HEe HEo HCa HFi
        go_wp2_with fail
        refine (K2.out _).mono ?_
        rintro e w5 ⟨rfl, hb⟩
        have o5 := O4.out.below hb hob4
        clear c0 c1 c2 c3 c4 c5 c6
        obtain ⟨c0, c1, c2, c3, c4, c5, c6⟩ := unit_cells o5
        have hob5 := o5.lt
        have B5 := Lib.hid (B4.out.trans (hb.mono B4.out.size))
        have O5 := Lib.hid o5
        clear o5 hb
        go_wp2_with fail
        refine (K1.out _).mono ?_
        rintro e w6 ⟨rfl, hb⟩
        have o6 := O5.out.below hb hob5
        clear c0 c1 c2 c3 c4 c5 c6
        obtain ⟨c0, c1, c2, c3, c4, c5, c6⟩ := unit_cells o6
        have B6 := Lib.hid (B5.out.trans (hb.mono B5.out.size))
        clear o6 hb
        go_wp2_with fail
        refine (HL.out _ (HP.out.later B6.out)).mono ?_
        rintro e w7 ⟨rfl, hb⟩
        have B7 := Lib.hid (B6.out.trans (hb.mono B6.out.size))
        clear hb
        go_wp2
        go_ret
        exact ⟨rfl, B7.out⟩
      · have kpr : pr ≤ 3 := by omega
        by_cases gto : 16383 < to
        · skip
          have hE : E = 1 := by
            rcases HCa.out with ⟨e, _⟩ | ⟨_, e, _⟩ | ⟨_, e, _⟩
            · exact e
            · exact absurd (HFi.out.1 e) (by omega)
            · exact absurd (HFi.out.1 e) (by omega)
          subst hE
          have K1 := Lib.hid HCk.out
          have K2 := Lib.hid (fun W => HEe.out 1 W rfl (by decide))
          clear HCk HEe HEo HCa HFi
          go_wp2_with fail
          refine (K2.out _).mono ?_
          rintro e w5 ⟨rfl, hb⟩
          have o5 := O4.out.below hb hob4
          clear c0 c1 c2 c3 c4 c5 c6
          obtain ⟨c0, c1, c2, c3, c4, c5, c6⟩ := unit_cells o5
          have hob5 := o5.lt
          have B5 := Lib.hid (B4.out.trans (hb.mono B4.out.size))
          have O5 := Lib.hid o5
          clear o5 hb
          go_wp2_with fail
          refine (K1.out _).mono ?_
          rintro e w6 ⟨rfl, hb⟩
          have o6 := O5.out.below hb hob5
          clear c0 c1 c2 c3 c4 c5 c6
          obtain ⟨c0, c1, c2, c3, c4, c5, c6⟩ := unit_cells o6
          have B6 := Lib.hid (B5.out.trans (hb.mono B5.out.size))
          clear o6 hb
          go_wp2_with fail
          refine (HL.out _ (HP.out.later B6.out)).mono ?_
          rintro e w7 ⟨rfl, hb⟩
          have B7 := Lib.hid (B6.out.trans (hb.mono B6.out.size))
          clear hb
          go_wp2
          go_ret
          exact ⟨rfl, B7.out⟩
        · have kto : to ≤ 16383 := by omega
          by_cases gfr : 16383 < fr
          · skip
            have hE : E = 1 := by
              rcases HCa.out with ⟨e, _⟩ | ⟨_, e, _⟩ | ⟨_, e, _⟩
              · exact e
              · exact absurd (HFi.out.1 e) (by omega)
              · exact absurd (HFi.out.1 e) (by omega)
            subst hE
            have K1 := Lib.hid HCk.out
            have K2 := Lib.hid (fun W => HEe.out 1 W rfl (by decide))
            clear HCk HEe HEo HCa HFi
            go_wp2_with fail
            refine (K2.out _).mono ?_
            rintro e w5 ⟨rfl, hb⟩
            have o5 := O4.out.below hb hob4
            clear c0 c1 c2 c3 c4 c5 c6
            obtain ⟨c0, c1, c2, c3, c4, c5, c6⟩ := unit_cells o5
            have hob5 := o5.lt
            have B5 := Lib.hid (B4.out.trans (hb.mono B4.out.size))
            have O5 := Lib.hid o5
            clear o5 hb
            go_wp2_with fail
            refine (K1.out _).mono ?_
            rintro e w6 ⟨rfl, hb⟩
            have o6 := O5.out.below hb hob5
            clear c0 c1 c2 c3 c4 c5 c6
            obtain ⟨c0, c1, c2, c3, c4, c5, c6⟩ := unit_cells o6
            have B6 := Lib.hid (B5.out.trans (hb.mono B5.out.size))
            clear o6 hb
            go_wp2_with fail
            refine (HL.out _ (HP.out.later B6.out)).mono ?_
            rintro e w7 ⟨rfl, hb⟩
            have B7 := Lib.hid (B6.out.trans (hb.mono B6.out.size))
            clear hb
            go_wp2
            go_ret
            exact ⟨rfl, B7.out⟩
          · have kfr : fr ≤ 16383 := by omega
            by_cases gsl : 15 < sl
            · skip
              have hE : E = 1 := by
                rcases HCa.out with ⟨e, _⟩ | ⟨_, e, _⟩ | ⟨_, e, _⟩
                · exact e
                · exact absurd (HFi.out.1 e) (by omega)
                · exact absurd (HFi.out.1 e) (by omega)
              subst hE
              have K1 := Lib.hid HCk.out
              have K2 := Lib.hid (fun W => HEe.out 1 W rfl (by decide))
              clear HCk HEe HEo HCa HFi
              go_wp2_with fail
              refine (K2.out _).mono ?_
              rintro e w5 ⟨rfl, hb⟩
              have o5 := O4.out.below hb hob4
              clear c0 c1 c2 c3 c4 c5 c6
              obtain ⟨c0, c1, c2, c3, c4, c5, c6⟩ := unit_cells o5
              have hob5 := o5.lt
              have B5 := Lib.hid (B4.out.trans (hb.mono B4.out.size))
              have O5 := Lib.hid o5
              clear o5 hb
              go_wp2_with fail
              refine (K1.out _).mono ?_
              rintro e w6 ⟨rfl, hb⟩
              have o6 := O5.out.below hb hob5
              clear c0 c1 c2 c3 c4 c5 c6
              obtain ⟨c0, c1, c2, c3, c4, c5, c6⟩ := unit_cells o6
              have B6 := Lib.hid (B5.out.trans (hb.mono B5.out.size))
              clear o6 hb
              go_wp2_with fail
              refine (HL.out _ (HP.out.later B6.out)).mono ?_
              rintro e w7 ⟨rfl, hb⟩
              have B7 := Lib.hid (B6.out.trans (hb.mono B6.out.size))
              clear hb
              go_wp2
              go_ret
              exact ⟨rfl, B7.out⟩
            · have ksl : sl ≤ 15 := by omega
              by_cases gN : 268 < N
              · skip
                have hE : E = 3 := by
                  rcases HCa.out with ⟨_, e⟩ | ⟨e, _⟩ | ⟨_, _, e⟩
                  · rw [HFi.out.2 ⟨ksv, knw, kpr, kto, kfr, ksl⟩] at e; cases e
                  · exact e
                  · omega
                have gN2 : decide ((268 : Int) < (N : Int)) = true := by simp; omega
                subst hE
                have K1 := Lib.hid HCk.out
                have K2 := Lib.hid (fun W => HEe.out 3 W rfl (by decide))
                clear HCk HEe HEo HCa HFi
                go_wp2_with fail
                refine (K2.out _).mono ?_
                rintro e w5 ⟨rfl, hb⟩
                have o5 := O4.out.below hb hob4
                clear c0 c1 c2 c3 c4 c5 c6
                obtain ⟨c0, c1, c2, c3, c4, c5, c6⟩ := unit_cells o5
                have hob5 := o5.lt
                have B5 := Lib.hid (B4.out.trans (hb.mono B4.out.size))
                have O5 := Lib.hid o5
                clear o5 hb
                go_wp2_with fail
                refine (K1.out _).mono ?_
                rintro e w6 ⟨rfl, hb⟩
                have o6 := O5.out.below hb hob5
                clear c0 c1 c2 c3 c4 c5 c6
                obtain ⟨c0, c1, c2, c3, c4, c5, c6⟩ := unit_cells o6
                have B6 := Lib.hid (B5.out.trans (hb.mono B5.out.size))
                clear o6 hb
                go_wp2_with fail
                refine (HL.out _ (HP.out.later B6.out)).mono ?_
                rintro e w7 ⟨rfl, hb⟩
                have B7 := Lib.hid (B6.out.trans (hb.mono B6.out.size))
                clear hb
                go_wp2
                go_ret
                exact ⟨rfl, B7.out⟩
              · skip
                have hE : E = 0 := by
                  rcases HCa.out with ⟨_, e⟩ | ⟨_, _, e⟩ | ⟨e, _⟩
                  · rw [HFi.out.2 ⟨ksv, knw, kpr, kto, kfr, ksl⟩] at e; cases e
                  · omega
                  · exact e
                have gN2 : decide ((268 : Int) < (N : Int)) = false := by simp; omega
                subst hE
                have K1 := Lib.hid HCk.out
                have K2 := Lib.hid (fun W hW => HEo.out W hW rfl)
                clear HCk HEe HEo HCa HFi
                go_wp2_with fail
                refine (K2.out _ R4.out).mono ?_
                rintro e w5 ⟨g, rfl, _, _, hb⟩
                have o5 := O4.out.below hb hob4
                clear c0 c1 c2 c3 c4 c5 c6
                obtain ⟨c0, c1, c2, c3, c4, c5, c6⟩ := unit_cells o5
                have hob5 := o5.lt
                have B5 := Lib.hid (B4.out.trans (hb.mono B4.out.size))
                have O5 := Lib.hid o5
                clear o5 hb
                go_wp2_with fail
                refine (K1.out _).mono ?_
                rintro e w6 ⟨rfl, hb⟩
                have o6 := O5.out.below hb hob5
                clear c0 c1 c2 c3 c4 c5 c6
                obtain ⟨c0, c1, c2, c3, c4, c5, c6⟩ := unit_cells o6
                have B6 := Lib.hid (B5.out.trans (hb.mono B5.out.size))
                clear o6 hb
                go_wp2_with fail
                refine (HL.out _ (HP.out.later B6.out)).mono ?_
                rintro e w7 ⟨rfl, hb⟩
                have B7 := Lib.hid (B6.out.trans (hb.mono B6.out.size))
                clear hb
                go_wp2
                go_ret
                exact ⟨rfl, B7.out⟩
theorem check_walk (sv nw pr to fr sl : Int) (a : Option Addr) (n c : Nat) (l : List Int) (z : Int) (w : World) (hp : PowOk w) (w0 : (Lit.int .u8 sv).wf = true) (w1 : (Lit.int .u8 nw).wf = true) (w2 : (Lit.int .u8 pr).wf = true) (w3 : (Lit.int .u16 to).wf = true) (w4 : (Lit.int .u16 fr).wf = true) (w5 : (Lit.int .u8 sl).wf = true) (wr : Row .u8 w a n c l) (wz : (Lit.int .u16 z).wf = true) :
    Calls Tryd.prog 5 #[.agg #[.int .u8 sv, .int .u8 nw, .int .u8 pr, .int .u16 to, .int .u16 fr, .int .u8 sl, .slice a n c], .int .u16 z] w fun e w' => e = .returned (.bool true) ∧ Below w.heap.size w w' := by
  by_cases h : 600 < n
  · have hd : decide ((600 : Int) < (n : Int)) = true := by simp; omega
    have hb0 := below_alloc w (.cells #[.int .u8 sv, .int .u8 nw, .int .u8 pr, .int .u16 to, .int .u16 fr, .int .u8 sl, .slice a n c] 38)
    have HL := Lib.hid (lives_any _ (hp.later hb0))
    have HB := Lib.hid hb0
    clear hp hb0 wr h w0 w1 w2 w3 w4 w5 wz
    go_enter Tryd.func5, Tryd.ntmps5
    go_wp2_with fail
    refine (HL.out).mono ?_
    rintro e w1 ⟨rfl, hb1⟩
    have B1 := Lib.hid (HB.out.trans (hb1.mono HB.out.size))
    clear hb1
    go_wp2
    go_ret
    exact ⟨rfl, B1.out⟩
  · exact check_short sv nw pr to fr sl a n c l z w hp wr (by omega) (wf_u16.1 wz) (wf_u8.1 w0).1 (wf_u8.1 w1).1 (wf_u8.1 w2).1 (wf_u16.1 w3).1 (wf_u16.1 w4).1 (wf_u8.1 w5).1
end Go.Proofs.YtcojjhokcebogaaDoor
