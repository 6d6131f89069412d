/- The walk of SumsBack. -/
import Derived.Test.YtkalpjccfknopaaDoorSumsLives
namespace Go.Proofs.YtkalpjccfknopaaDoor
open Go.RowKit

set_option maxHeartbeats 4000000 in
set_option maxRecDepth 100000 in
theorem sumsBack_walk (a : Option Addr) (n c : Nat) (l : List Int) (w : World) (hbeh : BehindOk w) (h : Row .u8 w a n c l) :
    Calls Tryd.prog 4 #[.slice a n c] w fun e w' => e = .returned (.bool true) ∧ Below w.heap.size w w' := by
  have BB0 := Lib.hid (Below.refl w.heap.size w)
  have HB0 := Lib.hid hbeh
  have RSz := Lib.hid h
  have hcm := h.max
  have hle := h.le
  unfold maxLen at hcm
  by_cases hbig : 300 < n
  · clear h hbeh
    go_enter Tryd.func4, Tryd.ntmps4
    go_wp2_with fail
    refine (lives_any _ HB0.out).mono ?_
    rintro e w11 ⟨rfl, hb⟩
    have BB12 := Lib.hid (BB0.out.trans ((hb).mono BB0.out.size))
    clear hb BB0 HB0
    go_wp2
    go_ret
    exact ⟨rfl, BB12.out⟩
  · obtain ⟨i0, hi, hz0, hz1, hz2⟩ := info_parts info8
    have HI := Lib.hid hi
    have HZ0 := Lib.hid hz0
    have HZ1 := Lib.hid hz1
    have HZ2 := Lib.hid hz2
    have hoct := h.octs
    have hll := h.len
    have hw0 : 0 < w.heap.size := World.block_lt_of_cell? w _ (hbeh 0 (by decide))
    have hS := crc_oct_lt hoct
    obtain ⟨S, hSS⟩ : ∃ S, S = Crc.crc (toN l) := ⟨_, rfl⟩
    rw [← hSS] at hS
    obtain ⟨T, hT⟩ : ∃ T, T = addL l := ⟨_, rfl⟩
    have hT1 : T = l ++ [(S : Int) % 256, (S : Int) / 256] := by rw [hT, addL, ← hSS]; simp only [Int.natCast_emod, Int.natCast_ediv]; rfl
    have hTo : ∀ x ∈ T, (Lit.int .u8 x).wf = true := by rw [hT]; exact fun x hx => wf_u8.2 (addL_octs hoct x hx)
    have hTl : T.length = n + 2 := by rw [hT, addL_length, hll]
    have hTg : lastTwo T n = Crc.crc (toN (T.take n)) := by have := addL_good hoct; rw [hll] at this; rw [hT]; exact this
    have hTt : T.take n = l := by have := addL_take l; rw [hll] at this; rw [hT]; exact this
    have hTr : ((Crc.ext 65535 (toN T) : Nat) : Int) = 61624 := by rw [hT]; exact addL_residue hoct
    have HSS := Lib.hid hSS
    have HT := Lib.hid hT
    have HT1 := Lib.hid hT1
    have HTo := Lib.hid hTo
    have HTl := Lib.hid hTl
    have HTg := Lib.hid hTg
    have HTt := Lib.hid hTt
    have HTr := Lib.hid hTr
    have HLL := Lib.hid hll
    have HOct := Lib.hid hoct
    clear hi hz0 hz1 hz2 hoct hll hSS hT hT1 hTo hTl hTg hTt hTr h hbeh
    go_enter Tryd.func4, Tryd.ntmps4
    go_wp2_with (at_builtin; refine wpList_append_list rfl (.const (.slice none 0 0)) (.tmp 15) 23 rfl w.heap.size 5 i0 (.int .u8 0) 1 Tryd.underlying23 HI.out HZ0.out HZ1.out HZ2.out rfl .u8 _ 0 [] rfl (World.ownsRow_nil _ _ _ _) a n c l rfl (RSz.out.later BB0.out) ?_ ?_ (Nat.le_refl _) ?_)
    · unfold maxLen; omega
    · omega
    intro v11 w11 hown hgr
    have hb : Below w.heap.size w w11 := (Below.refl _ _).grown hgr (Nat.le_refl _) (by simp [Value.ownBlock])
    obtain ⟨aF, cF, rfl, rF, plF⟩ := ownsRow_at .u8 hown (fun x hx => wf_u8.2 (HOct.out x hx))
    have hsF := hb.size
    have BB12 := Lib.hid (BB0.out.trans ((hb).mono BB0.out.size))
    have HB13 := Lib.hid (HB0.out.later (hb))
    clear hb hgr hown BB0 HB0
    have RFz := Lib.hid rF
    clear rF
    have BF11 := Lib.hid (Below.refl w11.heap.size w11)
    go_wp2_with fail
    refine (add_n _ n c (n + 2) l T _ HB13.out (RSz.out.later BB12.out) (by omega) rfl HT.out.symm).mono ?_
    rintro e w14 ⟨⟨gS, rfl, rS, oS, hgS⟩, hb⟩
    have BB15 := Lib.hid (BB12.out.trans ((hb).mono BB12.out.size))
    have HB16 := Lib.hid (HB13.out.later (hb))
    have BF17 := Lib.hid (BF11.out.trans ((hb).mono BF11.out.size))
    have RT18 := Lib.hid (rS)
    clear rS BB12 HB13 BF11
    have OS := Lib.hid oS
    have hltS := oS.lt
    have hsS := hb.size
    clear oS hb
    go_wp2_with fail
    refine (refSum_n _ n c l S _ (RSz.out.later BB15.out) (by omega) (by rw [HSS.out])).mono ?_
    rintro e w19 ⟨rfl, hb⟩
    have BB20 := Lib.hid (BB15.out.trans ((hb).mono BB15.out.size))
    have HB21 := Lib.hid (HB16.out.later (hb))
    have BF22 := Lib.hid (BF17.out.trans ((hb).mono BF17.out.size))
    have RT23 := Lib.hid (RT18.out.later (hb))
    clear BB15 HB16 BF17 RT18
    have OS19 := Lib.hid (OS.out.below hb hltS)
    have hs19 := hb.size
    clear hb OS
    have OS := Lib.hid OS19.out
    clear OS19
    go_wp2_with (at_builtin; refine wpList_append_list rfl (.const (.slice none 0 0)) (.tmp 22) 23 rfl w19.heap.size 5 i0 (.int .u8 0) 1 Tryd.underlying23 HI.out HZ0.out HZ1.out HZ2.out rfl .u8 _ 0 [] rfl (World.ownsRow_nil _ _ _ _) a n c l rfl (RSz.out.later BB20.out) ?_ ?_ (Nat.le_refl _) ?_)
    · unfold maxLen; omega
    · omega
    intro v24 w24 hown hgr
    have hb : Below w19.heap.size w19 w24 := (Below.refl _ _).grown hgr (Nat.le_refl _) (by simp [Value.ownBlock])
    have HOa := Lib.hid hown
    have hsa := hb.size
    have HBa := Lib.hid hb
    clear hown hgr hb
    go_wp2_with (at_builtin; refine wpList_append_list rfl (.tmp 23) (.tmp 30) 23 rfl w19.heap.size 5 i0 (.int .u8 0) 1 Tryd.underlying23 HI.out HZ0.out HZ1.out HZ2.out rfl .u8 _ n l rfl (HOa.out.alloc _) (some ⟨w24.heap.size, 0, none⟩) 2 2 [(S : Int) % 256, (S : Int) / 256] rfl (row_lit .u8 w24 5 [(S : Int) % 256, (S : Int) / 256] 2 rfl (by decide) (by intro x hx; simp at hx; rcases hx with rfl | rfl <;> exact wf_u8.2 (by omega))) ?_ ?_ ?_ ?_)
    · unfold maxLen; omega
    · omega
    · simp; omega
    intro v25 w25 hown hgr
    have hb : Below w19.heap.size w19 w25 := (HBa.out.trans ((below_alloc w24 _).mono hsa)).grown hgr (by simp; omega) (fun g hg => (World.ownsRow.lt HOa.out g hg).1)
    rw [← HT1.out] at hown
    obtain ⟨aQ, cQ, rfl, rQ, _⟩ := ownsRow_at .u8 hown HTo.out
    have OS25 := Lib.hid (OS.out.below hb (by omega))
    have hs25 := hb.size
    have BB26 := Lib.hid (BB20.out.trans ((hb).mono BB20.out.size))
    have HB27 := Lib.hid (HB21.out.later (hb))
    have BF28 := Lib.hid (BF22.out.trans ((hb).mono BF22.out.size))
    have RT29 := Lib.hid (RT23.out.later (hb))
    have RQ30 := Lib.hid (rQ)
    clear hb hgr hown rQ HOa HBa OS BB20 HB21 BF22 RT23
    have OS := Lib.hid OS25.out
    clear OS25
    go_wp2_with fail
    refine (bytes_yes _ _ (n + 2) (n + 2) cQ T _ RT29.out RQ30.out).mono ?_
    rintro e w' ⟨rfl, q31, rfl⟩
    have hb := below_draw w25 q31
    obtain ⟨w31, hw⟩ : ∃ x, x = (w25).drewN q31 := ⟨_, rfl⟩
    rw [← hw] at hb ⊢
    have OS31 := Lib.hid (OS.out.below hb OS.out.lt)
    have hs31 := hb.size
    have BB32 := Lib.hid (BB26.out.trans ((hb).mono BB26.out.size))
    have HB33 := Lib.hid (HB27.out.later (hb))
    have BF34 := Lib.hid (BF28.out.trans ((hb).mono BF28.out.size))
    have RT35 := Lib.hid (RT29.out.later (hb))
    clear hb hw OS BB26 HB27 BF28 RT29 RQ30
    have OS := Lib.hid OS31.out
    clear OS31
    go_wp2_with fail
    refine (start_any _).mono ?_
    rintro e w' ⟨rfl, rfl⟩
    go_wp2_with fail
    refine (extend_n 65535 _ (n + 2) (n + 2) T 61624 _ (by decide) HB33.out RT35.out HTr.out).mono ?_
    rintro e w' ⟨rfl, rfl⟩
    go_wp2_with fail
    refine (sum_n _ n c l S _ HB33.out (RSz.out.later BB32.out) (by rw [HSS.out])).mono ?_
    rintro e w' ⟨rfl, rfl⟩
    go_wp2_with fail
    refine (check_ok _ (n + 2) (n + 2) n T l _ HB33.out RT35.out rfl (by omega) HTg.out HTt.out).mono ?_
    rintro e w36 ⟨⟨gK, rfl, rK, oK, hgK⟩, hb⟩
    have BB37 := Lib.hid (BB32.out.trans ((hb).mono BB32.out.size))
    have HB38 := Lib.hid (HB33.out.later (hb))
    have BF39 := Lib.hid (BF34.out.trans ((hb).mono BF34.out.size))
    have RT40 := Lib.hid (RT35.out.later (hb))
    have RK41 := Lib.hid (rK)
    clear rK BB32 HB33 BF34 RT35
    have OS36 := Lib.hid (OS.out.below hb OS.out.lt)
    have hs36 := hb.size
    have OK := Lib.hid oK
    have hltK := oK.lt
    clear hb OS oK
    have OS := Lib.hid OS36.out
    clear OS36
    go_wp2_with fail
    refine (bytes_yes _ _ n n c l _ RK41.out (RSz.out.later BB37.out)).mono ?_
    rintro e w' ⟨rfl, q42, rfl⟩
    have hb := below_draw w36 q42
    obtain ⟨w42, hw⟩ : ∃ x, x = (w36).drewN q42 := ⟨_, rfl⟩
    rw [← hw] at hb ⊢
    have OS42 := Lib.hid (OS.out.below hb OS.out.lt)
    have OK42 := Lib.hid (OK.out.below hb OK.out.lt)
    have hs42 := hb.size
    have BB43 := Lib.hid (BB37.out.trans ((hb).mono BB37.out.size))
    have HB44 := Lib.hid (HB38.out.later (hb))
    have BF45 := Lib.hid (BF39.out.trans ((hb).mono BF39.out.size))
    have RT46 := Lib.hid (RT40.out.later (hb))
    have RK47 := Lib.hid (RK41.out.later (hb))
    clear hb hw OS OK BB37 HB38 BF39 RT40 RK41
    have OS := Lib.hid OS42.out
    have OK := Lib.hid OK42.out
    clear OS42 OK42
    go_wp2_with (at_builtin; refine wpList_append_list rfl (.const (.slice none 0 0)) (.tmp 59) 23 rfl w42.heap.size 5 i0 (.int .u8 0) 1 Tryd.underlying23 HI.out HZ0.out HZ1.out HZ2.out rfl .u8 _ 0 [] rfl (World.ownsRow_nil _ _ _ _) _ (n + 2) (n + 2) T rfl RT46.out ?_ ?_ (Nat.le_refl _) ?_)
    · unfold maxLen; omega
    · omega
    intro v48 w48 hown hgr
    have hb : Below w42.heap.size w42 w48 := (Below.refl _ _).grown hgr (Nat.le_refl _) (by simp [Value.ownBlock])
    obtain ⟨aP, cP, rfl, rP, plP⟩ := ownsRow_at .u8 hown HTo.out
    have OS48 := Lib.hid (OS.out.below hb OS.out.lt)
    have OK48 := Lib.hid (OK.out.below hb OK.out.lt)
    have hs48 := hb.size
    have hltK2 := OK.out.lt
    have hltS2 := OS.out.lt
    have hplP : ∀ x, aP = some x → x.block ≠ gK := fun x hx => by have := (plP x hx).1; omega
    have PLP := Lib.hid hplP
    clear hplP plP
    have BB49 := Lib.hid (BB43.out.trans ((hb).mono BB43.out.size))
    have HB50 := Lib.hid (HB44.out.later (hb))
    have BF51 := Lib.hid (BF45.out.trans ((hb).mono BF45.out.size))
    have RT52 := Lib.hid (RT46.out.later (hb))
    have RK53 := Lib.hid (RK47.out.later (hb))
    have RP54 := Lib.hid (rP)
    clear hb hgr hown rP OS OK BB43 HB44 BF45 RT46 RK47
    have OS := Lib.hid OS48.out
    have OK := Lib.hid OK48.out
    clear OS48 OK48
    have hgg : gS ≠ gK := by omega
    go_wp2
    go_loopw [9] (fun ii wr => ∃ i : Nat, ∃ L : List Int, i ≤ n ∧ ii = .int .i64 i ∧ L.length = n ∧ (∀ x ∈ L, 0 ≤ x ∧ x ≤ 255) ∧ Only gK w48 wr ∧ Own wr gK 5 (nums .u8 L)) (fun ii _ => n - (intOf ii).toNat)
    case atStart => exact ⟨0, l, Nat.zero_le _, rfl, HLL.out, HOct.out, Only.refl _ _, OK.out⟩
    case round =>
      obtain ⟨i, L, hi, rfl, hLl, hLo, honly, hown⟩ := hrel
      have HLl := Lib.hid hLl
      have HLo := Lib.hid hLo
      have HOnly := Lib.hid honly
      have HOwn := Lib.hid hown
      by_cases hlt : i < n
      · have hcell := hown.cell i (by rw [nums_length, hLl]; omega)
        rw [nums_getD _ _ _ (by rw [hLl]; omega)] at hcell
        have hfr := hown.frozen i
        have hx := getD_oct hLo i
        obtain ⟨x, hxe⟩ : ∃ x, x = L.getD i 0 := ⟨_, rfl⟩
        rw [← hxe] at hcell hx
        obtain ⟨hx0, hx1⟩ := hx
        have hvr := wrap_u8_range (x + 1)
        obtain ⟨v, hv⟩ : ∃ v, v = IntKind.u8.wrap (x + 1) := ⟨_, rfl⟩
        rw [← hv] at hvr
        have hv2 := hv.symm
        clear hLl hLo honly hown hxe hv
        have HVr := Lib.hid hvr
        clear hvr
        go_wp2
        exact ⟨⟨i + 1, L.set i v, by omega, by go_num, by rw [List.length_set, HLl.out], set_octs HLo.out i v HVr.out, HOnly.out.setCell _ _, by have := HOwn.out.set i (.int .u8 v); rw [nums_set] at this; exact this⟩, by simp [intOf]; omega⟩
      · clear hLl hLo honly hown HLl HLo HOwn
        obtain rfl : n = i := by omega
        have hltS4 := OS.out.lt
        obtain ⟨w55, rfl⟩ : ∃ x, x = wr := ⟨_, rfl⟩
        have hon := HOnly.out
        have hson := hon.size
        have BB56 := Lib.hid (Only.below BB49.out hon (by have := BB49.out.size; omega) (by omega))
        clear BB49
        have HB57 := Lib.hid (HB50.out.exc (S := fun k => some gK = some k) (Exc.of_grown hon) (by simp; omega))
        clear HB50
        have BF58 := Lib.hid (Only.below BF51.out hon (by have := BF51.out.size; omega) (by omega))
        clear BF51
        clear RT52
        clear RK53
        have RP61 := Lib.hid (hon.row RP54.out PLP.out)
        clear RP54
        have OS2 := Lib.hid (hon.own_far OS.out hgg)
        clear OS OK hon HOnly
        have OS := Lib.hid OS2.out
        clear OS2
        have RTx := Lib.hid (OS.out.row0 (n + 2) (n + 2) HTl.out.symm (Nat.le_refl _) (by unfold maxLen; omega) HTo.out)
        go_wp2_with fail
        refine (same_yes _ _ (n + 2) (n + 2) (n + 2) cP T _ RTx.out RP61.out).mono ?_
        rintro e w' ⟨rfl, q62, rfl⟩
        have hb := below_draw w55 q62
        obtain ⟨w62, hw⟩ : ∃ x, x = (w55).drewN q62 := ⟨_, rfl⟩
        rw [← hw] at hb ⊢
        have OS62 := Lib.hid (OS.out.below hb OS.out.lt)
        have hs62 := hb.size
        have BB63 := Lib.hid (BB56.out.trans ((hb).mono BB56.out.size))
        have HB64 := Lib.hid (HB57.out.later (hb))
        have BF65 := Lib.hid (BF58.out.trans ((hb).mono BF58.out.size))
        clear hb hw OS BB56 HB57 BF58 RP61
        have OS := Lib.hid OS62.out
        clear OS62
        clear RTx
        have hoT : ∀ x ∈ T, 0 ≤ x ∧ x ≤ 255 := fun x hx => wf_u8.1 (HTo.out x hx)
        have HoT := Lib.hid hoT
        clear hoT
        skip
        go_wp2
        go_loopw [10] (fun ii wr => ∃ i : Nat, ∃ L : List Int, i ≤ (n + 2) ∧ ii = .int .i64 i ∧ L.length = (n + 2) ∧ (∀ x ∈ L, 0 ≤ x ∧ x ≤ 255) ∧ Only gS w62 wr ∧ Own wr gS 5 (nums .u8 L)) (fun ii _ => (n + 2) - (intOf ii).toNat)
        case atStart => exact ⟨0, T, Nat.zero_le _, rfl, HTl.out, HoT.out, Only.refl _ _, OS.out⟩
        case round =>
          obtain ⟨i, L, hi, rfl, hLl, hLo, honly, hown⟩ := hrel
          have HLl := Lib.hid hLl
          have HLo := Lib.hid hLo
          have HOnly := Lib.hid honly
          have HOwn := Lib.hid hown
          by_cases hlt : i < (n + 2)
          · have hcell := hown.cell i (by rw [nums_length, hLl]; omega)
            rw [nums_getD _ _ _ (by rw [hLl]; omega)] at hcell
            have hfr := hown.frozen i
            have hx := getD_oct hLo i
            obtain ⟨x, hxe⟩ : ∃ x, x = L.getD i 0 := ⟨_, rfl⟩
            rw [← hxe] at hcell hx
            obtain ⟨hx0, hx1⟩ := hx
            have hvr := wrap_u8_range (x + 1)
            obtain ⟨v, hv⟩ : ∃ v, v = IntKind.u8.wrap (x + 1) := ⟨_, rfl⟩
            rw [← hv] at hvr
            have hv2 := hv.symm
            clear hLl hLo honly hown hxe hv
            have HVr := Lib.hid hvr
            clear hvr
            go_wp2
            exact ⟨⟨i + 1, L.set i v, by omega, by go_num, by rw [List.length_set, HLl.out], set_octs HLo.out i v HVr.out, HOnly.out.setCell _ _, by have := HOwn.out.set i (.int .u8 v); rw [nums_set] at this; exact this⟩, by simp [intOf]; omega⟩
          · clear hLl hLo honly hown HLl HLo HOwn
            obtain rfl : (n + 2) = i := by omega
            obtain ⟨w66, rfl⟩ : ∃ x, x = wr := ⟨_, rfl⟩
            have hon := HOnly.out
            have hson := hon.size
            have BB67 := Lib.hid (Only.below BB63.out hon (by have := BB63.out.size; omega) (by omega))
            clear BB63
            have HB68 := Lib.hid (HB64.out.exc (S := fun k => some gS = some k) (Exc.of_grown hon) (by simp; omega))
            clear HB64
            have BF69 := Lib.hid (Only.below BF65.out hon (by have := BF65.out.size; omega) (by omega))
            clear BF65
            clear hon HOnly
            go_wp2_with fail
            refine (same_yes _ _ n c n cF l _ (RSz.out.later BB67.out) (RFz.out.later BF69.out)).mono ?_
            rintro e w' ⟨rfl, q70, rfl⟩
            have hb := below_draw w66 q70
            obtain ⟨w70, hw⟩ : ∃ x, x = (w66).drewN q70 := ⟨_, rfl⟩
            rw [← hw] at hb ⊢
            have BB71 := Lib.hid (BB67.out.trans ((hb).mono BB67.out.size))
            have HB72 := Lib.hid (HB68.out.later (hb))
            have BF73 := Lib.hid (BF69.out.trans ((hb).mono BF69.out.size))
            clear hb hw BB67 HB68 BF69
            go_wp2_with fail
            refine (lives_any _ HB72.out).mono ?_
            rintro e w74 ⟨rfl, hb⟩
            have BB75 := Lib.hid (BB71.out.trans ((hb).mono BB71.out.size))
            clear hb BB71 HB72 BF73
            go_wp2
            go_ret
            exact ⟨rfl, BB75.out⟩
end Go.Proofs.YtkalpjccfknopaaDoor
