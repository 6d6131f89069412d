/- Statement text: BasicsWindow. -/
import Derived.Test.YtfoliplejhoaeaaMAt
namespace Go.Proofs.Ytfoliplejhoaeaa
open Go.RowKit

/-- g loads were given, s of them were sent, none was acknowledged. -/
def winMd (g s : Nat) : Md := ⟨g, s, 0, s, true, 127, true, false, false, false⟩
theorem win_next {g s : Nat} (hs : s ≤ 127) (hg : s < g) (hq : g ≤ s + 64) : (winMd g s).next.2 = winMd g (min (s + 1) 127) := by
  have hok : (winMd g s).Ok := ⟨Nat.zero_le _, Nat.le_refl _, Nat.le_of_lt hg, by show s ≤ 0 + 127; omega, hq, by show 127 < 128; decide⟩
  by_cases h : s < 127
  · rcases Md.next_cases hok with ⟨c, e⟩ | ⟨c, c2, c3, e⟩ | ⟨c, c2, e⟩
    · exact absurd c (Nat.lt_irrefl _)
    · rw [e, Nat.min_eq_left (by omega)]; rfl
    · exact absurd (show s < g ∧ s - 0 < 127 by omega) c2
  · rcases Md.next_cases hok with ⟨c, e⟩ | ⟨c, c2, c3, e⟩ | ⟨c, c2, e⟩
    · exact absurd c (Nat.lt_irrefl _)
    · exact absurd (show s - 0 < 127 from c3) (by omega)
    · rw [e, Nat.min_eq_right (by omega)]
      have : s = 127 := by omega
      subst this; rfl
def ackMd (D : Nat) : Md := ⟨191, 127, D, 127, true, 127, true, false, false, false⟩
theorem win_hear {D : Nat} (hD : D < 128) : (winMd 191 127).hear ⟨num D, true, 127, true, 0, 0, []⟩ = (false, ackMd D) := by
  have hd : (winMd 191 127).d ⟨num D, true, 127, true, 0, 0, []⟩ = D := num_diff (a := 0) (b := D) (Nat.zero_le _) (by omega)
  have hw : (winMd 191 127).wrong ⟨num D, true, 127, true, 0, 0, []⟩ = false := by
    unfold Md.wrong; rw [hd]; exact decide_eq_false (by show ¬ (127 - 0 < D); omega)
  have ha : (winMd 191 127).ack ⟨num D, true, 127, true, 0, 0, []⟩ = ackMd D := by
    unfold Md.ack; rw [hd]; simp only [winMd, ackMd, Nat.zero_add, if_true]; rw [Nat.max_eq_left (by omega)]
  unfold Md.hear
  rw [hw, ha]
  simp [Md.takes, winMd, ackMd]
theorem win_ret {w wr : World} {K : Nat} (h : MAt w wr w.heap.size (winMd 191 127)) (hK : K ≤ 127) :
    Calls Try.prog 22 #[.pointer (some ⟨w.heap.size, 0, none⟩), .int .u8 (num K : Int)] wr fun e w' => (∃ a, e = .returned (.tuple #[.slice a (191 - K) (191 - K), .int .i64 0]) ∧ Mat w' (fun _ => True) true a (191 - K) (191 - K) (listL K 191)) ∧ MAt w w' w.heap.size (winMd 191 127) :=
  m_retrieve h (Nat.zero_le _) hK
set_option maxHeartbeats 4000000 in
set_option maxRecDepth 100000 in
theorem window_any (hl : LivesOk) (w : World) (X Y : Nat) (hX : X ≤ 255) (hY : Y ≤ 255) :
    Calls Try.prog 6 #[.int .u8 (X : Int), .int .u8 (Y : Int)] w fun e w' => e = .returned (.bool true) ∧ Below w.heap.size w w' := by
  have HL := Lib.hid hl
  clear hl
  obtain ⟨S, hS⟩ : ∃ S : Nat, S = X % 70 := ⟨_, rfl⟩
  have hSi : (X : Int) % 70 = (S : Int) := by omega
  have hS70 : S < 70 := by omega
  obtain ⟨D, hD⟩ : ∃ D : Nat, D = Y % 128 := ⟨_, rfl⟩
  have hDi : (Y : Int) % 128 = (D : Int) := by omega
  have hD128 : D < 128 := by omega
  clear hS hD
  go_enter Try.func6, Try.ntmps6
  go_wp2_with fail
  refine (m_new w).mono ?_
  rintro e w1 ⟨rfl, h1⟩
  have HM1 := Lib.hid h1
  clear h1
  go_wp2_with fail
  go_loopw [6, 7] (fun g r wr => ∃ G R : Nat, g = .int .i64 (G : Nat) ∧ r = .int .i64 (R : Nat) ∧ R ≤ G ∧ min R 127 ≤ G ∧ G ≤ min R 127 + 64 ∧ MAt w wr w.heap.size (winMd G (min R 127))) (fun _ r _ => 300 - (intOf r).toNat)
  case atStart => exact ⟨0, 0, rfl, rfl, Nat.le_refl _, Nat.zero_le _, Nat.zero_le _, HM1.out⟩
  case round =>
    obtain ⟨G, R, rfl, rfl, hRG, hsg, hgs, hm⟩ := hrel
    clear HM1
    by_cases hlt : G < 191
    · have hGi : (G : Int) < 191 := by omega
      have hRi : (R : Int) < 300 := by omega
      have HM := Lib.hid hm
      obtain ⟨s, hs⟩ : ∃ s, s = min R 127 := ⟨_, rfl⟩
      rw [← hs] at HM hsg hgs
      have HSr := Lib.hid hs
      have hs127 : s ≤ 127 := by omega
      have hsR : s ≤ R := by omega
      have hfull : R + 1 ≤ s + 64 := by omega
      clear hm hs
      go_wp2_with fail
      go_loopw [6, 8] (fun g k wr => ∃ G' K : Nat, g = .int .i64 (G' : Nat) ∧ k = .int .i64 (K : Nat) ∧ K ≤ S + 1 ∧ G ≤ G' ∧ (K = 0 ∨ R + 1 ≤ G') ∧ G' ≤ s + 64 ∧ MAt w wr w.heap.size (winMd G' s)) (fun _ k _ => S + 1 - (intOf k).toNat)
      case atStart => exact ⟨G, 0, rfl, rfl, Nat.zero_le _, Nat.le_refl _, .inl rfl, hgs, HM.out⟩
      case round =>
        obtain ⟨G', K, rfl, rfl, hK, hGG, hKR, hG2, hm'⟩ := hrel
        clear HM
        by_cases hltK : K ≤ S
        · have hKi : (K : Int) ≤ (S : Int) := by omega
          have HM' := Lib.hid hm'
          have HBd := Lib.hid (And.intro hGG (And.intro hKR (And.intro hG2 hK)))
          clear hm' hKR hK
          go_wp2_with fail
          obtain ⟨w5, rfl⟩ : ∃ x, x = wr := ⟨_, rfl⟩
          refine (kmsg_row G' w5 (by omega)).mono ?_
          rintro e w6 ⟨⟨rfl, hrv⟩, hb6⟩
          obtain ⟨ra, rc, hra, hrow, hrc, hrz⟩ := hrv
          cases hra
          by_cases hfu : G' = s + 64
          · have HA := Lib.hid (m_full (a := some ⟨w5.heap.size, 0, none⟩) (c := 2) HM'.out hb6 rfl hfu)
            have HR3 := Lib.hid (show R + 1 ≤ G' by omega)
            clear hrow hb6 hrc hrz hfu
            go_wp2_with fail
            refine HA.out.mono ?_
            rintro e w7 ⟨rfl, hm7⟩
            have HM7 := Lib.hid hm7
            clear hm7 HA
            go_wp2_with fail
            obtain ⟨b1, b2, b3, b4⟩ := HBd.out
            exact ⟨⟨G', K + 1, rfl, by go_num, by omega, b1, .inr HR3.out, b3, HM7.out⟩, by simp [intOf]; omega⟩
          · have HA := Lib.hid (m_accept HM'.out hb6 rfl (show G' < s + 64 by omega) hrow)
            have hG3 : G' + 1 ≤ s + 64 := by omega
            have HG3 := Lib.hid hG3
            clear hrow hb6 hrc hrz hfu hG3
            go_wp2_with fail
            refine HA.out.mono ?_
            rintro e w7 ⟨rfl, hm7⟩
            have HM7 := Lib.hid hm7
            clear hm7 HA
            go_wp2_with fail
            obtain ⟨b1, b2, b3, b4⟩ := HBd.out
            exact ⟨⟨G' + 1, K + 1, by go_num, by go_num, by omega, by omega, .inr (by have := HG3.out; omega), HG3.out, HM7.out⟩, by simp [intOf]; omega⟩
        · have hKi : ¬ (K : Int) ≤ (S : Int) := by omega
          have hRG2 : R + 1 ≤ G' := by omega
          have hn := m_next hm' rfl
          rw [win_next hs127 (by omega) hG2] at hn
          have HN := Lib.hid hn
          have hmin : min (s + 1) 127 = min (R + 1) 127 := by have := HSr.out; omega
          rw [hmin] at HN
          have HBd := Lib.hid (And.intro hGG hG2)
          clear hm' hn hKR hK hmin
          go_wp2_with fail
          refine HN.out.mono ?_
          rintro e w7 ⟨sl, rfl, _, hm7⟩
          have HM7 := Lib.hid hm7
          clear hm7 HN
          go_wp2_with fail
          obtain ⟨b1, b3⟩ := HBd.out
          have hsr := HSr.out
          exact ⟨⟨G', R + 1, rfl, by go_num, hRG2, by omega, by omega, HM7.out⟩, by simp [intOf]; omega⟩
    · have hGi : ¬ (G : Int) < 191 := by omega
      have hmin : min R 127 = 127 := by omega
      have hG191 : G = 191 := by omega
      subst hG191
      rw [hmin] at hm
      have HM := Lib.hid hm
      clear hm hmin hsg hgs
      have hRi : (R : Int) < 300 := by omega
      simp only [show ((191 : Nat) : Int) = 191 from rfl]
      go_wp2_with fail
      go_loopw [10] (fun j wr => ∃ J : Nat, J ≤ 200 ∧ j = .int .i64 (J : Nat) ∧ MAt w wr w.heap.size (winMd 191 127)) (fun j _ => 200 - (intOf j).toNat)
      case atStart => exact ⟨0, Nat.zero_le _, rfl, HM.out⟩
      case round =>
        obtain ⟨J, hJ, rfl, hm⟩ := hrel
        clear HM
        by_cases hltJ : J < 200
        · have hJi : (J : Int) < 200 := by omega
          have hn := m_next hm rfl
          rw [win_next (by decide) (by decide) (by decide)] at hn
          have HN := Lib.hid hn
          clear hm hn
          go_wp2_with fail
          refine HN.out.mono ?_
          rintro e w7 ⟨sl, rfl, _, hm7⟩
          have HM7 := Lib.hid (show MAt w w7 w.heap.size (winMd 191 127) from hm7)
          clear hm7 HN
          go_wp2_with fail
          exact ⟨⟨J + 1, by omega, by go_num, HM7.out⟩, by simp [intOf]; omega⟩
        · have hJi : ¬ (J : Int) < 200 := by omega
          have hw : Calls Try.prog 21 #[.pointer (some ⟨w.heap.size, 0, none⟩)] wr fun e w' => e = .returned (.tuple #[.int .i64 64, .int .i64 127]) ∧ ∃ q, w' = wr.drewN q := m_waiting hm
          have HWt := Lib.hid hw
          have HM := Lib.hid hm
          clear hw hm
          go_wp2_with fail
          refine HWt.out.mono ?_
          rintro e w8 ⟨rfl, q8, hq8⟩
          have HM8 := Lib.hid (HM.out.later (by rw [hq8]; exact below_draw wr q8 : Below wr.heap.size wr w8))
          clear HM HWt hq8
          go_wp2_with fail
          go_loopw [13] (fun j wr => ∃ K : Nat, K ≤ 128 ∧ j = .int .i64 (K : Nat) ∧ MAt w wr w.heap.size (winMd 191 127)) (fun j _ => 128 - (intOf j).toNat)
          case atStart => exact ⟨0, Nat.zero_le _, rfl, HM8.out⟩
          case round =>
            obtain ⟨K, hK, rfl, hm⟩ := hrel
            clear HM8
            by_cases hltK : K ≤ 127
            · have hKi : (K : Int) ≤ 127 := by omega
              have HM := Lib.hid hm
              obtain ⟨P, hP⟩ : ∃ P, P = num K := ⟨_, rfl⟩
              have hnum := fun W => knum_any K W (by omega)
              rw [← hP] at hnum
              have HNm := Lib.hid hnum
              have HP := Lib.hid hP
              clear hm hnum hP
              go_wp2_with fail
              refine (HNm.out _).mono ?_
              rintro e w9 ⟨rfl, rfl⟩
              have hrt := win_ret HM.out hltK
              obtain ⟨N, hN⟩ : ∃ N, N = 191 - K := ⟨_, rfl⟩
              rw [← HP.out, ← hN] at hrt
              have HRt := Lib.hid hrt
              have HN := Lib.hid hN
              clear hrt hN HM
              go_wp2_with fail
              refine HRt.out.mono ?_
              rintro e w10 ⟨⟨ra, rfl, hm10⟩, hma⟩
              have HMt := Lib.hid hm10
              have HMa := Lib.hid hma
              clear hm10 hma HRt
              go_wp2_with fail
              have hls := klist_any K 191 w10 (by omega) (by decide)
              rw [← HN.out] at hls
              refine hls.mono ?_
              rintro e w11 ⟨⟨la, lc, rfl, hm11⟩, hb11⟩
              have HLs := Lib.hid (lists_same (fun _ => True) _ true ra la N lc (listL K 191) w11 (HMt.out.later hb11) hm11)
              have HMb := Lib.hid (HMa.out.later hb11)
              clear hm11 hb11 hls HMt HMa
              go_wp2_with fail
              refine HLs.out.mono ?_
              rintro e w12 ⟨rfl, q12, hq12⟩
              have HMc := Lib.hid (HMb.out.later (by rw [hq12]; exact below_draw w11 q12 : Below w11.heap.size w11 w12))
              clear hq12 HMb HLs
              go_wp2_with fail
              exact ⟨⟨K + 1, by omega, by go_num, HMc.out⟩, by simp [intOf]; omega⟩
            · have hKi : ¬ (K : Int) ≤ 127 := by omega
              have HM := Lib.hid hm
              obtain ⟨P, hP⟩ : ∃ P, P = num D := ⟨_, rfl⟩
              have hnum := fun W => knum_any D W (by omega)
              rw [← hP] at hnum
              have HNm := Lib.hid hnum
              have HP := Lib.hid hP
              clear hm hnum hP
              go_wp2_with fail
              refine (HNm.out _).mono ?_
              rintro e w9 ⟨rfl, rfl⟩
              have hP128 : P < 128 := by rw [HP.out]; exact num_lt D
              have hh := m_hear (u := ⟨P, true, 127, true, 0, 0, []⟩) (s := none) (n := 0) (c := 0) HM.out (Below.refl _ _) rfl (by show (0 : Nat) ≠ 1; decide) (by show chk (P : Int) 127 0 0 0 = 0; rw [chk_ok]; omega) (Row.of_nil _ _) (by simp)
              have hev : (winMd 191 127).hear ⟨P, true, 127, true, 0, 0, []⟩ = (false, ackMd D) := by rw [HP.out]; exact win_hear hD128
              rw [hev] at hh
              have HH := Lib.hid hh
              clear hh hev HM hP128
              simp only [unCells] at HH
              go_wp2_with fail
              refine HH.out.mono ?_
              rintro e w10 ⟨⟨ra, rd, rfl, _⟩, hm10⟩
              have HM10 := Lib.hid hm10
              clear hm10 HH HNm
              go_wp2_with fail
              refine (m_bad HM10.out (t := 200) (by decide) (.inl (by decide))).mono ?_
              rintro e w11 ⟨rfl, hm11⟩
              have HM11 := Lib.hid hm11
              obtain ⟨E, hE⟩ : ∃ E, E = 127 - D := ⟨_, rfl⟩
              have hw : Calls Try.prog 21 #[.pointer (some ⟨w.heap.size, 0, none⟩)] w11 fun e w' => e = .returned (.tuple #[.int .i64 64, .int .i64 (E : Int)]) ∧ ∃ q, w' = w11.drewN q := by rw [hE]; exact m_waiting hm11
              have hEi : ((E : Int) == 127 - (D : Int)) = true := by simp; omega
              have HWt := Lib.hid hw
              clear hm11 HM10 hw hE
              go_wp2_with fail
              refine HWt.out.mono ?_
              rintro e w12 ⟨rfl, q12, hq12⟩
              have HM12 := Lib.hid (HM11.out.later (by rw [hq12]; exact below_draw w11 q12 : Below w11.heap.size w11 w12))
              clear hq12 HM11 HWt
              obtain ⟨Z, hZ⟩ : ∃ Z, Z = D + 127 := ⟨_, rfl⟩
              have hZi : (D : Int) - 1 + 128 = (Z : Int) := by omega
              obtain ⟨V, hV⟩ : ∃ V, V = num Z := ⟨_, rfl⟩
              have hnum := fun W => knum_any Z W (by omega)
              rw [← hV] at hnum
              have HNm := Lib.hid hnum
              have HV := Lib.hid hV
              have HZ := Lib.hid hZ
              clear hnum hV hZ
              by_cases hD0 : D = 0
              · have hDb : ((D : Int) == 0) = true := by simp; omega
                have HRt := Lib.hid (m_retrieve (k := 127) HM12.out (by show D ≤ 127; omega) (Nat.le_refl _))
                have HD0 := Lib.hid hD0
                clear hD0
                go_wp2_with fail
                refine (HNm.out _).mono ?_
                rintro e w13 ⟨rfl, rfl⟩
                have hV2 : V = num 127 := by rw [HV.out, HZ.out, HD0.out]
                rw [hV2]
                clear hV2
                go_wp2_with fail
                refine HRt.out.mono ?_
                rintro e w14 ⟨⟨rb, rfl, _⟩, hm14⟩
                have HM14 := Lib.hid hm14
                clear hm14 HRt HM12
                go_wp2_with fail
                refine (HL.out _).mono ?_
                rintro e w15 ⟨rfl, hb15⟩
                have HB15 := Lib.hid (HM14.out.bel.trans (Below.mono hb15 HM14.out.bel.size))
                clear hb15
                go_wp2
                go_ret
                exact ⟨rfl, HB15.out⟩
              · have hDb : ((D : Int) == 0) = false := by simp; omega
                have HRt := Lib.hid (m_bad HM12.out (t := V) (by rw [HV.out]; have := num_lt Z; omega) (.inr (by
                  show 127 - D < (V + 128 - num D) % 128
                  rw [HV.out, HZ.out, num_diff (by omega) (by omega)]; omega)))
                clear hD0
                go_wp2_with fail
                refine (HNm.out _).mono ?_
                rintro e w13 ⟨rfl, rfl⟩
                go_wp2_with fail
                refine HRt.out.mono ?_
                rintro e w14 ⟨rfl, hm14⟩
                have HM14 := Lib.hid hm14
                clear hm14 HRt HM12
                go_wp2_with fail
                refine (HL.out _).mono ?_
                rintro e w15 ⟨rfl, hb15⟩
                have HB15 := Lib.hid (HM14.out.bel.trans (Below.mono hb15 HM14.out.bel.size))
                clear hb15
                go_wp2
                go_ret
                exact ⟨rfl, HB15.out⟩
end Go.Proofs.Ytfoliplejhoaeaa
