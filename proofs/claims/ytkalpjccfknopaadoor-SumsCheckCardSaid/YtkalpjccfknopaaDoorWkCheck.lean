/- The walk of SumsCheck. -/
import Derived.Test.YtkalpjccfknopaaDoorSumsLives
namespace Go.Proofs.YtkalpjccfknopaaDoor
open Go.RowKit

set_option maxHeartbeats 2000000 in
set_option maxRecDepth 100000 in
theorem sumsCheck_walk (a : Option Addr) (n c : Nat) (l : List Int) (w : World) (hbeh : BehindOk w) (h : Row .u8 w a n c l) :
    Calls Tryd.prog 5 #[.slice a n c] w fun e w' => e = .returned (.bool true) ∧ Below w.heap.size w w' := by
  have BB0 := Lib.hid (Below.refl w.heap.size w)
  have HB0 := Lib.hid hbeh
  have RS0 := Lib.hid h
  have hcm := h.max
  have hle := h.le
  unfold maxLen at hcm
  by_cases hbig : 300 < n
  · clear h hbeh
    go_enter Tryd.func5, Tryd.ntmps5
    go_wp2_with fail
    refine (lives_any _ HB0.out).mono ?_
    rintro e w11 ⟨rfl, hb⟩
    have BB12 := Lib.hid (BB0.out.trans ((hb).mono BB0.out.size))
    clear hb BB0 HB0 RS0
    go_wp2
    go_ret
    exact ⟨rfl, BB12.out⟩
  · by_cases hsm : n < 2
    · clear h hbeh
      go_enter Tryd.func5, Tryd.ntmps5
      go_wp2_with fail
      refine (check_few _ n c _ hsm).mono ?_
      rintro e w11 ⟨rfl, hb⟩
      have BB12 := Lib.hid (BB0.out.trans ((hb).mono BB0.out.size))
      have HB13 := Lib.hid (HB0.out.later (hb))
      have RS14 := Lib.hid (RS0.out.later (hb))
      clear hb BB0 HB0 RS0
      go_wp2_with fail
      refine (lives_any _ HB13.out).mono ?_
      rintro e w15 ⟨rfl, hb⟩
      have BB16 := Lib.hid (BB12.out.trans ((hb).mono BB12.out.size))
      clear hb BB12 HB13 RS14
      go_wp2
      go_ret
      exact ⟨rfl, BB16.out⟩
    · obtain ⟨m, rfl⟩ : ∃ m, n = m + 2 := ⟨n - 2, by omega⟩
      obtain ⟨b, o, rfl⟩ := row_plain h (by omega)
      have hoct := h.octs
      have hll := h.len
      rcases h.cells with h0 | ⟨b', o', ha, hc⟩
      · omega
      simp at ha
      obtain ⟨rfl, rfl⟩ := ha
      have g0 := hc m (by omega)
      have g1 := hc (m + 1) (by omega)
      have hS := crc_oct_lt (l := l.take m) (fun x hx => hoct x (List.mem_of_mem_take hx))
      obtain ⟨S, hSS⟩ : ∃ S, S = Crc.crc (toN (l.take m)) := ⟨_, rfl⟩
      rw [← hSS] at hS
      have hx0 := getD_oct hoct m
      have hx1 := getD_oct hoct (m + 1)
      have hlt2 : lastTwo l m = Crc.crc (toN (l.take m)) ↔ (l.getD m 0 = (S : Int) % 256 ∧ l.getD (m + 1) 0 = (S : Int) / 256) := by
        rw [← hSS]; unfold lastTwo; omega
      obtain ⟨x, hx⟩ : ∃ x, x = l.getD m 0 := ⟨_, rfl⟩
      obtain ⟨y, hy⟩ : ∃ y, y = l.getD (m + 1) 0 := ⟨_, rfl⟩
      rw [← hx] at g0 hx0 hlt2
      rw [← hy] at g1 hx1 hlt2
      obtain ⟨hx00, hx01⟩ := hx0
      obtain ⟨hx10, hx11⟩ := hx1
      have HSS := Lib.hid hSS
      have HLt := Lib.hid hlt2
      have HLL := Lib.hid hll
      have g0' : ∀ W, Below w.heap.size w W → W.cell? ⟨b, o + m, none⟩ = some (.int .u8 x) := fun W hW => by rw [hW.cell (p := ⟨b, o + m, none⟩) (World.block_lt_of_cell? w _ g0)]; exact g0
      have g1' : ∀ W, Below w.heap.size w W → W.cell? ⟨b, o + (m + 1), none⟩ = some (.int .u8 y) := fun W hW => by rw [hW.cell (p := ⟨b, o + (m + 1), none⟩) (World.block_lt_of_cell? w _ g1)]; exact g1
      have HG0 := Lib.hid g0'
      have HG1 := Lib.hid g1'
      clear h hbeh hc hx hy hSS hlt2 hll hoct g0 g1 g0' g1'
      by_cases hxs : x = (S : Int) % 256
      · by_cases hys : y = (S : Int) / 256
        · have hne := HLt.out.2 ⟨hxs, hys⟩
          have hbx : (x != (S : Int) % 256) = false := by simpa using hxs
          have hby : (y != (S : Int) / 256) = false := by simpa using hys
          clear hxs hys
          have HNe := Lib.hid hne
          clear hne
          go_enter Tryd.func5, Tryd.ntmps5
          go_wp2_with fail
          refine (check_ok _ (m + 2) c m l _ _ HB0.out RS0.out rfl (by omega) HNe.out rfl).mono ?_
          rintro e w11 ⟨⟨g11, rfl, r11, ow11, hg11⟩, hb⟩
          have BB12 := Lib.hid (BB0.out.trans ((hb).mono BB0.out.size))
          have HB13 := Lib.hid (HB0.out.later (hb))
          have RS14 := Lib.hid (RS0.out.later (hb))
          have RG15 := Lib.hid (r11)
          clear hb r11 ow11 hg11 BB0 HB0 RS0
          go_wp2_with fail
          refine (refSum_n _ m c (l.take m) S _ (RS14.out.front m (by omega)) (by omega) (by rw [HSS.out])).mono ?_
          rintro e w16 ⟨rfl, hb⟩
          have BB17 := Lib.hid (BB12.out.trans ((hb).mono BB12.out.size))
          have HB18 := Lib.hid (HB13.out.later (hb))
          have RS19 := Lib.hid (RS14.out.later (hb))
          have RG20 := Lib.hid (RG15.out.later (hb))
          clear hb BB12 HB13 RS14 RG15
          have gg0 := HG0.out _ BB17.out
          have gg1 := HG1.out _ BB17.out
          go_wp2_with fail
          clear gg0 gg1
          refine (bytes_yes _ _ m m c (l.take m) _ RG20.out (RS19.out.front m (by omega))).mono ?_
          rintro e w' ⟨rfl, q21, rfl⟩
          have hb := below_draw w16 q21
          obtain ⟨w21, hw⟩ : ∃ x, x = (w16).drewN q21 := ⟨_, rfl⟩
          rw [← hw] at hb ⊢
          have BB22 := Lib.hid (BB17.out.trans ((hb).mono BB17.out.size))
          have HB23 := Lib.hid (HB18.out.later (hb))
          have RS24 := Lib.hid (RS19.out.later (hb))
          have RG25 := Lib.hid (RG20.out.later (hb))
          clear hb hw BB17 HB18 RS19 RG20
          go_wp2_with fail
          refine (lives_any _ HB23.out).mono ?_
          rintro e w26 ⟨rfl, hb⟩
          have BB27 := Lib.hid (BB22.out.trans ((hb).mono BB22.out.size))
          clear hb BB22 HB23 RS24 RG25
          go_wp2
          go_ret
          exact ⟨rfl, BB27.out⟩
        · have hne := fun hh => hys (HLt.out.1 hh).2
          have hbx : (x != (S : Int) % 256) = false := by simpa using hxs
          have hby : (y != (S : Int) / 256) = true := by simpa using hys
          clear hxs hys
          have HNe := Lib.hid hne
          clear hne
          go_enter Tryd.func5, Tryd.ntmps5
          go_wp2_with fail
          refine (check_no _ (m + 2) c m l _ HB0.out RS0.out rfl (by omega) HNe.out).mono ?_
          rintro e w' ⟨rfl, q11, rfl⟩
          have hb := below_draw w q11
          obtain ⟨w11, hw⟩ : ∃ x, x = (w).drewN q11 := ⟨_, rfl⟩
          rw [← hw] at hb ⊢
          have BB12 := Lib.hid (BB0.out.trans ((hb).mono BB0.out.size))
          have HB13 := Lib.hid (HB0.out.later (hb))
          have RS14 := Lib.hid (RS0.out.later (hb))
          clear hb hw BB0 HB0 RS0
          go_wp2_with fail
          refine (refSum_n _ m c (l.take m) S _ (RS14.out.front m (by omega)) (by omega) (by rw [HSS.out])).mono ?_
          rintro e w15 ⟨rfl, hb⟩
          have BB16 := Lib.hid (BB12.out.trans ((hb).mono BB12.out.size))
          have HB17 := Lib.hid (HB13.out.later (hb))
          have RS18 := Lib.hid (RS14.out.later (hb))
          clear hb BB12 HB13 RS14
          have gg0 := HG0.out _ BB16.out
          have gg1 := HG1.out _ BB16.out
          go_wp2_with fail
          refine (lives_any _ HB17.out).mono ?_
          rintro e w19 ⟨rfl, hb⟩
          have BB20 := Lib.hid (BB16.out.trans ((hb).mono BB16.out.size))
          clear hb BB16 HB17 RS18
          go_wp2
          go_ret
          exact ⟨rfl, BB20.out⟩
      · have hne := fun hh => hxs (HLt.out.1 hh).1
        have hbx : (x != (S : Int) % 256) = true := by simpa using hxs
        clear hxs
        have HNe := Lib.hid hne
        clear hne
        go_enter Tryd.func5, Tryd.ntmps5
        go_wp2_with fail
        refine (check_no _ (m + 2) c m l _ HB0.out RS0.out rfl (by omega) HNe.out).mono ?_
        rintro e w' ⟨rfl, q11, rfl⟩
        have hb := below_draw w q11
        obtain ⟨w11, hw⟩ : ∃ x, x = (w).drewN q11 := ⟨_, rfl⟩
        rw [← hw] at hb ⊢
        have BB12 := Lib.hid (BB0.out.trans ((hb).mono BB0.out.size))
        have HB13 := Lib.hid (HB0.out.later (hb))
        have RS14 := Lib.hid (RS0.out.later (hb))
        clear hb hw BB0 HB0 RS0
        go_wp2_with fail
        refine (refSum_n _ m c (l.take m) S _ (RS14.out.front m (by omega)) (by omega) (by rw [HSS.out])).mono ?_
        rintro e w15 ⟨rfl, hb⟩
        have BB16 := Lib.hid (BB12.out.trans ((hb).mono BB12.out.size))
        have HB17 := Lib.hid (HB13.out.later (hb))
        have RS18 := Lib.hid (RS14.out.later (hb))
        clear hb BB12 HB13 RS14
        have gg0 := HG0.out _ BB16.out
        have gg1 := HG1.out _ BB16.out
        go_wp2_with fail
        refine (lives_any _ HB17.out).mono ?_
        rintro e w19 ⟨rfl, hb⟩
        have BB20 := Lib.hid (BB16.out.trans ((hb).mono BB16.out.size))
        clear hb BB16 HB17 RS18
        go_wp2
        go_ret
        exact ⟨rfl, BB20.out⟩
end Go.Proofs.YtkalpjccfknopaaDoor
