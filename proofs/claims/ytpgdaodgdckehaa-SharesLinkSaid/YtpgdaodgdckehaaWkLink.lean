/- SharesLink: the walk. -/
import Derived.Test.YtpgdaodgdckehaaShNx
import Derived.Test.YtpgdaodgdckehaaShLives
namespace Go.Proofs.Ytpgdaodgdckehaa
open Go.RowKit

theorem range_snocN (k : Nat) : iN (List.range (k + 1)) = iN (List.range k) ++ [(k : Int)] := by rw [List.range_succ, iN_append]; rfl
set_option maxHeartbeats 4000000 in
set_option maxRecDepth 100000 in
theorem link_walk (a : Option Addr) (n c : Nat) (Z : List (Int × Int × Int)) (a' : Option Addr) (n' c' : Nat) (U : List Bool) (z : Int) (w : World) (hZ : ZRow w a n c Z) (hU : BRow w a' n' c' U) (hz : (Lit.int .u8 z).wf = true) :
    Calls Try.prog 4 #[.slice a n c, .slice a' n' c', .int .u8 z] w fun e w' => e = .returned (.bool true) ∧ Below w.heap.size w w' := by
  have hz2 := wf_u8.1 hz
  obtain ⟨s, rfl⟩ : ∃ s : Nat, z = (s : Int) := ⟨z.toNat, by omega⟩
  have hs : s ≤ 255 := by omega
  have HL : Hid (∀ W, Calls Try.prog 8 #[] W fun e w' => e = .returned (.bool true) ∧ Below W.heap.size W w') := Lib.hid lives_any
  clear hz hz2
  by_cases hbig : 40 < n
  · have hbi : (40 : Int) < (n : Int) := by omega
    clear hZ hU
    go_enter Try.func4, Try.ntmps4
    go_wp2_with fail
    with_reducible refine (HL.out _).mono ?_
    rintro e w' ⟨rfl, hb⟩
    have HB := Lib.hid hb
    clear hb
    go_wp2
    go_ret
    exact ⟨rfl, HB.out⟩
  · by_cases hbig2 : 60 < n'
    · have hbi : ¬ (40 : Int) < (n : Int) := by omega
      have hbi2 : (60 : Int) < (n' : Int) := by omega
      clear hZ hU
      go_enter Try.func4, Try.ntmps4
      go_wp2_with fail
      with_reducible refine (HL.out _).mono ?_
      rintro e w' ⟨rfl, hb⟩
      have HB := Lib.hid hb
      clear hb
      go_wp2
      go_ret
      exact ⟨rfl, HB.out⟩
    · have hbi : ¬ (40 : Int) < (n : Int) := by omega
      have hbi2 : ¬ (60 : Int) < (n' : Int) := by omega
      have hn : n ≤ 40 := by omega
      have hn' : n' ≤ 60 := by omega
      have hc1 := fun W (h : Below w.heap.size w W) => link_any a n c Z a' n' c' U s W (by omega) hs (hZ.later h) (hU.later h)
      have hone := linkM_one n (upM U) s
      have hM : linkM n (upM U) s = placeM (List.range n) (upM U) (rotM s) := rfl
      generalize linkM n (upM U) s = v at *
      have hmk := make_bools n (by omega) w
      have HU := Lib.hid hU
      have HC1 := Lib.hid hc1
      have HM := Lib.hid hM
      clear hZ hU hc1 hM hbig hbig2
      go_enter Try.func4, Try.ntmps4
      go_wp2_with fail
      clear hmk
      go_loopw [7, 9] (fun g i wr => ∃ k : Nat, k ≤ n ∧ i = .int .i64 k ∧ wr.ownsRow (w.heap.size + 1) 3 1 g k (nums .i64 (iN (List.range k))) ∧ Own wr w.heap.size 4 (bools (boK (upM U) n k)) ∧ Below w.heap.size w wr) (fun _ i _ => n - (intOf i).toNat)
      case atStart => exact ⟨0, Nat.zero_le _, rfl, ⟨rfl, .inl ⟨rfl, rfl⟩⟩, by rw [boK_0]; exact own_made_b n 4 w, below_alloc _ _⟩
      case round =>
        obtain ⟨k, hk, rfl, hown, hou, hb⟩ := hrel
        by_cases hkn : k < n
        · have hlt := hou.lt
          have hsz : w.heap.size + 1 ≤ wr.heap.size := hlt
          have HO := Lib.hid hown
          have HOu := Lib.hid hou
          have HB := Lib.hid hb
          clear hown hou hb
          go_wp2_with (at_builtin; refine wpList_append_one Try.underlying31 info64 (by decide) rfl (.tmp 31) (.tmp 33) rfl (w.heap.size + 1) _ k (iN (List.range k)) (k : Int) rfl (by exact HO.out) rfl (by omega) hsz ?_)
          intro v2 w2 h2 h3 _ _ _
          have hou2 : Own w2 w.heap.size 4 (bools (boK (upM U) n k)) := by
            unfold Own
            rw [h3.exc.block _ hlt (fun hh => by have := (World.ownsRow.lt HO.out _ hh).1; omega)]
            exact HOu.out
          have hb2 := HB.out.trans (h3.below (B := w.heap.size) (by omega) (fun j hj => by have := (World.ownsRow.lt HO.out j hj).1; omega))
          have hown2 : w2.ownsRow (w.heap.size + 1) 3 1 v2 (k + 1) (nums .i64 (iN (List.range (k + 1)))) := by rw [range_snocN]; exact h2
          have hset := boK_set (upM U) hkn
          have hcellu := hou2.cell k (by rw [bools_length, boK_length _ hk]; exact hkn)
          have hfru := hou2.frozen k
          have hU2 := HU.out.later hb2
          have hl := HU.out.len
          have hboth : ∀ u : Bool, upM U k = u → (w2.setCell ⟨w.heap.size, k, none⟩ (.bool u)).ownsRow (w.heap.size + 1) 3 1 v2 (k + 1) (nums .i64 (iN (List.range (k + 1)))) ∧ Own (w2.setCell ⟨w.heap.size, k, none⟩ (.bool u)) w.heap.size 4 (bools (boK (upM U) n (k + 1))) ∧ Below w.heap.size w (w2.setCell ⟨w.heap.size, k, none⟩ (.bool u)) := fun u hu => by
            refine ⟨?_, ?_, hb2.setCell (Nat.le_refl _) _⟩
            · exact ownsRow_exc hown2 ((Exc.refl (fun j => j = w.heap.size) w2).setCell _ (.inl rfl) _) (fun j hj => by have := (World.ownsRow.lt hown2 j hj).1; omega)
            · rw [← hset, hu]; exact setCell_bown hou2 k u
          have HBo := Lib.hid hboth
          clear hou2 hb2 hown2 hset h2 h3 hboth
          by_cases hkm : k < n'
          · obtain ⟨ub, uo, rfl, hc⟩ := hU2.at (by omega)
            have c0 := hc k hkm
            have e : upM U k = U.getD k true := by unfold upM; rw [decide_eq_true (by omega), Bool.true_and]
            generalize U.getD k true = u at *
            have hkmi : (k : Int) < (n' : Int) := by omega
            have HF := Lib.hid (HBo.out u e)
            clear hc hU2 e HBo hl
            go_wp2
            exact ⟨⟨k + 1, by omega, by go_num, HF.out.1, HF.out.2.1, HF.out.2.2⟩, by simp [intOf]; omega⟩
          · have e : upM U k = false := by unfold upM; rw [decide_eq_false (by omega), Bool.false_and]
            have hkmi : ¬ (k : Int) < (n' : Int) := by omega
            have HF := Lib.hid (HBo.out false e)
            clear hU2 e HBo hl
            go_wp2
            exact ⟨⟨k + 1, by omega, by go_num, HF.out.1, HF.out.2.1, HF.out.2.2⟩, by simp [intOf]; omega⟩
        · obtain rfl : k = n := by omega
          obtain ⟨w5, hw5⟩ : ∃ x, x = wr := ⟨_, rfl⟩
          rw [← hw5] at hown hou hb ⊢
          obtain ⟨u, d, rfl, hr, _⟩ := ownsRow_rowN .i64 hown (iN_wf fun x hx => by have := List.mem_range.1 hx; omega)
          have hUu : BRow w5 (some ⟨w.heap.size, 0, none⟩) k k (boK (upM U) k k) := by
            have h2 : Own w5 w.heap.size 4 (bools (boK (upM U) k k) ++ []) := by rw [List.append_nil]; exact hou
            exact h2.brow k k (boK_length _ (Nat.le_refl _)).symm (Nat.le_refl _) (by unfold maxLen; omega)
          have hrot : ((rotM s : Nat) : Int) = 4 * ((s : Int) % 4) + (s : Int) / 4 % 4 := by unfold rotM; omega
          have hcon := lplace_any u k d (List.range k) (some ⟨w.heap.size, 0, none⟩) k k _ (rotM s) w5 hr hUu (fun x hx => List.mem_range.1 hx) (by omega) (by omega) (by have := rotM_le s; omega)
          rw [placeM_congr (us' := upM U) (fun x hx => by
            unfold usB
            exact boK_getD _ (List.mem_range.1 hx) true), ← HM.out] at hcon
          rw [hrot] at hcon
          have HC := Lib.hid hcon
          have HC2 := Lib.hid (fun W (h : Below w5.heap.size w5 W) => HC1.out W (hb.trans (h.mono hb.size)))
          have HB := Lib.hid hb
          clear hcon hrot hUu hr hown hou hb hw5 HU HC1
          rcases hone with rfl | hv
          · go_wp2_with fail
            with_reducible refine HC.out.mono ?_
            rintro e w6 ⟨rfl, hb6⟩
            have HC3 := Lib.hid (HC2.out w6 hb6)
            have HB6 := Lib.hid (HB.out.trans (hb6.mono HB.out.size))
            clear hb6 HC HC2
            go_wp2_with fail
            with_reducible refine HC3.out.mono ?_
            rintro e w7 ⟨rfl, hb7⟩
            have HB7 := Lib.hid (HB6.out.trans (hb7.mono HB6.out.size))
            clear hb7 HC3
            rw [plOut_no]
            go_wp2_with fail
            with_reducible refine (HL.out _).mono ?_
            rintro e w8 ⟨rfl, hb8⟩
            have HB8 := Lib.hid (HB7.out.trans (hb8.mono HB7.out.size))
            clear hb8
            go_wp2
            go_ret
            exact ⟨rfl, HB8.out⟩
          · obtain ⟨x, rfl⟩ : ∃ x : Nat, v = (x : Int) := ⟨v.toNat, by omega⟩
            have hm : max (x : Int) 0 = x := by omega
            clear hv
            go_wp2_with fail
            with_reducible refine HC.out.mono ?_
            rintro e w6 ⟨rfl, hb6⟩
            have HC3 := Lib.hid (HC2.out w6 hb6)
            have HB6 := Lib.hid (HB.out.trans (hb6.mono HB.out.size))
            clear hb6 HC HC2
            go_wp2_with fail
            with_reducible refine HC3.out.mono ?_
            rintro e w7 ⟨rfl, hb7⟩
            have HB7 := Lib.hid (HB6.out.trans (hb7.mono HB6.out.size))
            clear hb7 HC3
            rw [plOut_nat]
            go_wp2_with fail
            with_reducible refine (HL.out _).mono ?_
            rintro e w8 ⟨rfl, hb8⟩
            have HB8 := Lib.hid (HB7.out.trans (hb8.mono HB7.out.size))
            clear hb8
            go_wp2
            go_ret
            exact ⟨rfl, HB8.out⟩
end Go.Proofs.Ytpgdaodgdckehaa
