/- Layer 16: the chapter's example. -/
import Derived.Test.YtlmkmgfnfcnoaaaChNum
namespace Go.Proofs.Ytlmkmgfnfcnoaaa
open Go.RowKit

set_option maxHeartbeats 4000000 in
set_option maxRecDepth 100000 in
theorem lives_any (w : World) : Calls Try.prog 18 #[] w fun e w' => e = .returned (.bool true) ∧ Below w.heap.size w w' := by
  go_enter Try.func18, Try.ntmps18
  go_wp2_with fail
  refine (new_any w).mono ?_
  rintro e w1 ⟨rfl, h1, b1⟩
  have H1 := Lib.hid (And.intro h1 b1)
  clear h1 b1
  go_wp2_with fail
  refine (new_any w1).mono ?_
  rintro e w2 ⟨rfl, h2, b2⟩
  have hp := Pr.start H1.out.1 H1.out.2 h2 b2
  obtain ⟨b, hb⟩ : ∃ b, b = w.heap.size := ⟨_, rfl⟩
  obtain ⟨c, hc⟩ : ∃ c, c = w1.heap.size := ⟨_, rfl⟩
  rw [← hb, ← hc] at hp
  rw [← hb, ← hc]
  have HP := Lib.hid hp
  clear hp h2 b2 H1 hb hc
  go_wp2_with fail
  go_loopw [3] (fun i wr => ∃ N : Nat, 1 ≤ N ∧ N ≤ 4 ∧ i = .int .i64 N ∧ ∃ x y, Pr w wr b c x y ∧ Nu x 0 (N - 1) 0 0 ∧ Nu y 0 (N - 1) 0 0) (fun i _ => 4 - (intOf i).toNat)
  case atStart => exact ⟨1, Nat.le_refl _, by decide, rfl, _, _, HP.out, Nu.fresh, Nu.fresh⟩
  case round =>
    obtain ⟨N, n1, n4, rfl, x, y, hp, ux, uy⟩ := hrel
    obtain ⟨n, hn⟩ : ∃ n, n = N - 1 := ⟨_, rfl⟩
    rw [← hn] at ux uy
    have HN := Lib.hid (show N = n + 1 by omega)
    have HX := Lib.hid (And.intro hp (And.intro ux uy))
    clear hp ux uy hn HP
    by_cases hlt : N < 4
    · have k1 : (N : Int) < 4 := by omega
      have q1 : ((N : Int) != (N : Int)) = false := by simp
      go_wp2_with fail
      refine (item_any N wr (by omega)).mono ?_
      rintro e w3 ⟨g, rfl, hr, hb3⟩
      have hp3 := HX.out.1.more hb3
      have hs := sendN b x n N 0 0 g w3 hp3.one HX.out.2.1 HN.out (by have := HN.out; omega) hr
      have HP3 := Lib.hid hp3
      have HS := Lib.hid hs
      clear hp3 hs hr hb3
      go_wp2_with fail
      refine HS.out.mono ?_
      rintro e w4 ⟨rfl, x4, ht, ux4⟩
      have HP4 := Lib.hid (And.intro (HP3.out.act1 ht) ux4)
      clear ht ux4 HP3 HS
      go_wp2_with fail
      refine (item_any N w4 (by omega)).mono ?_
      rintro e w5 ⟨g5, rfl, hr, hb5⟩
      have hp5 := HP4.out.1.more hb5
      have hs := sendN c y n N 0 0 g5 w5 hp5.two HX.out.2.2 HN.out (by have := HN.out; omega) hr
      have HP5 := Lib.hid hp5
      have HS := Lib.hid hs
      clear hp5 hs hr hb5
      go_wp2_with fail
      refine HS.out.mono ?_
      rintro e w6 ⟨rfl, y6, ht, uy6⟩
      have HP6 := Lib.hid (And.intro (HP5.out.act2 ht) (And.intro HP4.out.2 uy6))
      clear ht uy6 HP5 HS HP4 HX
      go_wp2
      exact ⟨⟨N + 1, by omega, by omega, by go_num, x4, y6, HP6.out.1, HP6.out.2.1, HP6.out.2.2⟩, by simp [intOf]; omega⟩
    · obtain rfl : N = 4 := by omega
      obtain rfl : n = 3 := by have := HN.out; omega
      have hA := ackedN b x 3 0 0 1 wr HX.out.1.one HX.out.2.1 (by decide) (by decide)
      have HA := Lib.hid hA
      clear hA hlt n1 n4 HN
      go_wp2_with fail
      refine HA.out.mono ?_
      rintro e w3 ⟨rfl, x3, ht, ux⟩
      have HP3 := Lib.hid (And.intro (HX.out.1.act1 ht) (And.intro ux HX.out.2.2))
      have HA3 := Lib.hid (ackedN c y 3 0 0 1 w3 HP3.out.1.two HX.out.2.2 (by decide) (by decide))
      clear ht ux HX HA
      go_wp2_with fail
      refine HA3.out.mono ?_
      rintro e w4 ⟨rfl, y4, ht, uy⟩
      have HP4 := Lib.hid (And.intro (HP3.out.1.act2 ht) (And.intro HP3.out.2.1 uy))
      have HF4 := Lib.hid (failN b x3 3 1 0 10 w4 HP4.out.1.one HP4.out.2.1 (by decide))
      clear ht uy HP3 HA3
      go_wp2_with fail
      refine HF4.out.mono ?_
      rintro e w5 ⟨rfl, x5, ht, ux, _⟩
      have HP5 := Lib.hid (And.intro (HP4.out.1.act1 ht) (And.intro ux HP4.out.2.2))
      have HF5 := Lib.hid (failN c y4 3 1 0 10 w5 HP5.out.1.two HP5.out.2.2 (by decide))
      clear ht ux HP4 HF4
      go_wp2_with fail
      refine HF5.out.mono ?_
      rintro e w6 ⟨rfl, y6, ht, uy, hty⟩
      have HP6 := Lib.hid (And.intro (HP5.out.1.act2 ht) (And.intro HP5.out.2.1 (And.intro uy hty)))
      have HT6 := Lib.hid (told_low b x5 0 w6 HP6.out.1.one HP6.out.2.1.st (by have := HP6.out.2.1.ack; omega))
      clear ht uy hty HP5 HF5
      go_wp2_with fail
      refine HT6.out.mono ?_
      rintro e w7 ⟨rfl, q7, rfl⟩
      have hp7 := HP6.out.1.drawN q7
      generalize w6.drewN q7 = w7 at hp7 ⊢
      have HP7 := Lib.hid (And.intro hp7 HP6.out.2)
      have HT7 := Lib.hid (toldN b x5 3 1 0 2 1 w7 HP7.out.1.one HP7.out.2.1 (by decide) (by decide))
      clear hp7 HP6 HT6
      go_wp2_with fail
      refine HT7.out.mono ?_
      rintro e w8 ⟨a8, l8, x8, rfl, hl8, hin8, hit8, ht, ux⟩
      have hp8 := HP7.out.1.act1 ht
      have hP8 : ∀ k, (x5.S b k ∧ k ≠ b) → k < w7.heap.size ∧ ¬ y6.S c k := fun k hk => ⟨HP7.out.1.one.lt k hk.1, HP7.out.1.off k hk.1⟩
      have HP8 := Lib.hid (And.intro hp8 (And.intro ux HP7.out.2.2))
      have HI8 := Lib.hid (And.intro hl8 (And.intro hin8 (And.intro hit8 hP8)))
      have HS8 := Lib.hid ht.exc.size
      have HT8 := Lib.hid (tick_early c y6 14 5 w8 HP8.out.1.two HP8.out.2.2.1.st (by decide) (by rw [HP8.out.2.2.2]; decide))
      clear hp8 hP8 hl8 hin8 hit8 ht ux HP7 HT7
      go_wp2_with fail
      refine HT8.out.mono ?_
      rintro e w9 ⟨rfl, q9, rfl⟩
      have hp9 := HP8.out.1.drawN q9
      have hi9 := HI8.out.2.1.later (below_draw w8 q9)
      have hs9 : w7.heap.size ≤ (w8.drewN q9).heap.size := Nat.le_trans HS8.out (below_draw w8 q9).size
      generalize w8.drewN q9 = w9 at hp9 hi9 hs9 ⊢
      have HP9 := Lib.hid (And.intro hp9 HP8.out.2)
      have HI9 := Lib.hid hi9
      have HT9 := Lib.hid (tickN c y6 3 1 0 2 15 5 w9 HP9.out.1.two HP9.out.2.2.1 (by decide) (by decide) (by rw [HP9.out.2.2.2]; decide))
      have HS9 := Lib.hid hs9
      clear hp9 hi9 hs9 HP8 HT8 HS8
      go_wp2_with fail
      refine HT9.out.mono ?_
      rintro e w10 ⟨a10, l10, y10, rfl, hl10, hin10, hit10, ht, uy⟩
      have hp10 := HP9.out.1.act2 ht
      have hi10 := HI9.out.exc ht.exc (fun k hk hT => (HI8.out.2.2.2 k hk).2 (.inl hT))
      have HP10 := Lib.hid (And.intro hp10 uy)
      have HR10 := Lib.hid (run_yes w10 _ a8 l8 1 3 3 hi10 HI8.out.1 (by decide) (by decide) (fun i hi => HI8.out.2.2.1 i hi))
      have HI10 := Lib.hid (And.intro hin10 (And.intro hl10 hit10))
      clear hp10 hi10 hin10 hl10 hit10 ht uy HP9 HT9 HI8 HI9 HS9
      go_wp2_with fail
      refine HR10.out.mono ?_
      rintro e w11 ⟨rfl, hb11⟩
      have HP11 := Lib.hid (HP10.out.1.more hb11)
      have HR11 := Lib.hid (run_yes w11 _ a10 l10 2 2 3 (HI10.out.1.later hb11) HI10.out.2.1 (by decide) (by decide) (fun i hi => HI10.out.2.2 i hi))
      clear hb11 HR10
      go_wp2_with fail
      refine HR11.out.mono ?_
      rintro e w12 ⟨rfl, hb12⟩
      have hp12 := HP11.out.more hb12
      have hs12 := state_any c y10 w12 hp12.two
      rw [HP10.out.2.st] at hs12
      have HP12 := Lib.hid hp12
      have HS12 := Lib.hid hs12
      clear hb12 hp12 hs12 HR11 HP11
      go_wp2_with fail
      refine HS12.out.mono ?_
      rintro e w13 ⟨rfl, q13, rfl⟩
      go_wp2
      go_ret
      exact ⟨rfl, below_drewN HP12.out.bel q13⟩
end Go.Proofs.Ytlmkmgfnfcnoaaa
