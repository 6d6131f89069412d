/- RestartsTime: a restart without an answer. -/
import Derived.Test.YtpjdodgbidkblaaRsLives

namespace Go.Proofs.Ytpjdodgbidkblaa
open Go.RowKit Go.Maps

def tm0 (base : Int) : Mc := Mc.fresh [4] base
def tm1 (base : Int) : Mc := (tm0 base).down 4
def tm2 (base since : Int) : Mc := (tm1 base).up since 4
theorem tm1_st (base : Int) : (tm1 base).st = 1 := by
  simp [tm1, tm0, Mc.down, Mc.any, Mc.cut, Mc.fresh, updN, isUpB]
theorem tm2_eq (base since : Int) : tm2 base since = ⟨[4], updN (tm1 base).nb 4 (true, ((tm1 base).nb 4).2), base, 2, since⟩ := by
  unfold tm2 Mc.up
  rw [tm1_st, if_pos rfl, if_pos rfl]
  rfl
theorem tm2_any (base since : Int) : (tm2 base since).any isOpB = true := by
  rw [tm2_eq]
  simp [tm1, tm0, Mc.down, Mc.any, Mc.cut, Mc.fresh, updN, isOpB]
theorem tm2_ends (base since now : Int) : (tm2 base since).ends now = decide (¬ now < (tm2 base since).fin) := by
  unfold Mc.ends
  rw [tm2_any, show (tm2 base since).st = 2 by rw [tm2_eq], decide_not]
  rfl
theorem tm2_fin (base since : Int) : (tm2 base since).fin = if since > 9223372036854775807 - base then 9223372036854775807 else since + base := by
  unfold Mc.fin
  rw [tm2_eq]
set_option maxHeartbeats 4000000 in
set_option maxRecDepth 100000 in
theorem time_walk (base since now : Int) (w : World) (h0 : (Lit.int .i64 base).wf = true) (h1 : (Lit.int .i64 since).wf = true) (h2 : (Lit.int .i64 now).wf = true) :
    Calls Try.prog 5 #[.int .i64 base, .int .i64 since, .int .i64 now] w fun e w' => e = .returned (.bool true) ∧ Below w.heap.size w w' := by
  have hr0 := row_lit .u16 w 26 [4] 1 rfl (by decide) (by decide)
  have HR := Lib.hid hr0
  have HX0 := Lib.hid (below_alloc w (.cells #[.int .u16 4] 26))
  have HW := Lib.hid (And.intro (wf_i64.1 h0) (And.intro (wf_i64.1 h1) (wf_i64.1 h2)))
  have HW0 := Lib.hid h0
  have HW1 := Lib.hid h1
  clear hr0 h0 h1 h2
  go_enter Try.func5, Try.ntmps5
  go_wp2_with fail
  refine (new_any _ 1 1 [4] base _ HR.out HW0.out rfl (by decide)).mono ?_
  rintro e w1 ⟨hb1, h1⟩
  have HX1 := Lib.hid (HX0.out.trans (hb1.mono HX0.out.size))
  clear hb1
  by_cases hneg : base < 0
  · have he : newErr [4] base = 1 := by unfold newErr; rw [if_neg (by decide), if_pos hneg]
    rcases h1 with ⟨h1, _⟩ | ⟨_, rfl⟩
    · exact absurd (he.symm.trans h1) (by decide)
    rw [he]
    clear he
    go_wp2_with fail
    refine (lives_any w1).mono ?_
    rintro e w2 ⟨rfl, hb⟩
    have HB := Lib.hid (HX1.out.trans (hb.mono HX1.out.size))
    clear hb
    go_wp2
    go_ret
    exact ⟨rfl, HB.out⟩
  have he : newErr [4] base = 0 := by unfold newErr; rw [if_neg (by decide), if_neg hneg, if_pos (by decide)]
  rcases h1 with ⟨_, mb, bm, rfl, hm, hlm, hlk⟩ | ⟨h1, _⟩
  rotate_left
  · exact absurd he h1
  change McAt w1 mb bm (tm0 base) at hm
  have HA := Lib.hid hm
  have hs1 := HX0.out.size
  have HLo := Lib.hid (show w.heap.size ≤ mb ∧ w.heap.size ≤ bm from ⟨Nat.le_trans hs1 hlm, Nat.le_trans hs1 hlk⟩)
  have HN := Lib.hid hneg
  clear he hm hs1 hlm hlk
  go_wp2_with fail
  refine (down_ok 4 w1 HA.out (by decide) (show (4 : Int) ∈ [4] by decide)).mono ?_
  rintro e w2 ⟨rfl, hm, hx⟩
  have HA := Lib.hid hm
  have HX2 := Lib.hid (HX1.out.trans (hx.below HX1.out.size (fun i _ hi => by have := HLo.out; rcases hi with hi | hi <;> omega)))
  clear hm hx
  go_wp2_with fail
  refine (up_ok since 4 w2 HA.out HW1.out (by decide) (show (4 : Int) ∈ [4] by decide)).mono ?_
  rintro e w3 ⟨rfl, hm, hx⟩
  change McAt w3 mb bm (tm2 base since) at hm
  have HA := Lib.hid hm
  have HX3 := Lib.hid (HX2.out.trans (hx.below HX2.out.size (fun i _ hi => by have := HLo.out; rcases hi with hi | hi <;> omega)))
  clear hm hx
  have hW := HW.out
  have hN := HN.out
  by_cases hov : since > 9223372036854775807 - base
  · have hw1 : IntKind.i64.wrap (since + base) = since + base - 18446744073709551616 := by rw [IntKind.wrap_i64]; omega
    have hlt : since + base - 18446744073709551616 < since := by omega
    have HF : Hid ((tm2 base since).ends now = decide ((9223372036854775807 : Int) ≤ now)) := Lib.hid (by rw [tm2_ends, tm2_fin, if_pos hov]; congr 1; exact propext Int.not_lt)
    clear hov hW hN hneg
    go_wp2_with fail
    refine (tick_any now w3 HA.out).mono ?_
    rintro e w4 ⟨rfl, hm, hx⟩
    have HX4 := Lib.hid (HX3.out.trans (hx.below HX3.out.size (fun i _ hi => by have := HLo.out; rcases hi with hi | hi <;> omega)))
    rw [HF.out]
    clear hm hx
    by_cases hq : (9223372036854775807 : Int) ≤ now
    · rw [decide_eq_true hq]
      go_wp2_with fail
      refine (lives_any w4).mono ?_
      rintro e w5 ⟨rfl, hb⟩
      have HB := Lib.hid (HX4.out.trans (hb.mono HX4.out.size))
      clear hb
      go_wp2
      go_ret
      exact ⟨rfl, HB.out⟩
    · rw [decide_eq_false hq]
      have hq0 := decide_eq_false hq
      clear hq
      go_wp2_with fail
      refine (lives_any w4).mono ?_
      rintro e w5 ⟨rfl, hb⟩
      have HB := Lib.hid (HX4.out.trans (hb.mono HX4.out.size))
      clear hb
      go_wp2
      go_ret
      exact ⟨rfl, HB.out⟩
  · have hw1 : IntKind.i64.wrap (since + base) = since + base := IntWalk.i64_in _ (by omega)
    have hlt : ¬ since + base < since := by omega
    have HF : Hid ((tm2 base since).ends now = decide (since + base ≤ now)) := Lib.hid (by rw [tm2_ends, tm2_fin, if_neg hov]; congr 1; exact propext Int.not_lt)
    clear hov hW hN hneg
    go_wp2_with fail
    refine (tick_any now w3 HA.out).mono ?_
    rintro e w4 ⟨rfl, hm, hx⟩
    have HX4 := Lib.hid (HX3.out.trans (hx.below HX3.out.size (fun i _ hi => by have := HLo.out; rcases hi with hi | hi <;> omega)))
    rw [HF.out]
    clear hm hx
    by_cases hq : since + base ≤ now
    · rw [decide_eq_true hq]
      go_wp2_with fail
      refine (lives_any w4).mono ?_
      rintro e w5 ⟨rfl, hb⟩
      have HB := Lib.hid (HX4.out.trans (hb.mono HX4.out.size))
      clear hb
      go_wp2
      go_ret
      exact ⟨rfl, HB.out⟩
    · rw [decide_eq_false hq]
      have hq0 := decide_eq_false hq
      clear hq
      go_wp2_with fail
      refine (lives_any w4).mono ?_
      rintro e w5 ⟨rfl, hb⟩
      have HB := Lib.hid (HX4.out.trans (hb.mono HX4.out.size))
      clear hb
      go_wp2
      go_ret
      exact ⟨rfl, HB.out⟩
end Go.Proofs.Ytpjdodgbidkblaa
