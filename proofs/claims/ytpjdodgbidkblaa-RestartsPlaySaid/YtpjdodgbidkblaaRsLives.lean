/- The chapter's example. -/
import Derived.Test.YtpjdodgbidkblaaRsTick
import Derived.Test.YtpjdodgbidkblaaRsNew
namespace Go.Proofs.Ytpjdodgbidkblaa
open Go.RowKit Go.Maps

def LA0 : Mc := Mc.fresh [1, 2] 10
def LB0 : Mc := LA0
def LA1 : Mc := LA0.down 1
theorem LA1_st : LA1.st = 0 := by decide
def LA2 : Mc := LA1.down 2
theorem LA2_st : LA2.st = 1 := by decide
def LA3 : Mc := LA2.up 5 1
theorem LA3_st : LA3.st = 2 := by decide
def LA4 : Mc := LA3.tick 6
theorem LA3_e : LA3.ends 6 = false := by decide
def LA5 : Mc := LA4.done 1
def LB1 : Mc := LB0.down 1
def LB2 : Mc := LB1.down 2
def LB3 : Mc := LB2.up 5 1
def LB4 : Mc := LB3.up 7 2
def LB5 : Mc := LB4.done 1
def LA6 : Mc := LA5.tick 6
theorem LA5_e : LA5.ends 6 = true := by decide
theorem LA6_st : LA6.st = 0 := by decide
def LB6 : Mc := LB5.tick 8
theorem LB5_e : LB5.ends 8 = false := by decide
def LB7 : Mc := LB6.tick 15
theorem LB6_e : LB6.ends 15 = true := by decide
def LB8 : Mc := LB7.tick 16
theorem LB7_e : LB7.ends 16 = false := by decide
set_option maxHeartbeats 4000000 in
set_option maxRecDepth 100000 in
theorem lives_any (w : World) : Calls Try.prog 7 #[] w fun e w' => e = .returned (.bool true) ∧ Below w.heap.size w w' := by
  have hr0 := row_lit .u16 w 26 [1, 2] 2 rfl (by decide) (by decide)
  have HR := Lib.hid hr0
  have HX0 := Lib.hid (below_alloc w (.cells #[.int .u16 1, .int .u16 2] 26))
  clear hr0
  go_enter Try.func7, Try.ntmps7
  go_wp2_with fail
  refine (new_any _ 2 2 [1, 2] 10 _ HR.out (by decide) rfl (by decide)).mono ?_
  rintro e w1 ⟨hb1, h1⟩
  rcases h1 with ⟨_, ma, ka, rfl, hm, hlm, hlk⟩ | ⟨h1, _⟩
  rotate_left
  · exact absurd (by decide) h1
  change McAt w1 ma ka LA0 at hm
  have HA := Lib.hid hm
  have hs1 := HX0.out.size
  have HLA := Lib.hid (show w.heap.size ≤ ma ∧ w.heap.size ≤ ka from ⟨Nat.le_trans hs1 hlm, Nat.le_trans hs1 hlk⟩)
  have HX1 := Lib.hid (HX0.out.trans (hb1.mono hs1))
  have HR1 := Lib.hid (HR.out.later hb1)
  clear hm hb1 hs1 hlm hlk
  go_wp2_with fail
  refine (new_any _ 2 2 [1, 2] 10 w1 HR1.out (by decide) rfl (by decide)).mono ?_
  rintro e w2 ⟨hb1, h1⟩
  rcases h1 with ⟨_, mb, kb, rfl, hm, hlm, hlk⟩ | ⟨h1, _⟩
  rotate_left
  · exact absurd (by decide) h1
  change McAt w2 mb kb LB0 at hm
  have HB := Lib.hid hm
  have hla := HA.out.lt
  have hlb := HA.out.ltm
  have HLo := Lib.hid (show w.heap.size ≤ ma ∧ w.heap.size ≤ ka ∧ w.heap.size ≤ mb ∧ w.heap.size ≤ kb from ⟨HLA.out.1, HLA.out.2, Nat.le_trans HX1.out.size hlm, Nat.le_trans HX1.out.size hlk⟩)
  have HNe : Hid (¬ Mu ma ka mb ∧ ¬ Mu ma ka kb ∧ ¬ Mu mb kb ma ∧ ¬ Mu mb kb ka) := Lib.hid ⟨fun h => by rcases h with h | h <;> omega, fun h => by rcases h with h | h <;> omega, fun h => by rcases h with h | h <;> omega, fun h => by rcases h with h | h <;> omega⟩
  have HA := Lib.hid (HA.out.below hb1)
  have HX := Lib.hid (HX1.out.trans (hb1.mono HX1.out.size))
  clear hm hb1 hlm hlk hla hlb
  go_wp2_with fail
  refine (down_ok 1 w2 HA.out (by decide) (by decide)).mono ?_
  rintro e w3 ⟨rfl, hm, hx⟩
  change McAt w3 ma ka LA1 at hm
  have HA := Lib.hid hm
  have HB := Lib.hid (HB.out.exc hx HNe.out.1 HNe.out.2.1)
  have HX := Lib.hid (HX.out.trans (hx.below HX.out.size (fun i _ hi => by have := HLo.out; rcases hi with hi | hi <;> omega)))
  clear hm hx
  go_wp2_with fail
  refine (state_any w3 HA.out).mono ?_
  rintro e w9 ⟨rfl, rfl⟩
  rw [LA1_st]
  go_wp2_with fail
  refine (down_ok 2 w3 HA.out (by decide) (by decide)).mono ?_
  rintro e w4 ⟨rfl, hm, hx⟩
  change McAt w4 ma ka LA2 at hm
  have HA := Lib.hid hm
  have HB := Lib.hid (HB.out.exc hx HNe.out.1 HNe.out.2.1)
  have HX := Lib.hid (HX.out.trans (hx.below HX.out.size (fun i _ hi => by have := HLo.out; rcases hi with hi | hi <;> omega)))
  clear hm hx
  go_wp2_with fail
  refine (state_any w4 HA.out).mono ?_
  rintro e w9 ⟨rfl, rfl⟩
  rw [LA2_st]
  go_wp2_with fail
  refine (up_ok 5 1 w4 HA.out (by decide) (by decide) (by decide)).mono ?_
  rintro e w5 ⟨rfl, hm, hx⟩
  change McAt w5 ma ka LA3 at hm
  have HA := Lib.hid hm
  have HB := Lib.hid (HB.out.exc hx HNe.out.1 HNe.out.2.1)
  have HX := Lib.hid (HX.out.trans (hx.below HX.out.size (fun i _ hi => by have := HLo.out; rcases hi with hi | hi <;> omega)))
  clear hm hx
  go_wp2_with fail
  refine (state_any w5 HA.out).mono ?_
  rintro e w9 ⟨rfl, rfl⟩
  rw [LA3_st]
  go_wp2_with fail
  refine (tick_any 6 w5 HA.out).mono ?_
  rintro e w6 ⟨rfl, hm, hx⟩
  rw [LA3_e]
  change McAt w6 ma ka LA4 at hm
  have HA := Lib.hid hm
  have HB := Lib.hid (HB.out.exc hx HNe.out.1 HNe.out.2.1)
  have HX := Lib.hid (HX.out.trans (hx.below HX.out.size (fun i _ hi => by have := HLo.out; rcases hi with hi | hi <;> omega)))
  clear hm hx
  go_wp2_with fail
  refine (done_ok 1 w6 HA.out (by decide) (by decide)).mono ?_
  rintro e w7 ⟨rfl, hm, hx⟩
  change McAt w7 ma ka LA5 at hm
  have HA := Lib.hid hm
  have HB := Lib.hid (HB.out.exc hx HNe.out.1 HNe.out.2.1)
  have HX := Lib.hid (HX.out.trans (hx.below HX.out.size (fun i _ hi => by have := HLo.out; rcases hi with hi | hi <;> omega)))
  clear hm hx
  go_wp2_with fail
  refine (down_ok 1 w7 HB.out (by decide) (by decide)).mono ?_
  rintro e w8 ⟨rfl, hm, hx⟩
  change McAt w8 mb kb LB1 at hm
  have HB := Lib.hid hm
  have HA := Lib.hid (HA.out.exc hx HNe.out.2.2.1 HNe.out.2.2.2)
  have HX := Lib.hid (HX.out.trans (hx.below HX.out.size (fun i _ hi => by have := HLo.out; rcases hi with hi | hi <;> omega)))
  clear hm hx
  go_wp2_with fail
  refine (down_ok 2 w8 HB.out (by decide) (by decide)).mono ?_
  rintro e w9 ⟨rfl, hm, hx⟩
  change McAt w9 mb kb LB2 at hm
  have HB := Lib.hid hm
  have HA := Lib.hid (HA.out.exc hx HNe.out.2.2.1 HNe.out.2.2.2)
  have HX := Lib.hid (HX.out.trans (hx.below HX.out.size (fun i _ hi => by have := HLo.out; rcases hi with hi | hi <;> omega)))
  clear hm hx
  go_wp2_with fail
  refine (up_ok 5 1 w9 HB.out (by decide) (by decide) (by decide)).mono ?_
  rintro e w10 ⟨rfl, hm, hx⟩
  change McAt w10 mb kb LB3 at hm
  have HB := Lib.hid hm
  have HA := Lib.hid (HA.out.exc hx HNe.out.2.2.1 HNe.out.2.2.2)
  have HX := Lib.hid (HX.out.trans (hx.below HX.out.size (fun i _ hi => by have := HLo.out; rcases hi with hi | hi <;> omega)))
  clear hm hx
  go_wp2_with fail
  refine (up_ok 7 2 w10 HB.out (by decide) (by decide) (by decide)).mono ?_
  rintro e w11 ⟨rfl, hm, hx⟩
  change McAt w11 mb kb LB4 at hm
  have HB := Lib.hid hm
  have HA := Lib.hid (HA.out.exc hx HNe.out.2.2.1 HNe.out.2.2.2)
  have HX := Lib.hid (HX.out.trans (hx.below HX.out.size (fun i _ hi => by have := HLo.out; rcases hi with hi | hi <;> omega)))
  clear hm hx
  go_wp2_with fail
  refine (done_ok 1 w11 HB.out (by decide) (by decide)).mono ?_
  rintro e w12 ⟨rfl, hm, hx⟩
  change McAt w12 mb kb LB5 at hm
  have HB := Lib.hid hm
  have HA := Lib.hid (HA.out.exc hx HNe.out.2.2.1 HNe.out.2.2.2)
  have HX := Lib.hid (HX.out.trans (hx.below HX.out.size (fun i _ hi => by have := HLo.out; rcases hi with hi | hi <;> omega)))
  clear hm hx
  go_wp2_with fail
  refine (tick_any 6 w12 HA.out).mono ?_
  rintro e w13 ⟨rfl, hm, hx⟩
  rw [LA5_e]
  change McAt w13 ma ka LA6 at hm
  have HA := Lib.hid hm
  have HB := Lib.hid (HB.out.exc hx HNe.out.1 HNe.out.2.1)
  have HX := Lib.hid (HX.out.trans (hx.below HX.out.size (fun i _ hi => by have := HLo.out; rcases hi with hi | hi <;> omega)))
  clear hm hx
  go_wp2_with fail
  refine (state_any w13 HA.out).mono ?_
  rintro e w9 ⟨rfl, rfl⟩
  rw [LA6_st]
  go_wp2_with fail
  refine (tick_any 8 w13 HB.out).mono ?_
  rintro e w14 ⟨rfl, hm, hx⟩
  rw [LB5_e]
  change McAt w14 mb kb LB6 at hm
  have HB := Lib.hid hm
  have HA := Lib.hid (HA.out.exc hx HNe.out.2.2.1 HNe.out.2.2.2)
  have HX := Lib.hid (HX.out.trans (hx.below HX.out.size (fun i _ hi => by have := HLo.out; rcases hi with hi | hi <;> omega)))
  clear hm hx
  go_wp2_with fail
  refine (tick_any 15 w14 HB.out).mono ?_
  rintro e w15 ⟨rfl, hm, hx⟩
  rw [LB6_e]
  change McAt w15 mb kb LB7 at hm
  have HB := Lib.hid hm
  have HA := Lib.hid (HA.out.exc hx HNe.out.2.2.1 HNe.out.2.2.2)
  have HX := Lib.hid (HX.out.trans (hx.below HX.out.size (fun i _ hi => by have := HLo.out; rcases hi with hi | hi <;> omega)))
  clear hm hx
  go_wp2_with fail
  refine (tick_any 16 w15 HB.out).mono ?_
  rintro e w16 ⟨rfl, hm, hx⟩
  rw [LB7_e]
  change McAt w16 mb kb LB8 at hm
  have HB := Lib.hid hm
  have HA := Lib.hid (HA.out.exc hx HNe.out.2.2.1 HNe.out.2.2.2)
  have HX := Lib.hid (HX.out.trans (hx.below HX.out.size (fun i _ hi => by have := HLo.out; rcases hi with hi | hi <;> omega)))
  clear hm hx
  go_wp2
  go_ret
  exact ⟨rfl, HX.out⟩
end Go.Proofs.Ytpjdodgbidkblaa
