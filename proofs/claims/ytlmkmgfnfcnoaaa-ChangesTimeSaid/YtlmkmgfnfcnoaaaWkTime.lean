/- ChangesTime: Tick settles an end exactly from the tick of the failure plus the base on. -/
import Derived.Test.YtlmkmgfnfcnoaaaChLives
namespace Go.Proofs.Ytlmkmgfnfcnoaaa
open Go.RowKit

set_option maxHeartbeats 4000000 in
set_option maxRecDepth 100000 in
theorem time_hi_ok (s t base E F : Int) (w : World) (hs : -9223372036854775808 ≤ s ∧ s ≤ 9223372036854775807) (hbase : -9223372036854775808 ≤ base ∧ base ≤ 9223372036854775807) (hw : IntKind.i64.wrap (s + base) = E) (hsat : satI s base = F) (hb1 : 0 < base) (hE : E < s) (hF : F = 9223372036854775807) (hok : F ≤ t) :
    Calls Try.prog 5 #[.int .i64 s, .int .i64 t, .int .i64 base] w fun e w' => e = .returned (.bool true) ∧ Below w.heap.size w w' := by
  have HS := Lib.hid hs
  have HBa := Lib.hid hbase
  have HSat := Lib.hid hsat
  have HOk := Lib.hid hok
  subst hF
  have hb2 : ¬ base < 0 := by omega
  have d1 : decide (9223372036854775807 ≤ t) = true := by simp; omega
  have d2 : (true != true) = false := rfl
  clear hs hbase hsat
  go_enter Try.func5, Try.ntmps5
  go_wp2_with fail
  refine (new_any w).mono ?_
  rintro e w1 ⟨rfl, h1, b1⟩
  obtain ⟨b, hb⟩ : ∃ b, b = w.heap.size := ⟨_, rfl⟩
  rw [← hb] at h1 ⊢
  have hlo : ∀ k, Ed.fresh.S b k → w.heap.size ≤ k := fun k hk => by rw [fresh_S _ _ hk, hb]; exact Nat.le_refl _
  have H1 := Lib.hid (And.intro h1 (And.intro hlo (And.intro b1 hb)))
  clear h1 b1 hlo hb
  go_wp2_with fail
  refine (show Calls Try.prog 9 #[.int .i64 1] w1 (fun e w' => ItemOut w1 1 e w') from item_any 1 w1 (by decide)).mono ?_
  rintro e w2 ⟨g, rfl, hr, hb2⟩
  have h2 := H1.out.1.later hb2
  have B2 := Lib.hid (H1.out.2.2.1.trans (hb2.mono H1.out.2.2.1.size))
  have HSe := Lib.hid (sendN b Ed.fresh 0 1 0 0 g w2 h2 Nu.fresh rfl (by decide) hr)
  clear h2 hr hb2
  go_wp2_with fail
  refine HSe.out.mono ?_
  rintro e w3 ⟨rfl, x3, ht, ux⟩
  have B3 := Lib.hid (B2.out.trans (ht.exc.below B2.out.size fun i _ hi => H1.out.2.1 i (.inl hi)))
  have hl3 : ∀ k, x3.S b k → w.heap.size ≤ k := fun k hk => by
    rcases ht.lies k hk with h3 | h3
    · exact H1.out.2.1 k h3
    · exact Nat.le_trans B2.out.size h3
  have H3 := Lib.hid (And.intro ht.now (And.intro ux hl3))
  have HFa := Lib.hid (failN b x3 1 0 0 s w3 ht.now ux HS.out)
  clear ht ux hl3 HSe H1 B2
  go_wp2_with fail
  refine HFa.out.mono ?_
  rintro e w4 ⟨rfl, x4, ht, ux, hf⟩
  have B4 := Lib.hid (B3.out.trans (ht.exc.below B3.out.size fun i _ hi => H3.out.2.2 i (.inl hi)))
  have hl4 : ∀ k, x4.S b k → w.heap.size ≤ k := fun k hk => by
    rcases ht.lies k hk with h3 | h3
    · exact H3.out.2.2 k h3
    · exact Nat.le_trans B3.out.size h3
  have H4 := Lib.hid (And.intro ht.now (And.intro ux (And.intro hf hl4)))
  clear ht ux hf hl4 HFa H3 B3
  have HTi := Lib.hid (tickN b x4 1 0 0 1 t base w4 H4.out.1 H4.out.2.1 (by decide) HBa.out (by rw [H4.out.2.2.1, HSat.out]; exact HOk.out))
  go_wp2_with fail
  refine HTi.out.mono ?_
  rintro e w5 ⟨a5, l5, x5, rfl, hl5, hin5, hit5, ht, ux⟩
  have B5 := Lib.hid (B4.out.trans (ht.exc.below B4.out.size fun i _ hi => H4.out.2.2.2 i (.inl hi)))
  have HIn := Lib.hid (And.intro hin5 (And.intro hl5 hit5))
  have H5 := Lib.hid (And.intro ht.now ux)
  have HTn := Lib.hid (tick_not b x5 t base w5 ht.now (by rw [ux.st]; decide))
  clear hl5 hin5 hit5 ht ux HTi H4 B4
  go_wp2_with fail
  refine HTn.out.mono ?_
  rintro e w6 ⟨rfl, q6, rfl⟩
  have h6 := H5.out.1.later (below_draw w5 q6)
  have i6 := HIn.out.1.later (below_draw w5 q6)
  have b6 := below_drewN B5.out q6
  generalize w5.drewN q6 = w6 at h6 i6 b6 ⊢
  have H6 := Lib.hid h6
  have B6 := Lib.hid b6
  have HRu := Lib.hid (run_yes w6 _ a5 l5 1 1 1 i6 HIn.out.2.1 (by decide) (by decide) (fun i hi => HIn.out.2.2 i hi))
  clear h6 i6 b6 HTn
  go_wp2_with fail
  refine HRu.out.mono ?_
  rintro e w7 ⟨rfl, hb7⟩
  have h7 := H6.out.later hb7
  have B7 := Lib.hid (B6.out.trans (hb7.mono B6.out.size))
  have hst := state_any b x5 w7 h7
  rw [H5.out.2.st] at hst
  have HSt := Lib.hid hst
  clear h7 hst hb7 HRu
  go_wp2_with fail
  refine HSt.out.mono ?_
  rintro e w8 ⟨rfl, q8, rfl⟩
  have b8 := below_drewN B7.out q8
  generalize w7.drewN q8 = w8 at b8 ⊢
  have B8 := Lib.hid b8
  clear b8
  go_wp2_with fail
  refine (lives_any w8).mono ?_
  rintro e w9 ⟨rfl, hb9⟩
  have B9 := Lib.hid (B8.out.trans (hb9.mono B8.out.size))
  clear hb9
  go_wp2
  go_ret
  exact ⟨rfl, B9.out⟩
set_option maxHeartbeats 4000000 in
set_option maxRecDepth 100000 in
theorem time_hi_no (s t base E F : Int) (w : World) (hs : -9223372036854775808 ≤ s ∧ s ≤ 9223372036854775807) (hbase : -9223372036854775808 ≤ base ∧ base ≤ 9223372036854775807) (hw : IntKind.i64.wrap (s + base) = E) (hsat : satI s base = F) (hb1 : 0 < base) (hE : E < s) (hF : F = 9223372036854775807) (hok : t < F) :
    Calls Try.prog 5 #[.int .i64 s, .int .i64 t, .int .i64 base] w fun e w' => e = .returned (.bool true) ∧ Below w.heap.size w w' := by
  have HS := Lib.hid hs
  have HBa := Lib.hid hbase
  have HSat := Lib.hid hsat
  have HOk := Lib.hid hok
  subst hF
  have hb2 : ¬ base < 0 := by omega
  have d1 : decide (9223372036854775807 ≤ t) = false := by simp; omega
  have d2 : (true != true) = false := rfl
  clear hs hbase hsat
  go_enter Try.func5, Try.ntmps5
  go_wp2_with fail
  refine (new_any w).mono ?_
  rintro e w1 ⟨rfl, h1, b1⟩
  obtain ⟨b, hb⟩ : ∃ b, b = w.heap.size := ⟨_, rfl⟩
  rw [← hb] at h1 ⊢
  have hlo : ∀ k, Ed.fresh.S b k → w.heap.size ≤ k := fun k hk => by rw [fresh_S _ _ hk, hb]; exact Nat.le_refl _
  have H1 := Lib.hid (And.intro h1 (And.intro hlo (And.intro b1 hb)))
  clear h1 b1 hlo hb
  go_wp2_with fail
  refine (show Calls Try.prog 9 #[.int .i64 1] w1 (fun e w' => ItemOut w1 1 e w') from item_any 1 w1 (by decide)).mono ?_
  rintro e w2 ⟨g, rfl, hr, hb2⟩
  have h2 := H1.out.1.later hb2
  have B2 := Lib.hid (H1.out.2.2.1.trans (hb2.mono H1.out.2.2.1.size))
  have HSe := Lib.hid (sendN b Ed.fresh 0 1 0 0 g w2 h2 Nu.fresh rfl (by decide) hr)
  clear h2 hr hb2
  go_wp2_with fail
  refine HSe.out.mono ?_
  rintro e w3 ⟨rfl, x3, ht, ux⟩
  have B3 := Lib.hid (B2.out.trans (ht.exc.below B2.out.size fun i _ hi => H1.out.2.1 i (.inl hi)))
  have hl3 : ∀ k, x3.S b k → w.heap.size ≤ k := fun k hk => by
    rcases ht.lies k hk with h3 | h3
    · exact H1.out.2.1 k h3
    · exact Nat.le_trans B2.out.size h3
  have H3 := Lib.hid (And.intro ht.now (And.intro ux hl3))
  have HFa := Lib.hid (failN b x3 1 0 0 s w3 ht.now ux HS.out)
  clear ht ux hl3 HSe H1 B2
  go_wp2_with fail
  refine HFa.out.mono ?_
  rintro e w4 ⟨rfl, x4, ht, ux, hf⟩
  have B4 := Lib.hid (B3.out.trans (ht.exc.below B3.out.size fun i _ hi => H3.out.2.2 i (.inl hi)))
  have hl4 : ∀ k, x4.S b k → w.heap.size ≤ k := fun k hk => by
    rcases ht.lies k hk with h3 | h3
    · exact H3.out.2.2 k h3
    · exact Nat.le_trans B3.out.size h3
  have H4 := Lib.hid (And.intro ht.now (And.intro ux (And.intro hf hl4)))
  clear ht ux hf hl4 HFa H3 B3
  have HTi := Lib.hid (tick_early b x4 t base w4 H4.out.1 H4.out.2.1.st HBa.out (by rw [H4.out.2.2.1, HSat.out]; exact HOk.out))
  go_wp2_with fail
  refine HTi.out.mono ?_
  rintro e w5 ⟨rfl, q5, rfl⟩
  have h5 := H4.out.1.later (below_draw w4 q5)
  have b5 := below_drewN B4.out q5
  generalize w4.drewN q5 = w5 at h5 b5 ⊢
  have hst := state_any b x4 w5 h5
  rw [H4.out.2.1.st] at hst
  have HSt := Lib.hid hst
  have H5 := Lib.hid h5
  have B5 := Lib.hid b5
  clear h5 b5 hst HTi
  go_wp2_with fail
  refine HSt.out.mono ?_
  rintro e w6 ⟨rfl, q6, rfl⟩
  have h6 := H5.out.later (below_draw w5 q6)
  have b6 := below_drewN B5.out q6
  generalize w5.drewN q6 = w6 at h6 b6 ⊢
  have hre := retained_any b x4 w6 h6
  rw [show x4.its.length = 1 by have := H4.out.2.1.len; omega] at hre
  have HRe := Lib.hid hre
  have B6 := Lib.hid b6
  clear h6 b6 hre
  go_wp2_with fail
  refine HRe.out.mono ?_
  rintro e w8 ⟨rfl, q8, rfl⟩
  have b8 := below_drewN B6.out q8
  generalize w6.drewN q8 = w8 at b8 ⊢
  have B8 := Lib.hid b8
  clear b8
  go_wp2_with fail
  refine (lives_any w8).mono ?_
  rintro e w9 ⟨rfl, hb9⟩
  have B9 := Lib.hid (B8.out.trans (hb9.mono B8.out.size))
  clear hb9
  go_wp2
  go_ret
  exact ⟨rfl, B9.out⟩
set_option maxHeartbeats 4000000 in
set_option maxRecDepth 100000 in
theorem time_lo_ok (s t base E F : Int) (w : World) (hs : -9223372036854775808 ≤ s ∧ s ≤ 9223372036854775807) (hbase : -9223372036854775808 ≤ base ∧ base ≤ 9223372036854775807) (hw : IntKind.i64.wrap (s + base) = E) (hsat : satI s base = F) (hb2 : base < 0) (hE : s < E) (hF : F = -9223372036854775808) (hok : F ≤ t) :
    Calls Try.prog 5 #[.int .i64 s, .int .i64 t, .int .i64 base] w fun e w' => e = .returned (.bool true) ∧ Below w.heap.size w w' := by
  have HS := Lib.hid hs
  have HBa := Lib.hid hbase
  have HSat := Lib.hid hsat
  have HOk := Lib.hid hok
  subst hF
  have hb1 : ¬ 0 < base := by omega
  have d1 : decide ((-9223372036854775808 : Int) ≤ t) = true := by simp; omega
  have d2 : (true != true) = false := rfl
  clear hs hbase hsat
  go_enter Try.func5, Try.ntmps5
  go_wp2_with fail
  refine (new_any w).mono ?_
  rintro e w1 ⟨rfl, h1, b1⟩
  obtain ⟨b, hb⟩ : ∃ b, b = w.heap.size := ⟨_, rfl⟩
  rw [← hb] at h1 ⊢
  have hlo : ∀ k, Ed.fresh.S b k → w.heap.size ≤ k := fun k hk => by rw [fresh_S _ _ hk, hb]; exact Nat.le_refl _
  have H1 := Lib.hid (And.intro h1 (And.intro hlo (And.intro b1 hb)))
  clear h1 b1 hlo hb
  go_wp2_with fail
  refine (show Calls Try.prog 9 #[.int .i64 1] w1 (fun e w' => ItemOut w1 1 e w') from item_any 1 w1 (by decide)).mono ?_
  rintro e w2 ⟨g, rfl, hr, hb2⟩
  have h2 := H1.out.1.later hb2
  have B2 := Lib.hid (H1.out.2.2.1.trans (hb2.mono H1.out.2.2.1.size))
  have HSe := Lib.hid (sendN b Ed.fresh 0 1 0 0 g w2 h2 Nu.fresh rfl (by decide) hr)
  clear h2 hr hb2
  go_wp2_with fail
  refine HSe.out.mono ?_
  rintro e w3 ⟨rfl, x3, ht, ux⟩
  have B3 := Lib.hid (B2.out.trans (ht.exc.below B2.out.size fun i _ hi => H1.out.2.1 i (.inl hi)))
  have hl3 : ∀ k, x3.S b k → w.heap.size ≤ k := fun k hk => by
    rcases ht.lies k hk with h3 | h3
    · exact H1.out.2.1 k h3
    · exact Nat.le_trans B2.out.size h3
  have H3 := Lib.hid (And.intro ht.now (And.intro ux hl3))
  have HFa := Lib.hid (failN b x3 1 0 0 s w3 ht.now ux HS.out)
  clear ht ux hl3 HSe H1 B2
  go_wp2_with fail
  refine HFa.out.mono ?_
  rintro e w4 ⟨rfl, x4, ht, ux, hf⟩
  have B4 := Lib.hid (B3.out.trans (ht.exc.below B3.out.size fun i _ hi => H3.out.2.2 i (.inl hi)))
  have hl4 : ∀ k, x4.S b k → w.heap.size ≤ k := fun k hk => by
    rcases ht.lies k hk with h3 | h3
    · exact H3.out.2.2 k h3
    · exact Nat.le_trans B3.out.size h3
  have H4 := Lib.hid (And.intro ht.now (And.intro ux (And.intro hf hl4)))
  clear ht ux hf hl4 HFa H3 B3
  have HTi := Lib.hid (tickN b x4 1 0 0 1 t base w4 H4.out.1 H4.out.2.1 (by decide) HBa.out (by rw [H4.out.2.2.1, HSat.out]; exact HOk.out))
  go_wp2_with fail
  refine HTi.out.mono ?_
  rintro e w5 ⟨a5, l5, x5, rfl, hl5, hin5, hit5, ht, ux⟩
  have B5 := Lib.hid (B4.out.trans (ht.exc.below B4.out.size fun i _ hi => H4.out.2.2.2 i (.inl hi)))
  have HIn := Lib.hid (And.intro hin5 (And.intro hl5 hit5))
  have H5 := Lib.hid (And.intro ht.now ux)
  have HTn := Lib.hid (tick_not b x5 t base w5 ht.now (by rw [ux.st]; decide))
  clear hl5 hin5 hit5 ht ux HTi H4 B4
  go_wp2_with fail
  refine HTn.out.mono ?_
  rintro e w6 ⟨rfl, q6, rfl⟩
  have h6 := H5.out.1.later (below_draw w5 q6)
  have i6 := HIn.out.1.later (below_draw w5 q6)
  have b6 := below_drewN B5.out q6
  generalize w5.drewN q6 = w6 at h6 i6 b6 ⊢
  have H6 := Lib.hid h6
  have B6 := Lib.hid b6
  have HRu := Lib.hid (run_yes w6 _ a5 l5 1 1 1 i6 HIn.out.2.1 (by decide) (by decide) (fun i hi => HIn.out.2.2 i hi))
  clear h6 i6 b6 HTn
  go_wp2_with fail
  refine HRu.out.mono ?_
  rintro e w7 ⟨rfl, hb7⟩
  have h7 := H6.out.later hb7
  have B7 := Lib.hid (B6.out.trans (hb7.mono B6.out.size))
  have hst := state_any b x5 w7 h7
  rw [H5.out.2.st] at hst
  have HSt := Lib.hid hst
  clear h7 hst hb7 HRu
  go_wp2_with fail
  refine HSt.out.mono ?_
  rintro e w8 ⟨rfl, q8, rfl⟩
  have b8 := below_drewN B7.out q8
  generalize w7.drewN q8 = w8 at b8 ⊢
  have B8 := Lib.hid b8
  clear b8
  go_wp2_with fail
  refine (lives_any w8).mono ?_
  rintro e w9 ⟨rfl, hb9⟩
  have B9 := Lib.hid (B8.out.trans (hb9.mono B8.out.size))
  clear hb9
  go_wp2
  go_ret
  exact ⟨rfl, B9.out⟩
set_option maxHeartbeats 4000000 in
set_option maxRecDepth 100000 in
theorem time_lo_no (s t base E F : Int) (w : World) (hs : -9223372036854775808 ≤ s ∧ s ≤ 9223372036854775807) (hbase : -9223372036854775808 ≤ base ∧ base ≤ 9223372036854775807) (hw : IntKind.i64.wrap (s + base) = E) (hsat : satI s base = F) (hb2 : base < 0) (hE : s < E) (hF : F = -9223372036854775808) (hok : t < F) :
    Calls Try.prog 5 #[.int .i64 s, .int .i64 t, .int .i64 base] w fun e w' => e = .returned (.bool true) ∧ Below w.heap.size w w' := by
  have HS := Lib.hid hs
  have HBa := Lib.hid hbase
  have HSat := Lib.hid hsat
  have HOk := Lib.hid hok
  subst hF
  have hb1 : ¬ 0 < base := by omega
  have d1 : decide ((-9223372036854775808 : Int) ≤ t) = false := by simp; omega
  have d2 : (true != true) = false := rfl
  clear hs hbase hsat
  go_enter Try.func5, Try.ntmps5
  go_wp2_with fail
  refine (new_any w).mono ?_
  rintro e w1 ⟨rfl, h1, b1⟩
  obtain ⟨b, hb⟩ : ∃ b, b = w.heap.size := ⟨_, rfl⟩
  rw [← hb] at h1 ⊢
  have hlo : ∀ k, Ed.fresh.S b k → w.heap.size ≤ k := fun k hk => by rw [fresh_S _ _ hk, hb]; exact Nat.le_refl _
  have H1 := Lib.hid (And.intro h1 (And.intro hlo (And.intro b1 hb)))
  clear h1 b1 hlo hb
  go_wp2_with fail
  refine (show Calls Try.prog 9 #[.int .i64 1] w1 (fun e w' => ItemOut w1 1 e w') from item_any 1 w1 (by decide)).mono ?_
  rintro e w2 ⟨g, rfl, hr, hb2⟩
  have h2 := H1.out.1.later hb2
  have B2 := Lib.hid (H1.out.2.2.1.trans (hb2.mono H1.out.2.2.1.size))
  have HSe := Lib.hid (sendN b Ed.fresh 0 1 0 0 g w2 h2 Nu.fresh rfl (by decide) hr)
  clear h2 hr hb2
  go_wp2_with fail
  refine HSe.out.mono ?_
  rintro e w3 ⟨rfl, x3, ht, ux⟩
  have B3 := Lib.hid (B2.out.trans (ht.exc.below B2.out.size fun i _ hi => H1.out.2.1 i (.inl hi)))
  have hl3 : ∀ k, x3.S b k → w.heap.size ≤ k := fun k hk => by
    rcases ht.lies k hk with h3 | h3
    · exact H1.out.2.1 k h3
    · exact Nat.le_trans B2.out.size h3
  have H3 := Lib.hid (And.intro ht.now (And.intro ux hl3))
  have HFa := Lib.hid (failN b x3 1 0 0 s w3 ht.now ux HS.out)
  clear ht ux hl3 HSe H1 B2
  go_wp2_with fail
  refine HFa.out.mono ?_
  rintro e w4 ⟨rfl, x4, ht, ux, hf⟩
  have B4 := Lib.hid (B3.out.trans (ht.exc.below B3.out.size fun i _ hi => H3.out.2.2 i (.inl hi)))
  have hl4 : ∀ k, x4.S b k → w.heap.size ≤ k := fun k hk => by
    rcases ht.lies k hk with h3 | h3
    · exact H3.out.2.2 k h3
    · exact Nat.le_trans B3.out.size h3
  have H4 := Lib.hid (And.intro ht.now (And.intro ux (And.intro hf hl4)))
  clear ht ux hf hl4 HFa H3 B3
  have HTi := Lib.hid (tick_early b x4 t base w4 H4.out.1 H4.out.2.1.st HBa.out (by rw [H4.out.2.2.1, HSat.out]; exact HOk.out))
  go_wp2_with fail
  refine HTi.out.mono ?_
  rintro e w5 ⟨rfl, q5, rfl⟩
  have h5 := H4.out.1.later (below_draw w4 q5)
  have b5 := below_drewN B4.out q5
  generalize w4.drewN q5 = w5 at h5 b5 ⊢
  have hst := state_any b x4 w5 h5
  rw [H4.out.2.1.st] at hst
  have HSt := Lib.hid hst
  have H5 := Lib.hid h5
  have B5 := Lib.hid b5
  clear h5 b5 hst HTi
  go_wp2_with fail
  refine HSt.out.mono ?_
  rintro e w6 ⟨rfl, q6, rfl⟩
  have h6 := H5.out.later (below_draw w5 q6)
  have b6 := below_drewN B5.out q6
  generalize w5.drewN q6 = w6 at h6 b6 ⊢
  have hre := retained_any b x4 w6 h6
  rw [show x4.its.length = 1 by have := H4.out.2.1.len; omega] at hre
  have HRe := Lib.hid hre
  have B6 := Lib.hid b6
  clear h6 b6 hre
  go_wp2_with fail
  refine HRe.out.mono ?_
  rintro e w8 ⟨rfl, q8, rfl⟩
  have b8 := below_drewN B6.out q8
  generalize w6.drewN q8 = w8 at b8 ⊢
  have B8 := Lib.hid b8
  clear b8
  go_wp2_with fail
  refine (lives_any w8).mono ?_
  rintro e w9 ⟨rfl, hb9⟩
  have B9 := Lib.hid (B8.out.trans (hb9.mono B8.out.size))
  clear hb9
  go_wp2
  go_ret
  exact ⟨rfl, B9.out⟩
set_option maxHeartbeats 4000000 in
set_option maxRecDepth 100000 in
theorem time_up_ok (s t base E F : Int) (w : World) (hs : -9223372036854775808 ≤ s ∧ s ≤ 9223372036854775807) (hbase : -9223372036854775808 ≤ base ∧ base ≤ 9223372036854775807) (hw : IntKind.i64.wrap (s + base) = E) (hsat : satI s base = F) (hb1 : 0 < base) (hE : ¬ E < s) (hF : F = E) (hok : F ≤ t) :
    Calls Try.prog 5 #[.int .i64 s, .int .i64 t, .int .i64 base] w fun e w' => e = .returned (.bool true) ∧ Below w.heap.size w w' := by
  have HS := Lib.hid hs
  have HBa := Lib.hid hbase
  have HSat := Lib.hid hsat
  have HOk := Lib.hid hok
  subst hF
  have hb2 : ¬ base < 0 := by omega
  have d1 : decide (F ≤ t) = true := by simp; omega
  have d2 : (true != true) = false := rfl
  clear hs hbase hsat
  go_enter Try.func5, Try.ntmps5
  go_wp2_with fail
  refine (new_any w).mono ?_
  rintro e w1 ⟨rfl, h1, b1⟩
  obtain ⟨b, hb⟩ : ∃ b, b = w.heap.size := ⟨_, rfl⟩
  rw [← hb] at h1 ⊢
  have hlo : ∀ k, Ed.fresh.S b k → w.heap.size ≤ k := fun k hk => by rw [fresh_S _ _ hk, hb]; exact Nat.le_refl _
  have H1 := Lib.hid (And.intro h1 (And.intro hlo (And.intro b1 hb)))
  clear h1 b1 hlo hb
  go_wp2_with fail
  refine (show Calls Try.prog 9 #[.int .i64 1] w1 (fun e w' => ItemOut w1 1 e w') from item_any 1 w1 (by decide)).mono ?_
  rintro e w2 ⟨g, rfl, hr, hb2⟩
  have h2 := H1.out.1.later hb2
  have B2 := Lib.hid (H1.out.2.2.1.trans (hb2.mono H1.out.2.2.1.size))
  have HSe := Lib.hid (sendN b Ed.fresh 0 1 0 0 g w2 h2 Nu.fresh rfl (by decide) hr)
  clear h2 hr hb2
  go_wp2_with fail
  refine HSe.out.mono ?_
  rintro e w3 ⟨rfl, x3, ht, ux⟩
  have B3 := Lib.hid (B2.out.trans (ht.exc.below B2.out.size fun i _ hi => H1.out.2.1 i (.inl hi)))
  have hl3 : ∀ k, x3.S b k → w.heap.size ≤ k := fun k hk => by
    rcases ht.lies k hk with h3 | h3
    · exact H1.out.2.1 k h3
    · exact Nat.le_trans B2.out.size h3
  have H3 := Lib.hid (And.intro ht.now (And.intro ux hl3))
  have HFa := Lib.hid (failN b x3 1 0 0 s w3 ht.now ux HS.out)
  clear ht ux hl3 HSe H1 B2
  go_wp2_with fail
  refine HFa.out.mono ?_
  rintro e w4 ⟨rfl, x4, ht, ux, hf⟩
  have B4 := Lib.hid (B3.out.trans (ht.exc.below B3.out.size fun i _ hi => H3.out.2.2 i (.inl hi)))
  have hl4 : ∀ k, x4.S b k → w.heap.size ≤ k := fun k hk => by
    rcases ht.lies k hk with h3 | h3
    · exact H3.out.2.2 k h3
    · exact Nat.le_trans B3.out.size h3
  have H4 := Lib.hid (And.intro ht.now (And.intro ux (And.intro hf hl4)))
  clear ht ux hf hl4 HFa H3 B3
  have HTi := Lib.hid (tickN b x4 1 0 0 1 t base w4 H4.out.1 H4.out.2.1 (by decide) HBa.out (by rw [H4.out.2.2.1, HSat.out]; exact HOk.out))
  go_wp2_with fail
  refine HTi.out.mono ?_
  rintro e w5 ⟨a5, l5, x5, rfl, hl5, hin5, hit5, ht, ux⟩
  have B5 := Lib.hid (B4.out.trans (ht.exc.below B4.out.size fun i _ hi => H4.out.2.2.2 i (.inl hi)))
  have HIn := Lib.hid (And.intro hin5 (And.intro hl5 hit5))
  have H5 := Lib.hid (And.intro ht.now ux)
  have HTn := Lib.hid (tick_not b x5 t base w5 ht.now (by rw [ux.st]; decide))
  clear hl5 hin5 hit5 ht ux HTi H4 B4
  go_wp2_with fail
  refine HTn.out.mono ?_
  rintro e w6 ⟨rfl, q6, rfl⟩
  have h6 := H5.out.1.later (below_draw w5 q6)
  have i6 := HIn.out.1.later (below_draw w5 q6)
  have b6 := below_drewN B5.out q6
  generalize w5.drewN q6 = w6 at h6 i6 b6 ⊢
  have H6 := Lib.hid h6
  have B6 := Lib.hid b6
  have HRu := Lib.hid (run_yes w6 _ a5 l5 1 1 1 i6 HIn.out.2.1 (by decide) (by decide) (fun i hi => HIn.out.2.2 i hi))
  clear h6 i6 b6 HTn
  go_wp2_with fail
  refine HRu.out.mono ?_
  rintro e w7 ⟨rfl, hb7⟩
  have h7 := H6.out.later hb7
  have B7 := Lib.hid (B6.out.trans (hb7.mono B6.out.size))
  have hst := state_any b x5 w7 h7
  rw [H5.out.2.st] at hst
  have HSt := Lib.hid hst
  clear h7 hst hb7 HRu
  go_wp2_with fail
  refine HSt.out.mono ?_
  rintro e w8 ⟨rfl, q8, rfl⟩
  have b8 := below_drewN B7.out q8
  generalize w7.drewN q8 = w8 at b8 ⊢
  have B8 := Lib.hid b8
  clear b8
  go_wp2_with fail
  refine (lives_any w8).mono ?_
  rintro e w9 ⟨rfl, hb9⟩
  have B9 := Lib.hid (B8.out.trans (hb9.mono B8.out.size))
  clear hb9
  go_wp2
  go_ret
  exact ⟨rfl, B9.out⟩
set_option maxHeartbeats 4000000 in
set_option maxRecDepth 100000 in
theorem time_up_no (s t base E F : Int) (w : World) (hs : -9223372036854775808 ≤ s ∧ s ≤ 9223372036854775807) (hbase : -9223372036854775808 ≤ base ∧ base ≤ 9223372036854775807) (hw : IntKind.i64.wrap (s + base) = E) (hsat : satI s base = F) (hb1 : 0 < base) (hE : ¬ E < s) (hF : F = E) (hok : t < F) :
    Calls Try.prog 5 #[.int .i64 s, .int .i64 t, .int .i64 base] w fun e w' => e = .returned (.bool true) ∧ Below w.heap.size w w' := by
  have HS := Lib.hid hs
  have HBa := Lib.hid hbase
  have HSat := Lib.hid hsat
  have HOk := Lib.hid hok
  subst hF
  have hb2 : ¬ base < 0 := by omega
  have d1 : decide (F ≤ t) = false := by simp; omega
  have d2 : (true != true) = false := rfl
  clear hs hbase hsat
  go_enter Try.func5, Try.ntmps5
  go_wp2_with fail
  refine (new_any w).mono ?_
  rintro e w1 ⟨rfl, h1, b1⟩
  obtain ⟨b, hb⟩ : ∃ b, b = w.heap.size := ⟨_, rfl⟩
  rw [← hb] at h1 ⊢
  have hlo : ∀ k, Ed.fresh.S b k → w.heap.size ≤ k := fun k hk => by rw [fresh_S _ _ hk, hb]; exact Nat.le_refl _
  have H1 := Lib.hid (And.intro h1 (And.intro hlo (And.intro b1 hb)))
  clear h1 b1 hlo hb
  go_wp2_with fail
  refine (show Calls Try.prog 9 #[.int .i64 1] w1 (fun e w' => ItemOut w1 1 e w') from item_any 1 w1 (by decide)).mono ?_
  rintro e w2 ⟨g, rfl, hr, hb2⟩
  have h2 := H1.out.1.later hb2
  have B2 := Lib.hid (H1.out.2.2.1.trans (hb2.mono H1.out.2.2.1.size))
  have HSe := Lib.hid (sendN b Ed.fresh 0 1 0 0 g w2 h2 Nu.fresh rfl (by decide) hr)
  clear h2 hr hb2
  go_wp2_with fail
  refine HSe.out.mono ?_
  rintro e w3 ⟨rfl, x3, ht, ux⟩
  have B3 := Lib.hid (B2.out.trans (ht.exc.below B2.out.size fun i _ hi => H1.out.2.1 i (.inl hi)))
  have hl3 : ∀ k, x3.S b k → w.heap.size ≤ k := fun k hk => by
    rcases ht.lies k hk with h3 | h3
    · exact H1.out.2.1 k h3
    · exact Nat.le_trans B2.out.size h3
  have H3 := Lib.hid (And.intro ht.now (And.intro ux hl3))
  have HFa := Lib.hid (failN b x3 1 0 0 s w3 ht.now ux HS.out)
  clear ht ux hl3 HSe H1 B2
  go_wp2_with fail
  refine HFa.out.mono ?_
  rintro e w4 ⟨rfl, x4, ht, ux, hf⟩
  have B4 := Lib.hid (B3.out.trans (ht.exc.below B3.out.size fun i _ hi => H3.out.2.2 i (.inl hi)))
  have hl4 : ∀ k, x4.S b k → w.heap.size ≤ k := fun k hk => by
    rcases ht.lies k hk with h3 | h3
    · exact H3.out.2.2 k h3
    · exact Nat.le_trans B3.out.size h3
  have H4 := Lib.hid (And.intro ht.now (And.intro ux (And.intro hf hl4)))
  clear ht ux hf hl4 HFa H3 B3
  have HTi := Lib.hid (tick_early b x4 t base w4 H4.out.1 H4.out.2.1.st HBa.out (by rw [H4.out.2.2.1, HSat.out]; exact HOk.out))
  go_wp2_with fail
  refine HTi.out.mono ?_
  rintro e w5 ⟨rfl, q5, rfl⟩
  have h5 := H4.out.1.later (below_draw w4 q5)
  have b5 := below_drewN B4.out q5
  generalize w4.drewN q5 = w5 at h5 b5 ⊢
  have hst := state_any b x4 w5 h5
  rw [H4.out.2.1.st] at hst
  have HSt := Lib.hid hst
  have H5 := Lib.hid h5
  have B5 := Lib.hid b5
  clear h5 b5 hst HTi
  go_wp2_with fail
  refine HSt.out.mono ?_
  rintro e w6 ⟨rfl, q6, rfl⟩
  have h6 := H5.out.later (below_draw w5 q6)
  have b6 := below_drewN B5.out q6
  generalize w5.drewN q6 = w6 at h6 b6 ⊢
  have hre := retained_any b x4 w6 h6
  rw [show x4.its.length = 1 by have := H4.out.2.1.len; omega] at hre
  have HRe := Lib.hid hre
  have B6 := Lib.hid b6
  clear h6 b6 hre
  go_wp2_with fail
  refine HRe.out.mono ?_
  rintro e w8 ⟨rfl, q8, rfl⟩
  have b8 := below_drewN B6.out q8
  generalize w6.drewN q8 = w8 at b8 ⊢
  have B8 := Lib.hid b8
  clear b8
  go_wp2_with fail
  refine (lives_any w8).mono ?_
  rintro e w9 ⟨rfl, hb9⟩
  have B9 := Lib.hid (B8.out.trans (hb9.mono B8.out.size))
  clear hb9
  go_wp2
  go_ret
  exact ⟨rfl, B9.out⟩
set_option maxHeartbeats 4000000 in
set_option maxRecDepth 100000 in
theorem time_dn_ok (s t base E F : Int) (w : World) (hs : -9223372036854775808 ≤ s ∧ s ≤ 9223372036854775807) (hbase : -9223372036854775808 ≤ base ∧ base ≤ 9223372036854775807) (hw : IntKind.i64.wrap (s + base) = E) (hsat : satI s base = F) (hb2 : base < 0) (hE : ¬ s < E) (hF : F = E) (hok : F ≤ t) :
    Calls Try.prog 5 #[.int .i64 s, .int .i64 t, .int .i64 base] w fun e w' => e = .returned (.bool true) ∧ Below w.heap.size w w' := by
  have HS := Lib.hid hs
  have HBa := Lib.hid hbase
  have HSat := Lib.hid hsat
  have HOk := Lib.hid hok
  subst hF
  have hb1 : ¬ 0 < base := by omega
  have d1 : decide (F ≤ t) = true := by simp; omega
  have d2 : (true != true) = false := rfl
  clear hs hbase hsat
  go_enter Try.func5, Try.ntmps5
  go_wp2_with fail
  refine (new_any w).mono ?_
  rintro e w1 ⟨rfl, h1, b1⟩
  obtain ⟨b, hb⟩ : ∃ b, b = w.heap.size := ⟨_, rfl⟩
  rw [← hb] at h1 ⊢
  have hlo : ∀ k, Ed.fresh.S b k → w.heap.size ≤ k := fun k hk => by rw [fresh_S _ _ hk, hb]; exact Nat.le_refl _
  have H1 := Lib.hid (And.intro h1 (And.intro hlo (And.intro b1 hb)))
  clear h1 b1 hlo hb
  go_wp2_with fail
  refine (show Calls Try.prog 9 #[.int .i64 1] w1 (fun e w' => ItemOut w1 1 e w') from item_any 1 w1 (by decide)).mono ?_
  rintro e w2 ⟨g, rfl, hr, hb2⟩
  have h2 := H1.out.1.later hb2
  have B2 := Lib.hid (H1.out.2.2.1.trans (hb2.mono H1.out.2.2.1.size))
  have HSe := Lib.hid (sendN b Ed.fresh 0 1 0 0 g w2 h2 Nu.fresh rfl (by decide) hr)
  clear h2 hr hb2
  go_wp2_with fail
  refine HSe.out.mono ?_
  rintro e w3 ⟨rfl, x3, ht, ux⟩
  have B3 := Lib.hid (B2.out.trans (ht.exc.below B2.out.size fun i _ hi => H1.out.2.1 i (.inl hi)))
  have hl3 : ∀ k, x3.S b k → w.heap.size ≤ k := fun k hk => by
    rcases ht.lies k hk with h3 | h3
    · exact H1.out.2.1 k h3
    · exact Nat.le_trans B2.out.size h3
  have H3 := Lib.hid (And.intro ht.now (And.intro ux hl3))
  have HFa := Lib.hid (failN b x3 1 0 0 s w3 ht.now ux HS.out)
  clear ht ux hl3 HSe H1 B2
  go_wp2_with fail
  refine HFa.out.mono ?_
  rintro e w4 ⟨rfl, x4, ht, ux, hf⟩
  have B4 := Lib.hid (B3.out.trans (ht.exc.below B3.out.size fun i _ hi => H3.out.2.2 i (.inl hi)))
  have hl4 : ∀ k, x4.S b k → w.heap.size ≤ k := fun k hk => by
    rcases ht.lies k hk with h3 | h3
    · exact H3.out.2.2 k h3
    · exact Nat.le_trans B3.out.size h3
  have H4 := Lib.hid (And.intro ht.now (And.intro ux (And.intro hf hl4)))
  clear ht ux hf hl4 HFa H3 B3
  have HTi := Lib.hid (tickN b x4 1 0 0 1 t base w4 H4.out.1 H4.out.2.1 (by decide) HBa.out (by rw [H4.out.2.2.1, HSat.out]; exact HOk.out))
  go_wp2_with fail
  refine HTi.out.mono ?_
  rintro e w5 ⟨a5, l5, x5, rfl, hl5, hin5, hit5, ht, ux⟩
  have B5 := Lib.hid (B4.out.trans (ht.exc.below B4.out.size fun i _ hi => H4.out.2.2.2 i (.inl hi)))
  have HIn := Lib.hid (And.intro hin5 (And.intro hl5 hit5))
  have H5 := Lib.hid (And.intro ht.now ux)
  have HTn := Lib.hid (tick_not b x5 t base w5 ht.now (by rw [ux.st]; decide))
  clear hl5 hin5 hit5 ht ux HTi H4 B4
  go_wp2_with fail
  refine HTn.out.mono ?_
  rintro e w6 ⟨rfl, q6, rfl⟩
  have h6 := H5.out.1.later (below_draw w5 q6)
  have i6 := HIn.out.1.later (below_draw w5 q6)
  have b6 := below_drewN B5.out q6
  generalize w5.drewN q6 = w6 at h6 i6 b6 ⊢
  have H6 := Lib.hid h6
  have B6 := Lib.hid b6
  have HRu := Lib.hid (run_yes w6 _ a5 l5 1 1 1 i6 HIn.out.2.1 (by decide) (by decide) (fun i hi => HIn.out.2.2 i hi))
  clear h6 i6 b6 HTn
  go_wp2_with fail
  refine HRu.out.mono ?_
  rintro e w7 ⟨rfl, hb7⟩
  have h7 := H6.out.later hb7
  have B7 := Lib.hid (B6.out.trans (hb7.mono B6.out.size))
  have hst := state_any b x5 w7 h7
  rw [H5.out.2.st] at hst
  have HSt := Lib.hid hst
  clear h7 hst hb7 HRu
  go_wp2_with fail
  refine HSt.out.mono ?_
  rintro e w8 ⟨rfl, q8, rfl⟩
  have b8 := below_drewN B7.out q8
  generalize w7.drewN q8 = w8 at b8 ⊢
  have B8 := Lib.hid b8
  clear b8
  go_wp2_with fail
  refine (lives_any w8).mono ?_
  rintro e w9 ⟨rfl, hb9⟩
  have B9 := Lib.hid (B8.out.trans (hb9.mono B8.out.size))
  clear hb9
  go_wp2
  go_ret
  exact ⟨rfl, B9.out⟩
set_option maxHeartbeats 4000000 in
set_option maxRecDepth 100000 in
theorem time_dn_no (s t base E F : Int) (w : World) (hs : -9223372036854775808 ≤ s ∧ s ≤ 9223372036854775807) (hbase : -9223372036854775808 ≤ base ∧ base ≤ 9223372036854775807) (hw : IntKind.i64.wrap (s + base) = E) (hsat : satI s base = F) (hb2 : base < 0) (hE : ¬ s < E) (hF : F = E) (hok : t < F) :
    Calls Try.prog 5 #[.int .i64 s, .int .i64 t, .int .i64 base] w fun e w' => e = .returned (.bool true) ∧ Below w.heap.size w w' := by
  have HS := Lib.hid hs
  have HBa := Lib.hid hbase
  have HSat := Lib.hid hsat
  have HOk := Lib.hid hok
  subst hF
  have hb1 : ¬ 0 < base := by omega
  have d1 : decide (F ≤ t) = false := by simp; omega
  have d2 : (true != true) = false := rfl
  clear hs hbase hsat
  go_enter Try.func5, Try.ntmps5
  go_wp2_with fail
  refine (new_any w).mono ?_
  rintro e w1 ⟨rfl, h1, b1⟩
  obtain ⟨b, hb⟩ : ∃ b, b = w.heap.size := ⟨_, rfl⟩
  rw [← hb] at h1 ⊢
  have hlo : ∀ k, Ed.fresh.S b k → w.heap.size ≤ k := fun k hk => by rw [fresh_S _ _ hk, hb]; exact Nat.le_refl _
  have H1 := Lib.hid (And.intro h1 (And.intro hlo (And.intro b1 hb)))
  clear h1 b1 hlo hb
  go_wp2_with fail
  refine (show Calls Try.prog 9 #[.int .i64 1] w1 (fun e w' => ItemOut w1 1 e w') from item_any 1 w1 (by decide)).mono ?_
  rintro e w2 ⟨g, rfl, hr, hb2⟩
  have h2 := H1.out.1.later hb2
  have B2 := Lib.hid (H1.out.2.2.1.trans (hb2.mono H1.out.2.2.1.size))
  have HSe := Lib.hid (sendN b Ed.fresh 0 1 0 0 g w2 h2 Nu.fresh rfl (by decide) hr)
  clear h2 hr hb2
  go_wp2_with fail
  refine HSe.out.mono ?_
  rintro e w3 ⟨rfl, x3, ht, ux⟩
  have B3 := Lib.hid (B2.out.trans (ht.exc.below B2.out.size fun i _ hi => H1.out.2.1 i (.inl hi)))
  have hl3 : ∀ k, x3.S b k → w.heap.size ≤ k := fun k hk => by
    rcases ht.lies k hk with h3 | h3
    · exact H1.out.2.1 k h3
    · exact Nat.le_trans B2.out.size h3
  have H3 := Lib.hid (And.intro ht.now (And.intro ux hl3))
  have HFa := Lib.hid (failN b x3 1 0 0 s w3 ht.now ux HS.out)
  clear ht ux hl3 HSe H1 B2
  go_wp2_with fail
  refine HFa.out.mono ?_
  rintro e w4 ⟨rfl, x4, ht, ux, hf⟩
  have B4 := Lib.hid (B3.out.trans (ht.exc.below B3.out.size fun i _ hi => H3.out.2.2 i (.inl hi)))
  have hl4 : ∀ k, x4.S b k → w.heap.size ≤ k := fun k hk => by
    rcases ht.lies k hk with h3 | h3
    · exact H3.out.2.2 k h3
    · exact Nat.le_trans B3.out.size h3
  have H4 := Lib.hid (And.intro ht.now (And.intro ux (And.intro hf hl4)))
  clear ht ux hf hl4 HFa H3 B3
  have HTi := Lib.hid (tick_early b x4 t base w4 H4.out.1 H4.out.2.1.st HBa.out (by rw [H4.out.2.2.1, HSat.out]; exact HOk.out))
  go_wp2_with fail
  refine HTi.out.mono ?_
  rintro e w5 ⟨rfl, q5, rfl⟩
  have h5 := H4.out.1.later (below_draw w4 q5)
  have b5 := below_drewN B4.out q5
  generalize w4.drewN q5 = w5 at h5 b5 ⊢
  have hst := state_any b x4 w5 h5
  rw [H4.out.2.1.st] at hst
  have HSt := Lib.hid hst
  have H5 := Lib.hid h5
  have B5 := Lib.hid b5
  clear h5 b5 hst HTi
  go_wp2_with fail
  refine HSt.out.mono ?_
  rintro e w6 ⟨rfl, q6, rfl⟩
  have h6 := H5.out.later (below_draw w5 q6)
  have b6 := below_drewN B5.out q6
  generalize w5.drewN q6 = w6 at h6 b6 ⊢
  have hre := retained_any b x4 w6 h6
  rw [show x4.its.length = 1 by have := H4.out.2.1.len; omega] at hre
  have HRe := Lib.hid hre
  have B6 := Lib.hid b6
  clear h6 b6 hre
  go_wp2_with fail
  refine HRe.out.mono ?_
  rintro e w8 ⟨rfl, q8, rfl⟩
  have b8 := below_drewN B6.out q8
  generalize w6.drewN q8 = w8 at b8 ⊢
  have B8 := Lib.hid b8
  clear b8
  go_wp2_with fail
  refine (lives_any w8).mono ?_
  rintro e w9 ⟨rfl, hb9⟩
  have B9 := Lib.hid (B8.out.trans (hb9.mono B8.out.size))
  clear hb9
  go_wp2
  go_ret
  exact ⟨rfl, B9.out⟩
set_option maxHeartbeats 4000000 in
set_option maxRecDepth 100000 in
theorem time_no_ok (s t base E F : Int) (w : World) (hs : -9223372036854775808 ≤ s ∧ s ≤ 9223372036854775807) (hbase : -9223372036854775808 ≤ base ∧ base ≤ 9223372036854775807) (hw : IntKind.i64.wrap (s + base) = E) (hsat : satI s base = F) (hb1 : ¬ 0 < base) (hb2 : ¬ base < 0) (hF : F = E) (hok : F ≤ t) :
    Calls Try.prog 5 #[.int .i64 s, .int .i64 t, .int .i64 base] w fun e w' => e = .returned (.bool true) ∧ Below w.heap.size w w' := by
  have HS := Lib.hid hs
  have HBa := Lib.hid hbase
  have HSat := Lib.hid hsat
  have HOk := Lib.hid hok
  subst hF
  have d1 : decide (F ≤ t) = true := by simp; omega
  have d2 : (true != true) = false := rfl
  clear hs hbase hsat
  go_enter Try.func5, Try.ntmps5
  go_wp2_with fail
  refine (new_any w).mono ?_
  rintro e w1 ⟨rfl, h1, b1⟩
  obtain ⟨b, hb⟩ : ∃ b, b = w.heap.size := ⟨_, rfl⟩
  rw [← hb] at h1 ⊢
  have hlo : ∀ k, Ed.fresh.S b k → w.heap.size ≤ k := fun k hk => by rw [fresh_S _ _ hk, hb]; exact Nat.le_refl _
  have H1 := Lib.hid (And.intro h1 (And.intro hlo (And.intro b1 hb)))
  clear h1 b1 hlo hb
  go_wp2_with fail
  refine (show Calls Try.prog 9 #[.int .i64 1] w1 (fun e w' => ItemOut w1 1 e w') from item_any 1 w1 (by decide)).mono ?_
  rintro e w2 ⟨g, rfl, hr, hb2⟩
  have h2 := H1.out.1.later hb2
  have B2 := Lib.hid (H1.out.2.2.1.trans (hb2.mono H1.out.2.2.1.size))
  have HSe := Lib.hid (sendN b Ed.fresh 0 1 0 0 g w2 h2 Nu.fresh rfl (by decide) hr)
  clear h2 hr hb2
  go_wp2_with fail
  refine HSe.out.mono ?_
  rintro e w3 ⟨rfl, x3, ht, ux⟩
  have B3 := Lib.hid (B2.out.trans (ht.exc.below B2.out.size fun i _ hi => H1.out.2.1 i (.inl hi)))
  have hl3 : ∀ k, x3.S b k → w.heap.size ≤ k := fun k hk => by
    rcases ht.lies k hk with h3 | h3
    · exact H1.out.2.1 k h3
    · exact Nat.le_trans B2.out.size h3
  have H3 := Lib.hid (And.intro ht.now (And.intro ux hl3))
  have HFa := Lib.hid (failN b x3 1 0 0 s w3 ht.now ux HS.out)
  clear ht ux hl3 HSe H1 B2
  go_wp2_with fail
  refine HFa.out.mono ?_
  rintro e w4 ⟨rfl, x4, ht, ux, hf⟩
  have B4 := Lib.hid (B3.out.trans (ht.exc.below B3.out.size fun i _ hi => H3.out.2.2 i (.inl hi)))
  have hl4 : ∀ k, x4.S b k → w.heap.size ≤ k := fun k hk => by
    rcases ht.lies k hk with h3 | h3
    · exact H3.out.2.2 k h3
    · exact Nat.le_trans B3.out.size h3
  have H4 := Lib.hid (And.intro ht.now (And.intro ux (And.intro hf hl4)))
  clear ht ux hf hl4 HFa H3 B3
  have HTi := Lib.hid (tickN b x4 1 0 0 1 t base w4 H4.out.1 H4.out.2.1 (by decide) HBa.out (by rw [H4.out.2.2.1, HSat.out]; exact HOk.out))
  go_wp2_with fail
  refine HTi.out.mono ?_
  rintro e w5 ⟨a5, l5, x5, rfl, hl5, hin5, hit5, ht, ux⟩
  have B5 := Lib.hid (B4.out.trans (ht.exc.below B4.out.size fun i _ hi => H4.out.2.2.2 i (.inl hi)))
  have HIn := Lib.hid (And.intro hin5 (And.intro hl5 hit5))
  have H5 := Lib.hid (And.intro ht.now ux)
  have HTn := Lib.hid (tick_not b x5 t base w5 ht.now (by rw [ux.st]; decide))
  clear hl5 hin5 hit5 ht ux HTi H4 B4
  go_wp2_with fail
  refine HTn.out.mono ?_
  rintro e w6 ⟨rfl, q6, rfl⟩
  have h6 := H5.out.1.later (below_draw w5 q6)
  have i6 := HIn.out.1.later (below_draw w5 q6)
  have b6 := below_drewN B5.out q6
  generalize w5.drewN q6 = w6 at h6 i6 b6 ⊢
  have H6 := Lib.hid h6
  have B6 := Lib.hid b6
  have HRu := Lib.hid (run_yes w6 _ a5 l5 1 1 1 i6 HIn.out.2.1 (by decide) (by decide) (fun i hi => HIn.out.2.2 i hi))
  clear h6 i6 b6 HTn
  go_wp2_with fail
  refine HRu.out.mono ?_
  rintro e w7 ⟨rfl, hb7⟩
  have h7 := H6.out.later hb7
  have B7 := Lib.hid (B6.out.trans (hb7.mono B6.out.size))
  have hst := state_any b x5 w7 h7
  rw [H5.out.2.st] at hst
  have HSt := Lib.hid hst
  clear h7 hst hb7 HRu
  go_wp2_with fail
  refine HSt.out.mono ?_
  rintro e w8 ⟨rfl, q8, rfl⟩
  have b8 := below_drewN B7.out q8
  generalize w7.drewN q8 = w8 at b8 ⊢
  have B8 := Lib.hid b8
  clear b8
  go_wp2_with fail
  refine (lives_any w8).mono ?_
  rintro e w9 ⟨rfl, hb9⟩
  have B9 := Lib.hid (B8.out.trans (hb9.mono B8.out.size))
  clear hb9
  go_wp2
  go_ret
  exact ⟨rfl, B9.out⟩
set_option maxHeartbeats 4000000 in
set_option maxRecDepth 100000 in
theorem time_no_no (s t base E F : Int) (w : World) (hs : -9223372036854775808 ≤ s ∧ s ≤ 9223372036854775807) (hbase : -9223372036854775808 ≤ base ∧ base ≤ 9223372036854775807) (hw : IntKind.i64.wrap (s + base) = E) (hsat : satI s base = F) (hb1 : ¬ 0 < base) (hb2 : ¬ base < 0) (hF : F = E) (hok : t < F) :
    Calls Try.prog 5 #[.int .i64 s, .int .i64 t, .int .i64 base] w fun e w' => e = .returned (.bool true) ∧ Below w.heap.size w w' := by
  have HS := Lib.hid hs
  have HBa := Lib.hid hbase
  have HSat := Lib.hid hsat
  have HOk := Lib.hid hok
  subst hF
  have d1 : decide (F ≤ t) = false := by simp; omega
  have d2 : (true != true) = false := rfl
  clear hs hbase hsat
  go_enter Try.func5, Try.ntmps5
  go_wp2_with fail
  refine (new_any w).mono ?_
  rintro e w1 ⟨rfl, h1, b1⟩
  obtain ⟨b, hb⟩ : ∃ b, b = w.heap.size := ⟨_, rfl⟩
  rw [← hb] at h1 ⊢
  have hlo : ∀ k, Ed.fresh.S b k → w.heap.size ≤ k := fun k hk => by rw [fresh_S _ _ hk, hb]; exact Nat.le_refl _
  have H1 := Lib.hid (And.intro h1 (And.intro hlo (And.intro b1 hb)))
  clear h1 b1 hlo hb
  go_wp2_with fail
  refine (show Calls Try.prog 9 #[.int .i64 1] w1 (fun e w' => ItemOut w1 1 e w') from item_any 1 w1 (by decide)).mono ?_
  rintro e w2 ⟨g, rfl, hr, hb2⟩
  have h2 := H1.out.1.later hb2
  have B2 := Lib.hid (H1.out.2.2.1.trans (hb2.mono H1.out.2.2.1.size))
  have HSe := Lib.hid (sendN b Ed.fresh 0 1 0 0 g w2 h2 Nu.fresh rfl (by decide) hr)
  clear h2 hr hb2
  go_wp2_with fail
  refine HSe.out.mono ?_
  rintro e w3 ⟨rfl, x3, ht, ux⟩
  have B3 := Lib.hid (B2.out.trans (ht.exc.below B2.out.size fun i _ hi => H1.out.2.1 i (.inl hi)))
  have hl3 : ∀ k, x3.S b k → w.heap.size ≤ k := fun k hk => by
    rcases ht.lies k hk with h3 | h3
    · exact H1.out.2.1 k h3
    · exact Nat.le_trans B2.out.size h3
  have H3 := Lib.hid (And.intro ht.now (And.intro ux hl3))
  have HFa := Lib.hid (failN b x3 1 0 0 s w3 ht.now ux HS.out)
  clear ht ux hl3 HSe H1 B2
  go_wp2_with fail
  refine HFa.out.mono ?_
  rintro e w4 ⟨rfl, x4, ht, ux, hf⟩
  have B4 := Lib.hid (B3.out.trans (ht.exc.below B3.out.size fun i _ hi => H3.out.2.2 i (.inl hi)))
  have hl4 : ∀ k, x4.S b k → w.heap.size ≤ k := fun k hk => by
    rcases ht.lies k hk with h3 | h3
    · exact H3.out.2.2 k h3
    · exact Nat.le_trans B3.out.size h3
  have H4 := Lib.hid (And.intro ht.now (And.intro ux (And.intro hf hl4)))
  clear ht ux hf hl4 HFa H3 B3
  have HTi := Lib.hid (tick_early b x4 t base w4 H4.out.1 H4.out.2.1.st HBa.out (by rw [H4.out.2.2.1, HSat.out]; exact HOk.out))
  go_wp2_with fail
  refine HTi.out.mono ?_
  rintro e w5 ⟨rfl, q5, rfl⟩
  have h5 := H4.out.1.later (below_draw w4 q5)
  have b5 := below_drewN B4.out q5
  generalize w4.drewN q5 = w5 at h5 b5 ⊢
  have hst := state_any b x4 w5 h5
  rw [H4.out.2.1.st] at hst
  have HSt := Lib.hid hst
  have H5 := Lib.hid h5
  have B5 := Lib.hid b5
  clear h5 b5 hst HTi
  go_wp2_with fail
  refine HSt.out.mono ?_
  rintro e w6 ⟨rfl, q6, rfl⟩
  have h6 := H5.out.later (below_draw w5 q6)
  have b6 := below_drewN B5.out q6
  generalize w5.drewN q6 = w6 at h6 b6 ⊢
  have hre := retained_any b x4 w6 h6
  rw [show x4.its.length = 1 by have := H4.out.2.1.len; omega] at hre
  have HRe := Lib.hid hre
  have B6 := Lib.hid b6
  clear h6 b6 hre
  go_wp2_with fail
  refine HRe.out.mono ?_
  rintro e w8 ⟨rfl, q8, rfl⟩
  have b8 := below_drewN B6.out q8
  generalize w6.drewN q8 = w8 at b8 ⊢
  have B8 := Lib.hid b8
  clear b8
  go_wp2_with fail
  refine (lives_any w8).mono ?_
  rintro e w9 ⟨rfl, hb9⟩
  have B9 := Lib.hid (B8.out.trans (hb9.mono B8.out.size))
  clear hb9
  go_wp2
  go_ret
  exact ⟨rfl, B9.out⟩
theorem time_walk (s t base : Int) (w : World) (h0 : (Lit.int .i64 s).wf = true) (_h1 : (Lit.int .i64 t).wf = true) (h2 : (Lit.int .i64 base).wf = true) :
    Calls Try.prog 5 #[.int .i64 s, .int .i64 t, .int .i64 base] w fun e w' => e = .returned (.bool true) ∧ Below w.heap.size w w' := by
  have hs := wf_i64.1 h0
  have hb := wf_i64.1 h2
  obtain ⟨E, hE⟩ : ∃ E, IntKind.i64.wrap (s + base) = E := ⟨_, rfl⟩
  obtain ⟨F, hF⟩ : ∃ F, satI s base = F := ⟨_, rfl⟩
  have hF2 := hF
  unfold satI at hF2
  by_cases c1 : 9223372036854775807 < s + base
  · rw [if_pos c1] at hF2
    have hE2 : E = s + base - 18446744073709551616 := by rw [← hE]; unfold IntKind.wrap; simp [IntKind.bits, IntKind.signed]; omega
    rcases Int.lt_or_le t F with hk | hk
    · exact time_hi_no s t base E F w hs hb hE hF (by omega) (by omega) hF2.symm hk
    · exact time_hi_ok s t base E F w hs hb hE hF (by omega) (by omega) hF2.symm hk
  · rw [if_neg c1] at hF2
    by_cases c2 : s + base < -9223372036854775808
    · rw [if_pos c2] at hF2
      have hE2 : E = s + base + 18446744073709551616 := by rw [← hE]; unfold IntKind.wrap; simp [IntKind.bits, IntKind.signed]; omega
      rcases Int.lt_or_le t F with hk | hk
      · exact time_lo_no s t base E F w hs hb hE hF (by omega) (by omega) hF2.symm hk
      · exact time_lo_ok s t base E F w hs hb hE hF (by omega) (by omega) hF2.symm hk
    · rw [if_neg c2] at hF2
      have hE2 : E = s + base := by rw [← hE]; exact IntWalk.i64_in _ (by omega)
      rcases Int.lt_trichotomy base 0 with hs0 | hs0 | hs0
      · rcases Int.lt_or_le t F with hk | hk
        · exact time_dn_no s t base E F w hs hb hE hF hs0 (by omega) (by omega) hk
        · exact time_dn_ok s t base E F w hs hb hE hF hs0 (by omega) (by omega) hk
      · rcases Int.lt_or_le t F with hk | hk
        · exact time_no_no s t base E F w hs hb hE hF (by omega) (by omega) (by omega) hk
        · exact time_no_ok s t base E F w hs hb hE hF (by omega) (by omega) (by omega) hk
      · rcases Int.lt_or_le t F with hk | hk
        · exact time_up_no s t base E F w hs hb hE hF hs0 (by omega) (by omega) hk
        · exact time_up_ok s t base E F w hs hb hE hF hs0 (by omega) (by omega) hk
end Go.Proofs.Ytlmkmgfnfcnoaaa
