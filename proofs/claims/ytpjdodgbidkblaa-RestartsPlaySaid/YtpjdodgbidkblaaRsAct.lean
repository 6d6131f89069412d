/- Up, Down, Done, Tick of a machine. -/
import Derived.Test.YtpjdodgbidkblaaRsHas
import Derived.Deep.Cut
import Derived.StillTailTactics

namespace Go.Proofs.Ytpjdodgbidkblaa
open Go.RowKit Go.Maps

set_option maxRecDepth 100000 in
theorem up_nul (a : Option Addr) (now n : Int) (w : World) (h : Nul w a) : Calls Try.prog 10 #[.pointer a, .int .i64 now, .int .u16 n] w fun e w' => e = .returned (.int .i64 2) ∧ w = w' := by
  have HE := Lib.hid (check_nul a n w h)
  clear h
  go_enter Try.func10, Try.ntmps10
  go_wp2_with fail
  with_reducible refine HE.out.mono ?_
  rintro e w' ⟨rfl, rfl⟩
  go_wp2
  go_ret
  exact ⟨rfl, rfl⟩
set_option maxRecDepth 100000 in
theorem down_nul (a : Option Addr) (n : Int) (w : World) (h : Nul w a) : Calls Try.prog 11 #[.pointer a, .int .u16 n] w fun e w' => e = .returned (.int .i64 2) ∧ w = w' := by
  have HE := Lib.hid (check_nul a n w h)
  clear h
  go_enter Try.func11, Try.ntmps11
  go_wp2_with fail
  with_reducible refine HE.out.mono ?_
  rintro e w' ⟨rfl, rfl⟩
  go_wp2
  go_ret
  exact ⟨rfl, rfl⟩
set_option maxRecDepth 100000 in
theorem done_nul (a : Option Addr) (n : Int) (w : World) (h : Nul w a) : Calls Try.prog 12 #[.pointer a, .int .u16 n] w fun e w' => e = .returned (.int .i64 2) ∧ w = w' := by
  have HE := Lib.hid (check_nul a n w h)
  clear h
  go_enter Try.func12, Try.ntmps12
  go_wp2_with fail
  with_reducible refine HE.out.mono ?_
  rintro e w' ⟨rfl, rfl⟩
  go_wp2
  go_ret
  exact ⟨rfl, rfl⟩
set_option maxRecDepth 100000 in
theorem tick_nul (a : Option Addr) (now : Int) (w : World) (h : Nul w a) : Calls Try.prog 13 #[.pointer a, .int .i64 now] w fun e w' => e = .returned (.bool false) ∧ w = w' := by
  have HE := Lib.hid (state_nul a w h)
  clear h
  go_enter Try.func13, Try.ntmps13
  go_wp2_with fail
  with_reducible refine HE.out.mono ?_
  rintro e w' ⟨rfl, rfl⟩
  go_wp2
  go_ret
  exact ⟨rfl, rfl⟩
/-- A neighbor that is none. -/
theorem ActOut.same {mb bm : Nat} {m : Mc} {E : Int} {w w' : World} (h : McAt w mb bm m) (hb : Below w.heap.size w w') : ActOut mb bm m E w (.returned (.int .i64 E)) w' := ⟨rfl, h.below hb, Exc.of_below hb⟩
set_option maxRecDepth 100000 in
theorem up_no {mb bm : Nat} {m : Mc} (now n : Int) (w : World) (h : McAt w mb bm m) (hn : (Lit.int .u16 n).wf = true) (hN : n ∉ m.N) : Calls Try.prog 10 #[.pointer (some ⟨mb, 0, none⟩), .int .i64 now, .int .u16 n] w (ActOut mb bm m 7 w) := by
  have hc := check_any n w h hn
  rw [if_neg hN] at hc
  have HE := Lib.hid hc
  have H := Lib.hid h
  clear h hn hN hc
  go_enter Try.func10, Try.ntmps10
  go_wp2_with fail
  with_reducible refine HE.out.mono ?_
  rintro e w' ⟨rfl, hb⟩
  have HB := Lib.hid hb
  clear hb
  go_wp2
  go_ret
  exact ActOut.same H.out HB.out
set_option maxRecDepth 100000 in
theorem down_no {mb bm : Nat} {m : Mc} (n : Int) (w : World) (h : McAt w mb bm m) (hn : (Lit.int .u16 n).wf = true) (hN : n ∉ m.N) : Calls Try.prog 11 #[.pointer (some ⟨mb, 0, none⟩), .int .u16 n] w (ActOut mb bm m 7 w) := by
  have hc := check_any n w h hn
  rw [if_neg hN] at hc
  have HE := Lib.hid hc
  have H := Lib.hid h
  clear h hn hN hc
  go_enter Try.func11, Try.ntmps11
  go_wp2_with fail
  with_reducible refine HE.out.mono ?_
  rintro e w' ⟨rfl, hb⟩
  have HB := Lib.hid hb
  clear hb
  go_wp2
  go_ret
  exact ActOut.same H.out HB.out
set_option maxRecDepth 100000 in
theorem done_no {mb bm : Nat} {m : Mc} (n : Int) (w : World) (h : McAt w mb bm m) (hn : (Lit.int .u16 n).wf = true) (hN : n ∉ m.N) : Calls Try.prog 12 #[.pointer (some ⟨mb, 0, none⟩), .int .u16 n] w (ActOut mb bm m 7 w) := by
  have hc := check_any n w h hn
  rw [if_neg hN] at hc
  have HE := Lib.hid hc
  have H := Lib.hid h
  clear h hn hN hc
  go_enter Try.func12, Try.ntmps12
  go_wp2_with fail
  with_reducible refine HE.out.mono ?_
  rintro e w' ⟨rfl, hb⟩
  have HB := Lib.hid hb
  clear hb
  go_wp2
  go_ret
  exact ActOut.same H.out HB.out
set_option maxHeartbeats 4000000 in
set_option maxRecDepth 100000 in
theorem down_ok {mb bm : Nat} {m : Mc} (n : Int) (w : World) (h : McAt w mb bm m) (hn : (Lit.int .u16 n).wf = true) (hN : n ∈ m.N) : Calls Try.prog 11 #[.pointer (some ⟨mb, 0, none⟩), .int .u16 n] w (ActOut mb bm (m.down n) 0 w) := by
  have hc := check_any n w h hn
  rw [if_pos hN] at hc
  have HC := Lib.hid hc
  have H := Lib.hid h
  have HN := Lib.hid hn
  have HQ := Lib.hid hN
  clear h hn hc hN
  go_enter Try.func11, Try.ntmps11
  go_wp2_with fail
  with_reducible refine HC.out.mono ?_
  rintro e w1 ⟨rfl, hb⟩
  have H1 := Lib.hid (H.out.below hb)
  have HB := Lib.hid (Exc.of_below (S := Mu mb bm) hb)
  clear hb
  obtain ⟨g0, g1, g2, g3⟩ := H1.out.cells
  go_wp2_with (at_mapUpdate; refine wpList_nb_store rfl _ _ _ rfl bm m.N m.nb rfl H1.out.map n (false, false) HN.out HQ.out rfl rfl ?_; intro w2 h1 h2; have H2 := Lib.hid (McAt.mk (m := m.cut n) (own_exc H1.out.own h2 H1.out.ne) h1 H1.out.base H1.out.beg H1.out.st H1.out.wfN); have HX := Lib.hid (HB.out.trans (S' := Mu mb bm) (h2.weak (fun _ _ hi => .inr hi)) (fun _ _ hi => hi)); clear h1 h2)
  go_wp2_with fail
  refine (has_up w2 H2.out).mono ?_
  rintro e w3 ⟨rfl, hb⟩
  have H3 := Lib.hid (H2.out.below hb)
  have HX3 := Lib.hid (HX.out.trans (Exc.of_below (S := Mu mb bm) hb) (fun _ _ hi => hi))
  clear hb
  obtain ⟨q, hq⟩ : ∃ q, q = (m.cut n).any isUpB := ⟨_, rfl⟩
  rw [← hq]
  have HQ := Lib.hid hq
  clear hq g0 g1 g2 g3
  cases q
  · obtain ⟨g0, g1, g2, g3⟩ := H3.out.cells
    have f2 := H3.out.own.frozen 2
    go_wp2
    go_ret
    refine ⟨rfl, ⟨?_, ?_, H1.out.base, H1.out.beg, ?_, H1.out.wfN⟩, ?_⟩
    · have h := H3.out.own.set 2 (.int .u8 1)
      unfold Mc.down
      rw [← HQ.out]
      exact h
    · refine H3.out.map.exc (S := fun k => k = mb) ((Exc.refl (fun k => k = mb) _).setCell ⟨mb, 2, none⟩ (.inl rfl) _) (fun e => H3.out.ne e.symm)
    · unfold Mc.down; rw [← HQ.out]; simp
    · exact HX3.out.setCell ⟨mb, 2, none⟩ (.inl (.inl rfl)) _
  · go_wp2
    go_ret
    refine ⟨rfl, ?_, HX3.out⟩
    unfold Mc.down
    rw [← HQ.out]
    exact H3.out
set_option maxHeartbeats 4000000 in
set_option maxRecDepth 100000 in
theorem done_ok {mb bm : Nat} {m : Mc} (n : Int) (w : World) (h : McAt w mb bm m) (hn : (Lit.int .u16 n).wf = true) (hN : n ∈ m.N) : Calls Try.prog 12 #[.pointer (some ⟨mb, 0, none⟩), .int .u16 n] w (ActOut mb bm (m.done n) 0 w) := by
  have hc := check_any n w h hn
  rw [if_pos hN] at hc
  have HC := Lib.hid hc
  have H := Lib.hid h
  have HN := Lib.hid hn
  have HQ := Lib.hid hN
  clear h hn hc hN
  go_enter Try.func12, Try.ntmps12
  go_wp2_with fail
  with_reducible refine HC.out.mono ?_
  rintro e w1 ⟨rfl, hb⟩
  have H1 := Lib.hid (H.out.below hb)
  have HB := Lib.hid (Exc.of_below (S := Mu mb bm) hb)
  clear hb
  obtain ⟨g0, g1, g2, g3⟩ := H1.out.cells
  by_cases hs : m.st = 2
  · have hs1 : (m.st == 2) = true := by rw [hs]; rfl
    have hl := H1.out.map.run HN.out HQ.out
    obtain ⟨u, hu⟩ : ∃ u, u = (m.nb n).1 := ⟨_, rfl⟩
    rw [← hu] at hl
    have HU := Lib.hid hu
    have HS := Lib.hid hs
    clear hu
    obtain ⟨st, hst⟩ : ∃ s, s = m.st := ⟨_, rfl⟩
    rw [← hst] at g2 hs1
    clear hst hs
    obtain ⟨d, hd⟩ : ∃ d, d = (m.nb n).2 := ⟨_, rfl⟩
    rw [← hd] at hl
    clear hd
    have hfd : ∀ x : Bool, ∀ w : World, (Instr.field 50 (.agg #[.bool x, .bool d]) 0).run Try.prog w = .ok (.bool x) w := fun _ _ => by kernel_rfl
    cases u
    · go_wp2
      go_ret
      refine ⟨rfl, ?_, HB.out⟩
      unfold Mc.done
      rw [if_neg (fun h => by rw [← HU.out] at h; cases h.2)]
      exact H1.out
    · go_wp2_with (at_mapUpdate; refine wpList_nb_store rfl _ _ _ rfl bm m.N m.nb rfl H1.out.map n (true, true) HN.out HQ.out rfl rfl ?_; intro w2 h1 h2; have H2 := Lib.hid (McAt.mk (m := { m with nb := updN m.nb n (true, true) }) (own_exc H1.out.own h2 H1.out.ne) h1 H1.out.base H1.out.beg H1.out.st H1.out.wfN); have HX := Lib.hid (HB.out.trans (S' := Mu mb bm) (h2.weak (fun _ _ hi => .inr hi)) (fun _ _ hi => hi)); clear h1 h2)
      go_wp2
      go_ret
      refine ⟨rfl, ?_, HX.out⟩
      unfold Mc.done
      rw [if_pos ⟨HS.out, HU.out.symm⟩]
      exact H2.out
  · have hs1 : (m.st == 2) = false := by simpa using hs
    have HS := Lib.hid hs
    obtain ⟨st, hst⟩ : ∃ s, s = m.st := ⟨_, rfl⟩
    rw [← hst] at g2 hs1
    clear hst hs
    go_wp2
    go_ret
    refine ⟨rfl, ?_, HB.out⟩
    unfold Mc.done
    rw [if_neg (fun h => HS.out h.1)]
    exact H1.out
/-- Up: the flag of the neighbor, behind the state. -/
theorem up_flag {mb bm : Nat} {m : Mc} {n : Int} {w w' : World} (h : McAt w mb bm m) (h1 : NbAt w' bm m.N (updN m.nb n (true, (m.nb n).2))) (h2 : Exc (fun k => k = bm) w w') : McAt w' mb bm { m with nb := updN m.nb n (true, (m.nb n).2) } :=
  ⟨own_exc h.own h2 h.ne, h1, h.base, h.beg, h.st, h.wfN⟩
theorem upBox {mb bm : Nat} {M : Mc} {w5 : World} (h : McAt w5 mb bm M) (d : Bool) :
    McAt (w5.alloc (.cells #[.bool true, .bool d] 50)) mb bm M ∧ Own (w5.alloc (.cells #[.bool true, .bool d] 50)) w5.heap.size 50 [.bool true, .bool d] ∧ Exc (fun _ => False) w5 (w5.alloc (.cells #[.bool true, .bool d] 50)) := by
  have hx : Exc (fun _ => False) w5 (w5.alloc (.cells #[.bool true, .bool d] 50)) := (Exc.refl _ w5).alloc _
  exact ⟨h.exc hx (fun h => h) (fun h => h), heap_alloc_new w5 _, hx⟩
set_option maxHeartbeats 4000000 in
set_option maxRecDepth 100000 in
theorem up_ok {mb bm : Nat} {m : Mc} (now n : Int) (w : World) (h : McAt w mb bm m) (hnow : (Lit.int .i64 now).wf = true) (hn : (Lit.int .u16 n).wf = true) (hN : n ∈ m.N) : Calls Try.prog 10 #[.pointer (some ⟨mb, 0, none⟩), .int .i64 now, .int .u16 n] w (ActOut mb bm (m.up now n) 0 w) := by
  have hc := check_any n w h hn
  rw [if_pos hN] at hc
  have HC := Lib.hid hc
  have H := Lib.hid h
  have HN := Lib.hid hn
  have HQ := Lib.hid hN
  have HW := Lib.hid hnow
  clear h hn hc hN hnow
  go_enter Try.func10, Try.ntmps10
  go_wp2_with fail
  with_reducible refine HC.out.mono ?_
  rintro e w1 ⟨rfl, hb⟩
  have H1 := Lib.hid (H.out.below hb)
  have HB := Lib.hid (Exc.of_below (S := Mu mb bm) hb)
  clear hb
  obtain ⟨g0, g1, g2, g3⟩ := H1.out.cells
  by_cases hs : m.st = 1
  · have hs1 : (m.st == 1) = true := by rw [hs]; rfl
    obtain ⟨M, hM⟩ : ∃ M : Mc, M = { m with st := 2, beg := now } := ⟨_, rfl⟩
    have HS : Hid (m.up now n = { M with nb := updN M.nb n (true, (M.nb n).2) }) := Lib.hid (by rw [hM]; unfold Mc.up; rw [if_pos hs, if_pos hs])
    have HM0 : Hid (McAt ((w1.setCell ⟨mb, 2, none⟩ (.int .u8 2)).setCell ⟨mb, 3, none⟩ (.int .i64 now)) mb bm M) := Lib.hid (by
      rw [hM]
      have hx : Exc (fun k => k = mb) w1 ((w1.setCell ⟨mb, 2, none⟩ (.int .u8 2)).setCell ⟨mb, 3, none⟩ (.int .i64 now)) := ((Exc.refl (fun k => k = mb) w1).setCell ⟨mb, 2, none⟩ (.inl rfl) _).setCell ⟨mb, 3, none⟩ (.inl rfl) _
      exact ⟨(H1.out.own.set 2 (.int .u8 2)).set 3 (.int .i64 now), H1.out.map.exc hx (fun e => H1.out.ne e.symm), H1.out.base, HW.out, ⟨by simp, by simp⟩, H1.out.wfN⟩)
    have HX0 : Hid (Exc (Mu mb bm) w ((w1.setCell ⟨mb, 2, none⟩ (.int .u8 2)).setCell ⟨mb, 3, none⟩ (.int .i64 now))) := Lib.hid ((HB.out.setCell ⟨mb, 2, none⟩ (.inl (.inl rfl)) _).setCell ⟨mb, 3, none⟩ (.inl (.inl rfl)) _)
    have HQ : Hid (n ∈ M.N) := Lib.hid (by rw [hM]; exact HQ.out)
    have f2 := H1.out.own.frozen 2
    have f3 := H1.out.own.frozen 3
    have f3b := (H1.out.own.set 2 (.int .u8 2)).frozen 3
    obtain ⟨st, hst⟩ : ∃ s, s = m.st := ⟨_, rfl⟩
    rw [← hst] at g2 hs1
    clear hst hs hM
    go_upto_region 6 with fail
    clear f2 f3 f3b g0 g1 g2 g3
    have hM0 := HM0.out
    have hX0 := HX0.out
    generalize (w1.setCell ⟨mb, 2, none⟩ (.int .u8 2)).setCell ⟨mb, 3, none⟩ (.int .i64 now) = w5 at hM0 hX0 ⊢
    have HM := Lib.hid hM0
    have HX5 := Lib.hid hX0
    clear hM0 hX0 HM0 HX0
    obtain ⟨g0, g1, g2, g3⟩ := HM.out.cells
    have hl := HM.out.map.run HN.out HQ.out
    obtain ⟨d, hd⟩ : ∃ d, d = (M.nb n).2 := ⟨_, rfl⟩
    obtain ⟨u, hu⟩ : ∃ u, u = (M.nb n).1 := ⟨_, rfl⟩
    rw [← hu, ← hd] at hl
    have HDD := Lib.hid hd
    clear hu hd
    go_upto_region 8 with fail
    have HW0 := Lib.hid (upBox HM.out d)
    clear g0 g1 g2 g3 hl
    obtain ⟨px, hpx⟩ : ∃ p, p = w5.heap.size := ⟨_, rfl⟩
    have hW0 := HW0.out
    rw [← hpx] at hW0 ⊢
    generalize w5.alloc (.cells #[.bool true, .bool d] 50) = W at hW0 ⊢
    have H5 := Lib.hid hW0
    clear hW0 hpx HW0
    obtain ⟨g0, g1, g2, g3⟩ := H5.out.1.cells
    obtain ⟨b0, b1⟩ : _ ∧ _ := ⟨H5.out.2.1.cell 0 (by simp), H5.out.2.1.cell 1 (by simp)⟩
    simp only [List.getD_cons_zero, List.getD_cons_succ] at b0 b1
    go_still_tail 6, (by kernel_rfl)
    change wpList _ _ _ _ _ W.drew
    refine wpList_nb_store rfl _ _ _ rfl bm M.N M.nb rfl (H5.out.1.below (below_drewN (Below.refl _ W) 1)).map n (true, d) HN.out HQ.out rfl rfl ?_
    intro w7 h1 h2
    rw [HDD.out] at h1
    have H7 := Lib.hid (up_flag (H5.out.1.below (below_drewN (Below.refl _ W) 1)) h1 h2)
    have HX7 := Lib.hid ((HX5.out.trans H5.out.2.2 (fun _ _ hi => hi.elim)).trans ((Exc.of_below (S := Mu mb bm) (below_drewN (Below.refl _ W) 1)).trans (S' := Mu mb bm) (h2.weak (fun _ _ hi => .inr hi)) (fun _ _ hi => hi)) (fun _ _ hi => hi))
    clear h1 h2 g0 g1 g2 g3 b0 b1
    go_wp2
    go_ret
    exact ⟨rfl, by rw [HS.out]; exact H7.out, HX7.out⟩
  · have hs1 : (m.st == 1) = false := by simpa using hs
    obtain ⟨M, hM⟩ : ∃ M : Mc, M = m := ⟨_, rfl⟩
    have HS : Hid (m.up now n = { M with nb := updN M.nb n (true, (M.nb n).2) }) := Lib.hid (by rw [hM]; unfold Mc.up; rw [if_neg hs, if_neg hs])
    have HM : Hid (McAt w1 mb bm M) := Lib.hid (by rw [hM]; exact H1.out)
    have HQ : Hid (n ∈ M.N) := Lib.hid (by rw [hM]; exact HQ.out)
    obtain ⟨st, hst⟩ : ∃ s, s = m.st := ⟨_, rfl⟩
    rw [← hst] at g2 hs1
    clear hst hs hM
    go_upto_region 6 with fail
    clear g0 g1 g2 g3
    obtain ⟨w5, hw5⟩ : ∃ x, x = w1 := ⟨_, rfl⟩
    subst hw5
    have HX5 := HB
    obtain ⟨g0, g1, g2, g3⟩ := HM.out.cells
    have hl := HM.out.map.run HN.out HQ.out
    obtain ⟨d, hd⟩ : ∃ d, d = (M.nb n).2 := ⟨_, rfl⟩
    obtain ⟨u, hu⟩ : ∃ u, u = (M.nb n).1 := ⟨_, rfl⟩
    rw [← hu, ← hd] at hl
    have HDD := Lib.hid hd
    clear hu hd
    go_upto_region 8 with fail
    have HW0 := Lib.hid (upBox HM.out d)
    clear g0 g1 g2 g3 hl
    obtain ⟨px, hpx⟩ : ∃ p, p = w5.heap.size := ⟨_, rfl⟩
    have hW0 := HW0.out
    rw [← hpx] at hW0 ⊢
    generalize w5.alloc (.cells #[.bool true, .bool d] 50) = W at hW0 ⊢
    have H5 := Lib.hid hW0
    clear hW0 hpx HW0
    obtain ⟨g0, g1, g2, g3⟩ := H5.out.1.cells
    obtain ⟨b0, b1⟩ : _ ∧ _ := ⟨H5.out.2.1.cell 0 (by simp), H5.out.2.1.cell 1 (by simp)⟩
    simp only [List.getD_cons_zero, List.getD_cons_succ] at b0 b1
    go_still_tail 6, (by kernel_rfl)
    change wpList _ _ _ _ _ W.drew
    refine wpList_nb_store rfl _ _ _ rfl bm M.N M.nb rfl (H5.out.1.below (below_drewN (Below.refl _ W) 1)).map n (true, d) HN.out HQ.out rfl rfl ?_
    intro w7 h1 h2
    rw [HDD.out] at h1
    have H7 := Lib.hid (up_flag (H5.out.1.below (below_drewN (Below.refl _ W) 1)) h1 h2)
    have HX7 := Lib.hid ((HX5.out.trans H5.out.2.2 (fun _ _ hi => hi.elim)).trans ((Exc.of_below (S := Mu mb bm) (below_drewN (Below.refl _ W) 1)).trans (S' := Mu mb bm) (h2.weak (fun _ _ hi => .inr hi)) (fun _ _ hi => hi)) (fun _ _ hi => hi))
    clear h1 h2 g0 g1 g2 g3 b0 b1
    go_wp2
    go_ret
    exact ⟨rfl, by rw [HS.out]; exact H7.out, HX7.out⟩
end Go.Proofs.Ytpjdodgbidkblaa
