/- has: does a condition hold for any neighbor. -/
import Derived.Test.YtpjdodgbidkblaaRsGet
import Derived.Maps.RangeWalk
namespace Go.Proofs.Ytpjdodgbidkblaa
open Go.RowKit Go.Maps

set_option maxHeartbeats 4000000 in
set_option maxRecDepth 100000 in
theorem has_up {mb bm : Nat} {m : Mc} (w : World) (h : McAt w mb bm m) : Calls Try.prog 16 #[.pointer (some ⟨mb, 0, none⟩), .func (.func 17) #[] #[]] w fun e w' => e = .returned (.bool (m.any isUpB)) ∧ Below w.heap.size w w' := by
  obtain ⟨g0, g1, g2, g3⟩ := h.cells
  have hlm := h.ltm
  have hat := h.map
  unfold NbAt at hat
  obtain ⟨f, h1, h2⟩ := hat
  have HF := Lib.hid h2
  have HN := Lib.hid h.wfN
  have HL := Lib.hid hlm
  clear h2 hlm h g1 g2 g3
  go_enter Try.func16, Try.ntmps16
  go_wp2_with (at_range; refine wpList_range rfl _ _ rfl _ _ Try.underlying44 bm f rfl h1 ?_; intro w0 cnt0 hrg0 hb0 hs0)
  go_frame
  have HR0 := Lib.hid hrg0
  have HB0 := Lib.hid hb0
  clear hrg0 hb0 hs0 g0 h1
  go_loopw [6] (fun _ wr => ∃ L cnt, RangeAt Try.prog 26 wr bm w.heap.size f L cnt ∧ (∀ n, n ∈ m.N → ¬ L (.int .u16 n) → isUpB (m.nb n) = false) ∧ Below w.heap.size w wr) (fun _ wr => leftN wr bm w.heap.size)
  case atStart => exact ⟨_, _, HR0.out, fun n _ hh => absurd trivial hh, HB0.out⟩
  case round =>
    obtain ⟨L, cnt, hrg, hseen, hb⟩ := hrel
    have HR := Lib.hid hrg
    have HS := Lib.hid hseen
    have HB := Lib.hid hb
    clear hrg hseen hb
    go_wp2_with (at_next; refine wpList_next rfl _ rfl _ bm w.heap.size f L cnt rfl HR.out ?_ ?_)
    · intro hdone
      have HD := Lib.hid hdone
      clear hdone
      go_wp2
      go_ret
      refine ⟨?_, HB.out⟩
      refine ret_bool (Eq.symm ?_)
      unfold Mc.any
      rw [List.any_eq_false]
      intro n hn hc
      have hf := HF.out n (HN.out n hn)
      rw [if_pos hn] at hf
      rw [HS.out n hn (HD.out _ _ hf)] at hc
      cases hc
    · intro key v l w1 cnt1 hk hL hf hrg1 hlt hx1 hs1 hen
      obtain ⟨x, rfl, _, hwx⟩ := Go.Maps.keyOf_int_inv Try.underlying26 hk
      have hfx := HF.out x hwx
      have hxN : x ∈ m.N := by
        apply Classical.byContradiction
        intro hh
        rw [if_neg hh, hf] at hfx
        cases hfx
      rw [if_pos hxN, hf] at hfx
      obtain rfl : v = nbV (m.nb x) := Option.some.inj hfx
      unfold nbV at hen
      have HXN := Lib.hid hxN
      have HR1 := Lib.hid hrg1
      have HB1 : Hid (Below w.heap.size w w1) := Lib.hid (HB.out.trans (hx1.below HB.out.size (fun i _ hi => by rw [hi]; exact Nat.le_refl _)))
      have HM := Lib.hid (show cnt1 < leftN wr bm w.heap.size by rw [HR.out.leftN]; exact hlt)
      obtain ⟨u, hu⟩ : ∃ u, u = (m.nb x).1 := ⟨_, rfl⟩
      obtain ⟨d, hd⟩ : ∃ d, d = (m.nb x).2 := ⟨_, rfl⟩
      have HUD : Hid (isUpB (m.nb x) = u) := Lib.hid (by subst hu hd; rfl)
      rw [← hu, ← hd] at hen
      clear hu hd hk hL hf hfx hrg1 hlt hx1 hs1 hwx
      go_wp2_with fail
      refine (isUp_any u d _).mono ?_
      rintro e w2 ⟨rfl, hb2⟩
      have HB2 : Hid (Below w1.heap.size w1 w2) := Lib.hid (below_call hb2)
      clear hb2 hen
      rcases Bool.eq_false_or_eq_true u with hq | hq
      · rw [hq]
        have HQ := Lib.hid hq
        clear hq
        go_wp2
        go_ret
        refine ⟨ret_bool (Eq.symm ?_), HB1.out.trans (HB2.out.mono HB1.out.size)⟩
        unfold Mc.any
        rw [List.any_eq_true]
        exact ⟨x, HXN.out, by rw [HUD.out]; exact HQ.out⟩
      · rw [hq]
        have HQ := Lib.hid hq
        clear hq
        go_wp2
        have hr2 := HR1.out.exc (S := fun _ => False) (Exc.of_below HB2.out) (fun h => h) (fun h => h)
        refine ⟨⟨_, cnt1, hr2, fun n hn hh => ?_, HB1.out.trans (HB2.out.mono HB1.out.size)⟩, by rw [hr2.leftN]; exact HM.out⟩
        by_cases e : n = x
        · subst e; rw [HUD.out]; exact HQ.out
        · exact HS.out n hn fun hl => hh ⟨hl, by simpa using e⟩
set_option maxHeartbeats 4000000 in
set_option maxRecDepth 100000 in
theorem has_open {mb bm : Nat} {m : Mc} (w : World) (h : McAt w mb bm m) : Calls Try.prog 16 #[.pointer (some ⟨mb, 0, none⟩), .func (.func 18) #[] #[]] w fun e w' => e = .returned (.bool (m.any isOpB)) ∧ Below w.heap.size w w' := by
  obtain ⟨g0, g1, g2, g3⟩ := h.cells
  have hlm := h.ltm
  have hat := h.map
  unfold NbAt at hat
  obtain ⟨f, h1, h2⟩ := hat
  have HF := Lib.hid h2
  have HN := Lib.hid h.wfN
  have HL := Lib.hid hlm
  clear h2 hlm h g1 g2 g3
  go_enter Try.func16, Try.ntmps16
  go_wp2_with (at_range; refine wpList_range rfl _ _ rfl _ _ Try.underlying44 bm f rfl h1 ?_; intro w0 cnt0 hrg0 hb0 hs0)
  go_frame
  have HR0 := Lib.hid hrg0
  have HB0 := Lib.hid hb0
  clear hrg0 hb0 hs0 g0 h1
  go_loopw [6] (fun _ wr => ∃ L cnt, RangeAt Try.prog 26 wr bm w.heap.size f L cnt ∧ (∀ n, n ∈ m.N → ¬ L (.int .u16 n) → isOpB (m.nb n) = false) ∧ Below w.heap.size w wr) (fun _ wr => leftN wr bm w.heap.size)
  case atStart => exact ⟨_, _, HR0.out, fun n _ hh => absurd trivial hh, HB0.out⟩
  case round =>
    obtain ⟨L, cnt, hrg, hseen, hb⟩ := hrel
    have HR := Lib.hid hrg
    have HS := Lib.hid hseen
    have HB := Lib.hid hb
    clear hrg hseen hb
    go_wp2_with (at_next; refine wpList_next rfl _ rfl _ bm w.heap.size f L cnt rfl HR.out ?_ ?_)
    · intro hdone
      have HD := Lib.hid hdone
      clear hdone
      go_wp2
      go_ret
      refine ⟨?_, HB.out⟩
      refine ret_bool (Eq.symm ?_)
      unfold Mc.any
      rw [List.any_eq_false]
      intro n hn hc
      have hf := HF.out n (HN.out n hn)
      rw [if_pos hn] at hf
      rw [HS.out n hn (HD.out _ _ hf)] at hc
      cases hc
    · intro key v l w1 cnt1 hk hL hf hrg1 hlt hx1 hs1 hen
      obtain ⟨x, rfl, _, hwx⟩ := Go.Maps.keyOf_int_inv Try.underlying26 hk
      have hfx := HF.out x hwx
      have hxN : x ∈ m.N := by
        apply Classical.byContradiction
        intro hh
        rw [if_neg hh, hf] at hfx
        cases hfx
      rw [if_pos hxN, hf] at hfx
      obtain rfl : v = nbV (m.nb x) := Option.some.inj hfx
      unfold nbV at hen
      have HXN := Lib.hid hxN
      have HR1 := Lib.hid hrg1
      have HB1 : Hid (Below w.heap.size w w1) := Lib.hid (HB.out.trans (hx1.below HB.out.size (fun i _ hi => by rw [hi]; exact Nat.le_refl _)))
      have HM := Lib.hid (show cnt1 < leftN wr bm w.heap.size by rw [HR.out.leftN]; exact hlt)
      obtain ⟨u, hu⟩ : ∃ u, u = (m.nb x).1 := ⟨_, rfl⟩
      obtain ⟨d, hd⟩ : ∃ d, d = (m.nb x).2 := ⟨_, rfl⟩
      have HUD : Hid (isOpB (m.nb x) = (u && !d)) := Lib.hid (by subst hu hd; rfl)
      rw [← hu, ← hd] at hen
      clear hu hd hk hL hf hfx hrg1 hlt hx1 hs1 hwx
      go_wp2_with fail
      refine (isOpen_any u d _).mono ?_
      rintro e w2 ⟨rfl, hb2⟩
      have HB2 : Hid (Below w1.heap.size w1 w2) := Lib.hid (below_call hb2)
      clear hb2 hen
      rcases Bool.eq_false_or_eq_true (u && !d) with hq | hq
      · rw [hq]
        have HQ := Lib.hid hq
        clear hq
        go_wp2
        go_ret
        refine ⟨ret_bool (Eq.symm ?_), HB1.out.trans (HB2.out.mono HB1.out.size)⟩
        unfold Mc.any
        rw [List.any_eq_true]
        exact ⟨x, HXN.out, by rw [HUD.out]; exact HQ.out⟩
      · rw [hq]
        have HQ := Lib.hid hq
        clear hq
        go_wp2
        have hr2 := HR1.out.exc (S := fun _ => False) (Exc.of_below HB2.out) (fun h => h) (fun h => h)
        refine ⟨⟨_, cnt1, hr2, fun n hn hh => ?_, HB1.out.trans (HB2.out.mono HB1.out.size)⟩, by rw [hr2.leftN]; exact HM.out⟩
        by_cases e : n = x
        · subst e; rw [HUD.out]; exact HQ.out
        · exact HS.out n hn fun hl => hh ⟨hl, by simpa using e⟩
end Go.Proofs.Ytpjdodgbidkblaa
