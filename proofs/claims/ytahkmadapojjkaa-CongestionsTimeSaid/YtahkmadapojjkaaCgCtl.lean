/- What a control's methods do: others, Hear, Level. -/
import Derived.Test.YtahkmadapojjkaaCgNew
import Derived.Maps.RangeWalk
namespace Go.Proofs.Ytahkmadapojjkaa
open Go.RowKit Go.Maps

/-- n of D are hit and have come. -/
def CntL (D : List Int) (hit : Int → Bool) (L : Value → Prop) (n : Nat) : Prop := ∃ g : Int → Bool, (∀ p, g p = true ↔ ¬ L (.int .u16 p)) ∧ n = D.countP fun p => hit p && g p
theorem cntL_le {D : List Int} {hit : Int → Bool} {L : Value → Prop} {n : Nat} (h : CntL D hit L n) : n ≤ D.length := by
  obtain ⟨g, _, rfl⟩ := h
  exact List.countP_le_length
theorem cntL_all (D : List Int) (hit : Int → Bool) : CntL D hit (fun _ => True) 0 := ⟨fun _ => false, fun p => by simp, by simp⟩
theorem count_step (hit g : Int → Bool) (x : Int) (hx : g x = false) : ∀ (D : List Int), D.Nodup →
    (D.countP fun p => hit p && (g p || decide (p = x))) = (D.countP fun p => hit p && g p) + if x ∈ D ∧ hit x = true then 1 else 0
  | [], _ => by simp
  | d :: D, hn => by
    obtain ⟨h1, h2⟩ := List.nodup_cons.1 hn
    have ih := count_step hit g x hx D h2
    rw [List.countP_cons, List.countP_cons, ih]
    by_cases e : d = x
    · subst e
      rw [if_neg (fun h => h1 h.1), hx]
      cases hit d <;> simp
    · have e3 : ¬ x = d := fun h => e h.symm
      simp [e, e3]
      omega
theorem cntL_step {D : List Int} {hit : Int → Bool} {L : Value → Prop} {n : Nat} (h : CntL D hit L n) (hD : D.Nodup) (x : Int) (hL : L (.int .u16 x)) :
    CntL D hit (fun v => L v ∧ v ≠ .int .u16 x) (n + if x ∈ D ∧ hit x = true then 1 else 0) := by
  obtain ⟨g, hg, rfl⟩ := h
  have hx : g x = false := by
    cases e : g x
    · rfl
    · exact absurd hL ((hg x).1 e)
  refine ⟨fun p => g p || decide (p = x), fun p => ?_, (count_step hit g x hx D hD).symm⟩
  by_cases e : p = x
  · subst e; simp
  · have e2 : (Value.int .u16 p ≠ Value.int .u16 x) := by simpa using e
    simp only [e, decide_false, Bool.or_false, hg p]
    exact ⟨fun h hh => h hh.1, fun h hh => h ⟨hh, e2⟩⟩
theorem cntL_none {D : List Int} {hit : Int → Bool} {L : Value → Prop} {n : Nat} (hc : CntL D hit L n) (h : ∀ p, p ∈ D → hit p = true → ¬ L (.int .u16 p)) : n = D.countP hit := by
  obtain ⟨g, hg, rfl⟩ := hc
  refine List.countP_congr fun p hp => ?_
  cases hh : hit p
  · simp
  · simp [(hg p).2 (h p hp hh)]
theorem hits_lev {c : Ct} {now n p : Int} (hb : 1 ≤ c.base) (h : c.hits now n p = true) : (c.R p).1 ≠ 0 := by
  intro e
  unfold Ct.hits at h
  rw [lowM_zero e hb] at h
  simp at h
theorem cell_low {w w' : World} {p : Addr} {v : Value} {n : Nat} (hb : Below n w w') (h : w.cell? p = some v) (hn : w.heap.size ≤ n := by omega) : w'.cell? p = some v := by
  rw [hb.cell (p := p) (Nat.lt_of_lt_of_le (World.block_lt_of_cell? w _ h) hn)]; exact h
set_option maxHeartbeats 4000000 in
set_option maxRecDepth 100000 in
theorem others_any {cb bm : Nat} {c : Ct} (now n : Int) (w : World) (h : CtAt w cb bm c) (hnow : (Lit.int .i64 now).wf = true) : Calls Try.prog 23 #[.pointer (some ⟨cb, 0, none⟩), .int .i64 now, .int .u16 n] w fun e w' => e = .returned (.int .i64 (c.others now n : Int)) ∧ Below w.heap.size w w' := by
  obtain ⟨g0, g1⟩ := h.cells
  have H := Lib.hid h
  have HNow := Lib.hid hnow
  have hat := h.map
  unfold RecAt at hat
  obtain ⟨f, h1, h2⟩ := hat
  have HF := Lib.hid h2
  have HG0 := Lib.hid g0
  clear h2 h hnow g0
  go_enter Try.func23, Try.ntmps23
  go_wp2_with (at_range; refine wpList_range rfl _ _ rfl _ _ Try.underlying58 bm f rfl h1 ?_; intro w0 cnt0 hrg0 hb0 hs0)
  go_frame
  have HR0 := Lib.hid hrg0
  have HB0 := Lib.hid hb0
  clear hrg0 hb0 hs0 g1 h1
  go_loopw [7] (fun u wr => ∃ L cnt, ∃ num : Nat, RangeAt Try.prog 49 wr bm w.heap.size f L cnt ∧ CntL c.D (c.hits now n) L num ∧ u = .int .i64 (num : Int) ∧ Below w.heap.size w wr) (fun _ wr => leftN wr bm w.heap.size)
  case atStart => exact ⟨_, _, 0, HR0.out, cntL_all _ _, rfl, HB0.out⟩
  case round =>
    obtain ⟨L, cnt, num, hrg, hcn, rfl, hb⟩ := hrel
    have HR := Lib.hid hrg
    have HCn := Lib.hid hcn
    have HB := Lib.hid hb
    clear hrg hb hcn
    go_wp2_with (at_next; refine wpList_next rfl _ rfl _ bm w.heap.size f L cnt rfl HR.out ?_ ?_)
    · intro hdone
      have HD := Lib.hid hdone
      clear hdone
      go_wp2
      go_ret
      refine ⟨?_, HB.out⟩
      rw [cntL_none HCn.out (fun p hp hit hL => by
        have h9 := HF.out p (H.out.wfD p hp)
        rw [if_neg (hits_lev H.out.base.1 hit)] at h9
        exact HD.out _ _ h9 hL)]
      rfl
    · intro key v l w1 cnt1 hk hL hf hrg1 hlt hx1 hs1 hen
      obtain ⟨x, rfl, _, hwx⟩ := Go.Maps.keyOf_int_inv Try.underlying49 hk
      have hfx := HF.out x hwx
      have hne : (c.R x).1 ≠ 0 := by
        intro hh
        rw [if_pos hh, hf] at hfx
        cases hfx
      rw [if_neg hne, hf] at hfx
      obtain rfl : v = recV (c.R x) := Option.some.inj hfx
      have HStep := Lib.hid (cntL_step HCn.out H.out.nod x hL)
      have HDom := Lib.hid (H.out.dom x hne)
      unfold recV at hen
      have HR1 := Lib.hid hrg1
      have HB1 : Hid (Below w.heap.size w w1) := Lib.hid (HB.out.trans (hx1.below HB.out.size (fun i _ hi => by rw [hi]; exact Nat.le_refl _)))
      have HM := Lib.hid (show cnt1 < leftN wr bm w.heap.size by rw [HR.out.leftN]; exact hlt)
      have HLow : Hid (∀ W, Calls Try.prog 24 #[.agg #[.int .i64 (c.R x).1, .int .i64 (c.R x).2], .int .i64 now, .int .i64 c.base] W fun e w' => e = .returned (.int .i64 (lowM (c.R x) now c.base)) ∧ Below W.heap.size W w') :=
        Lib.hid (fun W => lowered_any (c.R x).1 (c.R x).2 now c.base W (H.out.lev x) (H.out.tick x) HNow.out H.out.base)
      have hHit : c.hits now n x = (decide (x ≠ n) && decide (0 < lowM (c.R x) now c.base)) := rfl
      obtain ⟨lo, hlo⟩ : ∃ lo, lo = lowM (c.R x) now c.base := ⟨_, rfl⟩
      rw [← hlo] at hHit HLow
      obtain ⟨u, hu⟩ : ∃ u, u = (c.R x).1 := ⟨_, rfl⟩
      obtain ⟨t, ht⟩ : ∃ d, d = (c.R x).2 := ⟨_, rfl⟩
      rw [← hu, ← ht] at hen HLow
      have HHit := Lib.hid hHit
      have c0 : w1.cell? ⟨cb, 0, none⟩ = some (.int .i64 c.base) := (H.out.below (HB1.out)).cells.1
      have HBa := Lib.hid (below_alloc w1 (.cells #[.int .i64 u, .int .i64 t] 66))
      have hoa : Own (w1.alloc (.cells #[.int .i64 u, .int .i64 t] 66)) w1.heap.size 66 [.int .i64 u, .int .i64 t] := heap_alloc_new w1 _
      have HOa := Lib.hid hoa
      have HC0 := Lib.hid c0
      have hcb := cntL_le HCn.out
      have hcw : IntKind.i64.wrap ((num : Int) + 1) = (num : Int) + 1 := IntWalk.i64_in _ (by have := H.out.len; omega)
      clear hlo hu ht hk hL hf hfx hrg1 hlt hx1 hs1 hwx hHit hne hoa c0 hcb
      by_cases hxn : x = n
      · have hxn1 : (x != n) = false := by simpa using hxn
        have HXN := Lib.hid hxn
        clear hxn
        go_upto_region 5 with fail
        generalize w1.alloc (.cells #[.int .i64 u, .int .i64 t] 66) = w2 at *
        go_wp2_with go_quiet (fail)
        have hb9 : ∀ q, Below w1.heap.size w1 (w2.drewN q) := fun q => HBa.out.trans ((below_drewN (Below.refl _ w2) q).mono HBa.out.size)
        have hr9 : ∀ q, RangeAt Try.prog 49 (w2.drewN q) bm w.heap.size f (fun v => L v ∧ v ≠ .int .u16 x) cnt1 := fun q => HR1.out.exc (S := fun _ => False) (Exc.of_below (hb9 q)) (fun h => h) (fun h => h)
        refine ⟨⟨_, cnt1, num, hr9 _, ?_, rfl, HB1.out.trans ((hb9 _).mono HB1.out.size)⟩, by rw [(hr9 _).leftN]; exact HM.out⟩
        have hst := HStep.out
        rw [if_neg (by rw [HHit.out, HXN.out]; simp)] at hst
        exact hst
      · have hxn1 : (x != n) = true := by simpa using hxn
        have HXN := Lib.hid hxn
        clear hxn
        go_upto_region 5 with fail
        have c0 : (w1.alloc (.cells #[.int .i64 u, .int .i64 t] 66)).cell? ⟨cb, 0, none⟩ = some (.int .i64 c.base) := cell_low HBa.out HC0.out
        have hOa := HOa.out
        have hBa := HBa.out
        obtain ⟨ob, hob⟩ : ∃ b, b = w1.heap.size := ⟨_, rfl⟩
        rw [← hob] at hOa ⊢
        generalize w1.alloc (.cells #[.int .i64 u, .int .i64 t] 66) = w2 at hOa hBa c0 ⊢
        have HB2 := Lib.hid hBa
        have a0 := hOa.cell 0 (by simp)
        have a1 := hOa.cell 1 (by simp)
        simp only [List.getD_cons_zero, List.getD_cons_succ] at a0 a1
        clear hOa hBa hob HOa HC0 HBa
        go_still_tail 10, (by kernel_rfl)
        change wpList _ _ _ _ _ w2.drew
        go_wp2_with fail
        refine (HLow.out _).mono ?_
        rintro e w3 ⟨rfl, hb3⟩
        have HB3 : Hid (Below w1.heap.size w1 w3) := Lib.hid ((HB2.out.trans ((below_drewN (Below.refl _ w2) 1).mono HB2.out.size)).trans (hb3.mono HB2.out.size))
        clear hb3 a0 a1 c0
        by_cases hlo : 0 < lo
        · have HLo := Lib.hid hlo
          go_wp2
          have hr9 : RangeAt Try.prog 49 w3 bm w.heap.size f (fun v => L v ∧ v ≠ .int .u16 x) cnt1 := HR1.out.exc (S := fun _ => False) (Exc.of_below HB3.out) (fun h => h) (fun h => h)
          refine ⟨⟨_, cnt1, num + 1, hr9, ?_, by go_num, HB1.out.trans (HB3.out.mono HB1.out.size)⟩, by rw [hr9.leftN]; exact HM.out⟩
          have hst := HStep.out
          rw [if_pos ⟨HDom.out, by rw [HHit.out, decide_eq_true HXN.out, decide_eq_true HLo.out]; rfl⟩] at hst
          exact hst
        · have HLo := Lib.hid hlo
          have hlo1 : decide (0 < lo) = false := decide_eq_false hlo
          go_wp2
          have hr9 : RangeAt Try.prog 49 w3 bm w.heap.size f (fun v => L v ∧ v ≠ .int .u16 x) cnt1 := HR1.out.exc (S := fun _ => False) (Exc.of_below HB3.out) (fun h => h) (fun h => h)
          refine ⟨⟨_, cnt1, num, hr9, ?_, rfl, HB1.out.trans (HB3.out.mono HB1.out.size)⟩, by rw [hr9.leftN]; exact HM.out⟩
          have hst := HStep.out
          rw [if_neg (by rw [HHit.out]; have h9 := HLo.out; simp; omega)] at hst
          exact hst
set_option maxHeartbeats 1000000 in
set_option maxRecDepth 100000 in
theorem clevel_nul (a : Option Addr) (now n : Int) (w : World) (h : NulC w a) : Calls Try.prog 17 #[.pointer a, .int .i64 now, .int .u16 n] w fun e w' => e = .returned (.int .i64 0) ∧ w = w' := by
  have HE := Lib.hid (cisNone_nul a w h)
  clear h
  go_enter Try.func17, Try.ntmps17
  go_wp2_with fail
  with_reducible refine HE.out.mono ?_
  rintro e w' ⟨rfl, rfl⟩
  go_wp2
  go_ret
  exact ⟨rfl, rfl⟩
set_option maxHeartbeats 1000000 in
set_option maxRecDepth 100000 in
theorem clevel_any {cb bm : Nat} {c : Ct} (now n : Int) (w : World) (h : CtAt w cb bm c) (hnow : (Lit.int .i64 now).wf = true) (hn : (Lit.int .u16 n).wf = true) :
    Calls Try.prog 17 #[.pointer (some ⟨cb, 0, none⟩), .int .i64 now, .int .u16 n] w fun e w' => e = .returned (.int .i64 (lowM (c.R n) now c.base)) ∧ Below w.heap.size w w' := by
  obtain ⟨g0, g1⟩ := h.cells
  have HE := Lib.hid (cisNone_any w h)
  have hm1 : RecAt w.drew bm c.R := h.map.exc (Exc.of_below (S := fun _ => False) (below_drewN (Below.refl _ w) 1)) (fun h => h)
  have hl := hm1.run hn
  clear hm1
  have HLow : Hid (∀ W, Calls Try.prog 24 #[.agg #[.int .i64 (seen (c.R n)).1, .int .i64 (seen (c.R n)).2], .int .i64 now, .int .i64 c.base] W fun e w' => e = .returned (.int .i64 (lowM (c.R n) now c.base)) ∧ Below W.heap.size W w') := Lib.hid (fun W => by
    have h1 := lowered_any (seen (c.R n)).1 (seen (c.R n)).2 now c.base W (by unfold seen; split; exact ⟨by simp, by simp⟩; exact h.lev n) (by unfold seen; split; (show (Lit.int .i64 0).wf = true); decide; exact h.tick n) hnow h.base
    rw [show ((seen (c.R n)).1, (seen (c.R n)).2) = seen (c.R n) from rfl, lowM_seen _ _ _ h.base.1] at h1
    exact h1)
  obtain ⟨u, hu⟩ : ∃ u, u = (seen (c.R n)).1 := ⟨_, rfl⟩
  obtain ⟨t, ht⟩ : ∃ u, u = (seen (c.R n)).2 := ⟨_, rfl⟩
  obtain ⟨q, hq⟩ : ∃ u, u = lowM (c.R n) now c.base := ⟨_, rfl⟩
  rw [← hu, ← ht] at hl HLow
  rw [← hq] at HLow ⊢
  obtain ⟨B, hB⟩ : ∃ B, B = c.base := ⟨_, rfl⟩
  rw [← hB] at g0 HLow
  clear h hu ht hq hnow hn hB
  go_enter Try.func17, Try.ntmps17
  go_wp2_with fail
  with_reducible refine HE.out.mono ?_
  rintro e w' ⟨rfl, rfl⟩
  go_upto_region 3 with fail
  go_still_tail 11, (by kernel_rfl)
  change wpList _ _ _ _ _ w.drew
  go_wp2_with fail
  refine (HLow.out _).mono ?_
  rintro e w3 ⟨rfl, hb3⟩
  have HB3 : Hid (Below w.heap.size w w3) := Lib.hid ((below_drewN (Below.refl _ w) 1).trans hb3)
  clear hb3
  go_wp2
  go_ret
  exact ⟨rfl, HB3.out⟩
end Go.Proofs.Ytahkmadapojjkaa
