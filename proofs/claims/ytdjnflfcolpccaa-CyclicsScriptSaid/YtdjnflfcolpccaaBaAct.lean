/- Contracts: a pair of ends: act. -/
import Derived.Test.YtdjnflfcolpccaaBaSend
import Derived.Test.YtdjnflfcolpccaaBaBring
import Derived.Test.YtdjnflfcolpccaaBaStart
namespace Go.Proofs.Ytdjnflfcolpccaa
open Go.RowKit

theorem wrap_bit {a k : Int} (ha : 0 ≤ a) (hb : a ≤ 255) (hk : a % 2 = k) : wrap64 (bits BinOp.and IntKind.u8 a 1) = k := by
  rw [and_one_u8 a ha hb, hk]
  have : k = 0 ∨ k = 1 := by omega
  rcases this with rfl | rfl <;> simp [wrap64]
theorem act_send {w : World} {p : Nat} {a k : Int} {P : World → Prop} (ha : 0 ≤ a) (hb : a ≤ 255) (hk : a % 2 = k) (ht : a / 2 % 8 = 2 ∨ a / 2 % 8 = 3 ∨ a / 2 % 8 = 4)
    (hc : Calls Try.prog 40 #[.pointer (some ⟨p, 0, none⟩), .int .i64 k] w fun e w' => e = .returned (.tuple #[]) ∧ P w') :
    Calls Try.prog 24 #[.pointer (some ⟨p, 0, none⟩), .int .u8 a] w fun e w' => e = .returned (.tuple #[]) ∧ P w' := by
  have HC := Lib.hid hc
  have hw := wrap_bit ha hb hk
  have HW := Lib.hid hw
  clear hc hw
  rcases ht with ht | ht | ht
  all_goals
    go_enter Try.func24, Try.ntmps24
    go_wp2_with fail
    all_goals first
      | (exfalso; first | exact absurd ‹(a / 2 % 8 == 0) = true› (by rw [ht]; decide) | exact absurd ‹(a / 2 % 8 == 1) = true› (by rw [ht]; decide) | exact absurd ‹(a / 2 % 8 == 2) = true› (by rw [ht]; decide) | exact absurd ‹(a / 2 % 8 == 3) = true› (by rw [ht]; decide) | exact absurd ‹(a / 2 % 8 == 4) = true› (by rw [ht]; decide) | exact absurd ‹(a / 2 % 8 == 0) = false› (by rw [ht]; decide) | exact absurd ‹(a / 2 % 8 == 1) = false› (by rw [ht]; decide) | exact absurd ‹(a / 2 % 8 == 2) = false› (by rw [ht]; decide) | exact absurd ‹(a / 2 % 8 == 3) = false› (by rw [ht]; decide) | exact absurd ‹(a / 2 % 8 == 4) = false› (by rw [ht]; decide))
      | (rw [HW.out]
         refine HC.out.mono ?_
         rintro e w1 ⟨rfl, hP⟩
         go_wp2_with fail
         go_end0
         exact ⟨rfl, hP⟩)
theorem act_bring {w : World} {p : Nat} {a k : Int} {P : World → Prop} (ha : 0 ≤ a) (hb : a ≤ 255) (hk : a % 2 = k) (ht : a / 2 % 8 = 5 ∨ a / 2 % 8 = 6 ∨ a / 2 % 8 = 7)
    (hc : Calls Try.prog 41 #[.pointer (some ⟨p, 0, none⟩), .int .i64 k, .bool (decide (128 ≤ a))] w fun e w' => e = .returned (.tuple #[]) ∧ P w') :
    Calls Try.prog 24 #[.pointer (some ⟨p, 0, none⟩), .int .u8 a] w fun e w' => e = .returned (.tuple #[]) ∧ P w' := by
  have HC := Lib.hid hc
  have hw := wrap_bit ha hb hk
  have HW := Lib.hid hw
  clear hc hw
  rcases ht with ht | ht | ht
  all_goals
    go_enter Try.func24, Try.ntmps24
    go_wp2_with fail
    all_goals first
      | (exfalso; first | exact absurd ‹(a / 2 % 8 == 0) = true› (by rw [ht]; decide) | exact absurd ‹(a / 2 % 8 == 1) = true› (by rw [ht]; decide) | exact absurd ‹(a / 2 % 8 == 2) = true› (by rw [ht]; decide) | exact absurd ‹(a / 2 % 8 == 3) = true› (by rw [ht]; decide) | exact absurd ‹(a / 2 % 8 == 4) = true› (by rw [ht]; decide) | exact absurd ‹(a / 2 % 8 == 0) = false› (by rw [ht]; decide) | exact absurd ‹(a / 2 % 8 == 1) = false› (by rw [ht]; decide) | exact absurd ‹(a / 2 % 8 == 2) = false› (by rw [ht]; decide) | exact absurd ‹(a / 2 % 8 == 3) = false› (by rw [ht]; decide) | exact absurd ‹(a / 2 % 8 == 4) = false› (by rw [ht]; decide))
      | (rw [HW.out]
         refine HC.out.mono ?_
         rintro e w1 ⟨rfl, hP⟩
         go_wp2_with fail
         go_end0
         exact ⟨rfl, hP⟩)
theorem PairAt.c0 {I : EndFace} {w : World} {p : Nat} {st : PSt} {L : PLay} (h : PairAt I w p st L) : w.cell? ⟨p, 0, none⟩ = some (.pointer (some ⟨L.b0, 0, none⟩)) := h.own.cell 0 (by simp [pairCells])
theorem PairAt.c1 {I : EndFace} {w : World} {p : Nat} {st : PSt} {L : PLay} (h : PairAt I w p st L) : w.cell? ⟨p, 1, none⟩ = some (.pointer (some ⟨L.b1, 0, none⟩)) := h.own.cell 1 (by simp [pairCells])
theorem PairAt.c4 {I : EndFace} {w : World} {p : Nat} {st : PSt} {L : PLay} (h : PairAt I w p st L) : w.cell? ⟨p, 4, none⟩ = some (.int .i64 (st.n0 : Int)) := h.own.cell 4 (by simp [pairCells])
theorem PairAt.c5 {I : EndFace} {w : World} {p : Nat} {st : PSt} {L : PLay} (h : PairAt I w p st L) : w.cell? ⟨p, 5, none⟩ = some (.int .i64 (st.n1 : Int)) := h.own.cell 5 (by simp [pairCells])
set_option maxHeartbeats 4000000 in
set_option maxRecDepth 100000 in
theorem act_give0 (I : EndFace) (w : World) (p : Nat) (st : PSt) (L : PLay) (a : Int) (h : PairAt I w p st L) (ha : 0 ≤ a) (hb : a ≤ 255) (hk : a % 2 = 0) (ht : a / 2 % 8 = 0 ∨ a / 2 % 8 = 1) (hf : st.x0.failed = false) (hn : st.n0 ≤ 100000) (hq : st.x0.que.length < 64) :
    Calls Try.prog 24 #[.pointer (some ⟨p, 0, none⟩), .int .u8 a] w fun e w' => e = .returned (.tuple #[]) ∧ (∃ L', L'.B = L.B ∧ PairAt I w' p { st with x0 := st.x0.accept (loadK st.n0), n0 := st.n0 + 1 } L') ∧ Below L.B w w' := by
  have hw := wrap_bit ha hb hk
  have hp := h.own.lt
  have hacc : ∀ (w1 : World) (g m c : Nat), Below w.heap.size w w1 → (m = mlen st.n0 ∧ w.heap.size ≤ g ∧ Row .u8 w1 (some ⟨g, 0, none⟩) m c (loadK st.n0)) → Calls Try.prog 8 #[.pointer (some ⟨L.b0, 0, none⟩), .slice (some ⟨g, 0, none⟩) m c] w1 fun e w' => e = .returned (.int .i64 0) ∧ ∃ S', I.At w' L.b0 S' (st.x0.accept (loadK st.n0)) ∧ Turn L.S0 w1 S' w' :=
    fun w1 g m c hb1 ho1 => I.accept (h.later hb1).e0 hf hq ho1.2.2 (by rw [ho1.1]; exact mlen_ge _) (by rw [ho1.1]; exact Nat.le_trans (mlen_le _) (by decide)) (fun z hz hs => by cases hz; exact absurd (Nat.lt_of_le_of_lt ho1.2.1 (I.lt h.e0 _ hs)) (Nat.lt_irrefl _))
  have hps : ¬ L.S0 p := fun hs => by have h5 := h.s0 p hs; rw [h.cp] at h5; omega
  have HA := Lib.hid hacc
  have HM := Lib.hid fun w => kmsg_acc st.n0 w (by omega)
  have HPS := Lib.hid hps
  have HW := Lib.hid hw
  have H := Lib.hid h
  have HF := Lib.hid (And.intro hf hq)
  have c0 := h.c0
  have c4 := h.c4
  clear hacc hps hw h hf hq
  rcases ht with ht | ht
  all_goals
    go_enter Try.func24, Try.ntmps24
    go_wp2_with fail
    all_goals try (exfalso; first | exact absurd ‹(a / 2 % 8 == 0) = true› (by rw [ht]; decide) | exact absurd ‹(a / 2 % 8 == 1) = true› (by rw [ht]; decide) | exact absurd ‹(a / 2 % 8 == 2) = true› (by rw [ht]; decide) | exact absurd ‹(a / 2 % 8 == 3) = true› (by rw [ht]; decide) | exact absurd ‹(a / 2 % 8 == 4) = true› (by rw [ht]; decide) | exact absurd ‹(a / 2 % 8 == 0) = false› (by rw [ht]; decide) | exact absurd ‹(a / 2 % 8 == 1) = false› (by rw [ht]; decide) | exact absurd ‹(a / 2 % 8 == 2) = false› (by rw [ht]; decide) | exact absurd ‹(a / 2 % 8 == 3) = false› (by rw [ht]; decide) | exact absurd ‹(a / 2 % 8 == 4) = false› (by rw [ht]; decide))
    rw [HW.out]
    go_region_held3 (fun W => W.cell? ⟨p, 0, none⟩ = some (.pointer (some ⟨L.b0, 0, none⟩)) ∧ W.cell? ⟨p, 4, none⟩ = some (.int .i64 (st.n0 : Int))) (first | go_keep | assumption)
      (first
        | (go_at_call 9; ((with_reducible refine (HM.out _).mono ?_); rintro e w1 ⟨⟨g1, m1, k1, rfl, ho1⟩, hb1'⟩); have hb1 : Below w.heap.size w w1 := Below.trans (below_draw w 1) hb1'; have k0 := (H.out.later hb1).c0; have k4 := (H.out.later hb1).c4; have HB1 := Lib.hid hb1; have ho2 : m1 = mlen st.n0 ∧ w.heap.size ≤ g1 ∧ Row .u8 w1 (some ⟨g1, 0, none⟩) m1 k1 (loadK st.n0) := ho1; have HO1 := Lib.hid ho2; clear hb1 hb1' ho1 ho2)
        | (go_at_call 8; ((with_reducible refine (HA.out _ _ _ _ HB1.out HO1.out).mono ?_); rintro e w2 ⟨rfl, S', ha2, ht2⟩); have m0 := ht2.exc.cell (p := ⟨p, 0, none⟩) (by exact (H.out.later HB1.out).c0) HPS.out; have m4 := ht2.exc.cell (p := ⟨p, 4, none⟩) (by exact (H.out.later HB1.out).c4) HPS.out; have HA2 := Lib.hid ha2; have HT2 := Lib.hid ht2; clear ha2 ht2)
        | fail)
    have h2 := (H.out.later HB1.out).turn0 HA2.out HT2.out
    have hB2 : Below L.B w w2 := Below.trans (Below.mono HB1.out H.out.lowB) ((H.out.later HB1.out).below HT2.out.exc (fun k _ hk => by rw [H.out.s0 k hk]; decide))
    have g4 := h2.c4
    have f4 := h2.own.frozen 4
    have H2 := Lib.hid h2
    have HB2 := Lib.hid hB2
    have hn0 : (0 : Int) ≤ (st.n0 : Int) := by omega
    have hn1 : (st.n0 : Int) ≤ 100000 := by omega
    clear h2 hB2 m0 m4 k0 k4 c0 c4
    go_wp2_with fail
    go_region
    generalize hW5 : (w2.setCell ⟨p, 4, none⟩ _).drew = W5
    have hx25 : Exc (fun k => k = p) w2 W5 := by rw [← hW5]; exact ((Exc.refl (fun k => k = p) w2).setCell ⟨p, 4, none⟩ (.inl rfl) _).drawN 1
    have ho5 := H2.out.own.set 4 (.int .i64 ((st.n0 : Int) + 1))
    have ho5' : Own W5 p 69 ((pairCells { st with x0 := st.x0.accept (loadK st.n0) } { L with S0 := S', col := recol L.col w1.heap.size S' 1 }).set 4 (.int .i64 ((st.n0 : Int) + 1))) := by rw [← hW5]; exact Own.drewK ho5
    have hP5 := H2.out.redo (st' := { st with x0 := st.x0.accept (loadK st.n0), n0 := st.n0 + 1 }) hx25 (by
      have e : pairCells { st with x0 := st.x0.accept (loadK st.n0), n0 := st.n0 + 1 } { L with S0 := S', col := recol L.col w1.heap.size S' 1 } = (pairCells { st with x0 := st.x0.accept (loadK st.n0) } { L with S0 := S', col := recol L.col w1.heap.size S' 1 }).set 4 (.int .i64 ((st.n0 : Int) + 1)) := by simp [pairCells]
      rw [e]; exact ho5') rfl rfl rfl rfl rfl rfl rfl
    have hB5 := H2.out.below hx25 (fun k _ hk => by rw [hk, H2.out.cp]; decide)
    have HP := Lib.hid hP5
    have HB5 := Lib.hid (HB2.out.trans hB5)
    clear hP5 hB5 ho5 ho5' hx25 hW5
    (try simp only [Exit.inBlock])
    go_end0
    refine ⟨rfl, ⟨_, ?_, HP.out⟩, HB5.out⟩
    rfl
set_option maxHeartbeats 4000000 in
set_option maxRecDepth 100000 in
theorem act_full0 (I : EndFace) (w : World) (p : Nat) (st : PSt) (L : PLay) (a : Int) (h : PairAt I w p st L) (ha : 0 ≤ a) (hb : a ≤ 255) (hk : a % 2 = 0) (ht : a / 2 % 8 = 0 ∨ a / 2 % 8 = 1) (hf : st.x0.failed = false) (hn : st.n0 ≤ 100000) (hq : st.x0.que.length = 64) :
    Calls Try.prog 24 #[.pointer (some ⟨p, 0, none⟩), .int .u8 a] w fun e w' => e = .returned (.tuple #[]) ∧ (∃ L', L'.B = L.B ∧ PairAt I w' p st L') ∧ Below L.B w w' := by
  have hw := wrap_bit ha hb hk
  have hp := h.own.lt
  have hacc : ∀ (w1 : World) (g m c : Nat), Below w.heap.size w w1 → (m = mlen st.n0 ∧ w.heap.size ≤ g ∧ Row .u8 w1 (some ⟨g, 0, none⟩) m c (loadK st.n0)) → Calls Try.prog 8 #[.pointer (some ⟨L.b0, 0, none⟩), .slice (some ⟨g, 0, none⟩) m c] w1 fun e w' => e = .returned (.int .i64 9) ∧ ∃ S', I.At w' L.b0 S' st.x0 ∧ Turn L.S0 w1 S' w' :=
    fun w1 g m c hb1 ho1 => I.acceptFull (h.later hb1).e0 hf hq ho1.2.2 (by rw [ho1.1]; exact mlen_ge _) (by rw [ho1.1]; exact Nat.le_trans (mlen_le _) (by decide)) (fun z hz hs => by cases hz; exact absurd (Nat.lt_of_le_of_lt ho1.2.1 (I.lt h.e0 _ hs)) (Nat.lt_irrefl _))
  have hps : ¬ L.S0 p := fun hs => by have h5 := h.s0 p hs; rw [h.cp] at h5; omega
  have HA := Lib.hid hacc
  have HM := Lib.hid fun w => kmsg_acc st.n0 w (by omega)
  have HPS := Lib.hid hps
  have HW := Lib.hid hw
  have H := Lib.hid h
  have HF := Lib.hid (And.intro hf hq)
  have c0 := h.c0
  have c4 := h.c4
  clear hacc hps hw h hf hq
  rcases ht with ht | ht
  all_goals
    go_enter Try.func24, Try.ntmps24
    go_wp2_with fail
    all_goals try (exfalso; first | exact absurd ‹(a / 2 % 8 == 0) = true› (by rw [ht]; decide) | exact absurd ‹(a / 2 % 8 == 1) = true› (by rw [ht]; decide) | exact absurd ‹(a / 2 % 8 == 2) = true› (by rw [ht]; decide) | exact absurd ‹(a / 2 % 8 == 3) = true› (by rw [ht]; decide) | exact absurd ‹(a / 2 % 8 == 4) = true› (by rw [ht]; decide) | exact absurd ‹(a / 2 % 8 == 0) = false› (by rw [ht]; decide) | exact absurd ‹(a / 2 % 8 == 1) = false› (by rw [ht]; decide) | exact absurd ‹(a / 2 % 8 == 2) = false› (by rw [ht]; decide) | exact absurd ‹(a / 2 % 8 == 3) = false› (by rw [ht]; decide) | exact absurd ‹(a / 2 % 8 == 4) = false› (by rw [ht]; decide))
    rw [HW.out]
    go_region_held3 (fun W => W.cell? ⟨p, 0, none⟩ = some (.pointer (some ⟨L.b0, 0, none⟩)) ∧ W.cell? ⟨p, 4, none⟩ = some (.int .i64 (st.n0 : Int))) (first | go_keep | assumption)
      (first
        | (go_at_call 9; ((with_reducible refine (HM.out _).mono ?_); rintro e w1 ⟨⟨g1, m1, k1, rfl, ho1⟩, hb1'⟩); have hb1 : Below w.heap.size w w1 := Below.trans (below_draw w 1) hb1'; have k0 := (H.out.later hb1).c0; have k4 := (H.out.later hb1).c4; have HB1 := Lib.hid hb1; have ho2 : m1 = mlen st.n0 ∧ w.heap.size ≤ g1 ∧ Row .u8 w1 (some ⟨g1, 0, none⟩) m1 k1 (loadK st.n0) := ho1; have HO1 := Lib.hid ho2; clear hb1 hb1' ho1 ho2)
        | (go_at_call 8; ((with_reducible refine (HA.out _ _ _ _ HB1.out HO1.out).mono ?_); rintro e w2 ⟨rfl, S', ha2, ht2⟩); have m0 := ht2.exc.cell (p := ⟨p, 0, none⟩) (by exact (H.out.later HB1.out).c0) HPS.out; have m4 := ht2.exc.cell (p := ⟨p, 4, none⟩) (by exact (H.out.later HB1.out).c4) HPS.out; have HA2 := Lib.hid ha2; have HT2 := Lib.hid ht2; clear ha2 ht2)
        | fail)
    have h2 := (H.out.later HB1.out).turn0 HA2.out HT2.out
    have hB2 : Below L.B w w2 := Below.trans (Below.mono HB1.out H.out.lowB) ((H.out.later HB1.out).below HT2.out.exc (fun k _ hk => by rw [H.out.s0 k hk]; decide))
    have H2 := Lib.hid h2
    have HB2 := Lib.hid hB2
    clear h2 hB2 m0 m4 k0 k4 c0 c4
    go_wp2_with fail
    (try simp only [Exit.inBlock, Exit.then])
    go_end0
    refine ⟨rfl, ⟨_, ?_, H2.out⟩, HB2.out⟩
    rfl
set_option maxHeartbeats 4000000 in
set_option maxRecDepth 100000 in
theorem act_give1 (I : EndFace) (w : World) (p : Nat) (st : PSt) (L : PLay) (a : Int) (h : PairAt I w p st L) (ha : 0 ≤ a) (hb : a ≤ 255) (hk : a % 2 = 1) (ht : a / 2 % 8 = 0 ∨ a / 2 % 8 = 1) (hf : st.x1.failed = false) (hn : st.n1 ≤ 100000) (hq : st.x1.que.length < 64) :
    Calls Try.prog 24 #[.pointer (some ⟨p, 0, none⟩), .int .u8 a] w fun e w' => e = .returned (.tuple #[]) ∧ (∃ L', L'.B = L.B ∧ PairAt I w' p { st with x1 := st.x1.accept (loadK st.n1), n1 := st.n1 + 1 } L') ∧ Below L.B w w' := by
  have hw := wrap_bit ha hb hk
  have hp := h.own.lt
  have hacc : ∀ (w1 : World) (g m c : Nat), Below w.heap.size w w1 → (m = mlen st.n1 ∧ w.heap.size ≤ g ∧ Row .u8 w1 (some ⟨g, 0, none⟩) m c (loadK st.n1)) → Calls Try.prog 8 #[.pointer (some ⟨L.b1, 0, none⟩), .slice (some ⟨g, 0, none⟩) m c] w1 fun e w' => e = .returned (.int .i64 0) ∧ ∃ S', I.At w' L.b1 S' (st.x1.accept (loadK st.n1)) ∧ Turn L.S1 w1 S' w' :=
    fun w1 g m c hb1 ho1 => I.accept (h.later hb1).e1 hf hq ho1.2.2 (by rw [ho1.1]; exact mlen_ge _) (by rw [ho1.1]; exact Nat.le_trans (mlen_le _) (by decide)) (fun z hz hs => by cases hz; exact absurd (Nat.lt_of_le_of_lt ho1.2.1 (I.lt h.e1 _ hs)) (Nat.lt_irrefl _))
  have hps : ¬ L.S1 p := fun hs => by have h5 := h.s1 p hs; rw [h.cp] at h5; omega
  have HA := Lib.hid hacc
  have HM := Lib.hid fun w => kmsg_acc st.n1 w (by omega)
  have HPS := Lib.hid hps
  have HW := Lib.hid hw
  have H := Lib.hid h
  have HF := Lib.hid (And.intro hf hq)
  have c0 := h.c1
  have c4 := h.c5
  clear hacc hps hw h hf hq
  rcases ht with ht | ht
  all_goals
    go_enter Try.func24, Try.ntmps24
    go_wp2_with fail
    all_goals try (exfalso; first | exact absurd ‹(a / 2 % 8 == 0) = true› (by rw [ht]; decide) | exact absurd ‹(a / 2 % 8 == 1) = true› (by rw [ht]; decide) | exact absurd ‹(a / 2 % 8 == 2) = true› (by rw [ht]; decide) | exact absurd ‹(a / 2 % 8 == 3) = true› (by rw [ht]; decide) | exact absurd ‹(a / 2 % 8 == 4) = true› (by rw [ht]; decide) | exact absurd ‹(a / 2 % 8 == 0) = false› (by rw [ht]; decide) | exact absurd ‹(a / 2 % 8 == 1) = false› (by rw [ht]; decide) | exact absurd ‹(a / 2 % 8 == 2) = false› (by rw [ht]; decide) | exact absurd ‹(a / 2 % 8 == 3) = false› (by rw [ht]; decide) | exact absurd ‹(a / 2 % 8 == 4) = false› (by rw [ht]; decide))
    rw [HW.out]
    go_region_held3 (fun W => W.cell? ⟨p, 1, none⟩ = some (.pointer (some ⟨L.b1, 0, none⟩)) ∧ W.cell? ⟨p, 5, none⟩ = some (.int .i64 (st.n1 : Int))) (first | go_keep | assumption)
      (first
        | (go_at_call 9; ((with_reducible refine (HM.out _).mono ?_); rintro e w1 ⟨⟨g1, m1, k1, rfl, ho1⟩, hb1'⟩); have hb1 : Below w.heap.size w w1 := Below.trans (below_draw w 1) hb1'; have k0 := (H.out.later hb1).c1; have k4 := (H.out.later hb1).c5; have HB1 := Lib.hid hb1; have ho2 : m1 = mlen st.n1 ∧ w.heap.size ≤ g1 ∧ Row .u8 w1 (some ⟨g1, 0, none⟩) m1 k1 (loadK st.n1) := ho1; have HO1 := Lib.hid ho2; clear hb1 hb1' ho1 ho2)
        | (go_at_call 8; ((with_reducible refine (HA.out _ _ _ _ HB1.out HO1.out).mono ?_); rintro e w2 ⟨rfl, S', ha2, ht2⟩); have m0 := ht2.exc.cell (p := ⟨p, 1, none⟩) (by exact (H.out.later HB1.out).c1) HPS.out; have m4 := ht2.exc.cell (p := ⟨p, 5, none⟩) (by exact (H.out.later HB1.out).c5) HPS.out; have HA2 := Lib.hid ha2; have HT2 := Lib.hid ht2; clear ha2 ht2)
        | fail)
    have h2 := (H.out.later HB1.out).turn1 HA2.out HT2.out
    have hB2 : Below L.B w w2 := Below.trans (Below.mono HB1.out H.out.lowB) ((H.out.later HB1.out).below HT2.out.exc (fun k _ hk => by rw [H.out.s1 k hk]; decide))
    have g4 := h2.c5
    have f4 := h2.own.frozen 5
    have H2 := Lib.hid h2
    have HB2 := Lib.hid hB2
    have hn0 : (0 : Int) ≤ (st.n1 : Int) := by omega
    have hn1 : (st.n1 : Int) ≤ 100000 := by omega
    clear h2 hB2 m0 m4 k0 k4 c0 c4
    go_wp2_with fail
    go_region
    generalize hW5 : (w2.setCell ⟨p, 5, none⟩ _).drew = W5
    have hx25 : Exc (fun k => k = p) w2 W5 := by rw [← hW5]; exact ((Exc.refl (fun k => k = p) w2).setCell ⟨p, 5, none⟩ (.inl rfl) _).drawN 1
    have ho5 := H2.out.own.set 5 (.int .i64 ((st.n1 : Int) + 1))
    have ho5' : Own W5 p 69 ((pairCells { st with x1 := st.x1.accept (loadK st.n1) } { L with S1 := S', col := recol L.col w1.heap.size S' 2 }).set 5 (.int .i64 ((st.n1 : Int) + 1))) := by rw [← hW5]; exact Own.drewK ho5
    have hP5 := H2.out.redo (st' := { st with x1 := st.x1.accept (loadK st.n1), n1 := st.n1 + 1 }) hx25 (by
      have e : pairCells { st with x1 := st.x1.accept (loadK st.n1), n1 := st.n1 + 1 } { L with S1 := S', col := recol L.col w1.heap.size S' 2 } = (pairCells { st with x1 := st.x1.accept (loadK st.n1) } { L with S1 := S', col := recol L.col w1.heap.size S' 2 }).set 5 (.int .i64 ((st.n1 : Int) + 1)) := by simp [pairCells]
      rw [e]; exact ho5') rfl rfl rfl rfl rfl rfl rfl
    have hB5 := H2.out.below hx25 (fun k _ hk => by rw [hk, H2.out.cp]; decide)
    have HP := Lib.hid hP5
    have HB5 := Lib.hid (HB2.out.trans hB5)
    clear hP5 hB5 ho5 ho5' hx25 hW5
    (try simp only [Exit.inBlock])
    go_end0
    refine ⟨rfl, ⟨_, ?_, HP.out⟩, HB5.out⟩
    rfl
set_option maxHeartbeats 4000000 in
set_option maxRecDepth 100000 in
theorem act_full1 (I : EndFace) (w : World) (p : Nat) (st : PSt) (L : PLay) (a : Int) (h : PairAt I w p st L) (ha : 0 ≤ a) (hb : a ≤ 255) (hk : a % 2 = 1) (ht : a / 2 % 8 = 0 ∨ a / 2 % 8 = 1) (hf : st.x1.failed = false) (hn : st.n1 ≤ 100000) (hq : st.x1.que.length = 64) :
    Calls Try.prog 24 #[.pointer (some ⟨p, 0, none⟩), .int .u8 a] w fun e w' => e = .returned (.tuple #[]) ∧ (∃ L', L'.B = L.B ∧ PairAt I w' p st L') ∧ Below L.B w w' := by
  have hw := wrap_bit ha hb hk
  have hp := h.own.lt
  have hacc : ∀ (w1 : World) (g m c : Nat), Below w.heap.size w w1 → (m = mlen st.n1 ∧ w.heap.size ≤ g ∧ Row .u8 w1 (some ⟨g, 0, none⟩) m c (loadK st.n1)) → Calls Try.prog 8 #[.pointer (some ⟨L.b1, 0, none⟩), .slice (some ⟨g, 0, none⟩) m c] w1 fun e w' => e = .returned (.int .i64 9) ∧ ∃ S', I.At w' L.b1 S' st.x1 ∧ Turn L.S1 w1 S' w' :=
    fun w1 g m c hb1 ho1 => I.acceptFull (h.later hb1).e1 hf hq ho1.2.2 (by rw [ho1.1]; exact mlen_ge _) (by rw [ho1.1]; exact Nat.le_trans (mlen_le _) (by decide)) (fun z hz hs => by cases hz; exact absurd (Nat.lt_of_le_of_lt ho1.2.1 (I.lt h.e1 _ hs)) (Nat.lt_irrefl _))
  have hps : ¬ L.S1 p := fun hs => by have h5 := h.s1 p hs; rw [h.cp] at h5; omega
  have HA := Lib.hid hacc
  have HM := Lib.hid fun w => kmsg_acc st.n1 w (by omega)
  have HPS := Lib.hid hps
  have HW := Lib.hid hw
  have H := Lib.hid h
  have HF := Lib.hid (And.intro hf hq)
  have c0 := h.c1
  have c4 := h.c5
  clear hacc hps hw h hf hq
  rcases ht with ht | ht
  all_goals
    go_enter Try.func24, Try.ntmps24
    go_wp2_with fail
    all_goals try (exfalso; first | exact absurd ‹(a / 2 % 8 == 0) = true› (by rw [ht]; decide) | exact absurd ‹(a / 2 % 8 == 1) = true› (by rw [ht]; decide) | exact absurd ‹(a / 2 % 8 == 2) = true› (by rw [ht]; decide) | exact absurd ‹(a / 2 % 8 == 3) = true› (by rw [ht]; decide) | exact absurd ‹(a / 2 % 8 == 4) = true› (by rw [ht]; decide) | exact absurd ‹(a / 2 % 8 == 0) = false› (by rw [ht]; decide) | exact absurd ‹(a / 2 % 8 == 1) = false› (by rw [ht]; decide) | exact absurd ‹(a / 2 % 8 == 2) = false› (by rw [ht]; decide) | exact absurd ‹(a / 2 % 8 == 3) = false› (by rw [ht]; decide) | exact absurd ‹(a / 2 % 8 == 4) = false› (by rw [ht]; decide))
    rw [HW.out]
    go_region_held3 (fun W => W.cell? ⟨p, 1, none⟩ = some (.pointer (some ⟨L.b1, 0, none⟩)) ∧ W.cell? ⟨p, 5, none⟩ = some (.int .i64 (st.n1 : Int))) (first | go_keep | assumption)
      (first
        | (go_at_call 9; ((with_reducible refine (HM.out _).mono ?_); rintro e w1 ⟨⟨g1, m1, k1, rfl, ho1⟩, hb1'⟩); have hb1 : Below w.heap.size w w1 := Below.trans (below_draw w 1) hb1'; have k0 := (H.out.later hb1).c1; have k4 := (H.out.later hb1).c5; have HB1 := Lib.hid hb1; have ho2 : m1 = mlen st.n1 ∧ w.heap.size ≤ g1 ∧ Row .u8 w1 (some ⟨g1, 0, none⟩) m1 k1 (loadK st.n1) := ho1; have HO1 := Lib.hid ho2; clear hb1 hb1' ho1 ho2)
        | (go_at_call 8; ((with_reducible refine (HA.out _ _ _ _ HB1.out HO1.out).mono ?_); rintro e w2 ⟨rfl, S', ha2, ht2⟩); have m0 := ht2.exc.cell (p := ⟨p, 1, none⟩) (by exact (H.out.later HB1.out).c1) HPS.out; have m4 := ht2.exc.cell (p := ⟨p, 5, none⟩) (by exact (H.out.later HB1.out).c5) HPS.out; have HA2 := Lib.hid ha2; have HT2 := Lib.hid ht2; clear ha2 ht2)
        | fail)
    have h2 := (H.out.later HB1.out).turn1 HA2.out HT2.out
    have hB2 : Below L.B w w2 := Below.trans (Below.mono HB1.out H.out.lowB) ((H.out.later HB1.out).below HT2.out.exc (fun k _ hk => by rw [H.out.s1 k hk]; decide))
    have H2 := Lib.hid h2
    have HB2 := Lib.hid hB2
    clear h2 hB2 m0 m4 k0 k4 c0 c4
    go_wp2_with fail
    (try simp only [Exit.inBlock, Exit.then])
    go_end0
    refine ⟨rfl, ⟨_, ?_, H2.out⟩, HB2.out⟩
    rfl
end Go.Proofs.Ytdjnflfcolpccaa
