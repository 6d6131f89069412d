/- Contracts: a pair of ends: good. -/
import Derived.Test.YtdjnflfcolpccaaBaAct
import Derived.Test.YtdjnflfcolpccaaBaLists
import Derived.Test.YtdjnflfcolpccaaBaMsg
namespace Go.Proofs.Ytdjnflfcolpccaa
open Go.RowKit

theorem TakAt.mat {w : World} {col : Nat → Nat} {g : Option Nat} {a : Option Addr} {c : Nat} {ls : List (List Int)} (h : TakAt w col g a c ls) : Mat w (fun _ => True) true a ls.length ls.length ls := by
  obtain ⟨vs, hb, hr⟩ := h
  refine ⟨rfl, Nat.le_refl _, Nat.le_trans hb.le hb.max, ?_, fun hn => ?_⟩
  · by_cases h0 : ls.length = 0
    · exact .inl h0
    · obtain ⟨k, o, ha, hg, hc⟩ := hb.cell (by omega)
      refine .inr ⟨k, o, ha, trivial, fun i hi => ⟨_, hc i (by omega), ?_⟩⟩
      have e : ls[i]? = some (ls.getD i []) := by simp [List.getD_eq_getElem?_getD, hi]
      exact (hr i _ e).mono (fun _ _ _ => trivial) (.inr fun _ _ => trivial)
  · rcases hb.lies with ⟨_, _, h3⟩ | ⟨k, o, rs, h1, _⟩
    · have := hb.le; omega
    · rw [h1] at hn; cases hn
theorem PairAt.c6 {I : EndFace} {w : World} {p : Nat} {st : PSt} {L : PLay} (h : PairAt I w p st L) : w.cell? ⟨p, 6, none⟩ = some (.slice L.d0 st.t0.length L.q0) := h.own.cell 6 (by simp [pairCells])
theorem PairAt.c7 {I : EndFace} {w : World} {p : Nat} {st : PSt} {L : PLay} (h : PairAt I w p st L) : w.cell? ⟨p, 7, none⟩ = some (.slice L.d1 st.t1.length L.q1) := h.own.cell 7 (by simp [pairCells])
theorem klist_mat (a b : Nat) (W : World) (hab : a ≤ b) (hb : b ≤ 1000000) :
    Calls Try.prog 22 #[.int .i64 (a : Int), .int .i64 (b : Int)] W fun e w' => ∃ x c, e = .returned (.slice x (b - a) c) ∧ Mat w' (fun _ => True) false x (b - a) c (listL a b) ∧ Below W.heap.size W w' := by
  refine (klist_any a b W hab hb).mono ?_
  rintro e w' ⟨⟨x, c, rfl, hm⟩, hB⟩
  exact ⟨x, c, rfl, hm.weak (fun _ _ => trivial), hB⟩
set_option maxHeartbeats 4000000 in
set_option maxRecDepth 100000 in
theorem good0_yes (I : EndFace) (w : World) (p : Nat) (st : PSt) (L : PLay) (n : Nat) (h : PairAt I w p st L) (hn : n ≤ st.n1) (hg : st.n1 ≤ 100000) (ht : st.t0 = listL 0 n) (hacc : st.x0.acc = num n) (hah : st.x1.ahead (num n) ≤ st.x1.una.length) (hre : st.x1.rest (num n) = listL n st.n1) :
    Calls Try.prog 25 #[.pointer (some ⟨p, 0, none⟩), .int .i64 0] w fun e w' => e = .returned (.bool true) ∧ Below w.heap.size w w' := by
  have hlen : st.t0.length = n := by rw [ht, listL_length]; rfl
  have hm := h.k0.mat
  have hq : n ≤ L.q0 := by obtain ⟨vs, hb, _⟩ := h.k0; have := hb.le; omega
  have hqm : L.q0 ≤ maxLen := by obtain ⟨vs, hb, _⟩ := h.k0; exact hb.max
  unfold maxLen at hqm
  rw [hlen, ht] at hm
  have hS : ∀ W, Below w.heap.size w W → Below w.heap.size w W ∧ W.cell? ⟨p, 0, none⟩ = some (.pointer (some ⟨L.b0, 0, none⟩)) ∧ W.cell? ⟨p, 1, none⟩ = some (.pointer (some ⟨L.b1, 0, none⟩)) ∧ W.cell? ⟨p, 5, none⟩ = some (.int .i64 (st.n1 : Int)) ∧ W.cell? ⟨p, 6, none⟩ = some (.slice L.d0 n L.q0) :=
    fun W hb => ⟨hb, (h.later hb).c0, (h.later hb).c1, (h.later hb).c5, by rw [← hlen]; exact (h.later hb).c6⟩
  have hL1 : ∀ W, Calls Try.prog 22 #[.int .i64 0, .int .i64 (n : Int)] W fun e w' => ∃ x c, e = .returned (.slice x n c) ∧ Mat w' (fun _ => True) false x n c (listL 0 n) ∧ Below W.heap.size W w' := fun W => klist_mat 0 n W (Nat.zero_le _) (by omega)
  have hL2 : ∀ W, Calls Try.prog 22 #[.int .i64 (n : Int), .int .i64 (st.n1 : Int)] W fun e w' => ∃ x c, e = .returned (.slice x (st.n1 - n) c) ∧ Mat w' (fun _ => True) false x (st.n1 - n) c (listL n st.n1) ∧ Below W.heap.size W w' := fun W => klist_mat n st.n1 W hn (by omega)
  have hla : ∀ W, Below w.heap.size w W → Calls Try.prog 21 #[.pointer (some ⟨L.b0, 0, none⟩)] W fun e w' => e = .returned (.int .u8 ((num n : Nat) : Int)) ∧ ∃ q, w' = W.drewN q := fun W hb => by rw [← hacc]; exact I.last (h.later hb).e0
  have hnu : ∀ W, Calls Try.prog 14 #[.int .i64 (n : Int)] W fun e w' => e = .returned (.int .u8 ((num n : Nat) : Int)) ∧ W = w' := fun W => knum_any n W (by omega)
  have hrt : ∀ W, Below w.heap.size w W → Calls Try.prog 19 #[.pointer (some ⟨L.b1, 0, none⟩), .int .u8 ((num n : Nat) : Int)] W fun e w' => ∃ a, e = .returned (.tuple #[.slice a (st.n1 - n) (st.n1 - n), .int .i64 0]) ∧ Mat w' (fun _ => True) true a (st.n1 - n) (st.n1 - n) (listL n st.n1) ∧ Below W.heap.size W w' := fun W hb => by
    refine (I.retrieve (h.later hb).e1 (num_lt n) hah).mono ?_
    rintro e w' ⟨⟨a, N, rfl, hmm⟩, hB⟩
    rw [hre] at hmm
    obtain rfl : st.n1 - n = N := by rw [← hmm.len, listL_length]
    exact ⟨a, rfl, hmm.weak (fun _ _ => trivial), hB⟩
  have hp := h.own.lt
  have hS0 := hS w (Below.refl _ _)
  have HS := Lib.hid hS
  have HL1 := Lib.hid hL1
  have HL2 := Lib.hid hL2
  have HLa := Lib.hid hla
  have HNu := Lib.hid hnu
  have HRt := Lib.hid hrt
  have HM := Lib.hid hm
  have c6 := hS0.2.2.2.2
  clear hS hL1 hL2 hla hnu hrt hm h hS0 hlen ht hacc hah hre
  go_enter Try.func25, Try.ntmps25
  go_wp2_with fail
  have hS0 := HS.out w (Below.refl _ _)
  clear c6
  have ew0 : IntKind.i64.wrap ((1 : Int) - 0) = 1 := by decide
  have ew1 : IntKind.i64.wrap (1 : Int) = 1 := by decide
  have b0 : (0 : Int) ≤ (n : Int) := by omega
  have b1 : (n : Int) ≤ (L.q0 : Int) := by omega
  have b2 : (L.q0 : Int) ≤ 9223372036854775807 := by omega
  have b3 : ¬ ((st.n1 : Int) < (n : Int)) := by omega
  have b4 : decide ((st.n1 : Int) < (n : Int)) = false := by simp; omega
  have b5 : (n : Int) ≤ (st.n1 : Int) := by omega
  go_region_held3 (fun W => Below w.heap.size w W ∧ W.cell? ⟨p, 0, none⟩ = some (.pointer (some ⟨L.b0, 0, none⟩)) ∧ W.cell? ⟨p, 1, none⟩ = some (.pointer (some ⟨L.b1, 0, none⟩)) ∧ W.cell? ⟨p, 5, none⟩ = some (.int .i64 (st.n1 : Int)) ∧ W.cell? ⟨p, 6, none⟩ = some (.slice L.d0 n L.q0)) (first | assumption | exact HS.out _ (below_draw _ _) | exact HS.out _ (Below.refl _ _) | exact HS.out _ (Below.trans hS1.1 (Below.mono (below_draw _ _) hS1.1.size)))
    (first
      | (go_at_call 22; ((with_reducible refine (HL1.out _).mono ?_); rintro e w1 ⟨lx, lc, rfl, hm1, hb1⟩); have hS1 := HS.out _ (Below.trans (And.left (by assumption)) (Below.mono hb1 (Below.size (And.left (by assumption))))); have HM1 := Lib.hid hm1; clear hm1 hb1)
      | (go_at_call 17; ((with_reducible refine (lists_same _ _ _ _ _ _ _ _ _ (HM.out.later hS1.1) HM1.out).mono ?_); rintro e w2 ⟨rfl, q2, rfl⟩); have hS2 := HS.out _ (hS1.1.trans (Below.mono (below_draw _ q2) hS1.1.size)))
      | (go_at_call 21; ((with_reducible refine (HLa.out _ (And.left (by assumption))).mono ?_); rintro e w3 ⟨rfl, q3, rfl⟩); have hS3 := HS.out _ (hS2.1.trans (Below.mono (below_draw _ q3) hS2.1.size)))
      | (go_at_call 14; ((with_reducible refine (HNu.out _).mono ?_); rintro e w4 ⟨rfl, rfl⟩))
      | fail)
  have hS4 := HS.out (w1.drewN (q2 + q3)) (Below.trans hS1.1 (Below.mono (below_draw _ _) hS1.1.size))
  clear hS0 hS1 hS2 hS3 HM1
  generalize w1.drewN (q2 + q3) = W4 at hS4 ⊢
  go_wp2_with fail
  go_region_held3 (fun W => Below w.heap.size w W ∧ W.cell? ⟨p, 0, none⟩ = some (.pointer (some ⟨L.b0, 0, none⟩)) ∧ W.cell? ⟨p, 1, none⟩ = some (.pointer (some ⟨L.b1, 0, none⟩)) ∧ W.cell? ⟨p, 5, none⟩ = some (.int .i64 (st.n1 : Int)) ∧ W.cell? ⟨p, 6, none⟩ = some (.slice L.d0 n L.q0)) (first | assumption | exact HS.out _ (Below.trans hS4.1 (Below.mono (below_draw _ _) hS4.1.size)))
    (first
      | (go_at_call 21; ((with_reducible refine (HLa.out _ (And.left (by assumption))).mono ?_); rintro e w5 ⟨rfl, q5, rfl⟩); have hS5 := HS.out _ (Below.trans (And.left (by assumption)) (Below.mono (below_draw _ q5) (Below.size (And.left (by assumption))))))
      | (go_at_call 19; ((with_reducible refine (HRt.out _ (And.left (by assumption))).mono ?_); rintro e w6 ⟨ra, rfl, hm6, hb6⟩); have hS6 := HS.out _ (Below.trans hS4.1 (Below.mono (Below.trans (below_draw _ _) hb6) hS4.1.size)); have HM6 := Lib.hid hm6; clear hm6 hb6)
      | fail)
  clear hS4 hS5
  go_wp2_with fail
  refine (HL2.out _).mono ?_
  rintro e w7 ⟨lx7, lc7, rfl, hm7, hb7⟩
  have hS7 := HS.out _ (Below.trans hS6.1 (Below.mono hb7 hS6.1.size))
  have HM7 := Lib.hid hm7
  have HM8 := Lib.hid (Mat.later HM6.out hb7)
  clear hS6 hm7 hb7 HM6
  go_wp2_with fail
  refine (lists_same _ _ _ _ _ _ _ _ _ HM8.out HM7.out).mono ?_
  rintro e w8 ⟨rfl, q8, rfl⟩
  have hS8 := HS.out _ (hS7.1.trans (Below.mono (below_draw _ q8) hS7.1.size))
  clear hS7 HM7 HM8
  go_wp2_with fail
  go_ret
  exact ⟨rfl, hS8.1⟩
set_option maxHeartbeats 4000000 in
set_option maxRecDepth 100000 in
theorem good1_yes (I : EndFace) (w : World) (p : Nat) (st : PSt) (L : PLay) (n : Nat) (h : PairAt I w p st L) (hn : n ≤ st.n0) (hg : st.n0 ≤ 100000) (ht : st.t1 = listL 0 n) (hacc : st.x1.acc = num n) (hah : st.x0.ahead (num n) ≤ st.x0.una.length) (hre : st.x0.rest (num n) = listL n st.n0) :
    Calls Try.prog 25 #[.pointer (some ⟨p, 0, none⟩), .int .i64 1] w fun e w' => e = .returned (.bool true) ∧ Below w.heap.size w w' := by
  have hlen : st.t1.length = n := by rw [ht, listL_length]; rfl
  have hm := h.k1.mat
  have hq : n ≤ L.q1 := by obtain ⟨vs, hb, _⟩ := h.k1; have := hb.le; omega
  have hqm : L.q1 ≤ maxLen := by obtain ⟨vs, hb, _⟩ := h.k1; exact hb.max
  unfold maxLen at hqm
  rw [hlen, ht] at hm
  have hS : ∀ W, Below w.heap.size w W → Below w.heap.size w W ∧ W.cell? ⟨p, 0, none⟩ = some (.pointer (some ⟨L.b0, 0, none⟩)) ∧ W.cell? ⟨p, 1, none⟩ = some (.pointer (some ⟨L.b1, 0, none⟩)) ∧ W.cell? ⟨p, 4, none⟩ = some (.int .i64 (st.n0 : Int)) ∧ W.cell? ⟨p, 7, none⟩ = some (.slice L.d1 n L.q1) :=
    fun W hb => ⟨hb, (h.later hb).c0, (h.later hb).c1, (h.later hb).c4, by rw [← hlen]; exact (h.later hb).c7⟩
  have hL1 : ∀ W, Calls Try.prog 22 #[.int .i64 0, .int .i64 (n : Int)] W fun e w' => ∃ x c, e = .returned (.slice x n c) ∧ Mat w' (fun _ => True) false x n c (listL 0 n) ∧ Below W.heap.size W w' := fun W => klist_mat 0 n W (Nat.zero_le _) (by omega)
  have hL2 : ∀ W, Calls Try.prog 22 #[.int .i64 (n : Int), .int .i64 (st.n0 : Int)] W fun e w' => ∃ x c, e = .returned (.slice x (st.n0 - n) c) ∧ Mat w' (fun _ => True) false x (st.n0 - n) c (listL n st.n0) ∧ Below W.heap.size W w' := fun W => klist_mat n st.n0 W hn (by omega)
  have hla : ∀ W, Below w.heap.size w W → Calls Try.prog 21 #[.pointer (some ⟨L.b1, 0, none⟩)] W fun e w' => e = .returned (.int .u8 ((num n : Nat) : Int)) ∧ ∃ q, w' = W.drewN q := fun W hb => by rw [← hacc]; exact I.last (h.later hb).e1
  have hnu : ∀ W, Calls Try.prog 14 #[.int .i64 (n : Int)] W fun e w' => e = .returned (.int .u8 ((num n : Nat) : Int)) ∧ W = w' := fun W => knum_any n W (by omega)
  have hrt : ∀ W, Below w.heap.size w W → Calls Try.prog 19 #[.pointer (some ⟨L.b0, 0, none⟩), .int .u8 ((num n : Nat) : Int)] W fun e w' => ∃ a, e = .returned (.tuple #[.slice a (st.n0 - n) (st.n0 - n), .int .i64 0]) ∧ Mat w' (fun _ => True) true a (st.n0 - n) (st.n0 - n) (listL n st.n0) ∧ Below W.heap.size W w' := fun W hb => by
    refine (I.retrieve (h.later hb).e0 (num_lt n) hah).mono ?_
    rintro e w' ⟨⟨a, N, rfl, hmm⟩, hB⟩
    rw [hre] at hmm
    obtain rfl : st.n0 - n = N := by rw [← hmm.len, listL_length]
    exact ⟨a, rfl, hmm.weak (fun _ _ => trivial), hB⟩
  have hp := h.own.lt
  have hS0 := hS w (Below.refl _ _)
  have HS := Lib.hid hS
  have HL1 := Lib.hid hL1
  have HL2 := Lib.hid hL2
  have HLa := Lib.hid hla
  have HNu := Lib.hid hnu
  have HRt := Lib.hid hrt
  have HM := Lib.hid hm
  have c6 := hS0.2.2.2.2
  clear hS hL1 hL2 hla hnu hrt hm h hS0 hlen ht hacc hah hre
  go_enter Try.func25, Try.ntmps25
  go_wp2_with fail
  have hS0 := HS.out w (Below.refl _ _)
  clear c6
  have ew0 : IntKind.i64.wrap ((1 : Int) - 1) = 0 := by decide
  have ew1 : IntKind.i64.wrap (0 : Int) = 0 := by decide
  have b0 : (0 : Int) ≤ (n : Int) := by omega
  have b1 : (n : Int) ≤ (L.q1 : Int) := by omega
  have b2 : (L.q1 : Int) ≤ 9223372036854775807 := by omega
  have b3 : ¬ ((st.n0 : Int) < (n : Int)) := by omega
  have b4 : decide ((st.n0 : Int) < (n : Int)) = false := by simp; omega
  have b5 : (n : Int) ≤ (st.n0 : Int) := by omega
  go_region_held3 (fun W => Below w.heap.size w W ∧ W.cell? ⟨p, 0, none⟩ = some (.pointer (some ⟨L.b0, 0, none⟩)) ∧ W.cell? ⟨p, 1, none⟩ = some (.pointer (some ⟨L.b1, 0, none⟩)) ∧ W.cell? ⟨p, 4, none⟩ = some (.int .i64 (st.n0 : Int)) ∧ W.cell? ⟨p, 7, none⟩ = some (.slice L.d1 n L.q1)) (first | assumption | exact HS.out _ (below_draw _ _) | exact HS.out _ (Below.refl _ _) | exact HS.out _ (Below.trans hS1.1 (Below.mono (below_draw _ _) hS1.1.size)))
    (first
      | (go_at_call 22; ((with_reducible refine (HL1.out _).mono ?_); rintro e w1 ⟨lx, lc, rfl, hm1, hb1⟩); have hS1 := HS.out _ (Below.trans (And.left (by assumption)) (Below.mono hb1 (Below.size (And.left (by assumption))))); have HM1 := Lib.hid hm1; clear hm1 hb1)
      | (go_at_call 17; ((with_reducible refine (lists_same _ _ _ _ _ _ _ _ _ (HM.out.later hS1.1) HM1.out).mono ?_); rintro e w2 ⟨rfl, q2, rfl⟩); have hS2 := HS.out _ (hS1.1.trans (Below.mono (below_draw _ q2) hS1.1.size)))
      | (go_at_call 21; ((with_reducible refine (HLa.out _ (And.left (by assumption))).mono ?_); rintro e w3 ⟨rfl, q3, rfl⟩); have hS3 := HS.out _ (hS2.1.trans (Below.mono (below_draw _ q3) hS2.1.size)))
      | (go_at_call 14; ((with_reducible refine (HNu.out _).mono ?_); rintro e w4 ⟨rfl, rfl⟩))
      | fail)
  have hS4 := HS.out (w1.drewN (q2 + q3)) (Below.trans hS1.1 (Below.mono (below_draw _ _) hS1.1.size))
  clear hS0 hS1 hS2 hS3 HM1
  generalize w1.drewN (q2 + q3) = W4 at hS4 ⊢
  go_wp2_with fail
  go_region_held3 (fun W => Below w.heap.size w W ∧ W.cell? ⟨p, 0, none⟩ = some (.pointer (some ⟨L.b0, 0, none⟩)) ∧ W.cell? ⟨p, 1, none⟩ = some (.pointer (some ⟨L.b1, 0, none⟩)) ∧ W.cell? ⟨p, 4, none⟩ = some (.int .i64 (st.n0 : Int)) ∧ W.cell? ⟨p, 7, none⟩ = some (.slice L.d1 n L.q1)) (first | assumption | exact HS.out _ (Below.trans hS4.1 (Below.mono (below_draw _ _) hS4.1.size)))
    (first
      | (go_at_call 21; ((with_reducible refine (HLa.out _ (And.left (by assumption))).mono ?_); rintro e w5 ⟨rfl, q5, rfl⟩); have hS5 := HS.out _ (Below.trans (And.left (by assumption)) (Below.mono (below_draw _ q5) (Below.size (And.left (by assumption))))))
      | (go_at_call 19; ((with_reducible refine (HRt.out _ (And.left (by assumption))).mono ?_); rintro e w6 ⟨ra, rfl, hm6, hb6⟩); have hS6 := HS.out _ (Below.trans hS4.1 (Below.mono (Below.trans (below_draw _ _) hb6) hS4.1.size)); have HM6 := Lib.hid hm6; clear hm6 hb6)
      | fail)
  clear hS4 hS5
  go_wp2_with fail
  refine (HL2.out _).mono ?_
  rintro e w7 ⟨lx7, lc7, rfl, hm7, hb7⟩
  have hS7 := HS.out _ (Below.trans hS6.1 (Below.mono hb7 hS6.1.size))
  have HM7 := Lib.hid hm7
  have HM8 := Lib.hid (Mat.later HM6.out hb7)
  clear hS6 hm7 hb7 HM6
  go_wp2_with fail
  refine (lists_same _ _ _ _ _ _ _ _ _ HM8.out HM7.out).mono ?_
  rintro e w8 ⟨rfl, q8, rfl⟩
  have hS8 := HS.out _ (hS7.1.trans (Below.mono (below_draw _ q8) hS7.1.size))
  clear hS7 HM7 HM8
  go_wp2_with fail
  go_ret
  exact ⟨rfl, hS8.1⟩
end Go.Proofs.Ytdjnflfcolpccaa
