/- Statement text: CyclicsCycle. -/
import Derived.Test.YtpggiajpjnegkaaCyOne
namespace Go.Proofs.Ytpggiajpjnegkaa
open Go.RowKit

/-- The model with n loads given, j of them sent. -/
def cyB (n j : Nat) : Md := ⟨127, 65535, n, j, 0, 0, false, 127, false, false, false⟩
/-- The model with n loads sent, a of them acknowledged, the place p. -/
def cyC (n p a : Nat) : Md := ⟨127, 65535, n, n, a, p, false, 127, false, false, false⟩
theorem cyB_ok {n j : Nat} (h : j ≤ n) (hn : n ≤ 60) : (cyB n j).Ok :=
  ⟨(by decide : (1 : Nat) ≤ 127), (by decide : (127 : Nat) ≤ 127), (by decide : (1 : Nat) ≤ 65535), (by decide : (65535 : Nat) ≤ 65535), Nat.le_refl _, Nat.zero_le _, h, by show j ≤ 0 + 127; omega, by show n ≤ j + 64; omega, (by decide : (127 : Nat) < 128)⟩
theorem cyC_ok {n p a : Nat} (h : a ≤ p) (hp : p ≤ n) (hn : n ≤ 60) : (cyC n p a).Ok :=
  ⟨(by decide : (1 : Nat) ≤ 127), (by decide : (127 : Nat) ≤ 127), (by decide : (1 : Nat) ≤ 65535), (by decide : (65535 : Nat) ≤ 65535), h, hp, Nat.le_refl _, by show n ≤ a + 127; omega, Nat.le_add_right _ _, (by decide : (127 : Nat) < 128)⟩
theorem cyB_lim {n j : Nat} (h : j ≤ 60) : (cyB n j).lim = false := by
  unfold Md.lim
  show (decide (127 ≤ j - 0) || decide (65535 ≤ ocs 0 (j - 0))) = false
  have := ocs_le 0 (j - 0)
  simp only [Bool.or_eq_false_iff, decide_eq_false_iff_not]
  omega
theorem cyC_lim {n p a : Nat} (h : n ≤ 60) : (cyC n p a).lim = false := by
  unfold Md.lim
  show (decide (127 ≤ n - a) || decide (65535 ≤ ocs a (n - a))) = false
  have := ocs_le a (n - a)
  simp only [Bool.or_eq_false_iff, decide_eq_false_iff_not]
  omega
theorem cyB_next {n j : Nat} (h : j < n) (hn : n ≤ 60) : (cyB n j).next = (⟨127, true, j, true, 2, 0, loadK j⟩, cyB n (j + 1)) := by
  rw [Md.free_next (cyB_lim (by omega)) rfl]
  unfold Md.go
  rw [if_pos ⟨rfl, h⟩]
  show ((⟨127, true, num (j + 1), true, 2, 0, loadK j⟩ : Un), _) = _
  rw [num_fore (by omega)]
  rfl
theorem cyC_next {n p a i : Nat} (ha : a < n) (hp : p ≤ n) (hn : n ≤ 60) (hi : i = if p = n then a else p) : (cyC n p a).next = (⟨127, true, i, true, 2, 0, loadK i⟩, cyC n (i + 1) a) := by
  rw [Md.free_next (cyC_lim hn) rfl]
  have hi' : (cyC n p a).idx = i := hi.symm
  have hin : i < n := by rw [hi]; split <;> omega
  unfold Md.go
  rw [if_neg (fun hh => absurd hh.2 (Nat.lt_irrefl _)), if_pos (show (cyC n p a).acked < (cyC n p a).sent from ha), hi']
  show ((⟨127, true, num (i + 1), true, 2, 0, loadK i⟩ : Un), _) = _
  rw [num_fore (by omega)]
  rfl
theorem cyB_run {n : Nat} (hn : n ≤ 60) : ∀ k, k ≤ n → runE (cyB n 0).en k = (cyB n k).en
  | 0, _ => rfl
  | k + 1, h => by
    show (runE (cyB n 0).en k).next.2 = _
    rw [cyB_run hn k (by omega), Md.next_en (cyB_ok (by omega) hn), cyB_next (by omega) hn]
theorem cyB_kind {n : Nat} (hn : n ≤ 60) {k : Nat} (h : k < n) : (runE (cyB n 0).en k).next.1.kind = 2 := by
  rw [cyB_run hn k (by omega), Md.next_en (cyB_ok (by omega) hn), cyB_next h hn]
theorem cyC_hear {n p m : Nat} (hm : m < n) (hp : p ≤ n) (hn : n ≤ 60) : (cyC n p 0).en.hear ⟨num m, false, 127, false, 0, 0, []⟩ = (none, (cyC n (max p m) m).en) := by
  rw [Md.hear_en (cyC_ok (Nat.zero_le _) hp hn)]
  have hd : (cyC n p 0).d ⟨num m, false, 127, false, 0, 0, []⟩ = m := by
    show (num m + 128 - num 0) % 128 = m
    rw [num_diff (Nat.zero_le m) (by omega)]
    rfl
  have hw : (cyC n p 0).wrong ⟨num m, false, 127, false, 0, 0, []⟩ = false := by
    unfold Md.wrong
    rw [hd]
    show decide (n - 0 < m) = false
    rw [decide_eq_false]; omega
  have ht : (cyC n p 0).takes ⟨num m, false, 127, false, 0, 0, []⟩ = false := rfl
  unfold Md.hear
  rw [hw, ht]
  simp only [Bool.false_eq_true, if_false]
  unfold Md.ack
  rw [hd]
  show (none, (⟨127, 65535, n, n, 0 + m, max p (0 + m), false, 127, false, false, false⟩ : Md).en) = _
  rw [Nat.zero_add]
  rfl

set_option maxHeartbeats 8000000 in
set_option maxRecDepth 100000 in
theorem cycle_any (I : EndFace) (hl : LivesOk) (w : World) (a b d : Nat) (ha : a ≤ 255) (hb : b ≤ 255) (hd : d ≤ 255) :
    Calls Try.prog 8 #[.int .u8 (a : Int), .int .u8 (b : Int), .int .u8 (d : Int)] w fun e w' => e = .returned (.bool true) ∧ Below w.heap.size w w' := by
  obtain ⟨n, hn⟩ : ∃ n, n = 1 + a % 60 := ⟨_, rfl⟩
  have e1 : (1 : Int) + (a : Int) % 60 = (n : Int) := by omega
  have hn1 : 1 ≤ n := by omega
  have hn60 : n ≤ 60 := by omega
  obtain ⟨m, hm⟩ : ∃ m, m = d % n := ⟨_, rfl⟩
  have hmn : m < n := by rw [hm]; exact Nat.mod_lt _ hn1
  have e2 : (d : Int).tmod (n : Int) = (m : Int) := by rw [Int.tmod_eq_emod_of_nonneg (by omega), hm]; push_cast; rfl
  have e2b : (d : Int) % (n : Int) = (m : Int) := by rw [hm]; push_cast; rfl
  have hnz : ¬ (n : Int) = 0 := by omega
  have hnzb : ((n : Int) == 0) = false := by simp; omega
  have hnzn : ¬ n = 0 := by omega
  have hnznb : (n == 0) = false := by simp; omega
  have a0 : (0 : Int) ≤ (a : Int) := by omega
  have a1 : (a : Int) ≤ 255 := by omega
  have b0 : (0 : Int) ≤ (b : Int) := by omega
  have b1 : (b : Int) ≤ 255 := by omega
  have d0 : (0 : Int) ≤ (d : Int) := by omega
  have d1 : (d : Int) ≤ 255 := by omega
  have n0 : (0 : Int) ≤ (n : Int) := by omega
  have n1 : (n : Int) ≤ 60 := by omega
  have HL := Lib.hid hl
  have HNew := Lib.hid (one_new I w 127 65535 (by decide) (by decide) (by decide) (by decide))
  clear hl hn hm ha hd
  go_enter Try.func8, Try.ntmps8
  go_wp2_with fail
  refine HNew.out.mono ?_
  rintro e w1 ⟨⟨p, rfl, h1⟩, hb1⟩
  have H1 := Lib.hid h1
  have HB1 := Lib.hid hb1
  clear h1 hb1 HNew
  go_wp2_with fail
  go_loopw [10] (fun i wr => ∃ k : Nat, k ≤ n ∧ i = .int .i64 k ∧ OneAt I wr w.heap.size p (cyB k 0).en ∧ Below w.heap.size w wr) (fun i _ => n - (intOf i).toNat)
  case atStart => exact ⟨0, Nat.zero_le _, rfl, H1.out, HB1.out⟩
  case round =>
    obtain ⟨k, hk, rfl, h2, hb2⟩ := hrel
    clear H1 HB1
    by_cases hlt : k < n
    · have hki : (k : Int) < (n : Int) := by omega
      have HM := Lib.hid (kmsg_acc k wr (by omega))
      have H2 := Lib.hid h2
      have HB2 := Lib.hid hb2
      clear h2 hb2
      go_wp2_with fail
      refine HM.out.mono ?_
      rintro e w3 ⟨⟨g, lm, lc, rfl, hmsg⟩, hb3⟩
      have hac := one_accept H2.out hb3 rfl (by show (listL 0 k).length < 64; rw [listL_length]; omega) hmsg
      have HA := Lib.hid hac
      have HB3 := Lib.hid (HB2.out.trans (Below.mono hb3 HB2.out.size))
      clear hac hmsg hb3 HM H2 HB2
      go_wp2_with fail
      refine HA.out.mono ?_
      rintro e w4 ⟨rfl, h4, hb4⟩
      have h4' : OneAt I w4 w.heap.size p (cyB (k + 1) 0).en := by
        have e := Md.give (m := cyB k 0) (Nat.zero_le _)
        have e' : (cyB k 0).en.accept (loadK k) = (cyB (k + 1) 0).en := e
        rw [← e']; exact h4
      have H4 := Lib.hid h4'
      have HB4 := Lib.hid (HB3.out.trans hb4)
      clear h4 h4' hb4 HA HB3
      go_wp2_with fail
      exact ⟨⟨k + 1, by omega, by go_num, H4.out, HB4.out⟩, by simp [intOf]; omega⟩
    · obtain rfl : k = n := by omega
      have hki : ¬ (k : Int) < (k : Int) := by omega
      obtain ⟨n, hnk⟩ : ∃ n, n = k := ⟨_, rfl⟩
      have hf := one_fores h2 k (by omega) rfl (fun j hj => cyB_kind hn60 hj)
      rw [cyB_run hn60 k (Nat.le_refl _)] at hf
      have HF := Lib.hid hf
      have HB2 := Lib.hid hb2
      clear h2 hb2 hf hnk
      go_wp2_with fail
      refine HF.out.mono ?_
      rintro e w3 ⟨⟨fa, fc, rfl⟩, h3, hb3⟩
      have h3' : OneAt I w3 w.heap.size p (cyC k 0 0).en := h3
      have H3 := Lib.hid h3'
      have HB3 := Lib.hid (HB2.out.trans hb3)
      clear h3 h3' hb3 HF HB2
      go_wp2_with fail
      obtain ⟨w5, rfl⟩ : ∃ x, x = wr := ⟨_, rfl⟩
      go_loopw [11, 12] (fun q i wr => ∃ j pl : Nat, j ≤ b ∧ i = .int .i64 j ∧ q = .int .i64 pl ∧ pl ≤ k ∧ OneAt I wr w.heap.size p (cyC k pl 0).en ∧ Below w.heap.size w wr) (fun _ i _ => b - (intOf i).toNat)
      case atStart => exact ⟨0, 0, Nat.zero_le _, rfl, rfl, Nat.zero_le _, H3.out, HB3.out⟩
      case round =>
        obtain ⟨j, pl, hj, rfl, rfl, hpl, h4, hb4⟩ := hrel
        clear H3 HB3
        by_cases hjb : j < b
        · have hji : (j : Int) < (b : Int) := by omega
          obtain ⟨i, hi⟩ : ∃ i, i = if pl = k then 0 else pl := ⟨_, rfl⟩
          have hin : i < k := by rw [hi]; split <;> omega
          have e3 : (pl : Int).tmod (k : Int) = (i : Int) := by
            rw [Int.tmod_eq_emod_of_nonneg (by omega), hi]
            split
            · rename_i h; rw [h]; simp
            · rw [Int.emod_eq_of_lt (by omega) (by omega)]
          have e3b : (pl : Int) % (k : Int) = (i : Int) := by rw [← Int.tmod_eq_emod_of_nonneg (by omega)]; exact e3
          have hnx := one_next h4 rfl
          rw [Md.next_en (cyC_ok (Nat.zero_le _) hpl hn60), cyC_next (by omega) hpl hn60 hi] at hnx
          simp only [unCells] at hnx
          have hii : (i : Int) ≤ 60 := by omega
          have HN := Lib.hid hnx
          have HB4 := Lib.hid hb4
          clear hnx h4 hb4 hi
          go_wp2_with fail
          refine HN.out.mono ?_
          rintro e w6 ⟨⟨s, rfl, hr⟩, h6, hb6⟩
          have H6 := Lib.hid h6
          have HB6 := Lib.hid (HB4.out.trans hb6)
          clear hr h6 hb6 HN HB4
          go_wp2_with fail
          refine ⟨⟨j + 1, i + 1, by omega, by go_num, by go_num, by omega, H6.out.later (below_alloc _ _), HB6.out.trans (Below.mono (below_alloc _ _) HB6.out.size)⟩, by simp [intOf]; omega⟩
        · obtain rfl : j = b := by omega
          have hji : ¬ (j : Int) < (j : Int) := by omega
          have hks := fun W => knum_any m W (by omega)
          have hhr := fun W (hb : Below wr.heap.size wr W) => one_hear (u := ⟨num m, false, 127, false, 0, 0, []⟩) (s := none) (n := 0) (c := 0) (h4.later hb) rfl (show (0 : Nat) ≠ 1 by decide) (by rw [chk_ok]; have := num_lt m; refine ⟨?_, ?_, ?_, ?_, ?_, ?_, ?_⟩ <;> simp <;> omega) (Row.of_nil _ _) rfl (by rw [cyC_hear hmn hpl hn60]; rfl)
          have hh2 := hhr wr (Below.refl _ _)
          rw [cyC_hear hmn hpl hn60] at hh2
          simp only [unCells] at hh2
          obtain ⟨NM, hNM⟩ : ∃ x, x = num m := ⟨_, rfl⟩
          have hNM2 : NM < 128 := by rw [hNM]; exact num_lt m
          rw [← hNM] at hh2
          have hks2 : Calls Try.prog 18 #[.int .i64 (m : Int)] wr fun e w' => e = .returned (.int .u8 (NM : Int)) ∧ wr = w' := by rw [hNM]; exact hks wr
          obtain ⟨Q, hQ⟩ : ∃ Q, Q = max pl m := ⟨_, rfl⟩
          have hq1 : max (pl : Int) (m : Int) = (Q : Int) := by omega
          have hq2 : (if (pl : Int) < (m : Int) then (m : Int) else (pl : Int)) = (Q : Int) := by split <;> omega
          rw [← hQ] at hh2
          have hQm : m ≤ Q := by omega
          have hQk : Q ≤ k := by omega
          have HK := Lib.hid hks2
          have HH := Lib.hid hh2
          have HB4 := Lib.hid hb4
          clear hks hhr hh2 hks2 hNM h4 hb4 hQ
          go_wp2_with fail
          refine HK.out.mono ?_
          rintro e w6 ⟨rfl, rfl⟩
          go_wp2_with fail
          refine HH.out.mono ?_
          rintro e w7 ⟨⟨v, rfl⟩, h7, hb7⟩
          have H7 := Lib.hid h7
          have HB7 := Lib.hid (HB4.out.trans hb7)
          have hw2 : IntKind.i64.wrap (2 * (k : Int)) = ((2 * k : Nat) : Int) := by rw [IntWalk.i64_in _ (by omega)]; omega
          obtain ⟨N2, hN2⟩ : ∃ x, x = 2 * k := ⟨_, rfl⟩
          rw [← hN2] at hw2
          have hN2b : (N2 : Int) ≤ 120 := by omega
          clear h7 hb7 HK HH HB4 hN2
          go_wp2_with fail
          obtain ⟨w8, rfl⟩ : ∃ x, x = wr := ⟨_, rfl⟩
          go_loopw [11, 18] (fun q i wr => ∃ j pl : Nat, j ≤ N2 ∧ i = .int .i64 j ∧ q = .int .i64 pl ∧ m ≤ pl ∧ pl ≤ k ∧ OneAt I wr w.heap.size p (cyC k pl m).en ∧ Below w.heap.size w wr) (fun _ i _ => N2 - (intOf i).toNat)
          case atStart => exact ⟨0, Q, Nat.zero_le _, rfl, rfl, hQm, hQk, H7.out, HB7.out⟩
          case round =>
            obtain ⟨j, pl, hj, rfl, rfl, hmp, hpl, h9, hb9⟩ := hrel
            clear H7 HB7 hq1 hq2
            by_cases hjb : j < N2
            · have hji : (j : Int) < (N2 : Int) := by omega
              obtain ⟨i, hi⟩ : ∃ i, i = if pl = k then m else pl := ⟨_, rfl⟩
              have hin : i < k := by rw [hi]; split <;> omega
              have him : m ≤ i := by rw [hi]; split <;> omega
              have hnx := one_next h9 rfl
              rw [Md.next_en (cyC_ok hmp hpl hn60), cyC_next hmn hpl hn60 hi] at hnx
              simp only [unCells] at hnx
              have hii : (i : Int) ≤ 60 := by omega
              have HN := Lib.hid hnx
              have HB9 := Lib.hid hb9
              clear hnx h9 hb9
              by_cases hpk : pl = k
              · have hpb : ((pl : Int) == (k : Int)) = true := by simp; omega
                obtain rfl : i = m := by rw [hi, if_pos hpk]
                clear hi hpk
                go_wp2_with fail
                refine HN.out.mono ?_
                rintro e w6 ⟨⟨s, rfl, hr⟩, h6, hb6⟩
                have H6 := Lib.hid h6
                have HB6 := Lib.hid (HB9.out.trans hb6)
                clear hr h6 hb6 HN HB9
                go_wp2_with fail
                refine ⟨⟨j + 1, i + 1, by omega, by go_num, by go_num, by omega, by omega, H6.out.later (below_alloc _ _), HB6.out.trans (Below.mono (below_alloc _ _) HB6.out.size)⟩, by simp [intOf]; omega⟩
              · have hpb : ((pl : Int) == (k : Int)) = false := by simp; omega
                obtain rfl : i = pl := by rw [hi, if_neg hpk]
                clear hi hpk
                go_wp2_with fail
                refine HN.out.mono ?_
                rintro e w6 ⟨⟨s, rfl, hr⟩, h6, hb6⟩
                have H6 := Lib.hid h6
                have HB6 := Lib.hid (HB9.out.trans hb6)
                clear hr h6 hb6 HN HB9
                go_wp2_with fail
                refine ⟨⟨j + 1, i + 1, by omega, by go_num, by go_num, by omega, by omega, H6.out.later (below_alloc _ _), HB6.out.trans (Below.mono (below_alloc _ _) HB6.out.size)⟩, by simp [intOf]; omega⟩
            · obtain rfl : j = N2 := by omega
              have hji : ¬ (j : Int) < (j : Int) := by omega
              have HB9 := Lib.hid hb9
              clear h9 hb9
              go_wp2_with fail
              refine (HL.out _).mono ?_
              rintro e w9 ⟨rfl, hb9⟩
              have HBX := Lib.hid (HB9.out.trans (Below.mono hb9 HB9.out.size))
              clear hb9
              go_wp2
              go_ret
              exact ⟨rfl, HBX.out⟩
end Go.Proofs.Ytpggiajpjnegkaa
