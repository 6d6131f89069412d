/- The walk of SumsBursts. -/
import Derived.Test.YtkalpjccfknopaaDoorSumsLives
import Derived.Test.YtkalpjccfknopaaDoorSumsChanged
namespace Go.Proofs.YtkalpjccfknopaaDoor
open Go.RowKit

theorem burst_len (N p v m : Nat) : (Crc.burst N p v m).length ≤ m := by
  induction m with
  | zero => simp [Crc.burst]
  | succ m ih =>
    rw [Crc.burst, List.length_append]
    split <;> simp <;> omega
theorem ofN_wf64 {l : List Nat} (h : ∀ x ∈ l, x < 100000) : ∀ x ∈ ofN l, (Lit.int .i64 x).wf = true := by
  intro x hx
  simp only [ofN, List.mem_map] at hx
  obtain ⟨y, hy, rfl⟩ := hx
  have := h y hy
  exact wf_i64.2 (by simp; omega)
set_option maxHeartbeats 4000000 in
set_option maxRecDepth 100000 in
theorem sumsBursts_walk (a : Option Addr) (n c : Nat) (l : List Int) (at_ : Int) (bu : Int) (w : World) (hbeh : BehindOk w) (h : Row .u8 w a n c l) (hat : (Lit.int .u16 at_).wf = true) (hbu : (Lit.int .u16 bu).wf = true) :
    Calls Tryd.prog 7 #[.slice a n c, .int .u16 at_, .int .u16 bu] w fun e w' => e = .returned (.bool true) ∧ Below w.heap.size w w' := by
  have BB0 := Lib.hid (Below.refl w.heap.size w)
  have HB0 := Lib.hid hbeh
  have RX := Lib.hid h
  have hcm := h.max
  have hle := h.le
  unfold maxLen at hcm
  obtain ⟨hat0, hat1⟩ := wf_u16.1 hat
  obtain ⟨P, rfl⟩ := Int.eq_ofNat_of_zero_le hat0
  obtain ⟨hbu0, hbu1⟩ := wf_u16.1 hbu
  obtain ⟨V, rfl⟩ := Int.eq_ofNat_of_zero_le hbu0
  by_cases hbig : 280 < n
  · clear h hbeh
    go_enter Tryd.func7, Tryd.ntmps7
    go_wp2_with fail
    refine (lives_any _ HB0.out).mono ?_
    rintro e w11 ⟨rfl, hb⟩
    have BB12 := Lib.hid (BB0.out.trans ((hb).mono BB0.out.size))
    clear hb BB0 HB0
    go_wp2
    go_ret
    exact ⟨rfl, BB12.out⟩
  · have hoct := h.octs
    have hll := h.len
    obtain ⟨N, hN⟩ : ∃ N, N = 8 * (n + 2) := ⟨_, rfl⟩
    have hN0 : 0 < N := by omega
    have hN1 : N ≤ 2256 := by omega
    obtain ⟨p, hp⟩ : ∃ p, p = P % N := ⟨_, rfl⟩
    have hpN : p < N := by rw [hp]; exact Nat.mod_lt _ hN0
    have hpi : (P : Int) % (N : Int) = (p : Int) := by rw [hp]; omega
    have hNi : 8 * ((n : Int) + 2) = (N : Int) := by omega
    have HOct := Lib.hid hoct
    have HLL := Lib.hid hll
    have HN := Lib.hid hN
    clear h hbeh hoct hll hN hp BB0
    go_enter Tryd.func7, Tryd.ntmps7
    go_wp2
    go_loopw [8, 9] (fun u kk wr => ∃ k : Nat, k ≤ 16 ∧ kk = .int .i64 k ∧ Below w.heap.size w wr ∧ wr.ownsRow w.heap.size 3 1 u (Crc.burst N p V k).length (nums .i64 (ofN (Crc.burst N p V k)))) (fun _ kk _ => 16 - (intOf kk).toNat)
    case atStart => exact ⟨0, by omega, rfl, Below.refl _ _, by simpa [nums, ofN, Crc.burst] using World.ownsRow_nil w w.heap.size 3 1⟩
    case round =>
      obtain ⟨k, hk, rfl, hbel, hown⟩ := hrel
      by_cases hlt : k < 16
      · have hbl := burst_len N p V k
        have hnat : ((V : Int) / 2 ^ k) = ((V / 2 ^ k : Nat) : Int) := by push_cast; rfl
        have hVk : V / 2 ^ k < 65536 := Nat.lt_of_le_of_lt (Nat.div_le_self _ _) (by omega)
        have hand : bits BinOp.and IntKind.u16 ((V : Int) / 2 ^ k) 1 = ((V / 2 ^ k % 2 : Nat) : Int) := by
          rw [hnat]; have h0 := u16_and_nat (V / 2 ^ k) 1 hVk (by decide); rw [show ((1 : Nat) : Int) = 1 from rfl] at h0; rw [h0, Nat.and_one_is_mod]
        have htb : V.testBit k = decide (V / 2 ^ k % 2 = 1) := Nat.testBit_eq_decide_div_mod_eq
        have hbs : Crc.burst N p V (k + 1) = Crc.burst N p V k ++ (if V.testBit k && decide (p + k < N) then [p + k] else []) := rfl
        obtain ⟨B, hB⟩ : ∃ B, B = Crc.burst N p V k := ⟨_, rfl⟩
        rw [← hB] at hown hbs hbl
        obtain ⟨m, hm⟩ : ∃ m, m = B.length := ⟨_, rfl⟩
        rw [← hm] at hown hbl
        by_cases hbit : V / 2 ^ k % 2 = 1
        · rw [hbit] at hand
          have hand : bits BinOp.and IntKind.u16 ((V : Int) / 2 ^ k) 1 = 1 := hand
          rw [hbit] at htb
          have htb : V.testBit k = true := htb
          rw [htb, Bool.true_and] at hbs
          clear hbit
          by_cases hpk : p + k < N
          · rw [decide_eq_true hpk, if_pos rfl] at hbs
            have hm16 : m ≤ 16 := by omega
            have HBs := Lib.hid hbs
            have HBel := Lib.hid hbel
            have HOwn := Lib.hid hown
            have Hm := Lib.hid hm
            have hsz := hbel.size
            clear hbs hbel hown hm hB hnat htb hVk hbl
            go_wp2_with (at_builtin; refine wpList_append_one Tryd.underlying39 info64 (by decide) rfl _ _ rfl w.heap.size _ _ _ _ rfl (by exact HOwn.out) rfl (by omega) hsz ?_)
            intro v1 W1 hown1 hgr gv1 cv1 hv1
            clear hv1
            have hb1 := HBel.out.trans (hgr.below hsz (fun j hj => (World.ownsRow.lt HOwn.out j hj).1))
            have e1 : ofN B ++ [(p : Int) + (k : Int)] = ofN (Crc.burst N p V (k + 1)) := by rw [HBs.out]; simp [ofN]
            have e2 : m + 1 = (Crc.burst N p V (k + 1)).length := by rw [HBs.out, List.length_append, ← Hm.out]; rfl
            rw [e1, e2] at hown1
            have HO1 := Lib.hid hown1
            have HB1 := Lib.hid hb1
            clear hown1 hb1 hgr e1 e2
            go_wp2
            exact ⟨⟨k + 1, by omega, by go_num, HB1.out, HO1.out⟩, by simp [intOf]; omega⟩
          · rw [decide_eq_false hpk, if_neg (by decide), List.append_nil] at hbs
            rw [hm, ← hbs] at hown
            have HBs := Lib.hid hbs
            have HBel := Lib.hid hbel
            have HOwn := Lib.hid hown
            have Hm := Lib.hid hm
            have hsz := hbel.size
            clear hbs hbel hown hm hB hnat htb hVk hbl
            go_wp2
            exact ⟨⟨k + 1, by omega, by go_num, HBel.out, HOwn.out⟩, by simp [intOf]; omega⟩
        · have hbit0 : V / 2 ^ k % 2 = 0 := by omega
          rw [hbit0] at hand
          have hand : bits BinOp.and IntKind.u16 ((V : Int) / 2 ^ k) 1 = 0 := hand
          rw [decide_eq_false hbit] at htb
          rw [htb, Bool.false_and, if_neg (by decide), List.append_nil] at hbs
          clear hbit hbit0
          rw [hm, ← hbs] at hown
          have HBs := Lib.hid hbs
          have HBel := Lib.hid hbel
          have HOwn := Lib.hid hown
          have Hm := Lib.hid hm
          have hsz := hbel.size
          clear hbs hbel hown hm hB hnat htb hVk hbl
          go_wp2
          exact ⟨⟨k + 1, by omega, by go_num, HBel.out, HOwn.out⟩, by simp [intOf]; omega⟩
      · obtain rfl : k = 16 := by omega
        have hfound := fun h => Crc.burst_found (N := N) (p := p) (v := V) (m := 16) hpN (by decide) h
        have hblt : ∀ j ∈ Crc.burst N p V 16, j < N := fun j hj => Crc.burst_lt hj
        obtain ⟨B, hB⟩ : ∃ B, B = Crc.burst N p V 16 := ⟨_, rfl⟩
        rw [← hB] at hown hfound hblt
        clear hB
        obtain ⟨m, hm⟩ : ∃ m, m = B.length := ⟨_, rfl⟩
        rw [← hm] at hown
        have hwf : ∀ x ∈ ofN B, (Lit.int .i64 x).wf = true := ofN_wf64 (fun j hj => Nat.lt_trans (hblt j hj) (by omega))
        obtain ⟨aB, cB, rfl, rB, _⟩ := ownsRow_at .i64 hown hwf
        have hlt8 : ∀ j ∈ B, j < 8 * (n + 2) := fun j hj => by have := hblt j hj; rw [HN.out] at this; exact this
        have hchk := changed_check HOct.out HLL.out hlt8
        rw [← HN.out] at hchk
        have hRX := RX.out.later hbel
        have hHB := HB0.out.later hbel
        have hcon := changed_any a n c l aB m cB B wr hHB hRX rB (by omega) hlt8
        obtain ⟨F, hF⟩ : ∃ F, F = ofN (Crc.flips (toN (addL l)) B) := ⟨_, rfl⟩
        rw [← hF] at hcon hchk
        clear hF
        have HCon := Lib.hid hcon
        have HChk := Lib.hid hchk
        have HFound := Lib.hid hfound
        have Hm := Lib.hid hm
        have BB1 := Lib.hid hbel
        have HB1 := Lib.hid hHB
        clear hcon hchk hfound hblt hlt8 hRX hHB hbel hown hwf rB HB0 hm
        by_cases hnil : B = []
        · skip
          have hz : Crc.marks N B = 0 := by rw [hnil]; rfl
          have hgood := HChk.out.2 hz
          have hm0 : m = 0 := by rw [Hm.out, hnil]; rfl
          clear hz hnil
          subst hm0
          have HG := Lib.hid hgood
          clear hgood
          go_wp2_with fail
          refine (HCon.out).mono ?_
          rintro e w21 ⟨⟨aF, cF, rfl, rF⟩, hb⟩
          have BB22 := Lib.hid (BB1.out.trans ((hb).mono BB1.out.size))
          have HB23 := Lib.hid (HB1.out.later (hb))
          have RF24 := Lib.hid (rF)
          clear hb rF BB1 HB1
          go_wp2_with fail
          refine (check_ok _ (n + 2) cF n F _ _ HB23.out RF24.out rfl (by omega) HG.out rfl).mono ?_
          rintro e w25 ⟨⟨gK, rfl, rK, oK, hgK⟩, hb⟩
          have BB26 := Lib.hid (BB22.out.trans ((hb).mono BB22.out.size))
          have HB27 := Lib.hid (HB23.out.later (hb))
          have RF28 := Lib.hid (RF24.out.later (hb))
          clear hb rK oK hgK BB22 HB23 RF24
          go_wp2_with fail
          refine (lives_any _ HB27.out).mono ?_
          rintro e w29 ⟨rfl, hb⟩
          have BB30 := Lib.hid (BB26.out.trans ((hb).mono BB26.out.size))
          clear hb BB26 HB27 RF28
          go_wp2
          go_ret
          exact ⟨rfl, BB30.out⟩
        · skip
          have hbad := fun hh => HFound.out hnil (HChk.out.1 hh)
          have hmp : 0 < m := by rw [Hm.out]; exact List.length_pos_iff.2 hnil
          have hm1 : ((m : Int) == 0) = false := by simp; omega
          clear hnil
          have HG := Lib.hid hbad
          clear hbad
          go_wp2_with fail
          refine (HCon.out).mono ?_
          rintro e w21 ⟨⟨aF, cF, rfl, rF⟩, hb⟩
          have BB22 := Lib.hid (BB1.out.trans ((hb).mono BB1.out.size))
          have HB23 := Lib.hid (HB1.out.later (hb))
          have RF24 := Lib.hid (rF)
          clear hb rF BB1 HB1
          go_wp2_with fail
          refine (check_no _ (n + 2) cF n F _ HB23.out RF24.out rfl (by omega) HG.out).mono ?_
          rintro e w' ⟨rfl, q25, rfl⟩
          have hb := below_draw w21 q25
          obtain ⟨w25, hw⟩ : ∃ x, x = (w21).drewN q25 := ⟨_, rfl⟩
          rw [← hw] at hb ⊢
          have BB26 := Lib.hid (BB22.out.trans ((hb).mono BB22.out.size))
          have HB27 := Lib.hid (HB23.out.later (hb))
          have RF28 := Lib.hid (RF24.out.later (hb))
          clear hb hw BB22 HB23 RF24
          go_wp2_with fail
          refine (lives_any _ HB27.out).mono ?_
          rintro e w29 ⟨rfl, hb⟩
          have BB30 := Lib.hid (BB26.out.trans ((hb).mono BB26.out.size))
          clear hb BB26 HB27 RF28
          go_wp2
          go_ret
          exact ⟨rfl, BB30.out⟩
end Go.Proofs.YtkalpjccfknopaaDoor
