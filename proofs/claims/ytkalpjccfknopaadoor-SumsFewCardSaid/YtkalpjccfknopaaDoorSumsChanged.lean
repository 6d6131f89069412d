/- Contracts of the statements of layer 3: changed. -/
import Derived.Test.YtkalpjccfknopaaDoorSumsN
namespace Go.Proofs.YtkalpjccfknopaaDoor
open Go.RowKit

def ofN (l : List Nat) : List Int := l.map Int.ofNat
theorem ofN_length (l : List Nat) : (ofN l).length = l.length := by simp [ofN]
theorem ofN_getD (l : List Nat) (i : Nat) : (ofN l).getD i 0 = ((l.getD i 0 : Nat) : Int) := by
  simp only [ofN, List.getD_eq_getElem?_getD, List.getElem?_map]
  cases l[i]? <;> rfl
theorem ofN_set (l : List Nat) (i v : Nat) : (ofN l).set i ((v : Nat) : Int) = ofN (l.set i v) := by simp [ofN, List.map_set]
theorem toN_ofN' (l : List Nat) : toN (ofN l) = l := by
  simp only [toN, ofN, List.map_map]
  conv => rhs; rw [← List.map_id l]
  rfl
theorem ofN_toN {l : List Int} (h : ∀ x ∈ l, 0 ≤ x ∧ x ≤ 255) : ofN (toN l) = l := toN_ofN h
theorem ofN_octs {l : List Nat} (h : ∀ x ∈ l, x < 256) : ∀ x ∈ ofN l, 0 ≤ x ∧ x ≤ 255 := by
  intro x hx
  simp only [ofN, List.mem_map] at hx
  obtain ⟨y, hy, rfl⟩ := hx
  have := h y hy
  simp
  omega
theorem flips_snoc (l ks : List Nat) (k : Nat) : Crc.flips l (ks ++ [k]) = (Crc.flips l ks).set (k / 8) ((Crc.flips l ks).getD (k / 8) 0 ^^^ 2 ^ (k % 8)) := by simp [Crc.flips]
theorem take_succ_nat {l : List Nat} {k : Nat} (h : k < l.length) : l.take (k + 1) = l.take k ++ [l.getD k 0] := by
  rw [List.take_succ_eq_append_getElem h, List.getD_eq_getElem?_getD, List.getElem?_eq_getElem h, Option.getD_some]
set_option maxHeartbeats 2000000 in
theorem changed_any (a : Option Addr) (n c : Nat) (l : List Int) (ai : Option Addr) (ni ci : Nat) (ks : List Nat) (w : World) (hb : BehindOk w) (h : Row .u8 w a n c l) (hi : Row .i64 w ai ni ci (ofN ks)) (hn : n ≤ 280) (hk : ∀ k ∈ ks, k < 8 * (n + 2)) :
    Calls Tryd.prog 20 #[.slice a n c, .slice ai ni ci] w fun e w' => (∃ a' c', e = .returned (.slice a' (n + 2) c') ∧ Row .u8 w' a' (n + 2) c' (ofN (Crc.flips (toN (addL l)) ks))) ∧ Below w.heap.size w w' := by
  have hoct := h.octs
  have hll := h.len
  have hkl : ks.length = ni := by have := hi.len; rw [ofN_length] at this; exact this
  have hile := hi.le
  have hicm := hi.max
  have hicells := hi.cells
  unfold maxLen at hicm
  obtain ⟨i0, hi0, hz0, hz1, hz2⟩ := info_parts info8
  have HI := Lib.hid hi0
  have HZ0 := Lib.hid hz0
  have HZ1 := Lib.hid hz1
  have HZ2 := Lib.hid hz2
  obtain ⟨T, hT⟩ : ∃ T, T = toN (addL l) := ⟨_, rfl⟩
  have hTlt : ∀ x ∈ T, x < 256 := by rw [hT]; exact toN_lt (addL_octs hoct)
  have hTl : T.length = n + 2 := by rw [hT, toN_length, addL_length, hll]
  have hTo : ofN T = addL l := by rw [hT]; exact ofN_toN (addL_octs hoct)
  have HT := Lib.hid hT
  have HTlt := Lib.hid hTlt
  have HTl := Lib.hid hTl
  have HTo := Lib.hid hTo
  have HK := Lib.hid hk
  have HKl := Lib.hid hkl
  have HCe := Lib.hid hicells
  have HAdd := Lib.hid (add_row a n c (n + 2) l w hb h (by omega) rfl)
  have HOct := Lib.hid hoct
  clear hi0 hz0 hz1 hz2 hoct hll hkl hi h hb hk hT hTlt hTl hTo hicells
  go_enter Tryd.func20, Tryd.ntmps20
  go_wp2_with fail
  refine (HAdd.out).mono ?_
  rintro e w1 ⟨⟨g1, rfl, r1, o1, hg1⟩, hb1⟩
  have R1 := Lib.hid r1
  have B1 := Lib.hid hb1
  have hs1 := hb1.size
  clear r1 o1 hg1 hb1 HAdd
  go_wp2_with (at_builtin; refine wpList_append_list rfl (.const (.slice none 0 0)) (.tmp 8) 23 rfl w1.heap.size 5 i0 (.int .u8 0) 1 Tryd.underlying23 HI.out HZ0.out HZ1.out HZ2.out rfl .u8 _ 0 [] rfl (World.ownsRow_nil _ _ _ _) _ (n + 2) (n + 2) (addL l) rfl R1.out ?_ ?_ (Nat.le_refl _) ?_)
  · unfold maxLen; omega
  · omega
  intro v2 w2 hown hgr
  have hb2 : Below w1.heap.size w1 w2 := (Below.refl _ _).grown hgr (Nat.le_refl _) (by simp [Value.ownBlock])
  obtain ⟨g, c3, rest, rfl, hgB, hown, hc3, hc3m⟩ := ownsRow_own2 hown (by omega)
  have hb12 := B1.out.trans (hb2.mono hs1)
  rw [← HTo.out] at hown
  have HO2 := Lib.hid hown
  have B2 := Lib.hid hb12
  have hs2 := hb12.size
  clear hown hgr hb2 hb12 R1 B1
  go_wp2
  go_loopw [6] (fun ii wr => ∃ i : Nat, i ≤ ni ∧ ii = .int .i64 i ∧ Only g w2 wr ∧ Own wr g 5 (nums .u8 (ofN (Crc.flips T (ks.take i))) ++ rest)) (fun ii _ => ni - (intOf ii).toNat)
  case atStart => exact ⟨0, Nat.zero_le _, rfl, Only.refl _ _, HO2.out⟩
  case round =>
    obtain ⟨i, hin, rfl, honly, hown⟩ := hrel
    obtain ⟨F, hF⟩ : ∃ F, F = Crc.flips T (ks.take i) := ⟨_, rfl⟩
    rw [← hF] at hown
    have hFl : F.length = n + 2 := by rw [hF, Crc.flips_length, HTl.out]
    have hFlt : ∀ x ∈ F, x < 256 := by rw [hF]; exact Crc.flips_lt HTlt.out
    have HF := Lib.hid hF
    have HFl := Lib.hid hFl
    have HFlt := Lib.hid hFlt
    clear hF hFl hFlt
    by_cases hlt : i < ni
    · obtain ⟨ib, io, rfl, hcc⟩ : ∃ p q, ai = some ⟨p, q, none⟩ ∧ ∀ j, j < ni → w.cell? ⟨p, q + j, none⟩ = some (.int .i64 ((ofN ks).getD j 0)) := by
        rcases HCe.out with h0 | ⟨b, o, ha, hc⟩
        · omega
        · exact ⟨b, o, ha, hc⟩
      have g0 := hcc i hlt
      rw [ofN_getD] at g0
      have hil : i < ks.length := by rw [HKl.out]; exact hlt
      have hPk := HK.out (ks.getD i 0) (by rw [List.getD_eq_getElem?_getD, List.getElem?_eq_getElem hil, Option.getD_some]; exact List.getElem_mem hil)
      have hts := take_succ_nat hil
      obtain ⟨P, hP⟩ : ∃ P, P = ks.getD i 0 := ⟨_, rfl⟩
      rw [← hP] at g0 hPk hts
      have hblk : ib < w.heap.size := World.block_lt_of_cell? w _ g0
      have hg4 : wr.cell? ⟨ib, io + i, none⟩ = some (.int .i64 (P : Int)) := by
        have hbw := Only.below B2.out honly hs2 (by omega)
        rw [hbw.cell (p := ⟨ib, io + i, none⟩) hblk]; exact g0
      obtain ⟨Q, hQ⟩ : ∃ Q, Q = P / 8 := ⟨_, rfl⟩
      obtain ⟨t, ht⟩ : ∃ t, t = P % 8 := ⟨_, rfl⟩
      have hQn : Q < n + 2 := by omega
      have ht8 : t < 8 := by omega
      have hcell := hown.cell Q (by rw [List.length_append, nums_length, ofN_length, HFl.out]; omega)
      have hfr := hown.frozen Q
      rw [getD_left _ _ _ _ (by rw [nums_length, ofN_length, HFl.out]; omega), nums_getD _ _ _ (by rw [ofN_length, HFl.out]; omega), ofN_getD] at hcell
      have hX8 := Crc.getD_lt HFlt.out Q
      obtain ⟨X, hX⟩ : ∃ X, X = F.getD Q 0 := ⟨_, rfl⟩
      rw [← hX] at hcell hX8
      have hd1 : (P : Int) / 8 = (Q : Int) := by omega
      have hd2 : (P : Int) % 8 = (t : Int) := by omega
      have hd3 : (P : Int).tdiv 8 = (Q : Int) := by rw [Int.tdiv_eq_ediv_of_nonneg (by omega)]; exact hd1
      have hd4 : (P : Int).tmod 8 = (t : Int) := by rw [Int.tmod_eq_emod_of_nonneg (by omega)]; exact hd2
      have hQi : (Q : Int) < (n : Int) + 2 := by omega
      have hQ0 : (0 : Int) ≤ (Q : Int) := by omega
      have hwQ : IntKind.i64.wrap (Q : Int) = (Q : Int) := IntWalk.i64_in _ (by omega)
      have hwt : IntKind.i64.wrap (t : Int) = (t : Int) := IntWalk.i64_in _ (by omega)
      have ht0 : (0 : Int) ≤ (t : Int) := by omega
      have HOwn := Lib.hid hown
      have HOnly := Lib.hid honly
      have HX := Lib.hid hX
      have HTs := Lib.hid hts
      have HQ := Lib.hid hQ
      have Ht := Lib.hid ht
      clear hown honly hX hts hP hQ ht g0 hcc
      go_wp2
      go_still_tail 22, (by kernel_rfl)
      change wpList _ _ _ _ _ wr.drew
      go_wp2
      have hv : bits BinOp.xor IntKind.u8 (X : Int) (2 ^ t % 256) = ((X ^^^ 2 ^ t : Nat) : Int) := by
        have h2 : 2 ^ t < 256 := show 2 ^ t < 2 ^ 8 from Nat.pow_lt_pow_right (by decide) ht8
        have e : ((2 : Int) ^ t % 256) = ((2 ^ t : Nat) : Int) := by
          have e1 : ((2 : Int) ^ t) = ((2 ^ t : Nat) : Int) := by push_cast; rfl
          rw [e1]
          exact Int.emod_eq_of_lt (Int.natCast_nonneg _) (show ((2 ^ t : Nat) : Int) < ((256 : Nat) : Int) from Int.ofNat_lt.2 h2)
        rw [e, u8_xor_nat X (2 ^ t) hX8 h2]
      have hn := HOwn.out.set_left Q (by rw [ofN_length, HFl.out]; exact hQn) ((X ^^^ 2 ^ t : Nat) : Int)
      have hnew : Crc.flips T (ks.take (i + 1)) = F.set Q (X ^^^ 2 ^ t) := by
        rw [HTs.out, flips_snoc, ← HF.out, ← HQ.out, ← Ht.out, ← HX.out]
      rw [ofN_set, ← hnew] at hn
      rw [hv]
      exact ⟨⟨i + 1, by omega, by go_num, (HOnly.out.setCell _ _).drew, hn.drew⟩, by simp [intOf]; omega⟩
    · obtain rfl : i = ni := by omega
      have hbw := Only.below B2.out honly hs2 (by omega)
      have hall : ks.take i = ks := List.take_of_length_le (by rw [HKl.out]; exact Nat.le_refl _)
      rw [hall] at HF
      have hrow : Row .u8 wr (some ⟨g, 0, none⟩) (n + 2) c3 (ofN F) := by
        refine ⟨by rw [ofN_length, HFl.out], hc3, by unfold maxLen; omega, fun x hx => wf_u8.2 (ofN_octs HFlt.out x hx), .inr ⟨g, 0, rfl, fun m hm => ?_⟩, by simp⟩
        have hcc := hown.cell m (by rw [List.length_append, nums_length, ofN_length, HFl.out]; omega)
        rw [getD_left _ _ _ _ (by rw [nums_length, ofN_length, HFl.out]; omega), nums_getD _ _ _ (by rw [ofN_length, HFl.out]; omega)] at hcc
        rw [Nat.zero_add]; exact hcc
      have HRow := Lib.hid hrow
      have HBw := Lib.hid hbw
      clear hrow hbw hall hown honly
      go_wp2
      go_ret
      refine ⟨⟨_, c3, rfl, ?_⟩, HBw.out⟩
      rw [← HT.out, ← HF.out]
      exact HRow.out
theorem lastTwo_good {F : List Nat} {n : Nat} (hF : F.length = n + 2) : lastTwo (ofN F) n = Crc.crc (toN ((ofN F).take n)) ↔ Crc.good F := by
  have e : toN ((ofN F).take n) = F.take n := by
    rw [ofN, ← List.map_take]
    exact toN_ofN' (F.take n)
  unfold lastTwo Crc.good
  rw [e, ofN_getD, ofN_getD, hF, Int.toNat_natCast, Int.toNat_natCast]
  exact Iff.rfl
/-- The changed octets are accepted exactly if the marks cancel. -/
theorem changed_check {l : List Int} {ks : List Nat} {n : Nat} (hoct : ∀ x ∈ l, 0 ≤ x ∧ x ≤ 255) (hl : l.length = n) (hk : ∀ k ∈ ks, k < 8 * (n + 2)) :
    lastTwo (ofN (Crc.flips (toN (addL l)) ks)) n = Crc.crc (toN ((ofN (Crc.flips (toN (addL l)) ks)).take n)) ↔ Crc.marks (8 * (n + 2)) ks = 0 := by
  have h1 : (Crc.flips (toN (addL l)) ks).length = n + 2 := by rw [Crc.flips_length, toN_length, addL_length, hl]
  rw [lastTwo_good h1, toN_addL]
  have h2 := Crc.changed_good (l := toN l) (at_ := ks) (toN_lt hoct) (by rw [toN_length, hl]; exact hk)
  rw [toN_length, hl] at h2
  exact h2
end Go.Proofs.YtkalpjccfknopaaDoor
