/- For any two lists of octets and any integer the law BitsBack returns true and leaves its arguments as they are. No condition. -/
import Derived.Test.YtjadmhmfjjjcfaaMore
namespace Go.Proofs.Ytjadmhmfjjjcfaa
open Go.RowKit

theorem putErr_1' {l : List Int} {v : Int} {m : Nat} (h : errOf l = 0) (hm : m ≤ 64) (hv : v / 2 ^ m ≠ 0) : putErr l v m = 1 := by
  unfold putErr; rw [if_neg (by simp [h]), if_neg (by omega), if_pos (by rw [Int.toNat_natCast]; exact hv)]
theorem putErr_0' {l : List Int} {v : Int} {m : Nat} (h : errOf l = 0) (hm : m ≤ 64) (hv : v / 2 ^ m = 0) (hl : l.length + m ≤ 1048576) : putErr l v m = 0 := by
  unfold putErr; rw [if_neg (by simp [h]), if_neg (by omega), if_neg (by rw [Int.toNat_natCast]; simp [hv]), if_neg (by omega)]
theorem getErr_0' {l : List Int} {p : Int} {m : Nat} (h : errOf l = 0) (hm : m ≤ 64) (hp : 0 ≤ p) (hl : p + m ≤ l.length) : getErr l p m = 0 := by
  unfold getErr; rw [if_neg (by simp [h]), if_neg (by omega), if_neg (by omega), if_neg (by omega)]
/-- The next bit of an integer. -/
theorem mod_pow_succ (v : Int) (k : Nat) : v % 2 ^ (k + 1) = v % 2 ^ k + 2 ^ k * bitOf v k := by
  have h1 := val_bitsOf v (k + 1)
  rw [bitsOf_succ, val_append, val_bitsOf, bitsOf_length] at h1
  have e : val [bitOf v k] = bitOf v k := by simp [val]
  rw [e] at h1
  omega
theorem step_yes {v : Int} {k : Nat} : v % 2 ^ (k + 1) < 2 ^ (k + 1) := Int.emod_lt_of_pos _ (Int.pow_pos (by decide))
theorem step_no {v : Int} {k W : Nat} (h : v % 2 ^ k < 2 ^ W) (hb : bitOf v k ≠ 1) : v % 2 ^ (k + 1) < 2 ^ W := by
  have hr := bitOf_range v k
  have h0 : bitOf v k = 0 := by omega
  rw [mod_pow_succ, h0]
  omega
theorem div_zero_of {v : Int} {W : Nat} (h0 : 0 ≤ v) (h : v < 2 ^ W) : v / 2 ^ W = 0 := Int.ediv_eq_zero_of_lt h0 h
theorem div_ne_of {v : Int} {k : Nat} (h : bitOf v k = 1) : v / 2 ^ k ≠ 0 := by
  intro hh
  unfold bitOf at h
  rw [hh] at h
  simp at h
theorem mod_64 {v : Int} (h0 : 0 ≤ v) (h1 : v ≤ 18446744073709551615) : v % 2 ^ 64 = v := Int.emod_eq_of_lt h0 (by omega)

set_option maxHeartbeats 4000000 in
set_option maxRecDepth 100000 in
theorem back_main (a0 : Option Addr) (n0 c0 : Nat) (l0 : List Int) (a1 : Option Addr) (n1 c1 : Nat) (l1 : List Int) (v : Int) (w : World) (h0 : Row .u8 w a0 n0 c0 l0) (h1 : Row .u8 w a1 n1 c1 l1) (hv : (Lit.int .u64 v).wf = true) (hn0 : n0 ≤ 400) (hn1 : n1 ≤ 400) :
    Calls Try.prog 4 #[.slice a0 n0 c0, .slice a1 n1 c1, .int .u64 v] w fun e w' => e = .returned (.bool true) ∧ Below w.heap.size w w' := by
  have hle0 := h0.le
  have hmx0 := h0.max
  have hle1 := h1.le
  have hmx1 := h1.max
  unfold maxLen at hmx0 hmx1
  have HR0 := Lib.hid h0
  have HR1 := Lib.hid h1
  obtain ⟨i0, hi, hz0, hz1, hz2⟩ := info_parts info8
  have HI := Lib.hid hi
  have HZ0 := Lib.hid hz0
  have HZ1 := Lib.hid hz1
  have HZ2 := Lib.hid hz2
  have hb0 : ¬ (400 : Int) < (n0 : Int) := by omega
  have hb1 : ¬ (400 : Int) < (n1 : Int) := by omega
  obtain ⟨hv0, hv1⟩ := wf_u64.1 hv
  obtain ⟨lab, hlab⟩ : ∃ z, z = l0 ++ l1 := ⟨_, rfl⟩
  have hwf : ∀ x ∈ lab, (Lit.int .u8 x).wf = true := by
    intro x hx
    rw [hlab] at hx
    rcases List.mem_append.1 hx with h | h
    · exact h0.wf x h
    · exact h1.wf x h
  have hoc : octs (ofL lab) = lab := octs_ofL lab (fun x hx => wf_u8.1 (hwf x hx))
  have hlen : lab.length = n0 + n1 := by rw [hlab, List.length_append, h0.len, h1.len]
  have heo : ∀ l : List Int, l.length ≤ 1000 → errOf (ofL l) = 0 := fun l hl => errOf_ok (by rw [ofL_length]; omega) (isBits_ofL l)
  have HLab := Lib.hid hlab
  have HWf := Lib.hid hwf
  have HOc := Lib.hid hoc
  have HLen := Lib.hid hlen
  have HEo := Lib.hid heo
  clear h0 h1 hi hz0 hz1 hz2 hv hlab hwf hoc hlen heo
  go_enter Try.func4, Try.ntmps4
  go_wp2_with fail
  refine (of_n _ _ _ (8 * n0) _ _ _ HR0.out (by omega) rfl rfl).mono ?_
  rintro e w1 ⟨⟨gx, rfl, rx, _⟩, hb⟩
  have B1 := Lib.hid hb
  have RX := Lib.hid rx
  clear hb rx
  go_wp2_with fail
  refine (of_n a1 n1 c1 (8 * n1) l1 _ w1 (HR1.out.later B1.out) (by omega) rfl rfl).mono ?_
  rintro e w2 ⟨⟨gy, rfl, ry, _⟩, hb⟩
  have B2 := Lib.hid (B1.out.trans (hb.mono B1.out.size))
  have RX2 := Lib.hid (RX.out.later hb)
  have RY2 := Lib.hid ry
  clear hb ry B1 RX
  have hsz2 := Nat.le_refl w2.heap.size
  go_wp2_with (at_builtin; refine wpList_append_list rfl (.const (.slice none 0 0)) (.tmp 37) 22 rfl w2.heap.size 5 i0 (.int .u8 0) 1 Try.underlying22 HI.out HZ0.out HZ1.out HZ2.out rfl .u8 _ 0 [] rfl (World.ownsRow_nil _ _ _ _) a0 n0 c0 l0 rfl (HR0.out.later B2.out) ?_ ?_ hsz2 ?_)
  · unfold maxLen; omega
  · omega
  intro v3 w3 hown3 hgrow3
  have hb3 : Below w2.heap.size w2 w3 := (Below.refl _ _).grown hgrow3 hsz2 (by simp [Value.ownBlock])
  have B3 := Lib.hid hb3
  have HO3 := Lib.hid hown3
  have hsz3 := hb3.size
  have R13 := Lib.hid (HR1.out.later (B2.out.trans (hb3.mono B2.out.size)))
  clear hown3 hgrow3 hb3
  go_wp2_with (at_builtin; refine wpList_append_list rfl (.tmp 38) (.tmp 39) 22 rfl w2.heap.size 5 i0 (.int .u8 0) 1 Try.underlying22 HI.out HZ0.out HZ1.out HZ2.out rfl .u8 _ n0 l0 rfl HO3.out a1 n1 c1 l1 rfl R13.out ?_ ?_ hsz3 ?_)
  · unfold maxLen; omega
  · omega
  intro v4 w4 hown4 hgrow4
  have hb4 : Below w2.heap.size w2 w4 := B3.out.grown hgrow4 hsz3 (fun g hg => (World.ownsRow.lt HO3.out g hg).1)
  rw [← HLab.out] at hown4
  obtain ⟨a4, c4, rfl, r4, _⟩ := ownsRow_rowN .u8 hown4 HWf.out
  have B4 := Lib.hid (B2.out.trans (hb4.mono B2.out.size))
  have RX4 := Lib.hid (RX2.out.later hb4)
  have RY4 := Lib.hid (RY2.out.later hb4)
  have R4 := Lib.hid r4
  clear hown4 hgrow4 hb4 r4 R13 HO3 B3 B2 RX2 RY2 hsz2 hsz3
  go_wp2_with fail
  refine (of_n a4 (n0 + n1) c4 (8 * (n0 + n1)) lab _ w4 R4.out (by omega) rfl rfl).mono ?_
  rintro e w5 ⟨⟨ga, rfl, ra, _⟩, hb⟩
  have B5 := Lib.hid (B4.out.trans (hb.mono B4.out.size))
  have RX5 := Lib.hid (RX4.out.later hb)
  have RY5 := Lib.hid (RY4.out.later hb)
  have RA5 := Lib.hid ra
  clear hb ra B4 RX4 RY4 R4
  go_wp2_with fail
  refine (octets_n _ (8 * (n0 + n1)) (8 * (n0 + n1)) (n0 + n1) (ofL lab) lab w5 RA5.out (HEo.out lab (by rw [HLen.out]; omega)) (by omega) (by omega) HOc.out).mono ?_
  rintro e w6 ⟨⟨go, rfl, ro, _⟩, hb⟩
  have B6 := Lib.hid (B5.out.trans (hb.mono B5.out.size))
  have RX6 := Lib.hid (RX5.out.later hb)
  have RY6 := Lib.hid (RY5.out.later hb)
  have RA6 := Lib.hid (RA5.out.later hb)
  have RO6 := Lib.hid ro
  clear hb ro B5 RX5 RY5 RA5
  have hsz6 := Nat.le_refl w6.heap.size
  go_wp2_with (at_builtin; refine wpList_append_list rfl (.const (.slice none 0 0)) (.tmp 59) 22 rfl w6.heap.size 5 i0 (.int .u8 0) 1 Try.underlying22 HI.out HZ0.out HZ1.out HZ2.out rfl .u8 _ 0 [] rfl (World.ownsRow_nil _ _ _ _) (some ⟨gx, 0, none⟩) (8 * n0) (8 * n0) (ofL l0) rfl RX6.out ?_ ?_ hsz6 ?_)
  · unfold maxLen; omega
  · omega
  intro v7 w7 hown7 hgrow7
  have hb7 : Below w6.heap.size w6 w7 := (Below.refl _ _).grown hgrow7 hsz6 (by simp [Value.ownBlock])
  have B7 := Lib.hid hb7
  have HO7 := Lib.hid hown7
  have hsz7 := hb7.size
  have RY7 := Lib.hid (RY6.out.later hb7)
  clear hown7 hgrow7 hb7
  go_wp2_with (at_builtin; refine wpList_append_list rfl (.tmp 60) (.tmp 61) 22 rfl w6.heap.size 5 i0 (.int .u8 0) 1 Try.underlying22 HI.out HZ0.out HZ1.out HZ2.out rfl .u8 _ (8 * n0) (ofL l0) rfl HO7.out (some ⟨gy, 0, none⟩) (8 * n1) (8 * n1) (ofL l1) rfl RY7.out ?_ ?_ hsz7 ?_)
  · unfold maxLen; omega
  · omega
  intro v8 w8 hown8 hgrow8
  have hb8 : Below w6.heap.size w6 w8 := B7.out.grown hgrow8 hsz7 (fun g hg => (World.ownsRow.lt HO7.out g hg).1)
  rw [← ofL_append, ← HLab.out] at hown8
  obtain ⟨a8, c8, rfl, r8, _⟩ := ownsRow_rowN .u8 hown8 (wf_bits (fun x hx => ofL_mem hx))
  have B8 := Lib.hid (B6.out.trans (hb8.mono B6.out.size))
  have RX8 := Lib.hid (RX6.out.later hb8)
  have RA8 := Lib.hid (RA6.out.later hb8)
  have RO8 := Lib.hid (RO6.out.later hb8)
  have R8 := Lib.hid r8
  clear hown8 hgrow8 hb8 r8 RY7 HO7 B7 B6 RX6 RY6 RA6 RO6 hsz6 hsz7
  go_wp2_with fail
  refine (same_yes _ a8 _ _ _ c8 (ofL lab) w8 RA8.out R8.out).mono ?_
  rintro e w' ⟨rfl, q9, rfl⟩
  have hb9 := below_draw w8 q9
  obtain ⟨w9, hw9⟩ : ∃ x, x = w8.drewN q9 := ⟨_, rfl⟩
  rw [← hw9] at hb9 ⊢
  have B9 := Lib.hid (B8.out.trans (hb9.mono B8.out.size))
  have RX9 := Lib.hid (RX8.out.later hb9)
  have RO9 := Lib.hid (RO8.out.later hb9)
  clear hb9 hw9 B8 RX8 RA8 RO8 R8
  have hsz9 := Nat.le_refl w9.heap.size
  go_wp2_with (at_builtin; refine wpList_append_list rfl (.const (.slice none 0 0)) (.tmp 68) 22 rfl w9.heap.size 5 i0 (.int .u8 0) 1 Try.underlying22 HI.out HZ0.out HZ1.out HZ2.out rfl .u8 _ 0 [] rfl (World.ownsRow_nil _ _ _ _) a0 n0 c0 l0 rfl (HR0.out.later B9.out) ?_ ?_ hsz9 ?_)
  · unfold maxLen; omega
  · omega
  intro v10 w10 hown10 hgrow10
  have hb10 : Below w9.heap.size w9 w10 := (Below.refl _ _).grown hgrow10 hsz9 (by simp [Value.ownBlock])
  have B10 := Lib.hid hb10
  have HO10 := Lib.hid hown10
  have hsz10 := hb10.size
  have R110 := Lib.hid (HR1.out.later (B9.out.trans (hb10.mono B9.out.size)))
  clear hown10 hgrow10 hb10
  go_wp2_with (at_builtin; refine wpList_append_list rfl (.tmp 69) (.tmp 70) 22 rfl w9.heap.size 5 i0 (.int .u8 0) 1 Try.underlying22 HI.out HZ0.out HZ1.out HZ2.out rfl .u8 _ n0 l0 rfl HO10.out a1 n1 c1 l1 rfl R110.out ?_ ?_ hsz10 ?_)
  · unfold maxLen; omega
  · omega
  intro v11 w11 hown11 hgrow11
  have hb11 : Below w9.heap.size w9 w11 := B10.out.grown hgrow11 hsz10 (fun g hg => (World.ownsRow.lt HO10.out g hg).1)
  rw [← HLab.out] at hown11
  obtain ⟨a11, c11, rfl, r11, _⟩ := ownsRow_rowN .u8 hown11 HWf.out
  have B11 := Lib.hid (B9.out.trans (hb11.mono B9.out.size))
  have RX11 := Lib.hid (RX9.out.later hb11)
  have RO11 := Lib.hid (RO9.out.later hb11)
  have R11 := Lib.hid r11
  clear hown11 hgrow11 hb11 r11 R110 HO10 B10 B9 RX9 RO9 hsz9 hsz10
  go_wp2_with fail
  refine (same_yes _ a11 _ _ _ c11 lab w11 RO11.out R11.out).mono ?_
  rintro e w' ⟨rfl, q12, rfl⟩
  have hb12 := below_draw w11 q12
  obtain ⟨w12, hw12⟩ : ∃ x, x = w11.drewN q12 := ⟨_, rfl⟩
  rw [← hw12] at hb12 ⊢
  have B12 := Lib.hid (B11.out.trans (hb12.mono B11.out.size))
  have RX12 := Lib.hid (RX11.out.later hb12)
  clear hb12 hw12 B11 RX11 RO11 R11
  go_wp2_with fail
  go_loop [12, 13] (fun s i => ∃ k W : Nat, k ≤ 64 ∧ W ≤ k ∧ i = .int .i64 k ∧ s = .int .i64 W ∧ v % 2 ^ k < 2 ^ W ∧ (0 < W → bitOf v (W - 1) = 1)) (fun _ i => 64 - (intOf i).toNat)
  case atStart => exact ⟨0, 0, by omega, by omega, rfl, rfl, by simp, fun h => absurd h (by omega)⟩
  case round =>
    obtain ⟨k, W, hk, hWk, rfl, rfl, hmod, hbit⟩ := hrel
    have HMod := Lib.hid hmod
    have HBit := Lib.hid hbit
    clear hmod hbit
    by_cases hlt : k < 64
    · have hbr := bitOf_range v k
      obtain ⟨y, hy⟩ : ∃ y, y = bitOf v k := ⟨_, rfl⟩
      have hcb := bit_any v k w12 hv0 hv1 (by omega)
      change Calls _ _ _ _ (fun e w' => e = .returned (.int .u8 (bitOf v k)) ∧ w12 = w') at hcb
      rw [← hy] at hcb hbr
      obtain ⟨hy0, hy1⟩ := hbr
      have HY := Lib.hid hy
      have HCB := Lib.hid hcb
      clear hcb hy
      by_cases hone : y = 1
      · have he1 : (y == 1) = true := by simpa using hone
        have H1 := Lib.hid hone
        clear hone
        go_wp2_with fail
        refine HCB.out.mono ?_
        rintro e w' ⟨rfl, rfl⟩
        go_wp2
        exact ⟨⟨k + 1, k + 1, by omega, Nat.le_refl _, by go_num, by go_num, step_yes, fun _ => by rw [Nat.add_sub_cancel, ← HY.out]; exact H1.out⟩, by simp [intOf]; omega⟩
      · have he1 : (y == 1) = false := by simpa using hone
        have H1 := Lib.hid hone
        clear hone
        go_wp2_with fail
        refine HCB.out.mono ?_
        rintro e w' ⟨rfl, rfl⟩
        go_wp2
        exact ⟨⟨k + 1, W, by omega, by omega, by go_num, rfl, step_no HMod.out (by rw [← HY.out]; exact H1.out), HBit.out⟩, by simp [intOf]; omega⟩
    · obtain rfl : k = 64 := by omega
      have hvW : v < 2 ^ W := by
        have := HMod.out
        rwa [mod_64 hv0 hv1] at this
      have hdiv := div_zero_of hv0 hvW
      have hmodW : v % 2 ^ W = v := Int.emod_eq_of_lt hv0 hvW
      have hx0 : errOf (ofL l0) = 0 := HEo.out l0 (by rw [HR0.out.len]; omega)
      have hlx : (ofL l0).length = 8 * n0 := by rw [ofL_length, HR0.out.len]
      obtain ⟨lp, hlp⟩ : ∃ z, z = ofL l0 ++ bitsOf v W := ⟨_, rfl⟩
      have hlpl : lp.length = 8 * n0 + W := by rw [hlp, List.length_append, hlx, bitsOf_length]
      have hpb : isBits lp = true := by rw [hlp]; exact isBits_append (isBits_ofL _) (isBits_bitsOf _ _)
      have hp0 : errOf lp = 0 := errOf_ok (by rw [hlpl]; omega) hpb
      have hp01 : ∀ x ∈ lp, 0 ≤ x ∧ x ≤ 1 := by
        intro x hx
        rw [hlp] at hx
        rcases List.mem_append.1 hx with h | h
        · exact ofL_mem h
        · exact bitsOf_mem h
      have hget : val ((lp.drop (8 * n0)).take W) = v := by
        rw [hlp, List.drop_append, hlx, List.drop_of_length_le (by omega), List.nil_append, Nat.sub_self, List.drop_zero, List.take_of_length_le (by rw [bitsOf_length]; exact Nat.le_refl _), val_bitsOf, hmodW]
      have hput := putErr_0' hx0 (by omega : W ≤ 64) hdiv (by rw [hlx]; omega)
      have hge := getErr_0' (p := ((8 * n0 : Nat) : Int)) hp0 (by omega : W ≤ 64) (by omega) (by rw [hlpl]; omega)
      obtain ⟨t, ht⟩ : ∃ t, textOf lp = t := ⟨_, rfl⟩
      have hts : t.size = 8 * n0 + W := by rw [← ht, textOf_size, hlpl]
      have htt : isText t = true := by rw [← ht]; exact isText_textOf hp01
      have htc : (codes t).map (· - 48) = lp := by rw [← ht]; exact codes_sub hp01
      have HPut := Lib.hid hput
      have HGe := Lib.hid hge
      have HGet := Lib.hid hget
      have HP0 := Lib.hid hp0
      have HLp := Lib.hid hlp
      have HT := Lib.hid ht
      have HTS := Lib.hid hts
      have HTT := Lib.hid htt
      have HTC := Lib.hid htc
      have HX0 := Lib.hid hx0
      clear hvW hdiv hmodW hx0 hlx hlp hlpl hpb hp0 hp01 hget hput hge ht htt htc
      go_wp2_with fail
      refine (put_n _ (8 * n0) (8 * n0) W (8 * n0 + W) (ofL l0) lp v w12 RX12.out hv0 hv1 HPut.out rfl HLp.out.symm).mono ?_
      rintro e w13 ⟨⟨gp, rfl, rp, _⟩, hb⟩
      have B13 := Lib.hid (B12.out.trans (hb.mono B12.out.size))
      have RX13 := Lib.hid (RX12.out.later hb)
      have RP13 := Lib.hid rp
      clear hb rp B12 RX12
      go_wp2_with fail
      have hgn := get_n _ (8 * n0 + W) (8 * n0 + W) (8 * n0) W lp v w13 RP13.out HGe.out HGet.out
      rw [show ((8 * n0 : Nat) : Int) = 8 * (n0 : Int) by omega] at hgn
      refine hgn.mono ?_
      rintro e w' ⟨rfl, rfl⟩
      clear hgn
      go_wp2_with fail
      refine (text_n _ (8 * n0 + W) (8 * n0 + W) lp t w13 RP13.out HP0.out HT.out).mono ?_
      rintro e w14 ⟨rfl, hb⟩
      have B14 := Lib.hid (B13.out.trans (hb.mono B13.out.size))
      have RX14 := Lib.hid (RX13.out.later hb)
      have RP14 := Lib.hid (RP13.out.later hb)
      clear hb B13 RX13 RP13
      go_wp2_with fail
      refine (parse_n t (8 * n0 + W) lp w14 HTS.out (by omega) HTT.out HTC.out).mono ?_
      rintro e w15 ⟨⟨gs, rfl, rs, _⟩, hb⟩
      have B15 := Lib.hid (B14.out.trans (hb.mono B14.out.size))
      have RX15 := Lib.hid (RX14.out.later hb)
      have RP15 := Lib.hid (RP14.out.later hb)
      have RS15 := Lib.hid rs
      clear hb rs B14 RX14 RP14
      have hvv : (v != v) = false := by simp
      go_wp2_with fail
      refine (bytes_yes _ _ (8 * n0 + W) (8 * n0 + W) (8 * n0 + W) lp w15 RS15.out RP15.out).mono ?_
      rintro e w' ⟨rfl, q16, rfl⟩
      have hb16 := below_draw w15 q16
      obtain ⟨w16, hw16⟩ : ∃ x, x = w15.drewN q16 := ⟨_, rfl⟩
      rw [← hw16] at hb16 ⊢
      have B16 := Lib.hid (B15.out.trans (hb16.mono B15.out.size))
      have RX16 := Lib.hid (RX15.out.later hb16)
      clear hb16 hw16 B15 RX15 RS15 RP15
      have hll : ((8 * (n0 : Int) + (W : Int)) != (8 * (n0 : Int) + (W : Int))) = false := by simp
      by_cases hW : 0 < W
      · obtain ⟨W', rfl⟩ : ∃ W', W = W' + 1 := ⟨W - 1, by omega⟩
        have hne : v / 2 ^ W' ≠ 0 := div_ne_of (by have := HBit.out (by omega); rwa [Nat.add_sub_cancel] at this)
        have hput2 := put_e _ (8 * n0) (8 * n0) (ofL l0) v (W' : Nat) 1 w16 RX16.out hv0 hv1 (putErr_1' HX0.out (by omega : W' ≤ 64) hne) (by decide)
        have HPut2 := Lib.hid hput2
        clear hput2 hne
        go_wp2_with fail
        refine HPut2.out.mono ?_
        rintro e w' ⟨rfl, rfl⟩
        go_wp2_with fail
        refine (lives_any w16).mono ?_
        rintro e w20 ⟨rfl, hb⟩
        have B20 := Lib.hid (B16.out.trans (hb.mono B16.out.size))
        clear hb
        go_wp2
        go_ret
        exact ⟨rfl, B20.out⟩
      · obtain rfl : W = 0 := by omega
        go_wp2_with fail
        refine (lives_any w16).mono ?_
        rintro e w20 ⟨rfl, hb⟩
        have B20 := Lib.hid (B16.out.trans (hb.mono B16.out.size))
        clear hb
        go_wp2
        go_ret
        exact ⟨rfl, B20.out⟩

set_option maxHeartbeats 1000000 in
set_option maxRecDepth 100000 in
theorem bitsBack_walk (a0 : Option Addr) (n0 c0 : Nat) (l0 : List Int) (a1 : Option Addr) (n1 c1 : Nat) (l1 : List Int) (v : Int) (w : World) (h0 : Row .u8 w a0 n0 c0 l0) (h1 : Row .u8 w a1 n1 c1 l1) (hv : (Lit.int .u64 v).wf = true) :
    Calls Try.prog 4 #[.slice a0 n0 c0, .slice a1 n1 c1, .int .u64 v] w fun e w' => e = .returned (.bool true) ∧ Below w.heap.size w w' := by
  by_cases hn0 : n0 ≤ 400
  · by_cases hn1 : n1 ≤ 400
    · exact back_main a0 n0 c0 l0 a1 n1 c1 l1 v w h0 h1 hv hn0 hn1
    · have hb0 : ¬ (400 : Int) < (n0 : Int) := by omega
      have hb1 : (400 : Int) < (n1 : Int) := by omega
      have HL := Lib.hid (lives_any w)
      clear h0 h1 hv
      go_enter Try.func4, Try.ntmps4
      go_wp2_with fail
      refine HL.out.mono ?_
      rintro e w' ⟨rfl, hb⟩
      have HB := Lib.hid hb
      clear hb
      go_wp2
      go_ret
      exact ⟨rfl, HB.out⟩
  · have hb0 : (400 : Int) < (n0 : Int) := by omega
    have HL := Lib.hid (lives_any w)
    clear h0 h1 hv
    go_enter Try.func4, Try.ntmps4
    go_wp2_with fail
    refine HL.out.mono ?_
    rintro e w' ⟨rfl, hb⟩
    have HB := Lib.hid hb
    clear hb
    go_wp2
    go_ret
    exact ⟨rfl, HB.out⟩
end Go.Proofs.Ytjadmhmfjjjcfaa
