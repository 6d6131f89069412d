/- For any bytes and any text the law BitsText returns true and leaves its arguments as they are. No condition. -/
import Derived.Test.YtjadmhmfjjjcfaaMore
import Derived.ProofKit
import Derived.OpenShut
import Derived.ShutString
import Derived.ChangeOld
namespace Go.Proofs.Ytjadmhmfjjjcfaa
open Go.RowKit

set_option maxHeartbeats 1000000 in
theorem text_case1 (a0 : Option Addr) (n0 c0 : Nat) (l0 : List Int) (s : ByteArray) (w : World) (h0 : Row .u8 w a0 n0 c0 l0) (hs : s.size ≤ maxLen) (hn0 : n0 ≤ 400) (hn1 : s.size ≤ 400) (x : Int) (he : errOf l0 = x) (hx : x ≠ 0) :
    Calls Try.prog 8 #[.slice a0 n0 c0, .string s] w fun e w' => e = .returned (.bool true) ∧ Below w.heap.size w w' := by
  have hle0 := h0.le
  have hmx0 := h0.max
  unfold maxLen at hmx0 hs
  have HR0 := Lib.hid h0
  have hb0 : ¬ (400 : Int) < (n0 : Int) := by omega
  have hb1 : ¬ (400 : Int) < (s.size : Int) := by omega
  have hxb : (x != 0) = true := by rw [bne_iff_ne]; exact hx
  have hxe : (x == 0) = false := by simpa using hx
  have hxx : (x != x) = false := by simp
  have HX := Lib.hid hx
  have HE := Lib.hid he
  clear hx he h0
  go_enter Try.func8, Try.ntmps8
  go_wp2_with fail
  have htx := text_err a0 n0 c0 l0 w HR0.out (by rw [HE.out]; exact HX.out)
  rw [HE.out] at htx
  refine htx.mono ?_
  rintro e w' ⟨rfl, rfl⟩
  clear htx
  go_wp2_with fail
  have hck := refCheck_any a0 n0 c0 l0 w HR0.out
  rw [HE.out] at hck
  refine hck.mono ?_
  rintro e w' ⟨rfl, rfl⟩
  clear hck
  have BS := Lib.hid (Below.refl w.heap.size w)
  go_wp2_with fail
  go_loop [9, 10] (fun v i => ∃ k : Nat, ∃ x : Int, k ≤ s.size ∧ i = .int .i64 k ∧ v = .int .i64 x ∧ (x = 0 ∨ x = 4) ∧ (x = 0 ↔ ∀ j, (hj : j < s.size) → j < k → s[j].toNat = 48 ∨ s[j].toNat = 49)) (fun _ i => s.size - (intOf i).toNat)
  case atStart => exact ⟨0, 0, Nat.zero_le _, rfl, rfl, .inl rfl, by simp⟩
  case round =>
    obtain ⟨k, x, hk, rfl, rfl, hx04, hxi⟩ := hrel
    have HXI := Lib.hid hxi
    have HX04 := Lib.hid hx04
    clear hxi hx04
    by_cases hlt : k < s.size
    · obtain ⟨z, hz⟩ : ∃ z : Int, (s[k].toNat : Int) = z := ⟨_, rfl⟩
      have hzr := u8_range s[k]
      rw [hz] at hzr
      obtain ⟨hz0, hz1⟩ := hzr
      have HZ := Lib.hid hz
      have hstep : ((x = 0 ∧ (z = 48 ∨ z = 49)) ↔ ∀ j, (hj : j < s.size) → j < k + 1 → s[j].toNat = 48 ∨ s[j].toNat = 49) := by
        constructor
        · rintro ⟨h1, h2⟩ j hj hjk
          by_cases hjk' : j < k
          · exact HXI.out.1 h1 j hj hjk'
          · obtain rfl : j = k := by omega
            omega
        · intro hall
          refine ⟨HXI.out.2 (fun j hj hjk => hall j hj (by omega)), ?_⟩
          have := hall k hlt (by omega)
          omega
      have HS := Lib.hid hstep
      clear hstep
      by_cases h48 : z = 48
      · have hb1 : (z != 48) = false := by rw [h48]; rfl
        have H4 := Lib.hid h48
        clear h48
        go_wp2
        exact ⟨⟨k + 1, x, by omega, by go_num, rfl, HX04.out, by rw [← HS.out]; simp [H4.out]⟩, by simp [intOf]; omega⟩
      · by_cases h49 : z = 49
        · have hb1 : (z != 48) = true := by rw [h49]; rfl
          have hb2 : (z != 49) = false := by rw [h49]; rfl
          have H4 := Lib.hid h49
          clear h48 h49
          go_wp2
          exact ⟨⟨k + 1, x, by omega, by go_num, rfl, HX04.out, by rw [← HS.out]; simp [H4.out]⟩, by simp [intOf]; omega⟩
        · have hb1 : (z != 48) = true := by rw [bne_iff_ne]; exact h48
          have hb2 : (z != 49) = true := by rw [bne_iff_ne]; exact h49
          have H4 := Lib.hid h48
          have H5 := Lib.hid h49
          clear h48 h49
          go_wp2
          exact ⟨⟨k + 1, 4, by omega, by go_num, rfl, .inr rfl, by rw [← HS.out]; simp [H4.out, H5.out]⟩, by simp [intOf]; omega⟩
    · obtain rfl : k = s.size := by omega
      cases ht : isText s with
      | true =>
        have hx0 : x = 0 := HXI.out.2 (fun j hj _ => isText_at ht j hj)
        subst hx0
        have HT := Lib.hid ht
        clear ht
        go_wp2_with fail
        refine (parse_n s s.size _ w rfl (by omega) HT.out rfl).mono ?_
        rintro e w5 ⟨⟨gp, rfl, rp, _⟩, hb⟩
        have B5 := Lib.hid (BS.out.trans (hb.mono BS.out.size))
        have RP := Lib.hid rp
        clear hb rp
        go_wp2_with fail
        refine (stream_n s s.size _ w5 rfl (by omega) (isText_codes HT.out).symm).mono ?_
        rintro e w6 ⟨⟨gs, rfl, rs, _⟩, hb⟩
        have B6 := Lib.hid (B5.out.trans (hb.mono B5.out.size))
        have RP6 := Lib.hid (RP.out.later hb)
        have RS := Lib.hid rs
        clear hb rs B5 RP
        go_wp2_with fail
        refine (bytes_yes _ _ s.size s.size s.size _ w6 RP6.out RS.out).mono ?_
        rintro e w' ⟨rfl, q7, rfl⟩
        have hb7 := below_draw w6 q7
        obtain ⟨w7, hw7⟩ : ∃ x, x = w6.drewN q7 := ⟨_, rfl⟩
        rw [← hw7] at hb7 ⊢
        have B7 := Lib.hid (B6.out.trans (hb7.mono B6.out.size))
        clear hb7 hw7 B6 RP6 RS
        go_wp2_with fail
        refine (lives_any w7).mono ?_
        rintro e w9 ⟨rfl, hb⟩
        have B9 := Lib.hid (B7.out.trans (hb.mono B7.out.size))
        clear hb
        go_wp2
        go_ret
        exact ⟨rfl, B9.out⟩
      | false =>
        have hx4 : x = 4 := by
          rcases HX04.out with h | h
          · have := isText_true (fun j hj => HXI.out.1 h j hj hj)
            rw [ht] at this; exact absurd this (by simp)
          · exact h
        subst hx4
        have HT := Lib.hid ht
        clear ht
        go_wp2_with fail
        refine (parse_e s w (by omega) HT.out).mono ?_
        rintro e w5 ⟨rfl, hb⟩
        have B5 := Lib.hid (BS.out.trans (hb.mono BS.out.size))
        clear hb
        go_wp2_with fail
        refine (lives_any w5).mono ?_
        rintro e w9 ⟨rfl, hb⟩
        have B9 := Lib.hid (B5.out.trans (hb.mono B5.out.size))
        clear hb
        go_wp2
        go_ret
        exact ⟨rfl, B9.out⟩

set_option maxHeartbeats 1000000 in
theorem text_case2 (a0 : Option Addr) (n0 c0 : Nat) (l0 : List Int) (s : ByteArray) (w : World) (h0 : Row .u8 w a0 n0 c0 l0) (hs : s.size ≤ maxLen) (hn0 : n0 ≤ 400) (hn1 : s.size ≤ 400) (he : errOf l0 = 0) :
    Calls Try.prog 8 #[.slice a0 n0 c0, .string s] w fun e w' => e = .returned (.bool true) ∧ Below w.heap.size w w' := by
  have hle0 := h0.le
  have hmx0 := h0.max
  unfold maxLen at hmx0 hs
  have HR0 := Lib.hid h0
  have hb0 : ¬ (400 : Int) < (n0 : Int) := by omega
  have hb1 : ¬ (400 : Int) < (s.size : Int) := by omega
  have H01 := Lib.hid (h0.bits (errOf_zero he).2)
  have HE := Lib.hid he
  clear he h0
  go_enter Try.func8, Try.ntmps8
  go_wp2_with fail
  refine (text_n a0 n0 c0 l0 _ w HR0.out HE.out rfl).mono ?_
  rintro e w1 ⟨rfl, hb⟩
  have B1 := Lib.hid hb
  clear hb
  go_wp2_with fail
  have hck := refCheck_any a0 n0 c0 l0 w1 (HR0.out.later B1.out)
  rw [HE.out] at hck
  refine hck.mono ?_
  rintro e w' ⟨rfl, rfl⟩
  clear hck
  go_wp2_with fail
  refine (parse_n (textOf l0) n0 l0 w1 (by rw [textOf_size, HR0.out.len]) (by omega) (isText_textOf H01.out) (codes_sub H01.out)).mono ?_
  rintro e w2 ⟨⟨g2, rfl, r2, _⟩, hb⟩
  have B2 := Lib.hid (B1.out.trans (hb.mono B1.out.size))
  have R2 := Lib.hid r2
  clear hb r2 B1
  go_wp2_with fail
  refine (bytes_yes _ a0 n0 n0 c0 l0 w2 R2.out (HR0.out.later B2.out)).mono ?_
  rintro e w' ⟨rfl, q3, rfl⟩
  have hb3 := below_draw w2 q3
  obtain ⟨w3, hw3⟩ : ∃ x, x = w2.drewN q3 := ⟨_, rfl⟩
  rw [← hw3] at hb3 ⊢
  have BS := Lib.hid (B2.out.trans (hb3.mono B2.out.size))
  clear hb3 hw3 B2 R2
  go_wp2_with fail
  go_loop [9, 10] (fun v i => ∃ k : Nat, ∃ x : Int, k ≤ s.size ∧ i = .int .i64 k ∧ v = .int .i64 x ∧ (x = 0 ∨ x = 4) ∧ (x = 0 ↔ ∀ j, (hj : j < s.size) → j < k → s[j].toNat = 48 ∨ s[j].toNat = 49)) (fun _ i => s.size - (intOf i).toNat)
  case atStart => exact ⟨0, 0, Nat.zero_le _, rfl, rfl, .inl rfl, by simp⟩
  case round =>
    obtain ⟨k, x, hk, rfl, rfl, hx04, hxi⟩ := hrel
    have HXI := Lib.hid hxi
    have HX04 := Lib.hid hx04
    clear hxi hx04
    by_cases hlt : k < s.size
    · obtain ⟨z, hz⟩ : ∃ z : Int, (s[k].toNat : Int) = z := ⟨_, rfl⟩
      have hzr := u8_range s[k]
      rw [hz] at hzr
      obtain ⟨hz0, hz1⟩ := hzr
      have HZ := Lib.hid hz
      have hstep : ((x = 0 ∧ (z = 48 ∨ z = 49)) ↔ ∀ j, (hj : j < s.size) → j < k + 1 → s[j].toNat = 48 ∨ s[j].toNat = 49) := by
        constructor
        · rintro ⟨h1, h2⟩ j hj hjk
          by_cases hjk' : j < k
          · exact HXI.out.1 h1 j hj hjk'
          · obtain rfl : j = k := by omega
            omega
        · intro hall
          refine ⟨HXI.out.2 (fun j hj hjk => hall j hj (by omega)), ?_⟩
          have := hall k hlt (by omega)
          omega
      have HS := Lib.hid hstep
      clear hstep
      by_cases h48 : z = 48
      · have hb1 : (z != 48) = false := by rw [h48]; rfl
        have H4 := Lib.hid h48
        clear h48
        go_wp2
        exact ⟨⟨k + 1, x, by omega, by go_num, rfl, HX04.out, by rw [← HS.out]; simp [H4.out]⟩, by simp [intOf]; omega⟩
      · by_cases h49 : z = 49
        · have hb1 : (z != 48) = true := by rw [h49]; rfl
          have hb2 : (z != 49) = false := by rw [h49]; rfl
          have H4 := Lib.hid h49
          clear h48 h49
          go_wp2
          exact ⟨⟨k + 1, x, by omega, by go_num, rfl, HX04.out, by rw [← HS.out]; simp [H4.out]⟩, by simp [intOf]; omega⟩
        · have hb1 : (z != 48) = true := by rw [bne_iff_ne]; exact h48
          have hb2 : (z != 49) = true := by rw [bne_iff_ne]; exact h49
          have H4 := Lib.hid h48
          have H5 := Lib.hid h49
          clear h48 h49
          go_wp2
          exact ⟨⟨k + 1, 4, by omega, by go_num, rfl, .inr rfl, by rw [← HS.out]; simp [H4.out, H5.out]⟩, by simp [intOf]; omega⟩
    · obtain rfl : k = s.size := by omega
      cases ht : isText s with
      | true =>
        have hx0 : x = 0 := HXI.out.2 (fun j hj _ => isText_at ht j hj)
        subst hx0
        have HT := Lib.hid ht
        clear ht
        go_wp2_with fail
        refine (parse_n s s.size _ w3 rfl (by omega) HT.out rfl).mono ?_
        rintro e w5 ⟨⟨gp, rfl, rp, _⟩, hb⟩
        have B5 := Lib.hid (BS.out.trans (hb.mono BS.out.size))
        have RP := Lib.hid rp
        clear hb rp
        go_wp2_with fail
        refine (stream_n s s.size _ w5 rfl (by omega) (isText_codes HT.out).symm).mono ?_
        rintro e w6 ⟨⟨gs, rfl, rs, _⟩, hb⟩
        have B6 := Lib.hid (B5.out.trans (hb.mono B5.out.size))
        have RP6 := Lib.hid (RP.out.later hb)
        have RS := Lib.hid rs
        clear hb rs B5 RP
        go_wp2_with fail
        refine (bytes_yes _ _ s.size s.size s.size _ w6 RP6.out RS.out).mono ?_
        rintro e w' ⟨rfl, q7, rfl⟩
        have hb7 := below_draw w6 q7
        obtain ⟨w7, hw7⟩ : ∃ x, x = w6.drewN q7 := ⟨_, rfl⟩
        rw [← hw7] at hb7 ⊢
        have B7 := Lib.hid (B6.out.trans (hb7.mono B6.out.size))
        clear hb7 hw7 B6 RP6 RS
        go_wp2_with fail
        refine (lives_any w7).mono ?_
        rintro e w9 ⟨rfl, hb⟩
        have B9 := Lib.hid (B7.out.trans (hb.mono B7.out.size))
        clear hb
        go_wp2
        go_ret
        exact ⟨rfl, B9.out⟩
      | false =>
        have hx4 : x = 4 := by
          rcases HX04.out with h | h
          · have := isText_true (fun j hj => HXI.out.1 h j hj hj)
            rw [ht] at this; exact absurd this (by simp)
          · exact h
        subst hx4
        have HT := Lib.hid ht
        clear ht
        go_wp2_with fail
        refine (parse_e s w3 (by omega) HT.out).mono ?_
        rintro e w5 ⟨rfl, hb⟩
        have B5 := Lib.hid (BS.out.trans (hb.mono BS.out.size))
        clear hb
        go_wp2_with fail
        refine (lives_any w5).mono ?_
        rintro e w9 ⟨rfl, hb⟩
        have B9 := Lib.hid (B5.out.trans (hb.mono B5.out.size))
        clear hb
        go_wp2
        go_ret
        exact ⟨rfl, B9.out⟩

set_option maxHeartbeats 1000000 in
theorem bitsText_walk (a0 : Option Addr) (n0 c0 : Nat) (l0 : List Int) (s : ByteArray) (w : World) (h0 : Row .u8 w a0 n0 c0 l0) (hs : s.size ≤ maxLen) :
    Calls Try.prog 8 #[.slice a0 n0 c0, .string s] w fun e w' => e = .returned (.bool true) ∧ Below w.heap.size w w' := by
  by_cases hn0 : n0 ≤ 400
  · by_cases hn1 : s.size ≤ 400
    · by_cases he : errOf l0 = 0
      · exact text_case2 a0 n0 c0 l0 s w h0 hs hn0 hn1 he
      · exact text_case1 a0 n0 c0 l0 s w h0 hs hn0 hn1 _ rfl he
    · have hb0 : ¬ (400 : Int) < (n0 : Int) := by omega
      have hb1 : (400 : Int) < (s.size : Int) := by omega
      have HL := Lib.hid (lives_any w)
      clear h0 hs
      go_enter Try.func8, Try.ntmps8
      go_wp2_with fail
      refine HL.out.mono ?_
      rintro e w' ⟨rfl, hb⟩
      have HB := Lib.hid hb
      clear hb
      go_wp2
      go_ret
      exact ⟨rfl, HB.out⟩
  · have hb0 : (400 : Int) < (n0 : Int) := by omega
    have HL := Lib.hid (lives_any w)
    clear h0 hs
    go_enter Try.func8, Try.ntmps8
    go_wp2_with fail
    refine HL.out.mono ?_
    rintro e w' ⟨rfl, hb⟩
    have HB := Lib.hid hb
    clear hb
    go_wp2
    go_ret
    exact ⟨rfl, HB.out⟩
end Go.Proofs.Ytjadmhmfjjjcfaa
namespace Go.Proofs.Ytjadmhmfjjjcfaa.bitsText
open Go.ChangeShapes Go.WideShapes Go.ChangeAt Go.RowKit
open Go.ChangeMaps (open_string shut_string)
set_option linter.unusedVariables false

theorem own : ownKnob Try.prog.godebug = none := by kernel_rfl
theorem laidOut : laidOutB Try.prog = true := by kernel_rfl

set_option maxRecDepth 100000 in
theorem lifted (os : Os) (started : os.Started) (H : Type) (enc : TypeId × Value → H) :
    ReturnsInHanded {} Try.checked os 8 .any (Rows.bitsTextSpec.pre6 enc Try.prog Try.f8 Rows.bitsTextRow.domain false) (Rows.bitsTextSpec.post enc Try.prog Try.f8 false true false false) := by
  refine returnsInHanded_of_change (C := Try.checked) own started (by kernel_rfl) Try.func8
    (ChangeSpec.witness6 (enc := enc) (C := Try.checked) false ⟨#[], #[.slice none 0 0, .string ByteArray.empty], []⟩ 8 (by kernel_rfl) (by kernel_rfl) (by kernel_rfl) (by kernel_rfl)) ?_
  intro W base args ds gs before hval0 hW hcnd _
  have hval : ∀ (j : Nat) t v, Try.f8.params[j]? = some t → args[j]? = some v → Value.okWide Try.prog W .any base t v := hval0
  have hW' := hW
  obtain ⟨p, q, hA0, hV, rfl, hfz, hnd⟩ := hW
  have hA : DataW.TrodAll enc Try.prog W 0 (fun _ => true) true Try.f8.params.toList args.toList ds p := hA0
  rw [Try.params8] at hA hval
  obtain ⟨v0, vs0, d0, ds0, p0, q0, hargs, rfl, rfl, h0, r0⟩ := trodAll_cons hA
  obtain ⟨v1, vs1, d1, ds1, p1, q1, rfl, rfl, rfl, h1, r1⟩ := trodAll_cons r0
  obtain ⟨rfl, rfl, rfl⟩ := trodAll_nil r1
  obtain rfl : args = #[v0, v1] := by cases args; simp_all
  obtain ⟨rfl, rfl⟩ := trodVars_none hV
  obtain ⟨a0, len0, cap0, rfl⟩ := okWide_slice Try.underlying22 (hval 0 22 v0 rfl rfl)
  have k0 := h0
  have lt0 : ∀ x ∈ p0, x.block < W.heap.size := by obtain ⟨m, hm⟩ := k0; exact DataW.trod_lt m _ _ _ hm
  obtain ⟨l0, w0⟩ : ∃ l, Row .u8 W a0 len0 cap0 l := by
    obtain ⟨fuel, hf⟩ := h0
    rcases open_ints Try.underlying22 Try.underlying5 (by kernel_rfl) hf with ⟨hcs, _⟩ | ⟨x, l, c, zs, hcs, _, hl, hm, hz, _, hcell, hwz⟩
    · simp [Value.cells] at hcs
      obtain ⟨rfl, rfl, rfl⟩ := hcs
      exact ⟨[], Row.of_nil _ _⟩
    · simp [Value.cells] at hcs
      obtain ⟨rfl, rfl, rfl⟩ := hcs
      exact ⟨_, Row.of_open (.inr ⟨_, rfl, hl, hm, by simpa using hz, hcell, hwz⟩)⟩
  obtain ⟨a1, rfl, rfl, rfl, w1⟩ := open_string Try.underlying9 (hval 1 9 v1 rfl rfl) h1
  clear hA0 hval0
  refine (bitsText_walk a0 len0 cap0 l0 a1 W w0 w1).mono fun e W' ⟨he, bel⟩ => ?_
  subst he
  exact ⟨_, rfl, _, _, _, [], _, [], hW', trodAll_mk1 (shut_bool Try.underlying4 _), (trodAll_cons_mk (Below.trod laidOut (by kernel_rfl) (of_decide_eq_true (by kernel_rfl)) k0 bel lt0) (trodAll_cons_mk (shut_string Try.underlying9 w1) trodAll_mk0)), rfl, bel.frame _, fun h => by cases h⟩

theorem over : Rows.bitsTextRow.holds Try.pinned (OpenSpec.ofChange Rows.bitsTextSpec) :=
  OpenClaim.holds_of_wide 8 Try.f8 rfl rfl rfl rfl rfl rfl rfl ⟨rfl, rfl, rfl, rfl, rfl⟩ rfl rfl rfl rfl rfl (by kernel_rfl) Try.func8 (by kernel_rfl)
    (of_decide_eq_true (by kernel_rfl)) (by unfold Func.isWrapper; first | (rw [if_pos (by decide +kernel)]; kernel_rfl) | (rw [if_neg (by decide +kernel)]; exact ⟨rfl, rfl⟩))
    (fun os started H enc _ => lifted os started H enc)

theorem proved : Rows.BitsTextSaid := over
end Go.Proofs.Ytjadmhmfjjjcfaa.bitsText
