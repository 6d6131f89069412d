/- For any octets and any bytes as a stream the law BitsOctets returns true and leaves its arguments as they are. No condition. -/
import Derived.Test.YtjadmhmfjjjcfaaMore
import Derived.ProofKit
import Derived.OpenShut
import Derived.ShutString
import Derived.ChangeOld
namespace Go.Proofs.Ytjadmhmfjjjcfaa
open Go.RowKit

set_option maxHeartbeats 1000000 in
theorem octets_case1 (a0 : Option Addr) (n0 c0 : Nat) (l0 : List Int) (a1 : Option Addr) (n1 c1 : Nat) (l1 : List Int) (w : World) (h0 : Row .u8 w a0 n0 c0 l0) (h1 : Row .u8 w a1 n1 c1 l1) (hn0 : n0 ≤ 400) (hn1 : n1 ≤ 400) (x : Int) (he : errOf l1 = x) (hx : x ≠ 0) :
    Calls Try.prog 3 #[.slice a0 n0 c0, .slice a1 n1 c1] w fun e w' => e = .returned (.bool true) ∧ Below w.heap.size w w' := by
  have hle0 := h0.le
  have hmx0 := h0.max
  have hle1 := h1.le
  have hmx1 := h1.max
  unfold maxLen at hmx0 hmx1
  have HR0 := Lib.hid h0
  have HR1 := Lib.hid h1
  obtain ⟨i0, hi, hz0, hz1, hz2⟩ := info_parts info8
  have HI := Lib.hid hi
  have HZ0 := Lib.hid hz0
  have HZ1 := Lib.hid hz1
  have HZ2 := Lib.hid hz2
  have hb0 : ¬ (400 : Int) < (n0 : Int) := by omega
  have hb1 : ¬ (400 : Int) < (n1 : Int) := by omega
  have hxb : (x != 0) = true := by rw [bne_iff_ne]; exact hx
  have hxe : (x == 0) = false := by simpa using hx
  have HX := Lib.hid hx
  have HE := Lib.hid he
  clear hx he
  clear h0 h1 hi hz0 hz1 hz2
  go_enter Try.func3, Try.ntmps3
  go_wp2_with fail
  refine (of_n _ _ _ (8 * n0) _ _ _ HR0.out (by omega) rfl rfl).mono ?_
  rintro e w1 ⟨⟨gx, rfl, rx, _⟩, hb⟩
  have B1 := Lib.hid hb
  have RX := Lib.hid rx
  have hsz1 := hb.size
  clear hb rx
  go_wp2_with (at_builtin; refine wpList_append_list rfl (.const (.slice none 0 0)) (.tmp 21) 22 rfl w.heap.size 5 i0 (.int .u8 0) 1 Try.underlying22 HI.out HZ0.out HZ1.out HZ2.out rfl .u8 _ 0 [] rfl (World.ownsRow_nil _ _ _ _) a1 n1 c1 l1 rfl (HR1.out.later B1.out) ?_ ?_ hsz1 ?_)
  · unfold maxLen; omega
  · omega
  intro v2 w2 hown2 hgrow2
  have hbel2 : Below w1.heap.size w1 w2 := (Below.refl _ _).grown hgrow2 (Nat.le_refl _) (by simp [Value.ownBlock])
  obtain ⟨a2, c2, rfl, r2, _⟩ := ownsRow_rowN .u8 hown2 HR1.out.wf
  have B2 := Lib.hid (B1.out.trans (hbel2.mono hsz1))
  have RX2 := Lib.hid (RX.out.later hbel2)
  have R2 := Lib.hid r2
  clear hown2 hgrow2 hbel2 r2 B1 RX
  go_wp2_with fail
  have he := HE.out
  refine (octets_e a1 n1 c1 l1 x w2 (HR1.out.later B2.out) HE.out HX.out).mono ?_
  rintro e w3 ⟨rfl, rfl⟩
  have hb := Below.refl w2.heap.size w2
  have B3 := Lib.hid (B2.out.trans (hb.mono B2.out.size))
  have RX3 := Lib.hid (RX2.out.later hb)
  have R3 := Lib.hid (R2.out.later hb)
  clear hb B2 RX2 R2
  go_wp2_with fail
  have hck := refCheck_any a1 n1 c1 l1 w2 (HR1.out.later B3.out)
  rw [he] at hck
  refine hck.mono ?_
  rintro e w' ⟨rfl, rfl⟩
  clear hck
  go_wp2_with fail
  refine (refOf_n a0 n0 c0 (8 * n0) l0 w2 (HR0.out.later B3.out) (by omega) rfl).mono ?_
  rintro e w4 ⟨⟨a4, c4, rfl, r4⟩, hb⟩
  have B4 := Lib.hid (B3.out.trans (hb.mono B3.out.size))
  have RX4 := Lib.hid (RX3.out.later hb)
  have R24 := Lib.hid (R3.out.later hb)
  have R4 := Lib.hid r4
  clear hb r4 B3 RX3 R3
  go_wp2_with fail
  refine (bytes_yes _ a4 (8 * n0) (8 * n0) c4 (ofL l0) w4 RX4.out R4.out).mono ?_
  rintro e w' ⟨rfl, q5, rfl⟩
  have hb5 := below_draw w4 q5
  obtain ⟨w5, hw5⟩ : ∃ x, x = w4.drewN q5 := ⟨_, rfl⟩
  rw [← hw5] at hb5 ⊢
  have B5 := Lib.hid (B4.out.trans (hb5.mono B4.out.size))
  have R25 := Lib.hid (R24.out.later hb5)
  clear hb5 hw5 B4 RX4 R24 R4
  go_wp2_with fail
  have hck := check_any a1 n1 c1 l1 w5 (HR1.out.later B5.out)
  rw [he] at hck
  refine hck.mono ?_
  rintro e w' ⟨rfl, rfl⟩
  clear hck
  go_wp2_with fail
  refine (same_yes a1 a2 n1 c1 n1 c2 l1 w5 (HR1.out.later B5.out) R25.out).mono ?_
  rintro e w' ⟨rfl, q6, rfl⟩
  have hb6 := below_draw w5 q6
  obtain ⟨w6, hw6⟩ : ∃ x, x = w5.drewN q6 := ⟨_, rfl⟩
  rw [← hw6] at hb6 ⊢
  have B6 := Lib.hid (B5.out.trans (hb6.mono B5.out.size))
  clear hb6 hw6 B5 R25
  go_wp2_with fail
  refine (lives_any w6).mono ?_
  rintro e w9 ⟨rfl, hb⟩
  have B9 := Lib.hid (B6.out.trans (hb.mono B6.out.size))
  clear hb
  go_wp2
  go_ret
  exact ⟨rfl, B9.out⟩

set_option maxHeartbeats 1000000 in
theorem octets_case2 (a0 : Option Addr) (n0 c0 : Nat) (l0 : List Int) (a1 : Option Addr) (n1 c1 : Nat) (l1 : List Int) (w : World) (h0 : Row .u8 w a0 n0 c0 l0) (h1 : Row .u8 w a1 n1 c1 l1) (hn0 : n0 ≤ 400) (hn1 : n1 ≤ 400) (he : errOf l1 = 0) (h8 : n1 % 8 ≠ 0) :
    Calls Try.prog 3 #[.slice a0 n0 c0, .slice a1 n1 c1] w fun e w' => e = .returned (.bool true) ∧ Below w.heap.size w w' := by
  have hle0 := h0.le
  have hmx0 := h0.max
  have hle1 := h1.le
  have hmx1 := h1.max
  unfold maxLen at hmx0 hmx1
  have HR0 := Lib.hid h0
  have HR1 := Lib.hid h1
  obtain ⟨i0, hi, hz0, hz1, hz2⟩ := info_parts info8
  have HI := Lib.hid hi
  have HZ0 := Lib.hid hz0
  have HZ1 := Lib.hid hz1
  have HZ2 := Lib.hid hz2
  have hb0 : ¬ (400 : Int) < (n0 : Int) := by omega
  have hb1 : ¬ (400 : Int) < (n1 : Int) := by omega
  have h8' : ((n1 : Int) % 8 != 0) = true := by rw [bne_iff_ne]; omega
  have H8 := Lib.hid h8
  have HE := Lib.hid he
  clear h8 he
  clear h0 h1 hi hz0 hz1 hz2
  go_enter Try.func3, Try.ntmps3
  go_wp2_with fail
  refine (of_n _ _ _ (8 * n0) _ _ _ HR0.out (by omega) rfl rfl).mono ?_
  rintro e w1 ⟨⟨gx, rfl, rx, _⟩, hb⟩
  have B1 := Lib.hid hb
  have RX := Lib.hid rx
  have hsz1 := hb.size
  clear hb rx
  go_wp2_with (at_builtin; refine wpList_append_list rfl (.const (.slice none 0 0)) (.tmp 21) 22 rfl w.heap.size 5 i0 (.int .u8 0) 1 Try.underlying22 HI.out HZ0.out HZ1.out HZ2.out rfl .u8 _ 0 [] rfl (World.ownsRow_nil _ _ _ _) a1 n1 c1 l1 rfl (HR1.out.later B1.out) ?_ ?_ hsz1 ?_)
  · unfold maxLen; omega
  · omega
  intro v2 w2 hown2 hgrow2
  have hbel2 : Below w1.heap.size w1 w2 := (Below.refl _ _).grown hgrow2 (Nat.le_refl _) (by simp [Value.ownBlock])
  obtain ⟨a2, c2, rfl, r2, _⟩ := ownsRow_rowN .u8 hown2 HR1.out.wf
  have B2 := Lib.hid (B1.out.trans (hbel2.mono hsz1))
  have RX2 := Lib.hid (RX.out.later hbel2)
  have R2 := Lib.hid r2
  clear hown2 hgrow2 hbel2 r2 B1 RX
  go_wp2_with fail
  have he := HE.out
  refine (octets_width a1 n1 c1 l1 w2 (HR1.out.later B2.out) HE.out H8.out).mono ?_
  rintro e w3 ⟨rfl, rfl⟩
  have hb := Below.refl w2.heap.size w2
  have B3 := Lib.hid (B2.out.trans (hb.mono B2.out.size))
  have RX3 := Lib.hid (RX2.out.later hb)
  have R3 := Lib.hid (R2.out.later hb)
  clear hb B2 RX2 R2
  go_wp2_with fail
  have hck := refCheck_any a1 n1 c1 l1 w2 (HR1.out.later B3.out)
  rw [he] at hck
  refine hck.mono ?_
  rintro e w' ⟨rfl, rfl⟩
  clear hck
  go_wp2_with fail
  refine (refOf_n a0 n0 c0 (8 * n0) l0 w2 (HR0.out.later B3.out) (by omega) rfl).mono ?_
  rintro e w4 ⟨⟨a4, c4, rfl, r4⟩, hb⟩
  have B4 := Lib.hid (B3.out.trans (hb.mono B3.out.size))
  have RX4 := Lib.hid (RX3.out.later hb)
  have R24 := Lib.hid (R3.out.later hb)
  have R4 := Lib.hid r4
  clear hb r4 B3 RX3 R3
  go_wp2_with fail
  refine (bytes_yes _ a4 (8 * n0) (8 * n0) c4 (ofL l0) w4 RX4.out R4.out).mono ?_
  rintro e w' ⟨rfl, q5, rfl⟩
  have hb5 := below_draw w4 q5
  obtain ⟨w5, hw5⟩ : ∃ x, x = w4.drewN q5 := ⟨_, rfl⟩
  rw [← hw5] at hb5 ⊢
  have B5 := Lib.hid (B4.out.trans (hb5.mono B4.out.size))
  have R25 := Lib.hid (R24.out.later hb5)
  clear hb5 hw5 B4 RX4 R24 R4
  go_wp2_with fail
  have hck := check_any a1 n1 c1 l1 w5 (HR1.out.later B5.out)
  rw [he] at hck
  refine hck.mono ?_
  rintro e w' ⟨rfl, rfl⟩
  clear hck
  go_wp2_with fail
  refine (same_yes a1 a2 n1 c1 n1 c2 l1 w5 (HR1.out.later B5.out) R25.out).mono ?_
  rintro e w' ⟨rfl, q6, rfl⟩
  have hb6 := below_draw w5 q6
  obtain ⟨w6, hw6⟩ : ∃ x, x = w5.drewN q6 := ⟨_, rfl⟩
  rw [← hw6] at hb6 ⊢
  have B6 := Lib.hid (B5.out.trans (hb6.mono B5.out.size))
  clear hb6 hw6 B5 R25
  go_wp2_with fail
  refine (lives_any w6).mono ?_
  rintro e w9 ⟨rfl, hb⟩
  have B9 := Lib.hid (B6.out.trans (hb.mono B6.out.size))
  clear hb
  go_wp2
  go_ret
  exact ⟨rfl, B9.out⟩

set_option maxHeartbeats 1000000 in
theorem octets_case3 (a0 : Option Addr) (n0 c0 : Nat) (l0 : List Int) (a1 : Option Addr) (n1 c1 : Nat) (l1 : List Int) (w : World) (h0 : Row .u8 w a0 n0 c0 l0) (h1 : Row .u8 w a1 n1 c1 l1) (hn0 : n0 ≤ 400) (hn1 : n1 ≤ 400) (m : Nat) (he : errOf l1 = 0) (h8 : n1 = 8 * m) :
    Calls Try.prog 3 #[.slice a0 n0 c0, .slice a1 n1 c1] w fun e w' => e = .returned (.bool true) ∧ Below w.heap.size w w' := by
  have hle0 := h0.le
  have hmx0 := h0.max
  have hle1 := h1.le
  have hmx1 := h1.max
  unfold maxLen at hmx0 hmx1
  have HR0 := Lib.hid h0
  have HR1 := Lib.hid h1
  obtain ⟨i0, hi, hz0, hz1, hz2⟩ := info_parts info8
  have HI := Lib.hid hi
  have HZ0 := Lib.hid hz0
  have HZ1 := Lib.hid hz1
  have HZ2 := Lib.hid hz2
  have hb0 : ¬ (400 : Int) < (n0 : Int) := by omega
  have hb1 : ¬ (400 : Int) < (n1 : Int) := by omega
  subst h8
  have h8' : ((8 * (m : Int)) % 8 != 0) = false := by simp
  have hbits := (errOf_zero he).2
  have HBi := Lib.hid hbits
  have HE := Lib.hid he
  clear he hbits
  clear h0 h1 hi hz0 hz1 hz2
  go_enter Try.func3, Try.ntmps3
  go_wp2_with fail
  refine (of_n _ _ _ (8 * n0) _ _ _ HR0.out (by omega) rfl rfl).mono ?_
  rintro e w1 ⟨⟨gx, rfl, rx, _⟩, hb⟩
  have B1 := Lib.hid hb
  have RX := Lib.hid rx
  have hsz1 := hb.size
  clear hb rx
  go_wp2_with (at_builtin; refine wpList_append_list rfl (.const (.slice none 0 0)) (.tmp 21) 22 rfl w.heap.size 5 i0 (.int .u8 0) 1 Try.underlying22 HI.out HZ0.out HZ1.out HZ2.out rfl .u8 _ 0 [] rfl (World.ownsRow_nil _ _ _ _) a1 (8 * m) c1 l1 rfl (HR1.out.later B1.out) ?_ ?_ hsz1 ?_)
  · unfold maxLen; omega
  · omega
  intro v2 w2 hown2 hgrow2
  have hbel2 : Below w1.heap.size w1 w2 := (Below.refl _ _).grown hgrow2 (Nat.le_refl _) (by simp [Value.ownBlock])
  obtain ⟨a2, c2, rfl, r2, _⟩ := ownsRow_rowN .u8 hown2 HR1.out.wf
  have B2 := Lib.hid (B1.out.trans (hbel2.mono hsz1))
  have RX2 := Lib.hid (RX.out.later hbel2)
  have R2 := Lib.hid r2
  clear hown2 hgrow2 hbel2 r2 B1 RX
  go_wp2_with fail
  have he := HE.out
  refine (octets_n a1 (8 * m) c1 m l1 _ w2 (HR1.out.later B2.out) HE.out (by omega) (by omega) rfl).mono ?_
  rintro e w3 ⟨⟨go, rfl, ro, _⟩, hb⟩
  have RO := Lib.hid ro
  clear ro
  have B3 := Lib.hid (B2.out.trans (hb.mono B2.out.size))
  have RX3 := Lib.hid (RX2.out.later hb)
  have R3 := Lib.hid (R2.out.later hb)
  clear hb B2 RX2 R2
  go_wp2_with fail
  have hck := refCheck_any a1 (8 * m) c1 l1 w3 (HR1.out.later B3.out)
  rw [he] at hck
  refine hck.mono ?_
  rintro e w' ⟨rfl, rfl⟩
  clear hck
  go_wp2_with fail
  refine (refOf_n a0 n0 c0 (8 * n0) l0 w3 (HR0.out.later B3.out) (by omega) rfl).mono ?_
  rintro e w4 ⟨⟨a4, c4, rfl, r4⟩, hb⟩
  have B4 := Lib.hid (B3.out.trans (hb.mono B3.out.size))
  have RX4 := Lib.hid (RX3.out.later hb)
  have R24 := Lib.hid (R3.out.later hb)
  have R4 := Lib.hid r4
  have RO4 := Lib.hid (RO.out.later hb)
  clear RO
  clear hb r4 B3 RX3 R3
  go_wp2_with fail
  refine (bytes_yes _ a4 (8 * n0) (8 * n0) c4 (ofL l0) w4 RX4.out R4.out).mono ?_
  rintro e w' ⟨rfl, q5, rfl⟩
  have hb5 := below_draw w4 q5
  obtain ⟨w5, hw5⟩ : ∃ x, x = w4.drewN q5 := ⟨_, rfl⟩
  rw [← hw5] at hb5 ⊢
  have B5 := Lib.hid (B4.out.trans (hb5.mono B4.out.size))
  have R25 := Lib.hid (R24.out.later hb5)
  have RO5 := Lib.hid (RO4.out.later hb5)
  clear RO4
  clear hb5 hw5 B4 RX4 R24 R4
  go_wp2_with fail
  have hck := check_any a1 (8 * m) c1 l1 w5 (HR1.out.later B5.out)
  rw [he] at hck
  refine hck.mono ?_
  rintro e w' ⟨rfl, rfl⟩
  clear hck
  go_wp2_with fail
  refine (same_yes a1 a2 (8 * m) c1 (8 * m) c2 l1 w5 (HR1.out.later B5.out) R25.out).mono ?_
  rintro e w' ⟨rfl, q6, rfl⟩
  have hb6 := below_draw w5 q6
  obtain ⟨w6, hw6⟩ : ∃ x, x = w5.drewN q6 := ⟨_, rfl⟩
  rw [← hw6] at hb6 ⊢
  have B6 := Lib.hid (B5.out.trans (hb6.mono B5.out.size))
  have RO6 := Lib.hid (RO5.out.later hb6)
  clear RO5
  clear hb6 hw6 B5 R25
  go_wp2_with fail
  refine (refOctets_n a1 (8 * m) c1 m l1 w6 (HR1.out.later B6.out) HBi.out (by omega) (by omega)).mono ?_
  rintro e w7 ⟨⟨a7, c7, rfl, r7⟩, hb⟩
  have B7 := Lib.hid (B6.out.trans (hb.mono B6.out.size))
  have RO7 := Lib.hid (RO6.out.later hb)
  have R7 := Lib.hid r7
  clear hb r7 B6 RO6
  go_wp2_with fail
  refine (bytes_yes _ a7 m m c7 (octs l1) w7 RO7.out R7.out).mono ?_
  rintro e w' ⟨rfl, q8, rfl⟩
  have hb8 := below_draw w7 q8
  obtain ⟨w8, hw8⟩ : ∃ x, x = w7.drewN q8 := ⟨_, rfl⟩
  rw [← hw8] at hb8 ⊢
  have B8 := Lib.hid (B7.out.trans (hb8.mono B7.out.size))
  clear hb8 hw8 B7 RO7 R7
  go_wp2_with fail
  refine (lives_any w8).mono ?_
  rintro e w9 ⟨rfl, hb⟩
  have B9 := Lib.hid (B8.out.trans (hb.mono B8.out.size))
  clear hb
  go_wp2
  go_ret
  exact ⟨rfl, B9.out⟩

set_option maxHeartbeats 1000000 in
theorem bitsOctets_walk (a0 : Option Addr) (n0 c0 : Nat) (l0 : List Int) (a1 : Option Addr) (n1 c1 : Nat) (l1 : List Int) (w : World) (h0 : Row .u8 w a0 n0 c0 l0) (h1 : Row .u8 w a1 n1 c1 l1) :
    Calls Try.prog 3 #[.slice a0 n0 c0, .slice a1 n1 c1] w fun e w' => e = .returned (.bool true) ∧ Below w.heap.size w w' := by
  by_cases hn0 : n0 ≤ 400
  · by_cases hn1 : n1 ≤ 400
    · by_cases he : errOf l1 = 0
      · by_cases h8 : n1 % 8 = 0
        · exact octets_case3 a0 n0 c0 l0 a1 n1 c1 l1 w h0 h1 hn0 hn1 (n1 / 8) he (by omega)
        · exact octets_case2 a0 n0 c0 l0 a1 n1 c1 l1 w h0 h1 hn0 hn1 he h8
      · exact octets_case1 a0 n0 c0 l0 a1 n1 c1 l1 w h0 h1 hn0 hn1 _ rfl he
    · have hb0 : ¬ (400 : Int) < (n0 : Int) := by omega
      have hb1 : (400 : Int) < (n1 : Int) := by omega
      have HL := Lib.hid (lives_any w)
      clear h0 h1
      go_enter Try.func3, Try.ntmps3
      go_wp2_with fail
      refine HL.out.mono ?_
      rintro e w' ⟨rfl, hb⟩
      have HB := Lib.hid hb
      clear hb
      go_wp2
      go_ret
      exact ⟨rfl, HB.out⟩
  · have hb0 : (400 : Int) < (n0 : Int) := by omega
    have HL := Lib.hid (lives_any w)
    clear h0 h1
    go_enter Try.func3, Try.ntmps3
    go_wp2_with fail
    refine HL.out.mono ?_
    rintro e w' ⟨rfl, hb⟩
    have HB := Lib.hid hb
    clear hb
    go_wp2
    go_ret
    exact ⟨rfl, HB.out⟩
end Go.Proofs.Ytjadmhmfjjjcfaa
namespace Go.Proofs.Ytjadmhmfjjjcfaa.bitsOctets
open Go.ChangeShapes Go.WideShapes Go.ChangeAt Go.RowKit
open Go.ChangeMaps (open_string shut_string)
set_option linter.unusedVariables false

theorem own : ownKnob Try.prog.godebug = none := by kernel_rfl
theorem laidOut : laidOutB Try.prog = true := by kernel_rfl

set_option maxRecDepth 100000 in
theorem lifted (os : Os) (started : os.Started) (H : Type) (enc : TypeId × Value → H) :
    ReturnsInHanded {} Try.checked os 3 .any (Rows.bitsOctetsSpec.pre6 enc Try.prog Try.f3 Rows.bitsOctetsRow.domain false) (Rows.bitsOctetsSpec.post enc Try.prog Try.f3 false true false false) := by
  refine returnsInHanded_of_change (C := Try.checked) own started (by kernel_rfl) Try.func3
    (ChangeSpec.witness6 (enc := enc) (C := Try.checked) false ⟨#[], #[.slice none 0 0, .slice none 0 0], []⟩ 8 (by kernel_rfl) (by kernel_rfl) (by kernel_rfl) (by kernel_rfl)) ?_
  intro W base args ds gs before hval0 hW hcnd _
  have hval : ∀ (j : Nat) t v, Try.f3.params[j]? = some t → args[j]? = some v → Value.okWide Try.prog W .any base t v := hval0
  have hW' := hW
  obtain ⟨p, q, hA0, hV, rfl, hfz, hnd⟩ := hW
  have hA : DataW.TrodAll enc Try.prog W 0 (fun _ => true) true Try.f3.params.toList args.toList ds p := hA0
  rw [Try.params3] at hA hval
  obtain ⟨v0, vs0, d0, ds0, p0, q0, hargs, rfl, rfl, h0, r0⟩ := trodAll_cons hA
  obtain ⟨v1, vs1, d1, ds1, p1, q1, rfl, rfl, rfl, h1, r1⟩ := trodAll_cons r0
  obtain ⟨rfl, rfl, rfl⟩ := trodAll_nil r1
  obtain rfl : args = #[v0, v1] := by cases args; simp_all
  obtain ⟨rfl, rfl⟩ := trodVars_none hV
  obtain ⟨a0, len0, cap0, rfl⟩ := okWide_slice Try.underlying22 (hval 0 22 v0 rfl rfl)
  have k0 := h0
  have lt0 : ∀ x ∈ p0, x.block < W.heap.size := by obtain ⟨m, hm⟩ := k0; exact DataW.trod_lt m _ _ _ hm
  obtain ⟨l0, w0⟩ : ∃ l, Row .u8 W a0 len0 cap0 l := by
    obtain ⟨fuel, hf⟩ := h0
    rcases open_ints Try.underlying22 Try.underlying5 (by kernel_rfl) hf with ⟨hcs, _⟩ | ⟨x, l, c, zs, hcs, _, hl, hm, hz, _, hcell, hwz⟩
    · simp [Value.cells] at hcs
      obtain ⟨rfl, rfl, rfl⟩ := hcs
      exact ⟨[], Row.of_nil _ _⟩
    · simp [Value.cells] at hcs
      obtain ⟨rfl, rfl, rfl⟩ := hcs
      exact ⟨_, Row.of_open (.inr ⟨_, rfl, hl, hm, by simpa using hz, hcell, hwz⟩)⟩
  obtain ⟨a1, len1, cap1, rfl⟩ := okWide_slice Try.underlying22 (hval 1 22 v1 rfl rfl)
  have k1 := h1
  have lt1 : ∀ x ∈ p1, x.block < W.heap.size := by obtain ⟨m, hm⟩ := k1; exact DataW.trod_lt m _ _ _ hm
  obtain ⟨l1, w1⟩ : ∃ l, Row .u8 W a1 len1 cap1 l := by
    obtain ⟨fuel, hf⟩ := h1
    rcases open_ints Try.underlying22 Try.underlying5 (by kernel_rfl) hf with ⟨hcs, _⟩ | ⟨x, l, c, zs, hcs, _, hl, hm, hz, _, hcell, hwz⟩
    · simp [Value.cells] at hcs
      obtain ⟨rfl, rfl, rfl⟩ := hcs
      exact ⟨[], Row.of_nil _ _⟩
    · simp [Value.cells] at hcs
      obtain ⟨rfl, rfl, rfl⟩ := hcs
      exact ⟨_, Row.of_open (.inr ⟨_, rfl, hl, hm, by simpa using hz, hcell, hwz⟩)⟩
  clear hA0 hval0
  refine (bitsOctets_walk a0 len0 cap0 l0 a1 len1 cap1 l1 W w0 w1).mono fun e W' ⟨he, bel⟩ => ?_
  subst he
  exact ⟨_, rfl, _, _, _, [], _, [], hW', trodAll_mk1 (shut_bool Try.underlying4 _), (trodAll_cons_mk (Below.trod laidOut (by kernel_rfl) (of_decide_eq_true (by kernel_rfl)) k0 bel lt0) (trodAll_cons_mk (Below.trod laidOut (by kernel_rfl) (of_decide_eq_true (by kernel_rfl)) k1 bel lt1) trodAll_mk0)), rfl, bel.frame _, fun h => by cases h⟩

theorem over : Rows.bitsOctetsRow.holds Try.pinned (OpenSpec.ofChange Rows.bitsOctetsSpec) :=
  OpenClaim.holds_of_wide 3 Try.f3 rfl rfl rfl rfl rfl rfl rfl ⟨rfl, rfl, rfl, rfl, rfl⟩ rfl rfl rfl rfl rfl (by kernel_rfl) Try.func3 (by kernel_rfl)
    (of_decide_eq_true (by kernel_rfl)) (by unfold Func.isWrapper; first | (rw [if_pos (by decide +kernel)]; kernel_rfl) | (rw [if_neg (by decide +kernel)]; exact ⟨rfl, rfl⟩))
    (fun os started H enc _ => lifted os started H enc)

theorem proved : Rows.BitsOctetsSaid := over
end Go.Proofs.Ytjadmhmfjjjcfaa.bitsOctets
