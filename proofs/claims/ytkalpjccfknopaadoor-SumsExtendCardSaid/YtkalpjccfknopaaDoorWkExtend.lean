/- The walk of SumsExtend. -/
import Derived.Test.YtkalpjccfknopaaDoorSumsLives
namespace Go.Proofs.YtkalpjccfknopaaDoor
open Go.RowKit

set_option maxHeartbeats 2000000 in
set_option maxRecDepth 100000 in
theorem sumsExtend_walk (r : Int) (a1 : Option Addr) (n1 c1 : Nat) (l1 : List Int) (a2 : Option Addr) (n2 c2 : Nat) (l2 : List Int) (w : World) (hbeh : BehindOk w) (hr : (Lit.int .u16 r).wf = true) (h1 : Row .u8 w a1 n1 c1 l1) (hk1 : c1 * 1 ≤ 140737488351232) (h2 : Row .u8 w a2 n2 c2 l2) (hk2 : c2 * 1 ≤ 140737488351232) :
    Calls Tryd.prog 3 #[.int .u16 r, .slice a1 n1 c1, .slice a2 n2 c2] w fun e w' => e = .returned (.bool true) ∧ Below w.heap.size w w' := by
  have BB0 := Lib.hid (Below.refl w.heap.size w)
  have HB0 := Lib.hid hbeh
  have RX0 := Lib.hid h1
  have RY0 := Lib.hid h2
  have hle1 := h1.le
  have hle2 := h2.le
  obtain ⟨hr0, hr1⟩ := wf_u16.1 hr
  obtain ⟨R, rfl⟩ := Int.eq_ofNat_of_zero_le hr0
  have hR : R < 65536 := by omega
  by_cases hbig : 300 < n1 + n2
  · clear h1 h2 hbeh
    go_enter Tryd.func3, Tryd.ntmps3
    go_wp2_with fail
    refine (lives_any _ HB0.out).mono ?_
    rintro e w11 ⟨rfl, hb⟩
    have BB12 := Lib.hid (BB0.out.trans ((hb).mono BB0.out.size))
    clear hb BB0 HB0 RX0 RY0
    go_wp2
    go_ret
    exact ⟨rfl, BB12.out⟩
  · obtain ⟨i0, hi, hz0, hz1, hz2⟩ := info_parts info8
    have HI := Lib.hid hi
    have HZ0 := Lib.hid hz0
    have HZ1 := Lib.hid hz1
    have HZ2 := Lib.hid hz2
    have hoct : ∀ x ∈ l1 ++ l2, (Lit.int .u8 x).wf = true := by
      intro x hx
      rcases List.mem_append.1 hx with h | h
      · exact h1.wf x h
      · exact h2.wf x h
    have HW8 := Lib.hid hoct
    have hlen : (l1 ++ l2).length = n1 + n2 := by rw [List.length_append, h1.len, h2.len]
    obtain ⟨N, hN⟩ : ∃ N, N = n1 + n2 := ⟨_, rfl⟩
    rw [← hN] at hlen
    have HLn := Lib.hid hlen
    have hXlt := ext_oct_lt (r := R) (l := l1 ++ l2) hR (fun x hx => wf_u8.1 (hoct x hx))
    have hAlt := ext_oct_lt (r := R) (l := l1) hR h1.octs
    have hcat : Crc.ext (Crc.ext R (toN l1)) (toN l2) = Crc.ext R (toN (l1 ++ l2)) := by rw [toN_append, Crc.ext_append]
    have hElt := ext_oct_lt (r := 65535) (l := l1 ++ l2) (by decide) (fun x hx => wf_u8.1 (hoct x hx))
    obtain ⟨X, hX⟩ : ∃ X, X = Crc.ext R (toN (l1 ++ l2)) := ⟨_, rfl⟩
    obtain ⟨Y, hY⟩ : ∃ Y, Y = Crc.ext R (toN l1) := ⟨_, rfl⟩
    obtain ⟨E, hE⟩ : ∃ E, E = Crc.ext 65535 (toN (l1 ++ l2)) := ⟨_, rfl⟩
    obtain ⟨S, hS⟩ : ∃ S, S = Crc.crc (toN (l1 ++ l2)) := ⟨_, rfl⟩
    rw [← hY] at hcat hAlt
    rw [← hX] at hcat hXlt
    rw [← hE] at hElt
    have hxor : bits BinOp.xor IntKind.u16 (65535 : Int) (E : Int) = (S : Int) := by
      have h0 := u16_xor_nat 65535 E (by decide) hElt
      rw [show ((65535 : Nat) : Int) = 65535 from rfl] at h0
      rw [h0, hS, Crc.crc, ← hE, Nat.xor_comm]
    have HX := Lib.hid hX
    have HY := Lib.hid hY
    have HE := Lib.hid hE
    have HS := Lib.hid hS
    have HCat := Lib.hid hcat
    have hN8 : N ≤ 300 := by omega
    have hNi : (n1 : Int) + (n2 : Int) = (N : Int) := by omega
    have HXor := Lib.hid hxor
    have HN := Lib.hid hN
    clear hi hz0 hz1 hz2 hoct hlen hX hY hE hS hcat h1 h2 hbeh hxor hNi hN
    go_enter Tryd.func3, Tryd.ntmps3
    go_wp2_with (at_builtin; refine wpList_append_list rfl (.const (.slice none 0 0)) (.tmp 16) 23 rfl w.heap.size 5 i0 (.int .u8 0) 1 Tryd.underlying23 HI.out HZ0.out HZ1.out HZ2.out rfl .u8 _ 0 [] rfl (World.ownsRow_nil _ _ _ _) a1 n1 c1 l1 rfl RX0.out ?_ ?_ (Nat.le_refl _) ?_)
    · unfold maxLen; omega
    · omega
    intro v2 w2 hown2 hg2
    have hb2 : Below w.heap.size w w2 := (Below.refl _ _).grown hg2 (Nat.le_refl _) (by simp [Value.ownBlock])
    have HO2 := Lib.hid hown2
    have hs2 := hb2.size
    have RY2 := Lib.hid (RY0.out.later hb2)
    have HB2 := Lib.hid hb2
    clear hb2 hg2 hown2
    go_wp2_with (at_builtin; refine wpList_append_list rfl (.tmp 17) (.tmp 18) 23 rfl w.heap.size 5 i0 (.int .u8 0) 1 Tryd.underlying23 HI.out HZ0.out HZ1.out HZ2.out rfl .u8 _ n1 l1 rfl HO2.out a2 n2 c2 l2 rfl RY2.out ?_ ?_ hs2 ?_)
    · unfold maxLen; omega
    · omega
    intro v3 w3 hown3 hg3
    have hb3 : Below w.heap.size w w3 := HB2.out.grown hg3 hs2 (fun g hg => (World.ownsRow.lt HO2.out g hg).1)
    rw [← HN.out] at hown3
    obtain ⟨a3, c3, rfl, r3, _⟩ := ownsRow_rowN .u8 hown3 HW8.out
    have BB900 := Lib.hid hb3
    have HB900 := Lib.hid (HB0.out.later hb3)
    have RX900 := Lib.hid (RX0.out.later hb3)
    have RY900 := Lib.hid (RY0.out.later hb3)
    have RA900 := Lib.hid r3
    clear hb3 r3 hown3 hg3 HO2 HB2 RY2 BB0 HB0 RX0 RY0
    go_wp2_with fail
    refine (extend_n R _ N c3 (l1 ++ l2) X _ hR HB900.out RA900.out (by rw [HX.out])).mono ?_
    rintro e w' ⟨rfl, rfl⟩
    go_wp2_with fail
    refine (refExtend_n R _ N c3 (l1 ++ l2) X _ hR RA900.out (by omega) (by rw [HX.out])).mono ?_
    rintro e w901 ⟨rfl, hb⟩
    have BB902 := Lib.hid (BB900.out.trans ((hb).mono BB900.out.size))
    have HB903 := Lib.hid (HB900.out.later (hb))
    have RX904 := Lib.hid (RX900.out.later (hb))
    have RY905 := Lib.hid (RY900.out.later (hb))
    have RA906 := Lib.hid (RA900.out.later (hb))
    clear hb BB900 HB900 RX900 RY900 RA900
    go_wp2_with fail
    refine (extend_n R _ n1 c1 l1 Y _ hR HB903.out RX904.out (by rw [HY.out])).mono ?_
    rintro e w' ⟨rfl, rfl⟩
    go_wp2_with fail
    refine (extend_n Y _ n2 c2 l2 X _ hAlt HB903.out RY905.out (by rw [HCat.out])).mono ?_
    rintro e w' ⟨rfl, rfl⟩
    go_wp2_with fail
    refine (extend_n R none 0 0 [] R _ hR HB903.out (Row.of_nil _ _) rfl).mono ?_
    rintro e w' ⟨rfl, rfl⟩
    go_wp2_with fail
    refine (sum_n _ N c3 (l1 ++ l2) S _ HB903.out RA906.out (by rw [HS.out])).mono ?_
    rintro e w' ⟨rfl, rfl⟩
    go_wp2_with fail
    refine (start_any _).mono ?_
    rintro e w' ⟨rfl, rfl⟩
    go_wp2_with fail
    refine (extend_n 65535 _ N c3 (l1 ++ l2) E _ (by decide) HB903.out RA906.out (by rw [HE.out])).mono ?_
    rintro e w' ⟨rfl, rfl⟩
    have hsg : IntKind.u16.signed = false := rfl
    have hxor : bits BinOp.xor IntKind.u16 IntKind.u16.max (E : Int) = (S : Int) := HXor.out
    go_wp2_with fail
    refine (lives_any _ HB903.out).mono ?_
    rintro e w907 ⟨rfl, hb⟩
    have BB908 := Lib.hid (BB902.out.trans ((hb).mono BB902.out.size))
    clear hb BB902 HB903 RX904 RY905 RA906
    go_wp2
    go_ret
    exact ⟨rfl, BB908.out⟩
end Go.Proofs.YtkalpjccfknopaaDoor
