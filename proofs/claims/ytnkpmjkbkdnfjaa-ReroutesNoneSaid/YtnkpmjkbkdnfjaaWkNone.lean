/- ReroutesNone: a nil gate and the zero gate hold nothing and accept nothing. -/
import Derived.Test.YtnkpmjkbkdnfjaaRrLives
import Derived.Test.YtnkpmjkbkdnfjaaRrNone
namespace Go.Proofs.Ytnkpmjkbkdnfjaa
open Go.RowKit

set_option maxHeartbeats 4000000 in
set_option maxRecDepth 100000 in
theorem none_walk (now n : Int) (w : World) (_h0 : (Lit.int .i64 now).wf = true) (_h1 : (Lit.int .u8 n).wf = true) :
    Calls Try.prog 8 #[.int .i64 now, .int .u8 n] w fun e w' => e = .returned (.bool true) ∧ Below w.heap.size w w' := by
  have hn := wf_u8.1 _h1
  have o1 : Own (w.alloc (.cells #[.int .i64 0, .slice none 0 0, .int .u8 0, .int .u16 0, .int .u16 0, .int .u16 0, .int .u8 0, .int .i64 0] 71)) w.heap.size 71 [.int .i64 0, .slice none 0 0, .int .u8 0, .int .u16 0, .int .u16 0, .int .u16 0, .int .u8 0, .int .i64 0] := own_lit w _ _ _ rfl
  have hb1 : Below w.heap.size w (w.alloc (.cells #[.int .i64 0, .slice none 0 0, .int .u8 0, .int .u16 0, .int .u16 0, .int .u16 0, .int .u8 0, .int .i64 0] 71)) := below_alloc _ _
  have o2 : Own (World.alloc (w.alloc (.cells #[.int .i64 0, .slice none 0 0, .int .u8 0, .int .u16 0, .int .u16 0, .int .u16 0, .int .u8 0, .int .i64 0] 71)) (.cells #[.pointer none, .pointer (some ⟨w.heap.size, 0, none⟩)] 24)) (w.heap.size + 1) 24 [.pointer none, .pointer (some ⟨w.heap.size, 0, none⟩)] := by
    have := own_lit (w.alloc (.cells #[.int .i64 0, .slice none 0 0, .int .u8 0, .int .u16 0, .int .u16 0, .int .u16 0, .int .u8 0, .int .i64 0] 71)) 24 #[.pointer none, .pointer (some ⟨w.heap.size, 0, none⟩)] _ rfl
    rw [World.size_alloc] at this
    exact this
  have o1' := o1.below (below_alloc _ (.cells #[.pointer none, .pointer (some ⟨w.heap.size, 0, none⟩)] 24)) o1.lt
  have hb2 := hb1.trans ((below_alloc (w.alloc (.cells #[.int .i64 0, .slice none 0 0, .int .u8 0, .int .u16 0, .int .u16 0, .int .u16 0, .int .u8 0, .int .i64 0] 71)) (.cells #[.pointer none, .pointer (some ⟨w.heap.size, 0, none⟩)] 24)).mono hb1.size)
  have H := Lib.hid (And.intro o1' (And.intro o2 hb2))
  have HN := Lib.hid hn
  clear o1 o1' o2 hb1 hb2 hn
  go_enter Try.func8, Try.ntmps8
  go_upto_region 4 with fail
  generalize World.alloc (w.alloc (.cells #[.int .i64 0, .slice none 0 0, .int .u8 0, .int .u16 0, .int .u16 0, .int .u16 0, .int .u8 0, .int .i64 0] 71)) _ = W at *
  obtain ⟨s, hs⟩ : ∃ s, s = w.heap.size + 1 := ⟨_, rfl⟩
  obtain ⟨z, hz⟩ : ∃ z, z = w.heap.size := ⟨_, rfl⟩
  obtain ⟨p1, p2, p3⟩ := H.out
  rw [← hz] at p1
  rw [← hs, ← hz] at p2
  rw [← hs, ← hz]
  have HW := Lib.hid (And.intro p1 (And.intro p2 p3))
  clear p1 p2 p3 hs hz H
  go_wp2_with fail
  go_loopw [8] (fun i wr => ∃ k : Nat, k ≤ 2 ∧ i = .int .i64 k ∧ Below W.heap.size W wr) (fun i _ => 2 - (intOf i).toNat)
  case atStart => exact ⟨0, Nat.zero_le _, rfl, Below.refl _ _⟩
  case round =>
    obtain ⟨k, hk, rfl, hb⟩ := hrel
    have HX := Lib.hid hb
    clear hb
    by_cases hlt : k < 2
    · obtain ⟨v, cv, hno⟩ : ∃ v, wr.cell? ⟨s, k, none⟩ = some (.pointer v) ∧ NoGt wr v := by
        have p1 := HW.out.1.below HX.out HW.out.1.lt
        have p2 := HW.out.2.1.below HX.out HW.out.2.1.lt
        rcases (by omega : k = 0 ∨ k = 1) with rfl | rfl
        · exact ⟨none, p2.cell 0 (by simp), .inl rfl⟩
        · exact ⟨some ⟨z, 0, none⟩, p2.cell 1 (by simp), .inr ⟨z, rfl, p1.cell 2 (by simp)⟩⟩
      have HNo := Lib.hid hno
      have k1 : (k : Int) < 2 := by omega
      have k0 : (0 : Int) ≤ (k : Int) := by omega
      clear hno
      go_wp2_with fail
      refine (way_no v wr HNo.out).mono ?_
      rintro e w2 ⟨rfl, hb2⟩
      -- the way's own block
      have ho := own_lit w2 34 #[.int .u16 0, .int .u16 0, .int .u16 0, .int .u8 0] _ rfl
      have hba := below_alloc w2 (.cells #[.int .u16 0, .int .u16 0, .int .u16 0, .int .u8 0] 34)
      have N2 := Lib.hid ((HNo.out.later hb2).later hba)
      have X2 := Lib.hid ((HX.out.trans (hb2.mono HX.out.size)).trans (hba.mono (Nat.le_trans HX.out.size hb2.size)))
      have HO := Lib.hid ho
      clear hb2 hba ho
      go_upto_region 9 with fail
      generalize w2.alloc _ = w3 at *
      obtain ⟨p, hp⟩ : ∃ p, p = w2.heap.size := ⟨_, rfl⟩
      have ho := HO.out
      rw [← hp] at ho ⊢
      have HO2 := Lib.hid ho
      clear ho HO hp
      go_wp2_with fail
      refine (show Calls Try.prog 18 #[.int .i64 1] w3 (fun e w' => ItemOut w3 1 e w') from item_any 1 w3 (by decide)).mono ?_
      rintro e w4 ⟨g, rfl, hr, hg, hb⟩
      have N2 := Lib.hid (N2.out.later hb)
      have X2 := Lib.hid (X2.out.trans (hb.mono X2.out.size))
      have HO2 := Lib.hid (HO2.out.below hb HO2.out.lt)
      clear hb
      clear hr hg
      go_wp2_with fail
      refine (offer_no v _ _ _ _ _ _ _ _ _ _ w4 N2.out).mono ?_
      rintro e w5 ⟨rfl, hb⟩
      have N2 := Lib.hid (N2.out.later hb)
      have X2 := Lib.hid (X2.out.trans (hb.mono X2.out.size))
      have HO2 := Lib.hid (HO2.out.below hb HO2.out.lt)
      clear hb
      go_wp2_with fail
      refine (cut_no v w5 N2.out).mono ?_
      rintro e w6 ⟨rfl, q, hq⟩
      have hb : Below _ _ w6 := hq ▸ below_draw _ q
      clear hq
      have N2 := Lib.hid (N2.out.later hb)
      have X2 := Lib.hid (X2.out.trans (hb.mono X2.out.size))
      have HO2 := Lib.hid (HO2.out.below hb HO2.out.lt)
      clear hb
      have ho := HO2.out
      have k0' := ho.cell 0 (by simp)
      have k1' := ho.cell 1 (by simp)
      have k2' := ho.cell 2 (by simp)
      have k3' := ho.cell 3 (by simp)
      simp only [List.getD_cons_zero, List.getD_cons_succ] at k0' k1' k2' k3'
      clear ho
      go_wp2_with fail
      refine (return_no v none 0 0 w6 N2.out).mono ?_
      rintro e w' ⟨rfl, q, rfl⟩
      have hq := fun w => neqlWy 0 0 0 0 0 0 0 0 w
      simp only [decide_true, Bool.not_true] at hq
      go_wp2_with fail
      generalize hW : World.drewN _ q = w7
      have hb : Below _ _ w7 := hW ▸ below_draw _ q
      have N2 := Lib.hid (N2.out.later hb)
      have X2 := Lib.hid (X2.out.trans (hb.mono X2.out.size))
      have HO2 := Lib.hid (HO2.out.below hb HO2.out.lt)
      clear hb hW k0' k1' k2' k3' hq
      go_wp2_with fail
      refine (waits_no v w7 N2.out).mono ?_
      rintro e w8 ⟨rfl, q, hq⟩
      have hb : Below _ _ w8 := hq ▸ below_draw _ q
      clear hq
      have N2 := Lib.hid (N2.out.later hb)
      have X2 := Lib.hid (X2.out.trans (hb.mono X2.out.size))
      have HO2 := Lib.hid (HO2.out.below hb HO2.out.lt)
      clear hb
      go_wp2_with fail
      refine (len_no v w8 N2.out).mono ?_
      rintro e w9 ⟨rfl, q, hq⟩
      have hb : Below _ _ w9 := hq ▸ below_draw _ q
      clear hq
      have N2 := Lib.hid (N2.out.later hb)
      have X2 := Lib.hid (X2.out.trans (hb.mono X2.out.size))
      have HO2 := Lib.hid (HO2.out.below hb HO2.out.lt)
      clear hb
      go_wp2_with fail
      refine (wayN_any n w9 HN.out.1 HN.out.2).mono ?_
      rintro e w10 ⟨rfl, hb⟩
      have N2 := Lib.hid (N2.out.later hb)
      have X2 := Lib.hid (X2.out.trans (hb.mono X2.out.size))
      have HO2 := Lib.hid (HO2.out.below hb HO2.out.lt)
      clear hb
      go_wp2_with fail
      refine (pass_zero v now _ _ _ _ w10 N2.out).mono ?_
      rintro e w11 ⟨rfl, hb⟩
      have N2 := Lib.hid (N2.out.later hb)
      have X2 := Lib.hid (X2.out.trans (hb.mono X2.out.size))
      have HO2 := Lib.hid (HO2.out.below hb HO2.out.lt)
      clear hb
      go_wp2_with fail
      refine (flush_no v w11 N2.out).mono ?_
      rintro e w12 ⟨rfl, q, hq⟩
      have hb : Below _ _ w12 := hq ▸ below_draw _ q
      clear hq
      have N2 := Lib.hid (N2.out.later hb)
      have X2 := Lib.hid (X2.out.trans (hb.mono X2.out.size))
      have HO2 := Lib.hid (HO2.out.below hb HO2.out.lt)
      clear hb
      go_wp2
      exact ⟨⟨k + 1, by omega, by go_num, X2.out⟩, by simp [intOf]; omega⟩
    · obtain rfl : k = 2 := by omega
      go_wp2_with fail
      refine (lives_any wr).mono ?_
      rintro e w2 ⟨rfl, hb2⟩
      go_wp2
      go_ret
      exact ⟨rfl, (HW.out.2.2.trans (HX.out.mono HW.out.2.2.size)).trans (hb2.mono (Nat.le_trans HW.out.2.2.size HX.out.size))⟩
end Go.Proofs.Ytnkpmjkbkdnfjaa
