/- Contracts: the statements' own unitsOf, with a new scanner. -/
import Derived.Test.YtnecdmihnndebaaDoorTcOut
namespace Go.Proofs.YtnecdmihnndebaaDoor
open Go.RowKit

/-- How many of the contents are F. -/
def goods (F : List Int) (L : List (List Int)) : Nat := (L.filter fun c => decide (c = F)).length
theorem goods_snoc (F : List Int) (L : List (List Int)) (c : List Int) : goods F (L ++ [c]) = goods F L + if c = F then 1 else 0 := by
  unfold goods
  rw [List.filter_append, List.length_append]
  by_cases h : c = F
  · simp [h]
  · simp [h]
theorem ownsRow_lowN {w : World} {B B' e d n : Nat} {v : Value} {xs : List Value} (h : w.ownsRow B e d v n xs) (hB : B' ≤ B) : w.ownsRow B' e d v n xs := by
  obtain ⟨h1, h2⟩ := h
  refine ⟨h1, ?_⟩
  rcases h2 with h2 | ⟨g, cap, cur, rfl, hg, r⟩
  · exact .inl h2
  · exact .inr ⟨g, cap, cur, rfl, by omega, r⟩
set_option maxHeartbeats 4000000 in
set_option maxRecDepth 100000 in
theorem unitsOf_any (b : Nat) (a : Option Addr) (n c : Nat) (l : List Int) (Ls : List (List Int)) (p0 : Int) (B0 : Bool) (p1 : Int) (B1 : Bool) (K T : Int) (L E F : List Int) (m q : Nat) (w : World)
    (hbe : ∀ W, Below b w W → BehindOk W) (hsc : ScAt w b none Sc.zero 0) (hrow : Row .u8 w a n c l) (he : errOf l = 0) (hsep : ∀ z, a = some z → z.block ≠ b) (hf : feed Sc.zero l = (⟨true, 0, [], 0⟩, Ls)) (hk : Ls.length = 3)
    (hdec : ∀ (a : Option Addr) (c : Nat) (W : World), Row .u8 W a q c E → Calls Tryd.prog 25 #[.slice a q c] W fun e w' => (∃ s, e = .returned (.tuple #[.agg #[.int .u8 p0, .bool B0, .int .u8 p1, .bool B1, .int .u8 K, .int .u8 T, .slice s m m], .int .i64 0]) ∧ LoadAt w' W.heap.size s L) ∧ Below W.heap.size W w')
    (hq : q ≤ 276) (hFl : F.length = q + 2) (hFt : F.take q = E) (hFg : lastTwo F q = Crc.crc (toN (F.take q)))
    (hbad : ∀ x ∈ Ls, x = F ∨ (x.length = q + 2 ∧ lastTwo x q ≠ Crc.crc (toN (x.take q)))) :
    Calls Tryd.prog 8 #[.pointer (some ⟨b, 0, none⟩), .slice a n c] w fun e w' => (∃ v ss, ∃ bad : Nat, e = .returned (.tuple #[v, .int .i64 bad]) ∧ UOut (uV p0 B0 p1 B1 K T m) L w.heap.size v ss w' ∧ ss.length = goods F Ls ∧ bad + ss.length = 3) ∧ Below b w w' := by
  have herr : Calls Tryd.prog 22 #[.pointer (some ⟨b, 0, none⟩)] w fun e w' => e = .returned (.int .i64 0) ∧ w = w' := errors_any b none Sc.zero 0 w hsc
  have hblt := hsc.lt.1
  have HErr := Lib.hid herr
  have HFeed := Lib.hid (feed_n b none Sc.zero ⟨true, 0, [], 0⟩ Ls 0 3 a n c l w hsc hrow he (fun z hz => ⟨hsep z hz, by simp⟩) (by decide) hf hk)
  have HBe := Lib.hid hbe
  have HDec := Lib.hid hdec
  have HFl := Lib.hid hFl
  have HFt := Lib.hid hFt
  have HFg := Lib.hid hFg
  have HBad := Lib.hid hbad
  have HLs := Lib.hid hk
  clear herr hsc hrow he hsep hf hk hdec hFl hFt hFg hbad hbe
  go_enter Tryd.func8, Tryd.ntmps8
  go_wp2_with fail
  refine (HErr.out).mono ?_
  rintro e w1 ⟨rfl, rfl⟩
  go_wp2_with fail
  refine (HFeed.out).mono ?_
  rintro e w9 ⟨aO, gX, rfl, hm1, hsx, hsn, _⟩
  have hs9 := hsn.exc.size
  have hbb := hsn.below (Nat.le_of_lt hblt) (by simp) (Nat.le_refl _)
  have hbw := hsn.exc.size
  have HM := Lib.hid hm1
  have HBw := Lib.hid (fun W (hb : Below w9.heap.size w9 W) => HBe.out W (hbb.trans (hb.mono (by omega))))
  have HBb := Lib.hid hbb
  have HErr9 := Lib.hid (errors_any b gX _ _ w9 hsx)
  clear hm1 hbb hsx hsn
  go_wp2_with fail
  refine (HErr9.out).mono ?_
  rintro e w10 ⟨rfl, rfl⟩
  have hc0 := HM.out.le
  have hc1 := HM.out.max
  unfold maxLen at hc1
  go_wp2_with fail
  go_loopw [9, 10, 11] (fun wv out ii wr => ∃ (k bad : Nat) (ss : List (Option Addr)), k ≤ 3 ∧ ii = .int .i64 k ∧ wv = .int .i64 bad ∧ bad + ss.length = k ∧ ss.length = goods F (Ls.take k) ∧ UOut (uV p0 B0 p1 B1 K T m) L w9.heap.size out ss wr ∧ Below w9.heap.size w9 wr) (fun _ _ ii _ => 3 - (intOf ii).toNat)
  case atStart => exact ⟨0, 0, [], by omega, rfl, by simp, rfl, rfl, UOut.nil _ _ _ _, Below.refl _ _⟩
  case round =>
    obtain ⟨k, bad, ss, hk3, rfl, rfl, hbs, hgs, huo, hbel⟩ := hrel
    have HUO := Lib.hid huo
    have HBel := Lib.hid hbel
    have HGs := Lib.hid hgs
    have hsz := hbel.size
    clear huo hbel hgs
    by_cases hlt : k < 3
    · obtain ⟨b9, o9, ra, mm, rc, lF, rfl, g9, hrF, hrc, hrp, hlF, hmm⟩ := (HM.out.later HBel.out).at (i := k) hlt
      obtain rfl := hrc rfl
      have hmem := HBad.out lF (by rw [← hlF]; exact getDL_mem (by rw [HLs.out]; exact hlt))
      have hlen2 : lF.length = q + 2 := by
        rcases hmem with h1 | h1
        · rw [h1]; exact HFl.out
        · exact h1.1
      have hsn := take_succL (L := Ls) (k := k) (by rw [HLs.out]; exact hlt)
      rw [hlF] at hsn
      rw [hlen2] at hmm
      subst hmm
      have hg2 := goods_snoc F (Ls.take k) lF
      rw [← hsn] at hg2
      have HR := Lib.hid hrF
      have HG2 := Lib.hid hg2
      have HG9 := Lib.hid g9
      clear hrF hrc hrp hlF hsn hg2 hlen2
      have g9 := HG9.out
      clear HG9
      by_cases hF : lF = F
      · subst hF
        clear hmem
        go_wp2_with fail
        refine (check_ok ra (q + 2) (q + 2) q _ E wr (HBw.out _ HBel.out) HR.out rfl (by omega) HFg.out HFt.out).mono ?_
        rintro e w11 ⟨⟨gC, rfl, hrC, _, _⟩, hb⟩
        have B11 := Lib.hid (HBel.out.trans (hb.mono hsz))
        have hb11 := Lib.hid hb
        have RC := Lib.hid hrC
        have hsz11 := hb.size
        clear hb hrC
        go_wp2_with fail
        refine (HDec.out _ _ w11 RC.out).mono ?_
        rintro e w12 ⟨⟨s3, rfl, hla⟩, hb⟩
        have hsz12 := hb.size
        have B12 := Lib.hid (B11.out.trans (hb.mono (by omega)))
        have HUO12 := Lib.hid ((HUO.out.later hb11.out).later hb)
        have HV := Lib.hid (fun z (hz : s3 = some z) (hh : _ = some z.block) => by have h1 := (LoadAt.lt hla z hz).1; have h2 := ((HUO.out.later hb11.out).block z.block hh).2; omega : ∀ z, s3 = some z → u10.ownBlock ≠ some z.block)
        have HLA := Lib.hid (hla.low (B' := w9.heap.size) (by omega))
        clear hb hla RC
        obtain ⟨w13, hw⟩ : ∃ W, W = w12.alloc (.cells #[.int .u8 p0, .bool B0, .int .u8 p1, .bool B1, .int .u8 K, .int .u8 T, .slice s3 m m] 29) := ⟨_, rfl⟩
        have hb : Below w12.heap.size w12 w13 := by rw [hw]; exact below_alloc _ _
        have ho : Own w13 w12.heap.size 29 [.int .u8 p0, .bool B0, .int .u8 p1, .bool B1, .int .u8 K, .int .u8 T, .slice s3 m m] := by rw [hw]; exact own_lit _ _ _ _ rfl
        obtain ⟨x0, x1, x2, x3, x4, x5, x6⟩ := unit_cells ho
        rw [hw] at x0 x1 x2 x3 x4 x5 x6
        have HW13 := Lib.hid hw
        have hsz13 := hb.size
        have HZ13 := Lib.hid (show w13.heap.size = w12.heap.size + 1 by rw [hw]; simp)
        have B13 := Lib.hid (B12.out.trans (hb.mono (by omega)))
        have HUO13 := Lib.hid (HUO12.out.later hb)
        have HLA13 := Lib.hid (HLA.out.later hb)
        clear hb ho hw HUO12 HLA
        have hss : ss.length ≤ 3 := by omega
        go_wp2_with (at_builtin; rw [← HW13.out, ← HZ13.out]; refine wpList_append_unit rfl _ _ rfl w9.heap.size _ L _ ss s3 _ rfl rfl (by exact HUO13.out) (by exact HLA13.out) (by exact HV.out) rfl (by simp [uV, Value.oneCell']) rfl (by omega) (by omega) ?_)
        intro v' w14 h1 h2
        have HUO14 := Lib.hid h1
        have B14 := Lib.hid (B13.out.trans h2)
        clear h1 h2 x0 x1 x2 x3 x4 x5 x6
        go_wp2
        exact ⟨⟨k + 1, bad, ss ++ [s3], by omega, by go_num, rfl, by simp; omega, by rw [HG2.out, List.length_append, HGs.out]; simp, HUO14.out, B14.out⟩, by simp [intOf]; omega⟩
      · have hb2 := (hmem.resolve_left hF).2
        have HB2 := Lib.hid hb2
        clear hb2 hmem
        go_wp2_with fail
        refine (check_no ra (q + 2) (q + 2) q lF wr (HBw.out _ HBel.out) HR.out rfl (by omega) HB2.out).mono ?_
        rintro e w11 ⟨rfl, q11, rfl⟩
        have hb := below_draw wr q11
        have B11 := Lib.hid (HBel.out.trans (hb.mono hsz))
        have hb11 := Lib.hid hb
        have hsz11 := hb.size
        clear hb
        go_wp2_with fail
        refine (decode_width none 0 0 (wr.drewN q11) (.inl (by omega)) (by omega)).mono ?_
        rintro e w12 ⟨rfl, hb⟩
        have hsz12 := hb.size
        have B12 := Lib.hid (B11.out.trans (hb.mono (by omega)))
        have HUO12 := Lib.hid ((HUO.out.later hb11.out).later hb)
        clear hb
        obtain ⟨w13, hw⟩ : ∃ W, W = w12.alloc (.cells #[.int .u8 0, .bool false, .int .u8 0, .bool false, .int .u8 0, .int .u8 0, .slice none 0 0] 29) := ⟨_, rfl⟩
        have hb : Below w12.heap.size w12 w13 := by rw [hw]; exact below_alloc _ _
        have HW13 := Lib.hid hw
        have B13 := Lib.hid (B12.out.trans (hb.mono (by omega)))
        have HUO13 := Lib.hid (HUO12.out.later hb)
        clear hb hw HUO12
        go_wp2
        rw [← HW13.out]
        exact ⟨⟨k + 1, bad + 1, ss, by omega, by go_num, by go_num, by omega, by rw [HG2.out, if_neg hF, HGs.out]; rfl, HUO13.out, B13.out⟩, by simp [intOf]; omega⟩
    · obtain rfl : k = 3 := by omega
      have hall : Ls.take 3 = Ls := List.take_of_length_le (by rw [HLs.out]; exact Nat.le_refl _)
      rw [hall] at HGs
      clear hall
      go_wp2
      go_ret2
      have h1 := HUO.out
      exact ⟨⟨_, ss, bad, rfl, ⟨ownsRow_lowN h1.own (by omega), fun s hs => ⟨(h1.rows s hs).1.low (by omega), (h1.rows s hs).2⟩⟩, HGs.out, hbs⟩, HBb.out.trans (HBel.out.mono (by omega))⟩
end Go.Proofs.YtnecdmihnndebaaDoor
