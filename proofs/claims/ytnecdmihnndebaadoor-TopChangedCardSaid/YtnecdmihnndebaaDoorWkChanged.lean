/- The walk of TopChanged. -/
import Derived.Test.YtnecdmihnndebaaDoorTcUnits
import Derived.Test.YtnecdmihnndebaaDoorTcBottom
import Derived.Deep.RegionHeld3
namespace Go.Proofs.YtnecdmihnndebaaDoor
open Go.RowKit

theorem mat_three {w : World} {P : Nat → Prop} {v0 v1 v2 : Value} {l0 l1 l2 : List Int} (h0 : RowV w P false v0 l0) (h1 : RowV w P false v1 l1) (h2 : RowV w P false v2 l2) :
    Mat (w.alloc (.cells #[v0, v1, v2] 23)) (fun j => P j ∨ j = w.heap.size) false (some ⟨w.heap.size, 0, none⟩) 3 3 [l0, l1, l2] := by
  refine ⟨rfl, Nat.le_refl _, by unfold maxLen; omega, .inr ⟨_, 0, rfl, .inr rfl, fun i hi => ?_⟩, by simp⟩
  have ho : Own (w.alloc (.cells #[v0, v1, v2] 23)) w.heap.size 23 [v0, v1, v2] := heap_alloc_new w _
  rcases (by omega : i = 0 ∨ i = 1 ∨ i = 2) with rfl | rfl | rfl
  · exact ⟨v0, ho.cell 0 (by simp), (h0.later (below_alloc w _)).mono (fun j _ hj => .inl hj) (.inr fun j hj => .inl hj)⟩
  · exact ⟨v1, ho.cell 1 (by simp), (h1.later (below_alloc w _)).mono (fun j _ hj => .inl hj) (.inr fun j hj => .inl hj)⟩
  · exact ⟨v2, ho.cell 2 (by simp), (h2.later (below_alloc w _)).mono (fun j _ hj => .inl hj) (.inr fun j hj => .inl hj)⟩
theorem xor_pow {X t : Nat} (hX8 : X < 256) (ht8 : t < 8) : bits BinOp.xor IntKind.u8 (X : Int) (2 ^ t % 256) = ((X ^^^ 2 ^ t : Nat) : Int) := by
  have h2 : 2 ^ t < 256 := show 2 ^ t < 2 ^ 8 from Nat.pow_lt_pow_right (by decide) ht8
  have e : ((2 : Int) ^ t % 256) = ((2 ^ t : Nat) : Int) := by
    have e1 : ((2 : Int) ^ t) = ((2 ^ t : Nat) : Int) := by push_cast; rfl
    rw [e1]
    exact Int.emod_eq_of_lt (Int.natCast_nonneg _) (show ((2 ^ t : Nat) : Int) < ((256 : Nat) : Int) from Int.ofNat_lt.2 h2)
  rw [e, u8_xor_nat X (2 ^ t) hX8 h2]
theorem Row.later2 {k : IntKind} {w w' : World} {a : Option Addr} {n c : Nat} {l : List Int} (h : Row k w a n c l) {B : Nat} (hb : Below B w w') (hlt : ∀ z, a = some z → z.block < B) : Row k w' a n c l :=
  h.exc (S := fun k => B ≤ k) ⟨hb.os, hb.tape, hb.output, hb.size, fun k _ hk => hb.block k (by omega)⟩ fun x hx => by have := hlt x hx; omega
theorem flips_append (l xs ys : List Nat) : Crc.flips l (xs ++ ys) = Crc.flips (Crc.flips l xs) ys := by simp [Crc.flips]
theorem wf_u16' {x : Int} : (Lit.int .u16 x).wf = true ↔ 0 ≤ x ∧ x ≤ 65535 := wf_u16
set_option maxHeartbeats 4000000 in
set_option maxRecDepth 100000 in
theorem topChanged_walk (a0 a1 a2 a3 : Int) (size : Nat) (s : Option Addr) (n c : Nat) (l : List Int) (A B C V : Nat) (w : World) (hbe : BehindOk w) (hfl : FlagOk w) (h00 : 0 ≤ a0) (h01 : a0 ≤ 255) (h10 : 0 ≤ a1) (h11 : a1 ≤ 255) (h20 : 0 ≤ a2) (h21 : a2 ≤ 255) (h30 : 0 ≤ a3) (h31 : a3 ≤ 255) (hs : size ≤ 65535) (h : Row .u8 w s n c l)
    (hA : A ≤ 65535) (hB : B ≤ 65535) (hC : C ≤ 65535) (hV : V ≤ 65535) :
    Calls Tryd.prog 3 #[.agg #[.int .u8 a0, .int .u8 a1, .int .u8 a2, .int .u8 a3, .int .u16 (size : Int), .slice s n c], .agg #[.int .u16 (A : Int), .int .u16 (B : Int), .int .u16 (C : Int)], .int .u16 (V : Int)] w fun e w' => e = .returned (.bool true) ∧ Below w.heap.size w w' := by
  obtain ⟨m, hm⟩ : ∃ m, (uLoad a2 size l).length = m := ⟨_, rfl⟩
  have hcu := chk_u (a0 := a0) (a1 := a1) (a2 := a2) (a3 := a3) (size := size) (l := l)
  have hlo := uLoad_octs (a2 := a2) (size := size) (l := l) (fun x hx => wf_u8.1 (h.wf x hx))
  have hst := uStat_range (a2 := a2) (a3 := a3)
  have hL2 : a2 % 3 ≠ 2 → uLoad a2 size l = [] := fun hh => by unfold uLoad; rw [if_neg hh]
  have hmm := hm
  rw [hm] at hcu
  obtain ⟨L, eL⟩ : ∃ x, x = uLoad a2 size l := ⟨_, rfl⟩
  obtain ⟨K, eK⟩ : ∃ x, x = a2 % 3 := ⟨_, rfl⟩
  obtain ⟨T, eT⟩ : ∃ x : Nat, (x : Int) = uStat a2 a3 := ⟨(uStat a2 a3).toNat, by omega⟩
  obtain ⟨N0, e0⟩ : ∃ x : Nat, (x : Int) = a0 % 128 := ⟨(a0 % 128).toNat, by omega⟩
  obtain ⟨N1, e1⟩ : ∃ x : Nat, (x : Int) = a1 % 128 := ⟨(a1 % 128).toNat, by omega⟩
  obtain ⟨B0, d0⟩ : ∃ x, x = decide (128 ≤ a0) := ⟨_, rfl⟩
  obtain ⟨B1, d1⟩ : ∃ x, x = decide (128 ≤ a1) := ⟨_, rfl⟩
  rw [← e0, ← e1, ← eK, ← eT] at hcu
  rw [← eL] at hlo hm hL2
  rw [← eK] at hL2
  rw [← eT] at hst
  have hN0 : N0 < 128 := by omega
  have hN1 : N1 < 128 := by omega
  have hT : T ≤ 5 := by omega
  have hK : K = 0 ∨ K = 1 ∨ K = 2 := by omega
  have hK0 : 0 ≤ K := by omega
  have hK2 : K ≤ 2 := by omega
  obtain ⟨hx1, hx2, hx3, hx4, hx5, hm2, hm0⟩ := chk_ok.1 hcu
  clear hx1 hx2 hx3 hx4 hx5
  have hm273 : m ≤ 273 := by
    rcases hK with hh | hh | hh
    · rw [hL2 (by omega)] at hm; simp at hm; omega
    · rw [hL2 (by omega)] at hm; simp at hm; omega
    · exact (hm2 hh).2
  have hua := fun W (hb : Below w.heap.size w W) => uof_any a0 a1 a2 a3 size s n c l W h00 h01 h10 h11 h20 h21 h30 h31 hs (h.later hb) m hmm
  rw [← e0, ← e1, ← d0, ← d1, ← eK, ← eT, ← eL] at hua
  obtain ⟨nc, hnc⟩ : ∃ x, (contL K T L).length = x := ⟨_, rfl⟩
  have hnc1 := cont_len hcu hm
  rw [hnc] at hnc1
  obtain ⟨E, eE⟩ : ∃ x, x = encL N0 B0 N1 B1 K T L := ⟨_, rfl⟩
  have hEo := enc_octs (p0 := (N0 : Int)) (p1 := (N1 : Int)) (B0 := B0) (B1 := B1) (by omega) (by omega) (by omega : 0 ≤ (T : Int)) hcu hlo
  rw [← eE] at hEo
  obtain ⟨q, hq⟩ : ∃ q, 3 + nc = q := ⟨_, rfl⟩
  have hEl : E.length = q := by rw [eE, encL_length, hnc, hq]
  have hq1 : 3 ≤ q := by omega
  have hq2 : q ≤ 276 := by omega
  have hdec := fun (a : Option Addr) (c' : Nat) (W : World) (hr : Row .u8 W a q c' E) => decode_enc (N0 : Int) (N1 : Int) K (T : Int) B0 B1 L E m q a c' W (by omega) (by omega) hK0 hcu hm eE (by rw [hnc]; exact hq) hr
  have henc := fun (W : World) (s' : Option Addr) (hr : Row .u8 W s' m m L) => encode_ok (N0 : Int) B0 (N1 : Int) B1 K (T : Int) s' m m nc L W (by omega) (by omega) hK0 (by omega) hr hcu hnc
  rw [← eE, hq] at henc
  have hsame := fun (W : World) (sa sb : Option Addr) (ha : Row .u8 W sa m m L) (hb : Row .u8 W sb m m L) => usame_any (N0 : Int) B0 (N1 : Int) B1 K (T : Int) sa m m L (N0 : Int) B0 (N1 : Int) B1 K (T : Int) sb m m L W ha hb
  rw [sameU_refl] at hsame
  obtain ⟨F, eF⟩ : ∃ F, addL E = F := ⟨_, rfl⟩
  have hFok : okC F := by rw [← eF]; exact okC_addL hEo (by omega) (by omega)
  have hFl : F.length = q + 2 := by rw [← eF, addL_length, hEl]
  have hFt : F.take q = E := by rw [← eF, ← hEl]; exact addL_take E
  have hFg : lastTwo F q = Crc.crc (toN (F.take q)) := by rw [← eF, ← hEl]; exact addL_good hEo
  obtain ⟨N, hN⟩ : ∃ N, N = 8 * (q + 2) := ⟨_, rfl⟩
  have hNa : 40 ≤ N := by omega
  have hNb : N ≤ 2300 := by omega
  have hNi : 8 * ((q : Int) + 2) = (N : Int) := by omega
  obtain ⟨D, hD⟩ : ∃ D, D = toN F := ⟨_, rfl⟩
  have hDlt : ∀ x ∈ D, x < 256 := by rw [hD]; exact toN_lt hFok.2.2
  have hDl : D.length = q + 2 := by rw [hD, toN_length, hFl]
  have hDo : ofN D = F := by rw [hD]; exact ofN_toN hFok.2.2
  obtain ⟨G, hG⟩ : ∃ G, G = ofN (Crc.flips D (posL N A B C V)) := ⟨_, rfl⟩
  have hGc : chgL E (posL (8 * (q + 2)) A B C V) = G := by rw [hG, hD, ← eF, hN]; rfl
  have hGok : okC G := by rw [← hGc]; exact okC_chgL hEo hEl hq1 hq2 _
  have hGl : G.length = q + 2 := by rw [← hGc, chgL_length, hEl]
  have hGd := chgL_cases q A B C V hEo hEl
  rw [hGc, eF] at hGd
  obtain ⟨hJe, hJ1, hJ2⟩ := joinL_three hFok hGok
  obtain ⟨J, hJ⟩ : ∃ J, (joinL [F, G, F]).length = J := ⟨_, rfl⟩
  rw [hJ] at hJ1 hJ2
  have hfeed := feed_three hFok hGok
  have HUa := Lib.hid hua
  have HDec := Lib.hid hdec
  have HEnc := Lib.hid henc
  have HSame := Lib.hid hsame
  have HLo := Lib.hid hlo
  have HM := Lib.hid hm
  have HEF := Lib.hid eF
  have HFok := Lib.hid hFok
  have HGok := Lib.hid hGok
  have HFl := Lib.hid hFl
  have HGl := Lib.hid hGl
  have HFt := Lib.hid hFt
  have HFg := Lib.hid hFg
  have HEo := Lib.hid hEo
  have HN := Lib.hid hN
  have HDlt := Lib.hid hDlt
  have HDl := Lib.hid hDl
  have HDo := Lib.hid hDo
  have HG := Lib.hid hG
  have HGd := Lib.hid hGd
  have HJe := Lib.hid hJe
  have HJ := Lib.hid hJ
  have HFeed := Lib.hid hfeed
  have HArg := Lib.hid h
  have HBe0 := Lib.hid hbe
  have HFl0 := Lib.hid hfl
  clear hua hdec henc hsame hlo hm eF hFok hGok hFl hGl hFt hFg hEo hN hDlt hDl hDo hG hGd hJe hJ hfeed hbe hfl hGc hD hEl eE hnc hmm hm2 hm0
  clear hK hcu hL2 hst eL eK eT e0 e1 d0 d1 h
  have g00 : 0 ≤ (N0 : Int) := by omega
  have g01 : (N0 : Int) ≤ 127 := by omega
  have g10 : 0 ≤ (N1 : Int) := by omega
  have g11 : (N1 : Int) ≤ 127 := by omega
  have gT0 : 0 ≤ (T : Int) := by omega
  have gT1 : (T : Int) ≤ 5 := by omega
  obtain ⟨w0, hw0⟩ : ∃ W, W = (w.alloc (.cells #[.int .u8 a0, .int .u8 a1, .int .u8 a2, .int .u8 a3, .int .u16 (size : Int), .slice s n c] 25)).alloc (.cells #[.int .u16 (A : Int), .int .u16 (B : Int), .int .u16 (C : Int)] 26) := ⟨_, rfl⟩
  have hb0 : Below w.heap.size w w0 := by rw [hw0]; exact ((Below.refl _ _).alloc (Nat.le_refl _) _).alloc (by simp) _
  have hz0 : w0.heap.size = w.heap.size + 2 := by rw [hw0]; simp
  have hoa : Own w0 (w.heap.size + 1) 26 [.int .u16 (A : Int), .int .u16 (B : Int), .int .u16 (C : Int)] := by
    rw [hw0]
    have hh := own_lit (w.alloc (.cells #[.int .u8 a0, .int .u8 a1, .int .u8 a2, .int .u8 a3, .int .u16 (size : Int), .slice s n c] 25)) 26 #[.int .u16 (A : Int), .int .u16 (B : Int), .int .u16 (C : Int)] _ rfl
    rw [World.size_alloc] at hh
    exact hh
  have HW0 := Lib.hid hw0
  have HOA := Lib.hid hoa
  have BB0 := Lib.hid hb0
  have C0 := Lib.hid (Below.refl w0.heap.size w0)
  clear hw0 hoa hb0
  go_enter Tryd.func3, Tryd.ntmps3
  go_wp2_with fail
  rw [← HW0.out]
  refine (HUa.out w0 BB0.out).mono ?_
  rintro e w1 ⟨⟨s1, rfl, hla⟩, hb⟩
  have C01 := Lib.hid (C0.out.trans (hb.mono C0.out.size))
  have BB1 := Lib.hid (BB0.out.trans (hb.mono BB0.out.size))
  have LA1 := Lib.hid hla
  clear hb hla C0
  obtain ⟨w2, hw⟩ : ∃ W, W = w1.alloc (.cells #[.int .u8 (N0 : Int), .bool B0, .int .u8 (N1 : Int), .bool B1, .int .u8 K, .int .u8 (T : Int), .slice s1 m m] 29) := ⟨_, rfl⟩
  have hb : Below w1.heap.size w1 w2 := by rw [hw]; exact below_alloc _ _
  have ho : Own w2 w1.heap.size 29 [.int .u8 (N0 : Int), .bool B0, .int .u8 (N1 : Int), .bool B1, .int .u8 K, .int .u8 (T : Int), .slice s1 m m] := by rw [hw]; exact own_lit _ _ _ _ rfl
  have HW2 := Lib.hid hw
  have C02 := Lib.hid (C01.out.trans (hb.mono C01.out.size))
  have BB2 := Lib.hid (BB1.out.trans (hb.mono BB1.out.size))
  have hrow : Row .u8 w2 s1 m m L := by have := (LA1.out.later hb).row (by rw [HM.out]; omega) HLo.out; rwa [HM.out] at this
  have HRow := Lib.hid hrow
  have HO2 := Lib.hid ho
  have C22 := Lib.hid (Below.refl w2.heap.size w2)
  have hs2 := hb.size
  have hlt2 := ho.lt
  have zC0 := C01.out.size
  clear hb hw ho BB1 C01 LA1 hrow
  go_wp2_with fail
  rw [← HW2.out]
  refine (HEnc.out w2 s1 HRow.out).mono ?_
  rintro e w3 ⟨⟨d, rfl, hd⟩, hb⟩
  have BB3 := Lib.hid (BB2.out.trans ((hb).mono BB2.out.size))
  have C23 := Lib.hid (C22.out.trans ((hb).mono C22.out.size))
  have C03 := Lib.hid (C02.out.trans (hb.mono C02.out.size))
  clear BB2 C22 C02
  have hs3 := hb.size
  have hre : Row .u8 w3 (some ⟨d, 0, none⟩) q q E := by
    obtain ⟨a', c', hv, hr, _⟩ := ownsRow_rowN .u8 hd (fun x hx => wf_u8.2 (HEo.out x hx))
    simp only [Value.slice.injEq] at hv
    obtain ⟨rfl, _, rfl⟩ := hv
    exact hr
  have HRE := Lib.hid hre
  clear hb hd hre
  go_wp2_with fail
  refine (add_n _ q q (q + 2) E F w3 (HBe0.out.later BB3.out) HRE.out (by omega) rfl HEF.out).mono ?_
  rintro e w6 ⟨⟨gF, rfl, hrF, hoF, hgF⟩, hb⟩
  have BB6 := Lib.hid (BB3.out.trans ((hb).mono BB3.out.size))
  have C26 := Lib.hid (C23.out.trans ((hb).mono C23.out.size))
  have C06 := Lib.hid (C03.out.trans ((hb).mono C03.out.size))
  clear BB3 C23 C03
  have hs6 := hb.size
  have hgF6 := hoF.lt
  have RF6 := Lib.hid hrF
  clear hb hrF hoF
  obtain ⟨i0, hi0, hz0', hz1, hz2⟩ := info_parts info8
  have HI := Lib.hid hi0
  have HZ0 := Lib.hid hz0'
  have HZ1 := Lib.hid hz1
  have HZ2 := Lib.hid hz2
  clear hi0 hz0' hz1 hz2
  go_wp2_with (at_builtin; refine wpList_append_list rfl (.const (.slice none 0 0)) (.tmp 39) 23 rfl w6.heap.size 5 i0 (.int .u8 0) 1 Tryd.underlying23 HI.out HZ0.out HZ1.out HZ2.out rfl .u8 _ 0 [] rfl (World.ownsRow_nil _ _ _ _) _ (q + 2) (q + 2) F rfl RF6.out ?_ ?_ (Nat.le_refl _) ?_)
  · unfold maxLen; omega
  · omega
  intro v7 w7 hown hgr
  have hb : Below w6.heap.size w6 w7 := (Below.refl _ _).grown hgr (Nat.le_refl _) (by simp [Value.ownBlock])
  obtain ⟨g, c3, rest, rfl, hgB, hown, hc3, hc3m⟩ := ownsRow_own2 hown (by omega)
  rw [← HDo.out] at hown
  have HO7 := Lib.hid hown
  have BB7 := Lib.hid (BB6.out.trans ((hb).mono BB6.out.size))
  have C27 := Lib.hid (C26.out.trans ((hb).mono C26.out.size))
  have C07 := Lib.hid (C06.out.trans ((hb).mono C06.out.size))
  have RF7 := Lib.hid (RF6.out.later hb)
  have B67 := Lib.hid hb
  have hs7 := hb.size
  clear hown hgr hb BB6 C26 C06
  go_wp2_with fail
  go_loopw [13] (fun ii wr => ∃ k : Nat, k ≤ 3 ∧ ii = .int .i64 k ∧ (V ≠ 0 → k = 0) ∧ Only g w7 wr ∧ Own wr g 5 (nums .u8 (ofN (Crc.flips D (tri N A B C k))) ++ rest)) (fun ii _ => 3 - (intOf ii).toNat)
  case atStart => exact ⟨0, by omega, rfl, fun _ => rfl, Only.refl _ _, HO7.out⟩
  case round =>
    obtain ⟨k, hk, rfl, hk0, honly, hown⟩ := hrel
    by_cases hgo : k < 3 ∧ V = 0
    · obtain ⟨hlt, hv0⟩ := hgo
      have hlti : (k : Int) < 3 := by omega
      have hvb : ((V : Int) == 0) = true := by rw [hv0]; rfl
      obtain ⟨Z, hZ⟩ : ∃ Z, Z = [A, B, C].getD k 0 := ⟨_, rfl⟩
      have hZb : Z ≤ 65535 := by
        rw [hZ]; rcases (by omega : k = 0 ∨ k = 1 ∨ k = 2) with rfl | rfl | rfl
        · exact hA
        · exact hB
        · exact hC
      have hcz : w0.cell? ⟨w.heap.size + 1, k, none⟩ = some (.int .u16 (Z : Int)) := by
        rw [HOA.out.cell k (by simp; omega), hZ]
        rcases (by omega : k = 0 ∨ k = 1 ∨ k = 2) with rfl | rfl | rfl <;> rfl
      have hts := tri_snoc N A B C k hlt
      rw [← hZ] at hts
      have hzr : wr.cell? ⟨w.heap.size + 1, k, none⟩ = some (.int .u16 (Z : Int)) := by
        have hbw := Only.below C07.out honly C07.out.size (by omega)
        rw [hbw.cell (p := ⟨w.heap.size + 1, k, none⟩) (by have := HOA.out.lt; exact this)]; exact hcz
      obtain ⟨P, hP⟩ : ∃ P, P = Z % N := ⟨_, rfl⟩
      rw [← hP] at hts
      have hPN : P < N := by rw [hP]; exact Nat.mod_lt _ (by omega)
      have hPi : (Z : Int) % (N : Int) = (P : Int) := by rw [hP]; omega
      have hPt : (Z : Int).tmod (N : Int) = (P : Int) := by rw [Int.tmod_eq_emod_of_nonneg (by omega)]; exact hPi
      obtain ⟨Y, hY⟩ : ∃ Y, Y = Crc.flips D (tri N A B C k) := ⟨_, rfl⟩
      rw [← hY] at hown
      have hYl : Y.length = q + 2 := by rw [hY, Crc.flips_length, HDl.out]
      have hYlt : ∀ x ∈ Y, x < 256 := by rw [hY]; exact Crc.flips_lt HDlt.out
      obtain ⟨Q, hQ⟩ : ∃ Q, Q = P / 8 := ⟨_, rfl⟩
      obtain ⟨t, ht⟩ : ∃ t, t = P % 8 := ⟨_, rfl⟩
      have hNq := HN.out
      have hQn : Q < q + 2 := by omega
      have ht8 : t < 8 := by omega
      have hcell := hown.cell Q (by rw [List.length_append, nums_length, ofN_length, hYl]; omega)
      have hfr := hown.frozen Q
      rw [getD_left _ _ _ _ (by rw [nums_length, ofN_length, hYl]; omega), nums_getD _ _ _ (by rw [ofN_length, hYl]; omega), ofN_getD] at hcell
      have hX8 := Crc.getD_lt hYlt Q
      obtain ⟨X, hX⟩ : ∃ X, X = Y.getD Q 0 := ⟨_, rfl⟩
      rw [← hX] at hcell hX8
      have hd1 : (P : Int) / 8 = (Q : Int) := by omega
      have hd2 : (P : Int) % 8 = (t : Int) := by omega
      have hd3 : (P : Int).tdiv 8 = (Q : Int) := by rw [Int.tdiv_eq_ediv_of_nonneg (by omega)]; exact hd1
      have hd4 : (P : Int).tmod 8 = (t : Int) := by rw [Int.tmod_eq_emod_of_nonneg (by omega)]; exact hd2
      have hQi : (Q : Int) < (q : Int) + 2 := by omega
      have hQ0 : (0 : Int) ≤ (Q : Int) := by omega
      have hwQ : IntKind.i64.wrap (Q : Int) = (Q : Int) := IntWalk.i64_in _ (by omega)
      have hwt : IntKind.i64.wrap (t : Int) = (t : Int) := IntWalk.i64_in _ (by omega)
      have ht0 : (0 : Int) ≤ (t : Int) := by omega
      have HYl := Lib.hid hYl
      have HOwn := Lib.hid hown
      have HOnly := Lib.hid honly
      have HX := Lib.hid hX
      have HTs := Lib.hid hts
      have HQ := Lib.hid hQ
      have Ht := Lib.hid ht
      have HY := Lib.hid hY
      have HV0 := Lib.hid hv0
      clear hown honly hX hts hP hQ ht hcz hY hYl hYlt hZ hv0 hk0 hNq
      go_wp2
      go_still_tail 13, (by kernel_rfl)
      change wpList _ _ _ _ _ wr.drew
      go_wp2
      have hv : bits BinOp.xor IntKind.u8 (X : Int) (2 ^ t % 256) = ((X ^^^ 2 ^ t : Nat) : Int) := xor_pow hX8 ht8
      have hn := HOwn.out.set_left Q (by rw [ofN_length, HYl.out]; exact hQn) ((X ^^^ 2 ^ t : Nat) : Int)
      have hnew : Crc.flips D (tri N A B C (k + 1)) = Y.set Q (X ^^^ 2 ^ t) := by
        rw [HTs.out, flips_snoc, ← HY.out, ← HQ.out, ← Ht.out, ← HX.out]
      rw [ofN_set, ← hnew] at hn
      rw [hv]
      exact ⟨⟨k + 1, by omega, by go_num, fun hh => absurd HV0.out hh, (HOnly.out.setCell _ _).drew, hn.drew⟩, by simp [intOf]; omega⟩
    · have hkk : (k = 3 ∧ V = 0) ∨ (k = 0 ∧ V ≠ 0) := by
        by_cases hv : V = 0
        · exact .inl ⟨by omega, hv⟩
        · exact .inr ⟨hk0 hv, hv⟩
      clear hgo hk0 hk
      have HOnly0 := Lib.hid honly
      have HOwn0 := Lib.hid hown
      clear honly hown
      rcases hkk with ⟨rfl, hv⟩ | ⟨rfl, hv⟩
      · have hD1 : Crc.flips D (tri N A B C 3) = Crc.flips D (tri N A B C (if V = 0 then 3 else 0)) := by rw [if_pos hv]
        have HV := Lib.hid hv
        clear hv
        obtain ⟨D1, eD1⟩ : ∃ x, x = Crc.flips D (tri N A B C (if V = 0 then 3 else 0)) := ⟨_, rfl⟩
        have hD1l : D1.length = q + 2 := by rw [eD1, Crc.flips_length, HDl.out]
        have hD1lt : ∀ x ∈ D1, x < 256 := by rw [eD1]; exact Crc.flips_lt HDlt.out
        obtain ⟨P0, eP0⟩ : ∃ x, x = A % N := ⟨_, rfl⟩
        have hP0N : P0 < N := by rw [eP0]; exact Nat.mod_lt _ (by omega)
        have hPi : (A : Int) % (N : Int) = (P0 : Int) := by rw [eP0]; omega
        have hPt : (A : Int).tmod (N : Int) = (P0 : Int) := by rw [Int.tmod_eq_emod_of_nonneg (by omega)]; exact hPi
        have hGe : G = ofN (Crc.flips D1 (Crc.burst N P0 V 16)) := by rw [HG.out, eD1, eP0, ← flips_append]; rfl
        have hw2 := HOwn0.out
        rw [hD1, ← eD1] at hw2
        have HOwn1 := Lib.hid hw2
        have HGe := Lib.hid hGe
        have HD1l := Lib.hid hD1l
        have HD1lt := Lib.hid hD1lt
        clear hw2 hGe hD1l hD1lt eP0 eD1 hD1
        obtain ⟨w5, rfl⟩ : ∃ x, x = wr := ⟨_, rfl⟩
        go_wp2_with fail
        simp only [show ((3 : Nat) : Int) = 3 from rfl]
        go_loopw [15] (fun kk wr => ∃ k : Nat, k ≤ 16 ∧ kk = .int .i64 k ∧ Only g w7 wr ∧ Own wr g 5 (nums .u8 (ofN (Crc.flips D1 (Crc.burst N P0 V k))) ++ rest)) (fun kk _ => 16 - (intOf kk).toNat)
        case atStart => exact ⟨0, by omega, rfl, HOnly0.out, HOwn1.out⟩
        case round =>
          obtain ⟨k, hk, rfl, honly, hown⟩ := hrel
          by_cases hlt : k < 16
          · have hnat : ((V : Int) / 2 ^ k) = ((V / 2 ^ k : Nat) : Int) := by push_cast; rfl
            have hVk : V / 2 ^ k < 65536 := Nat.lt_of_le_of_lt (Nat.div_le_self _ _) (by omega)
            have hand : bits BinOp.and IntKind.u16 ((V : Int) / 2 ^ k) 1 = ((V / 2 ^ k % 2 : Nat) : Int) := by
              rw [hnat]; have h0 := u16_and_nat (V / 2 ^ k) 1 hVk (by decide); rw [show ((1 : Nat) : Int) = 1 from rfl] at h0; rw [h0, Nat.and_one_is_mod]
            have htb : V.testBit k = decide (V / 2 ^ k % 2 = 1) := Nat.testBit_eq_decide_div_mod_eq
            have hbs : Crc.burst N P0 V (k + 1) = Crc.burst N P0 V k ++ (if V.testBit k && decide (P0 + k < N) then [P0 + k] else []) := rfl
            obtain ⟨BB, hB⟩ : ∃ BB, BB = Crc.burst N P0 V k := ⟨_, rfl⟩
            rw [← hB] at hown hbs
            clear hB
            have hzr : wr.cell? ⟨w.heap.size + 1, 0, none⟩ = some (.int .u16 (A : Int)) := by
              have hbw := Only.below C07.out honly C07.out.size (by omega)
              rw [hbw.cell (p := ⟨w.heap.size + 1, 0, none⟩) (by have := HOA.out.lt; exact this)]; exact HOA.out.cell 0 (by simp)
            obtain ⟨P, hP⟩ : ∃ P, P = P0 + k := ⟨_, rfl⟩
            have hPs : (P0 : Int) + (k : Int) = (P : Int) := by omega
            have hPb : P ≤ 2400 := by omega
            rw [← hP] at hbs
            by_cases hbit : V / 2 ^ k % 2 = 1
            · rw [hbit] at hand
              have hand : bits BinOp.and IntKind.u16 ((V : Int) / 2 ^ k) 1 = 1 := hand
              rw [hbit] at htb
              have htb : V.testBit k = true := htb
              rw [htb, Bool.true_and] at hbs
              clear hbit
              by_cases hpk : P < N
              · rw [decide_eq_true hpk, if_pos rfl] at hbs
                have hpi : (P : Int) < (N : Int) := by omega
                obtain ⟨Y, hY⟩ : ∃ Y, Y = Crc.flips D1 BB := ⟨_, rfl⟩
                rw [← hY] at hown
                have hYl : Y.length = q + 2 := by rw [hY, Crc.flips_length, HD1l.out]
                have hYlt : ∀ x ∈ Y, x < 256 := by rw [hY]; exact Crc.flips_lt HD1lt.out
                obtain ⟨Q, hQ⟩ : ∃ Q, Q = P / 8 := ⟨_, rfl⟩
                obtain ⟨t, ht⟩ : ∃ t, t = P % 8 := ⟨_, rfl⟩
                have hNq := HN.out
                have hQn : Q < q + 2 := by omega
                have ht8 : t < 8 := by omega
                have hcell := hown.cell Q (by rw [List.length_append, nums_length, ofN_length, hYl]; omega)
                have hfr := hown.frozen Q
                rw [getD_left _ _ _ _ (by rw [nums_length, ofN_length, hYl]; omega), nums_getD _ _ _ (by rw [ofN_length, hYl]; omega), ofN_getD] at hcell
                have hX8 := Crc.getD_lt hYlt Q
                obtain ⟨X, hX⟩ : ∃ X, X = Y.getD Q 0 := ⟨_, rfl⟩
                rw [← hX] at hcell hX8
                have hd1 : (P : Int) / 8 = (Q : Int) := by omega
                have hd2 : (P : Int) % 8 = (t : Int) := by omega
                have hd3 : (P : Int).tdiv 8 = (Q : Int) := by rw [Int.tdiv_eq_ediv_of_nonneg (by omega)]; exact hd1
                have hd4 : (P : Int).tmod 8 = (t : Int) := by rw [Int.tmod_eq_emod_of_nonneg (by omega)]; exact hd2
                have hQi : (Q : Int) < (q : Int) + 2 := by omega
                have hQ0 : (0 : Int) ≤ (Q : Int) := by omega
                have hwQ : IntKind.i64.wrap (Q : Int) = (Q : Int) := IntWalk.i64_in _ (by omega)
                have hwt : IntKind.i64.wrap (t : Int) = (t : Int) := IntWalk.i64_in _ (by omega)
                have ht0 : (0 : Int) ≤ (t : Int) := by omega
                have HYl := Lib.hid hYl
                have HOwn := Lib.hid hown
                have HOnly := Lib.hid honly
                have HX := Lib.hid hX
                have HBs := Lib.hid hbs
                have HQ := Lib.hid hQ
                have Ht := Lib.hid ht
                have HY := Lib.hid hY
                have HP := Lib.hid hP
                clear hown honly hX hbs hP hQ ht hY hYl hYlt hNq hnat htb hVk
                go_wp2
                go_still_tail 13, (by kernel_rfl)
                change wpList _ _ _ _ _ wr.drew
                go_wp2
                have hv : bits BinOp.xor IntKind.u8 (X : Int) (2 ^ t % 256) = ((X ^^^ 2 ^ t : Nat) : Int) := xor_pow hX8 ht8
                have hn := HOwn.out.set_left Q (by rw [ofN_length, HYl.out]; exact hQn) ((X ^^^ 2 ^ t : Nat) : Int)
                have hnew : Crc.flips D1 (Crc.burst N P0 V (k + 1)) = Y.set Q (X ^^^ 2 ^ t) := by
                  rw [HBs.out, flips_snoc, ← HY.out, ← HQ.out, ← Ht.out, ← HX.out]
                rw [ofN_set, ← hnew] at hn
                rw [hv]
                exact ⟨⟨k + 1, by omega, by go_num, (HOnly.out.setCell _ _).drew, hn.drew⟩, by simp [intOf]; omega⟩
              · rw [decide_eq_false hpk, if_neg (by decide), List.append_nil] at hbs
                have hpi : ¬ (P : Int) < (N : Int) := by omega
                rw [← hbs] at hown
                have HOwn := Lib.hid hown
                have HOnly := Lib.hid honly
                clear hown honly hbs hnat htb hVk hP
                go_wp2
                exact ⟨⟨k + 1, by omega, by go_num, HOnly.out, HOwn.out⟩, by simp [intOf]; omega⟩
            · have hbit0 : V / 2 ^ k % 2 = 0 := by omega
              rw [hbit0] at hand
              have hand : bits BinOp.and IntKind.u16 ((V : Int) / 2 ^ k) 1 = 0 := hand
              rw [decide_eq_false hbit] at htb
              rw [htb, Bool.false_and, if_neg (by decide), List.append_nil] at hbs
              clear hbit hbit0
              rw [← hbs] at hown
              have HOwn := Lib.hid hown
              have HOnly := Lib.hid honly
              clear hown honly hbs hnat htb hVk hP
              go_wp2
              exact ⟨⟨k + 1, by omega, by go_num, HOnly.out, HOwn.out⟩, by simp [intOf]; omega⟩
          · obtain rfl : k = 16 := by omega
            rw [← HGe.out] at hown
            have hbw := Only.below BB7.out honly BB7.out.size (by omega)
            have hb6 := Only.below B67.out honly B67.out.size (by omega)
            have hc2 := Only.below C27.out honly C27.out.size (by omega)
            have hrG : Row .u8 wr (some ⟨g, 0, none⟩) (q + 2) c3 G := by
              refine ⟨HGl.out, hc3, by unfold maxLen; omega, fun x hx => wf_u8.2 (HGok.out.2.2 x hx), .inr ⟨g, 0, rfl, fun m hm => ?_⟩, by simp⟩
              have hcc := hown.cell m (by rw [List.length_append, nums_length, HGl.out]; omega)
              rw [getD_left _ _ _ _ (by rw [nums_length, HGl.out]; omega), nums_getD _ _ _ (by rw [HGl.out]; omega)] at hcc
              rw [Nat.zero_add]; exact hcc
            have hrF := RF6.out.later hb6
            have hmat := mat_three (row_rowV hrF) (row_rowV hrG) (row_rowV hrF)
            obtain ⟨w8, hw⟩ : ∃ W, W = wr.alloc (.cells #[.slice (some ⟨gF, 0, none⟩) (q + 2) (q + 2), .slice (some ⟨g, 0, none⟩) (q + 2) c3, .slice (some ⟨gF, 0, none⟩) (q + 2) (q + 2)] 23) := ⟨_, rfl⟩
            have hb : Below wr.heap.size wr w8 := by rw [hw]; exact below_alloc _ _
            rw [← hw] at hmat
            have hsr := hbw.size
            have BB8 := Lib.hid (hbw.trans (hb.mono hbw.size))
            have C28 := Lib.hid (hc2.trans (hb.mono hc2.size))
            have RF8 := Lib.hid (hrF.later hb)
            have RG8 := Lib.hid (hrG.later hb)
            have M8 := Lib.hid hmat
            have HW8 := Lib.hid hw
            have hs8 := hb.size
            clear hbw hb6 hc2 hrG hrF hmat hw hb honly hown HOwn1 HOnly0 HOwn0 C07 BB7 C27 B67 RF6 RF7 HO7
            go_wp2_with fail
            rw [← HW8.out]
            refine (join_n _ false _ 3 3 J [F, G, F] (joinL [F, G, F]) w8 (HFl0.out.later BB8.out) M8.out (fun x hx => by
              simp at hx
              rcases hx with rfl | rfl | rfl
              · exact okC_len HFok.out
              · exact okC_len HGok.out
              · exact okC_len HFok.out) (by omega) rfl HJ.out).mono ?_
            rintro e w9 ⟨⟨aJ, rfl, hrJ, hJlo⟩, hb⟩
            have hJlt := hrJ.lt hJ2
            have BB9 := Lib.hid (BB8.out.trans (hb.mono BB8.out.size))
            have C29 := Lib.hid (C28.out.trans (hb.mono C28.out.size))
            have RF9 := Lib.hid (RF8.out.later hb)
            have RG9 := Lib.hid (RG8.out.later hb)
            have RJ9 := Lib.hid hrJ
            have HJlt := Lib.hid hJlt
            have hs9 := hb.size
            clear BB8 C28 RF8 RG8 M8 hb hrJ hJlo hJlt HW8
            go_wp2_with fail
            refine (new_any w9).mono ?_
            rintro e w10 ⟨rfl, hb, hsx⟩
            have BB10 := Lib.hid (BB9.out.trans (hb.mono BB9.out.size))
            have C210 := Lib.hid (C29.out.trans (hb.mono C29.out.size))
            have RF10 := Lib.hid (RF9.out.later hb)
            have RG10 := Lib.hid (RG9.out.later hb)
            have RJ10 := Lib.hid (RJ9.out.later hb)
            have SX10 := Lib.hid hsx
            have hs10 : w9.heap.size < w10.heap.size := hsx.lt.1
            have zBB := BB9.out.size
            have zC2 := C29.out.size
            have L9F := RF9.out.lt (by omega)
            have L9G := RG9.out.lt (by omega)
            clear BB9 C29 RF9 RG9 RJ9 hb hsx
            have hbad : ∀ x ∈ [F, G, F], x = F ∨ (x.length = q + 2 ∧ lastTwo x q ≠ Crc.crc (toN (x.take q))) := by
              intro x hx
              simp at hx
              rcases hx with rfl | rfl | rfl
              · exact .inl rfl
              · rcases HGd.out with h1 | ⟨_, h1⟩
                · exact .inl h1
                · exact .inr ⟨HGl.out, h1⟩
              · exact .inl rfl
            have hun := unitsOf_any w9.heap.size aJ J J (joinL [F, G, F]) [F, G, F] (N0 : Int) B0 (N1 : Int) B1 K (T : Int) L E F m q w10 (fun W hb => HBe0.out.later (BB10.out.trans (hb.mono zBB))) SX10.out RJ10.out HJe.out (fun z hz => by have := HJlt.out z hz; omega) HFeed.out rfl HDec.out hq2 HFl.out HFt.out HFg.out hbad
            have HUn := Lib.hid hun
            clear hun hbad SX10 RJ10
            go_wp2_with fail
            refine (HUn.out).mono ?_
            rintro e w11 ⟨⟨v, ss, bad, rfl, huo, hss, hbs⟩, hb⟩
            have BB11 := Lib.hid (BB10.out.trans (hb.mono zBB))
            have C211 := Lib.hid (C210.out.trans (hb.mono zC2))
            have RF11 := Lib.hid (RF10.out.later2 hb (fun z hz => L9F z hz))
            have RG11 := Lib.hid (RG10.out.later2 hb (fun z hz => L9G z hz))
            have HUo := Lib.hid huo
            have HSs := Lib.hid hss
            have hs11 := hb.size
            clear BB10 C210 RF10 RG10 huo hss hb HUn zBB zC2 L9F L9G
            go_wp2_with fail
            refine (same_any _ _ _ _ _ _ G F w11 RG11.out RF11.out).mono ?_
            rintro e w' ⟨rfl, q12, rfl⟩
            have hb := below_draw w11 q12
            obtain ⟨w12, hw⟩ : ∃ x, x = w11.drewN q12 := ⟨_, rfl⟩
            rw [← hw] at hb ⊢
            have zBB := BB11.out.size
            have zC2 := C211.out.size
            have BB12 := Lib.hid (BB11.out.trans (hb.mono zBB))
            have C212 := Lib.hid (C211.out.trans (hb.mono zC2))
            have UO12 := Lib.hid (HUo.out.later hb)
            have hs12 := hb.size
            clear BB11 C211 HUo hw hb RF11 RG11 zBB zC2
            by_cases hGF : G = F
            · rw [decide_eq_true hGF]
              have h3 : goods F [F, G, F] = 3 := by simp [goods, hGF]
              have hss := HSs.out
              rw [h3] at hss
              obtain rfl : bad = 0 := by omega
              obtain ⟨gU, cU, rfl, hcU, hcm, _⟩ := UO12.out.cell (by omega)
              unfold maxLen at hcm
              rw [hss] at hcU ⊢
              clear h3 hbs hGF HSs
              have HBo := Lib.hid (bottom_any w12 (HBe0.out.later BB12.out) (HFl0.out.later BB12.out))
              go_wp2_with fail
              refine (HBo.out).mono ?_
              rintro e w13 ⟨rfl, hb⟩
              have BB13 := Lib.hid (BB12.out.trans (hb.mono BB12.out.size))
              clear hb
              go_wp2
              go_ret
              exact ⟨rfl, BB13.out⟩
            · rw [decide_eq_false hGF]
              have h2 : goods F [F, G, F] = 2 := by simp [goods, hGF]
              have hss := HSs.out
              rw [h2] at hss
              obtain rfl : bad = 1 := by omega
              obtain ⟨gU, cU, rfl, hcU, hcm, hcc⟩ := UO12.out.cell (by omega)
              unfold maxLen at hcm
              have hrows := UO12.out.rows
              obtain ⟨z0, z1, rfl⟩ : ∃ z0 z1, ss = [z0, z1] := by
                match ss, hss with
                | [z0, z1], _ => exact ⟨z0, z1, rfl⟩
              have hcU2 : 2 ≤ cU := hcU
              have hz0 := (hrows z0 (by simp)).1
              have hz1 := (hrows z1 (by simp)).1
              have hcell := fun j (hj : j < 14) => hcc j hj
              clear h2 hbs hGF HSs hss hcU hcc hrows
              have hr0 : Row .u8 w12 z0 m m L := by have := hz0.row (by rw [HM.out]; omega) HLo.out; rwa [HM.out] at this
              have hr1 : Row .u8 w12 z1 m m L := by have := hz1.row (by rw [HM.out]; omega) HLo.out; rwa [HM.out] at this
              have c0 : w12.cell? ⟨gU, 0, none⟩ = some (.int .u8 (N0 : Int)) := hcell 0 (by omega)
              have c1 : w12.cell? ⟨gU, 1, none⟩ = some (.bool B0) := hcell 1 (by omega)
              have c2 : w12.cell? ⟨gU, 2, none⟩ = some (.int .u8 (N1 : Int)) := hcell 2 (by omega)
              have c3 : w12.cell? ⟨gU, 3, none⟩ = some (.bool B1) := hcell 3 (by omega)
              have c4 : w12.cell? ⟨gU, 4, none⟩ = some (.int .u8 K) := hcell 4 (by omega)
              have c5 : w12.cell? ⟨gU, 5, none⟩ = some (.int .u8 (T : Int)) := hcell 5 (by omega)
              have c6 : w12.cell? ⟨gU, 6, none⟩ = some (.slice z0 m m) := hcell 6 (by omega)
              have c7 : w12.cell? ⟨gU, 7, none⟩ = some (.int .u8 (N0 : Int)) := hcell 7 (by omega)
              have c8 : w12.cell? ⟨gU, 8, none⟩ = some (.bool B0) := hcell 8 (by omega)
              have c9 : w12.cell? ⟨gU, 9, none⟩ = some (.int .u8 (N1 : Int)) := hcell 9 (by omega)
              have c10 : w12.cell? ⟨gU, 10, none⟩ = some (.bool B1) := hcell 10 (by omega)
              have c11 : w12.cell? ⟨gU, 11, none⟩ = some (.int .u8 K) := hcell 11 (by omega)
              have c12 : w12.cell? ⟨gU, 12, none⟩ = some (.int .u8 (T : Int)) := hcell 12 (by omega)
              have c13 : w12.cell? ⟨gU, 13, none⟩ = some (.slice z1 m m) := hcell 13 (by omega)
              have hgU : gU < w12.heap.size := World.block_lt_of_cell? w12 _ c0
              have hSn : ∀ W W', Below w12.heap.size w12 W → Below W.heap.size W W' → Below w12.heap.size w12 W' ∧ W'.cell? ⟨w1.heap.size, 0, none⟩ = some (.int .u8 (N0 : Int)) ∧ W'.cell? ⟨w1.heap.size, 1, none⟩ = some (.bool B0) ∧ W'.cell? ⟨w1.heap.size, 2, none⟩ = some (.int .u8 (N1 : Int)) ∧ W'.cell? ⟨w1.heap.size, 3, none⟩ = some (.bool B1) ∧ W'.cell? ⟨w1.heap.size, 4, none⟩ = some (.int .u8 K) ∧ W'.cell? ⟨w1.heap.size, 5, none⟩ = some (.int .u8 (T : Int)) ∧ W'.cell? ⟨w1.heap.size, 6, none⟩ = some (.slice s1 m m) ∧ W'.cell? ⟨gU, 0, none⟩ = some (.int .u8 (N0 : Int)) ∧ W'.cell? ⟨gU, 1, none⟩ = some (.bool B0) ∧ W'.cell? ⟨gU, 2, none⟩ = some (.int .u8 (N1 : Int)) ∧ W'.cell? ⟨gU, 3, none⟩ = some (.bool B1) ∧ W'.cell? ⟨gU, 4, none⟩ = some (.int .u8 K) ∧ W'.cell? ⟨gU, 5, none⟩ = some (.int .u8 (T : Int)) ∧ W'.cell? ⟨gU, 6, none⟩ = some (.slice z0 m m) ∧ W'.cell? ⟨gU, 7, none⟩ = some (.int .u8 (N0 : Int)) ∧ W'.cell? ⟨gU, 8, none⟩ = some (.bool B0) ∧ W'.cell? ⟨gU, 9, none⟩ = some (.int .u8 (N1 : Int)) ∧ W'.cell? ⟨gU, 10, none⟩ = some (.bool B1) ∧ W'.cell? ⟨gU, 11, none⟩ = some (.int .u8 K) ∧ W'.cell? ⟨gU, 12, none⟩ = some (.int .u8 (T : Int)) ∧ W'.cell? ⟨gU, 13, none⟩ = some (.slice z1 m m) := by
                intro W W' hb hb'
                have hbb := hb.trans (hb'.mono hb.size)
                obtain ⟨u0, u1, u2, u3, u4, u5, u6⟩ := unit_cells (HO2.out.below (C212.out.trans (hbb.mono C212.out.size)) hlt2)
                exact ⟨hbb, u0, u1, u2, u3, u4, u5, u6, (hbb.cell (p := ⟨gU, 0, none⟩) hgU).trans c0, (hbb.cell (p := ⟨gU, 1, none⟩) hgU).trans c1, (hbb.cell (p := ⟨gU, 2, none⟩) hgU).trans c2, (hbb.cell (p := ⟨gU, 3, none⟩) hgU).trans c3, (hbb.cell (p := ⟨gU, 4, none⟩) hgU).trans c4, (hbb.cell (p := ⟨gU, 5, none⟩) hgU).trans c5, (hbb.cell (p := ⟨gU, 6, none⟩) hgU).trans c6, (hbb.cell (p := ⟨gU, 7, none⟩) hgU).trans c7, (hbb.cell (p := ⟨gU, 8, none⟩) hgU).trans c8, (hbb.cell (p := ⟨gU, 9, none⟩) hgU).trans c9, (hbb.cell (p := ⟨gU, 10, none⟩) hgU).trans c10, (hbb.cell (p := ⟨gU, 11, none⟩) hgU).trans c11, (hbb.cell (p := ⟨gU, 12, none⟩) hgU).trans c12, (hbb.cell (p := ⟨gU, 13, none⟩) hgU).trans c13⟩
              have hS0 := hSn w12 w12 (Below.refl _ _) (Below.refl _ _)
              have hSd := hSn w12 w12.drew (Below.refl _ _) (Below.refl _ _).drew
              have HS := Lib.hid hSn
              have HR0 := Lib.hid fun W (hb : Below w12.heap.size w12 W) => HSame.out W z0 s1 (hr0.later hb) (HRow.out.later (C212.out.trans (hb.mono C212.out.size)))
              have HR1 := Lib.hid fun W (hb : Below w12.heap.size w12 W) => HSame.out W z1 s1 (hr1.later hb) (HRow.out.later (C212.out.trans (hb.mono C212.out.size)))
              have HBo := Lib.hid fun W (hb : Below w12.heap.size w12 W) => bottom_any W (HBe0.out.later (BB12.out.trans (hb.mono BB12.out.size))) (HFl0.out.later (BB12.out.trans (hb.mono BB12.out.size)))
              clear hSn hz0 hz1 hr0 hr1 hcell c0 c1 c2 c3 c4 c5 c6 c7 c8 c9 c10 c11 c12 c13 UO12
              go_wp2_with fail
              go_region_held3 (fun W => Below w12.heap.size w12 W ∧ W.cell? ⟨w1.heap.size, 0, none⟩ = some (.int .u8 (N0 : Int)) ∧ W.cell? ⟨w1.heap.size, 1, none⟩ = some (.bool B0) ∧ W.cell? ⟨w1.heap.size, 2, none⟩ = some (.int .u8 (N1 : Int)) ∧ W.cell? ⟨w1.heap.size, 3, none⟩ = some (.bool B1) ∧ W.cell? ⟨w1.heap.size, 4, none⟩ = some (.int .u8 K) ∧ W.cell? ⟨w1.heap.size, 5, none⟩ = some (.int .u8 (T : Int)) ∧ W.cell? ⟨w1.heap.size, 6, none⟩ = some (.slice s1 m m) ∧ W.cell? ⟨gU, 0, none⟩ = some (.int .u8 (N0 : Int)) ∧ W.cell? ⟨gU, 1, none⟩ = some (.bool B0) ∧ W.cell? ⟨gU, 2, none⟩ = some (.int .u8 (N1 : Int)) ∧ W.cell? ⟨gU, 3, none⟩ = some (.bool B1) ∧ W.cell? ⟨gU, 4, none⟩ = some (.int .u8 K) ∧ W.cell? ⟨gU, 5, none⟩ = some (.int .u8 (T : Int)) ∧ W.cell? ⟨gU, 6, none⟩ = some (.slice z0 m m) ∧ W.cell? ⟨gU, 7, none⟩ = some (.int .u8 (N0 : Int)) ∧ W.cell? ⟨gU, 8, none⟩ = some (.bool B0) ∧ W.cell? ⟨gU, 9, none⟩ = some (.int .u8 (N1 : Int)) ∧ W.cell? ⟨gU, 10, none⟩ = some (.bool B1) ∧ W.cell? ⟨gU, 11, none⟩ = some (.int .u8 K) ∧ W.cell? ⟨gU, 12, none⟩ = some (.int .u8 (T : Int)) ∧ W.cell? ⟨gU, 13, none⟩ = some (.slice z1 m m)) (first | assumption)
                (first
                  | (go_at_call 12; ((with_reducible refine (HR0.out _ (And.left (by assumption))).mono ?_); rintro e w15 ⟨rfl, hb5⟩; have hS5 := HS.out _ _ (And.left (by assumption)) hb5; clear hb5))
                  | (go_at_call 12; ((with_reducible refine (HR1.out _ (And.left (by assumption))).mono ?_); rintro e w16 ⟨rfl, hb6⟩; have hS6 := HS.out _ _ (And.left (by assumption)) hb6; clear hb6))
                  | (go_at_call 11; ((with_reducible refine (HBo.out _ (And.left (by assumption))).mono ?_); rintro e w17 ⟨rfl, hb7⟩; have hS7 := HS.out _ _ (And.left (by assumption)) hb7; clear hb7))
                  | fail)
              all_goals
                go_wp2
                go_ret
                exact ⟨rfl, BB12.out.trans (Below.mono (And.left (by assumption)) BB12.out.size)⟩
      · have hD1 : Crc.flips D (tri N A B C 0) = Crc.flips D (tri N A B C (if V = 0 then 3 else 0)) := by rw [if_neg hv]
        have hvb : ((V : Int) == 0) = false := by simp; omega
        have HV := Lib.hid hv
        clear hv
        obtain ⟨D1, eD1⟩ : ∃ x, x = Crc.flips D (tri N A B C (if V = 0 then 3 else 0)) := ⟨_, rfl⟩
        have hD1l : D1.length = q + 2 := by rw [eD1, Crc.flips_length, HDl.out]
        have hD1lt : ∀ x ∈ D1, x < 256 := by rw [eD1]; exact Crc.flips_lt HDlt.out
        obtain ⟨P0, eP0⟩ : ∃ x, x = A % N := ⟨_, rfl⟩
        have hP0N : P0 < N := by rw [eP0]; exact Nat.mod_lt _ (by omega)
        have hPi : (A : Int) % (N : Int) = (P0 : Int) := by rw [eP0]; omega
        have hPt : (A : Int).tmod (N : Int) = (P0 : Int) := by rw [Int.tmod_eq_emod_of_nonneg (by omega)]; exact hPi
        have hGe : G = ofN (Crc.flips D1 (Crc.burst N P0 V 16)) := by rw [HG.out, eD1, eP0, ← flips_append]; rfl
        have hw2 := HOwn0.out
        rw [hD1, ← eD1] at hw2
        have HOwn1 := Lib.hid hw2
        have HGe := Lib.hid hGe
        have HD1l := Lib.hid hD1l
        have HD1lt := Lib.hid hD1lt
        clear hw2 hGe hD1l hD1lt eP0 eD1 hD1
        obtain ⟨w5, rfl⟩ : ∃ x, x = wr := ⟨_, rfl⟩
        go_wp2_with fail
        clear hvb
        simp only [show ((0 : Nat) : Int) = 0 from rfl]
        go_loopw [15] (fun kk wr => ∃ k : Nat, k ≤ 16 ∧ kk = .int .i64 k ∧ Only g w7 wr ∧ Own wr g 5 (nums .u8 (ofN (Crc.flips D1 (Crc.burst N P0 V k))) ++ rest)) (fun kk _ => 16 - (intOf kk).toNat)
        case atStart => exact ⟨0, by omega, rfl, HOnly0.out, HOwn1.out⟩
        case round =>
          obtain ⟨k, hk, rfl, honly, hown⟩ := hrel
          by_cases hlt : k < 16
          · have hnat : ((V : Int) / 2 ^ k) = ((V / 2 ^ k : Nat) : Int) := by push_cast; rfl
            have hVk : V / 2 ^ k < 65536 := Nat.lt_of_le_of_lt (Nat.div_le_self _ _) (by omega)
            have hand : bits BinOp.and IntKind.u16 ((V : Int) / 2 ^ k) 1 = ((V / 2 ^ k % 2 : Nat) : Int) := by
              rw [hnat]; have h0 := u16_and_nat (V / 2 ^ k) 1 hVk (by decide); rw [show ((1 : Nat) : Int) = 1 from rfl] at h0; rw [h0, Nat.and_one_is_mod]
            have htb : V.testBit k = decide (V / 2 ^ k % 2 = 1) := Nat.testBit_eq_decide_div_mod_eq
            have hbs : Crc.burst N P0 V (k + 1) = Crc.burst N P0 V k ++ (if V.testBit k && decide (P0 + k < N) then [P0 + k] else []) := rfl
            obtain ⟨BB, hB⟩ : ∃ BB, BB = Crc.burst N P0 V k := ⟨_, rfl⟩
            rw [← hB] at hown hbs
            clear hB
            have hzr : wr.cell? ⟨w.heap.size + 1, 0, none⟩ = some (.int .u16 (A : Int)) := by
              have hbw := Only.below C07.out honly C07.out.size (by omega)
              rw [hbw.cell (p := ⟨w.heap.size + 1, 0, none⟩) (by have := HOA.out.lt; exact this)]; exact HOA.out.cell 0 (by simp)
            obtain ⟨P, hP⟩ : ∃ P, P = P0 + k := ⟨_, rfl⟩
            have hPs : (P0 : Int) + (k : Int) = (P : Int) := by omega
            have hPb : P ≤ 2400 := by omega
            rw [← hP] at hbs
            by_cases hbit : V / 2 ^ k % 2 = 1
            · rw [hbit] at hand
              have hand : bits BinOp.and IntKind.u16 ((V : Int) / 2 ^ k) 1 = 1 := hand
              rw [hbit] at htb
              have htb : V.testBit k = true := htb
              rw [htb, Bool.true_and] at hbs
              clear hbit
              by_cases hpk : P < N
              · rw [decide_eq_true hpk, if_pos rfl] at hbs
                have hpi : (P : Int) < (N : Int) := by omega
                obtain ⟨Y, hY⟩ : ∃ Y, Y = Crc.flips D1 BB := ⟨_, rfl⟩
                rw [← hY] at hown
                have hYl : Y.length = q + 2 := by rw [hY, Crc.flips_length, HD1l.out]
                have hYlt : ∀ x ∈ Y, x < 256 := by rw [hY]; exact Crc.flips_lt HD1lt.out
                obtain ⟨Q, hQ⟩ : ∃ Q, Q = P / 8 := ⟨_, rfl⟩
                obtain ⟨t, ht⟩ : ∃ t, t = P % 8 := ⟨_, rfl⟩
                have hNq := HN.out
                have hQn : Q < q + 2 := by omega
                have ht8 : t < 8 := by omega
                have hcell := hown.cell Q (by rw [List.length_append, nums_length, ofN_length, hYl]; omega)
                have hfr := hown.frozen Q
                rw [getD_left _ _ _ _ (by rw [nums_length, ofN_length, hYl]; omega), nums_getD _ _ _ (by rw [ofN_length, hYl]; omega), ofN_getD] at hcell
                have hX8 := Crc.getD_lt hYlt Q
                obtain ⟨X, hX⟩ : ∃ X, X = Y.getD Q 0 := ⟨_, rfl⟩
                rw [← hX] at hcell hX8
                have hd1 : (P : Int) / 8 = (Q : Int) := by omega
                have hd2 : (P : Int) % 8 = (t : Int) := by omega
                have hd3 : (P : Int).tdiv 8 = (Q : Int) := by rw [Int.tdiv_eq_ediv_of_nonneg (by omega)]; exact hd1
                have hd4 : (P : Int).tmod 8 = (t : Int) := by rw [Int.tmod_eq_emod_of_nonneg (by omega)]; exact hd2
                have hQi : (Q : Int) < (q : Int) + 2 := by omega
                have hQ0 : (0 : Int) ≤ (Q : Int) := by omega
                have hwQ : IntKind.i64.wrap (Q : Int) = (Q : Int) := IntWalk.i64_in _ (by omega)
                have hwt : IntKind.i64.wrap (t : Int) = (t : Int) := IntWalk.i64_in _ (by omega)
                have ht0 : (0 : Int) ≤ (t : Int) := by omega
                have HYl := Lib.hid hYl
                have HOwn := Lib.hid hown
                have HOnly := Lib.hid honly
                have HX := Lib.hid hX
                have HBs := Lib.hid hbs
                have HQ := Lib.hid hQ
                have Ht := Lib.hid ht
                have HY := Lib.hid hY
                have HP := Lib.hid hP
                clear hown honly hX hbs hP hQ ht hY hYl hYlt hNq hnat htb hVk
                go_wp2
                go_still_tail 13, (by kernel_rfl)
                change wpList _ _ _ _ _ wr.drew
                go_wp2
                have hv : bits BinOp.xor IntKind.u8 (X : Int) (2 ^ t % 256) = ((X ^^^ 2 ^ t : Nat) : Int) := xor_pow hX8 ht8
                have hn := HOwn.out.set_left Q (by rw [ofN_length, HYl.out]; exact hQn) ((X ^^^ 2 ^ t : Nat) : Int)
                have hnew : Crc.flips D1 (Crc.burst N P0 V (k + 1)) = Y.set Q (X ^^^ 2 ^ t) := by
                  rw [HBs.out, flips_snoc, ← HY.out, ← HQ.out, ← Ht.out, ← HX.out]
                rw [ofN_set, ← hnew] at hn
                rw [hv]
                exact ⟨⟨k + 1, by omega, by go_num, (HOnly.out.setCell _ _).drew, hn.drew⟩, by simp [intOf]; omega⟩
              · rw [decide_eq_false hpk, if_neg (by decide), List.append_nil] at hbs
                have hpi : ¬ (P : Int) < (N : Int) := by omega
                rw [← hbs] at hown
                have HOwn := Lib.hid hown
                have HOnly := Lib.hid honly
                clear hown honly hbs hnat htb hVk hP
                go_wp2
                exact ⟨⟨k + 1, by omega, by go_num, HOnly.out, HOwn.out⟩, by simp [intOf]; omega⟩
            · have hbit0 : V / 2 ^ k % 2 = 0 := by omega
              rw [hbit0] at hand
              have hand : bits BinOp.and IntKind.u16 ((V : Int) / 2 ^ k) 1 = 0 := hand
              rw [decide_eq_false hbit] at htb
              rw [htb, Bool.false_and, if_neg (by decide), List.append_nil] at hbs
              clear hbit hbit0
              rw [← hbs] at hown
              have HOwn := Lib.hid hown
              have HOnly := Lib.hid honly
              clear hown honly hbs hnat htb hVk hP
              go_wp2
              exact ⟨⟨k + 1, by omega, by go_num, HOnly.out, HOwn.out⟩, by simp [intOf]; omega⟩
          · obtain rfl : k = 16 := by omega
            rw [← HGe.out] at hown
            have hbw := Only.below BB7.out honly BB7.out.size (by omega)
            have hb6 := Only.below B67.out honly B67.out.size (by omega)
            have hc2 := Only.below C27.out honly C27.out.size (by omega)
            have hrG : Row .u8 wr (some ⟨g, 0, none⟩) (q + 2) c3 G := by
              refine ⟨HGl.out, hc3, by unfold maxLen; omega, fun x hx => wf_u8.2 (HGok.out.2.2 x hx), .inr ⟨g, 0, rfl, fun m hm => ?_⟩, by simp⟩
              have hcc := hown.cell m (by rw [List.length_append, nums_length, HGl.out]; omega)
              rw [getD_left _ _ _ _ (by rw [nums_length, HGl.out]; omega), nums_getD _ _ _ (by rw [HGl.out]; omega)] at hcc
              rw [Nat.zero_add]; exact hcc
            have hrF := RF6.out.later hb6
            have hmat := mat_three (row_rowV hrF) (row_rowV hrG) (row_rowV hrF)
            obtain ⟨w8, hw⟩ : ∃ W, W = wr.alloc (.cells #[.slice (some ⟨gF, 0, none⟩) (q + 2) (q + 2), .slice (some ⟨g, 0, none⟩) (q + 2) c3, .slice (some ⟨gF, 0, none⟩) (q + 2) (q + 2)] 23) := ⟨_, rfl⟩
            have hb : Below wr.heap.size wr w8 := by rw [hw]; exact below_alloc _ _
            rw [← hw] at hmat
            have hsr := hbw.size
            have BB8 := Lib.hid (hbw.trans (hb.mono hbw.size))
            have C28 := Lib.hid (hc2.trans (hb.mono hc2.size))
            have RF8 := Lib.hid (hrF.later hb)
            have RG8 := Lib.hid (hrG.later hb)
            have M8 := Lib.hid hmat
            have HW8 := Lib.hid hw
            have hs8 := hb.size
            clear hbw hb6 hc2 hrG hrF hmat hw hb honly hown HOwn1 HOnly0 HOwn0 C07 BB7 C27 B67 RF6 RF7 HO7
            go_wp2_with fail
            rw [← HW8.out]
            refine (join_n _ false _ 3 3 J [F, G, F] (joinL [F, G, F]) w8 (HFl0.out.later BB8.out) M8.out (fun x hx => by
              simp at hx
              rcases hx with rfl | rfl | rfl
              · exact okC_len HFok.out
              · exact okC_len HGok.out
              · exact okC_len HFok.out) (by omega) rfl HJ.out).mono ?_
            rintro e w9 ⟨⟨aJ, rfl, hrJ, hJlo⟩, hb⟩
            have hJlt := hrJ.lt hJ2
            have BB9 := Lib.hid (BB8.out.trans (hb.mono BB8.out.size))
            have C29 := Lib.hid (C28.out.trans (hb.mono C28.out.size))
            have RF9 := Lib.hid (RF8.out.later hb)
            have RG9 := Lib.hid (RG8.out.later hb)
            have RJ9 := Lib.hid hrJ
            have HJlt := Lib.hid hJlt
            have hs9 := hb.size
            clear BB8 C28 RF8 RG8 M8 hb hrJ hJlo hJlt HW8
            go_wp2_with fail
            refine (new_any w9).mono ?_
            rintro e w10 ⟨rfl, hb, hsx⟩
            have BB10 := Lib.hid (BB9.out.trans (hb.mono BB9.out.size))
            have C210 := Lib.hid (C29.out.trans (hb.mono C29.out.size))
            have RF10 := Lib.hid (RF9.out.later hb)
            have RG10 := Lib.hid (RG9.out.later hb)
            have RJ10 := Lib.hid (RJ9.out.later hb)
            have SX10 := Lib.hid hsx
            have hs10 : w9.heap.size < w10.heap.size := hsx.lt.1
            have zBB := BB9.out.size
            have zC2 := C29.out.size
            have L9F := RF9.out.lt (by omega)
            have L9G := RG9.out.lt (by omega)
            clear BB9 C29 RF9 RG9 RJ9 hb hsx
            have hbad : ∀ x ∈ [F, G, F], x = F ∨ (x.length = q + 2 ∧ lastTwo x q ≠ Crc.crc (toN (x.take q))) := by
              intro x hx
              simp at hx
              rcases hx with rfl | rfl | rfl
              · exact .inl rfl
              · rcases HGd.out with h1 | ⟨_, h1⟩
                · exact .inl h1
                · exact .inr ⟨HGl.out, h1⟩
              · exact .inl rfl
            have hun := unitsOf_any w9.heap.size aJ J J (joinL [F, G, F]) [F, G, F] (N0 : Int) B0 (N1 : Int) B1 K (T : Int) L E F m q w10 (fun W hb => HBe0.out.later (BB10.out.trans (hb.mono zBB))) SX10.out RJ10.out HJe.out (fun z hz => by have := HJlt.out z hz; omega) HFeed.out rfl HDec.out hq2 HFl.out HFt.out HFg.out hbad
            have HUn := Lib.hid hun
            clear hun hbad SX10 RJ10
            go_wp2_with fail
            refine (HUn.out).mono ?_
            rintro e w11 ⟨⟨v, ss, bad, rfl, huo, hss, hbs⟩, hb⟩
            have BB11 := Lib.hid (BB10.out.trans (hb.mono zBB))
            have C211 := Lib.hid (C210.out.trans (hb.mono zC2))
            have RF11 := Lib.hid (RF10.out.later2 hb (fun z hz => L9F z hz))
            have RG11 := Lib.hid (RG10.out.later2 hb (fun z hz => L9G z hz))
            have HUo := Lib.hid huo
            have HSs := Lib.hid hss
            have hs11 := hb.size
            clear BB10 C210 RF10 RG10 huo hss hb HUn zBB zC2 L9F L9G
            go_wp2_with fail
            refine (same_any _ _ _ _ _ _ G F w11 RG11.out RF11.out).mono ?_
            rintro e w' ⟨rfl, q12, rfl⟩
            have hb := below_draw w11 q12
            obtain ⟨w12, hw⟩ : ∃ x, x = w11.drewN q12 := ⟨_, rfl⟩
            rw [← hw] at hb ⊢
            have zBB := BB11.out.size
            have zC2 := C211.out.size
            have BB12 := Lib.hid (BB11.out.trans (hb.mono zBB))
            have C212 := Lib.hid (C211.out.trans (hb.mono zC2))
            have UO12 := Lib.hid (HUo.out.later hb)
            have hs12 := hb.size
            clear BB11 C211 HUo hw hb RF11 RG11 zBB zC2
            by_cases hGF : G = F
            · rw [decide_eq_true hGF]
              have h3 : goods F [F, G, F] = 3 := by simp [goods, hGF]
              have hss := HSs.out
              rw [h3] at hss
              obtain rfl : bad = 0 := by omega
              obtain ⟨gU, cU, rfl, hcU, hcm, _⟩ := UO12.out.cell (by omega)
              unfold maxLen at hcm
              rw [hss] at hcU ⊢
              clear h3 hbs hGF HSs
              have HBo := Lib.hid (bottom_any w12 (HBe0.out.later BB12.out) (HFl0.out.later BB12.out))
              go_wp2_with fail
              refine (HBo.out).mono ?_
              rintro e w13 ⟨rfl, hb⟩
              have BB13 := Lib.hid (BB12.out.trans (hb.mono BB12.out.size))
              clear hb
              go_wp2
              go_ret
              exact ⟨rfl, BB13.out⟩
            · rw [decide_eq_false hGF]
              have h2 : goods F [F, G, F] = 2 := by simp [goods, hGF]
              have hss := HSs.out
              rw [h2] at hss
              obtain rfl : bad = 1 := by omega
              obtain ⟨gU, cU, rfl, hcU, hcm, hcc⟩ := UO12.out.cell (by omega)
              unfold maxLen at hcm
              have hrows := UO12.out.rows
              obtain ⟨z0, z1, rfl⟩ : ∃ z0 z1, ss = [z0, z1] := by
                match ss, hss with
                | [z0, z1], _ => exact ⟨z0, z1, rfl⟩
              have hcU2 : 2 ≤ cU := hcU
              have hz0 := (hrows z0 (by simp)).1
              have hz1 := (hrows z1 (by simp)).1
              have hcell := fun j (hj : j < 14) => hcc j hj
              clear h2 hbs hGF HSs hss hcU hcc hrows
              have hr0 : Row .u8 w12 z0 m m L := by have := hz0.row (by rw [HM.out]; omega) HLo.out; rwa [HM.out] at this
              have hr1 : Row .u8 w12 z1 m m L := by have := hz1.row (by rw [HM.out]; omega) HLo.out; rwa [HM.out] at this
              have c0 : w12.cell? ⟨gU, 0, none⟩ = some (.int .u8 (N0 : Int)) := hcell 0 (by omega)
              have c1 : w12.cell? ⟨gU, 1, none⟩ = some (.bool B0) := hcell 1 (by omega)
              have c2 : w12.cell? ⟨gU, 2, none⟩ = some (.int .u8 (N1 : Int)) := hcell 2 (by omega)
              have c3 : w12.cell? ⟨gU, 3, none⟩ = some (.bool B1) := hcell 3 (by omega)
              have c4 : w12.cell? ⟨gU, 4, none⟩ = some (.int .u8 K) := hcell 4 (by omega)
              have c5 : w12.cell? ⟨gU, 5, none⟩ = some (.int .u8 (T : Int)) := hcell 5 (by omega)
              have c6 : w12.cell? ⟨gU, 6, none⟩ = some (.slice z0 m m) := hcell 6 (by omega)
              have c7 : w12.cell? ⟨gU, 7, none⟩ = some (.int .u8 (N0 : Int)) := hcell 7 (by omega)
              have c8 : w12.cell? ⟨gU, 8, none⟩ = some (.bool B0) := hcell 8 (by omega)
              have c9 : w12.cell? ⟨gU, 9, none⟩ = some (.int .u8 (N1 : Int)) := hcell 9 (by omega)
              have c10 : w12.cell? ⟨gU, 10, none⟩ = some (.bool B1) := hcell 10 (by omega)
              have c11 : w12.cell? ⟨gU, 11, none⟩ = some (.int .u8 K) := hcell 11 (by omega)
              have c12 : w12.cell? ⟨gU, 12, none⟩ = some (.int .u8 (T : Int)) := hcell 12 (by omega)
              have c13 : w12.cell? ⟨gU, 13, none⟩ = some (.slice z1 m m) := hcell 13 (by omega)
              have hgU : gU < w12.heap.size := World.block_lt_of_cell? w12 _ c0
              have hSn : ∀ W W', Below w12.heap.size w12 W → Below W.heap.size W W' → Below w12.heap.size w12 W' ∧ W'.cell? ⟨w1.heap.size, 0, none⟩ = some (.int .u8 (N0 : Int)) ∧ W'.cell? ⟨w1.heap.size, 1, none⟩ = some (.bool B0) ∧ W'.cell? ⟨w1.heap.size, 2, none⟩ = some (.int .u8 (N1 : Int)) ∧ W'.cell? ⟨w1.heap.size, 3, none⟩ = some (.bool B1) ∧ W'.cell? ⟨w1.heap.size, 4, none⟩ = some (.int .u8 K) ∧ W'.cell? ⟨w1.heap.size, 5, none⟩ = some (.int .u8 (T : Int)) ∧ W'.cell? ⟨w1.heap.size, 6, none⟩ = some (.slice s1 m m) ∧ W'.cell? ⟨gU, 0, none⟩ = some (.int .u8 (N0 : Int)) ∧ W'.cell? ⟨gU, 1, none⟩ = some (.bool B0) ∧ W'.cell? ⟨gU, 2, none⟩ = some (.int .u8 (N1 : Int)) ∧ W'.cell? ⟨gU, 3, none⟩ = some (.bool B1) ∧ W'.cell? ⟨gU, 4, none⟩ = some (.int .u8 K) ∧ W'.cell? ⟨gU, 5, none⟩ = some (.int .u8 (T : Int)) ∧ W'.cell? ⟨gU, 6, none⟩ = some (.slice z0 m m) ∧ W'.cell? ⟨gU, 7, none⟩ = some (.int .u8 (N0 : Int)) ∧ W'.cell? ⟨gU, 8, none⟩ = some (.bool B0) ∧ W'.cell? ⟨gU, 9, none⟩ = some (.int .u8 (N1 : Int)) ∧ W'.cell? ⟨gU, 10, none⟩ = some (.bool B1) ∧ W'.cell? ⟨gU, 11, none⟩ = some (.int .u8 K) ∧ W'.cell? ⟨gU, 12, none⟩ = some (.int .u8 (T : Int)) ∧ W'.cell? ⟨gU, 13, none⟩ = some (.slice z1 m m) := by
                intro W W' hb hb'
                have hbb := hb.trans (hb'.mono hb.size)
                obtain ⟨u0, u1, u2, u3, u4, u5, u6⟩ := unit_cells (HO2.out.below (C212.out.trans (hbb.mono C212.out.size)) hlt2)
                exact ⟨hbb, u0, u1, u2, u3, u4, u5, u6, (hbb.cell (p := ⟨gU, 0, none⟩) hgU).trans c0, (hbb.cell (p := ⟨gU, 1, none⟩) hgU).trans c1, (hbb.cell (p := ⟨gU, 2, none⟩) hgU).trans c2, (hbb.cell (p := ⟨gU, 3, none⟩) hgU).trans c3, (hbb.cell (p := ⟨gU, 4, none⟩) hgU).trans c4, (hbb.cell (p := ⟨gU, 5, none⟩) hgU).trans c5, (hbb.cell (p := ⟨gU, 6, none⟩) hgU).trans c6, (hbb.cell (p := ⟨gU, 7, none⟩) hgU).trans c7, (hbb.cell (p := ⟨gU, 8, none⟩) hgU).trans c8, (hbb.cell (p := ⟨gU, 9, none⟩) hgU).trans c9, (hbb.cell (p := ⟨gU, 10, none⟩) hgU).trans c10, (hbb.cell (p := ⟨gU, 11, none⟩) hgU).trans c11, (hbb.cell (p := ⟨gU, 12, none⟩) hgU).trans c12, (hbb.cell (p := ⟨gU, 13, none⟩) hgU).trans c13⟩
              have hS0 := hSn w12 w12 (Below.refl _ _) (Below.refl _ _)
              have hSd := hSn w12 w12.drew (Below.refl _ _) (Below.refl _ _).drew
              have HS := Lib.hid hSn
              have HR0 := Lib.hid fun W (hb : Below w12.heap.size w12 W) => HSame.out W z0 s1 (hr0.later hb) (HRow.out.later (C212.out.trans (hb.mono C212.out.size)))
              have HR1 := Lib.hid fun W (hb : Below w12.heap.size w12 W) => HSame.out W z1 s1 (hr1.later hb) (HRow.out.later (C212.out.trans (hb.mono C212.out.size)))
              have HBo := Lib.hid fun W (hb : Below w12.heap.size w12 W) => bottom_any W (HBe0.out.later (BB12.out.trans (hb.mono BB12.out.size))) (HFl0.out.later (BB12.out.trans (hb.mono BB12.out.size)))
              clear hSn hz0 hz1 hr0 hr1 hcell c0 c1 c2 c3 c4 c5 c6 c7 c8 c9 c10 c11 c12 c13 UO12
              go_wp2_with fail
              go_region_held3 (fun W => Below w12.heap.size w12 W ∧ W.cell? ⟨w1.heap.size, 0, none⟩ = some (.int .u8 (N0 : Int)) ∧ W.cell? ⟨w1.heap.size, 1, none⟩ = some (.bool B0) ∧ W.cell? ⟨w1.heap.size, 2, none⟩ = some (.int .u8 (N1 : Int)) ∧ W.cell? ⟨w1.heap.size, 3, none⟩ = some (.bool B1) ∧ W.cell? ⟨w1.heap.size, 4, none⟩ = some (.int .u8 K) ∧ W.cell? ⟨w1.heap.size, 5, none⟩ = some (.int .u8 (T : Int)) ∧ W.cell? ⟨w1.heap.size, 6, none⟩ = some (.slice s1 m m) ∧ W.cell? ⟨gU, 0, none⟩ = some (.int .u8 (N0 : Int)) ∧ W.cell? ⟨gU, 1, none⟩ = some (.bool B0) ∧ W.cell? ⟨gU, 2, none⟩ = some (.int .u8 (N1 : Int)) ∧ W.cell? ⟨gU, 3, none⟩ = some (.bool B1) ∧ W.cell? ⟨gU, 4, none⟩ = some (.int .u8 K) ∧ W.cell? ⟨gU, 5, none⟩ = some (.int .u8 (T : Int)) ∧ W.cell? ⟨gU, 6, none⟩ = some (.slice z0 m m) ∧ W.cell? ⟨gU, 7, none⟩ = some (.int .u8 (N0 : Int)) ∧ W.cell? ⟨gU, 8, none⟩ = some (.bool B0) ∧ W.cell? ⟨gU, 9, none⟩ = some (.int .u8 (N1 : Int)) ∧ W.cell? ⟨gU, 10, none⟩ = some (.bool B1) ∧ W.cell? ⟨gU, 11, none⟩ = some (.int .u8 K) ∧ W.cell? ⟨gU, 12, none⟩ = some (.int .u8 (T : Int)) ∧ W.cell? ⟨gU, 13, none⟩ = some (.slice z1 m m)) (first | assumption)
                (first
                  | (go_at_call 12; ((with_reducible refine (HR0.out _ (And.left (by assumption))).mono ?_); rintro e w15 ⟨rfl, hb5⟩; have hS5 := HS.out _ _ (And.left (by assumption)) hb5; clear hb5))
                  | (go_at_call 12; ((with_reducible refine (HR1.out _ (And.left (by assumption))).mono ?_); rintro e w16 ⟨rfl, hb6⟩; have hS6 := HS.out _ _ (And.left (by assumption)) hb6; clear hb6))
                  | (go_at_call 11; ((with_reducible refine (HBo.out _ (And.left (by assumption))).mono ?_); rintro e w17 ⟨rfl, hb7⟩; have hS7 := HS.out _ _ (And.left (by assumption)) hb7; clear hb7))
                  | fail)
              all_goals
                go_wp2
                go_ret
                exact ⟨rfl, BB12.out.trans (Below.mono (And.left (by assumption)) BB12.out.size)⟩
end Go.Proofs.YtnecdmihnndebaaDoor
