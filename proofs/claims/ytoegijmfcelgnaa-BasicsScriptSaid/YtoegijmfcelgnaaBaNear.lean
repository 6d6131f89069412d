/- Contracts: the statements' model of an end: fresh; a State; the unit of an act. -/
import Derived.Test.YtoegijmfcelgnaaBaHear
import Derived.Test.YtoegijmfcelgnaaUnUOf
namespace Go.Proofs.Ytoegijmfcelgnaa
open Go.RowKit

theorem mhear_state (b : Nat) (u : Un) (s' : Option Addr) (n c : Nat) (w : World) (hk1 : u.kind = 1) :
    Calls Try.prog 14 #[.pointer (some ⟨b, 0, none⟩), .agg (unCells u s' n c).toArray] w fun e w' => e = .returned (.bool false) ∧ Below w.heap.size w w' := by
  obtain ⟨ub, bb, uf, fb, uk, us, ul⟩ := u
  simp only at hk1
  subst hk1
  simp only [unCells]
  go_enter Try.func14, Try.ntmps14
  go_wp2
  go_ret
  exact ⟨rfl, below_alloc _ _⟩
theorem fresh_any (w : World) :
    Calls Try.prog 7 #[] w fun e w' => e = .returned (.agg (mdCells Md.fresh).toArray) ∧ Below w.heap.size w w' := by
  go_enter Try.func7, Try.ntmps7
  go_wp2
  exact bodyPost_ret (v := .agg (mdCells Md.fresh).toArray) (by simp [results, Try.results7, go_sem, mdCells, Md.fresh]) rfl ⟨rfl, below_alloc _ _⟩
/-- The unit of an act. -/
def nearU (m : Md) (n0 n1 n2 n3 size : Nat) (l : List Int) : Un :=
  ⟨(num m.acked + n0 % 128 % (m.sent - m.acked + 2)) % 128, decide (128 ≤ n0), (m.accepted + n1 % 128 % 3 + 127 * (n1 % 128 / 100)) % 128, decide (128 ≤ n1), n2 % 3, if n2 % 3 = 1 then n3 % 6 else 0, if n2 % 3 = 2 then (msgL size l).take 2 else []⟩
theorem uStat_nat (n2 n3 : Nat) : uStat (n2 : Int) (n3 : Int) = (((if n2 % 3 = 1 then n3 % 6 else 0 : Nat)) : Int) := by
  unfold uStat
  by_cases h : n2 % 3 = 1
  · rw [if_pos h, if_pos (by omega)]; omega
  · rw [if_neg h, if_neg (by omega)]; rfl
set_option maxHeartbeats 4000000 in
set_option maxRecDepth 100000 in
theorem near_load (k : Int) (n0 n1 n2 n3 size : Nat) (s : Option Addr) (n c : Nat) (l : List Int) (m : Md) (w : World) (h0 : n0 ≤ 255) (h1 : n1 ≤ 255) (h2 : n2 ≤ 255) (h3 : n3 ≤ 255) (hs : size ≤ 65535) (h : Row .u8 w s n c l) (hm : m.Ok) (hsm : m.given ≤ 100000) (hk : n2 % 3 = 2) :
    Calls Try.prog 13 #[.agg #[.int .u8 k, .int .u8 (n0 : Int), .int .u8 (n1 : Int), .int .u8 (n2 : Int), .int .u8 (n3 : Int), .int .u16 (size : Int), .slice s n c], .agg (mdCells m).toArray] w fun e w' =>
      (∃ g N, e = .returned (.agg (unCells (nearU m n0 n1 n2 n3 size l) (some ⟨g, 0, none⟩) 2 N).toArray) ∧ 2 ≤ N ∧ N ≤ 300 ∧ w.heap.size ≤ g ∧ Own w' g 5 (nums .u8 (msgL size l)) ∧ (msgL size l).length = N) ∧ Below w.heap.size w w' := by
  obtain ⟨N, hNe⟩ : ∃ N, N = 2 + size % 272 := ⟨_, rfl⟩
  have hN : (uLoad (n2 : Int) size l).length = N := by unfold uLoad; rw [if_pos (by omega), msgL_length, hNe]
  have har := hm.ar; have hrs := hm.rs; have hsg := hm.sg; have hac := hm.acc; have hwi := hm.win
  have hnl := num_lt m.acked
  obtain ⟨W1, hW1⟩ : ∃ W, W = ((w.alloc (.cells #[.int .u8 k, .int .u8 (n0 : Int), .int .u8 (n1 : Int), .int .u8 (n2 : Int), .int .u8 (n3 : Int), .int .u16 (size : Int), .slice s n c] 36)).alloc (.cells (mdCells m).toArray 28)).alloc (.cells zeroUnit.toArray 41) := ⟨_, rfl⟩
  have hb1 : Below w.heap.size w W1 := by rw [hW1]; exact (((Below.refl _ _).alloc (Nat.le_refl _) _).alloc (by simp) _).alloc (by simp; omega) _
  have hz1 : W1.heap.size = w.heap.size + 3 := by rw [hW1]; simp
  obtain ⟨B0, hB0⟩ : ∃ x, x = n0 % 128 := ⟨_, rfl⟩
  obtain ⟨D0, hD0⟩ : ∃ x, x = decide (128 ≤ n0) := ⟨_, rfl⟩
  obtain ⟨F0, hF0⟩ : ∃ x, x = n1 % 128 := ⟨_, rfl⟩
  obtain ⟨D1, hD1⟩ : ∃ x, x = decide (128 ≤ n1) := ⟨_, rfl⟩
  obtain ⟨K, hK⟩ : ∃ x, x = n2 % 3 := ⟨_, rfl⟩
  obtain ⟨St, hSt⟩ : ∃ x, x = (if n2 % 3 = 1 then n3 % 6 else 0 : Nat) := ⟨_, rfl⟩
  have hcon := uof_any (n0 : Int) (n1 : Int) (n2 : Int) (n3 : Int) size s n c l W1 (by omega) (by omega) (by omega) (by omega) (by omega) (by omega) (by omega) (by omega) hs (h.later hb1) N hN
  have q0 : (n0 : Int) % 128 = (B0 : Int) := by omega
  have q1 : (n1 : Int) % 128 = (F0 : Int) := by omega
  have q2 : (n2 : Int) % 3 = (K : Int) := by omega
  have q3 : decide (128 ≤ (n0 : Int)) = D0 := by rw [hD0]; exact decide_eq_decide.2 (by omega)
  have q4 : decide (128 ≤ (n1 : Int)) = D1 := by rw [hD1]; exact decide_eq_decide.2 (by omega)
  rw [q0, q1, q2, q3, q4, uStat_nat, ← hSt] at hcon
  have om1 : Own W1 (w.heap.size + 1) 28 (mdCells m) := by
    have hh := own_lit (w.alloc (.cells #[.int .u8 k, .int .u8 (n0 : Int), .int .u8 (n1 : Int), .int .u8 (n2 : Int), .int .u8 (n3 : Int), .int .u16 (size : Int), .slice s n c] 36)) 28 (mdCells m).toArray (mdCells m) rfl
    rw [World.size_alloc] at hh
    rw [hW1]; exact hh.below (below_alloc _ _) (by simp)
  have oz1 : Own W1 (w.heap.size + 1 + 1) 41 zeroUnit := by
    have hh := own_lit ((w.alloc (.cells #[.int .u8 k, .int .u8 (n0 : Int), .int .u8 (n1 : Int), .int .u8 (n2 : Int), .int .u8 (n3 : Int), .int .u16 (size : Int), .slice s n c] 36)).alloc (.cells (mdCells m).toArray 28)) 41 zeroUnit.toArray zeroUnit rfl
    rw [World.size_alloc, World.size_alloc] at hh
    rw [hW1]; exact hh
  obtain ⟨NM, hNM⟩ : ∃ x, x = num m.acked := ⟨_, rfl⟩
  rw [← hNM] at hnl
  have hnear : nearU m n0 n1 n2 n3 size l = ⟨(NM + B0 % (m.sent - m.acked + 2)) % 128, D0, (m.accepted + F0 % 3 + 127 * (F0 / 100)) % 128, D1, K, St, if n2 % 3 = 2 then (msgL size l).take 2 else []⟩ := by
    unfold nearU; rw [hNM, hB0, hD0, hF0, hD1, hK, hSt]
  have hnc : ∀ W, Calls Try.prog 19 #[.int .i64 (m.acked : Int)] W fun e w' => e = .returned (.int .u8 (NM : Int)) ∧ w' = W := fun W => (knum_any m.acked W (by omega)).mono fun e w' ⟨he, hw⟩ => ⟨by rw [he, hNM], hw.symm⟩
  have b0 : B0 < 128 := by omega
  have b1 : F0 < 128 := by omega
  have b2 : K < 3 := by omega
  have b3 : St < 6 := by rw [hSt]; split <;> omega
  have hul : uLoad (n2 : Int) size l = msgL size l := by unfold uLoad; rw [if_pos (by omega)]
  have hK2 : K = 2 := by omega
  have hSt2 : St = 0 := by rw [hSt, if_neg (by omega)]
  rw [hK2, hSt2] at hcon hnear
  have HC := Lib.hid hcon
  have HW := Lib.hid hW1
  have HB := Lib.hid hb1
  have HM1 := Lib.hid om1
  have HZ1 := Lib.hid oz1
  have HNr := Lib.hid hnear
  have HNc := Lib.hid hnc
  have HUl := Lib.hid hul
  have HNl := Lib.hid hN
  have HNe := Lib.hid hNe
  obtain ⟨g, s1, a, r, fo, ac, ba, x0, x1, fl⟩ := m
  simp only [mdCells] at HW ⊢
  clear hcon hW1 h om1 oz1 hb1 hB0 hD0 hF0 hD1 hK hSt hNM hnear q0 q1 q2 q3 q4 hm hnc hul hN hNe hK2 hSt2
  simp only at har hrs hsg hac hwi hsm hnl HNc HNr
  go_enter Try.func13, Try.ntmps13
  go_wp2_with fail
  rw [← HW.out]
  refine HC.out.mono ?_
  rintro e w2 ⟨⟨s2, rfl, hl2⟩, hb2⟩
  rcases hl2 with ⟨_, h0'⟩ | ⟨gl, rfl, hgl, ho2⟩
  · exfalso
    have h5 := HNl.out
    have h6 := HNe.out
    rw [h0'] at h5; simp at h5; omega
  rw [HUl.out] at ho2
  have lt2 := ho2.lt
  have HO2 := Lib.hid ho2
  clear ho2
  have z2 : w.heap.size + 3 ≤ w2.heap.size := by have := hb2.size; omega
  have z2a : w.heap.size + 1 < w2.heap.size := by omega
  have z2b : w.heap.size + 1 + 1 < w2.heap.size := by omega
  have z2c : w.heap.size + 2 < w2.heap.size := by omega
  have om2 := HM1.out.below hb2 (by omega)
  have oz2 := HZ1.out.below hb2 (by omega)
  obtain ⟨_, c1, c2, _, _, c5, _, _, _, _⟩ := md_cells om2
  have HM2 := Lib.hid om2
  have HZ2 := Lib.hid oz2
  have HB2 := Lib.hid hb2
  clear om2 oz2 hb2
  obtain ⟨O, hO⟩ : ∃ x, x = s1 - a := ⟨_, rfl⟩
  have hOi : (s1 : Int) - (a : Int) = (O : Int) := by omega
  have hO2 : O ≤ 127 := by omega
  have bs : (s1 : Int) ≤ 100000 := by omega
  have ba' : (a : Int) ≤ 100000 := by omega
  obtain ⟨T, hT⟩ : ∃ x, x = B0 % (O + 2) := ⟨_, rfl⟩
  have hT2 : T ≤ 127 := by rw [hT]; have := Nat.mod_le B0 (O + 2); omega
  obtain ⟨Q, hQ⟩ : ∃ x, x = (NM + T) % 128 := ⟨_, rfl⟩
  have e2 : IntKind.i64.wrap (NM : Int) = (NM : Int) := IntWalk.i64_in _ (by omega)
  have e3 : IntKind.i64.wrap (B0 : Int) = (B0 : Int) := IntWalk.i64_in _ (by omega)
  obtain ⟨PP, hPP⟩ : ∃ x, x = O + 2 := ⟨_, rfl⟩
  have e4 : IntKind.i64.wrap ((O : Int) + 2) = (PP : Int) := by rw [IntWalk.i64_in _ (by omega)]; omega
  have e5 : (B0 : Int).tmod (PP : Int) = (T : Int) := by rw [Int.tmod_eq_emod_of_nonneg (by omega), hT, ← hPP]; push_cast; rfl
  have e5a : ¬ ((PP : Int) = 0) := by omega
  have e5b : ((PP : Int) == 0) = false := by simp; omega
  have e5c : ¬ (PP = 0) := by omega
  have e5d : (PP == 0) = false := by simp; omega
  have e6 : IntKind.i64.wrap ((NM : Int) + (T : Int)) = (NM : Int) + (T : Int) := IntWalk.i64_in _ (by omega)
  have e7 : ((NM : Int) + (T : Int)).tmod 128 = (Q : Int) := by rw [Int.tmod_eq_emod_of_nonneg (by omega), hQ]; omega
  have e8 : IntKind.u8.wrap (Q : Int) = (Q : Int) := IntWalk.u8_in _ (by omega)
  have HT := Lib.hid hT
  have HO := Lib.hid hO
  have HQ := Lib.hid hQ
  clear hT hO hQ hPP
  have hN2 : 2 ≤ N := by have := HNe.out; omega
  go_wp2_with fail
  generalize hW3 : w2.alloc (.cells #[.int .u8 (B0 : Int), .bool D0, .int .u8 (F0 : Int), .bool D1, .int .u8 2, .int .u8 0, (.slice (some ⟨gl, 0, none⟩) 2 N)] 41) = W3
  have hb3 : Below w2.heap.size w2 W3 := by rw [← hW3]; exact below_alloc _ _
  have ou3 : Own W3 w2.heap.size 41 [.int .u8 (B0 : Int), .bool D0, .int .u8 (F0 : Int), .bool D1, .int .u8 2, .int .u8 0, (.slice (some ⟨gl, 0, none⟩) 2 N)] := by rw [← hW3]; exact own_lit w2 _ _ _ rfl
  have om3 := HM2.out.below hb3 (by omega)
  have oz3 := HZ2.out.below hb3 (by omega)
  have ol3 := HO2.out.below hb3 (by omega)
  have z3 : w2.heap.size + 1 ≤ W3.heap.size := by rw [← hW3]; simp
  have hbw3 : Below w.heap.size w W3 := (HB.out.trans (HB2.out.mono (by omega))).trans (hb3.mono (by omega))
  clear c1 c2 c5 hW3 hb3
  obtain ⟨_, _, c2, _, _, c5, _, _, _, _⟩ := md_cells om3
  obtain ⟨v0, v1, v2, v3, v4, v5, v6⟩ := unit_cells ou3
  obtain ⟨y0, y1, y2, y3, y4, y5, y6⟩ := unit_cells oz3
  obtain ⟨t0, t1, t2, t3, t4, t5, t6⟩ := unit_frozen oz3
  obtain ⟨k0, _, k2, _, _, _, _⟩ := unit_frozen ou3
  have HM3 := Lib.hid om3
  have HU3 := Lib.hid ou3
  have HZ3 := Lib.hid oz3
  have HL3 := Lib.hid ol3
  have HB3 := Lib.hid hbw3
  clear om3 ou3 oz3 hbw3 ol3
  go_still_tail 14, (by kernel_rfl)
  still_call (HNc.out _)
  repeat still_step
  refine wpStill_nil ?_
  change wpList _ _ _ _ _ W3.drew
  go_wp2
  clear e2 e3 e4 e5 e5a e5b e5c e5d e6 e7 e8 hOi 
  obtain ⟨FR, hFR⟩ : ∃ x, x = (ac + F0 % 3 + 127 * (F0 / 100)) % 128 := ⟨_, rfl⟩
  have hFi : ((ac : Int) + (F0 : Int) % 3 + 127 * ((F0 : Int) / 100)) % 128 = (FR : Int) := by omega
  rw [hFi]
  generalize hW4 : (((((((((W3.setCell ⟨w2.heap.size, 0, none⟩ (.int .u8 (Q : Int))).setCell ⟨w2.heap.size, 2, none⟩ (.int .u8 (FR : Int))).setCell ⟨w.heap.size + 1 + 1, 0, none⟩ (.int .u8 (Q : Int))).setCell ⟨w.heap.size + 1 + 1, 1, none⟩ (.bool D0)).setCell ⟨w.heap.size + 1 + 1, 2, none⟩ (.int .u8 (FR : Int))).setCell ⟨w.heap.size + 1 + 1, 3, none⟩ (.bool D1)).setCell ⟨w.heap.size + 1 + 1, 4, none⟩ (.int .u8 2)).setCell ⟨w.heap.size + 1 + 1, 5, none⟩ (.int .u8 0)).setCell ⟨w.heap.size + 1 + 1, 6, none⟩ (.slice (some ⟨gl, 0, none⟩) 2 N)).drew = W4
  have oz5 := (((((((((HZ3.out.other ⟨w2.heap.size, 0, none⟩ (by simp; omega) (.int .u8 (Q : Int))).other ⟨w2.heap.size, 2, none⟩ (by simp; omega) (.int .u8 (FR : Int))).set 0 (.int .u8 (Q : Int))).set 1 (.bool D0)).set 2 (.int .u8 (FR : Int))).set 3 (.bool D1)).set 4 (.int .u8 2)).set 5 (.int .u8 0)).set 6 (.slice (some ⟨gl, 0, none⟩) 2 N))
  have oz4 : Own W4 (w.heap.size + 1 + 1) 41 [.int .u8 (Q : Int), .bool D0, .int .u8 (FR : Int), .bool D1, .int .u8 2, .int .u8 0, (.slice (some ⟨gl, 0, none⟩) 2 N)] := by rw [← hW4]; exact Own.drewK oz5
  have hb5 := (((((((((HB3.out.setCell (p := ⟨w2.heap.size, 0, none⟩) (by simp; omega) (.int .u8 (Q : Int))).setCell (p := ⟨w2.heap.size, 2, none⟩) (by simp; omega) (.int .u8 (FR : Int))).setCell (p := ⟨w.heap.size + 1 + 1, 0, none⟩) (by simp; omega) (.int .u8 (Q : Int))).setCell (p := ⟨w.heap.size + 1 + 1, 1, none⟩) (by simp; omega) (.bool D0)).setCell (p := ⟨w.heap.size + 1 + 1, 2, none⟩) (by simp; omega) (.int .u8 (FR : Int))).setCell (p := ⟨w.heap.size + 1 + 1, 3, none⟩) (by simp; omega) (.bool D1)).setCell (p := ⟨w.heap.size + 1 + 1, 4, none⟩) (by simp; omega) (.int .u8 2)).setCell (p := ⟨w.heap.size + 1 + 1, 5, none⟩) (by simp; omega) (.int .u8 0)).setCell (p := ⟨w.heap.size + 1 + 1, 6, none⟩) (by simp; omega) (.slice (some ⟨gl, 0, none⟩) 2 N))
  have hb4 : Below w.heap.size w W4 := by rw [← hW4]; exact below_drewN (n := 1) hb5
  have ol5 := (((((((((HL3.out.other ⟨w2.heap.size, 0, none⟩ (by simp; omega) (.int .u8 (Q : Int))).other ⟨w2.heap.size, 2, none⟩ (by simp; omega) (.int .u8 (FR : Int))).other ⟨w.heap.size + 1 + 1, 0, none⟩ (by simp; omega) (.int .u8 (Q : Int))).other ⟨w.heap.size + 1 + 1, 1, none⟩ (by simp; omega) (.bool D0)).other ⟨w.heap.size + 1 + 1, 2, none⟩ (by simp; omega) (.int .u8 (FR : Int))).other ⟨w.heap.size + 1 + 1, 3, none⟩ (by simp; omega) (.bool D1)).other ⟨w.heap.size + 1 + 1, 4, none⟩ (by simp; omega) (.int .u8 2)).other ⟨w.heap.size + 1 + 1, 5, none⟩ (by simp; omega) (.int .u8 0)).other ⟨w.heap.size + 1 + 1, 6, none⟩ (by simp; omega) (.slice (some ⟨gl, 0, none⟩) 2 N))
  have ol4 : Own W4 gl 5 (nums .u8 (msgL size l)) := by rw [← hW4]; exact Own.drewK ol5
  clear hW4 v0 v1 v2 v3 v4 v5 v6 y0 y1 y2 y3 y4 y5 y6 t0 t1 t2 t3 t4 t5 t6 k0 k2 c2 c5 hFi
  obtain ⟨y0, y1, y2, y3, y4, y5, y6⟩ := unit_cells oz4
  have hq : (NM + B0 % (s1 - a + 2)) % 128 = Q := by rw [← HO.out, ← HT.out, ← HQ.out]
  have he : unCells (nearU ⟨g, s1, a, r, fo, ac, ba, x0, x1, fl⟩ n0 n1 n2 n3 size l) (some ⟨gl, 0, none⟩) 2 N = unCells ⟨Q, D0, FR, D1, 2, 0, []⟩ (some ⟨gl, 0, none⟩) 2 N := by
    rw [HNr.out, hq, ← hFR]; rfl
  refine bodyPost_ret (v := .agg (unCells ⟨Q, D0, FR, D1, 2, 0, []⟩ (some ⟨gl, 0, none⟩) 2 N).toArray) (by simp [results, Try.results13, go_sem, y0, y1, y2, y3, y4, y5, y6, unCells]) rfl ?_
  have hl := HNl.out
  rw [HUl.out] at hl
  exact ⟨⟨gl, N, by rw [he], hN2, by have := HNe.out; omega, by omega, ol4, hl⟩, hb4⟩
set_option maxHeartbeats 4000000 in
set_option maxRecDepth 100000 in
theorem near_other (k : Int) (n0 n1 n2 n3 size : Nat) (s : Option Addr) (n c : Nat) (l : List Int) (m : Md) (w : World) (h0 : n0 ≤ 255) (h1 : n1 ≤ 255) (h2 : n2 ≤ 255) (h3 : n3 ≤ 255) (hs : size ≤ 65535) (h : Row .u8 w s n c l) (hm : m.Ok) (hsm : m.given ≤ 100000) (hk : n2 % 3 ≠ 2) :
    Calls Try.prog 13 #[.agg #[.int .u8 k, .int .u8 (n0 : Int), .int .u8 (n1 : Int), .int .u8 (n2 : Int), .int .u8 (n3 : Int), .int .u16 (size : Int), .slice s n c], .agg (mdCells m).toArray] w fun e w' =>
      (∃ s', e = .returned (.agg (unCells (nearU m n0 n1 n2 n3 size l) s' 0 0).toArray)) ∧ Below w.heap.size w w' := by
  have hNe : True := trivial
  have hN : (uLoad (n2 : Int) size l).length = 0 := by unfold uLoad; rw [if_neg (by omega)]; rfl
  have har := hm.ar; have hrs := hm.rs; have hsg := hm.sg; have hac := hm.acc; have hwi := hm.win
  have hnl := num_lt m.acked
  obtain ⟨W1, hW1⟩ : ∃ W, W = ((w.alloc (.cells #[.int .u8 k, .int .u8 (n0 : Int), .int .u8 (n1 : Int), .int .u8 (n2 : Int), .int .u8 (n3 : Int), .int .u16 (size : Int), .slice s n c] 36)).alloc (.cells (mdCells m).toArray 28)).alloc (.cells zeroUnit.toArray 41) := ⟨_, rfl⟩
  have hb1 : Below w.heap.size w W1 := by rw [hW1]; exact (((Below.refl _ _).alloc (Nat.le_refl _) _).alloc (by simp) _).alloc (by simp; omega) _
  have hz1 : W1.heap.size = w.heap.size + 3 := by rw [hW1]; simp
  obtain ⟨B0, hB0⟩ : ∃ x, x = n0 % 128 := ⟨_, rfl⟩
  obtain ⟨D0, hD0⟩ : ∃ x, x = decide (128 ≤ n0) := ⟨_, rfl⟩
  obtain ⟨F0, hF0⟩ : ∃ x, x = n1 % 128 := ⟨_, rfl⟩
  obtain ⟨D1, hD1⟩ : ∃ x, x = decide (128 ≤ n1) := ⟨_, rfl⟩
  obtain ⟨K, hK⟩ : ∃ x, x = n2 % 3 := ⟨_, rfl⟩
  obtain ⟨St, hSt⟩ : ∃ x, x = (if n2 % 3 = 1 then n3 % 6 else 0 : Nat) := ⟨_, rfl⟩
  have hcon := uof_any (n0 : Int) (n1 : Int) (n2 : Int) (n3 : Int) size s n c l W1 (by omega) (by omega) (by omega) (by omega) (by omega) (by omega) (by omega) (by omega) hs (h.later hb1) 0 hN
  have q0 : (n0 : Int) % 128 = (B0 : Int) := by omega
  have q1 : (n1 : Int) % 128 = (F0 : Int) := by omega
  have q2 : (n2 : Int) % 3 = (K : Int) := by omega
  have q3 : decide (128 ≤ (n0 : Int)) = D0 := by rw [hD0]; exact decide_eq_decide.2 (by omega)
  have q4 : decide (128 ≤ (n1 : Int)) = D1 := by rw [hD1]; exact decide_eq_decide.2 (by omega)
  rw [q0, q1, q2, q3, q4, uStat_nat, ← hSt] at hcon
  have om1 : Own W1 (w.heap.size + 1) 28 (mdCells m) := by
    have hh := own_lit (w.alloc (.cells #[.int .u8 k, .int .u8 (n0 : Int), .int .u8 (n1 : Int), .int .u8 (n2 : Int), .int .u8 (n3 : Int), .int .u16 (size : Int), .slice s n c] 36)) 28 (mdCells m).toArray (mdCells m) rfl
    rw [World.size_alloc] at hh
    rw [hW1]; exact hh.below (below_alloc _ _) (by simp)
  have oz1 : Own W1 (w.heap.size + 1 + 1) 41 zeroUnit := by
    have hh := own_lit ((w.alloc (.cells #[.int .u8 k, .int .u8 (n0 : Int), .int .u8 (n1 : Int), .int .u8 (n2 : Int), .int .u8 (n3 : Int), .int .u16 (size : Int), .slice s n c] 36)).alloc (.cells (mdCells m).toArray 28)) 41 zeroUnit.toArray zeroUnit rfl
    rw [World.size_alloc, World.size_alloc] at hh
    rw [hW1]; exact hh
  obtain ⟨NM, hNM⟩ : ∃ x, x = num m.acked := ⟨_, rfl⟩
  rw [← hNM] at hnl
  have hnear : nearU m n0 n1 n2 n3 size l = ⟨(NM + B0 % (m.sent - m.acked + 2)) % 128, D0, (m.accepted + F0 % 3 + 127 * (F0 / 100)) % 128, D1, K, St, if n2 % 3 = 2 then (msgL size l).take 2 else []⟩ := by
    unfold nearU; rw [hNM, hB0, hD0, hF0, hD1, hK, hSt]
  have hnc : ∀ W, Calls Try.prog 19 #[.int .i64 (m.acked : Int)] W fun e w' => e = .returned (.int .u8 (NM : Int)) ∧ w' = W := fun W => (knum_any m.acked W (by omega)).mono fun e w' ⟨he, hw⟩ => ⟨by rw [he, hNM], hw.symm⟩
  have b0 : B0 < 128 := by omega
  have b1 : F0 < 128 := by omega
  have b2 : K < 3 := by omega
  have b3 : St < 6 := by rw [hSt]; split <;> omega
  have hul : uLoad (n2 : Int) size l = [] := by unfold uLoad; rw [if_neg (by omega)]
  have hK2 : K ≠ 2 := by omega
  
  
  have HC := Lib.hid hcon
  have HW := Lib.hid hW1
  have HB := Lib.hid hb1
  have HM1 := Lib.hid om1
  have HZ1 := Lib.hid oz1
  have HNr := Lib.hid hnear
  have HNc := Lib.hid hnc
  have HUl := Lib.hid hul
  have HNl := Lib.hid hN
  have HNe := Lib.hid hNe
  obtain ⟨g, s1, a, r, fo, ac, ba, x0, x1, fl⟩ := m
  simp only [mdCells] at HW ⊢
  clear hcon hW1 h om1 oz1 hb1 hB0 hD0 hF0 hD1 hK hSt hNM hnear q0 q1 q2 q3 q4 hm hnc hul hN hNe 
  simp only at har hrs hsg hac hwi hsm hnl HNc HNr
  go_enter Try.func13, Try.ntmps13
  go_wp2_with fail
  rw [← HW.out]
  refine HC.out.mono ?_
  rintro e w2 ⟨⟨s2, rfl, hl2⟩, hb2⟩
  clear hl2
  have z2 : w.heap.size + 3 ≤ w2.heap.size := by have := hb2.size; omega
  have z2a : w.heap.size + 1 < w2.heap.size := by omega
  have z2b : w.heap.size + 1 + 1 < w2.heap.size := by omega
  have z2c : w.heap.size + 2 < w2.heap.size := by omega
  have om2 := HM1.out.below hb2 (by omega)
  have oz2 := HZ1.out.below hb2 (by omega)
  obtain ⟨_, c1, c2, _, _, c5, _, _, _, _⟩ := md_cells om2
  have HM2 := Lib.hid om2
  have HZ2 := Lib.hid oz2
  have HB2 := Lib.hid hb2
  clear om2 oz2 hb2
  obtain ⟨O, hO⟩ : ∃ x, x = s1 - a := ⟨_, rfl⟩
  have hOi : (s1 : Int) - (a : Int) = (O : Int) := by omega
  have hO2 : O ≤ 127 := by omega
  have bs : (s1 : Int) ≤ 100000 := by omega
  have ba' : (a : Int) ≤ 100000 := by omega
  obtain ⟨T, hT⟩ : ∃ x, x = B0 % (O + 2) := ⟨_, rfl⟩
  have hT2 : T ≤ 127 := by rw [hT]; have := Nat.mod_le B0 (O + 2); omega
  obtain ⟨Q, hQ⟩ : ∃ x, x = (NM + T) % 128 := ⟨_, rfl⟩
  have e2 : IntKind.i64.wrap (NM : Int) = (NM : Int) := IntWalk.i64_in _ (by omega)
  have e3 : IntKind.i64.wrap (B0 : Int) = (B0 : Int) := IntWalk.i64_in _ (by omega)
  obtain ⟨PP, hPP⟩ : ∃ x, x = O + 2 := ⟨_, rfl⟩
  have e4 : IntKind.i64.wrap ((O : Int) + 2) = (PP : Int) := by rw [IntWalk.i64_in _ (by omega)]; omega
  have e5 : (B0 : Int).tmod (PP : Int) = (T : Int) := by rw [Int.tmod_eq_emod_of_nonneg (by omega), hT, ← hPP]; push_cast; rfl
  have e5a : ¬ ((PP : Int) = 0) := by omega
  have e5b : ((PP : Int) == 0) = false := by simp; omega
  have e5c : ¬ (PP = 0) := by omega
  have e5d : (PP == 0) = false := by simp; omega
  have e6 : IntKind.i64.wrap ((NM : Int) + (T : Int)) = (NM : Int) + (T : Int) := IntWalk.i64_in _ (by omega)
  have e7 : ((NM : Int) + (T : Int)).tmod 128 = (Q : Int) := by rw [Int.tmod_eq_emod_of_nonneg (by omega), hQ]; omega
  have e8 : IntKind.u8.wrap (Q : Int) = (Q : Int) := IntWalk.u8_in _ (by omega)
  have HT := Lib.hid hT
  have HO := Lib.hid hO
  have HQ := Lib.hid hQ
  clear hT hO hQ hPP
  have e1 : ((K : Int) == 2) = false := by simp; omega
  go_wp2_with fail
  generalize hW3 : w2.alloc (.cells #[.int .u8 (B0 : Int), .bool D0, .int .u8 (F0 : Int), .bool D1, .int .u8 (K : Int), .int .u8 (St : Int), (.slice s2 0 0)] 41) = W3
  have hb3 : Below w2.heap.size w2 W3 := by rw [← hW3]; exact below_alloc _ _
  have ou3 : Own W3 w2.heap.size 41 [.int .u8 (B0 : Int), .bool D0, .int .u8 (F0 : Int), .bool D1, .int .u8 (K : Int), .int .u8 (St : Int), (.slice s2 0 0)] := by rw [← hW3]; exact own_lit w2 _ _ _ rfl
  have om3 := HM2.out.below hb3 (by omega)
  have oz3 := HZ2.out.below hb3 (by omega)

  have z3 : w2.heap.size + 1 ≤ W3.heap.size := by rw [← hW3]; simp
  have hbw3 : Below w.heap.size w W3 := (HB.out.trans (HB2.out.mono (by omega))).trans (hb3.mono (by omega))
  clear c1 c2 c5 hW3 hb3
  obtain ⟨_, _, c2, _, _, c5, _, _, _, _⟩ := md_cells om3
  obtain ⟨v0, v1, v2, v3, v4, v5, v6⟩ := unit_cells ou3
  obtain ⟨y0, y1, y2, y3, y4, y5, y6⟩ := unit_cells oz3
  obtain ⟨t0, t1, t2, t3, t4, t5, t6⟩ := unit_frozen oz3
  obtain ⟨k0, _, k2, _, _, _, _⟩ := unit_frozen ou3
  have HM3 := Lib.hid om3
  have HU3 := Lib.hid ou3
  have HZ3 := Lib.hid oz3

  have HB3 := Lib.hid hbw3
  clear om3 ou3 oz3 hbw3 
  go_still_tail 14, (by kernel_rfl)
  still_call (HNc.out _)
  repeat still_step
  refine wpStill_nil ?_
  change wpList _ _ _ _ _ W3.drew
  go_wp2
  clear e2 e3 e4 e5 e5a e5b e5c e5d e6 e7 e8 hOi e1
  obtain ⟨FR, hFR⟩ : ∃ x, x = (ac + F0 % 3 + 127 * (F0 / 100)) % 128 := ⟨_, rfl⟩
  have hFi : ((ac : Int) + (F0 : Int) % 3 + 127 * ((F0 : Int) / 100)) % 128 = (FR : Int) := by omega
  rw [hFi]
  generalize hW4 : (((((((((W3.setCell ⟨w2.heap.size, 0, none⟩ (.int .u8 (Q : Int))).setCell ⟨w2.heap.size, 2, none⟩ (.int .u8 (FR : Int))).setCell ⟨w.heap.size + 1 + 1, 0, none⟩ (.int .u8 (Q : Int))).setCell ⟨w.heap.size + 1 + 1, 1, none⟩ (.bool D0)).setCell ⟨w.heap.size + 1 + 1, 2, none⟩ (.int .u8 (FR : Int))).setCell ⟨w.heap.size + 1 + 1, 3, none⟩ (.bool D1)).setCell ⟨w.heap.size + 1 + 1, 4, none⟩ (.int .u8 (K : Int))).setCell ⟨w.heap.size + 1 + 1, 5, none⟩ (.int .u8 (St : Int))).setCell ⟨w.heap.size + 1 + 1, 6, none⟩ (.slice s2 0 0)).drew = W4
  have oz5 := (((((((((HZ3.out.other ⟨w2.heap.size, 0, none⟩ (by simp; omega) (.int .u8 (Q : Int))).other ⟨w2.heap.size, 2, none⟩ (by simp; omega) (.int .u8 (FR : Int))).set 0 (.int .u8 (Q : Int))).set 1 (.bool D0)).set 2 (.int .u8 (FR : Int))).set 3 (.bool D1)).set 4 (.int .u8 (K : Int))).set 5 (.int .u8 (St : Int))).set 6 (.slice s2 0 0))
  have oz4 : Own W4 (w.heap.size + 1 + 1) 41 [.int .u8 (Q : Int), .bool D0, .int .u8 (FR : Int), .bool D1, .int .u8 (K : Int), .int .u8 (St : Int), (.slice s2 0 0)] := by rw [← hW4]; exact Own.drewK oz5
  have hb5 := (((((((((HB3.out.setCell (p := ⟨w2.heap.size, 0, none⟩) (by simp; omega) (.int .u8 (Q : Int))).setCell (p := ⟨w2.heap.size, 2, none⟩) (by simp; omega) (.int .u8 (FR : Int))).setCell (p := ⟨w.heap.size + 1 + 1, 0, none⟩) (by simp; omega) (.int .u8 (Q : Int))).setCell (p := ⟨w.heap.size + 1 + 1, 1, none⟩) (by simp; omega) (.bool D0)).setCell (p := ⟨w.heap.size + 1 + 1, 2, none⟩) (by simp; omega) (.int .u8 (FR : Int))).setCell (p := ⟨w.heap.size + 1 + 1, 3, none⟩) (by simp; omega) (.bool D1)).setCell (p := ⟨w.heap.size + 1 + 1, 4, none⟩) (by simp; omega) (.int .u8 (K : Int))).setCell (p := ⟨w.heap.size + 1 + 1, 5, none⟩) (by simp; omega) (.int .u8 (St : Int))).setCell (p := ⟨w.heap.size + 1 + 1, 6, none⟩) (by simp; omega) (.slice s2 0 0))
  have hb4 : Below w.heap.size w W4 := by rw [← hW4]; exact below_drewN (n := 1) hb5
  clear hW4 v0 v1 v2 v3 v4 v5 v6 y0 y1 y2 y3 y4 y5 y6 t0 t1 t2 t3 t4 t5 t6 k0 k2 c2 c5 hFi
  obtain ⟨y0, y1, y2, y3, y4, y5, y6⟩ := unit_cells oz4
  have hq : (NM + B0 % (s1 - a + 2)) % 128 = Q := by rw [← HO.out, ← HT.out, ← HQ.out]
  have he : unCells (nearU ⟨g, s1, a, r, fo, ac, ba, x0, x1, fl⟩ n0 n1 n2 n3 size l) s2 0 0 = unCells ⟨Q, D0, FR, D1, K, St, []⟩ s2 0 0 := by
    rw [HNr.out, hq, ← hFR]; rfl
  refine bodyPost_ret (v := .agg (unCells ⟨Q, D0, FR, D1, K, St, []⟩ s2 0 0).toArray) (by simp [results, Try.results13, go_sem, y0, y1, y2, y3, y4, y5, y6, unCells]) rfl ?_
  exact ⟨⟨s2, by rw [he]⟩, hb4⟩
end Go.Proofs.Ytoegijmfcelgnaa
