/- Statements of layer 8: MonitorsSpans. -/
import Derived.Test.YtblhfdkopnaobaaMoLives
import Derived.Test.YtblhfdkopnaobaaMoSpans
import Derived.Deep.RegionHeld3
namespace Go.Proofs.Ytblhfdkopnaobaa
open Go.RowKit

theorem makeB (n : Nat) (hn : n ≤ 281474976710656) (w : World) :
    (Instr.makeSlice 31 (.int .i64 (n : Int)) (.int .i64 (n : Int))).run Try.prog w = .ok (.slice (some ⟨w.heap.size, 0, none⟩) n n) (w.alloc (.cells (madeCells #[.bool false] n) 4)) :=
  run_make_row' 31 4 (.bool false) 1 Try.underlying31 infoB rfl .i64 .i64 n (by omega) (by omega) w
theorem own_madeB (n : Nat) (w : World) : Own (w.alloc (.cells (madeCells #[.bool false] n) 4)) w.heap.size 4 (bools (List.replicate n false)) := by
  unfold Own
  rw [heap_alloc_new w _]
  congr 2
  apply Array.ext
  · simp [madeCells, bools]
  · intro i h1 h2
    simp [madeCells, bools, Nat.mod_one]
set_option maxHeartbeats 4000000 in
set_option maxRecDepth 100000 in
theorem spans_any (k a b c d : Nat) (s : ByteArray) (x : Nat) (w : World) (_hk : k ≤ 255) (ha : a ≤ 255) (hb : b ≤ 255) (hc : c ≤ 255) (hd : d ≤ 255) (hx : x ≤ 255) :
    Calls Try.prog 7 #[.agg #[.int .u8 (k : Int), .int .u8 (a : Int), .int .u8 (b : Int), .int .u8 (c : Int), .int .u8 (d : Int)], .string s, .int .u8 (x : Int)] w fun e w' => e = .returned (.bool true) ∧ Below w.heap.size w w' := by
  obtain ⟨W, hW⟩ : ∃ X, X = w.alloc (.cells #[.int .u8 (k : Int), .int .u8 (a : Int), .int .u8 (b : Int), .int .u8 (c : Int), .int .u8 (d : Int)] 23) := ⟨_, rfl⟩
  have hbW : Below w.heap.size w W := by rw [hW]; exact below_alloc _ _
  have oW : Own W w.heap.size 23 [.int .u8 (k : Int), .int .u8 (a : Int), .int .u8 (b : Int), .int .u8 (c : Int), .int .u8 (d : Int)] := by rw [hW]; exact own_new w _ _ _ rfl
  have HW := Lib.hid hW
  have HBW := Lib.hid hbW
  have HOW := Lib.hid oW
  have hlw := oW.lt
  have HLv := Lib.hid mlives_any
  clear hW hbW oW
  obtain ⟨n, hn⟩ : ∃ n, n = s.size := ⟨_, rfl⟩
  by_cases h300 : 300 < n
  · have h3 : (300 : Int) < (s.size : Int) := by omega
    clear hlw h300 hn
    go_enter Try.func7, Try.ntmps7
    go_wp2_with fail
    rw [← HW.out]
    with_reducible refine (HLv.out W).mono ?_
    rintro e w1 ⟨rfl, hb1⟩
    have HB1 := Lib.hid (HBW.out.trans (Below.mono hb1 HBW.out.size))
    clear hb1 HLv
    go_wp2
    go_ret
    exact ⟨rfl, HB1.out⟩
  have h3 : ¬ (300 : Int) < (s.size : Int) := by omega
  have hn3 : n ≤ 300 := by omega
  have hnl := unitsOf_length s
  obtain ⟨l, hl⟩ : ∃ l, l = unitsOf s := ⟨_, rfl⟩
  have HU := Lib.hid (fun W' => units_any2 s W' (by omega))
  rw [← hl] at hnl HU
  rw [← hn] at hnl HU
  rw [← hn] at h3
  have hsz : (s.size : Int) = (n : Int) := by omega
  have HN := Lib.hid hnl
  obtain ⟨W0, hW0⟩ : ∃ X, X = w.alloc (.cells #[.int .u8 2, .int .u8 (a : Int), .int .u8 (b : Int), .int .u8 (c : Int), .int .u8 (d : Int)] 23) := ⟨_, rfl⟩
  have hb0 : Below w.heap.size w W0 := by rw [hW0]; exact below_alloc _ _
  have o0 : Own W0 w.heap.size 23 [.int .u8 2, .int .u8 (a : Int), .int .u8 (b : Int), .int .u8 (c : Int), .int .u8 (d : Int)] := by rw [hW0]; exact own_new w _ _ _ rfl
  have hz : ((2 : Nat) : Int) = 2 := rfl
  have hAr := fun W' => args_any 2 a b c d W' ha hb hc hd
  have hOf := fun W' => mof_any 2 a b c d W' (by omega) ha hb hc hd
  rw [hz] at hAr hOf
  have hmo : moOf 2 a b c d = Mo.new .span (1 + a % 40) (1 + b % 20) (1 + c % 20) (1 + d % 20) := rfl
  have hkd : kdOf 2 = .span := rfl
  have hNs := fun W' => newSum_ok (1 + a % 40) W' (by omega) (by omega)
  have hTf := fun x => turn_first (1 + a % 40) (1 + b % 20) (1 + c % 20) (1 + d % 20) x l (by omega)
  have hTa := fun x => turn_after (1 + a % 40) (1 + b % 20) (1 + c % 20) (1 + d % 20) x l (by omega)
  unfold OfBy at hOf
  rw [hmo, hkd] at hOf
  obtain ⟨A, hA1⟩ : ∃ A, A = 1 + a % 40 := ⟨_, rfl⟩
  obtain ⟨S, hB1⟩ : ∃ A, A = 1 + b % 20 := ⟨_, rfl⟩
  obtain ⟨U, hC1⟩ : ∃ A, A = 1 + c % 20 := ⟨_, rfl⟩
  obtain ⟨D, hD1⟩ : ∃ A, A = 1 + d % 20 := ⟨_, rfl⟩
  simp only [← hA1, ← hB1, ← hC1, ← hD1] at hOf hAr hTf hTa hNs
  have hA2 : A ≤ 40 := by omega
  have hS0 : 1 ≤ S := by omega
  have hS2 : S ≤ 20 := by omega
  have c0' := HOW.out.cell 0 (by simp)
  have f0' := HOW.out.frozen 0
  simp only [List.getD_cons_zero] at c0'
  have hmk := makeB n (by omega)
  have x0 : (0 : Int) ≤ (x : Int) := by omega
  have hwx : IntKind.i64.wrap (x : Int) = (x : Int) := IntWalk.i64_in _ (by omega)
  have s1 : ¬ (S : Int) = 0 := by omega
  have s2 : ((S : Int) == 0) = false := by simp; omega
  have s3 : ¬ S = 0 := by omega
  have s4 : (S == 0) = false := by simp; omega
  have hmf : ∀ (fn : Fn) (first cap : Array Value) (w : World), (Instr.makeFunc fn first cap).run Try.prog w = .ok (.func fn first cap) w := fun _ _ _ _ => rfl
  have HO0 := Lib.hid o0
  have HW0 := Lib.hid hW0
  have HB0 := Lib.hid hb0
  have HAr := Lib.hid hAr
  have HOf := Lib.hid hOf
  have HNs := Lib.hid hNs
  have HTf := Lib.hid (hTf x)
  have HTa := Lib.hid (hTa x)
  have HA := Lib.hid (And.intro hA2 (And.intro hS0 (And.intro hS2 (And.intro hn3 hx))))
  clear o0 hz hAr hOf hmo hkd hNs hTf hTa hA1 hB1 hC1 hD1 hA2 hS0 hS2 hW0 hb0 hl hnl hn h300 hn3 ha hb hc hd hx
  go_enter Try.func7, Try.ntmps7
  go_wp2_with fail
  rw [← HW0.out]
  with_reducible refine (HAr.out W0).mono ?_
  rintro e w1 ⟨rfl, hb1⟩
  have HB1 := Lib.hid (HB0.out.trans (Below.mono hb1 HB0.out.size))
  have HO1 := Lib.hid (HO0.out.below hb1 HO0.out.lt)
  clear hb1 HB0 HO0 c0' f0' HAr
  go_wp2_with fail
  with_reducible refine (HU.out w1).mono ?_
  rintro e w2 ⟨sa, sc, rfl, hrow, hfar, hb2⟩
  have HB2 := Lib.hid (HB1.out.trans (Below.mono hb2 HB1.out.size))
  have HO2 := Lib.hid (HO1.out.below hb2 HO1.out.lt)
  have HR := Lib.hid hrow
  have HF := Lib.hid (fun x (h : sa = some x) => (hfar x h).2)
  clear hb2 hrow hfar HB1 HO1 HU
  obtain ⟨tb, htb⟩ : ∃ k, k = w2.heap.size := ⟨_, rfl⟩
  obtain ⟨W3, hW3⟩ : ∃ X, X = w2.alloc (.cells (madeCells #[.bool false] n) 4) := ⟨_, rfl⟩
  have hb3 : Below w2.heap.size w2 W3 := by rw [hW3]; exact below_alloc _ _
  have ho3 : Own W3 tb 4 (bools (List.replicate n false)) := by rw [hW3, htb]; exact own_madeB n w2
  have HW3 := Lib.hid hW3
  have HB3 := Lib.hid (HB2.out.trans (Below.mono hb3 HB2.out.size))
  have HO3 := Lib.hid (HO2.out.below hb3 HO2.out.lt)
  have HR3 := Lib.hid (HR.out.later hb3)
  have HT3 := Lib.hid ho3
  have HG := Lib.hid (show w.heap.size < tb by rw [htb]; exact HO2.out.lt)
  have HFt := Lib.hid (fun x (h : sa = some x) => (by have := HF.out x h; omega : x.block < tb))
  have htl := turn_length l S x
  rw [HN.out] at htl
  have HTl := Lib.hid htl
  clear hW3 hb3 ho3 htl HB2 HO2
  go_wp2_with fail
  rw [← HW3.out, ← htb]
  clear htb hmk
  go_loopw [13] (fun i wr => ∃ j : Nat, j ≤ n ∧ i = .int .i64 j ∧ Own wr tb 4 (bools ((turn l S x).take j ++ List.replicate (n - j) false)) ∧ Exc (fun k => k = tb) W3 wr) (fun i _ => n - (intOf i).toNat)
  case atStart => exact ⟨0, Nat.zero_le _, rfl, by rw [List.take_zero]; exact HT3.out, Exc.refl _ _⟩
  case round =>
    obtain ⟨j, hj, rfl, hot, hxj⟩ := hrel
    by_cases hlt : j < n
    · have hji : (j : Int) < (n : Int) := by omega
      have j0 : (0 : Int) ≤ (j : Int) := by omega
      have hA := HA.out
      obtain ⟨Q, hQ⟩ : ∃ Q, Q = j / S := ⟨_, rfl⟩
      have q1 : (j : Int).tdiv (S : Int) = (Q : Int) := by rw [hQ, Int.tdiv_eq_ediv_of_nonneg (by omega)]; omega
      have q2 : (j : Int) / (S : Int) = (Q : Int) := by rw [hQ]; omega
      obtain ⟨Fm, hFm⟩ : ∃ Q, Q = j / S * S := ⟨_, rfl⟩
      have hFj : Fm ≤ j := by rw [hFm]; exact Nat.div_mul_le_self _ _
      have hQj : Q ≤ j := by rw [hQ]; exact Nat.div_le_self _ _
      have q3 : IntKind.i64.wrap ((Q : Int) * (S : Int)) = (Fm : Int) := by
        have e : (Q : Int) * (S : Int) = ((Q * S : Nat) : Int) := by push_cast; rfl
        rw [e, hQ, ← hFm, IntWalk.i64_in _ (by omega)]
      have q30 : IntKind.i64.wrap (Q : Int) = (Q : Int) := IntWalk.i64_in _ (by omega)
      obtain ⟨X, hX⟩ : ∃ X, X = n - Fm := ⟨_, rfl⟩
      have q4 : IntKind.i64.wrap ((n : Int) - (Fm : Int)) = (X : Int) := by rw [IntWalk.i64_in _ (by omega)]; omega
      obtain ⟨Mn, hMn⟩ : ∃ X, X = min S (n - Fm) := ⟨_, rfl⟩
      obtain ⟨E, hE⟩ : ∃ X, X = j - Fm := ⟨_, rfl⟩
      have q5 : IntKind.i64.wrap ((j : Int) - (Fm : Int)) = (E : Int) := by rw [IntWalk.i64_in _ (by omega)]; omega
      obtain ⟨G, hG⟩ : ∃ X, X = E + x := ⟨_, rfl⟩
      have q6 : IntKind.i64.wrap ((E : Int) + (x : Int)) = (G : Int) := by rw [IntWalk.i64_in _ (by omega)]; omega
      obtain ⟨H, hH⟩ : ∃ X, X = G % Mn := ⟨_, rfl⟩
      have hMn0 : 0 < Mn := by omega
      have hHM : H < Mn := by rw [hH]; exact Nat.mod_lt _ hMn0
      have q7 : (G : Int).tmod (Mn : Int) = (H : Int) := by rw [tmod_nat, hH]
      have q8 : (G : Int) % (Mn : Int) = (H : Int) := by rw [hH]; omega
      have m1 : ¬ (Mn : Int) = 0 := by omega
      have m2 : ((Mn : Int) == 0) = false := by simp; omega
      have m3 : ¬ Mn = 0 := by omega
      have m4 : (Mn == 0) = false := by simp; omega
      obtain ⟨P, hP⟩ : ∃ X, X = Fm + H := ⟨_, rfl⟩
      have q9 : IntKind.i64.wrap ((Fm : Int) + (H : Int)) = (P : Int) := by rw [IntWalk.i64_in _ (by omega)]; omega
      have q10 : IntKind.i64.wrap (H : Int) = (H : Int) := IntWalk.i64_in _ (by omega)
      have hPp : P = tpos l.length S x j := by
        unfold tpos
        rw [HN.out, ← hFm, ← hMn, ← hE, ← hG, ← hH, ← hP]
      have hPn : P < n := by
        have := tpos_lt (b := x) hA.2.1 hlt
        rw [← HN.out, ← hPp] at this
        rw [HN.out] at this
        exact this
      have hPi : (P : Int) < (n : Int) := by omega
      have hP0 : (0 : Int) ≤ (P : Int) := by omega
      have hr := HR3.out.exc (S := fun k => k = tb) hxj (fun y hy => Nat.ne_of_lt (HFt.out y hy))
      obtain ⟨sb, so, rfl, hcells⟩ := hr.at (by omega)
      have hcp := hcells P hPn
      obtain ⟨ok, hok⟩ : ∃ ok, ok = l.getD P true := ⟨_, rfl⟩
      rw [← hok] at hcp
      have hlen : (bools ((turn l S x).take j ++ List.replicate (n - j) false)).length = n := by
        rw [bools_length, List.length_append, List.length_take, HTl.out, List.length_replicate]; omega
      have hct := hot.cell j (by rw [hlen]; exact hlt)
      have hft := hot.frozen j
      have hset := hot.set j (.bool ok)
      rw [bools_set] at hset
      have hokt : ok = (turn l S x).getD j true := by rw [hok, hPp, turn_getD _ _ _ _ (by rw [HN.out]; exact hlt)]
      have hst := set_turn HTl.out j hlt
      rw [← hokt] at hst
      rw [hst] at hset
      obtain ⟨J, hJ⟩ : ∃ J, J = j + 1 := ⟨_, rfl⟩
      have hw1 : IntKind.i64.wrap ((j : Int) + 1) = (J : Int) := by rw [IntWalk.i64_in _ (by omega)]; omega
      rw [← hJ] at hset
      have HJ := Lib.hid (And.intro hJ hlt)
      have HSet := Lib.hid hset
      have HXs := Lib.hid (hxj.setCell ⟨tb, j, none⟩ (.inl rfl) (.bool ok))
      have hmin : min (S : Int) (X : Int) = (Mn : Int) := by omega
      clear hot hxj hcells hok hokt hst hset hJ hlt hj hr hlen hPp hPn hP hH hHM hMn0 hG hE hMn hX hFm hFj hQ hQj hA m3 m4
      go_wp2
      exact ⟨⟨J, by have := HJ.out; omega, by rfl, HSet.out, HXs.out⟩, by simp only [intOf]; have := HJ.out; omega⟩
    · obtain rfl : j = n := by omega
      have hji : ¬ (j : Int) < (j : Int) := by omega
      have hjn := HTl.out
      have e1 : (turn l S x).take j ++ List.replicate (j - j) false = turn l S x := by rw [Nat.sub_self, List.replicate_zero, List.append_nil, ← hjn, List.take_length]
      rw [e1] at hot
      have hrt : BRow wr (some ⟨tb, 0, none⟩) j j (turn l S x) := Own.brow (rest := []) (by rw [List.append_nil]; exact hot) j j hjn.symm (Nat.le_refl _) (by have := HA.out; unfold maxLen; omega)
      obtain ⟨w4, rfl⟩ : ∃ X, X = wr := ⟨_, rfl⟩
      have HRt := Lib.hid hrt
      have HR4 := Lib.hid (HR3.out.exc (S := fun k => k = tb) hxj (fun y hy => Nat.ne_of_lt (HFt.out y hy)))
      have HB4 := Lib.hid (HB3.out.trans (hxj.below HB3.out.size (fun i _ h => by have := HG.out; omega)))
      have HO4 := Lib.hid (show Own w4 w.heap.size 23 [.int .u8 2, .int .u8 (a : Int), .int .u8 (b : Int), .int .u8 (c : Int), .int .u8 (d : Int)] by unfold Own; rw [hxj.block _ HO3.out.lt (fun h => by have := HG.out; omega)]; exact HO3.out)
      have HT4 := Lib.hid hot.lt
      clear hlt hj hot hxj e1 hrt hjn HR3 HB3 HO3 HT3 HW3
      have c0 := HO4.out.cell 0 (by simp)
      have c1 := HO4.out.cell 1 (by simp)
      have c2 := HO4.out.cell 2 (by simp)
      have c3 := HO4.out.cell 3 (by simp)
      have c4 := HO4.out.cell 4 (by simp)
      simp only [List.getD_cons_succ, List.getD_cons_zero] at c0 c1 c2 c3 c4
      go_wp2_with fail
      with_reducible refine (HOf.out w4).mono ?_
      rintro e w5 ⟨ga, rfl, hg5, hm5, hb5⟩
      unfold mval Kd.ptr
      have HB5 := Lib.hid (HB4.out.trans (Below.mono hb5 HB4.out.size))
      have HM5 := Lib.hid hm5
      have HR5 := Lib.hid (HR4.out.later hb5)
      have HRt5 := Lib.hid (HRt.out.later hb5)
      have HO5 := Lib.hid (HO4.out.below hb5 HO4.out.lt)
      have HGa := Lib.hid (show tb < ga by have := HT4.out; omega)
      clear hm5 hg5 hb5 c0 c1 c2 c3 c4 HB4 HR4 HRt HO4 HT4
      have c0 := HO5.out.cell 0 (by simp)
      have c1 := HO5.out.cell 1 (by simp)
      have c2 := HO5.out.cell 2 (by simp)
      have c3 := HO5.out.cell 3 (by simp)
      have c4 := HO5.out.cell 4 (by simp)
      simp only [List.getD_cons_succ, List.getD_cons_zero] at c0 c1 c2 c3 c4
      go_wp2_with fail
      with_reducible refine (HOf.out w5).mono ?_
      rintro e w6 ⟨gb, rfl, hg6, hm6, hb6⟩
      unfold mval Kd.ptr
      have HB6 := Lib.hid (HB5.out.trans (Below.mono hb6 HB5.out.size))
      have HM6 := Lib.hid (HM5.out.below hb6)
      have HN6 := Lib.hid hm6
      have HR6 := Lib.hid (HR5.out.later hb6)
      have HRt6 := Lib.hid (HRt5.out.later hb6)
      have HGb := Lib.hid (show ga < gb by have := HM5.out.lt; omega)
      clear hm6 hg6 hb6 c0 c1 c2 c3 c4 HB5 HM5 HR5 HRt5 HO5 HOf
      go_wp2_with fail
      with_reducible refine (HNs.out w6).mono ?_
      rintro e w7 ⟨gc, rfl, hg7, hm7, hb7⟩
      unfold mval Kd.ptr
      have HB7 := Lib.hid (HB6.out.trans (Below.mono hb7 HB6.out.size))
      have HM7 := Lib.hid (HM6.out.below hb7)
      have HN7 := Lib.hid (HN6.out.below hb7)
      have HC7 := Lib.hid hm7
      have HR7 := Lib.hid (HR6.out.later hb7)
      have HRt7 := Lib.hid (HRt6.out.later hb7)
      have HGc := Lib.hid (show gb < gc by have := HN6.out.lt; omega)
      clear hm7 hg7 hb7 HB6 HM6 HN6 HR6 HRt6 HNs
      -- the two monitors agree
      have hfa : Calls Try.prog 14 #[.iface 57 (.pointer (some ⟨ga, 0, none⟩)), .slice sa j sc] w7 fun e w' => e = .returned (.int .i64 ((Mo.new .span A S U D).firstI l)) ∧ MoAt w' ga ((Mo.new .span A S U D).after l) ∧ Exc (fun k => k = ga) w7 w' :=
        first_any ga _ sa j sc l w7 HM7.out HR7.out (fun y hy => by have := HFt.out y hy; have := HGa.out; omega)
      have hfb : ∀ W', MoAt W' gb (Mo.new .span A S U D) → BRow W' (some ⟨tb, 0, none⟩) j j (turn l S x) → Calls Try.prog 14 #[.iface 57 (.pointer (some ⟨gb, 0, none⟩)), .slice (some ⟨tb, 0, none⟩) j j] W' fun e w' => e = .returned (.int .i64 ((Mo.new .span A S U D).firstI (turn l S x))) ∧ MoAt w' gb ((Mo.new .span A S U D).after (turn l S x)) ∧ Exc (fun k => k = gb) W' w' :=
        fun W' h hr => first_any gb _ _ j j _ W' h hr (fun y hy => by cases hy; have := HGa.out; have := HGb.out; show tb ≠ gb; omega)
      rw [HTf.out] at hfb
      obtain ⟨F, hF⟩ : ∃ F, F = (Mo.new .span A S U D).firstI l := ⟨_, rfl⟩
      rw [← hF] at hfa hfb
      have hta := HTa.out
      obtain ⟨ma, hma⟩ : ∃ z, z = (Mo.new .span A S U D).after l := ⟨_, rfl⟩
      obtain ⟨mb, hmb⟩ : ∃ z, z = (Mo.new .span A S U D).after (turn l S x) := ⟨_, rfl⟩
      rw [← hma] at hfa hta
      rw [← hmb] at hfb hta
      obtain ⟨V, hV⟩ : ∃ z, z = ma.lvl := ⟨_, rfl⟩
      rw [← hV] at hta
      have hff : (F != F) = false := by simp
      have hvv : ((V : Int) != (V : Int)) = false := by simp
      have mla := fun W' => meth_level .span ga W'
      have mlb := fun W' => meth_level .span gb W'
      have mcc := fun W' => meth_count .sum gc W'
      have moc := fun W' => meth_over .sum gc W'
      have nac := fun W' => ahead_count .sum gc W'
      unfold Kd.ptr at mla mlb mcc moc nac
      unfold Kd.fCount at mcc
      dsimp only at mla mlb mcc moc nac
      have HFa := Lib.hid hfa
      have HFb := Lib.hid hfb
      have HVs := Lib.hid (And.intro hV hta)
      clear hfa hfb hF hta hma hmb hV
      go_wp2_with fail
      with_reducible refine HFa.out.mono ?_
      rintro e w8 ⟨rfl, hm8, hx8⟩
      have HB8 := Lib.hid (HB7.out.trans (hx8.below HB7.out.size (fun i _ h => by have := HG.out; have := HGa.out; omega)))
      have HM8 := Lib.hid hm8
      have HN8 := Lib.hid (HN7.out.exc hx8 (fun h => by have := HGb.out; omega))
      have HC8 := Lib.hid (HC7.out.exc hx8 (fun h => by have := HGb.out; have := HGc.out; omega))
      have HR8 := Lib.hid (HR7.out.exc hx8 (fun y hy h => by have := HFt.out y hy; have := HGa.out; omega))
      have HRt8 := Lib.hid (HRt7.out.exc hx8 (fun y hy h => by cases hy; have := HGa.out; have h2 : tb = ga := h; omega))
      clear hm8 hx8 HB7 HM7 HN7 HC7 HR7 HRt7 HFa
      go_wp2_with fail
      with_reducible refine (HFb.out w8 HN8.out HRt8.out).mono ?_
      rintro e w9 ⟨rfl, hm9, hx9⟩
      have HB9 := Lib.hid (HB8.out.trans (hx9.below HB8.out.size (fun i _ h => by have := HG.out; have := HGa.out; have := HGb.out; omega)))
      have HM9 := Lib.hid (HM8.out.exc hx9 (fun h => by have := HGb.out; omega))
      have HN9 := Lib.hid hm9
      have HC9 := Lib.hid (HC8.out.exc hx9 (fun h => by have := HGc.out; omega))
      have HR9 := Lib.hid (HR8.out.exc hx9 (fun y hy h => by have := HFt.out y hy; have := HGa.out; have := HGb.out; omega))
      have hl9 := level_any ga ma w9 HM9.out
      have hl9' := level_any gb mb w9 HN9.out
      rw [HVs.out.2] at hl9'
      rw [← HVs.out.1] at hl9
      have HL9 := Lib.hid hl9
      have HL9' := Lib.hid hl9'
      clear hm9 hx9 HB8 HM8 HN8 HC8 HR8 HRt8 HFb hl9 hl9'
      go_wp2_with fail
      with_reducible refine HL9.out.mono ?_
      rintro e w9' ⟨rfl, rfl⟩
      go_wp2_with fail
      with_reducible refine HL9'.out.mono ?_
      rintro e w10 ⟨rfl, rfl⟩
      clear HL9 HL9' HM9 HN9 mla mlb
      have HMc := Lib.hid (show Meth gc 49 40 43 .sum from meth_any .sum gc)
      go_wp2_with fail
      go_loopw [22, 23] (fun v i wr => ∃ q : Nat, q ≤ j ∧ i = .int .i64 q ∧ v = .int .i64 (wrs (l.take q) : Nat) ∧ MoAt wr gc ((Mo.new .sum A 1 1 1).run (l.take q)) ∧ Exc (fun k => k = gc) w10 wr) (fun _ i _ => j - (intOf i).toNat)
      case atStart => exact ⟨0, Nat.zero_le _, rfl, rfl, HC9.out, Exc.refl _ _⟩
      case round =>
        obtain ⟨q, hq, rfl, rfl, hmq, hxq⟩ := hrel
        by_cases hlt : q < j
        · have hqi : (q : Int) < (j : Int) := by omega
          have q0 : (0 : Int) ≤ (q : Int) := by omega
          obtain ⟨sb, so, rfl, hcells⟩ := (HR9.out.exc hxq (fun y hy h => by have := HFt.out y hy; have := HGa.out; have := HGb.out; have := HGc.out; omega)).at (by omega)
          have hcj := hcells q hlt
          have hql : q < l.length := by rw [HN.out]; exact hlt
          have hsn := wrs_take_succ l q hql
          have hso := sum_over A l (q + 1) hql
          have hrn := Mo.run_take_succ (Mo.new .sum A 1 1 1) l q hql
          have hle := wrs_le (l.take q)
          rw [List.length_take] at hle
          obtain ⟨ok, hok⟩ : ∃ ok, ok = l.getD q true := ⟨_, rfl⟩
          rw [← hok] at hcj hsn hrn
          have HCn := Lib.hid (HMc.out.count _ wr.drew (by rw [Mo.run_kd]; rfl) (hmq.below (below_draw wr 1)) ok)
          have HNs := Lib.hid (show ¬ sb = gc by have := HFt.out ⟨sb, so, none⟩ rfl; have h2 : sb < tb := this; have := HGa.out; have := HGb.out; have := HGc.out; omega)
          have HCd := Lib.hid (show wr.drew.cell? ⟨sb, so + q, none⟩ = some (.bool ok) from hcj)
          have HX := Lib.hid hxq
          obtain ⟨V2, hV2⟩ : ∃ V, V = wrs (l.take q) := ⟨_, rfl⟩
          rw [← hV2] at hsn hle ⊢
          obtain ⟨J, hJ⟩ : ∃ J, J = q + 1 := ⟨_, rfl⟩
          rw [← hJ] at hsn hso hrn
          have hwJ : IntKind.i64.wrap ((q : Int) + 1) = (J : Int) := by have := HA.out; rw [IntWalk.i64_in _ (by omega)]; omega
          obtain ⟨V1, hV1⟩ : ∃ V1, V1 = V2 + 1 := ⟨_, rfl⟩
          have hwV : IntKind.i64.wrap ((V2 : Int) + 1) = (V1 : Int) := by have := HA.out; rw [IntWalk.i64_in _ (by omega)]; omega
          have HJ := Lib.hid (And.intro hJ hlt)
          have HSn := Lib.hid (And.intro hsn (And.intro hV1 (And.intro hso hrn)))
          clear hmq hxq hcells hJ hlt hq hok hql hsn hso hrn hle hV2 hV1
          go_wp2_with fail
          go_region_held3 (fun W => W.cell? ⟨sb, so + q, none⟩ = some (.bool ok)) (first | assumption | go_keep)
            (first
              | ((with_reducible refine HCn.out.mono ?_); rintro e w11 ⟨rfl, hm4, hx4⟩; have k2 := hx4.cell HCd.out HNs.out; have HM4 := Lib.hid hm4; have HX4 := Lib.hid hx4; clear hm4 hx4)
              | fail)
          have HX5 := Lib.hid ((HX.out.drawN 1).trans HX4.out (fun _ _ h => h))
          have hm5 := HM4.out
          rw [← HSn.out.2.2.2] at hm5
          have hov := over_any gc _ w11 hm5
          rw [HSn.out.2.2.1] at hov
          have HM5 := Lib.hid hm5
          clear hm5 HM4 HX4 HX HCd HCn hcj
          cases ok
          · have e2 : wrs (l.take J) = V1 := by rw [HSn.out.1, HSn.out.2.1]; rfl
            rw [e2] at hov
            by_cases hAV : A ≤ V1
            · have hi : (A : Int) ≤ (V1 : Int) := by omega
              rw [decide_eq_true hAV] at hov
              have HOv := Lib.hid hov
              have HE := Lib.hid e2
              clear hov e2 hAV
              go_wp2_with fail
              with_reducible refine HOv.out.mono ?_
              rintro e w12 ⟨rfl, q12, rfl⟩
              have HM6 := Lib.hid (HM5.out.below (below_draw w11 q12))
              have HX6 := Lib.hid (HX5.out.drawN q12)
              generalize w11.drewN q12 = w12 at HM6 HX6 ⊢
              clear HM5 HX5 HOv
              go_wp2_with fail
              exact ⟨⟨J, by have := HJ.out; omega, by rfl, by rw [HE.out], HM6.out, HX6.out⟩, by simp only [intOf]; have := HJ.out; omega⟩
            · have hi : ¬ (A : Int) ≤ (V1 : Int) := by omega
              rw [decide_eq_false hAV] at hov
              have HOv := Lib.hid hov
              have HE := Lib.hid e2
              clear hov e2 hAV
              go_wp2_with fail
              with_reducible refine HOv.out.mono ?_
              rintro e w12 ⟨rfl, q12, rfl⟩
              have HM6 := Lib.hid (HM5.out.below (below_draw w11 q12))
              have HX6 := Lib.hid (HX5.out.drawN q12)
              generalize w11.drewN q12 = w12 at HM6 HX6 ⊢
              clear HM5 HX5 HOv
              go_wp2_with fail
              exact ⟨⟨J, by have := HJ.out; omega, by rfl, by rw [HE.out], HM6.out, HX6.out⟩, by simp only [intOf]; have := HJ.out; omega⟩
          · have e2 : wrs (l.take J) = V2 := by rw [HSn.out.1]; rfl
            rw [e2] at hov
            by_cases hAV : A ≤ V2
            · have hi : (A : Int) ≤ (V2 : Int) := by omega
              rw [decide_eq_true hAV] at hov
              have HOv := Lib.hid hov
              have HE := Lib.hid e2
              clear hov e2 hAV
              go_wp2_with fail
              with_reducible refine HOv.out.mono ?_
              rintro e w12 ⟨rfl, q12, rfl⟩
              have HM6 := Lib.hid (HM5.out.below (below_draw w11 q12))
              have HX6 := Lib.hid (HX5.out.drawN q12)
              generalize w11.drewN q12 = w12 at HM6 HX6 ⊢
              clear HM5 HX5 HOv
              go_wp2_with fail
              exact ⟨⟨J, by have := HJ.out; omega, by rfl, by rw [HE.out], HM6.out, HX6.out⟩, by simp only [intOf]; have := HJ.out; omega⟩
            · have hi : ¬ (A : Int) ≤ (V2 : Int) := by omega
              rw [decide_eq_false hAV] at hov
              have HOv := Lib.hid hov
              have HE := Lib.hid e2
              clear hov e2 hAV
              go_wp2_with fail
              with_reducible refine HOv.out.mono ?_
              rintro e w12 ⟨rfl, q12, rfl⟩
              have HM6 := Lib.hid (HM5.out.below (below_draw w11 q12))
              have HX6 := Lib.hid (HX5.out.drawN q12)
              generalize w11.drewN q12 = w12 at HM6 HX6 ⊢
              clear HM5 HX5 HOv
              go_wp2_with fail
              exact ⟨⟨J, by have := HJ.out; omega, by rfl, by rw [HE.out], HM6.out, HX6.out⟩, by simp only [intOf]; have := HJ.out; omega⟩
        · obtain rfl : q = j := by omega
          have hqi : ¬ (q : Int) < (q : Int) := by omega
          have HB11 := Lib.hid (HB9.out.trans (hxq.below HB9.out.size (fun i _ h => by have := HG.out; have := HGa.out; have := HGb.out; have := HGc.out; omega)))
          clear hlt hq hmq hxq
          go_wp2_with fail
          with_reducible refine (HLv.out _).mono ?_
          rintro e w12 ⟨rfl, hb12⟩
          have HB12 := Lib.hid (HB11.out.trans (Below.mono hb12 HB11.out.size))
          clear hb12 HB11
          go_wp2
          go_ret
          exact ⟨rfl, HB12.out⟩
end Go.Proofs.Ytblhfdkopnaobaa
