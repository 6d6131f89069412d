/- CongestionsSet: the level of a meter is that of the definition. -/
import Derived.Test.YtahkmadapojjkaaCgMarks
namespace Go.Proofs.Ytahkmadapojjkaa
open Go.RowKit Go.Maps

set_option maxHeartbeats 8000000 in
set_option maxRecDepth 100000 in
theorem set_walk (x0 x1 x2 : Int) (a : Option Addr) (N c : Nat) (l : List Int) (w : World) (h0 : (Lit.int .u8 x0).wf = true) (h1 : (Lit.int .u8 x1).wf = true) (h2 : (Lit.int .u8 x2).wf = true) (h : Row .i8 w a N c l) :
    Calls Try.prog 3 #[.agg #[.int .u8 x0, .int .u8 x1, .int .u8 x2], .slice a N c] w fun e w' => e = .returned (.bool true) ∧ Below w.heap.size w w' := by
  have HR := Lib.hid h
  have hlen := h.len
  have HL := Lib.hid hlen
  have HOf := Lib.hid (fun W => of_any x0 x1 x2 W (wf8.1 h0) (wf8.1 h1) (wf8.1 h2))
  have x1' := below_alloc w (.cells #[.int .u8 x0, .int .u8 x1, .int .u8 x2] 23)
  have o1 : Own (w.alloc (.cells #[.int .u8 x0, .int .u8 x1, .int .u8 x2] 23)) w.heap.size 23 [.int .u8 x0, .int .u8 x1, .int .u8 x2] := heap_alloc_new w _
  have HX0 := Lib.hid x1'
  have HO0 := Lib.hid o1
  clear h0 h1 h2 h x1' o1 hlen
  by_cases hbig : (200 : Int) < (N : Int)
  · go_enter Try.func3, Try.ntmps3
    go_wp2_with fail
    refine (lives_any _).mono ?_
    rintro e wz ⟨rfl, hb⟩
    have HBz := Lib.hid (HX0.out.trans (hb.mono HX0.out.size))
    clear hb
    go_wp2
    go_ret
    exact ⟨rfl, HBz.out⟩
  have HS := Lib.hid (show N ≤ 200 by omega)
  go_enter Try.func3, Try.ntmps3
  go_upto_region 3 with fail
  have hX0 := HX0.out
  have hO0 := HO0.out
  obtain ⟨p0, hp0⟩ : ∃ p, p = w.heap.size := ⟨_, rfl⟩
  rw [← hp0] at hO0 ⊢
  generalize w.alloc (.cells #[.int .u8 x0, .int .u8 x1, .int .u8 x2] 23) = w1 at hX0 hO0 ⊢
  have HX1 := Lib.hid hX0
  obtain ⟨c0, c1, c2⟩ : _ ∧ _ ∧ _ := ⟨hO0.cell 0 (by simp), hO0.cell 1 (by simp), hO0.cell 2 (by simp)⟩
  simp only [List.getD_cons_zero, List.getD_cons_succ] at c0 c1 c2
  clear hX0 hO0 HX0 HO0 hp0 hbig
  go_wp2_with fail
  refine (HOf.out w1).mono ?_
  rintro e w2 ⟨rfl, hb⟩
  have HX2 := Lib.hid (HX1.out.trans (hb.mono HX1.out.size))
  have HMk := Lib.hid (mk_ok x0 x1 x2)
  obtain ⟨A, hA0⟩ : ∃ a, a = mkA x0 := ⟨_, rfl⟩
  obtain ⟨B, hB0⟩ : ∃ a, a = mkB x0 x1 := ⟨_, rfl⟩
  obtain ⟨C, hC0⟩ : ∃ a, a = mkC x0 x1 x2 := ⟨_, rfl⟩
  rw [← hA0, ← hB0, ← hC0] at HMk ⊢
  clear hA0 hB0 hC0 hb c0 c1 c2 HOf
  go_upto_region 4 with fail
  have hb := below_alloc w2 (.cells #[.int .i64 A, .int .i64 B, .int .i64 C] 26)
  have hO : Own (w2.alloc (.cells #[.int .i64 A, .int .i64 B, .int .i64 C] 26)) w2.heap.size 26 [.int .i64 A, .int .i64 B, .int .i64 C] := heap_alloc_new w2 _
  obtain ⟨d, hd⟩ : ∃ p, p = w2.heap.size := ⟨_, rfl⟩
  rw [← hd] at hO ⊢
  generalize w2.alloc (.cells #[.int .i64 A, .int .i64 B, .int .i64 C] 26) = w3 at hb hO ⊢
  have HX3 := Lib.hid (HX2.out.trans (hb.mono HX2.out.size))
  have HO3 := Lib.hid hO
  have HDl := Lib.hid (show w.heap.size ≤ d by rw [hd]; exact HX2.out.size)
  obtain ⟨c0, c1, c2⟩ : _ ∧ _ ∧ _ := ⟨hO.cell 0 (by simp), hO.cell 1 (by simp), hO.cell 2 (by simp)⟩
  simp only [List.getD_cons_zero, List.getD_cons_succ] at c0 c1 c2
  clear hd hb hO
  go_wp2_with fail
  refine (newM_any A B C w3 (wf_i64.2 (by have := HMk.out; omega))).mono ?_
  rintro e w4 ⟨hb, h⟩
  rcases h with ⟨_, mb, rfl, hm, hlm⟩ | ⟨hbad, _⟩
  rotate_left
  · exact absurd (by have := HMk.out; unfold good; omega) hbad
  have HX4 := Lib.hid (HX3.out.trans (hb.mono HX3.out.size))
  have HM4 := Lib.hid hm
  have HO4 := Lib.hid (HO3.out.below hb HO3.out.lt)
  have HNe := Lib.hid (show d < mb ∧ w.heap.size ≤ mb by have h1 := HO3.out.lt; have h2 := HDl.out; omega)
  have HR4 := Lib.hid (HR.out.later HX4.out)
  clear hb hm hlm c0 c1 c2
  go_wp2_with fail
  refine (mlevel_any w4 HM4.out).mono ?_
  rintro e w9 ⟨rfl, rfl⟩
  go_wp2_with fail
  go_loopw [8, 9] (fun u v wr => ∃ (i : Nat) (z : Int), i ≤ N ∧ v = .int .i64 i ∧ u = .int .i64 z ∧ MtAt wr mb ⟨A, B, C, z⟩ ∧ Exc (fun k => k = mb) w4 wr) (fun _ v _ => N - (intOf v).toNat)
  case atStart => exact ⟨0, 0, Nat.zero_le _, rfl, rfl, HM4.out, Exc.refl _ _⟩
  case round =>
    obtain ⟨i, z, hi, rfl, rfl, hm, hx⟩ := hrel
    have HM := Lib.hid hm
    have HX := Lib.hid hx
    have HO := Lib.hid (own_exc HO4.out hx (show ¬ d = mb by have := HNe.out; omega))
    by_cases hin : i < N
    · have i1 : (i : Int) < (N : Int) := by omega
      have i2 : (0 : Int) ≤ (i : Int) := by omega
      have HI := Lib.hid hin
      have iw : IntKind.i64.wrap ((i : Int) + 1) = (i : Int) + 1 := IntWalk.i64_in _ (by have := HS.out; omega)
      obtain ⟨b, off, had, hc⟩ := HR4.out.cells.resolve_left (by omega)
      have hbl : b < w.heap.size := by
        obtain ⟨b', off', had', hc'⟩ := HR.out.cells.resolve_left (by omega)
        rw [had] at had'
        obtain ⟨rfl, _, _⟩ := Addr.mk.inj (Option.some.inj had')
        exact World.block_lt_of_cell? w _ (hc' i hin)
      have ci := hx.cell (hc i hin) (show ¬ b = mb by have := HNe.out; omega)
      have hyw := HR4.out.wf _ (show l.getD i 0 ∈ l by rw [List.getD_eq_getElem?_getD, List.getElem?_eq_getElem (show i < l.length by rw [HL.out]; exact hin)]; exact List.getElem_mem _)
      obtain ⟨y, hy⟩ : ∃ y, y = l.getD i 0 := ⟨_, rfl⟩
      rw [← hy] at ci hyw
      have g0 : ∀ k : Nat, k < 3 → wr.cell? ⟨d, k, none⟩ = some (.int .i64 (mk ⟨A, B, C, 0⟩ k)) := fun k hk => by
        have h9 := HO.out.cell k (by simpa using hk)
        rw [h9]
        match k, hk with
        | 0, _ => rfl
        | 1, _ => rfl
        | 2, _ => rfl
      have HG := Lib.hid g0
      subst had
      clear hy hc hm hx hin hi g0 hbl
      have hyr : -128 ≤ y ∧ y ≤ 127 := by simpa [Lit.wf, IntKind.min, IntKind.max, IntKind.bits, IntKind.signed] using hyw
      have yw : IntKind.i64.wrap y = y := IntWalk.i64_in _ (by omega)
      obtain ⟨n, hn⟩ : ∃ n, n = max y 0 := ⟨_, rfl⟩
      have HNn := Lib.hid hn
      have hif : (if y < 0 then 0 else y) = n := by rw [hn]; split <;> omega
      have HIf := Lib.hid hif
      have HNr := Lib.hid (show 0 ≤ n ∧ n ≤ 127 by omega)
      clear hyw hyr hn hif
      go_upto_region 14 with fail
      rw [HIf.out]
      have hbb : ∀ b : Bool, (b != b) = false := by decide
      go_wp2_with fail
      go_loop [11, 12, 13] (fun r q v => ∃ k : Nat, k ≤ 3 ∧ v = .int .i64 k ∧ r = .int .i64 (rchK ⟨A, B, C, 0⟩ n k) ∧ q = .int .i64 (keptK ⟨A, B, C, 0⟩ n k)) (fun _ _ v => 3 - (intOf v).toNat)
      case atStart => exact ⟨0, by omega, rfl, rfl, rfl⟩
      case round =>
        obtain ⟨k, hk, rfl, rfl, rfl⟩ := hrel
        have rb := rchK_bounds ⟨A, B, C, 0⟩ n k
        have qb := keptK_bounds ⟨A, B, C, 0⟩ n k
        by_cases hk3 : k < 3
        · have k1 : (k : Int) < 3 := by omega
          have k2 : (0 : Int) ≤ (k : Int) := by omega
          have kw : IntKind.i64.wrap ((k : Int) + 1) = (k : Int) + 1 := IntWalk.i64_in _ (by omega)
          have HK := Lib.hid hk3
          have hrs : rchK ⟨A, B, C, 0⟩ n (k + 1) = rchK ⟨A, B, C, 0⟩ n k + bt (decide (mk ⟨A, B, C, 0⟩ k ≤ n)) := rfl
          have hqs : keptK ⟨A, B, C, 0⟩ n (k + 1) = keptK ⟨A, B, C, 0⟩ n k + bt (decide (mk ⟨A, B, C, 0⟩ k / 2 < n)) := rfl
          obtain ⟨r, hr⟩ : ∃ r, r = rchK ⟨A, B, C, 0⟩ n k := ⟨_, rfl⟩
          obtain ⟨q, hq⟩ : ∃ r, r = keptK ⟨A, B, C, 0⟩ n k := ⟨_, rfl⟩
          rw [← hr] at hrs rb ⊢
          rw [← hq] at hqs qb ⊢
          have rw1 : IntKind.i64.wrap (r + 1) = r + 1 := IntWalk.i64_in _ (by omega)
          have qw1 : IntKind.i64.wrap (q + 1) = q + 1 := IntWalk.i64_in _ (by omega)
          have cm := HG.out k hk3
          have hmb : 1 ≤ mk ⟨A, B, C, 0⟩ k ∧ mk ⟨A, B, C, 0⟩ k ≤ 60 := by
            have h9 := HMk.out
            match k, hk3 with
            | 0, _ => show 1 ≤ A ∧ A ≤ 60; omega
            | 1, _ => show 1 ≤ B ∧ B ≤ 60; omega
            | 2, _ => show 1 ≤ C ∧ C ≤ 60; omega
          obtain ⟨M, hM⟩ : ∃ M, M = mk ⟨A, B, C, 0⟩ k := ⟨_, rfl⟩
          rw [← hM] at hrs hqs cm hmb
          have ht : M.tdiv 2 = M / 2 := Int.tdiv_eq_ediv_of_nonneg (by omega)
          have htw : IntKind.i64.wrap (M / 2) = M / 2 := IntWalk.i64_in _ (by omega)
          obtain ⟨M2, hM2⟩ : ∃ x, x = M / 2 := ⟨_, rfl⟩
          rw [← hM2] at ht htw hqs
          have HRs := Lib.hid hrs
          have HQs := Lib.hid hqs
          clear hk hr hq hrs hqs rb qb hM hM2 hmb
          by_cases e1 : M ≤ n
          · by_cases e2 : M2 < n
            · have HE := Lib.hid (And.intro e1 e2)
              go_wp2
              exact ⟨⟨k + 1, by have := HK.out; omega, by go_num, by rw [HRs.out, decide_eq_true HE.out.1]; rfl, by rw [HQs.out, decide_eq_true HE.out.2]; rfl⟩, by simp [intOf]; have := HK.out; omega⟩
            · have HE := Lib.hid (And.intro e1 (decide_eq_false e2))
              go_wp2
              exact ⟨⟨k + 1, by have := HK.out; omega, by go_num, by rw [HRs.out, decide_eq_true HE.out.1]; rfl, by rw [HQs.out, HE.out.2]; unfold bt; simp⟩, by simp [intOf]; have := HK.out; omega⟩
          · by_cases e2 : M2 < n
            · have HE := Lib.hid (And.intro (decide_eq_false e1) e2)
              go_wp2
              exact ⟨⟨k + 1, by have := HK.out; omega, by go_num, by rw [HRs.out, HE.out.1]; unfold bt; simp, by rw [HQs.out, decide_eq_true HE.out.2]; rfl⟩, by simp [intOf]; have := HK.out; omega⟩
            · have HE := Lib.hid (And.intro (decide_eq_false e1) (decide_eq_false e2))
              go_wp2
              exact ⟨⟨k + 1, by have := HK.out; omega, by go_num, by rw [HRs.out, HE.out.1]; unfold bt; simp, by rw [HQs.out, HE.out.2]; unfold bt; simp⟩, by simp [intOf]; have := HK.out; omega⟩
        · obtain rfl : k = 3 := by omega
          have hni := next_is ⟨A, B, C, z⟩ y n (rchK ⟨A, B, C, 0⟩ n 3) (keptK ⟨A, B, C, 0⟩ n 3) (by have h9 := HMk.out; exact ⟨h9.1, h9.2.2.1, h9.2.2.2.1⟩) HNn.out (rchK_three _ _) (keptK_three _ _)
          obtain ⟨r, hr⟩ : ∃ r, r = rchK ⟨A, B, C, 0⟩ n 3 := ⟨_, rfl⟩
          obtain ⟨q, hq⟩ : ∃ r, r = keptK ⟨A, B, C, 0⟩ n 3 := ⟨_, rfl⟩
          rw [← hr, ← hq] at hni
          rw [← hr] at rb ⊢
          rw [← hq] at qb ⊢
          have hqr : ¬ q < r := by have := hni.2; omega
          have HNi := Lib.hid (show (⟨A, B, C, z⟩ : Mt).next y = (if z < r then r else if q < z then q else z) from hni.1)
          clear hni hr hq rb qb hk hk3
          by_cases e1 : z < r
          · have HV := Lib.hid (HNi.out.trans (if_pos e1))
            clear HNi
            go_wp2_with fail
            refine (mset_any y wr HM.out).mono ?_
            rintro e w6 ⟨rfl, hm, hx⟩
            rw [HV.out]
            have HM6 := Lib.hid hm
            have HX6 := Lib.hid (HX.out.trans hx (fun _ _ h => h))
            have HLv : Hid (((⟨A, B, C, z⟩ : Mt).set y).lev = r) := Lib.hid HV.out
            clear hm hx
            obtain ⟨ch, hch⟩ : ∃ x, x = (r != z) := ⟨_, rfl⟩
            have hch2 : (r != (⟨A, B, C, z⟩ : Mt).lev) = ch := hch.symm
            rw [hch2]
            have hch3 : (r != z) = ch := hch.symm
            clear hch hch2
            go_wp2_with fail
            refine (mlevel_any w6 HM6.out).mono ?_
            rintro e w9 ⟨rfl, rfl⟩
            rw [HLv.out]
            go_wp2
            refine ⟨⟨i + 1, r, by have := HI.out; omega, by go_num, rfl, ?_, HX6.out⟩, by simp [intOf]; have := HI.out; omega⟩
            have h9 := HM6.out
            unfold Mt.set at h9
            rw [HV.out] at h9
            exact h9
          · by_cases e2 : q < z
            · have HV := Lib.hid (HNi.out.trans ((if_neg e1).trans (if_pos e2)))
              clear HNi
              go_wp2_with fail
              refine (mset_any y wr HM.out).mono ?_
              rintro e w6 ⟨rfl, hm, hx⟩
              rw [HV.out]
              have HM6 := Lib.hid hm
              have HX6 := Lib.hid (HX.out.trans hx (fun _ _ h => h))
              have HLv : Hid (((⟨A, B, C, z⟩ : Mt).set y).lev = q) := Lib.hid HV.out
              clear hm hx
              obtain ⟨ch, hch⟩ : ∃ x, x = (q != z) := ⟨_, rfl⟩
              have hch2 : (q != (⟨A, B, C, z⟩ : Mt).lev) = ch := hch.symm
              rw [hch2]
              have hch3 : (q != z) = ch := hch.symm
              clear hch hch2
              go_wp2_with fail
              refine (mlevel_any w6 HM6.out).mono ?_
              rintro e w9 ⟨rfl, rfl⟩
              rw [HLv.out]
              go_wp2
              refine ⟨⟨i + 1, q, by have := HI.out; omega, by go_num, rfl, ?_, HX6.out⟩, by simp [intOf]; have := HI.out; omega⟩
              have h9 := HM6.out
              unfold Mt.set at h9
              rw [HV.out] at h9
              exact h9
            · have HV := Lib.hid (HNi.out.trans ((if_neg e1).trans (if_neg e2)))
              clear HNi
              go_wp2_with fail
              refine (mset_any y wr HM.out).mono ?_
              rintro e w6 ⟨rfl, hm, hx⟩
              rw [HV.out]
              have HM6 := Lib.hid hm
              have HX6 := Lib.hid (HX.out.trans hx (fun _ _ h => h))
              have HLv : Hid (((⟨A, B, C, z⟩ : Mt).set y).lev = z) := Lib.hid HV.out
              clear hm hx
              have hch2 : (z != (⟨A, B, C, z⟩ : Mt).lev) = false := by simp
              rw [hch2]
              have hch3 : (z != z) = false := by simp
              clear hch2
              go_wp2_with fail
              refine (mlevel_any w6 HM6.out).mono ?_
              rintro e w9 ⟨rfl, rfl⟩
              rw [HLv.out]
              go_wp2
              refine ⟨⟨i + 1, z, by have := HI.out; omega, by go_num, rfl, ?_, HX6.out⟩, by simp [intOf]; have := HI.out; omega⟩
              have h9 := HM6.out
              unfold Mt.set at h9
              rw [HV.out] at h9
              exact h9
    · obtain rfl : i = N := by omega
      have HXf := Lib.hid (HX4.out.trans (hx.below HX4.out.size (fun j _ hj => by have := HNe.out; omega)))
      clear hm hx hin hi
      go_wp2_with fail
      refine (lives_any _).mono ?_
      rintro e wz ⟨rfl, hb⟩
      have HBz := Lib.hid (HXf.out.trans (hb.mono HXf.out.size))
      clear hb
      go_wp2
      go_ret
      exact ⟨rfl, HBz.out⟩
end Go.Proofs.Ytahkmadapojjkaa
