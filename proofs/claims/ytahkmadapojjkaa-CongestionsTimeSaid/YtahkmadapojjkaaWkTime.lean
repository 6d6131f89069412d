/- CongestionsTime: a level is lowered at the ticks that are base apart. -/
import Derived.Test.YtahkmadapojjkaaCgLives
namespace Go.Proofs.Ytahkmadapojjkaa
open Go.RowKit Go.Maps

/-- The tick at which the i-th step is due. -/
def dueM (z base : Int) (i : Nat) : Int := z + (i : Int) * base
theorem dueM_succ (z base : Int) (i : Nat) : dueM z base (i + 1) = dueM z base i + base := by
  unfold dueM; rw [Int.natCast_add, Int.add_mul]; omega
theorem dueM_mono {z base : Int} (hb : 1 ≤ base) (i : Nat) : dueM z base i < dueM z base (i + 1) := by rw [dueM_succ]; omega
def wantM (l z0 z1 base : Int) : Nat → Int
  | 0 => l
  | k + 1 => if dueM z0 base (k + 1) ≤ z1 ∧ z0 < z1 then max (l - k - 1) 0 else wantM l z0 z1 base k
theorem wantM_low {l z0 z1 base : Int} (hl : 0 ≤ l ∧ l ≤ 3) (hb : 1 ≤ base) : wantM l z0 z1 base 3 = lowM (l, z0) z1 base := by
  unfold lowM
  simp only [wantM]
  by_cases h : z1 ≤ z0
  · rw [if_pos h, if_neg (by omega), if_neg (by omega), if_neg (by omega)]
  · rw [if_neg h]
    have h0 : 0 ≤ (z1 - z0) / base := Int.ediv_nonneg (by omega) (by omega)
    have e : ∀ i : Nat, dueM z0 base i ≤ z1 ↔ (i : Int) ≤ (z1 - z0) / base := fun i => by
      unfold dueM; rw [Int.le_ediv_iff_mul_le (by omega)]; constructor <;> intro h <;> omega
    have e1 := e 1; have e2 := e 2; have e3 := e 3
    obtain ⟨q, hq⟩ : ∃ q, q = (z1 - z0) / base := ⟨_, rfl⟩
    rw [← hq] at e1 e2 e3 h0 ⊢
    have hz : z0 < z1 := by omega
    by_cases q3 : 3 ≤ q
    · rw [if_pos ⟨e3.2 q3, hz⟩]; omega
    · rw [if_neg (fun hh => q3 (e3.1 hh.1))]
      by_cases q2 : 2 ≤ q
      · rw [if_pos ⟨e2.2 q2, hz⟩]; omega
      · rw [if_neg (fun hh => q2 (e2.1 hh.1))]
        by_cases q1 : 1 ≤ q
        · rw [if_pos ⟨e1.2 q1, hz⟩]; omega
        · rw [if_neg (fun hh => q1 (e1.1 hh.1))]; omega
set_option maxHeartbeats 8000000 in
set_option maxRecDepth 100000 in
theorem time_walk (base z0 z1 n l : Int) (w : World) (hb : (Lit.int .i64 base).wf = true) (h0 : (Lit.int .i64 z0).wf = true) (h1 : (Lit.int .i64 z1).wf = true) (hn : (Lit.int .u16 n).wf = true) (hl : (Lit.int .i64 l).wf = true) :
    Calls Try.prog 7 #[.int .i64 base, .agg #[.int .i64 z0, .int .i64 z1], .agg #[.int .u16 n, .int .i64 l]] w fun e w' => e = .returned (.bool true) ∧ Below w.heap.size w w' := by
  have x1 := below_alloc w (.cells #[.int .i64 z0, .int .i64 z1] 52)
  have o1 : Own (w.alloc (.cells #[.int .i64 z0, .int .i64 z1] 52)) w.heap.size 52 [.int .i64 z0, .int .i64 z1] := heap_alloc_new w _
  have s1 := World.size_alloc w (.cells #[.int .i64 z0, .int .i64 z1] 52)
  obtain ⟨v1, hv1⟩ : ∃ x, x = w.alloc (.cells #[.int .i64 z0, .int .i64 z1] 52) := ⟨_, rfl⟩
  rw [← hv1] at x1 o1 s1
  have x2 := below_alloc v1 (.cells #[.int .u16 n, .int .i64 l] 54)
  have o2 : Own (v1.alloc (.cells #[.int .u16 n, .int .i64 l] 54)) v1.heap.size 54 [.int .u16 n, .int .i64 l] := heap_alloc_new v1 _
  obtain ⟨v2, hv2⟩ : ∃ x, x = v1.alloc (.cells #[.int .u16 n, .int .i64 l] 54) := ⟨_, rfl⟩
  rw [← hv2] at x2 o2
  have HO1 := Lib.hid (o1.below x2 o1.lt)
  have HO2 := Lib.hid o2
  have HLt := Lib.hid (show w.heap.size + 1 < v2.heap.size by have h1 := x2.size; have h2 := o2.lt; have h3 : v1.heap.size = w.heap.size + 1 := s1; omega)
  have HX := Lib.hid (x1.trans (x2.mono x1.size))
  have HWb := Lib.hid hb
  have HW0 := Lib.hid h0
  have HW1 := Lib.hid h1
  have HWn := Lib.hid hn
  have HV := Lib.hid (And.intro (wf_i64.1 hb) (And.intro (wf_i64.1 h0) (And.intro (wf_i64.1 h1) (wf_i64.1 hl))))
  have hnn : 0 ≤ n ∧ n ≤ 65535 := by simpa [Lit.wf, IntKind.min, IntKind.max, IntKind.bits, IntKind.signed] using hn
  have HN := Lib.hid hnn
  have hs2 : v1.heap.size = w.heap.size + 1 := s1
  clear x1 o1 s1 x2 o2 hb h0 h1 hn hl hnn
  go_enter Try.func7, Try.ntmps7
  go_upto_region 1 with fail
  rw [← hv1, ← hv2]
  rw [hs2] at HO2
  have hb1 := HX.out
  obtain ⟨p1, hp1⟩ : ∃ p, p = w.heap.size := ⟨_, rfl⟩
  obtain ⟨p2, hp2⟩ : ∃ p, p = w.heap.size + 1 := ⟨_, rfl⟩
  have HP := Lib.hid (And.intro hp1 hp2)
  rw [← hp2] at HO2
  rw [← hp1] at HO1
  rw [← hp2, ← hp1]
  generalize v2 = W0 at *
  clear hv1 hv2 hs2 hb1 hp1 hp2
  go_wp2_with fail
  refine (newC_any [n] base W0 HWb.out ⟨List.nodup_cons.2 ⟨by simp, List.nodup_nil⟩, fun z hz => by obtain rfl := List.mem_singleton.1 hz; exact HWn.out, by simp⟩).mono ?_
  rintro e w1 ⟨hb, h⟩
  have HX1 := Lib.hid (HX.out.trans (hb.mono HX.out.size))
  have HO1 := Lib.hid (HO1.out.below hb HO1.out.lt)
  have HO2 := Lib.hid (HO2.out.below hb HO2.out.lt)
  by_cases hbase : base < 1
  · rcases h with ⟨hok, _⟩ | ⟨_, rfl⟩
    · exact absurd hok (by omega)
    clear hb
    go_wp2_with fail
    refine (lives_any w1).mono ?_
    rintro e wz ⟨rfl, hb⟩
    have HBz := Lib.hid (HX1.out.trans (hb.mono HX1.out.size))
    clear hb
    go_wp2
    go_ret
    exact ⟨rfl, HBz.out⟩
  rcases h with ⟨hok, cb, bm, rfl, hc, hlc, hlb⟩ | ⟨hbad, _⟩
  rotate_left
  · exact absurd (show 1 ≤ base by omega) hbad
  have HC := Lib.hid hc
  have hLo0 : w.heap.size + 2 ≤ cb ∧ w.heap.size + 2 ≤ bm := by
    have h1 := hlc; have h2 := hlb; have h3 := HP.out
    have h5 := HLt.out
    omega
  have HLo := Lib.hid hLo0
  have HB := Lib.hid (show 1 ≤ base from hok)
  obtain ⟨a0, a1⟩ : _ ∧ _ := ⟨HO1.out.cell 0 (by simp), HO1.out.cell 1 (by simp)⟩
  obtain ⟨t0, t1⟩ : _ ∧ _ := ⟨HO2.out.cell 0 (by simp), HO2.out.cell 1 (by simp)⟩
  simp only [List.getD_cons_zero, List.getD_cons_succ] at a0 a1 t0 t1
  clear hb hc hlc hlb hLo0 hok
  go_wp2_with fail
  refine (hear_any z0 n l w1 HC.out HW0.out (show n ∈ [n] by simp)).mono ?_
  rintro e w2 ⟨rfl, hc, hx⟩
  have HX2 := Lib.hid (HX1.out.trans (hx.below HX1.out.size (fun i _ hi => by have := HLo.out; rcases hi with hi | hi <;> omega)))
  have HO1 := Lib.hid (own_exc HO1.out hx (by unfold Cu; have := HLo.out; have := HP.out; omega))
  have HO2 := Lib.hid (own_exc HO2.out hx (by unfold Cu; have := HLo.out; have := HP.out; omega))
  clear a0 a1 t0 t1 hx
  obtain ⟨a0, a1⟩ : _ ∧ _ := ⟨HO1.out.cell 0 (by simp), HO1.out.cell 1 (by simp)⟩
  obtain ⟨t0, t1⟩ : _ ∧ _ := ⟨HO2.out.cell 0 (by simp), HO2.out.cell 1 (by simp)⟩
  simp only [List.getD_cons_zero, List.getD_cons_succ] at a0 a1 t0 t1
  by_cases hA : l < 0
  · have herr : (Ct.fresh [n] base).err z0 n l = 1 := if_pos (.inl hA)
    rw [herr, if_neg (by decide)] at hc
    rw [herr]
    have HC := Lib.hid hc
    clear hc herr
    go_wp2_with fail
    refine (clevel_any z0 n w2 HC.out HW0.out HWn.out).mono ?_
    rintro e w3 ⟨rfl, hb⟩
    have HX3 := Lib.hid (HX2.out.trans (hb.mono HX2.out.size))
    rw [show lowM ((Ct.fresh [n] base).R n) z0 (Ct.fresh [n] base).base = 0 from lowM_zero rfl HB.out]
    clear hb
    go_wp2_with fail
    refine (lives_any w3).mono ?_
    rintro e wz ⟨rfl, hb⟩
    have HBz := Lib.hid (HX3.out.trans (hb.mono HX3.out.size))
    clear hb
    go_wp2
    go_ret
    exact ⟨rfl, HBz.out⟩
  by_cases hB : 3 < l
  · have herr : (Ct.fresh [n] base).err z0 n l = 1 := if_pos (.inr (.inl hB))
    rw [herr, if_neg (by decide)] at hc
    rw [herr]
    have HC := Lib.hid hc
    clear hc herr
    go_wp2_with fail
    refine (clevel_any z0 n w2 HC.out HW0.out HWn.out).mono ?_
    rintro e w3 ⟨rfl, hb⟩
    have HX3 := Lib.hid (HX2.out.trans (hb.mono HX2.out.size))
    rw [show lowM ((Ct.fresh [n] base).R n) z0 (Ct.fresh [n] base).base = 0 from lowM_zero rfl HB.out]
    clear hb
    go_wp2_with fail
    refine (lives_any w3).mono ?_
    rintro e wz ⟨rfl, hb⟩
    have HBz := Lib.hid (HX3.out.trans (hb.mono HX3.out.size))
    clear hb
    go_wp2
    go_ret
    exact ⟨rfl, HBz.out⟩
  by_cases hC : 16383 < n
  · have herr : (Ct.fresh [n] base).err z0 n l = 1 := if_pos (.inr (.inr hC))
    rw [herr, if_neg (by decide)] at hc
    rw [herr]
    have HC := Lib.hid hc
    clear hc herr
    go_wp2_with fail
    refine (clevel_any z0 n w2 HC.out HW0.out HWn.out).mono ?_
    rintro e w3 ⟨rfl, hb⟩
    have HX3 := Lib.hid (HX2.out.trans (hb.mono HX2.out.size))
    rw [show lowM ((Ct.fresh [n] base).R n) z0 (Ct.fresh [n] base).base = 0 from lowM_zero rfl HB.out]
    clear hb
    go_wp2_with fail
    refine (lives_any w3).mono ?_
    rintro e wz ⟨rfl, hb⟩
    have HBz := Lib.hid (HX3.out.trans (hb.mono HX3.out.size))
    clear hb
    go_wp2
    go_ret
    exact ⟨rfl, HBz.out⟩
  have herr : (Ct.fresh [n] base).err z0 n l = 0 := by
    unfold Ct.err
    rw [if_neg (by omega)]
    have h0 : (Ct.fresh [n] base).others z0 n = 0 := by
      unfold Ct.others Ct.fresh Ct.hits
      simp
    rw [h0]
    rfl
  rw [herr, if_pos rfl] at hc
  rw [herr]
  have HC := Lib.hid hc
  have HL := Lib.hid (show 0 ≤ l ∧ l ≤ 3 by omega)
  clear hc herr
  have HLow : Hid (lowM (((Ct.fresh [n] base).hear z0 n l).R n) z1 base = wantM l z0 z1 base 3) := Lib.hid (by
    rw [wantM_low HL.out HB.out]
    show lowM (updR (fun _ => (0, 0)) n (l, z0) n) z1 base = _
    rw [updR_same])
  have hmax : IntKind.i64.wrap (9223372036854775807 - base) = 9223372036854775807 - base := IntWalk.i64_in _ (by have := HV.out; have := HB.out; omega)
  go_wp2_with fail
  go_loop [10, 11] (fun u v => ∃ k : Nat, k ≤ 3 ∧ v = .int .i64 k ∧ u = .int .i64 (wantM l z0 z1 base k)) (fun _ v => 3 - (intOf v).toNat)
  case atStart => exact ⟨0, by omega, rfl, rfl⟩
  case round =>
    obtain ⟨k, hk, rfl, rfl⟩ := hrel
    by_cases hk3 : k < 3
    · have k1 : (k : Int) < 3 := by omega
      have kw : IntKind.i64.wrap ((k : Int) + 1) = (k : Int) + 1 := IntWalk.i64_in _ (by omega)
      have HK := Lib.hid hk3
      obtain ⟨wa, hwa⟩ : ∃ x, x = wantM l z0 z1 base k := ⟨_, rfl⟩
      rw [← hwa]
      have HWA := Lib.hid hwa
      clear hwa hk
      go_wp2_with fail
      go_loop [12, 13, 14] (fun d o v => ∃ (i : Nat) (x : Int) (b : Bool), i ≤ k + 1 ∧ v = .int .i64 i ∧ d = .int .i64 x ∧ o = .bool b ∧ (-9223372036854775808 ≤ x ∧ x ≤ 9223372036854775807) ∧ ((b = false ∧ x = dueM z0 base i) ∨ (b = true ∧ 9223372036854775807 < dueM z0 base i))) (fun _ _ v => k + 1 - (intOf v).toNat)
      case atStart => exact ⟨0, z0, false, by omega, rfl, rfl, rfl, HV.out.2.1, .inl ⟨rfl, by unfold dueM; simp⟩⟩
      case round =>
        obtain ⟨i, x, b, hi, rfl, rfl, rfl, hxw, hst⟩ := hrel
        have HXW := Lib.hid hxw
        have HSt := Lib.hid hst
        by_cases hik : i ≤ k
        · have i1 : (i : Int) ≤ (k : Int) := by omega
          have iw : IntKind.i64.wrap ((i : Int) + 1) = (i : Int) + 1 := IntWalk.i64_in _ (by omega)
          have HIK := Lib.hid hik
          have HD := Lib.hid (dueM_succ z0 base i)
          clear hst hxw hi
          by_cases hov : 9223372036854775807 - base < x
          · have HOv := Lib.hid hov
            have hxx : -9223372036854775808 ≤ IntKind.i64.wrap (x + base) ∧ IntKind.i64.wrap (x + base) ≤ 9223372036854775807 := by rw [IntKind.wrap_i64]; omega
            obtain ⟨y, hy⟩ : ∃ y, IntKind.i64.wrap (x + base) = y := ⟨_, rfl⟩
            rw [hy] at hxx
            have HY := Lib.hid hxx
            clear hxx
            go_wp2
            refine ⟨⟨i + 1, y, true, by have := HIK.out; omega, by go_num, rfl, rfl, HY.out, .inr ⟨rfl, ?_⟩⟩, by simp [intOf]; have := HIK.out; omega⟩
            rw [HD.out]
            have h1 := HOv.out; have h2 := HB.out
            rcases HSt.out with ⟨_, h3⟩ | ⟨_, h3⟩ <;> omega
          · have HOv := Lib.hid hov
            have hxx : IntKind.i64.wrap (x + base) = x + base := IntWalk.i64_in _ (by have := HB.out; have := HXW.out; omega)
            go_wp2
            refine ⟨⟨i + 1, x + base, b, by have := HIK.out; omega, by go_num, rfl, rfl, ⟨by have := HB.out; have := HXW.out; omega, by have := HOv.out; omega⟩, ?_⟩, by simp [intOf]; have := HIK.out; omega⟩
            rw [HD.out]
            have h2 := HB.out
            rcases HSt.out with ⟨h3, h4⟩ | ⟨h3, h4⟩
            · exact .inl ⟨h3, by omega⟩
            · exact .inr ⟨h3, by omega⟩
        · obtain rfl : i = k + 1 := by omega
          have i2 : ¬ ((k : Int) + 1 ≤ (k : Int)) := by omega
          have hlk : IntKind.i64.wrap (l - (k : Int)) = l - (k : Int) := IntWalk.i64_in _ (by have := HL.out; omega)
          have hlk1 : IntKind.i64.wrap (l - (k : Int) - 1) = l - (k : Int) - 1 := IntWalk.i64_in _ (by have := HL.out; omega)
          have HLk : Hid (max (l - k - 1) 0 = if (l - (k : Int) - 1) < 0 then 0 else l - (k : Int) - 1) := Lib.hid (by split <;> omega)
          have hsucc : wantM l z0 z1 base (k + 1) = if dueM z0 base (k + 1) ≤ z1 ∧ z0 < z1 then max (l - k - 1) 0 else wantM l z0 z1 base k := rfl
          rw [← HWA.out] at hsucc
          have HSu := Lib.hid hsucc
          clear hsucc hst hxw hi
          cases b
          · have hxe : x = dueM z0 base (k + 1) := by rcases HSt.out with ⟨_, h⟩ | ⟨h, _⟩; exact h; cases h
            rw [← hxe] at HSu
            clear HSt hxe
            by_cases hz1 : x ≤ z1
            · by_cases hz2 : z0 < z1
              · have HS2 := Lib.hid (HSu.out.trans (if_pos ⟨hz1, hz2⟩))
                by_cases hneg : l - (k : Int) - 1 < 0
                · have HNg := Lib.hid hneg
                  go_wp2
                  all_goals exact ⟨⟨k + 1, by have := HK.out; omega, by go_num, congrArg _ (by rw [HS2.out]; have := HNg.out; omega)⟩, by simp [intOf]; have := HK.out; omega⟩
                · have HNg := Lib.hid hneg
                  go_wp2
                  all_goals exact ⟨⟨k + 1, by have := HK.out; omega, by go_num, congrArg _ (by rw [HS2.out]; have := HNg.out; omega)⟩, by simp [intOf]; have := HK.out; omega⟩
              · have HS2 := Lib.hid (HSu.out.trans (if_neg (fun h => hz2 h.2)))
                have hz2d : decide (z0 < z1) = false := decide_eq_false hz2
                go_wp2
                exact ⟨⟨k + 1, by have := HK.out; omega, by go_num, by rw [HS2.out]⟩, by simp [intOf]; have := HK.out; omega⟩
            · have HS2 := Lib.hid (HSu.out.trans (if_neg (fun h => hz1 h.1)))
              have hz1d : decide (x ≤ z1) = false := decide_eq_false hz1
              go_wp2
              exact ⟨⟨k + 1, by have := HK.out; omega, by go_num, by rw [HS2.out]⟩, by simp [intOf]; have := HK.out; omega⟩
          · have hov : 9223372036854775807 < dueM z0 base (k + 1) := by rcases HSt.out with ⟨h, _⟩ | ⟨_, h⟩; cases h; exact h
            have HS2 := Lib.hid (HSu.out.trans (if_neg (fun h => by have := HV.out; omega)))
            clear hov HSt
            go_wp2
            exact ⟨⟨k + 1, by have := HK.out; omega, by go_num, by rw [HS2.out]⟩, by simp [intOf]; have := HK.out; omega⟩
    · obtain rfl : k = 3 := by omega
      clear hk hk3
      have hlow := HLow.out
      obtain ⟨q, hq⟩ : ∃ q, q = wantM l z0 z1 base 3 := ⟨_, rfl⟩
      rw [← hq] at hlow ⊢
      have HLw := Lib.hid hlow
      clear hlow hq
      go_wp2_with fail
      refine (clevel_any z1 n w2 HC.out HW1.out HWn.out).mono ?_
      rintro e w3 ⟨rfl, hb⟩
      have HX3 := Lib.hid (HX2.out.trans (hb.mono HX2.out.size))
      rw [show ((Ct.fresh [n] base).hear z0 n l).base = base from rfl, HLw.out]
      clear hb
      go_wp2_with fail
      refine (lives_any w3).mono ?_
      rintro e wz ⟨rfl, hb⟩
      have HBz := Lib.hid (HX3.out.trans (hb.mono HX3.out.size))
      clear hb
      go_wp2
      go_ret
      exact ⟨rfl, HBz.out⟩
end Go.Proofs.Ytahkmadapojjkaa
