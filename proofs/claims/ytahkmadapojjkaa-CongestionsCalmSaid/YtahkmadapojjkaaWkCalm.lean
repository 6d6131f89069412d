/- CongestionsCalm: the level follows the queue with hysteresis. -/
import Derived.Test.YtahkmadapojjkaaCgMarks
namespace Go.Proofs.Ytahkmadapojjkaa
open Go.RowKit Go.Maps

theorem rchd_mono (m : Mt) {n n' : Int} (h : n ≤ n') : rchd m n ≤ rchd m n' := by
  have h1 := bt_le (p := m.a ≤ n) (q := m.a ≤ n') (by omega)
  have h2 := bt_le (p := m.b ≤ n) (q := m.b ≤ n') (by omega)
  have h3 := bt_le (p := m.c ≤ n) (q := m.c ≤ n') (by omega)
  unfold rchd; omega
theorem kept_mono (m : Mt) {n n' : Int} (h : n ≤ n') : kept m n ≤ kept m n' := by
  have h1 := bt_le (p := m.a / 2 < n) (q := m.a / 2 < n') (by omega)
  have h2 := bt_le (p := m.b / 2 < n) (q := m.b / 2 < n') (by omega)
  have h3 := bt_le (p := m.c / 2 < n) (q := m.c / 2 < n') (by omega)
  unfold kept; omega
theorem bt_one {p : Prop} [Decidable p] (h : p) : bt (decide p) = 1 := by rw [decide_eq_true h]; rfl
theorem bt_zero {p : Prop} [Decidable p] (h : ¬ p) : bt (decide p) = 0 := by rw [decide_eq_false h]; rfl
/-- A mark that is reached: the level is above its place. -/
theorem calm_up (m : Mt) (n : Int) (k : Nat) (hk : k < 3) (h : m.a < m.b ∧ m.b < m.c) (hm : mk m k ≤ n) : (k : Int) < rchd m n := by
  have b1 := bt_bounds (decide (m.a ≤ n)); have b2 := bt_bounds (decide (m.b ≤ n)); have b3 := bt_bounds (decide (m.c ≤ n))
  unfold rchd
  match k, hk with
  | 0, _ => have hm : m.a ≤ n := hm; rw [bt_one hm]; simp; omega
  | 1, _ => have hm : m.b ≤ n := hm; rw [bt_one hm, bt_one (show m.a ≤ n by omega)]; simp; omega
  | 2, _ => have hm : m.c ≤ n := hm; rw [bt_one hm, bt_one (show m.a ≤ n by omega), bt_one (show m.b ≤ n by omega)]; simp
/-- Half a mark that is not passed: the kept level is not above its place. -/
theorem calm_down (m : Mt) (n : Int) (k : Nat) (hk : k < 3) (h : m.a < m.b ∧ m.b < m.c) (hm : n ≤ mk m k / 2) : kept m n ≤ k := by
  have b1 := bt_bounds (decide (m.a / 2 < n)); have b2 := bt_bounds (decide (m.b / 2 < n)); have b3 := bt_bounds (decide (m.c / 2 < n))
  unfold kept
  match k, hk with
  | 0, _ => have hm : n ≤ m.a / 2 := hm; rw [bt_zero (show ¬ m.a / 2 < n by omega), bt_zero (show ¬ m.b / 2 < n by omega), bt_zero (show ¬ m.c / 2 < n by omega)]; simp
  | 1, _ => have hm : n ≤ m.b / 2 := hm; rw [bt_zero (show ¬ m.b / 2 < n by omega), bt_zero (show ¬ m.c / 2 < n by omega)]; simp; omega
  | 2, _ => have hm : n ≤ m.c / 2 := hm; rw [bt_zero (show ¬ m.c / 2 < n by omega)]; simp; omega
theorem zero_rchd (m : Mt) (n : Int) (h : m.a < m.b ∧ m.b < m.c) (hm : n < m.a) : rchd m n = 0 := by
  unfold rchd
  rw [bt_zero (show ¬ m.a ≤ n by omega), bt_zero (show ¬ m.b ≤ n by omega), bt_zero (show ¬ m.c ≤ n by omega)]; rfl
set_option maxHeartbeats 8000000 in
set_option maxRecDepth 100000 in
theorem calm_walk (x0 x1 x2 : Int) (a : Option Addr) (N c : Nat) (l : List Int) (w : World) (h0 : (Lit.int .u8 x0).wf = true) (h1 : (Lit.int .u8 x1).wf = true) (h2 : (Lit.int .u8 x2).wf = true) (h : Row .u8 w a N c l) :
    Calls Try.prog 4 #[.agg #[.int .u8 x0, .int .u8 x1, .int .u8 x2], .slice a N c] w fun e w' => e = .returned (.bool true) ∧ Below w.heap.size w w' := by
  have HR := Lib.hid h
  have hlen := h.len
  have HL := Lib.hid hlen
  have HOf := Lib.hid (fun W => of_any x0 x1 x2 W (wf8.1 h0) (wf8.1 h1) (wf8.1 h2))
  have x1' := below_alloc w (.cells #[.int .u8 x0, .int .u8 x1, .int .u8 x2] 23)
  have o1 : Own (w.alloc (.cells #[.int .u8 x0, .int .u8 x1, .int .u8 x2] 23)) w.heap.size 23 [.int .u8 x0, .int .u8 x1, .int .u8 x2] := heap_alloc_new w _
  have HX0 := Lib.hid x1'
  have HO0 := Lib.hid o1
  clear h0 h1 h2 h x1' o1 hlen
  by_cases hbig : (200 : Int) < (N : Int)
  · go_enter Try.func4, Try.ntmps4
    go_wp2_with fail
    refine (lives_any _).mono ?_
    rintro e wz ⟨rfl, hb⟩
    have HBz := Lib.hid (HX0.out.trans (hb.mono HX0.out.size))
    clear hb
    go_wp2
    go_ret
    exact ⟨rfl, HBz.out⟩
  have HS := Lib.hid (show N ≤ 200 by omega)
  go_enter Try.func4, Try.ntmps4
  go_upto_region 3 with fail
  have hX0 := HX0.out
  have hO0 := HO0.out
  obtain ⟨p0, hp0⟩ : ∃ p, p = w.heap.size := ⟨_, rfl⟩
  rw [← hp0] at hO0 ⊢
  generalize w.alloc (.cells #[.int .u8 x0, .int .u8 x1, .int .u8 x2] 23) = w1 at hX0 hO0 ⊢
  have HX1 := Lib.hid hX0
  obtain ⟨c0, c1, c2⟩ : _ ∧ _ ∧ _ := ⟨hO0.cell 0 (by simp), hO0.cell 1 (by simp), hO0.cell 2 (by simp)⟩
  simp only [List.getD_cons_zero, List.getD_cons_succ] at c0 c1 c2
  clear hX0 hO0 HX0 HO0 hp0 hbig
  go_wp2_with fail
  refine (HOf.out w1).mono ?_
  rintro e w2 ⟨rfl, hb⟩
  have HX2 := Lib.hid (HX1.out.trans (hb.mono HX1.out.size))
  have HMk := Lib.hid (mk_ok x0 x1 x2)
  obtain ⟨A, hA0⟩ : ∃ a, a = mkA x0 := ⟨_, rfl⟩
  obtain ⟨B, hB0⟩ : ∃ a, a = mkB x0 x1 := ⟨_, rfl⟩
  obtain ⟨C, hC0⟩ : ∃ a, a = mkC x0 x1 x2 := ⟨_, rfl⟩
  rw [← hA0, ← hB0, ← hC0] at HMk ⊢
  clear hA0 hB0 hC0 hb c0 c1 c2 HOf
  go_upto_region 4 with fail
  have hb := below_alloc w2 (.cells #[.int .i64 A, .int .i64 B, .int .i64 C] 26)
  have hO : Own (w2.alloc (.cells #[.int .i64 A, .int .i64 B, .int .i64 C] 26)) w2.heap.size 26 [.int .i64 A, .int .i64 B, .int .i64 C] := heap_alloc_new w2 _
  obtain ⟨d, hd⟩ : ∃ p, p = w2.heap.size := ⟨_, rfl⟩
  rw [← hd] at hO ⊢
  generalize w2.alloc (.cells #[.int .i64 A, .int .i64 B, .int .i64 C] 26) = w3 at hb hO ⊢
  have HX3 := Lib.hid (HX2.out.trans (hb.mono HX2.out.size))
  have HO3 := Lib.hid hO
  have HDl := Lib.hid (show w.heap.size ≤ d by rw [hd]; exact HX2.out.size)
  obtain ⟨c0, c1, c2⟩ : _ ∧ _ ∧ _ := ⟨hO.cell 0 (by simp), hO.cell 1 (by simp), hO.cell 2 (by simp)⟩
  simp only [List.getD_cons_zero, List.getD_cons_succ] at c0 c1 c2
  clear hd hb hO
  go_wp2_with fail
  refine (newM_any A B C w3 (wf_i64.2 (by have := HMk.out; omega))).mono ?_
  rintro e w4 ⟨hb, h⟩
  rcases h with ⟨_, mb, rfl, hm, hlm⟩ | ⟨hbad, _⟩
  rotate_left
  · exact absurd (by have := HMk.out; unfold good; omega) hbad
  have HX4 := Lib.hid (HX3.out.trans (hb.mono HX3.out.size))
  have HM4 := Lib.hid hm
  have HO4 := Lib.hid (HO3.out.below hb HO3.out.lt)
  have HNe := Lib.hid (show d < mb ∧ w.heap.size ≤ mb by have h1 := HO3.out.lt; have h2 := HDl.out; omega)
  have HR4 := Lib.hid (HR.out.later HX4.out)
  clear hb hm hlm c0 c1 c2
  go_wp2_with fail
  go_loopw [8, 9, 10] (fun u q v wr => ∃ (i : Nat) (z len : Int), i ≤ N ∧ v = .int .i64 i ∧ u = .int .i64 z ∧ q = .int .i64 len ∧ MtAt wr mb ⟨A, B, C, z⟩ ∧ (rchd ⟨A, B, C, 0⟩ len ≤ z ∧ z ≤ kept ⟨A, B, C, 0⟩ len) ∧ Exc (fun k => k = mb) w4 wr) (fun _ _ v _ => N - (intOf v).toNat)
  case atStart => exact ⟨0, 0, 0, Nat.zero_le _, rfl, rfl, rfl, HM4.out, ⟨by rw [zero_rchd ⟨A, B, C, 0⟩ 0 (by have := HMk.out; exact ⟨this.2.2.1, this.2.2.2.1⟩) (by have := HMk.out; show (0 : Int) < A; omega)]; exact Int.le_refl _, (kept_bounds _ _).1⟩, Exc.refl _ _⟩
  case round =>
    obtain ⟨i, z, len, hi, rfl, rfl, rfl, hm, hcalm, hx⟩ := hrel
    have HM := Lib.hid hm
    have HX := Lib.hid hx
    have HCm := Lib.hid hcalm
    have HO := Lib.hid (own_exc HO4.out hx (show ¬ d = mb by have := HNe.out; omega))
    by_cases hin : i < N
    · have i1 : (i : Int) < (N : Int) := by omega
      have i2 : (0 : Int) ≤ (i : Int) := by omega
      have HI := Lib.hid hin
      have iw : IntKind.i64.wrap ((i : Int) + 1) = (i : Int) + 1 := IntWalk.i64_in _ (by have := HS.out; omega)
      obtain ⟨b, off, had, hc⟩ := HR4.out.cells.resolve_left (by omega)
      have hbl : b < w.heap.size := by
        obtain ⟨b', off', had', hc'⟩ := HR.out.cells.resolve_left (by omega)
        rw [had] at had'
        obtain ⟨rfl, _, _⟩ := Addr.mk.inj (Option.some.inj had')
        exact World.block_lt_of_cell? w _ (hc' i hin)
      have ci := hx.cell (hc i hin) (show ¬ b = mb by have := HNe.out; omega)
      have hyw := HR4.out.wf _ (show l.getD i 0 ∈ l by rw [List.getD_eq_getElem?_getD, List.getElem?_eq_getElem (show i < l.length by rw [HL.out]; exact hin)]; exact List.getElem_mem _)
      obtain ⟨y, hy⟩ : ∃ y, y = l.getD i 0 := ⟨_, rfl⟩
      rw [← hy] at ci hyw
      have g0 : ∀ k : Nat, k < 3 → wr.cell? ⟨d, k, none⟩ = some (.int .i64 (mk ⟨A, B, C, 0⟩ k)) := fun k hk => by
        have h9 := HO.out.cell k (by simpa using hk)
        rw [h9]
        match k, hk with
        | 0, _ => rfl
        | 1, _ => rfl
        | 2, _ => rfl
      have HG := Lib.hid g0
      subst had
      clear hy hc hm hx hcalm hin hi g0 hbl
      have hyr := wf8.1 hyw
      have t0 : y.tmod 70 = y % 70 := Int.tmod_eq_emod_of_nonneg hyr.1
      obtain ⟨n, hn⟩ : ∃ n, n = y % 70 := ⟨_, rfl⟩
      rw [← hn] at t0
      have u0 : IntKind.u8.wrap n = n := by simp only [IntKind.wrap_u8]; omega
      have n0 : IntKind.i64.wrap n = n := IntWalk.i64_in _ (by omega)
      clear hyw hyr hn
      go_wp2_with fail
      refine (mset_any n wr HM.out).mono ?_
      rintro e w6 ⟨rfl, hm, hx⟩
      have HM6 := Lib.hid hm
      have HX6 := Lib.hid (HX.out.trans hx (fun _ _ h => h))
      have HG6 : Hid (∀ k : Nat, k < 3 → w6.cell? ⟨d, k, none⟩ = some (.int .i64 (mk ⟨A, B, C, 0⟩ k))) := Lib.hid (fun k hk => hx.cell (HG.out k hk) (show ¬ d = mb by have := HNe.out; omega))
      have hL : (⟨A, B, C, z⟩ : Mt).next n = max (rchd ⟨A, B, C, 0⟩ n) (min z (kept ⟨A, B, C, 0⟩ n)) := rfl
      obtain ⟨L, hL0⟩ : ∃ L, L = (⟨A, B, C, z⟩ : Mt).next n := ⟨_, rfl⟩
      have hM6 := HM6.out
      unfold Mt.set at hM6
      rw [← hL0] at hM6 hL ⊢
      have HM7 := Lib.hid (show MtAt w6 mb ⟨A, B, C, L⟩ from hM6)
      have hasc : A < B ∧ B < C := by have h9 := HMk.out; exact ⟨h9.2.2.1, h9.2.2.2.1⟩
      have hrk := rchd_kept ⟨A, B, C, 0⟩ n (by have h9 := HMk.out; exact ⟨h9.1, h9.2.2.1, h9.2.2.2.1⟩)
      have HLr : Hid (rchd ⟨A, B, C, 0⟩ n ≤ L ∧ L ≤ kept ⟨A, B, C, 0⟩ n) := Lib.hid (by omega)
      have HUp : Hid (∀ k : Nat, k < 3 → mk ⟨A, B, C, 0⟩ k ≤ n → ¬ L ≤ (k : Int)) := Lib.hid (fun k hk hm => by have h1 := calm_up ⟨A, B, C, 0⟩ n k hk hasc hm; omega)
      have HDn : Hid (∀ k : Nat, k < 3 → n ≤ mk ⟨A, B, C, 0⟩ k / 2 → ¬ (k : Int) < L) := Lib.hid (fun k hk hm => by have h1 := calm_down ⟨A, B, C, 0⟩ n k hk hasc hm; omega)
      have HGr : Hid (len ≤ n → ¬ L < z) := Lib.hid (fun h => by have h1 := kept_mono ⟨A, B, C, 0⟩ h; have h2 := HCm.out; omega)
      have HFl : Hid (n ≤ len → ¬ z < L) := Lib.hid (fun h => by have h1 := rchd_mono ⟨A, B, C, 0⟩ h; have h2 := HCm.out; omega)
      obtain ⟨ch, hch⟩ : ∃ c, c = (L != (⟨A, B, C, z⟩ : Mt).lev) := ⟨_, rfl⟩
      rw [← hch]
      clear hm hx hM6 hL hL0 hasc hrk ci HM6 hch
      go_wp2_with fail
      go_loop [14] (fun v => ∃ k : Nat, k ≤ 3 ∧ v = .int .i64 k) (fun v => 3 - (intOf v).toNat)
      case atStart => exact ⟨0, by omega, rfl⟩
      case round =>
        obtain ⟨k, hk, rfl⟩ := hrel
        by_cases hk3 : k < 3
        · have k1 : (k : Int) < 3 := by omega
          have k2 : (0 : Int) ≤ (k : Int) := by omega
          have kw : IntKind.i64.wrap ((k : Int) + 1) = (k : Int) + 1 := IntWalk.i64_in _ (by omega)
          have HK := Lib.hid hk3
          have cm := HG6.out k hk3
          have cA : w6.cell? ⟨d, 0, none⟩ = some (.int .i64 A) := HG6.out 0 (by decide)
          have hmb : 1 ≤ mk ⟨A, B, C, 0⟩ k ∧ mk ⟨A, B, C, 0⟩ k ≤ 60 := by
            have h9 := HMk.out
            match k, hk3 with
            | 0, _ => show 1 ≤ A ∧ A ≤ 60; omega
            | 1, _ => show 1 ≤ B ∧ B ≤ 60; omega
            | 2, _ => show 1 ≤ C ∧ C ≤ 60; omega
          have HUk := Lib.hid (HUp.out k hk3)
          have HDk := Lib.hid (HDn.out k hk3)
          obtain ⟨M, hM⟩ : ∃ M, M = mk ⟨A, B, C, 0⟩ k := ⟨_, rfl⟩
          rw [← hM] at cm hmb HUk HDk
          have ht : M.tdiv 2 = M / 2 := Int.tdiv_eq_ediv_of_nonneg (by omega)
          have htw : IntKind.i64.wrap (M / 2) = M / 2 := IntWalk.i64_in _ (by omega)
          by_cases e1 : M ≤ n
          · have f1 := HUk.out e1
            have f2 : ¬ n ≤ M / 2 := by omega
            obtain ⟨M2, hM2⟩ : ∃ x, x = M / 2 := ⟨_, rfl⟩
            rw [← hM2] at ht htw f2
            clear hM hmb hk hM2
            go_wp2
            exact ⟨⟨k + 1, by have := HK.out; omega, by go_num⟩, by simp [intOf]; have := HK.out; omega⟩
          · by_cases e2 : n ≤ M / 2
            · have f2 := HDk.out e2
              by_cases e3 : n < A
              · obtain ⟨M2, hM2⟩ : ∃ x, x = M / 2 := ⟨_, rfl⟩
                rw [← hM2] at ht htw e2
                clear hM hmb hk hM2
                go_wp2
                exact ⟨⟨k + 1, by have := HK.out; omega, by go_num⟩, by simp [intOf]; have := HK.out; omega⟩
              · obtain ⟨M2, hM2⟩ : ∃ x, x = M / 2 := ⟨_, rfl⟩
                rw [← hM2] at ht htw e2
                clear hM hmb hk hM2
                go_wp2
                exact ⟨⟨k + 1, by have := HK.out; omega, by go_num⟩, by simp [intOf]; have := HK.out; omega⟩
            · obtain ⟨M2, hM2⟩ : ∃ x, x = M / 2 := ⟨_, rfl⟩
              rw [← hM2] at ht htw e2
              clear hM hmb hk hM2
              go_wp2
              exact ⟨⟨k + 1, by have := HK.out; omega, by go_num⟩, by simp [intOf]; have := HK.out; omega⟩
        · obtain rfl : k = 3 := by omega
          clear hk hk3
          by_cases e1 : len ≤ n
          · have f1 := HGr.out e1
            by_cases e2 : n ≤ len
            · have f2 := HFl.out e2
              go_wp2
              exact ⟨⟨i + 1, L, n, by have := HI.out; omega, by go_num, rfl, rfl, HM7.out, HLr.out, HX6.out⟩, by simp [intOf]; have := HI.out; omega⟩
            · go_wp2
              exact ⟨⟨i + 1, L, n, by have := HI.out; omega, by go_num, rfl, rfl, HM7.out, HLr.out, HX6.out⟩, by simp [intOf]; have := HI.out; omega⟩
          · have e2 : n ≤ len := by omega
            have f2 := HFl.out e2
            go_wp2
            exact ⟨⟨i + 1, L, n, by have := HI.out; omega, by go_num, rfl, rfl, HM7.out, HLr.out, HX6.out⟩, by simp [intOf]; have := HI.out; omega⟩
    · obtain rfl : i = N := by omega
      have HXf := Lib.hid (HX4.out.trans (hx.below HX4.out.size (fun j _ hj => by have := HNe.out; omega)))
      clear hm hx hin hi
      go_wp2_with fail
      refine (lives_any _).mono ?_
      rintro e wz ⟨rfl, hb⟩
      have HBz := Lib.hid (HXf.out.trans (hb.mono HXf.out.size))
      clear hb
      go_wp2
      go_ret
      exact ⟨rfl, HBz.out⟩
end Go.Proofs.Ytahkmadapojjkaa
