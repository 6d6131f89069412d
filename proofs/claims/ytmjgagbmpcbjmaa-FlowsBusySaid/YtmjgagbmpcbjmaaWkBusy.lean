/- Statements of layer 10: FlowsBusy. -/
import Derived.Test.YtmjgagbmpcbjmaaFlOne
import Derived.Deep.RegionHeld3
import Derived.Deep.CutBlock
namespace Go.Proofs.Ytmjgagbmpcbjmaa
open Go.RowKit

/-- Congested for k ticks. -/
def Fl.cg (t : Tm) (k : Nat) : Fl := ⟨t, true, k % t.again, false, false, 0, 0, false⟩
/-- Not congested (any more). -/
def Fl.un (t : Tm) (s : Nat) : Fl := ⟨t, false, s, false, false, 0, 0, false⟩
theorem cg_tick (t : Tm) (k : Nat) : (Fl.cg t k).tick = Fl.cg t (k + 1) := by
  have : (k % t.again + 1) % t.again = (k + 1) % t.again := by rw [Nat.add_mod]; simp
  simp [Fl.cg, Fl.tick, this]
theorem un_tick (t : Tm) (s : Nat) : (Fl.un t s).tick = Fl.un t s := by simp [Fl.un, Fl.tick]
theorem un_cg (t : Tm) (s : Nat) : (Fl.un t s).congest true = Fl.cg t 0 := by simp [Fl.un, Fl.cg, Fl.congest]
theorem cg_cg (t : Tm) (k : Nat) : (Fl.cg t k).congest true = Fl.cg t k := by simp [Fl.cg, Fl.congest]
theorem cg_un (t : Tm) (k : Nat) : (Fl.cg t k).congest false = Fl.un t (k % t.again) := by simp [Fl.un, Fl.cg, Fl.congest]
theorem cg_stat (t : Tm) (k : Nat) : (Fl.cg t k).stat = if k % t.again = 0 then 5 else 9 := by
  by_cases h : k % t.again = 0
  · simp [Fl.cg, Fl.stat, h]
  · simp [Fl.cg, Fl.stat, h]
/-- Where the next Congest leads. -/
def Fl.Next (t : Tm) (k : Nat) (x : Fl) : Prop := x.congest true = Fl.cg t k ∧ x.code = 0
theorem Fl.Next.un (t : Tm) (s : Nat) : Fl.Next t 0 (Fl.un t s) := ⟨un_cg t s, rfl⟩
theorem Fl.Next.cg (t : Tm) (k : Nat) : Fl.Next t k (Fl.cg t k) := ⟨cg_cg t k, rfl⟩
theorem congest_next {w0 w : World} {b k : Nat} {t : Tm} {x : Fl} (h : One w0 w b x) (hn : Fl.Next t k x) :
    Calls Try.prog 19 #[.pointer (some ⟨b, 0, none⟩), .bool true] w fun e w' => e = .returned (.int .i64 0) ∧ One w0 w' b (Fl.cg t k) := by
  have := congest_one h true
  rw [hn.1, hn.2] at this
  exact this
theorem tick_cg {w0 w : World} {b k : Nat} {t : Tm} (h : One w0 w b (Fl.cg t k)) :
    Calls Try.prog 23 #[.pointer (some ⟨b, 0, none⟩)] w fun e w' => e = .returned (.int .i64 0) ∧ One w0 w' b (Fl.cg t (k + 1)) := by
  have := tick_one h
  rw [cg_tick] at this
  exact this
theorem tick_un {w0 w : World} {b s : Nat} {t : Tm} (h : One w0 w b (Fl.un t s)) :
    Calls Try.prog 23 #[.pointer (some ⟨b, 0, none⟩)] w fun e w' => e = .returned (.int .i64 0) ∧ One w0 w' b (Fl.un t s) := by
  have := tick_one h
  rw [un_tick] at this
  exact this
theorem congest_un {w0 w : World} {b k : Nat} {t : Tm} (h : One w0 w b (Fl.cg t k)) :
    Calls Try.prog 19 #[.pointer (some ⟨b, 0, none⟩), .bool false] w fun e w' => e = .returned (.int .i64 0) ∧ One w0 w' b (Fl.un t (k % t.again)) := by
  have := congest_one h false
  rw [cg_un] at this
  exact this
theorem sends_un {w0 w : World} {b s : Nat} {t : Tm} (h : One w0 w b (Fl.un t s)) :
    Calls Try.prog 16 #[.pointer (some ⟨b, 0, none⟩)] w fun e w' => e = .returned (.int .u8 9) ∧ w' = w := lsends_one h
theorem failed_un {w0 w : World} {b s : Nat} {t : Tm} (h : One w0 w b (Fl.un t s)) :
    Calls Try.prog 18 #[.pointer (some ⟨b, 0, none⟩)] w fun e w' => e = .returned (.bool false) ∧ w' = w := failed_one h
theorem sends_cg {w0 w : World} {b k T : Nat} {t : Tm} (hT : (Fl.cg t k).stat = T) (h : One w0 w b (Fl.cg t k)) :
    Calls Try.prog 16 #[.pointer (some ⟨b, 0, none⟩)] w fun e w' => e = .returned (.int .u8 (T : Int)) ∧ w' = w := by
  rw [← hT]; exact lsends_one h
set_option maxHeartbeats 4000000 in
set_option maxRecDepth 100000 in
theorem busy_any (a0 a1 a2 : Nat) (f p : Nat) (w : World) (h0 : a0 ≤ 255) (h1 : a1 ≤ 255) (h2 : a2 ≤ 255) :
    Calls Try.prog 6 #[.agg #[.int .u8 (a0 : Int), .int .u8 (a1 : Int), .int .u8 (a2 : Int)], .int .u8 (f : Int), .int .u8 (p : Int)] w fun e w' => e = .returned (.bool true) ∧ Below w.heap.size w w' := by
  obtain ⟨W, hW⟩ : ∃ X, X = w.alloc (.cells #[.int .u8 (a0 : Int), .int .u8 (a1 : Int), .int .u8 (a2 : Int)] 23) := ⟨_, rfl⟩
  have hbW : Below w.heap.size w W := by rw [hW]; exact below_alloc _ _
  have oW : Own W w.heap.size 23 [.int .u8 (a0 : Int), .int .u8 (a1 : Int), .int .u8 (a2 : Int)] := by rw [hW]; exact Blk.fresh w _ _ _ rfl
  have c0 := oW.cell 0 (by simp)
  have c1 := oW.cell 1 (by simp)
  have c2 := oW.cell 2 (by simp)
  simp only [List.getD_cons_succ, List.getD_cons_zero] at c0 c1 c2
  obtain ⟨t, ht⟩ : ∃ t, t = tmOf a0 a1 a2 := ⟨_, rfl⟩
  have hlo : t.Low := by rw [ht]; exact tmOf_low ..
  have HOf := Lib.hid (fun W' => of_any a0 a1 a2 W' h0 h1 h2 t ht)
  have HW := Lib.hid hW
  have HO := Lib.hid oW
  have HB := Lib.hid hbW
  have HLo := Lib.hid hlo
  have HLv := Lib.hid lives_any
  clear hW hbW oW ht hlo h0 h1 h2
  obtain ⟨N1, hN1⟩ : ∃ N, N = 1 + f % 60 := ⟨_, rfl⟩
  have hwf : IntKind.i64.wrap (1 + (f : Int) % 60) = (N1 : Int) := by rw [IntWalk.i64_in _ (by omega), hN1]; omega
  have hf0 : (0 : Int) ≤ (f : Int) % 60 := by omega
  have hp0 : (0 : Int) ≤ (p : Int) % 30 := by omega
  obtain ⟨PN, hPN⟩ : ∃ N, N = p % 30 := ⟨_, rfl⟩
  have hpp : (p : Int) % 30 = (PN : Int) := by omega
  have HN := Lib.hid (show 1 ≤ N1 ∧ N1 ≤ 60 ∧ PN ≤ 29 by omega)
  clear hN1 hPN
  go_enter Try.func6, Try.ntmps6
  go_upto_region 1 with fail
  rw [← HW.out]
  go_wp2_with fail
  with_reducible refine (HOf.out _).mono ?_
  rintro e w2 ⟨rfl, hb2⟩
  have HB2 := Lib.hid (HB.out.trans (Below.mono hb2 HB.out.size))
  clear hb2 HOf HO HB c0 c1 c2
  obtain ⟨W3, hW3⟩ : ∃ X, X = w2.alloc (.cells #[.int .i64 (t.again : Int), .int .i64 (t.most : Int), .int .i64 (t.wait : Int)] 31) := ⟨_, rfl⟩
  obtain ⟨g, hg⟩ : ∃ g, g = w2.heap.size := ⟨_, rfl⟩
  have o3 : Own W3 g 31 [.int .i64 (t.again : Int), .int .i64 (t.most : Int), .int .i64 (t.wait : Int)] := by rw [hW3, hg]; exact Blk.fresh w2 _ _ _ rfl
  have hb3 : Below w.heap.size w W3 := by rw [hW3]; exact HB2.out.alloc HB2.out.size _
  have c0 := o3.cell 0 (by simp)
  have c1 := o3.cell 1 (by simp)
  have c2 := o3.cell 2 (by simp)
  simp only [List.getD_cons_succ, List.getD_cons_zero] at c0 c1 c2
  have HW3 := Lib.hid hW3
  have Hg := Lib.hid hg
  have HO3 := Lib.hid o3
  have HB3 := Lib.hid hb3
  clear hW3 hg o3 hb3 HB2
  go_upto_region 2 with fail
  rw [← Hg.out, ← HW3.out]
  clear HW3 Hg HW
  go_wp2_with fail
  with_reducible refine (new_one t HLo.out.fit (Below.refl W3.heap.size W3)).mono ?_
  rintro e w5 ⟨b, rfl, _, h5, _⟩
  have H5 := Lib.hid h5
  clear h5 c0 c1 c2
  go_wp2_with fail
  go_loopw [10] (fun v wr => ∃ r : Nat, r ≤ 2 ∧ v = .int .i64 r ∧ ∃ s, One W3 wr b (Fl.un t s)) (fun v _ => 2 - (intOf v).toNat)
  case atStart => exact ⟨0, Nat.zero_le _, rfl, 0, H5.out⟩
  case round =>
    obtain ⟨r, hr, rfl, s, hx⟩ := hrel
    have HX := Lib.hid hx
    clear hx H5
    have hrr : r = 0 ∨ r = 1 ∨ r = 2 := by omega
    clear hr
    rcases hrr with rfl | rfl | rfl
    ·
      go_wp2_with fail
      simp only [show ((0 : Nat) : Int) = 0 from rfl]
      go_loopw [12] (fun v wr => ∃ k : Nat, k ≤ N1 ∧ v = .int .i64 k ∧ ∃ x, One W3 wr b x ∧ Fl.Next t k x ∧ (k = N1 → x = Fl.cg t N1)) (fun v _ => N1 - (intOf v).toNat)
      case atStart => exact ⟨0, Nat.zero_le _, rfl, Fl.un t s, HX.out, Fl.Next.un t s, fun e => by have := HN.out; omega⟩
      case round =>
        obtain ⟨k, hk, rfl, x, hx, hnx, hend⟩ := hrel
        have HY := Lib.hid (And.intro hx (And.intro hnx hend))
        clear hx hnx hend HX
        by_cases hlt : k < N1
        · have hki : (k : Int) < (N1 : Int) := by omega
          have k0 : (0 : Int) ≤ (k : Int) := by omega
          have hw1 : IntKind.i64.wrap ((k : Int) + 1) = ((k + 1 : Nat) : Int) := by have := HN.out; rw [IntWalk.i64_in _ (by omega)]; omega
          obtain ⟨K, hK⟩ : ∃ K, K = k + 1 := ⟨_, rfl⟩
          rw [← hK] at hw1
          obtain ⟨A, hA⟩ : ∃ A, A = t.again := ⟨_, rfl⟩
          have hcell := HY.out.1.cell HO3.out 0 (by simp)
          simp only [List.getD_cons_zero] at hcell
          rw [← hA] at hcell
          have e5a : ¬ ((A : Int) = 0) := by have := HLo.out.a; omega
          have e5b : ((A : Int) == 0) = false := by have := HLo.out.a; simp; omega
          have e5c : ¬ (A = 0) := by have := HLo.out.a; omega
          have e5d : (A == 0) = false := by have := HLo.out.a; simp; omega
          obtain ⟨R, hR⟩ : ∃ R, R = k % A := ⟨_, rfl⟩
          have e6 : (k : Int).tmod (A : Int) = (R : Int) := by rw [Int.tmod_eq_emod_of_nonneg (by omega), hR]; push_cast; rfl
          have hcg := congest_next (show One W3 wr.drew b x from HY.out.1.drew 1) HY.out.2.1
          have hS := fun W x (h : One W3 W b x) => (show W.cell? ⟨g, 0, none⟩ = some (.int .i64 (A : Int)) by rw [hA]; exact h.cell HO3.out 0 (by simp))
          have HS := Lib.hid hS
          have HCg := Lib.hid hcg
          have HTk := Lib.hid (fun W (h : One W3 W b (Fl.cg t k)) => tick_cg h)
          have hstat := cg_stat t k
          rw [← hA, ← hR] at hstat
          have HK := Lib.hid (And.intro hK hlt)
          clear hK hlt hk hS hcg hA hR
          by_cases hz : R = 0
          · subst hz
            rw [if_pos rfl] at hstat
            have HSd := Lib.hid (fun W (h : One W3 W b (Fl.cg t k)) => sends_cg hstat h)
            clear hstat
            go_upto_region 14 with fail
            first
              | go_region_held3 (fun W => W.cell? ⟨g, 0, none⟩ = some (.int .i64 (A : Int))) (first | assumption | exact HS.out _ _ (by assumption) | go_keep)
                  (first
                    | (go_at_call 19; ((with_reducible refine HCg.out.mono ?_); rintro e w11 ⟨rfl, h11⟩))
                    | (go_at_call 16; ((with_reducible refine (HSd.out _ (by assumption)).mono ?_); rintro e w12 ⟨rfl, rfl⟩))
                    | fail)
              | fail
            have H11 := Lib.hid h11
            clear h11 hcell e5a e5b e5c e5d e6 HCg HSd HS HY
            go_wp2_with fail
            with_reducible refine (HTk.out _ H11.out).mono ?_
            rintro e w13 ⟨rfl, h13⟩
            have H13 := Lib.hid h13
            clear h13 H11 HTk
            go_wp2_with fail
            obtain ⟨hK, hlt⟩ := HK.out
            subst hK
            exact ⟨⟨k + 1, by omega, by rfl, _, H13.out, Fl.Next.cg t (k + 1), fun e => by rw [e]⟩, by simp only [intOf]; omega⟩
          · have hz2 : ¬ (R : Int) = 0 := by omega
            have hz3 : ((R : Int) == 0) = false := by simp; omega
            rw [if_neg hz] at hstat
            have HSd := Lib.hid (fun W (h : One W3 W b (Fl.cg t k)) => sends_cg hstat h)
            clear hstat hz
            go_upto_region 14 with fail
            first
              | go_region_held3 (fun W => W.cell? ⟨g, 0, none⟩ = some (.int .i64 (A : Int))) (first | assumption | exact HS.out _ _ (by assumption) | go_keep)
                  (first
                    | (go_at_call 19; ((with_reducible refine HCg.out.mono ?_); rintro e w11 ⟨rfl, h11⟩))
                    | (go_at_call 16; ((with_reducible refine (HSd.out _ (by assumption)).mono ?_); rintro e w12 ⟨rfl, rfl⟩))
                    | fail)
              | fail
            have H11 := Lib.hid h11
            clear h11 hcell e5a e5b e5c e5d e6 HCg HSd HS HY
            go_wp2_with fail
            with_reducible refine (HTk.out _ H11.out).mono ?_
            rintro e w13 ⟨rfl, h13⟩
            have H13 := Lib.hid h13
            clear h13 H11 HTk
            go_wp2_with fail
            obtain ⟨hK, hlt⟩ := HK.out
            subst hK
            exact ⟨⟨k + 1, by omega, by rfl, _, H13.out, Fl.Next.cg t (k + 1), fun e => by rw [e]⟩, by simp only [intOf]; omega⟩
        · obtain rfl : k = N1 := by omega
          have hki : ¬ (k : Int) < (k : Int) := by omega
          have hx := HY.out.1
          rw [HY.out.2.2 rfl] at hx
          have HX2 := Lib.hid hx
          clear hlt hk hx
          go_wp2_with fail
          with_reducible refine (congest_un HX2.out).mono ?_
          rintro e w8 ⟨rfl, h8⟩
          have H8 := Lib.hid h8
          clear h8 HX2 HY
          go_wp2_with fail
          go_loopw [13] (fun v wr => ∃ j : Nat, j ≤ PN ∧ v = .int .i64 j ∧ One W3 wr b (Fl.un t (k % t.again))) (fun v _ => PN - (intOf v).toNat)
          case atStart => exact ⟨0, Nat.zero_le _, rfl, H8.out⟩
          case round =>
            obtain ⟨j, hj, rfl, hx⟩ := hrel
            have HX := Lib.hid hx
            clear hx H8
            by_cases hlj : j < PN
            · have hji : (j : Int) < (PN : Int) := by omega
              have j0 : (0 : Int) ≤ (j : Int) := by omega
              have hw1 : IntKind.i64.wrap ((j : Int) + 1) = ((j + 1 : Nat) : Int) := by have := HN.out; rw [IntWalk.i64_in _ (by omega)]; omega
              obtain ⟨K, hK⟩ : ∃ K, K = j + 1 := ⟨_, rfl⟩
              rw [← hK] at hw1
              have HK := Lib.hid (And.intro hK hlj)
              clear hK hlj hj
              go_wp2_with fail
              with_reducible refine (sends_un HX.out).mono ?_
              rintro e w' ⟨rfl, rfl⟩
              go_wp2_with fail
              with_reducible refine (tick_un HX.out).mono ?_
              rintro e w9 ⟨rfl, h9⟩
              have H9 := Lib.hid h9
              clear h9 HX
              go_wp2_with fail
              obtain ⟨hK, hlj⟩ := HK.out
              exact ⟨⟨K, by omega, by rfl, H9.out⟩, by simp only [intOf]; omega⟩
            · obtain rfl : j = PN := by omega
              have hji : ¬ (j : Int) < (j : Int) := by omega
              clear hlj hj
              go_wp2_with fail
              exact ⟨⟨1, by omega, by go_num, _, HX.out⟩, by simp [intOf]⟩
    ·
      go_wp2_with fail
      simp only [show ((1 : Nat) : Int) = 1 from rfl]
      go_loopw [12] (fun v wr => ∃ k : Nat, k ≤ 60 ∧ v = .int .i64 k ∧ ∃ x, One W3 wr b x ∧ Fl.Next t k x ∧ (k = 60 → x = Fl.cg t 60)) (fun v _ => 60 - (intOf v).toNat)
      case atStart => exact ⟨0, Nat.zero_le _, rfl, Fl.un t s, HX.out, Fl.Next.un t s, fun e => by have := HN.out; omega⟩
      case round =>
        obtain ⟨k, hk, rfl, x, hx, hnx, hend⟩ := hrel
        have HY := Lib.hid (And.intro hx (And.intro hnx hend))
        clear hx hnx hend HX
        by_cases hlt : k < 60
        · have hki : (k : Int) < 60 := by omega
          have k0 : (0 : Int) ≤ (k : Int) := by omega
          have hw1 : IntKind.i64.wrap ((k : Int) + 1) = ((k + 1 : Nat) : Int) := by have := HN.out; rw [IntWalk.i64_in _ (by omega)]; omega
          obtain ⟨K, hK⟩ : ∃ K, K = k + 1 := ⟨_, rfl⟩
          rw [← hK] at hw1
          obtain ⟨A, hA⟩ : ∃ A, A = t.again := ⟨_, rfl⟩
          have hcell := HY.out.1.cell HO3.out 0 (by simp)
          simp only [List.getD_cons_zero] at hcell
          rw [← hA] at hcell
          have e5a : ¬ ((A : Int) = 0) := by have := HLo.out.a; omega
          have e5b : ((A : Int) == 0) = false := by have := HLo.out.a; simp; omega
          have e5c : ¬ (A = 0) := by have := HLo.out.a; omega
          have e5d : (A == 0) = false := by have := HLo.out.a; simp; omega
          obtain ⟨R, hR⟩ : ∃ R, R = k % A := ⟨_, rfl⟩
          have e6 : (k : Int).tmod (A : Int) = (R : Int) := by rw [Int.tmod_eq_emod_of_nonneg (by omega), hR]; push_cast; rfl
          have hcg := congest_next (show One W3 wr.drew b x from HY.out.1.drew 1) HY.out.2.1
          have hS := fun W x (h : One W3 W b x) => (show W.cell? ⟨g, 0, none⟩ = some (.int .i64 (A : Int)) by rw [hA]; exact h.cell HO3.out 0 (by simp))
          have HS := Lib.hid hS
          have HCg := Lib.hid hcg
          have HTk := Lib.hid (fun W (h : One W3 W b (Fl.cg t k)) => tick_cg h)
          have hstat := cg_stat t k
          rw [← hA, ← hR] at hstat
          have HK := Lib.hid (And.intro hK hlt)
          clear hK hlt hk hS hcg hA hR
          by_cases hz : R = 0
          · subst hz
            rw [if_pos rfl] at hstat
            have HSd := Lib.hid (fun W (h : One W3 W b (Fl.cg t k)) => sends_cg hstat h)
            clear hstat
            go_upto_region 14 with fail
            first
              | go_region_held3 (fun W => W.cell? ⟨g, 0, none⟩ = some (.int .i64 (A : Int))) (first | assumption | exact HS.out _ _ (by assumption) | go_keep)
                  (first
                    | (go_at_call 19; ((with_reducible refine HCg.out.mono ?_); rintro e w11 ⟨rfl, h11⟩))
                    | (go_at_call 16; ((with_reducible refine (HSd.out _ (by assumption)).mono ?_); rintro e w12 ⟨rfl, rfl⟩))
                    | fail)
              | fail
            have H11 := Lib.hid h11
            clear h11 hcell e5a e5b e5c e5d e6 HCg HSd HS HY
            go_wp2_with fail
            with_reducible refine (HTk.out _ H11.out).mono ?_
            rintro e w13 ⟨rfl, h13⟩
            have H13 := Lib.hid h13
            clear h13 H11 HTk
            go_wp2_with fail
            obtain ⟨hK, hlt⟩ := HK.out
            subst hK
            exact ⟨⟨k + 1, by omega, by rfl, _, H13.out, Fl.Next.cg t (k + 1), fun e => by rw [e]⟩, by simp only [intOf]; omega⟩
          · have hz2 : ¬ (R : Int) = 0 := by omega
            have hz3 : ((R : Int) == 0) = false := by simp; omega
            rw [if_neg hz] at hstat
            have HSd := Lib.hid (fun W (h : One W3 W b (Fl.cg t k)) => sends_cg hstat h)
            clear hstat hz
            go_upto_region 14 with fail
            first
              | go_region_held3 (fun W => W.cell? ⟨g, 0, none⟩ = some (.int .i64 (A : Int))) (first | assumption | exact HS.out _ _ (by assumption) | go_keep)
                  (first
                    | (go_at_call 19; ((with_reducible refine HCg.out.mono ?_); rintro e w11 ⟨rfl, h11⟩))
                    | (go_at_call 16; ((with_reducible refine (HSd.out _ (by assumption)).mono ?_); rintro e w12 ⟨rfl, rfl⟩))
                    | fail)
              | fail
            have H11 := Lib.hid h11
            clear h11 hcell e5a e5b e5c e5d e6 HCg HSd HS HY
            go_wp2_with fail
            with_reducible refine (HTk.out _ H11.out).mono ?_
            rintro e w13 ⟨rfl, h13⟩
            have H13 := Lib.hid h13
            clear h13 H11 HTk
            go_wp2_with fail
            obtain ⟨hK, hlt⟩ := HK.out
            subst hK
            exact ⟨⟨k + 1, by omega, by rfl, _, H13.out, Fl.Next.cg t (k + 1), fun e => by rw [e]⟩, by simp only [intOf]; omega⟩
        · obtain rfl : k = 60 := by omega
          have hki : ¬ (60 : Int) < 60 := by omega
          have hx := HY.out.1
          rw [HY.out.2.2 rfl] at hx
          have HX2 := Lib.hid hx
          clear hlt hk hx
          go_wp2_with fail
          with_reducible refine (congest_un HX2.out).mono ?_
          rintro e w8 ⟨rfl, h8⟩
          have H8 := Lib.hid h8
          clear h8 HX2 HY
          go_wp2_with fail
          go_loopw [13] (fun v wr => ∃ j : Nat, j ≤ PN ∧ v = .int .i64 j ∧ One W3 wr b (Fl.un t (60 % t.again))) (fun v _ => PN - (intOf v).toNat)
          case atStart => exact ⟨0, Nat.zero_le _, rfl, H8.out⟩
          case round =>
            obtain ⟨j, hj, rfl, hx⟩ := hrel
            have HX := Lib.hid hx
            clear hx H8
            by_cases hlj : j < PN
            · have hji : (j : Int) < (PN : Int) := by omega
              have j0 : (0 : Int) ≤ (j : Int) := by omega
              have hw1 : IntKind.i64.wrap ((j : Int) + 1) = ((j + 1 : Nat) : Int) := by have := HN.out; rw [IntWalk.i64_in _ (by omega)]; omega
              obtain ⟨K, hK⟩ : ∃ K, K = j + 1 := ⟨_, rfl⟩
              rw [← hK] at hw1
              have HK := Lib.hid (And.intro hK hlj)
              clear hK hlj hj
              go_wp2_with fail
              with_reducible refine (sends_un HX.out).mono ?_
              rintro e w' ⟨rfl, rfl⟩
              go_wp2_with fail
              with_reducible refine (tick_un HX.out).mono ?_
              rintro e w9 ⟨rfl, h9⟩
              have H9 := Lib.hid h9
              clear h9 HX
              go_wp2_with fail
              obtain ⟨hK, hlj⟩ := HK.out
              exact ⟨⟨K, by omega, by rfl, H9.out⟩, by simp only [intOf]; omega⟩
            · obtain rfl : j = PN := by omega
              have hji : ¬ (j : Int) < (j : Int) := by omega
              clear hlj hj
              go_wp2_with fail
              exact ⟨⟨2, by omega, by go_num, _, HX.out⟩, by simp [intOf]⟩
    · go_wp2_with fail
      with_reducible refine (failed_un HX.out).mono ?_
      rintro e w' ⟨rfl, rfl⟩
      go_wp2_with fail
      with_reducible refine (HLv.out _).mono ?_
      rintro e w99 ⟨rfl, hb99⟩
      have HB99 := Lib.hid ((HB3.out.trans (Below.mono HX.out.bel HB3.out.size)).trans (Below.mono hb99 (HB3.out.trans (Below.mono HX.out.bel HB3.out.size)).size))
      clear hb99 HLv
      go_wp2
      go_ret
      exact ⟨rfl, HB99.out⟩
end Go.Proofs.Ytmjgagbmpcbjmaa
