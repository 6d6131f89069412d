/- Statements of layer 9: AlignmentsErrors. -/
import Derived.Test.YtgfiikbecapodaaAlNil
import Derived.Deep.CutBlock
namespace Go.Proofs.Ytgfiikbecapodaa
open Go.RowKit

theorem okArg_some {x : Int} (h : okArg x = true) : ∃ n : Nat, x = (n : Int) ∧ 1 ≤ n ∧ n ≤ 1048576 := by
  have := of_decide_eq_true h
  exact ⟨x.toNat, by omega, by omega, by omega⟩
theorem new_yes {w0 w : World} (t0 t1 t2 t3 t4 t5 t6 : Int) (h : [t0, t1, t2, t3, t4, t5, t6].all okArg = true) (hb : Below w0.heap.size w0 w) :
    Calls Try.prog 10 #[.agg #[.int .i64 t0, .int .i64 t1, .int .i64 t2, .int .i64 t3, .int .i64 t4, .int .i64 t5, .int .i64 t6]] w fun e w' => ∃ b x, e = .returned (.tuple #[.pointer (some ⟨b, 0, none⟩), .int .i64 0]) ∧ One w0 w' b x ∧ x.prov = 0 := by
  simp only [List.all_cons, List.all_nil, Bool.and_true, Bool.and_eq_true] at h
  obtain ⟨k0, k1, k2, k3, k4, k5, k6⟩ := h
  obtain ⟨n0, rfl, p0, q0⟩ := okArg_some k0
  obtain ⟨n1, rfl, p1, q1⟩ := okArg_some k1
  obtain ⟨n2, rfl, p2, q2⟩ := okArg_some k2
  obtain ⟨n3, rfl, p3, q3⟩ := okArg_some k3
  obtain ⟨n4, rfl, p4, q4⟩ := okArg_some k4
  obtain ⟨n5, rfl, p5, q5⟩ := okArg_some k5
  obtain ⟨n6, rfl, p6, q6⟩ := okArg_some k6
  refine (new_lit ⟨n0, n1, n2, n3, n4, n5, n6⟩ (by constructor <;> assumption) hb).mono ?_
  rintro e w' ⟨b, rfl, _, h1, _⟩
  exact ⟨b, _, rfl, h1, rfl⟩
theorem new_no (t0 t1 t2 t3 t4 t5 t6 : Int) (w : World) (h : [t0, t1, t2, t3, t4, t5, t6].all okArg = false) :
    Calls Try.prog 10 #[.agg #[.int .i64 t0, .int .i64 t1, .int .i64 t2, .int .i64 t3, .int .i64 t4, .int .i64 t5, .int .i64 t6]] w fun e w' => e = .returned (.tuple #[.pointer none, .int .i64 1]) ∧ Below w.heap.size w w' := by
  refine (new_any t0 t1 t2 t3 t4 t5 t6 w).mono ?_
  rintro e w' ⟨h1, h2⟩
  rw [if_neg (by rw [h]; decide)] at h2
  exact ⟨h2, h1⟩
/-- What the law wants behind k rounds. -/
def wantOf (l : List Int) (k : Nat) : Int := if (l.take k).all okArg = true then 0 else 1
theorem wantOf_ok {l : List Int} {k : Nat} (hk : k < l.length) (h : okArg (l.getD k 0) = true) : wantOf l (k + 1) = wantOf l k := by
  unfold wantOf
  rw [List.take_succ_eq_append_getElem hk, List.all_append]
  have e : l.getD k 0 = l[k] := by simp [List.getD_eq_getElem?_getD, hk]
  rw [e] at h
  simp [h]
theorem wantOf_no {l : List Int} {k : Nat} (hk : k < l.length) (h : okArg (l.getD k 0) = false) : wantOf l (k + 1) = 1 := by
  unfold wantOf
  rw [List.take_succ_eq_append_getElem hk, List.all_append]
  have e : l.getD k 0 = l[k] := by simp [List.getD_eq_getElem?_getD, hk]
  rw [e] at h
  simp [h]
set_option maxHeartbeats 4000000 in
set_option maxRecDepth 100000 in
theorem errors_any (t0 t1 t2 t3 t4 t5 t6 : Int) (s : Nat) (w : World) (f0 : (Lit.int .i64 t0).wf = true) (f1 : (Lit.int .i64 t1).wf = true) (f2 : (Lit.int .i64 t2).wf = true) (f3 : (Lit.int .i64 t3).wf = true) (f4 : (Lit.int .i64 t4).wf = true) (f5 : (Lit.int .i64 t5).wf = true) (f6 : (Lit.int .i64 t6).wf = true) (hs : s ≤ 255) :
    Calls Try.prog 8 #[.agg #[.int .i64 t0, .int .i64 t1, .int .i64 t2, .int .i64 t3, .int .i64 t4, .int .i64 t5, .int .i64 t6], .int .u8 (s : Int)] w fun e w' => e = .returned (.bool true) ∧ Below w.heap.size w w' := by
  obtain ⟨W, hW⟩ : ∃ X, X = w.alloc (.cells #[.int .i64 t0, .int .i64 t1, .int .i64 t2, .int .i64 t3, .int .i64 t4, .int .i64 t5, .int .i64 t6] 31) := ⟨_, rfl⟩
  have hbW : Below w.heap.size w W := by rw [hW]; exact below_alloc _ _
  have oW : Own W w.heap.size 31 [.int .i64 t0, .int .i64 t1, .int .i64 t2, .int .i64 t3, .int .i64 t4, .int .i64 t5, .int .i64 t6] := by rw [hW]; exact own_new w _ _ _ rfl
  have c0 := oW.cell 0 (by simp)
  have c1 := oW.cell 1 (by simp)
  have c2 := oW.cell 2 (by simp)
  have c3 := oW.cell 3 (by simp)
  have c4 := oW.cell 4 (by simp)
  have c5 := oW.cell 5 (by simp)
  have c6 := oW.cell 6 (by simp)
  simp only [List.getD_cons_succ, List.getD_cons_zero] at c0 c1 c2 c3 c4 c5 c6
  have hrow := row_args W [t0, t1, t2, t3, t4, t5, t6] 7 rfl (by omega) (fun x hx => by
    simp only [List.mem_cons, List.not_mem_nil, or_false] at hx
    rcases hx with rfl | rfl | rfl | rfl | rfl | rfl | rfl
    all_goals assumption)
  obtain ⟨W1, hW1⟩ : ∃ X, X = W.alloc (.cells (nums .i64 [t0, t1, t2, t3, t4, t5, t6]).toArray 3) := ⟨_, rfl⟩
  rw [← hW1] at hrow
  have hb1 : Below w.heap.size w W1 := by rw [hW1]; exact hbW.alloc hbW.size _
  have o1 : Own W1 w.heap.size 31 [.int .i64 t0, .int .i64 t1, .int .i64 t2, .int .i64 t3, .int .i64 t4, .int .i64 t5, .int .i64 t6] := by rw [hW1]; exact oW.below (below_alloc W _) oW.lt
  have d0 := o1.cell 0 (by simp)
  have d1 := o1.cell 1 (by simp)
  have d2 := o1.cell 2 (by simp)
  have d3 := o1.cell 3 (by simp)
  have d4 := o1.cell 4 (by simp)
  have d5 := o1.cell 5 (by simp)
  have d6 := o1.cell 6 (by simp)
  simp only [List.getD_cons_succ, List.getD_cons_zero] at d0 d1 d2 d3 d4 d5 d6
  obtain ⟨l, hl⟩ : ∃ l : List Int, l = [t0, t1, t2, t3, t4, t5, t6] := ⟨_, rfl⟩
  have hlen : l.length = 7 := by rw [hl]; rfl
  obtain ⟨B, hB⟩ : ∃ B, B = W.heap.size := ⟨_, rfl⟩
  rw [← hl, ← hB] at hrow
  have hW1' : W1 = W.alloc (.cells #[.int .i64 t0, .int .i64 t1, .int .i64 t2, .int .i64 t3, .int .i64 t4, .int .i64 t5, .int .i64 t6] 3) := hW1
  have HW := Lib.hid hW
  have HW1 := Lib.hid hW1'
  have HB1 := Lib.hid hb1
  have HR := Lib.hid hrow
  have HL := Lib.hid (And.intro hl hlen)
  have HLv := Lib.hid lives_any
  clear hW hbW oW hW1 hW1' hb1 o1 hrow hl hlen f0 f1 f2 f3 f4 f5 f6
  go_enter Try.func8, Try.ntmps8
  go_upto_region 1 with fail
  rw [← HW.out]
  go_upto_region 2 with fail
  rw [← HW1.out, ← hB]
  clear hB
  go_wp2_with fail
  go_loopw [6, 7] (fun v6 v7 wr => ∃ k : Nat, k ≤ 7 ∧ v7 = .int .i64 k ∧ v6 = .int .i64 (wantOf l k) ∧ wr = W1) (fun _ v _ => 7 - (intOf v).toNat)
  case atStart => exact ⟨0, Nat.zero_le _, rfl, rfl, rfl⟩
  case round =>
    obtain ⟨k, hk, rfl, rfl, rfl⟩ := hrel
    by_cases hlt : k < 7
    · have hki : (k : Int) < 7 := by omega
      have k0 : (0 : Int) ≤ (k : Int) := by omega
      obtain ⟨v, hv⟩ : ∃ v, v = l.getD k 0 := ⟨_, rfl⟩
      have hcell : wr.cell? ⟨B, k, none⟩ = some (.int .i64 v) := by
        rcases HR.out.cells with h0 | ⟨sb, so, hso, hcc⟩
        · omega
        · simp only [Option.some.injEq, Addr.mk.injEq, and_true] at hso
          obtain ⟨rfl, rfl⟩ := hso
          have := hcc k hlt
          rw [Nat.zero_add] at this
          rw [hv]; exact this
      have hkl : k < l.length := by have := HL.out.2; omega
      obtain ⟨K, hK⟩ : ∃ K, K = k + 1 := ⟨_, rfl⟩
      have hwk : IntKind.i64.wrap ((k : Int) + 1) = (K : Int) := by rw [IntWalk.i64_in _ (by omega)]; omega
      have HK := Lib.hid (And.intro hK hlt)
      by_cases h1 : 1 ≤ v
      · by_cases h2 : v ≤ 1048576
        · have HQ := Lib.hid (show wantOf l K = wantOf l k by rw [hK]; exact wantOf_ok hkl (by rw [← hv]; exact decide_eq_true ⟨h1, h2⟩))
          obtain ⟨X, hX⟩ : ∃ X, X = wantOf l k := ⟨_, rfl⟩
          rw [← hX] at HQ ⊢
          clear hv hkl hK hlt hk hX
          go_wp2_with fail
          exact ⟨⟨K, by have := HK.out; omega, by rfl, by rw [HQ.out], trivial⟩, by simp only [intOf]; have := HK.out; omega⟩
        · have HQ := Lib.hid (show wantOf l K = 1 by rw [hK]; exact wantOf_no hkl (by rw [← hv]; exact decide_eq_false (fun h => h2 h.2)))
          obtain ⟨X, hX⟩ : ∃ X, X = wantOf l k := ⟨_, rfl⟩
          rw [← hX]
          clear hv hkl hK hlt hk hX
          go_wp2_with fail
          exact ⟨⟨K, by have := HK.out; omega, by rfl, by rw [HQ.out], trivial⟩, by simp only [intOf]; have := HK.out; omega⟩
      · have HQ := Lib.hid (show wantOf l K = 1 by rw [hK]; exact wantOf_no hkl (by rw [← hv]; exact decide_eq_false (fun h => h1 h.1)))
        obtain ⟨X, hX⟩ : ∃ X, X = wantOf l k := ⟨_, rfl⟩
        rw [← hX]
        clear hv hkl hK hlt hk hX
        go_wp2_with fail
        exact ⟨⟨K, by have := HK.out; omega, by rfl, by rw [HQ.out], trivial⟩, by simp only [intOf]; have := HK.out; omega⟩
    · obtain rfl : k = 7 := by omega
      have ew : wantOf l 7 = if l.all okArg = true then 0 else 1 := by unfold wantOf; rw [show l.take 7 = l by rw [← HL.out.2, List.take_length]]
      rw [ew]
      clear ew hk hlt HR
      cases hA : l.all okArg
      · rw [if_neg (by decide)]
        have HC := Lib.hid (new_no t0 t1 t2 t3 t4 t5 t6 wr (by rw [← HL.out.1]; exact hA))
        clear hA
        by_cases g5 : 5 < s
        · have g6 : (5 : Int) < (s : Int) := by omega
          clear g5 hs
          go_wp2_with fail
          with_reducible refine HC.out.mono ?_
          rintro e w2 ⟨rfl, hb2⟩
          have HB2 := Lib.hid (HB1.out.trans (Below.mono hb2 HB1.out.size))
          clear hb2 HC c0 c1 c2 c3 c4 c5 c6 d0 d1 d2 d3 d4 d5 d6
          obtain ⟨W3, hW3⟩ : ∃ X, X = w2.alloc (.cells #[.int .i64 0, .int .i64 0, .int .i64 0, .int .i64 0, .int .i64 0, .int .i64 0, .int .i64 0, .int .u8 0, .int .i64 0, .bool false, .bool false, .int .i64 0, .nilIface] 58) := ⟨_, rfl⟩
          obtain ⟨b3, hb3⟩ : ∃ b, b = w2.heap.size := ⟨_, rfl⟩
          have hz3 : NoneAt W3 (.pointer (some ⟨b3, 0, none⟩)) := .inr ⟨b3, rfl, by rw [hW3, hb3]; exact own_new w2 _ _ _ rfl⟩
          have hbl3 : Below w.heap.size w W3 := by rw [hW3]; exact HB2.out.alloc HB2.out.size _
          have HW3 := Lib.hid hW3
          have HZ := Lib.hid hz3
          have HN := Lib.hid (show NoneAt W3 (.pointer none) from .inl rfl)
          have HB3 := Lib.hid hbl3
          clear hW3 hz3 hbl3
          go_upto_region 18 with fail
          rw [← HW3.out, ← hb3]
          clear hb3 HW3 HB2
          go_wp2_with fail
          go_loopw [13] (fun v wr => ∃ k : Nat, k ≤ 12 ∧ v = .int .u8 k ∧ wr = W3) (fun v _ => 12 - (intOf v).toNat)
          case atStart => exact ⟨0, Nat.zero_le _, rfl, rfl⟩
          case round =>
            obtain ⟨k, hk, rfl, rfl⟩ := hrel
            by_cases hlt : k < 12
            · have hki : (k : Int) < 12 := by omega
              obtain ⟨K, hK⟩ : ∃ K, K = k + 1 := ⟨_, rfl⟩
              have hwk : IntKind.u8.wrap ((k : Int) + 1) = (K : Int) := by rw [IntWalk.u8_in _ (by omega)]; omega
              have HP1 := Lib.hid (perform_none (.pointer none) k wr HN.out hlt)
              have HP2 := Lib.hid (perform_none (.pointer (some ⟨b3, 0, none⟩)) k wr HZ.out hlt)
              have HK := Lib.hid (And.intro hK hlt)
              clear hK hlt hk
              go_wp2_with fail
              with_reducible refine HP1.out.mono ?_
              rintro e w' ⟨rfl, rfl⟩
              go_wp2_with fail
              with_reducible refine HP2.out.mono ?_
              rintro e w' ⟨rfl, rfl⟩
              go_wp2_with fail
              exact ⟨⟨K, by have := HK.out; omega, by rfl, trivial⟩, by simp only [intOf]; have := HK.out; omega⟩
            · obtain rfl : k = 12 := by omega
              clear hlt hk
              have HC1 := Lib.hid (phase_none (.pointer none) wr HN.out)
              have HC2 := Lib.hid (phase_none (.pointer (some ⟨b3, 0, none⟩)) wr HZ.out)
              have HC3 := Lib.hid (status_none (.pointer none) wr HN.out)
              have HC4 := Lib.hid (status_none (.pointer (some ⟨b3, 0, none⟩)) wr HZ.out)
              have HC5 := Lib.hid (provings_none (.pointer none) wr HN.out)
              have HC6 := Lib.hid (provings_none (.pointer (some ⟨b3, 0, none⟩)) wr HZ.out)
              have HC7 := Lib.hid (left_none (.pointer none) wr HN.out)
              have HC8 := Lib.hid (left_none (.pointer (some ⟨b3, 0, none⟩)) wr HZ.out)
              go_wp2_with fail
              with_reducible refine HC1.out.mono ?_
              rintro e w' ⟨rfl, rfl⟩
              go_wp2_with fail
              with_reducible refine HC2.out.mono ?_
              rintro e w' ⟨rfl, rfl⟩
              go_wp2_with fail
              with_reducible refine HC3.out.mono ?_
              rintro e w' ⟨rfl, rfl⟩
              go_wp2_with fail
              with_reducible refine HC4.out.mono ?_
              rintro e w' ⟨rfl, rfl⟩
              go_wp2_with fail
              with_reducible refine HC5.out.mono ?_
              rintro e w' ⟨rfl, rfl⟩
              go_wp2_with fail
              with_reducible refine HC6.out.mono ?_
              rintro e w' ⟨rfl, rfl⟩
              go_wp2_with fail
              with_reducible refine HC7.out.mono ?_
              rintro e w' ⟨rfl, rfl⟩
              go_wp2_with fail
              with_reducible refine HC8.out.mono ?_
              rintro e w' ⟨rfl, rfl⟩
              go_wp2_with fail
              with_reducible refine (HLv.out _).mono ?_
              rintro e w10 ⟨rfl, hb10⟩
              have HB10 := Lib.hid (HB3.out.trans (Below.mono hb10 HB3.out.size))
              clear hb10 HLv HC1 HC2 HC3 HC4 HC5 HC6 HC7 HC8
              go_wp2
              go_ret
              exact ⟨rfl, HB10.out⟩
        · have g6 : ¬ (5 : Int) < (s : Int) := by omega
          clear g5 hs
          go_wp2_with fail
          with_reducible refine HC.out.mono ?_
          rintro e w2 ⟨rfl, hb2⟩
          have HB2 := Lib.hid (HB1.out.trans (Below.mono hb2 HB1.out.size))
          clear hb2 HC c0 c1 c2 c3 c4 c5 c6 d0 d1 d2 d3 d4 d5 d6
          obtain ⟨W3, hW3⟩ : ∃ X, X = w2.alloc (.cells #[.int .i64 0, .int .i64 0, .int .i64 0, .int .i64 0, .int .i64 0, .int .i64 0, .int .i64 0, .int .u8 0, .int .i64 0, .bool false, .bool false, .int .i64 0, .nilIface] 58) := ⟨_, rfl⟩
          obtain ⟨b3, hb3⟩ : ∃ b, b = w2.heap.size := ⟨_, rfl⟩
          have hz3 : NoneAt W3 (.pointer (some ⟨b3, 0, none⟩)) := .inr ⟨b3, rfl, by rw [hW3, hb3]; exact own_new w2 _ _ _ rfl⟩
          have hbl3 : Below w.heap.size w W3 := by rw [hW3]; exact HB2.out.alloc HB2.out.size _
          have HW3 := Lib.hid hW3
          have HZ := Lib.hid hz3
          have HN := Lib.hid (show NoneAt W3 (.pointer none) from .inl rfl)
          have HB3 := Lib.hid hbl3
          clear hW3 hz3 hbl3
          go_upto_region 18 with fail
          rw [← HW3.out, ← hb3]
          clear hb3 HW3 HB2
          go_wp2_with fail
          go_loopw [13] (fun v wr => ∃ k : Nat, k ≤ 12 ∧ v = .int .u8 k ∧ wr = W3) (fun v _ => 12 - (intOf v).toNat)
          case atStart => exact ⟨0, Nat.zero_le _, rfl, rfl⟩
          case round =>
            obtain ⟨k, hk, rfl, rfl⟩ := hrel
            by_cases hlt : k < 12
            · have hki : (k : Int) < 12 := by omega
              obtain ⟨K, hK⟩ : ∃ K, K = k + 1 := ⟨_, rfl⟩
              have hwk : IntKind.u8.wrap ((k : Int) + 1) = (K : Int) := by rw [IntWalk.u8_in _ (by omega)]; omega
              have HP1 := Lib.hid (perform_none (.pointer none) k wr HN.out hlt)
              have HP2 := Lib.hid (perform_none (.pointer (some ⟨b3, 0, none⟩)) k wr HZ.out hlt)
              have HK := Lib.hid (And.intro hK hlt)
              clear hK hlt hk
              go_wp2_with fail
              with_reducible refine HP1.out.mono ?_
              rintro e w' ⟨rfl, rfl⟩
              go_wp2_with fail
              with_reducible refine HP2.out.mono ?_
              rintro e w' ⟨rfl, rfl⟩
              go_wp2_with fail
              exact ⟨⟨K, by have := HK.out; omega, by rfl, trivial⟩, by simp only [intOf]; have := HK.out; omega⟩
            · obtain rfl : k = 12 := by omega
              clear hlt hk
              have HC1 := Lib.hid (phase_none (.pointer none) wr HN.out)
              have HC2 := Lib.hid (phase_none (.pointer (some ⟨b3, 0, none⟩)) wr HZ.out)
              have HC3 := Lib.hid (status_none (.pointer none) wr HN.out)
              have HC4 := Lib.hid (status_none (.pointer (some ⟨b3, 0, none⟩)) wr HZ.out)
              have HC5 := Lib.hid (provings_none (.pointer none) wr HN.out)
              have HC6 := Lib.hid (provings_none (.pointer (some ⟨b3, 0, none⟩)) wr HZ.out)
              have HC7 := Lib.hid (left_none (.pointer none) wr HN.out)
              have HC8 := Lib.hid (left_none (.pointer (some ⟨b3, 0, none⟩)) wr HZ.out)
              go_wp2_with fail
              with_reducible refine HC1.out.mono ?_
              rintro e w' ⟨rfl, rfl⟩
              go_wp2_with fail
              with_reducible refine HC2.out.mono ?_
              rintro e w' ⟨rfl, rfl⟩
              go_wp2_with fail
              with_reducible refine HC3.out.mono ?_
              rintro e w' ⟨rfl, rfl⟩
              go_wp2_with fail
              with_reducible refine HC4.out.mono ?_
              rintro e w' ⟨rfl, rfl⟩
              go_wp2_with fail
              with_reducible refine HC5.out.mono ?_
              rintro e w' ⟨rfl, rfl⟩
              go_wp2_with fail
              with_reducible refine HC6.out.mono ?_
              rintro e w' ⟨rfl, rfl⟩
              go_wp2_with fail
              with_reducible refine HC7.out.mono ?_
              rintro e w' ⟨rfl, rfl⟩
              go_wp2_with fail
              with_reducible refine HC8.out.mono ?_
              rintro e w' ⟨rfl, rfl⟩
              go_wp2_with fail
              with_reducible refine (HLv.out _).mono ?_
              rintro e w10 ⟨rfl, hb10⟩
              have HB10 := Lib.hid (HB3.out.trans (Below.mono hb10 HB3.out.size))
              clear hb10 HLv HC1 HC2 HC3 HC4 HC5 HC6 HC7 HC8
              go_wp2
              go_ret
              exact ⟨rfl, HB10.out⟩
      · rw [if_pos rfl]
        have HC := Lib.hid (new_yes (w := wr) t0 t1 t2 t3 t4 t5 t6 (by rw [← HL.out.1]; exact hA) HB1.out)
        clear hA
        by_cases g5 : 5 < s
        · have g6 : (5 : Int) < (s : Int) := by omega
          have HG5 := Lib.hid (And.intro g5 hs)
          clear g5 hs
          go_wp2_with fail
          with_reducible refine HC.out.mono ?_
          rintro e w2 ⟨b, x, rfl, h2, hp2⟩
          have hh := hear_one h2 s (by omega) HG5.out.2
          rw [if_pos HG5.out.1, show ((1 : Nat) : Int) = 1 from rfl] at hh
          have HH := Lib.hid hh
          clear h2 hp2 hh HC c0 c1 c2 c3 c4 c5 c6 d0 d1 d2 d3 d4 d5 d6
          go_wp2_with fail
          with_reducible refine HH.out.mono ?_
          rintro e w4 ⟨rfl, h4⟩
          have HB2 := Lib.hid h4.bel
          clear h4 HH
          obtain ⟨W3, hW3⟩ : ∃ X, X = w4.alloc (.cells #[.int .i64 0, .int .i64 0, .int .i64 0, .int .i64 0, .int .i64 0, .int .i64 0, .int .i64 0, .int .u8 0, .int .i64 0, .bool false, .bool false, .int .i64 0, .nilIface] 58) := ⟨_, rfl⟩
          obtain ⟨b3, hb3⟩ : ∃ b, b = w4.heap.size := ⟨_, rfl⟩
          have hz3 : NoneAt W3 (.pointer (some ⟨b3, 0, none⟩)) := .inr ⟨b3, rfl, by rw [hW3, hb3]; exact own_new w4 _ _ _ rfl⟩
          have hbl3 : Below w.heap.size w W3 := by rw [hW3]; exact HB2.out.alloc HB2.out.size _
          have HW3 := Lib.hid hW3
          have HZ := Lib.hid hz3
          have HN := Lib.hid (show NoneAt W3 (.pointer none) from .inl rfl)
          have HB3 := Lib.hid hbl3
          clear hW3 hz3 hbl3
          go_upto_region 18 with fail
          rw [← HW3.out, ← hb3]
          clear hb3 HW3 HB2
          go_wp2_with fail
          go_loopw [13] (fun v wr => ∃ k : Nat, k ≤ 12 ∧ v = .int .u8 k ∧ wr = W3) (fun v _ => 12 - (intOf v).toNat)
          case atStart => exact ⟨0, Nat.zero_le _, rfl, rfl⟩
          case round =>
            obtain ⟨k, hk, rfl, rfl⟩ := hrel
            by_cases hlt : k < 12
            · have hki : (k : Int) < 12 := by omega
              obtain ⟨K, hK⟩ : ∃ K, K = k + 1 := ⟨_, rfl⟩
              have hwk : IntKind.u8.wrap ((k : Int) + 1) = (K : Int) := by rw [IntWalk.u8_in _ (by omega)]; omega
              have HP1 := Lib.hid (perform_none (.pointer none) k wr HN.out hlt)
              have HP2 := Lib.hid (perform_none (.pointer (some ⟨b3, 0, none⟩)) k wr HZ.out hlt)
              have HK := Lib.hid (And.intro hK hlt)
              clear hK hlt hk
              go_wp2_with fail
              with_reducible refine HP1.out.mono ?_
              rintro e w' ⟨rfl, rfl⟩
              go_wp2_with fail
              with_reducible refine HP2.out.mono ?_
              rintro e w' ⟨rfl, rfl⟩
              go_wp2_with fail
              exact ⟨⟨K, by have := HK.out; omega, by rfl, trivial⟩, by simp only [intOf]; have := HK.out; omega⟩
            · obtain rfl : k = 12 := by omega
              clear hlt hk
              have HC1 := Lib.hid (phase_none (.pointer none) wr HN.out)
              have HC2 := Lib.hid (phase_none (.pointer (some ⟨b3, 0, none⟩)) wr HZ.out)
              have HC3 := Lib.hid (status_none (.pointer none) wr HN.out)
              have HC4 := Lib.hid (status_none (.pointer (some ⟨b3, 0, none⟩)) wr HZ.out)
              have HC5 := Lib.hid (provings_none (.pointer none) wr HN.out)
              have HC6 := Lib.hid (provings_none (.pointer (some ⟨b3, 0, none⟩)) wr HZ.out)
              have HC7 := Lib.hid (left_none (.pointer none) wr HN.out)
              have HC8 := Lib.hid (left_none (.pointer (some ⟨b3, 0, none⟩)) wr HZ.out)
              go_wp2_with fail
              with_reducible refine HC1.out.mono ?_
              rintro e w' ⟨rfl, rfl⟩
              go_wp2_with fail
              with_reducible refine HC2.out.mono ?_
              rintro e w' ⟨rfl, rfl⟩
              go_wp2_with fail
              with_reducible refine HC3.out.mono ?_
              rintro e w' ⟨rfl, rfl⟩
              go_wp2_with fail
              with_reducible refine HC4.out.mono ?_
              rintro e w' ⟨rfl, rfl⟩
              go_wp2_with fail
              with_reducible refine HC5.out.mono ?_
              rintro e w' ⟨rfl, rfl⟩
              go_wp2_with fail
              with_reducible refine HC6.out.mono ?_
              rintro e w' ⟨rfl, rfl⟩
              go_wp2_with fail
              with_reducible refine HC7.out.mono ?_
              rintro e w' ⟨rfl, rfl⟩
              go_wp2_with fail
              with_reducible refine HC8.out.mono ?_
              rintro e w' ⟨rfl, rfl⟩
              go_wp2_with fail
              with_reducible refine (HLv.out _).mono ?_
              rintro e w10 ⟨rfl, hb10⟩
              have HB10 := Lib.hid (HB3.out.trans (Below.mono hb10 HB3.out.size))
              clear hb10 HLv HC1 HC2 HC3 HC4 HC5 HC6 HC7 HC8
              go_wp2
              go_ret
              exact ⟨rfl, HB10.out⟩
        · have g6 : ¬ (5 : Int) < (s : Int) := by omega
          have HG5 := Lib.hid (And.intro g5 hs)
          clear g5 hs
          go_wp2_with fail
          with_reducible refine HC.out.mono ?_
          rintro e w2 ⟨b, x, rfl, h2, hp2⟩
          have hh := hear_one h2 s (by omega) HG5.out.2
          rw [if_neg HG5.out.1, show ((0 : Nat) : Int) = 0 from rfl] at hh
          have HH := Lib.hid hh
          clear h2 hp2 hh HC c0 c1 c2 c3 c4 c5 c6 d0 d1 d2 d3 d4 d5 d6
          go_wp2_with fail
          with_reducible refine HH.out.mono ?_
          rintro e w4 ⟨rfl, h4⟩
          have HB2 := Lib.hid h4.bel
          clear h4 HH
          obtain ⟨W3, hW3⟩ : ∃ X, X = w4.alloc (.cells #[.int .i64 0, .int .i64 0, .int .i64 0, .int .i64 0, .int .i64 0, .int .i64 0, .int .i64 0, .int .u8 0, .int .i64 0, .bool false, .bool false, .int .i64 0, .nilIface] 58) := ⟨_, rfl⟩
          obtain ⟨b3, hb3⟩ : ∃ b, b = w4.heap.size := ⟨_, rfl⟩
          have hz3 : NoneAt W3 (.pointer (some ⟨b3, 0, none⟩)) := .inr ⟨b3, rfl, by rw [hW3, hb3]; exact own_new w4 _ _ _ rfl⟩
          have hbl3 : Below w.heap.size w W3 := by rw [hW3]; exact HB2.out.alloc HB2.out.size _
          have HW3 := Lib.hid hW3
          have HZ := Lib.hid hz3
          have HN := Lib.hid (show NoneAt W3 (.pointer none) from .inl rfl)
          have HB3 := Lib.hid hbl3
          clear hW3 hz3 hbl3
          go_upto_region 18 with fail
          rw [← HW3.out, ← hb3]
          clear hb3 HW3 HB2
          go_wp2_with fail
          go_loopw [13] (fun v wr => ∃ k : Nat, k ≤ 12 ∧ v = .int .u8 k ∧ wr = W3) (fun v _ => 12 - (intOf v).toNat)
          case atStart => exact ⟨0, Nat.zero_le _, rfl, rfl⟩
          case round =>
            obtain ⟨k, hk, rfl, rfl⟩ := hrel
            by_cases hlt : k < 12
            · have hki : (k : Int) < 12 := by omega
              obtain ⟨K, hK⟩ : ∃ K, K = k + 1 := ⟨_, rfl⟩
              have hwk : IntKind.u8.wrap ((k : Int) + 1) = (K : Int) := by rw [IntWalk.u8_in _ (by omega)]; omega
              have HP1 := Lib.hid (perform_none (.pointer none) k wr HN.out hlt)
              have HP2 := Lib.hid (perform_none (.pointer (some ⟨b3, 0, none⟩)) k wr HZ.out hlt)
              have HK := Lib.hid (And.intro hK hlt)
              clear hK hlt hk
              go_wp2_with fail
              with_reducible refine HP1.out.mono ?_
              rintro e w' ⟨rfl, rfl⟩
              go_wp2_with fail
              with_reducible refine HP2.out.mono ?_
              rintro e w' ⟨rfl, rfl⟩
              go_wp2_with fail
              exact ⟨⟨K, by have := HK.out; omega, by rfl, trivial⟩, by simp only [intOf]; have := HK.out; omega⟩
            · obtain rfl : k = 12 := by omega
              clear hlt hk
              have HC1 := Lib.hid (phase_none (.pointer none) wr HN.out)
              have HC2 := Lib.hid (phase_none (.pointer (some ⟨b3, 0, none⟩)) wr HZ.out)
              have HC3 := Lib.hid (status_none (.pointer none) wr HN.out)
              have HC4 := Lib.hid (status_none (.pointer (some ⟨b3, 0, none⟩)) wr HZ.out)
              have HC5 := Lib.hid (provings_none (.pointer none) wr HN.out)
              have HC6 := Lib.hid (provings_none (.pointer (some ⟨b3, 0, none⟩)) wr HZ.out)
              have HC7 := Lib.hid (left_none (.pointer none) wr HN.out)
              have HC8 := Lib.hid (left_none (.pointer (some ⟨b3, 0, none⟩)) wr HZ.out)
              go_wp2_with fail
              with_reducible refine HC1.out.mono ?_
              rintro e w' ⟨rfl, rfl⟩
              go_wp2_with fail
              with_reducible refine HC2.out.mono ?_
              rintro e w' ⟨rfl, rfl⟩
              go_wp2_with fail
              with_reducible refine HC3.out.mono ?_
              rintro e w' ⟨rfl, rfl⟩
              go_wp2_with fail
              with_reducible refine HC4.out.mono ?_
              rintro e w' ⟨rfl, rfl⟩
              go_wp2_with fail
              with_reducible refine HC5.out.mono ?_
              rintro e w' ⟨rfl, rfl⟩
              go_wp2_with fail
              with_reducible refine HC6.out.mono ?_
              rintro e w' ⟨rfl, rfl⟩
              go_wp2_with fail
              with_reducible refine HC7.out.mono ?_
              rintro e w' ⟨rfl, rfl⟩
              go_wp2_with fail
              with_reducible refine HC8.out.mono ?_
              rintro e w' ⟨rfl, rfl⟩
              go_wp2_with fail
              with_reducible refine (HLv.out _).mono ?_
              rintro e w10 ⟨rfl, hb10⟩
              have HB10 := Lib.hid (HB3.out.trans (Below.mono hb10 HB3.out.size))
              clear hb10 HLv HC1 HC2 HC3 HC4 HC5 HC6 HC7 HC8
              go_wp2
              go_ret
              exact ⟨rfl, HB10.out⟩
end Go.Proofs.Ytgfiikbecapodaa
