/- The code's end of a link: Retrieve gives the loads. -/
import Derived.Test.YtdjnflfcolpccaaEaRet
namespace Go.Proofs.Ytdjnflfcolpccaa
open Go.RowKit

theorem buf_row_fit {w : World} {B : Nat} {O j N : Nat} {vs : List Value} (h : w.ownsRow B 36 1 (.slice (some ⟨O, 0, none⟩) j N) j vs) : vs.length = j := by
  have := h.1; omega
set_option maxHeartbeats 4000000 in
set_option maxRecDepth 100000 in
theorem retrieve_ok (b : Nat) (x : En) (L : ELay) (w : World) (t : Nat) (h : EndL w b x L) (ht : t < 128) (hle : x.ahead t ≤ x.una.length) :
    Calls Try.prog 19 #[.pointer (some ⟨b, 0, none⟩), .int .u8 (t : Int)] w fun e w' => (∃ a N, e = .returned (.tuple #[.slice a N N, .int .i64 0]) ∧ Mat w' (fun k => w.heap.size ≤ k ∧ k < w'.heap.size) true a N N (x.rest t)) ∧ Below w.heap.size w w' := by
  have hcon := isNone_any b x L w h
  have hrest : x.rest t = x.una.drop (x.ahead t) ++ x.que := rfl
  obtain ⟨D, hD⟩ : ∃ D, D = x.ahead t := ⟨_, rfl⟩
  have hul := h.fit.una
  have hql := h.fit.que
  have hcov : ∀ W, Below w.heap.size w W → ∀ q, Calls Try.prog 35 #[.pointer (some ⟨b, 0, none⟩), .int .u8 (t : Int)] (W.drewN q) fun e w'' => e = .returned (.int .i64 (D : Int)) ∧ ∃ m, w'' = (W.drewN q).drewN m := fun W hW q => by
    rw [hD]
    exact covers_any b x L (W.drewN q) t ((h.later hW).later (below_draw W q)) (by omega)
  rw [← hD] at hle hrest
  obtain ⟨A, hs1, hs2, hro⟩ := rows_cut h.o D hle (by omega)
  obtain ⟨M, hM⟩ : ∃ M, M = x.una.length - D := ⟨_, rfl⟩
  rw [← hM] at hs1 hs2
  obtain ⟨Q, hQ⟩ : ∃ Q, Q = x.que.length := ⟨_, rfl⟩
  obtain ⟨N, hN⟩ : ∃ N, N = M + Q := ⟨_, rfl⟩
  have hMQ : (M : Int) + (Q : Int) = (N : Int) := by omega
  have hNs : N ≤ 1000 := by omega
  obtain ⟨C, hC⟩ : ∃ C, C = L.co - D := ⟨_, rfl⟩
  rw [← hC] at hs1 hs2 hro
  obtain ⟨rs, hrs⟩ : ∃ rs, rs = x.una.drop D := ⟨_, rfl⟩
  have hrsl : rs.length = M := by rw [hrs, hM]; simp
  rw [← hrs] at hro hrest
  obtain ⟨aq, haq⟩ : ∃ a, a = L.aq := ⟨_, rfl⟩
  have hrq := h.q
  rw [← haq] at hrq
  have hwr : ∀ l ∈ rs, 2 ≤ l.length ∧ l.length ≤ 273 := fun l hl => h.wide l (.inr (by rw [hrs] at hl; exact List.mem_of_mem_drop hl))
  have hwq : ∀ l ∈ x.que, 2 ≤ l.length ∧ l.length ≤ 273 := fun l hl => h.wide l (.inl hl)
  have hSl := h.s_lt
  have hwfc := h.lt
  have HC0 := Lib.hid hcon
  have HCv := Lib.hid hcov
  have H := Lib.hid h
  have HR := Lib.hid hrest
  have HRo := Lib.hid hro
  have HRq := Lib.hid hrq
  have HRl := Lib.hid hrsl
  have HQ := Lib.hid hQ
  have HN := Lib.hid hN
  have HAq := Lib.hid haq
  have HWr := Lib.hid hwr
  have HWq := Lib.hid hwq
  have HLe := Lib.hid hle
  clear hcon hcov h hrest hro hrq hrsl hQ hN haq hwr hwq hD hM hC hrs hle hSl hwfc hul hql
  go_enter Try.func19, Try.ntmps19
  go_wp2_with fail
  refine HC0.out.mono ?_
  rintro e W1 ⟨rfl, q, hq⟩
  have hb1 : Below w.heap.size w W1 := by rw [hq]; exact below_draw w q
  have hcv1 := HCv.out W1 hb1
  have c0 := (H.out.later hb1).cells.2.2.1
  have c1 := (H.out.later hb1).cells.2.2.2.1
  rw [← HAq.out, ← HQ.out] at c0
  have hti : ¬ (127 : Int) < (t : Int) := by omega
  have htd : decide ((127 : Int) < (t : Int)) = false := decide_eq_false hti
  have hwi : ¬ (x.una.length : Int) < (D : Int) := by have := HLe.out; omega
  have HB1 := Lib.hid hb1
  have HCv1 := Lib.hid hcv1
  clear hb1 hcv1 hq
  go_wp2_with fail
  go_quiet ((go_at_call 35; exact Calls.quiet_of (HCv1.out _)))
  generalize hW2 : W1.drewN nq = W2
  have hb2 : Below w.heap.size w W2 := HB1.out.trans (by rw [← hW2]; exact Below.mono (below_draw W1 nq) HB1.out.size)
  have hcv2 := HCv.out W2 hb2
  clear c0 c1 hW2
  have c0 := (H.out.later hb2).cells.2.2.1
  have c1 := (H.out.later hb2).cells.2.2.2.1
  rw [← HAq.out, ← HQ.out] at c0
  have HB2 := Lib.hid hb2
  have HCv2 := Lib.hid hcv2
  clear hb2 hcv2
  go_wp2_with fail
  go_quiet ((go_at_call 35; exact Calls.quiet_of (HCv2.out _)))
  generalize hW3 : W2.drewN nq = W3
  have hb3 : Below w.heap.size w W3 := HB2.out.trans (by rw [← hW3]; exact Below.mono (below_draw W2 nq) HB2.out.size)
  clear c0 c1 hW3 hti htd hwi hs1 hs2
  have c0 := (H.out.later hb3).cells.2.2.1
  rw [← HAq.out, ← HQ.out] at c0
  have hbs3 : b < W3.heap.size := (H.out.later hb3).own.lt
  have hmk := make_rows N (by omega) W3
  obtain ⟨V0, hV0⟩ : ∃ X, X = W3.alloc (.cells (madeCells #[.slice none 0 0] N) 36) := ⟨_, rfl⟩
  have ho0 := owns_rows W3 w.heap.size N hb3.size (by omega)
  obtain ⟨V, hV⟩ : ∃ X, X = V0.alloc (.cells #[.slice A M C, .slice aq Q L.cq] 52) := ⟨_, rfl⟩
  have hb30 : Below W3.heap.size W3 V0 := by rw [hV0]; exact below_alloc _ _
  have hb0V : Below V0.heap.size V0 V := by rw [hV]; exact below_alloc _ _
  have hz0 : V0.heap.size = W3.heap.size + 1 := by rw [hV0]; simp
  have olit : Own V (W3.heap.size + 1) 52 [.slice A M C, .slice aq Q L.cq] := by
    have := own_lit V0 52 #[.slice A M C, .slice aq Q L.cq] [.slice A M C, .slice aq Q L.cq] rfl
    rw [← hV, hz0] at this
    exact this
  rw [← hV0] at ho0
  have hret : RetAt w V W3.heap.size (W3.heap.size + 1) N (rs ++ x.que) (.slice A M C) (.slice aq Q L.cq) 0 := by
    refine ⟨⟨[], ownsRow_below ho0 hb0V, fun i l hi => by simp at hi⟩, ⟨olit.cell 0 (by simp), olit.cell 1 (by simp)⟩, hb3.trans (Below.mono (hb30.trans (hb0V.mono (by omega))) hb3.size), by omega, olit.lt, hb3.size⟩
  have HV0 := Lib.hid hV0
  have HV := Lib.hid hV
  have HRet := Lib.hid hret
  have HB3 := Lib.hid hb3
  obtain ⟨O, hO⟩ : ∃ O, O = W3.heap.size := ⟨_, rfl⟩
  clear ho0 hb30 hb0V olit hret hV0 hV hb3
  go_wp2_with fail
  rw [← HV0.out, ← HV.out]
  have l0 := HRet.out.lits.1
  clear c0
  have hwd2 : decide (x.una.length < D) = false := decide_eq_false (by have := HLe.out; omega)
  simp only [hwd2]
  refine wp_loop_rounds 3 ?_
  rw [rounds_succ]
  go_wp2_with fail
  go_loopw [7, 11, 65] (fun v _ i wr => ∃ k : Nat, k ≤ M ∧ i = .int .i64 k ∧ v = .slice (some ⟨W3.heap.size, 0, none⟩) k N ∧ RetAt w wr W3.heap.size (W3.heap.size + 1) N (rs ++ x.que) (.slice A M C) (.slice aq Q L.cq) k) (fun _ _ i _ => M - (intOf i).toNat)
  case atStart => exact ⟨0, Nat.zero_le _, rfl, rfl, HRet.out⟩
  case round =>
    obtain ⟨k, hk, rfl, rfl, hret⟩ := hrel
    have hEnd := H.out.later hret.bel
    by_cases hlt : k < M
    · have hki : (k : Int) < (M : Int) := by omega
      have hk0 : (0 : Int) ≤ (k : Int) := by omega
      have hrows : RowsAt wr L.P L.go A C rs := HRo.out.exc (T := fun _ => False) (Exc.of_below hret.bel) (fun _ _ hh => hh) (fun _ _ hh => hh)
      obtain ⟨kb, o, s, ha, hg, hcl, hrr, hz⟩ := hrows.at (i := k) (by rw [HRl.out]; exact hlt)
      obtain ⟨l, hl⟩ : ∃ l, l = rs.getD k [] := ⟨_, rfl⟩
      rw [← hl] at hcl hrr
      have hwl : 2 ≤ l.length ∧ l.length ≤ 273 := by
        rw [hl]
        refine HWr.out _ ?_
        rw [List.getD_eq_getElem?_getD, List.getElem?_eq_getElem (by rw [HRl.out]; exact hlt)]
        exact List.getElem_mem _
      obtain ⟨vs, hown, hvs⟩ := hret.own
      have hcn := bclone_any s l.length l.length l wr hrr (by omega)
      obtain ⟨i0, hi, hz0, hz1', hz2⟩ := info_parts infoRow
      obtain ⟨e1, e2, e3⟩ := hret.lt
      have HRt := Lib.hid hret
      have HCn := Lib.hid hcn
      have HRr := Lib.hid hrr
      have HL := Lib.hid hl
      have HWl := Lib.hid hwl
      have HVs := Lib.hid (And.intro hown hvs)
      have HI := Lib.hid (And.intro hi (And.intro hz0 (And.intro hz1' hz2)))
      have HA := Lib.hid ha
      have HK := Lib.hid hk
      clear hret hrr hz hown hvs hcn hi hz0 hz1' hz2 hl hwl hrows hEnd hg hk
      have ha2 := HA.out
      subst ha2
      go_wp2_with fail
      refine HCn.out.mono ?_
      rintro e w4 ⟨rfl, hb4, ho4⟩
      have h4s := ho4.lt
      have hob : (w4.alloc (.cells #[.slice (some ⟨wr.heap.size, 0, none⟩) l.length l.length] 36)).ownsRow w.heap.size 36 1 (.slice (some ⟨W3.heap.size, 0, none⟩) k N) k vs := ownsRow_below (HVs.out.1) (hb4.trans (Below.mono (below_alloc w4 _) hb4.size))
      have hlc : (w4.alloc (.cells #[.slice (some ⟨wr.heap.size, 0, none⟩) l.length l.length] 36)).cell? ⟨w4.heap.size, 0, none⟩ = some (.slice (some ⟨wr.heap.size, 0, none⟩) l.length l.length) := (own_lit w4 _ _ [.slice (some ⟨wr.heap.size, 0, none⟩) l.length l.length] rfl).cell 0 (by simp)
      have hjN : k + 1 ≤ N := by have := HN.out; omega
      have HB4 := Lib.hid (And.intro hb4 ho4)
      have HOb := Lib.hid hob
      have HLc := Lib.hid hlc
      have HJN := Lib.hid hjN
      clear hb4 ho4 hob hlc hjN hcl
      go_wp2_with (with_reducible refine wpList_append_fits _ rfl _ _ 52 rfl w.heap.size 36 i0 1 Try.underlying52 HI.out.1 HI.out.2.2.1 W3.heap.size k N vs rfl (HOb.out) ⟨w4.heap.size, 0, none⟩ 1 1 [.slice (some ⟨wr.heap.size, 0, none⟩) l.length l.length] rfl rfl ?_ ?_ (HJN.out) ?_)
      · intro jj u hj
        have hj0 : jj = 0 := by
          have := (List.getElem?_eq_some_iff.1 hj).1
          simp at this
          exact this
        subst hj0
        simp at hj
        subst hj
        exact HLc.out
      · intro u hu
        simp at hu
        subst hu
        rfl
      · intro w6 h6 hg6
        have hadd := RetAt.add HRt.out (l := l) (by rw [List.getElem?_append_left (by rw [HRl.out]; exact hlt), HL.out, List.getD_eq_getElem?_getD, List.getElem?_eq_getElem (by rw [HRl.out]; exact hlt)]; rfl) (buf_row_fit HVs.out.1) HVs.out.2 HB4.out.1 HB4.out.2 HRr.out.wf (by have := HWl.out.2; omega) h6 hg6
        have HAdd := Lib.hid hadd
        clear hadd h6 hg6
        go_wp2
        exact ⟨⟨k + 1, by omega, by go_num, rfl, HAdd.out⟩, by simp [intOf]; omega⟩
    · have hki : ¬ (k : Int) < (M : Int) := by omega
      obtain rfl : M = k := by omega
      obtain ⟨w5, rfl⟩ : ∃ x, x = wr := ⟨_, rfl⟩
      have l1 := hret.lits.2
      have HR5 := Lib.hid hret
      clear hret hEnd
      go_wp2_with fail
      rw [rounds_succ]
      go_wp2_with fail
      go_loopw [7, 11, 65] (fun v _ i wr => ∃ k : Nat, k ≤ Q ∧ i = .int .i64 k ∧ v = .slice (some ⟨W3.heap.size, 0, none⟩) (M + k) N ∧ RetAt w wr W3.heap.size (W3.heap.size + 1) N (rs ++ x.que) (.slice A M C) (.slice aq Q L.cq) (M + k)) (fun _ _ i _ => Q - (intOf i).toNat)
      case atStart => exact ⟨0, Nat.zero_le _, rfl, rfl, HR5.out⟩
      case round =>
        obtain ⟨k, hk, rfl, rfl, hret⟩ := hrel
        have hEnd := H.out.later hret.bel
        by_cases hlt : k < Q
        · have hki : (k : Int) < (Q : Int) := by omega
          have hk0 : (0 : Int) ≤ (k : Int) := by omega
          have hrows : RowsAt wr L.P L.gq aq L.cq x.que := HRq.out.exc (T := fun _ => False) (Exc.of_below hret.bel) (fun _ _ hh => hh) (fun _ _ hh => hh)
          obtain ⟨kb, o, s, ha, hg, hcl, hrr, hz⟩ := hrows.at (i := k) (by rw [← HQ.out]; exact hlt)
          obtain ⟨l, hl⟩ : ∃ l, l = x.que.getD k [] := ⟨_, rfl⟩
          rw [← hl] at hcl hrr
          have hwl : 2 ≤ l.length ∧ l.length ≤ 273 := by
            rw [hl]
            refine HWq.out _ ?_
            rw [List.getD_eq_getElem?_getD, List.getElem?_eq_getElem (by rw [← HQ.out]; exact hlt)]
            exact List.getElem_mem _
          obtain ⟨vs, hown, hvs⟩ := hret.own
          have hcn := bclone_any s l.length l.length l wr hrr (by omega)
          obtain ⟨i0, hi, hz0, hz1', hz2⟩ := info_parts infoRow
          obtain ⟨e1, e2, e3⟩ := hret.lt
          have HRt := Lib.hid hret
          have HCn := Lib.hid hcn
          have HRr := Lib.hid hrr
          have HL := Lib.hid hl
          have HWl := Lib.hid hwl
          have HVs := Lib.hid (And.intro hown hvs)
          have HI := Lib.hid (And.intro hi (And.intro hz0 (And.intro hz1' hz2)))
          have HA := Lib.hid ha
          have HK := Lib.hid hk
          clear hret hrr hz hown hvs hcn hi hz0 hz1' hz2 hl hwl hrows hEnd hg hk
          have ha2 := HA.out
          subst ha2
          go_wp2_with fail
          refine HCn.out.mono ?_
          rintro e w4 ⟨rfl, hb4, ho4⟩
          have h4s := ho4.lt
          have hob : (w4.alloc (.cells #[.slice (some ⟨wr.heap.size, 0, none⟩) l.length l.length] 36)).ownsRow w.heap.size 36 1 (.slice (some ⟨W3.heap.size, 0, none⟩) (M + k) N) (M + k) vs := ownsRow_below (HVs.out.1) (hb4.trans (Below.mono (below_alloc w4 _) hb4.size))
          have hlc : (w4.alloc (.cells #[.slice (some ⟨wr.heap.size, 0, none⟩) l.length l.length] 36)).cell? ⟨w4.heap.size, 0, none⟩ = some (.slice (some ⟨wr.heap.size, 0, none⟩) l.length l.length) := (own_lit w4 _ _ [.slice (some ⟨wr.heap.size, 0, none⟩) l.length l.length] rfl).cell 0 (by simp)
          have hjN : (M + k) + 1 ≤ N := by have := HN.out; omega
          have HB4 := Lib.hid (And.intro hb4 ho4)
          have HOb := Lib.hid hob
          have HLc := Lib.hid hlc
          have HJN := Lib.hid hjN
          clear hb4 ho4 hob hlc hjN hcl
          go_wp2_with (with_reducible refine wpList_append_fits _ rfl _ _ 52 rfl w.heap.size 36 i0 1 Try.underlying52 HI.out.1 HI.out.2.2.1 W3.heap.size (M + k) N vs rfl (HOb.out) ⟨w4.heap.size, 0, none⟩ 1 1 [.slice (some ⟨wr.heap.size, 0, none⟩) l.length l.length] rfl rfl ?_ ?_ (HJN.out) ?_)
          · intro jj u hj
            have hj0 : jj = 0 := by
              have := (List.getElem?_eq_some_iff.1 hj).1
              simp at this
              exact this
            subst hj0
            simp at hj
            subst hj
            exact HLc.out
          · intro u hu
            simp at hu
            subst hu
            rfl
          · intro w6 h6 hg6
            have hadd := RetAt.add HRt.out (l := l) (by rw [List.getElem?_append_right (by rw [HRl.out]; omega), HRl.out, Nat.add_sub_cancel_left, HL.out, List.getD_eq_getElem?_getD, List.getElem?_eq_getElem (by rw [← HQ.out]; exact hlt)]; rfl) (buf_row_fit HVs.out.1) HVs.out.2 HB4.out.1 HB4.out.2 HRr.out.wf (by have := HWl.out.2; omega) h6 hg6
            have HAdd := Lib.hid hadd
            clear hadd h6 hg6
            go_wp2
            exact ⟨⟨k + 1, by omega, by go_num, rfl, HAdd.out⟩, by simp [intOf]; omega⟩
        · have hki : ¬ (k : Int) < (Q : Int) := by omega
          obtain rfl : Q = k := by omega
          have HR6 := Lib.hid hret
          clear hret hEnd
          go_wp2_with fail
          rw [rounds_succ]
          go_wp2
          go_ret2
          have hm := HR6.out
          have hNQ := HN.out
          subst hNQ
          refine ⟨⟨_, _, rfl, ?_⟩, hm.bel⟩
          rw [HR.out]
          exact hm.mat (by rw [List.length_append, HRl.out, ← HQ.out])
end Go.Proofs.Ytdjnflfcolpccaa
