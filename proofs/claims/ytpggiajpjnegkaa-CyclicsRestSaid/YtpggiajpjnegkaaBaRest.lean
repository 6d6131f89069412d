/- Statement text: the walk over the acts and the rounds (CyclicsRest). -/
import Derived.Test.YtpggiajpjnegkaaBaPrefix
import Derived.Test.YtpggiajpjnegkaaBaRound
namespace Go.Proofs.Ytpggiajpjnegkaa
open Go.RowKit

theorem PairAt.c2 {I : EndFace} {w : World} {p : Nat} {st : PSt} {L : PLay} (h : PairAt I w p st L) : w.cell? ⟨p, 2, none⟩ = some (.slice L.a0 st.f0.length L.c0) := h.own.cell 2 (by simp [pairCells])
theorem PairAt.c3 {I : EndFace} {w : World} {p : Nat} {st : PSt} {L : PLay} (h : PairAt I w p st L) : w.cell? ⟨p, 3, none⟩ = some (.slice L.a1 st.f1.length L.c1) := h.own.cell 3 (by simp [pairCells])
def lenAt (w : World) (p j : Nat) : Nat := match w.cell? ⟨p, j, none⟩ with | some (.slice _ n _) => n | _ => 0
set_option maxHeartbeats 4000000 in
set_option maxRecDepth 100000 in
theorem rest_any (I : EndFace) (hl : LivesOk) (a b : Nat) (ha : a ≤ 255) (hb : b ≤ 65535) (w : World) (s : Option Addr) (n c : Nat) (l : List Int) (h : Row .u8 w s n c l) :
    Calls Try.prog 5 #[.agg #[.int .u8 (a : Int), .int .u16 (b : Int)], .slice s n c] w fun e w' => e = .returned (.bool true) ∧ Below w.heap.size w w' := by
  have hnc := h.le
  have hmx := h.max
  unfold maxLen at hmx
  obtain ⟨W, hW⟩ : ∃ X, X = w.alloc (.cells #[.int .u8 (a : Int), .int .u16 (b : Int)] 24) := ⟨_, rfl⟩
  have hb0 : Below w.heap.size w W := by rw [hW]; exact below_alloc _ _
  have H := Lib.hid (h.later hb0)
  have HL := Lib.hid hl
  have HW := Lib.hid hW
  have HB0 := Lib.hid hb0
  clear h hl hW hb0
  go_enter Try.func5, Try.ntmps5
  go_wp2_with fail
  · rw [← HW.out]
    refine (HL.out _).mono ?_
    rintro e w1 ⟨rfl, hb⟩
    have HB := Lib.hid hb
    clear hb
    go_wp2
    go_ret
    exact ⟨rfl, HB0.out.trans (Below.mono HB.out HB0.out.size)⟩
  · have hn : n ≤ 400 := by omega
    rw [← HW.out]
    refine (start_duo I a b W ha hb).mono ?_
    rintro e w1 ⟨⟨p, rfl, hd⟩, hb1⟩
    go_wp2_with fail
    go_loopw [6] (fun i wr => ∃ k : Nat, k ≤ n ∧ i = .int .i64 k ∧ DuoAt I wr p W.heap.size k ∧ Below W.heap.size W wr) (fun i _ => n - (intOf i).toNat)
    case atStart => exact ⟨0, Nat.zero_le _, rfl, hd, hb1⟩
    case round =>
      obtain ⟨k, hk, rfl, hd, hb⟩ := hrel
      by_cases hlt : k < n
      · have hr := H.out.later hb
        have hx := wf_u8.1 (hr.wf (l.getD k 0) (by rw [List.getD_eq_getElem?_getD, List.getElem?_eq_getElem (by rw [hr.len]; exact hlt), Option.getD_some]; exact List.getElem_mem _))
        obtain ⟨b, o, rfl, hc⟩ : ∃ b o, s = some ⟨b, o, none⟩ ∧ ∀ i, i < n → wr.cell? ⟨b, o + i, none⟩ = some (.int .u8 (l.getD i 0)) := by
          rcases hr.cells with h0 | h1
          · omega
          · exact h1
        have hck := hc k hlt
        generalize l.getD k 0 = x at hx hck
        obtain ⟨hx0, hx1⟩ := hx
        have HA := Lib.hid (act_any I x hx0 hx1 hd (by omega))
        have HB := Lib.hid hb
        clear hr hc hd hb
        go_wp2_with fail
        refine HA.out.mono ?_
        rintro e w2 ⟨rfl, hd2, hb2⟩
        have HD2 := Lib.hid hd2
        have HB2 := Lib.hid (HB.out.trans hb2)
        clear hd2 hb2
        go_wp2_with fail
        exact ⟨⟨k + 1, by omega, by go_num, HD2.out, HB2.out⟩, by simp [intOf]; omega⟩
      · obtain ⟨d0, L0, ok0, sm0, hL0, hP0⟩ := hd.mono (M := 400) (by omega)
        have HB := Lib.hid hb
        have HP0 := Lib.hid hP0
        have HL0 := Lib.hid hL0
        have HO := Lib.hid ok0
        have HS := Lib.hid sm0
        clear hb hP0 hL0 ok0 sm0 hd
        go_wp2_with fail
        go_loopw [7] (fun i wr => ∃ k : Nat, k ≤ 800 ∧ i = .int .i64 k ∧ (∃ L, L.B = W.heap.size ∧ PairAt I wr p (Duo.rounds k d0).st L) ∧ Below W.heap.size W wr) (fun i _ => 800 - (intOf i).toNat)
        case atStart => exact ⟨0, by omega, rfl, ⟨L0, HL0.out, HP0.out⟩, HB.out⟩
        case round =>
          obtain ⟨k, hk, rfl, ⟨L, hL, hP⟩, hb⟩ := hrel
          have ok := Duo.rounds_ok k HO.out
          have sm := Duo.rounds_small k HO.out HS.out
          by_cases hlt : k < 800
          · obtain ⟨d, hd⟩ : ∃ d, d = Duo.rounds k d0 := ⟨_, rfl⟩
            rw [← hd] at ok sm hP
            have su0 := sm.u0
            have su1 := sm.u1
            have ok2 := Duo.send0_ok ok
            have ok3 := Duo.send1_ok ok2
            have sm3 := Duo.sent_small ok sm
            have HA := Lib.hid (send0_ex I hP ok (by omega))
            have HL1 := Lib.hid hL
            have HB1 := Lib.hid hb
            have HD := Lib.hid hd
            have HO2 := Lib.hid ok2
            have HO3 := Lib.hid ok3
            have HS3 := Lib.hid sm3
            clear hP hL hb hd ok ok2 ok3 sm sm3
            go_wp2_with fail
            refine HA.out.mono ?_
            rintro e w2 ⟨rfl, ⟨L2, hL2, hP2⟩, hb2⟩
            have HC := Lib.hid (send1_ex I hP2 HO2.out (by show d.U0.length ≤ 10000; omega))
            have HL2 := Lib.hid (hL2.trans HL1.out)
            rw [HL1.out] at hb2
            have HB2 := Lib.hid (HB1.out.trans hb2)
            clear hL2 hP2 hb2 HA
            go_wp2_with fail
            refine HC.out.mono ?_
            rintro e w3 ⟨rfl, ⟨L3, hL3, hP3⟩, hb3⟩
            rw [HL2.out] at hb3
            have HL3 := Lib.hid (hL3.trans HL2.out)
            have HB3 := Lib.hid (HB2.out.trans hb3)
            have HP3 := Lib.hid hP3
            clear hL3 hP3 hb3 HC
            go_wp2_with fail
            go_loopw [] (fun wr => ∃ (d' : Duo) (L : PLay), d'.Ok ∧ d'.Small 401 ∧ L.B = W.heap.size ∧ PairAt I wr p d'.st L ∧ Below W.heap.size W wr ∧ d'.hears0 d'.U0 = d.heard0) (fun wr => lenAt wr p 2)
            case atStart => exact ⟨d.send0.send1, _, HO3.out, HS3.out, HL3.out, HP3.out, HB3.out, rfl⟩
            case round =>
              obtain ⟨d', L, ok, sm, hL, hP, hb, he⟩ := hrel
              have c2 := hP.c2
              cases hu : d'.U0 with
              | nil =>
                have e0 : d'.st.f0.length = 0 := by show (d'.U0.map Ut.un).length = 0; rw [hu]; rfl
                rw [e0] at c2
                have HX := Lib.hid (And.intro ok (And.intro sm (And.intro hL (And.intro hP (And.intro hb (And.intro he hu))))))
                clear ok sm hL hP hb he hu e0
                go_wp2_with fail
                obtain ⟨ok, sm, hL, hP, hb, he, hu⟩ := HX.out
                have hd' : d' = d.heard0 := by rw [← he, hu]; rfl
                rw [hd'] at ok sm hP
                go_loopw [] (fun wr => ∃ (d' : Duo) (L : PLay), d'.Ok ∧ d'.Small 401 ∧ L.B = W.heap.size ∧ PairAt I wr p d'.st L ∧ Below W.heap.size W wr ∧ d'.hears1 d'.U1 = d.round) (fun wr => lenAt wr p 3)
                case atStart => exact ⟨d.heard0, _, ok, sm, hL, hP, hb, rfl⟩
                case round =>
                  clear ok sm hL hP hb he hu hd' HX c2 HP3 HB3 HL3 HS3 HO3 HO2
                  obtain ⟨d', L, ok, sm, hL, hP, hb, he⟩ := hrel
                  have c3 := hP.c3
                  cases hu : d'.U1 with
                  | nil =>
                    have e0 : d'.st.f1.length = 0 := by show (d'.U1.map Ut.un).length = 0; rw [hu]; rfl
                    rw [e0] at c3
                    have hd' : d' = Duo.rounds (k + 1) d0 := by rw [Duo.rounds, ← HD.out, ← he, hu]; rfl
                    rw [hd'] at hP
                    have HX := Lib.hid (And.intro hL (And.intro hP hb))
                    clear ok sm hL hP hb he hu e0 hd'
                    go_wp2_with fail
                    exact ⟨⟨k + 1, by omega, by go_num, ⟨_, HX.out.1, HX.out.2.1⟩, HX.out.2.2⟩, by simp [intOf]; omega⟩
                  | cons u us =>
                    have e0 : d'.st.f1.length = us.length + 1 := by show (d'.U1.map Ut.un).length = _; rw [hu]; simp
                    rw [e0] at c3
                    have sg := sm.g0
                    have hln : lenAt wr p 3 = us.length + 1 := by unfold lenAt; rw [c3]
                    have b0 : (0 : Int) < ((us.length + 1 : Nat) : Int) := by omega
                    have HA4 := Lib.hid (hear1_ex I hP ok hu (by omega))
                    have HX := Lib.hid (And.intro ok (And.intro sm (And.intro hL (And.intro hb (And.intro he hu)))))
                    have HLn := Lib.hid hln
                    clear ok sm hL hP hb he hu e0 sg hln
                    go_wp2_with fail
                    refine HA4.out.mono ?_
                    rintro e w4 ⟨rfl, ⟨L4, hL4, hP4⟩, hb4⟩
                    obtain ⟨ok, sm, hL, hb, he, hu⟩ := HX.out
                    rw [hL] at hb4 hL4
                    have c3' := hP4.c3
                    have hln' : lenAt w4 p 3 = us.length := by unfold lenAt; rw [c3']; show (us.map Ut.un).length = _; simp
                    have HY := Lib.hid (And.intro (Duo.hear1_ok ok hu) (And.intro (Duo.hear1_small sm hu) (And.intro hL4 (And.intro hP4 (And.intro (hb.trans hb4) (show (d'.hear1 u us).hears1 us = d.round by rw [← he, hu]; rfl))))))
                    have HLn' := Lib.hid hln'
                    clear ok sm hL hb he hu hL4 hP4 hb4 c3' hln'
                    go_wp2_with fail
                    exact ⟨⟨_, _, HY.out⟩, by rw [HLn.out, HLn'.out]; omega⟩
              | cons u us =>
                have e0 : d'.st.f0.length = us.length + 1 := by show (d'.U0.map Ut.un).length = _; rw [hu]; simp
                rw [e0] at c2
                have sg := sm.g1
                have hln : lenAt wr p 2 = us.length + 1 := by unfold lenAt; rw [c2]
                have b0 : (0 : Int) < ((us.length + 1 : Nat) : Int) := by omega
                have HA4 := Lib.hid (hear0_ex I hP ok hu (by omega))
                have HX := Lib.hid (And.intro ok (And.intro sm (And.intro hL (And.intro hb (And.intro he hu)))))
                have HLn := Lib.hid hln
                clear ok sm hL hP hb he hu e0 sg hln
                go_wp2_with fail
                refine HA4.out.mono ?_
                rintro e w4 ⟨rfl, ⟨L4, hL4, hP4⟩, hb4⟩
                obtain ⟨ok, sm, hL, hb, he, hu⟩ := HX.out
                rw [hL] at hb4 hL4
                have c2' := hP4.c2
                have hln' : lenAt w4 p 2 = us.length := by unfold lenAt; rw [c2']; show (us.map Ut.un).length = _; simp
                have HY := Lib.hid (And.intro (Duo.hear0_ok ok hu) (And.intro (Duo.hear0_small sm hu) (And.intro hL4 (And.intro hP4 (And.intro (hb.trans hb4) (show (d'.hear0 u us).hears0 us = d.heard0 by rw [← he, hu]; rfl))))))
                have HLn' := Lib.hid hln'
                clear ok sm hL hb he hu hL4 hP4 hb4 c2' hln'
                go_wp2_with fail
                exact ⟨⟨_, _, HY.out⟩, by rw [HLn.out, HLn'.out]; omega⟩
          · obtain rfl : k = 800 := by omega
            obtain ⟨a1, a2, a3, a4, a5, a6⟩ := Duo.rounds_all HO.out 800 (by omega)
            obtain ⟨d, hd⟩ : ∃ d, d = Duo.rounds 800 d0 := ⟨_, rfl⟩
            rw [← hd] at ok sm hP a1 a2 a3 a4 a5 a6
            have c0 := hP.c0
            have c1 := hP.c1
            have q0 : d.st.x0.que.length = 0 := by show (listL d.x0.S d.x0.G).length = 0; rw [listL_length]; omega
            have q1 : d.st.x1.que.length = 0 := by show (listL d.x1.S d.x1.G).length = 0; rw [listL_length]; omega
            have v0 : d.st.x0.una.length = 0 := by show (listL d.x0.A d.x0.S).length = 0; rw [listL_length]; omega
            have v1 : d.st.x1.una.length = 0 := by show (listL d.x1.A d.x1.S).length = 0; rw [listL_length]; omega
            have hw0 := I.waiting hP.e0
            rw [q0, v0] at hw0
            have hw1 : ∀ w', Below wr.heap.size wr w' → _ := fun w' hb' => I.waiting (hP.later hb').e1
            rw [q1, v1] at hw1
            have HW0 := Lib.hid hw0
            have HW1 := Lib.hid hw1
            have HX := Lib.hid (And.intro ok (And.intro sm (And.intro hL (And.intro hP hb))))
            have HA := Lib.hid (And.intro a1 a2)
            clear hd hw0 hw1 q0 q1 v0 v1 a3 a4 a5 a6 a1 a2 ok sm hL hP hb
            go_wp2_with fail
            refine HW0.out.mono ?_
            rintro e w2 ⟨rfl, q2, rfl⟩
            have hb2 := below_draw wr q2
            have c1' := (HX.out.2.2.2.1.later hb2).c1
            clear c0 c1
            go_wp2_with fail
            refine (HW1.out _ hb2).mono ?_
            rintro e w3 ⟨rfl, q3, rfl⟩
            have hb3 : Below wr.heap.size wr ((wr.drewN q2).drewN q3) := hb2.trans (Below.mono (below_draw _ q3) hb2.size)
            generalize (wr.drewN q2).drewN q3 = W3 at hb3 ⊢
            obtain ⟨ok, sm, hL, hP, hb⟩ := HX.out
            obtain ⟨a1, a2⟩ := HA.out
            have hP3 := hP.later hb3
            have t0 : d.st.t0.length = d.x1.G := by show (listL 0 d.y0.n).length = _; rw [listL_length]; exact a1
            have t1 : d.st.t1.length = d.x0.G := by show (listL 0 d.y1.n).length = _; rw [listL_length]; exact a2
            have c4 : W3.cell? ⟨p, 4, none⟩ = some (.int .i64 (d.x0.G : Int)) := hP3.c4
            have c5 : W3.cell? ⟨p, 5, none⟩ = some (.int .i64 (d.x1.G : Int)) := hP3.c5
            have c6 := hP3.c6
            have c7 := hP3.c7
            rw [t0] at c6
            rw [t1] at c7
            have hD3 : DuoAt I W3 p W.heap.size 400 := ⟨d, L, ok, sm, hL, hP3⟩
            have c8 := hD3.c8
            have hpl : p < W3.heap.size := hP3.own.lt
            have hS : ∀ W, Below W3.heap.size W3 W → Below W3.heap.size W3 W ∧ W.cell? ⟨p, 4, none⟩ = some (.int .i64 (d.x0.G : Int)) ∧ W.cell? ⟨p, 5, none⟩ = some (.int .i64 (d.x1.G : Int)) ∧ W.cell? ⟨p, 6, none⟩ = some (.slice L.d0 d.x1.G L.q0) ∧ W.cell? ⟨p, 7, none⟩ = some (.slice L.d1 d.x0.G L.q1) ∧ W.cell? ⟨p, 8, none⟩ = some (.bool false) := fun W hb' => ⟨hb', (hb'.cell (p := ⟨p, 4, none⟩) hpl).trans c4, (hb'.cell (p := ⟨p, 5, none⟩) hpl).trans c5, (hb'.cell (p := ⟨p, 6, none⟩) hpl).trans c6, (hb'.cell (p := ⟨p, 7, none⟩) hpl).trans c7, (hb'.cell (p := ⟨p, 8, none⟩) hpl).trans c8⟩
            have hS0 := hS W3 (Below.refl _ _)
            have hSn : ∀ W W', Below W3.heap.size W3 W → Below W.heap.size W W' → Below W3.heap.size W3 W' := fun W W' h1 h2 => h1.trans (Below.mono h2 h1.size)
            have HG0 := Lib.hid fun (W : World) (hb' : Below W3.heap.size W3 W) => good_duo0 I (hD3.later hb') (by omega)
            have HG1 := Lib.hid fun (W : World) (hb' : Below W3.heap.size W3 W) => good_duo1 I (hD3.later hb') (by omega)
            have HSt := Lib.hid hS
            have HSn := Lib.hid hSn
            have HBW := Lib.hid (hb.trans (Below.mono hb3 hb.size))
            clear HW0 HW1 HX HA HB HP0 HL0 HO HS ok sm hL hP hb a1 a2 hP3 t0 t1 hD3 c1' hb2 hb3 hS hSn c4 c5 c6 c7 c8
            go_wp2_with fail
            go_region_held3 (fun W => Below W3.heap.size W3 W ∧ W.cell? ⟨p, 4, none⟩ = some (.int .i64 (d.x0.G : Int)) ∧ W.cell? ⟨p, 5, none⟩ = some (.int .i64 (d.x1.G : Int)) ∧ W.cell? ⟨p, 6, none⟩ = some (.slice L.d0 d.x1.G L.q0) ∧ W.cell? ⟨p, 7, none⟩ = some (.slice L.d1 d.x0.G L.q1) ∧ W.cell? ⟨p, 8, none⟩ = some (.bool false)) (first | assumption | exact HSt.out _ (below_draw _ _) | exact HSt.out _ (Below.refl _ _))
              (first
                | (go_at_call 29; ((with_reducible refine (HG0.out _ (And.left (by assumption))).mono ?_); rintro e w4 ⟨rfl, hb4⟩); have hS4 := HSt.out _ (HSn.out _ _ (And.left (by assumption)) hb4); clear hb4)
                | (go_at_call 29; ((with_reducible refine (HG1.out _ (And.left (by assumption))).mono ?_); rintro e w5 ⟨rfl, hb5⟩); have hS5 := HSt.out _ (HSn.out _ _ (And.left (by assumption)) hb5); clear hb5)
                | (go_at_call 9; ((with_reducible refine (HL.out _).mono ?_); rintro e w6 ⟨rfl, hb6⟩); have hS6 := HSt.out _ (HSn.out _ _ (And.left (by assumption)) hb6); clear hb6)
                | fail)
            all_goals
              go_wp2
              go_ret
              exact ⟨rfl, HB0.out.trans (Below.mono (HBW.out.trans (Below.mono (And.left (by assumption)) HBW.out.size)) HB0.out.size)⟩
end Go.Proofs.Ytpggiajpjnegkaa
