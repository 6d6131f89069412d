/- Statements of layer 10: FlowsScript. -/
import Derived.Test.YtmjgagbmpcbjmaaFlOne
import Derived.Test.YtmjgagbmpcbjmaaFlRel
import Derived.Deep.RegionHeld3
import Derived.Deep.CutBlock
namespace Go.Proofs.Ytmjgagbmpcbjmaa
open Go.RowKit

/-- A flow control beside the model. -/
structure Sc (w0 w : World) (b g : Nat) (x : Fl) (m : Fm) : Prop where
  x : FlAt w b x
  m : FmAt w g m
  ne : b ≠ g
  lb : w0.heap.size ≤ b
  lg : w0.heap.size ≤ g
  bel : Below w0.heap.size w0 w
theorem Sc.more {w0 w w' : World} {b g : Nat} {x : Fl} {m : Fm} (h : Sc w0 w b g x m) (hb : Below w.heap.size w w') : Sc w0 w' b g x m :=
  ⟨h.x.below hb, h.m.below hb h.m.lt, h.ne, h.lb, h.lg, h.bel.trans (Below.mono hb h.bel.size)⟩
theorem Sc.drew {w0 w : World} {b g : Nat} {x : Fl} {m : Fm} (h : Sc w0 w b g x m) (q : Nat) : Sc w0 (w.drewN q) b g x m := h.more (below_draw w q)
theorem perform_sc {w0 w : World} {b g : Nat} {x : Fl} {m : Fm} (h : Sc w0 w b g x m) (a : Nat) (ha : a ≤ 255) :
    Calls Try.prog 13 #[.pointer (some ⟨b, 0, none⟩), .int .u8 (a : Int)] w fun e w' => e = .returned (.int .i64 (x.err a : Int)) ∧ Sc w0 w' b g (x.act a) m := by
  refine (perform_any b x w h.x a ha).mono ?_
  rintro e w' ⟨rfl, n⟩
  exact ⟨rfl, n.1, h.m.exc n.2 (fun e => h.ne e.symm), h.ne, h.lb, h.lg, h.bel.trans (n.2.below h.bel.size (fun i _ e => by have := h.lb; omega))⟩
theorem mact_sc {w0 w : World} {b g : Nat} {x : Fl} {m : Fm} (h : Sc w0 w b g x m) (hf : m.Fit) (a : Nat) (ha : a ≤ 255) :
    Calls Try.prog 14 #[.pointer (some ⟨g, 0, none⟩), .int .u8 (a : Int)] w fun e w' => e = .returned (.int .i64 (m.err a : Int)) ∧ Sc w0 w' b g x (m.act a) := by
  refine (mact_any g m w h.m hf a ha).mono ?_
  rintro e w' ⟨rfl, n⟩
  exact ⟨rfl, h.x.exc n.2 (fun e => h.ne e), n.1, h.ne, h.lb, h.lg, h.bel.trans (n.2.below h.bel.size (fun i _ e => by have := h.lg; omega))⟩
theorem lsends_sc {w0 w : World} {b g T : Nat} {x : Fl} {m : Fm} (hT : x.stat = T) (h : Sc w0 w b g x m) :
    Calls Try.prog 16 #[.pointer (some ⟨b, 0, none⟩)] w fun e w' => e = .returned (.int .u8 (T : Int)) ∧ w' = w := by rw [← hT]; exact lsends b x w h.x
theorem msends_sc {w0 w : World} {b g T : Nat} {x : Fl} {m : Fm} (hT : m.stat = T) (hf : m.Fit) (h : Sc w0 w b g x m) :
    Calls Try.prog 17 #[.pointer (some ⟨g, 0, none⟩)] w fun e w' => e = .returned (.int .u8 (T : Int)) ∧ ∃ q, w' = w.drewN q := by rw [← hT]; exact msends_any g m w h.m hf
theorem failed_sc {w0 w : World} {b g : Nat} {F : Bool} {x : Fl} {m : Fm} (hF : x.failed = F) (h : Sc w0 w b g x m) :
    Calls Try.prog 18 #[.pointer (some ⟨b, 0, none⟩)] w fun e w' => e = .returned (.bool F) ∧ w' = w := by rw [← hF]; exact fl_failed b x w h.x
theorem held_sc {w0 w : World} {b g : Nat} {C O : Bool} {x : Fl} {m : Fm} (hC : x.con = C) (hO : (x.out || x.away) = O) (h : Sc w0 w b g x m) :
    Calls Try.prog 15 #[.pointer (some ⟨b, 0, none⟩)] w fun e w' => e = .returned (.tuple #[.bool C, .bool O]) ∧ Sc w0 w' b g x m := by
  refine (fl_held b x w h.x).mono ?_
  rintro e w' ⟨rfl, q, rfl⟩
  rw [hC, hO]
  exact ⟨rfl, h.drew q⟩
set_option maxHeartbeats 4000000 in
set_option maxRecDepth 100000 in
theorem script_any (a0 a1 a2 : Nat) (s : Option Addr) (n c : Nat) (l : List Int) (w : World) (h0 : a0 ≤ 255) (h1 : a1 ≤ 255) (h2 : a2 ≤ 255) (hr : Row .u8 w s n c l) :
    Calls Try.prog 3 #[.agg #[.int .u8 (a0 : Int), .int .u8 (a1 : Int), .int .u8 (a2 : Int)], .slice s n c] w fun e w' => e = .returned (.bool true) ∧ Below w.heap.size w w' := by
  obtain ⟨W, hW⟩ : ∃ X, X = w.alloc (.cells #[.int .u8 (a0 : Int), .int .u8 (a1 : Int), .int .u8 (a2 : Int)] 23) := ⟨_, rfl⟩
  have hbW : Below w.heap.size w W := by rw [hW]; exact below_alloc _ _
  have oW : Own W w.heap.size 23 [.int .u8 (a0 : Int), .int .u8 (a1 : Int), .int .u8 (a2 : Int)] := by rw [hW]; exact Blk.fresh w _ _ _ rfl
  have c0 := oW.cell 0 (by simp)
  have c1 := oW.cell 1 (by simp)
  have c2 := oW.cell 2 (by simp)
  simp only [List.getD_cons_succ, List.getD_cons_zero] at c0 c1 c2
  obtain ⟨t, ht⟩ : ∃ t, t = tmOf a0 a1 a2 := ⟨_, rfl⟩
  have hlo : t.Low := by rw [ht]; exact tmOf_low ..
  have HOf := Lib.hid (fun W' => of_any a0 a1 a2 W' h0 h1 h2 t ht)
  have HW := Lib.hid hW
  have HO := Lib.hid oW
  have HB := Lib.hid hbW
  have HLo := Lib.hid hlo
  have HLv := Lib.hid lives_any
  clear hW hbW oW ht hlo h0 h1 h2
  have HR := Lib.hid hr
  clear hr
  by_cases g1 : 200 < n
  · have g2 : (200 : Int) < (n : Int) := by omega
    clear g1 HOf HLo HR HO
    go_enter Try.func3, Try.ntmps3
    go_upto_region 1 with fail
    rw [← HW.out]
    go_wp2_with fail
    with_reducible refine (HLv.out W).mono ?_
    rintro e w1 ⟨rfl, hb1⟩
    have HB1 := Lib.hid (HB.out.trans (Below.mono hb1 HB.out.size))
    clear hb1 HLv
    go_wp2
    go_ret
    exact ⟨rfl, HB1.out⟩
  have g2 : ¬ (200 : Int) < (n : Int) := by omega
  have HG := Lib.hid g1
  clear g1
  go_enter Try.func3, Try.ntmps3
  go_upto_region 1 with fail
  rw [← HW.out]
  clear HW
  go_wp2_with fail
  with_reducible refine (HOf.out _).mono ?_
  rintro e w2 ⟨rfl, hb2⟩
  have HB2 := Lib.hid (HB.out.trans (Below.mono hb2 HB.out.size))
  have o2 := HO.out.below hb2 HO.out.lt
  clear hb2 g2 c0 c1 c2 HO HB
  go_wp2_with fail
  with_reducible refine (new_one t HLo.out.fit (Below.refl w2.heap.size w2)).mono ?_
  rintro e w3 ⟨b, rfl, _, h3, hb3⟩
  have o3 := o2.below hb3 o2.lt
  have c0 := o3.cell 0 (by simp)
  have c1 := o3.cell 1 (by simp)
  have c2 := o3.cell 2 (by simp)
  simp only [List.getD_cons_succ, List.getD_cons_zero] at c0 c1 c2
  have H3 := Lib.hid h3
  clear h3 hb3 o2 o3
  go_wp2_with fail
  with_reducible refine (HOf.out _).mono ?_
  rintro e w4 ⟨rfl, hb4⟩
  have h4 := H3.out.more hb4
  obtain ⟨W5, hW5⟩ : ∃ X, X = w4.alloc (.cells #[.int .i64 (t.again : Int), .int .i64 (t.most : Int), .int .i64 (t.wait : Int), .int .i64 (-1), .int .i64 0, .bool false, .bool false, .int .i64 (-1), .int .i64 (-1), .bool false] 34) := ⟨_, rfl⟩
  obtain ⟨g, hg⟩ : ∃ g, g = w4.heap.size := ⟨_, rfl⟩
  have hmd : FmAt W5 g ⟨t, -1, 0, false, false, -1, -1, false⟩ := by rw [hW5, hg]; exact Blk.fresh w4 _ _ _ rfl
  have h5 : Sc w2 W5 b g (Fl.new t) ⟨t, -1, 0, false, false, -1, -1, false⟩ := ⟨by rw [hW5]; exact h4.at'.below (below_alloc w4 _), hmd, by have := h4.at'.lt; omega, h4.low, by rw [hg]; exact h4.bel.size, by rw [hW5]; exact h4.bel.alloc h4.bel.size _⟩
  have H5 := Lib.hid (show ∃ x m, Sc w2 W5 b g x m ∧ Rel 0 x m from ⟨_, _, h5, Rel.new t⟩)
  have HW5 := Lib.hid hW5
  have Hg := Lib.hid hg
  clear hb4 h4 hmd h5 hW5 hg H3 c0 c1 c2 HOf
  go_upto_region 7 with fail
  rw [← Hg.out, ← HW5.out]
  clear HW5 Hg
  go_wp2_with fail
  go_loopw [8] (fun v wr => ∃ k : Nat, k ≤ n ∧ v = .int .i64 k ∧ ∃ x m, Sc w2 wr b g x m ∧ Rel k x m) (fun v _ => n - (intOf v).toNat)
  case atStart => exact ⟨0, Nat.zero_le _, rfl, H5.out⟩
  case round =>
    obtain ⟨k, hk, rfl, x, m, hx, hm⟩ := hrel
    have HX := Lib.hid (And.intro hx hm)
    clear hx hm H5
    by_cases hlt : k < n
    · have hki : (k : Int) < (n : Int) := by omega
      have k0 : (0 : Int) ≤ (k : Int) := by omega
      obtain ⟨sb, so, rfl, hcell, hv⟩ := (HR.out.later (HB2.out.trans (Below.mono HX.out.1.bel HB2.out.size))).oct k hlt
      obtain ⟨a, haa⟩ : ∃ a, a = oct l k := ⟨_, rfl⟩
      rw [← haa] at hcell hv
      have hw1 : IntKind.i64.wrap ((k : Int) + 1) = ((k + 1 : Nat) : Int) := by have := HG.out; rw [IntWalk.i64_in _ (by omega)]; omega
      obtain ⟨K, hK⟩ : ∃ K, K = k + 1 := ⟨_, rfl⟩
      rw [← hK] at hw1
      have hmf : m.Fit := HX.out.2.mfit HX.out.1.x.fit.t (by have := HG.out; omega)
      have hrl := HX.out.2.act HX.out.1.x.fit a
      have hpc := perform_sc (show Sc w2 wr.drew b g x m from HX.out.1.drew 1) a hv
      have hac := fun W (h : Sc w2 W b g (x.act a) m) => mact_sc h hmf a hv
      have he := HX.out.2.err a
      obtain ⟨E, hE⟩ : ∃ E, E = x.err a := ⟨_, rfl⟩
      rw [he] at hac
      simp only [← hE] at hpc hac
      have hcl := fun W (h : Below wr.heap.size wr W) => (h.cell (World.block_lt_of_cell? wr _ hcell)).trans hcell
      obtain ⟨y, hy⟩ : ∃ y, y = x.act a := ⟨_, rfl⟩
      obtain ⟨q, hq⟩ : ∃ q, q = m.act a := ⟨_, rfl⟩
      rw [← hy] at hpc hrl
      simp only [← hy, ← hq] at hac
      rw [← hq] at hrl
      have hS := fun W x m (h : Sc w2 W b g x m) => (show W.cell? ⟨sb, so + k, none⟩ = some (.int .u8 (a : Int)) from by
        obtain ⟨b1, o1, e1, hc1, _⟩ := (HR.out.later (HB2.out.trans (Below.mono h.bel HB2.out.size))).oct k hlt
        cases e1
        rw [haa]; exact hc1)
      have HPc := Lib.hid hpc
      have HAc := Lib.hid hac
      have HRl := Lib.hid hrl
      have HS := Lib.hid hS
      have HK := Lib.hid (And.intro hK hlt)
      clear hlt hk haa hv hK hmf hrl hpc hac he hE hcl hy hq hS
      go_upto_region 10 with fail
      first
        | go_region_held3 (fun W => W.cell? ⟨sb, so + k, none⟩ = some (.int .u8 (a : Int))) (first | assumption | exact HS.out _ _ _ (by assumption) | go_keep)
            (first
              | (go_at_call 13; ((with_reducible refine HPc.out.mono ?_); rintro e w7 ⟨rfl, h7⟩))
              | (go_at_call 14; ((with_reducible refine (HAc.out _ (by assumption)).mono ?_); rintro e w8 ⟨rfl, h8⟩))
              | fail)
        | fail
      have H8 := Lib.hid h8
      have HQ := Lib.hid (HRl.out.mfit h8.x.fit.t (by have := HG.out; have := HK.out; omega))
      have hst := HRl.out.stat
      obtain ⟨T, hT⟩ : ∃ T, y.stat = T := ⟨_, rfl⟩
      rw [hT] at hst
      have HSt := Lib.hid (And.intro hT hst)
      clear h7 h8 hT hst hcell HPc HAc HS HX
      cases hC : y.con
      case false =>
        cases hO : y.out
        case false =>
          cases hA : y.away
          case false =>
            cases hF : y.failed
            case false =>
              have HHd := Lib.hid (held_sc hC (show (y.out || y.away) = false by rw [hO, hA]; rfl) H8.out)
              have r5 : q.out = false := HRl.out.out.trans hO
              have r6 : q.far = false := HRl.out.far.trans hA
              have r9 : q.failed = false := HRl.out.failed.trans hF
              have hBG : q.began = -1 := HRl.out.non hC
              have HFd := Lib.hid (fun W (h : Sc w2 W b g y q) => failed_sc hF h)
              have HRe := Lib.hid (And.intro r5 (And.intro r6 (And.intro r9 hBG)))
              clear hC hO hF r5 r9 hBG r6 hA
              go_wp2_with fail
              with_reducible refine HHd.out.mono ?_
              rintro e w9 ⟨rfl, h9⟩
              have c3 := FmAt.c3 h9.m
              have c5 := FmAt.c5 h9.m
              have c6 := FmAt.c6 h9.m
              have c9 := FmAt.c9 h9.m
              rw [HRe.out.2.2.2] at c3
              rw [HRe.out.1] at c5
              rw [HRe.out.2.1] at c6
              rw [HRe.out.2.2.1] at c9
              have H9 := Lib.hid h9
              clear h9 H8 HHd
              go_wp2_with fail
              go_quiet (first
                | (go_at_call 16; exact Calls.quiet_of_same (lsends_sc HSt.out.1 (H9.out.drew _)))
                | (go_at_call 17; exact Calls.quiet_of (msends_sc HSt.out.2 HQ.out (H9.out.drew _)))
                | (go_at_call 18; exact Calls.quiet_of_same (HFd.out _ (H9.out.drew _)))
                | fail)
              have h10 := H9.out.drew nq
              generalize w9.drewN nq = W10 at h10 ⊢
              have H10 := Lib.hid h10
              clear h10 H9 c3 c5 c9 c6
              go_wp2_with fail
              obtain ⟨hK, hlt⟩ := HK.out
              subst hK
              exact ⟨⟨k + 1, by omega, by rfl, y, q, H10.out, HRl.out⟩, by simp only [intOf]; omega⟩
            case true =>
              have HHd := Lib.hid (held_sc hC (show (y.out || y.away) = false by rw [hO, hA]; rfl) H8.out)
              have r5 : q.out = false := HRl.out.out.trans hO
              have r6 : q.far = false := HRl.out.far.trans hA
              have r9 : q.failed = true := HRl.out.failed.trans hF
              have hBG : q.began = -1 := HRl.out.non hC
              have HFd := Lib.hid (fun W (h : Sc w2 W b g y q) => failed_sc hF h)
              have HRe := Lib.hid (And.intro r5 (And.intro r6 (And.intro r9 hBG)))
              clear hC hO hF r5 r9 hBG r6 hA
              go_wp2_with fail
              with_reducible refine HHd.out.mono ?_
              rintro e w9 ⟨rfl, h9⟩
              have c3 := FmAt.c3 h9.m
              have c5 := FmAt.c5 h9.m
              have c6 := FmAt.c6 h9.m
              have c9 := FmAt.c9 h9.m
              rw [HRe.out.2.2.2] at c3
              rw [HRe.out.1] at c5
              rw [HRe.out.2.1] at c6
              rw [HRe.out.2.2.1] at c9
              have H9 := Lib.hid h9
              clear h9 H8 HHd
              go_wp2_with fail
              go_quiet (first
                | (go_at_call 16; exact Calls.quiet_of_same (lsends_sc HSt.out.1 (H9.out.drew _)))
                | (go_at_call 17; exact Calls.quiet_of (msends_sc HSt.out.2 HQ.out (H9.out.drew _)))
                | (go_at_call 18; exact Calls.quiet_of_same (HFd.out _ (H9.out.drew _)))
                | fail)
              have h10 := H9.out.drew nq
              generalize w9.drewN nq = W10 at h10 ⊢
              have H10 := Lib.hid h10
              clear h10 H9 c3 c5 c9 c6
              go_wp2_with fail
              obtain ⟨hK, hlt⟩ := HK.out
              subst hK
              exact ⟨⟨k + 1, by omega, by rfl, y, q, H10.out, HRl.out⟩, by simp only [intOf]; omega⟩
          case true =>
            cases hF : y.failed
            case false =>
              have HHd := Lib.hid (held_sc hC (show (y.out || y.away) = true by rw [hO, hA]; rfl) H8.out)
              have r5 : q.out = false := HRl.out.out.trans hO
              have r6 : q.far = true := HRl.out.far.trans hA
              have r9 : q.failed = false := HRl.out.failed.trans hF
              have hBG : q.began = -1 := HRl.out.non hC
              have HFd := Lib.hid (fun W (h : Sc w2 W b g y q) => failed_sc hF h)
              have HRe := Lib.hid (And.intro r5 (And.intro r6 (And.intro r9 hBG)))
              clear hC hO hF r5 r9 hBG r6 hA
              go_wp2_with fail
              with_reducible refine HHd.out.mono ?_
              rintro e w9 ⟨rfl, h9⟩
              have c3 := FmAt.c3 h9.m
              have c5 := FmAt.c5 h9.m
              have c6 := FmAt.c6 h9.m
              have c9 := FmAt.c9 h9.m
              rw [HRe.out.2.2.2] at c3
              rw [HRe.out.1] at c5
              rw [HRe.out.2.1] at c6
              rw [HRe.out.2.2.1] at c9
              have H9 := Lib.hid h9
              clear h9 H8 HHd
              go_wp2_with fail
              go_quiet (first
                | (go_at_call 16; exact Calls.quiet_of_same (lsends_sc HSt.out.1 (H9.out.drew _)))
                | (go_at_call 17; exact Calls.quiet_of (msends_sc HSt.out.2 HQ.out (H9.out.drew _)))
                | (go_at_call 18; exact Calls.quiet_of_same (HFd.out _ (H9.out.drew _)))
                | fail)
              have h10 := H9.out.drew nq
              generalize w9.drewN nq = W10 at h10 ⊢
              have H10 := Lib.hid h10
              clear h10 H9 c3 c5 c9 c6
              go_wp2_with fail
              obtain ⟨hK, hlt⟩ := HK.out
              subst hK
              exact ⟨⟨k + 1, by omega, by rfl, y, q, H10.out, HRl.out⟩, by simp only [intOf]; omega⟩
            case true =>
              have HHd := Lib.hid (held_sc hC (show (y.out || y.away) = true by rw [hO, hA]; rfl) H8.out)
              have r5 : q.out = false := HRl.out.out.trans hO
              have r6 : q.far = true := HRl.out.far.trans hA
              have r9 : q.failed = true := HRl.out.failed.trans hF
              have hBG : q.began = -1 := HRl.out.non hC
              have HFd := Lib.hid (fun W (h : Sc w2 W b g y q) => failed_sc hF h)
              have HRe := Lib.hid (And.intro r5 (And.intro r6 (And.intro r9 hBG)))
              clear hC hO hF r5 r9 hBG r6 hA
              go_wp2_with fail
              with_reducible refine HHd.out.mono ?_
              rintro e w9 ⟨rfl, h9⟩
              have c3 := FmAt.c3 h9.m
              have c5 := FmAt.c5 h9.m
              have c6 := FmAt.c6 h9.m
              have c9 := FmAt.c9 h9.m
              rw [HRe.out.2.2.2] at c3
              rw [HRe.out.1] at c5
              rw [HRe.out.2.1] at c6
              rw [HRe.out.2.2.1] at c9
              have H9 := Lib.hid h9
              clear h9 H8 HHd
              go_wp2_with fail
              go_quiet (first
                | (go_at_call 16; exact Calls.quiet_of_same (lsends_sc HSt.out.1 (H9.out.drew _)))
                | (go_at_call 17; exact Calls.quiet_of (msends_sc HSt.out.2 HQ.out (H9.out.drew _)))
                | (go_at_call 18; exact Calls.quiet_of_same (HFd.out _ (H9.out.drew _)))
                | fail)
              have h10 := H9.out.drew nq
              generalize w9.drewN nq = W10 at h10 ⊢
              have H10 := Lib.hid h10
              clear h10 H9 c3 c5 c9 c6
              go_wp2_with fail
              obtain ⟨hK, hlt⟩ := HK.out
              subst hK
              exact ⟨⟨k + 1, by omega, by rfl, y, q, H10.out, HRl.out⟩, by simp only [intOf]; omega⟩
        case true =>
          cases hF : y.failed
          case false =>
            have HHd := Lib.hid (held_sc hC (show (y.out || y.away) = true by rw [hO]; rfl) H8.out)
            have r5 : q.out = true := HRl.out.out.trans hO
            have r9 : q.failed = false := HRl.out.failed.trans hF
            have hBG : q.began = -1 := HRl.out.non hC
            have HFd := Lib.hid (fun W (h : Sc w2 W b g y q) => failed_sc hF h)
            have HRe := Lib.hid (And.intro r5 (And.intro True.intro (And.intro r9 hBG)))
            clear hC hO hF r5 r9 hBG
            go_wp2_with fail
            with_reducible refine HHd.out.mono ?_
            rintro e w9 ⟨rfl, h9⟩
            have c3 := FmAt.c3 h9.m
            have c5 := FmAt.c5 h9.m
            have c9 := FmAt.c9 h9.m
            rw [HRe.out.2.2.2] at c3
            rw [HRe.out.1] at c5
            rw [HRe.out.2.2.1] at c9
            have H9 := Lib.hid h9
            clear h9 H8 HHd
            go_wp2_with fail
            go_quiet (first
              | (go_at_call 16; exact Calls.quiet_of_same (lsends_sc HSt.out.1 (H9.out.drew _)))
              | (go_at_call 17; exact Calls.quiet_of (msends_sc HSt.out.2 HQ.out (H9.out.drew _)))
              | (go_at_call 18; exact Calls.quiet_of_same (HFd.out _ (H9.out.drew _)))
              | fail)
            have h10 := H9.out.drew nq
            generalize w9.drewN nq = W10 at h10 ⊢
            have H10 := Lib.hid h10
            clear h10 H9 c3 c5 c9
            go_wp2_with fail
            obtain ⟨hK, hlt⟩ := HK.out
            subst hK
            exact ⟨⟨k + 1, by omega, by rfl, y, q, H10.out, HRl.out⟩, by simp only [intOf]; omega⟩
          case true =>
            have HHd := Lib.hid (held_sc hC (show (y.out || y.away) = true by rw [hO]; rfl) H8.out)
            have r5 : q.out = true := HRl.out.out.trans hO
            have r9 : q.failed = true := HRl.out.failed.trans hF
            have hBG : q.began = -1 := HRl.out.non hC
            have HFd := Lib.hid (fun W (h : Sc w2 W b g y q) => failed_sc hF h)
            have HRe := Lib.hid (And.intro r5 (And.intro True.intro (And.intro r9 hBG)))
            clear hC hO hF r5 r9 hBG
            go_wp2_with fail
            with_reducible refine HHd.out.mono ?_
            rintro e w9 ⟨rfl, h9⟩
            have c3 := FmAt.c3 h9.m
            have c5 := FmAt.c5 h9.m
            have c9 := FmAt.c9 h9.m
            rw [HRe.out.2.2.2] at c3
            rw [HRe.out.1] at c5
            rw [HRe.out.2.2.1] at c9
            have H9 := Lib.hid h9
            clear h9 H8 HHd
            go_wp2_with fail
            go_quiet (first
              | (go_at_call 16; exact Calls.quiet_of_same (lsends_sc HSt.out.1 (H9.out.drew _)))
              | (go_at_call 17; exact Calls.quiet_of (msends_sc HSt.out.2 HQ.out (H9.out.drew _)))
              | (go_at_call 18; exact Calls.quiet_of_same (HFd.out _ (H9.out.drew _)))
              | fail)
            have h10 := H9.out.drew nq
            generalize w9.drewN nq = W10 at h10 ⊢
            have H10 := Lib.hid h10
            clear h10 H9 c3 c5 c9
            go_wp2_with fail
            obtain ⟨hK, hlt⟩ := HK.out
            subst hK
            exact ⟨⟨k + 1, by omega, by rfl, y, q, H10.out, HRl.out⟩, by simp only [intOf]; omega⟩
      case true =>
        cases hO : y.out
        case false =>
          cases hA : y.away
          case false =>
            cases hF : y.failed
            case false =>
              have HHd := Lib.hid (held_sc hC (show (y.out || y.away) = false by rw [hO, hA]; rfl) H8.out)
              have r5 : q.out = false := HRl.out.out.trans hO
              have r6 : q.far = false := HRl.out.far.trans hA
              have r9 : q.failed = false := HRl.out.failed.trans hF
              have r3 : 0 ≤ q.began := (HRl.out.con hC).1
              obtain ⟨BG, hBG⟩ : ∃ B, q.began = B := ⟨_, rfl⟩
              rw [hBG] at r3
              have r3d : decide (0 ≤ BG) = true := decide_eq_true r3
              have HFd := Lib.hid (fun W (h : Sc w2 W b g y q) => failed_sc hF h)
              have HRe := Lib.hid (And.intro r5 (And.intro r6 (And.intro r9 hBG)))
              clear hC hO hF r5 r9 hBG r6 hA
              go_wp2_with fail
              with_reducible refine HHd.out.mono ?_
              rintro e w9 ⟨rfl, h9⟩
              have c3 := FmAt.c3 h9.m
              have c5 := FmAt.c5 h9.m
              have c6 := FmAt.c6 h9.m
              have c9 := FmAt.c9 h9.m
              rw [HRe.out.2.2.2] at c3
              rw [HRe.out.1] at c5
              rw [HRe.out.2.1] at c6
              rw [HRe.out.2.2.1] at c9
              have H9 := Lib.hid h9
              clear h9 H8 HHd
              go_wp2_with fail
              go_quiet (first
                | (go_at_call 16; exact Calls.quiet_of_same (lsends_sc HSt.out.1 (H9.out.drew _)))
                | (go_at_call 17; exact Calls.quiet_of (msends_sc HSt.out.2 HQ.out (H9.out.drew _)))
                | (go_at_call 18; exact Calls.quiet_of_same (HFd.out _ (H9.out.drew _)))
                | fail)
              have h10 := H9.out.drew nq
              generalize w9.drewN nq = W10 at h10 ⊢
              have H10 := Lib.hid h10
              clear h10 H9 c3 c5 c9 c6
              go_wp2_with fail
              obtain ⟨hK, hlt⟩ := HK.out
              subst hK
              exact ⟨⟨k + 1, by omega, by rfl, y, q, H10.out, HRl.out⟩, by simp only [intOf]; omega⟩
            case true =>
              have HHd := Lib.hid (held_sc hC (show (y.out || y.away) = false by rw [hO, hA]; rfl) H8.out)
              have r5 : q.out = false := HRl.out.out.trans hO
              have r6 : q.far = false := HRl.out.far.trans hA
              have r9 : q.failed = true := HRl.out.failed.trans hF
              have r3 : 0 ≤ q.began := (HRl.out.con hC).1
              obtain ⟨BG, hBG⟩ : ∃ B, q.began = B := ⟨_, rfl⟩
              rw [hBG] at r3
              have r3d : decide (0 ≤ BG) = true := decide_eq_true r3
              have HFd := Lib.hid (fun W (h : Sc w2 W b g y q) => failed_sc hF h)
              have HRe := Lib.hid (And.intro r5 (And.intro r6 (And.intro r9 hBG)))
              clear hC hO hF r5 r9 hBG r6 hA
              go_wp2_with fail
              with_reducible refine HHd.out.mono ?_
              rintro e w9 ⟨rfl, h9⟩
              have c3 := FmAt.c3 h9.m
              have c5 := FmAt.c5 h9.m
              have c6 := FmAt.c6 h9.m
              have c9 := FmAt.c9 h9.m
              rw [HRe.out.2.2.2] at c3
              rw [HRe.out.1] at c5
              rw [HRe.out.2.1] at c6
              rw [HRe.out.2.2.1] at c9
              have H9 := Lib.hid h9
              clear h9 H8 HHd
              go_wp2_with fail
              go_quiet (first
                | (go_at_call 16; exact Calls.quiet_of_same (lsends_sc HSt.out.1 (H9.out.drew _)))
                | (go_at_call 17; exact Calls.quiet_of (msends_sc HSt.out.2 HQ.out (H9.out.drew _)))
                | (go_at_call 18; exact Calls.quiet_of_same (HFd.out _ (H9.out.drew _)))
                | fail)
              have h10 := H9.out.drew nq
              generalize w9.drewN nq = W10 at h10 ⊢
              have H10 := Lib.hid h10
              clear h10 H9 c3 c5 c9 c6
              go_wp2_with fail
              obtain ⟨hK, hlt⟩ := HK.out
              subst hK
              exact ⟨⟨k + 1, by omega, by rfl, y, q, H10.out, HRl.out⟩, by simp only [intOf]; omega⟩
          case true =>
            cases hF : y.failed
            case false =>
              have HHd := Lib.hid (held_sc hC (show (y.out || y.away) = true by rw [hO, hA]; rfl) H8.out)
              have r5 : q.out = false := HRl.out.out.trans hO
              have r6 : q.far = true := HRl.out.far.trans hA
              have r9 : q.failed = false := HRl.out.failed.trans hF
              have r3 : 0 ≤ q.began := (HRl.out.con hC).1
              obtain ⟨BG, hBG⟩ : ∃ B, q.began = B := ⟨_, rfl⟩
              rw [hBG] at r3
              have r3d : decide (0 ≤ BG) = true := decide_eq_true r3
              have HFd := Lib.hid (fun W (h : Sc w2 W b g y q) => failed_sc hF h)
              have HRe := Lib.hid (And.intro r5 (And.intro r6 (And.intro r9 hBG)))
              clear hC hO hF r5 r9 hBG r6 hA
              go_wp2_with fail
              with_reducible refine HHd.out.mono ?_
              rintro e w9 ⟨rfl, h9⟩
              have c3 := FmAt.c3 h9.m
              have c5 := FmAt.c5 h9.m
              have c6 := FmAt.c6 h9.m
              have c9 := FmAt.c9 h9.m
              rw [HRe.out.2.2.2] at c3
              rw [HRe.out.1] at c5
              rw [HRe.out.2.1] at c6
              rw [HRe.out.2.2.1] at c9
              have H9 := Lib.hid h9
              clear h9 H8 HHd
              go_wp2_with fail
              go_quiet (first
                | (go_at_call 16; exact Calls.quiet_of_same (lsends_sc HSt.out.1 (H9.out.drew _)))
                | (go_at_call 17; exact Calls.quiet_of (msends_sc HSt.out.2 HQ.out (H9.out.drew _)))
                | (go_at_call 18; exact Calls.quiet_of_same (HFd.out _ (H9.out.drew _)))
                | fail)
              have h10 := H9.out.drew nq
              generalize w9.drewN nq = W10 at h10 ⊢
              have H10 := Lib.hid h10
              clear h10 H9 c3 c5 c9 c6
              go_wp2_with fail
              obtain ⟨hK, hlt⟩ := HK.out
              subst hK
              exact ⟨⟨k + 1, by omega, by rfl, y, q, H10.out, HRl.out⟩, by simp only [intOf]; omega⟩
            case true =>
              have HHd := Lib.hid (held_sc hC (show (y.out || y.away) = true by rw [hO, hA]; rfl) H8.out)
              have r5 : q.out = false := HRl.out.out.trans hO
              have r6 : q.far = true := HRl.out.far.trans hA
              have r9 : q.failed = true := HRl.out.failed.trans hF
              have r3 : 0 ≤ q.began := (HRl.out.con hC).1
              obtain ⟨BG, hBG⟩ : ∃ B, q.began = B := ⟨_, rfl⟩
              rw [hBG] at r3
              have r3d : decide (0 ≤ BG) = true := decide_eq_true r3
              have HFd := Lib.hid (fun W (h : Sc w2 W b g y q) => failed_sc hF h)
              have HRe := Lib.hid (And.intro r5 (And.intro r6 (And.intro r9 hBG)))
              clear hC hO hF r5 r9 hBG r6 hA
              go_wp2_with fail
              with_reducible refine HHd.out.mono ?_
              rintro e w9 ⟨rfl, h9⟩
              have c3 := FmAt.c3 h9.m
              have c5 := FmAt.c5 h9.m
              have c6 := FmAt.c6 h9.m
              have c9 := FmAt.c9 h9.m
              rw [HRe.out.2.2.2] at c3
              rw [HRe.out.1] at c5
              rw [HRe.out.2.1] at c6
              rw [HRe.out.2.2.1] at c9
              have H9 := Lib.hid h9
              clear h9 H8 HHd
              go_wp2_with fail
              go_quiet (first
                | (go_at_call 16; exact Calls.quiet_of_same (lsends_sc HSt.out.1 (H9.out.drew _)))
                | (go_at_call 17; exact Calls.quiet_of (msends_sc HSt.out.2 HQ.out (H9.out.drew _)))
                | (go_at_call 18; exact Calls.quiet_of_same (HFd.out _ (H9.out.drew _)))
                | fail)
              have h10 := H9.out.drew nq
              generalize w9.drewN nq = W10 at h10 ⊢
              have H10 := Lib.hid h10
              clear h10 H9 c3 c5 c9 c6
              go_wp2_with fail
              obtain ⟨hK, hlt⟩ := HK.out
              subst hK
              exact ⟨⟨k + 1, by omega, by rfl, y, q, H10.out, HRl.out⟩, by simp only [intOf]; omega⟩
        case true =>
          cases hF : y.failed
          case false =>
            have HHd := Lib.hid (held_sc hC (show (y.out || y.away) = true by rw [hO]; rfl) H8.out)
            have r5 : q.out = true := HRl.out.out.trans hO
            have r9 : q.failed = false := HRl.out.failed.trans hF
            have r3 : 0 ≤ q.began := (HRl.out.con hC).1
            obtain ⟨BG, hBG⟩ : ∃ B, q.began = B := ⟨_, rfl⟩
            rw [hBG] at r3
            have r3d : decide (0 ≤ BG) = true := decide_eq_true r3
            have HFd := Lib.hid (fun W (h : Sc w2 W b g y q) => failed_sc hF h)
            have HRe := Lib.hid (And.intro r5 (And.intro True.intro (And.intro r9 hBG)))
            clear hC hO hF r5 r9 hBG
            go_wp2_with fail
            with_reducible refine HHd.out.mono ?_
            rintro e w9 ⟨rfl, h9⟩
            have c3 := FmAt.c3 h9.m
            have c5 := FmAt.c5 h9.m
            have c9 := FmAt.c9 h9.m
            rw [HRe.out.2.2.2] at c3
            rw [HRe.out.1] at c5
            rw [HRe.out.2.2.1] at c9
            have H9 := Lib.hid h9
            clear h9 H8 HHd
            go_wp2_with fail
            go_quiet (first
              | (go_at_call 16; exact Calls.quiet_of_same (lsends_sc HSt.out.1 (H9.out.drew _)))
              | (go_at_call 17; exact Calls.quiet_of (msends_sc HSt.out.2 HQ.out (H9.out.drew _)))
              | (go_at_call 18; exact Calls.quiet_of_same (HFd.out _ (H9.out.drew _)))
              | fail)
            have h10 := H9.out.drew nq
            generalize w9.drewN nq = W10 at h10 ⊢
            have H10 := Lib.hid h10
            clear h10 H9 c3 c5 c9
            go_wp2_with fail
            obtain ⟨hK, hlt⟩ := HK.out
            subst hK
            exact ⟨⟨k + 1, by omega, by rfl, y, q, H10.out, HRl.out⟩, by simp only [intOf]; omega⟩
          case true =>
            have HHd := Lib.hid (held_sc hC (show (y.out || y.away) = true by rw [hO]; rfl) H8.out)
            have r5 : q.out = true := HRl.out.out.trans hO
            have r9 : q.failed = true := HRl.out.failed.trans hF
            have r3 : 0 ≤ q.began := (HRl.out.con hC).1
            obtain ⟨BG, hBG⟩ : ∃ B, q.began = B := ⟨_, rfl⟩
            rw [hBG] at r3
            have r3d : decide (0 ≤ BG) = true := decide_eq_true r3
            have HFd := Lib.hid (fun W (h : Sc w2 W b g y q) => failed_sc hF h)
            have HRe := Lib.hid (And.intro r5 (And.intro True.intro (And.intro r9 hBG)))
            clear hC hO hF r5 r9 hBG
            go_wp2_with fail
            with_reducible refine HHd.out.mono ?_
            rintro e w9 ⟨rfl, h9⟩
            have c3 := FmAt.c3 h9.m
            have c5 := FmAt.c5 h9.m
            have c9 := FmAt.c9 h9.m
            rw [HRe.out.2.2.2] at c3
            rw [HRe.out.1] at c5
            rw [HRe.out.2.2.1] at c9
            have H9 := Lib.hid h9
            clear h9 H8 HHd
            go_wp2_with fail
            go_quiet (first
              | (go_at_call 16; exact Calls.quiet_of_same (lsends_sc HSt.out.1 (H9.out.drew _)))
              | (go_at_call 17; exact Calls.quiet_of (msends_sc HSt.out.2 HQ.out (H9.out.drew _)))
              | (go_at_call 18; exact Calls.quiet_of_same (HFd.out _ (H9.out.drew _)))
              | fail)
            have h10 := H9.out.drew nq
            generalize w9.drewN nq = W10 at h10 ⊢
            have H10 := Lib.hid h10
            clear h10 H9 c3 c5 c9
            go_wp2_with fail
            obtain ⟨hK, hlt⟩ := HK.out
            subst hK
            exact ⟨⟨k + 1, by omega, by rfl, y, q, H10.out, HRl.out⟩, by simp only [intOf]; omega⟩
    · obtain rfl : k = n := by omega
      have hki : ¬ (k : Int) < (k : Int) := by omega
      clear hlt hk
      go_wp2_with fail
      with_reducible refine (HLv.out _).mono ?_
      rintro e w99 ⟨rfl, hb99⟩
      have HB99 := Lib.hid ((HB2.out.trans (Below.mono HX.out.1.bel HB2.out.size)).trans (Below.mono hb99 (HB2.out.trans (Below.mono HX.out.1.bel HB2.out.size)).size))
      clear hb99 HLv
      go_wp2
      go_ret
      exact ⟨rfl, HB99.out⟩
end Go.Proofs.Ytmjgagbmpcbjmaa
