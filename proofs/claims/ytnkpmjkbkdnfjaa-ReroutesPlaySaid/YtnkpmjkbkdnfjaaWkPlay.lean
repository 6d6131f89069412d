/- ReroutesPlay: whatever is done with a gate, what passes, and its state, are those of the definition. -/
import Derived.Test.YtnkpmjkbkdnfjaaRrInv
import Derived.Test.YtnkpmjkbkdnfjaaOpenTri
import Derived.BigQuiet
namespace Go.Proofs.Ytnkpmjkbkdnfjaa
open Go.RowKit

/-- Gate and model beside each other, after k acts at the tick N. -/
structure PW (w0 w : World) (b mb : Nat) (H : Int) (x : Gt) (s : Pn) (g : Option Nat) (a : Option Addr) (c k : Nat) (N : Int) : Prop where
  gn : GN w0 w b x s
  md : MdAt w mb s g a c
  sep : ∀ j, x.S b j → j ≠ mb ∧ g ≠ some j
  lo : w0.heap.size ≤ mb
  glo : ∀ j, g = some j → w0.heap.size ≤ j
  inv : s.Inv H k N
theorem GN.exc {T : Nat → Prop} {w0 w w' : World} {b : Nat} {x : Gt} {s : Pn} (h : GN w0 w b x s) (hx : Exc T w w') (hn : ∀ k, x.S b k → ¬ T k) (hT : ∀ k, T k → w0.heap.size ≤ k) : GN w0 w' b x s :=
  ⟨h.here.exc hx hn, h.is, h.bel.trans (hx.below h.bel.size fun i _ hi => hT i hi), h.fresh⟩
theorem PW.bel {w0 w : World} {b mb : Nat} {H : Int} {x : Gt} {s : Pn} {g : Option Nat} {a : Option Addr} {c k : Nat} {N : Int} (h : PW w0 w b mb H x s g a c k N) : Below w0.heap.size w0 w := h.gn.bel
theorem PW.drawN {w0 w : World} {b mb : Nat} {H : Int} {x : Gt} {s : Pn} {g : Option Nat} {a : Option Addr} {c k : Nat} {N : Int} (h : PW w0 w b mb H x s g a c k N) (q : Nat) : PW w0 (w.drewN q) b mb H x s g a c k N :=
  ⟨h.gn.drawN q, h.md.later (below_draw w q), h.sep, h.lo, h.glo, h.inv⟩
set_option maxHeartbeats 8000000 in
set_option maxRecDepth 100000 in
theorem play_walk (hd : Int) (a : Option Addr) (n c : Nat) (l : List (Int × Int × Int)) (w : World) (h0 : (Lit.int .u8 hd).wf = true) (hr : Tris .u8 .u8 .u8 w a n c l) :
    Calls Try.prog 3 #[.int .u8 hd, .slice a n c] w fun e w' => e = .returned (.bool true) ∧ Below w.heap.size w w' := by
  have hmx := hr.max
  have hle := hr.le
  have hd0 := wf_u8.1 h0
  by_cases hbig : 200 < n
  · have k1 : (200 : Int) < (n : Int) := by omega
    clear hr hmx hle hd0
    go_enter Try.func3, Try.ntmps3
    go_wp2_with fail
    refine (lives_any w).mono ?_
    rintro e w2 ⟨rfl, hb⟩
    go_wp2
    go_ret
    exact ⟨rfl, hb⟩
  have k1 : ¬ (200 : Int) < (n : Int) := by omega
  have hwd : IntKind.i64.wrap hd = hd := IntWalk.i64_in _ (by omega)
  have HR := Lib.hid hr
  have HD := Lib.hid hd0
  have HB := Lib.hid (show n ≤ 200 by omega)
  clear hr hmx hle hd0 hbig
  go_enter Try.func3, Try.ntmps3
  go_wp2_with fail
  refine (new_any hd w HD.out.1 (by have := HD.out; omega)).mono ?_
  rintro e w1 ⟨rfl, h1, b1⟩
  have hg := GN.start h1 b1
  obtain ⟨b, hb⟩ : ∃ b, b = w.heap.size := ⟨_, rfl⟩
  rw [← hb] at hg ⊢
  have hbm := below_alloc w1 (.cells #[.int .i64 hd, .slice none 0 0, .bool false, .bool false, .bool false, .int .u16 0, .int .u16 0, .int .u16 0, .int .u8 0, .int .i64 0] 36)
  have hom := own_lit w1 36 #[.int .i64 hd, .slice none 0 0, .bool false, .bool false, .bool false, .int .u16 0, .int .u16 0, .int .u16 0, .int .u8 0, .int .i64 0] _ rfl
  have hpw : PW w (w1.alloc (.cells #[.int .i64 hd, .slice none 0 0, .bool false, .bool false, .bool false, .int .u16 0, .int .u16 0, .int .u16 0, .int .u8 0, .int .i64 0] 36)) b w1.heap.size hd (Gt.fresh hd) (Pn.fresh hd) none none 0 0 0 :=
    ⟨hg.more hbm, ⟨hom, Buf.nil _ _ _, fun hh => (by cases hh)⟩, fun j hj => ⟨fun hh => by have := hg.here.lt j hj; omega, fun hh => (by cases hh)⟩, b1.size, fun j hj => (by cases hj), Pn.Inv.fresh hd⟩
  have HP := Lib.hid hpw
  clear hpw hbm hom hg h1 b1 hb
  go_upto_region 7 with fail
  generalize w1.alloc (.cells #[.int .i64 hd, .slice none 0 0, .bool false, .bool false, .bool false, .int .u16 0, .int .u16 0, .int .u16 0, .int .u8 0, .int .i64 0] 36) = W at HP ⊢
  obtain ⟨mb, hmb⟩ : ∃ m, m = w1.heap.size := ⟨_, rfl⟩
  have hp := HP.out
  rw [← hmb] at hp ⊢
  have HW := Lib.hid hp
  clear hp hmb HP
  go_wp2_with fail
  go_loopw [8, 9, 10] (fun nv xv iv wr => ∃ (k : Nat) (N : Int), k ≤ n ∧ iv = .int .i64 (k : Int) ∧ xv = .int .i64 ((2 * k + 1 : Nat) : Int) ∧ nv = .int .i64 N ∧ 0 ≤ N ∧ N ≤ 39 * (k : Int) ∧ ∃ x s g ga gc, PW w wr b mb hd x s g ga gc k N) (fun _ _ iv _ => n - (intOf iv).toNat)
  case atStart => exact ⟨0, 0, Nat.zero_le _, rfl, rfl, rfl, Int.le_refl _, Int.le_refl _, _, _, _, _, _, HW.out⟩
  case round =>
    obtain ⟨k, N, hk, rfl, rfl, rfl, hN0, hN1, x, s, g, ga, gc, hpw⟩ := hrel
    have HP := Lib.hid hpw
    have HNn := Lib.hid (And.intro hN0 hN1)
    clear hpw HW
    by_cases hlt : k < n
    · have hAr := HR.out
      obtain ⟨lb, lo, rfl, hc⟩ := hAr.cells.resolve_left (by omega)
      obtain ⟨r0, r1, r2⟩ := hc k hlt
      have hlbW : lb < w.heap.size := World.block_lt_of_cell? w _ r0
      have q0 := (HP.out.bel.cell (p := ⟨lb, lo + k * 3, none⟩) hlbW).trans r0
      have q1 := (HP.out.bel.cell (p := ⟨lb, lo + k * 3 + 1, none⟩) hlbW).trans r1
      have q2 := (HP.out.bel.cell (p := ⟨lb, lo + k * 3 + 2, none⟩) hlbW).trans r2
      clear r0 r1 r2
      have hmem : l.getD k (0, 0, 0) ∈ l := by
        have hl := hAr.len
        rw [List.getD_eq_getElem?_getD, List.getElem?_eq_getElem (by omega)]
        exact List.getElem_mem _
      obtain ⟨f0, f1, f2⟩ := hAr.wf _ hmem
      clear hmem
      generalize l.getD k (0, 0, 0) = t at q0 q1 q2 f0 f1 f2
      obtain ⟨A, B, C⟩ := t
      dsimp only at q0 q1 q2 f0 f1 f2
      have fA := wf_u8.1 f0
      have fB := wf_u8.1 f1
      have fC := wf_u8.1 f2
      obtain ⟨T, hT⟩ : ∃ T, T = C % 40 := ⟨_, rfl⟩
      have e1 : C.tmod 40 = T := by rw [hT]; exact Int.tmod_eq_emod_of_nonneg fC.1
      have hT0 : 0 ≤ T ∧ T ≤ 39 := by omega
      have e2 : IntKind.i64.wrap T = T := IntWalk.i64_in _ (by omega)
      obtain ⟨N2, hN2⟩ : ∃ N2, N2 = N + T := ⟨_, rfl⟩
      have hkB := HB.out
      have e3 : IntKind.i64.wrap (N + T) = N2 := by rw [hN2]; exact IntWalk.i64_in _ (by omega)
      have hN2a : N ≤ N2 ∧ 0 ≤ N2 ∧ N2 ≤ 39 * ((k + 1 : Nat) : Int) ∧ N2 ≤ 10000 := by push_cast; omega
      have k0 : (0 : Int) ≤ (k : Int) := by omega
      have k2 : (k : Int) < (n : Int) := by omega
      obtain ⟨J, hJ⟩ : ∃ J, J = 2 * k + 1 := ⟨_, rfl⟩
      have hJ2 : J + 1 ≤ 60000 := by omega
      have e4 : IntKind.i64.wrap ((J : Int) + 2) = ((J + 2 : Nat) : Int) := by rw [IntWalk.i64_in _ (by omega)]; push_cast; rfl
      have hi := HP.out.inv
      have hdo := do_any wr mb s g ga gc A B C N2 J HP.out.md fA fB ⟨by rw [hi.hold]; exact (by have := HD.out; omega), by rw [hi.hold]; exact HD.out.1, by have := hi.l1; omega, hi.l0⟩ (by have := hi.few; omega) hJ2 (fun j hj => by have := hi.nums j hj; omega)
      have hpl := fun W (hg : GN w W b x s) => play_any w W b x s A B C N2 J hg fA fB (by have := hi.few; omega) hJ2 (by omega)
      have hin := Pn.Inv.act (q := A % 8) (y := wayN B) hi hN0 hN2a.1
      rw [← hJ] at hin ⊢
      obtain ⟨⟨out, er, s2⟩, hr2⟩ : ∃ r, r = s.act (A % 8) (wayN B) N2 J := ⟨_, rfl⟩
      rw [← hr2] at hin hdo hpl
      simp only at hin hdo hpl
      have HDo := Lib.hid hdo
      have HPl := Lib.hid hpl
      have HIn := Lib.hid hin
      have HJ := Lib.hid (And.intro hJ hN2a)
      have HAr := Lib.hid hlbW
      clear hdo hpl hin hJ hJ2 hN2 hN2a hi hr2 f0 f1 f2 fA fB fC hT hT0 hAr hc hlbW hN0 hN1 hkB
      go_wp2_with fail
      with_reducible refine HDo.out.mono ?_
      rintro e w2 ⟨a2, c2, g2, ga2, gc2, rfl, hrow, hz, hmd2, hx2, hg2⟩
      have hgn2 : GN w w2 b x s := HP.out.gn.exc hx2 (fun j hj hh => (HP.out.sep j hj).1 hh) (fun j hj => by rw [hj]; exact HP.out.lo)
      have hs2 := hx2.size
      have hsep2 : ∀ j, x.S b j → j ≠ mb ∧ g2 ≠ some j := fun j hj => ⟨(HP.out.sep j hj).1, fun hh => by
        rcases hg2 j hh with h | h
        · exact (HP.out.sep j hj).2 h
        · have := HP.out.gn.here.lt j hj; omega⟩
      have hglo2 : ∀ j, g2 = some j → w.heap.size ≤ j := fun j hj => by
        rcases hg2 j hj with h | h
        · exact HP.out.glo j h
        · exact Nat.le_trans HP.out.bel.size h
      have hrz : ∀ z, a2 = some z → ¬ x.S b z.block := fun z hz2 hS => by
        rcases (hz z hz2).1 with h | h
        · exact (HP.out.sep _ hS).2 h
        · have := HP.out.gn.here.lt _ hS; omega
      have hpl2 := HPl.out w2 hgn2
      have hne : ¬ lb = mb := fun hh => by have h1 := HP.out.lo; have h2 := HAr.out; omega
      have q0' := hx2.cell q0 hne
      have q1' := hx2.cell q1 hne
      have q2' := hx2.cell q2 hne
      have HPl2 := Lib.hid hpl2
      have H2 := Lib.hid (And.intro hgn2 (And.intro hmd2 (And.intro hsep2 (And.intro hglo2 (And.intro hrow hrz)))))
      have HX2 := Lib.hid (And.intro hs2 hgn2.bel)
      clear hgn2 hs2 hsep2 hglo2 hrz hpl2 hne hrow hz hmd2 hx2 hg2 q0 q1 q2
      go_wp2_with fail
      with_reducible refine HPl2.out.mono ?_
      rintro e w3 ⟨a3, C3, x3, rfl, hC3, hoff, ht, hg3⟩
      dsimp only at hC3 hg3
      obtain ⟨hgn2, hmd2, hsep2, hglo2, hrow, hrz⟩ := H2.out
      have hmd3 : MdAt w3 mb s2 g2 ga2 gc2 := hmd2.exc ht.exc (fun hh => (hsep2 mb (.inl hh)).1 rfl) (fun j hj hh => (hsep2 j (.inl hh)).2 hj)
      have hrow3 : Row .i64 w3 a2 out.length c2 (ints out) := hrow.exc ht.exc (fun z hz hh => hrz z hz (.inl hh))
      have hsep3 : ∀ j, x3.S b j → j ≠ mb ∧ g2 ≠ some j := fun j hj => by
        rcases ht.lies j hj with h | h
        · exact hsep2 j h
        · exact ⟨fun hh => by have := hmd2.own.lt; omega, fun hh => by have := hmd2.buf.lt hh; omega⟩
      have hpw3 : PW w w3 b mb hd x3 s2 g2 ga2 gc2 (k + 1) N2 := ⟨hg3, hmd3, hsep3, HP.out.lo, hglo2, HIn.out.1⟩
      have HWy := Lib.hid (wayG w w3 b x3 s2 hg3 HIn.out.1.way0)
      have H3 := Lib.hid (And.intro hpw3 (And.intro hrow3 (And.intro hC3 hoff)))
      clear hgn2 hmd2 hsep2 hglo2 hrow hrz hmd3 hrow3 hsep3 hpw3 hC3 hoff ht hg3 H2 HPl2 HX2 HPl HDo HP q0' q1' q2'
      go_wp2_with fail
      with_reducible refine HWy.out.mono ?_
      rintro e w4 ⟨rfl, hb4⟩
      obtain ⟨⟨ya, yb, yc, yd⟩, hy⟩ : ∃ y, y = s2.wy := ⟨_, rfl⟩
      rw [← hy]
      dsimp only
      have hb5 := below_alloc w4 (.cells #[.int .u16 ya, .int .u16 yb, .int .u16 yc, .int .u8 yd] 34)
      have ho5 := own_lit w4 34 #[.int .u16 ya, .int .u16 yb, .int .u16 yc, .int .u8 yd] _ rfl
      have hb35 := hb4.trans (hb5.mono hb4.size)
      obtain ⟨hpw3, hrow3, hC3, hoff⟩ := H3.out
      have hmd5 := hpw3.md.later hb35
      have hlist := fun q => list_yes ((w4.alloc (.cells #[.int .u16 ya, .int .u16 yb, .int .u16 yc, .int .u8 yd] 34)).drewN q) _ a3 a2 C3 out out.length c2 ((hoff.off.more hb35).later (below_draw _ q)) hC3 rfl (fun j hj => by have := HIn.out.2.1 j hj; have := HB.out; omega) ((hrow3.later hb35).later (below_draw _ q)) (by have := HIn.out.2.2.1; have := HB.out; omega)
      have hg5 := hpw3.gn.more hb35
      have hlen := fun q => len_any b x3 ((w4.alloc (.cells #[.int .u16 ya, .int .u16 yb, .int .u16 yc, .int .u8 yd] 34)).drewN q) (hg5.drawN q).here
      have hwaits := fun q => waits_any b x3 ((w4.alloc (.cells #[.int .u16 ya, .int .u16 yb, .int .u16 yc, .int .u8 yd] 34)).drewN q) (hg5.drawN q).here
      rw [hg5.is.len] at hlen
      rw [hg5.is.ph] at hwaits
      obtain ⟨t0, t1, t2, t3, t4, t5, t6, t7, t8, t9⟩ := hmd5.cells
      rw [← hy] at t5 t6 t7 t8
      dsimp only at t5 t6 t7 t8
      obtain ⟨M, hM⟩ : ∃ M, M = s2.ns.length := ⟨_, rfl⟩
      obtain ⟨B1, hB1⟩ : ∃ B, B = decide (s2.ph ≠ 1) := ⟨_, rfl⟩
      obtain ⟨B3, hB3⟩ : ∃ B, B = decide (s2.ph = 3) := ⟨_, rfl⟩
      rw [← hB1] at t2 ⊢
      rw [← hB3] at t3 hwaits
      rw [← hM] at t1 hlen
      have u0 := ho5.cell 0 (by simp)
      have u1 := ho5.cell 1 (by simp)
      have u2 := ho5.cell 2 (by simp)
      have u3 := ho5.cell 3 (by simp)
      simp only [List.getD_cons_zero, List.getD_cons_succ] at u0 u1 u2 u3
      have hq := fun w => neqlWy ya yb yc yd ya yb yc yd w
      simp only [decide_true, Bool.not_true] at hq
      have v1 : (er != er) = false := by simp
      have v2 : ((M : Int) != (M : Int)) = false := by simp
      have v3 : (B1 != B1) = false := by simp
      have v4 : (B3 != B3) = false := by simp
      have hpw5 : PW w (w4.alloc (.cells #[.int .u16 ya, .int .u16 yb, .int .u16 yc, .int .u8 yd] 34)) b mb hd x3 s2 g2 ga2 gc2 (k + 1) N2 := ⟨hg5, hmd5, hpw3.sep, hpw3.lo, hpw3.glo, hpw3.inv⟩
      have HL := Lib.hid hlist
      have HLn := Lib.hid hlen
      have HWt := Lib.hid hwaits
      have H5 := Lib.hid hpw5
      clear hpw3 hrow3 hC3 hoff hmd5 hlist hlen hwaits hg5 hM hB1 hB3 ho5 hpw5 H3 hb4 hb35 hb5 HWy hy t0 t4 t9
      go_wp2_with fail
      go_quiet (first
        | (go_at_call 14; exact Calls.quiet_of (HL.out _))
        | (go_at_call 15; exact Calls.quiet_of (HLn.out _))
        | (go_at_call 16; exact Calls.quiet_of (HWt.out _))
        | fail)
      go_wp2
      obtain ⟨j1, j2, j3, j4, _⟩ := HJ.out
      exact ⟨⟨k + 1, N2, by omega, by go_num, by rw [j1]; congr 1, rfl, j3, j4, x3, s2, g2, ga2, gc2, H5.out.drawN _⟩, by simp [intOf]; omega⟩
    · obtain rfl : k = n := by omega
      clear hN0 hN1
      go_wp2_with fail
      refine (lives_any wr).mono ?_
      rintro e w2 ⟨rfl, hb2⟩
      have HX := Lib.hid (HP.out.bel.trans (hb2.mono HP.out.bel.size))
      clear hb2
      go_wp2
      go_ret
      exact ⟨rfl, HX.out⟩
end Go.Proofs.Ytnkpmjkbkdnfjaa
