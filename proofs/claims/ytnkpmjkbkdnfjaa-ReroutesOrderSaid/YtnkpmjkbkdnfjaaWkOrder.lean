/- ReroutesOrder: items pass in ascending order; between two passings to different places there are at least as many ticks as the hold time. -/
import Derived.Test.YtnkpmjkbkdnfjaaRrOrd
import Derived.Test.YtnkpmjkbkdnfjaaRrLit
import Derived.Test.YtnkpmjkbkdnfjaaOpenTri
import Derived.BigQuiet
import Derived.Deep.CutBlock
namespace Go.Proofs.Ytnkpmjkbkdnfjaa
open Go.RowKit

/-- The gate beside the law's list of what went. -/
structure RW (w0 w : World) (b : Nat) (H : Int) (x : Gt) (s : Pn) (W : List Nat) (nx : Nat) (lv at0 N : Int) (g : Option Nat) (a : Option Addr) (c : Nat) : Prop where
  gn : GN w0 w b x s
  buf : Buf w 3 1 g a W.length c (nums .i64 (ints W))
  sep : ∀ j, x.S b j → g ≠ some j
  glo : ∀ j, g = some j → w0.heap.size ≤ j
  ord : s.Ord H W nx lv at0 N
theorem RW.later {w0 w w' : World} {b : Nat} {H : Int} {x : Gt} {s : Pn} {W : List Nat} {nx : Nat} {lv at0 N : Int} {g : Option Nat} {a : Option Addr} {c : Nat} (h : RW w0 w b H x s W nx lv at0 N g a c) (hb : Below w.heap.size w w') : RW w0 w' b H x s W nx lv at0 N g a c :=
  ⟨h.gn.more hb, h.buf.later hb, h.sep, h.glo, h.ord⟩
theorem RW.act {w0 w w' : World} {b : Nat} {H : Int} {x x' : Gt} {s s' : Pn} {W : List Nat} {nx nx' : Nat} {lv at0 N N' : Int} {g : Option Nat} {a : Option Addr} {c : Nat} (h : RW w0 w b H x s W nx lv at0 N g a c) (ht : GtTo w b x x' w') (hg : GN w0 w' b x' s') (ho : s'.Ord H W nx' lv at0 N') : RW w0 w' b H x' s' W nx' lv at0 N' g a c :=
  ⟨hg, h.buf.exc ht.exc (fun j hj hh => h.sep j (.inl hh) hj), fun j hj => by
    rcases ht.lies j hj with h1 | h1
    · exact h.sep j h1
    · exact fun hh => by have := h.buf.lt hh; omega, h.glo, ho⟩
theorem GN.exc3 {T : Nat → Prop} {w0 w w' : World} {b : Nat} {x : Gt} {s : Pn} (h : GN w0 w b x s) (hx : Exc T w w') (hn : ∀ k, x.S b k → ¬ T k) (hT : ∀ k, T k → w0.heap.size ≤ k) : GN w0 w' b x s :=
  ⟨h.here.exc hx hn, h.is, h.bel.trans (hx.below h.bel.size fun i _ hi => hT i hi), h.fresh⟩
theorem ints_take (l : List Nat) (k : Nat) : nums .i64 (ints (l.take k)) = (nums .i64 (ints l)).take k := by simp [nums, ints]
set_option maxHeartbeats 8000000 in
set_option maxRecDepth 100000 in
theorem order_walk (hd : Int) (a : Option Addr) (n c : Nat) (l : List (Int × Int × Int)) (w : World) (h0 : (Lit.int .u8 hd).wf = true) (hr : Tris .u8 .u8 .u8 w a n c l) :
    Calls Try.prog 4 #[.int .u8 hd, .slice a n c] w fun e w' => e = .returned (.bool true) ∧ Below w.heap.size w w' := by
  have hmx := hr.max
  have hle := hr.le
  have hd0 := wf_u8.1 h0
  by_cases hbig : 200 < n
  · have k1 : (200 : Int) < (n : Int) := by omega
    clear hr hmx hle hd0
    go_enter Try.func4, Try.ntmps4
    go_wp2_with fail
    refine (lives_any w).mono ?_
    rintro e w2 ⟨rfl, hb⟩
    go_wp2
    go_ret
    exact ⟨rfl, hb⟩
  have k1 : ¬ (200 : Int) < (n : Int) := by omega
  have hwd : IntKind.i64.wrap hd = hd := IntWalk.i64_in _ (by omega)
  have HR := Lib.hid hr
  have HD := Lib.hid hd0
  have HB := Lib.hid (show n ≤ 200 by omega)
  clear hr hmx hle hd0 hbig
  go_enter Try.func4, Try.ntmps4
  go_wp2_with fail
  refine (new_any hd w HD.out.1 (by have := HD.out; omega)).mono ?_
  rintro e w1 ⟨rfl, h1, b1⟩
  have hg := GN.start h1 b1
  obtain ⟨b, hb⟩ : ∃ b, b = w.heap.size := ⟨_, rfl⟩
  rw [← hb] at hg ⊢
  have hrw : RW w w1 b hd (Gt.fresh hd) (Pn.fresh hd) [] 1 0 0 0 none none 0 := ⟨hg, Buf.nil _ _ _, fun j _ hh => (by cases hh), fun j hj => (by cases hj), Pn.Ord.fresh hd⟩
  have HW := Lib.hid hrw
  clear hrw hg h1 b1 hb
  go_wp2_with fail
  go_loopw [7, 8, 9, 10, 11, 12] (fun nv xv wv lv av iv wr => ∃ (k nx : Nat) (N L T : Int) (W : List Nat) (x : Gt) (s : Pn) (g : Option Nat) (ga : Option Addr) (gc : Nat), k ≤ n ∧ iv = .int .i64 (k : Int) ∧ xv = .int .i64 (nx : Int) ∧ nv = .int .i64 N ∧ 0 ≤ N ∧ N ≤ 39 * (k : Int) ∧ 1 ≤ nx ∧ nx ≤ k + 1 ∧ lv = .int .i64 L ∧ av = .int .i64 T ∧ wv = .slice ga W.length gc ∧ 0 ≤ L ∧ L ≤ 70000 ∧ 0 ≤ T ∧ T ≤ N ∧ RW w wr b hd x s W nx L T N g ga gc) (fun _ _ _ _ _ iv _ => n - (intOf iv).toNat)
  case atStart => exact ⟨0, 1, 0, 0, 0, [], _, _, _, _, _, Nat.zero_le _, rfl, rfl, rfl, Int.le_refl _, Int.le_refl _, Nat.le_refl _, Nat.le_refl _, rfl, rfl, rfl, Int.le_refl _, by decide, Int.le_refl _, Int.le_refl _, HW.out⟩
  case round =>
    obtain ⟨k, nx, N, L, T, W, x, s, g, ga, gc, hk, rfl, rfl, rfl, hN0, hN1, hn1, hn2, rfl, rfl, rfl, hL0, hL1, hT0, hT1, hrw⟩ := hrel
    have HP := Lib.hid hrw
    clear hrw HW
    obtain ⟨m, hm⟩ : ∃ m, m = W.length := ⟨_, rfl⟩
    rw [← hm]
    have HM := Lib.hid hm
    clear hm
    by_cases hlt : k < n
    · have hAr := HR.out
      obtain ⟨lb, lo, rfl, hc⟩ := hAr.cells.resolve_left (by omega)
      obtain ⟨r0, r1, r2⟩ := hc k hlt
      have hlbW : lb < w.heap.size := World.block_lt_of_cell? w _ r0
      have q0 := (HP.out.gn.bel.cell (p := ⟨lb, lo + k * 3, none⟩) hlbW).trans r0
      have q1 := (HP.out.gn.bel.cell (p := ⟨lb, lo + k * 3 + 1, none⟩) hlbW).trans r1
      have q2 := (HP.out.gn.bel.cell (p := ⟨lb, lo + k * 3 + 2, none⟩) hlbW).trans r2
      clear r0 r1 r2
      have hmem : l.getD k (0, 0, 0) ∈ l := by
        have hl := hAr.len
        rw [List.getD_eq_getElem?_getD, List.getElem?_eq_getElem (by omega)]
        exact List.getElem_mem _
      obtain ⟨f0, f1, f2⟩ := hAr.wf _ hmem
      clear hmem
      generalize l.getD k (0, 0, 0) = t at q0 q1 q2 f0 f1 f2
      obtain ⟨A, B, C⟩ := t
      dsimp only at q0 q1 q2 f0 f1 f2
      have fA := wf_u8.1 f0
      have fB := wf_u8.1 f1
      have fC := wf_u8.1 f2
      obtain ⟨V, hV⟩ : ∃ V, V = C % 40 := ⟨_, rfl⟩
      have e1 : C.tmod 40 = V := by rw [hV]; exact Int.tmod_eq_emod_of_nonneg fC.1
      have hV0 : 0 ≤ V ∧ V ≤ 39 := by omega
      have e2 : IntKind.i64.wrap V = V := IntWalk.i64_in _ (by omega)
      obtain ⟨N2, hN2⟩ : ∃ N2, N2 = N + V := ⟨_, rfl⟩
      have hkB := HB.out
      have e3 : IntKind.i64.wrap (N + V) = N2 := by rw [hN2]; exact IntWalk.i64_in _ (by omega)
      have hN2a : N ≤ N2 ∧ 0 ≤ N2 ∧ N2 ≤ 39 * ((k + 1 : Nat) : Int) ∧ N2 ≤ 10000 := by push_cast; omega
      have k0 : (0 : Int) ≤ (k : Int) := by omega
      have k2 : (k : Int) < (n : Int) := by omega
      obtain ⟨r, hr4⟩ : ∃ r, r = A % 4 := ⟨_, rfl⟩
      have eq4 : A.tmod 4 = r := by rw [hr4]; exact Int.tmod_eq_emod_of_nonneg fA.1
      have hr3 : 0 ≤ r ∧ r ≤ 3 := by omega
      have hb1 := below_alloc wr (.cells #[.int .u8 A, .int .u8 B, .int .u8 C] 38)
      have ho1 := own_lit wr 38 #[.int .u8 A, .int .u8 B, .int .u8 C] _ rfl
      have H1 := Lib.hid (And.intro (HP.out.later hb1) (And.intro ho1 (And.intro hb1 (show (wr.alloc (.cells #[.int .u8 A, .int .u8 B, .int .u8 C] 38)).heap.size = wr.heap.size + 1 by simp))))
      have HN := Lib.hid (And.intro hN2a (And.intro (And.intro hN0 hN1) (And.intro (And.intro hn1 hn2) (And.intro (And.intro hL0 hL1) (And.intro (And.intro hT0 hT1) hkB)))))
      have HF := Lib.hid (And.intro fA fB)
      clear f0 f1 f2 fA fB fC hV hV0 hN2 hkB hN2a hr4 hAr hc hlbW hb1 ho1 hN0 hN1 hn1 hn2 hL0 hL1 hT0 hT1
      have HQ := Lib.hid hr3
      go_upto_region 16 with fail
      generalize wr.alloc _ = W1 at H1 ⊢
      obtain ⟨px, hpx⟩ : ∃ p, p = wr.heap.size := ⟨_, rfl⟩
      have h1 := H1.out
      rw [← hpx] at h1 ⊢
      have H1 := Lib.hid h1
      have HPx := Lib.hid hpx
      have p0 := h1.2.1.cell 0 (by simp)
      have p1 := h1.2.1.cell 1 (by simp)
      simp only [List.getD_cons_zero, List.getD_cons_succ] at p0 p1
      clear h1 q0 q1 q2 hpx
      by_cases hr2 : r < 2
      · as_aux_lemma =>
          have HOf := Lib.hid (And.intro (show s.ns.length < 60000 by have h1 := HP.out.ord.few; rw [List.length_append] at h1; have := HN.out; omega) (show nx ≤ 60000 by have := HN.out; omega))
          have e4 : IntKind.i64.wrap ((nx : Int) + 1) = ((nx + 1 : Nat) : Int) := by rw [IntWalk.i64_in _ (by have := HOf.out.2; omega)]; push_cast; rfl
          go_wp2_with fail
          refine (item_any nx W1 HOf.out.2).mono ?_
          rintro e w2 ⟨g2, rfl, hr, hgg, hb2⟩
          have hrw2 := H1.out.1.later hb2
          have HC := Lib.hid (offerN w b x s nx g2 w2 hrw2.gn HOf.out.1 hr)
          have H2 := Lib.hid hrw2
          clear hr hgg hb2 hrw2 p0 p1
          go_wp2_with fail
          refine HC.out.mono ?_
          rintro e w3 ⟨x3, rfl, ht, hg⟩
          have H3 := Lib.hid (H2.out.act ht hg ((H2.out.ord.offer HN.out.2.2.1.1).keep HN.out.1.1))
          clear ht hg HC
          go_wp2
          obtain ⟨⟨a1, a2, a3, a4⟩, ⟨a5, a6⟩, ⟨a7, a8⟩, ⟨a9, a10⟩, ⟨a11, a12⟩, _⟩ := HN.out
          exact ⟨⟨k + 1, nx + 1, N2, L, T, W, x3, _, g, ga, gc, by omega, by go_num, rfl, rfl, a2, a3, by omega, by omega, rfl, rfl, by rw [HM.out], a9, a10, a11, by omega, H3.out⟩, by simp [intOf]; omega⟩
      have g2 : ¬ r < 2 := hr2
      by_cases hr5 : r = 2
      · have g3 : (r == 2) = true := by simp [hr5]
        go_wp2_with fail
        refine (wayN_any B W1 HF.out.2.1 HF.out.2.2).mono ?_
        rintro e w2 ⟨rfl, hb2⟩
        obtain ⟨z0, hz0⟩ : ∃ z, z = 1 + B % 3 := ⟨_, rfl⟩
        obtain ⟨z1, hz1⟩ : ∃ z, z = B / 3 % 2 := ⟨_, rfl⟩
        rw [← hz0, ← hz1]
        have hz0r : 1 ≤ z0 ∧ z0 ≤ 3 := by omega
        have hb3 := below_alloc w2 (.cells #[.int .u16 z0, .int .u16 0, .int .u16 z0, .int .u8 z1] 34)
        have ho3 := own_lit w2 34 #[.int .u16 z0, .int .u16 0, .int .u16 z0, .int .u8 z1] _ rfl
        have hb13 := hb2.trans (hb3.mono hb2.size)
        have hsz : w2.heap.size < (w2.alloc (.cells #[.int .u16 z0, .int .u16 0, .int .u16 z0, .int .u8 z1] 34)).heap.size := by simp
        have H3 := Lib.hid (And.intro (H1.out.1.later hb13) (And.intro ho3 (And.intro hsz (show W1.heap.size ≤ w2.heap.size from hb2.size))))
        have HZ := Lib.hid hz0r
        clear hb2 hb3 ho3 hb13 hsz hz0 hz1 p0 p1 hz0r
        go_upto_region 22 with fail
        generalize w2.alloc _ = W3 at H3 ⊢
        obtain ⟨pw, hpw⟩ : ∃ p, p = w2.heap.size := ⟨_, rfl⟩
        have h3 := H3.out
        rw [← hpw] at h3 ⊢
        have H3 := Lib.hid h3
        have p0 := h3.2.1.cell 0 (by simp)
        have p1 := h3.2.1.cell 1 (by simp)
        have p2 := h3.2.1.cell 2 (by simp)
        have p3 := h3.2.1.cell 3 (by simp)
        simp only [List.getD_cons_zero, List.getD_cons_succ] at p0 p1 p2 p3
        clear h3 hpw
        have hz16 : IntKind.i64.wrap z0 = z0 := IntWalk.i64_in _ (by have := HZ.out; omega)
        by_cases hfr : s.ns ≠ [] ∧ s.free N2 ⟨z0, 0, z0, z1⟩
        · as_aux_lemma =>
            have HC := Lib.hid (passN_ok w b x s N2 z0 0 z0 z1 W3 H3.out.1.gn hfr.1 hfr.2 (by have := HN.out; omega))
            have htell := H3.out.1.ord.tell (N' := N2) hfr.2 HD.out.1 (by have := HN.out; have := HD.out; omega)
            have HTell := Lib.hid htell
            have HFr := Lib.hid hfr
            clear hfr htell
            go_wp2_with fail
            refine HC.out.mono ?_
            rintro e w4 ⟨a4, C4, x4, rfl, hC, hw4, ht, hg⟩
            obtain ⟨out, hout⟩ : ∃ out, out = s.ns := ⟨_, rfl⟩
            obtain ⟨M, hM⟩ : ∃ M, M = out.length := ⟨_, rfl⟩
            rw [← hout] at hC ⊢
            rw [← hM]
            simp only [id]
            have hM0 : 0 < M := by rw [hM, hout]; exact List.length_pos_iff.2 HFr.out.1
            have hM1 : (0 : Int) < (M : Int) := by omega
            have hTS : ∀ j, x.T b j → j < W1.heap.size := fun j hj => H1.out.1.gn.here.lt j (.inl hj)
            have hpwl : W1.heap.size ≤ pw := H3.out.2.2.2
            have hw : Own w4 pw 34 [.int .u16 z0, .int .u16 0, .int .u16 z0, .int .u8 z1] := H3.out.2.1.exc ht.exc (fun hh => by have := hTS _ hh; omega)
            have hgS : ∀ j, x.S b j → g ≠ some j := H3.out.1.sep
            have hits : ItsIn w4 (fun j => g ≠ some j ∧ j < w4.heap.size) a4 C4 := by
              obtain ⟨⟨g', hb2, hg2⟩, hr2, hl2⟩ := hw4.was
              refine ⟨⟨g', hb2, fun j hj => ⟨hgS j (hg2 j hj), hb2.lt hj⟩⟩, hr2, fun y hy z hz => ⟨hgS _ (hl2 y hy z hz), Nat.lt_of_lt_of_le (H3.out.1.gn.here.lt _ (hl2 y hy z hz)) ht.exc.size⟩⟩
            have hbuf4 : Buf w4 3 1 g ga m gc (nums .i64 (ints W)) := by rw [HM.out]; exact H3.out.1.buf.exc ht.exc (fun j hj hh => hgS j (.inl hh) hj)
            have hsep4 : ∀ j, x4.S b j → g ≠ some j ∧ j < w4.heap.size := fun j hj => ⟨by
              rcases ht.lies j hj with h1 | h1
              · exact hgS j h1
              · exact fun hh => by have := H3.out.1.buf.lt hh; omega, ht.now.lt j hj⟩
            obtain ⟨F, hF⟩ : ∃ F, F = W ++ out := ⟨_, rfl⟩
            have hFl : F.length = m + M := by rw [hF, List.length_append, HM.out, hM]
            have hFa : F.Pairwise (· < ·) := by rw [hF, hout]; exact H3.out.1.ord.asc
            have hFr : ∀ j ∈ F, j ≤ 1000 := fun j hj => by
              rw [hF, hout] at hj
              have h1 := (H3.out.1.ord.rng j hj).2
              have := HN.out
              omega
            have hFo : ∀ j, j < M → F.getD (m + j) 0 = out.getD j 0 := fun j hj => by
              rw [hF, HM.out]
              simp only [List.getD_eq_getElem?_getD]
              rw [List.getElem?_append_right (by omega), Nat.add_sub_cancel_left]
            have hFt : F.take m = W := by rw [hF, HM.out]; exact List.take_left
            have hmM : m + M ≤ 1000 := by
              have h1 := H3.out.1.ord.few
              rw [← hout, ← hF, hFl] at h1
              have := HN.out
              omega
            have hord : (s.went N2 ⟨z0, 0, z0, z1⟩).Ord hd F nx z0 N2 N2 := by rw [hF, hout]; exact H3.out.1.ord.went HN.out.1.2.1
            have H4 := Lib.hid (And.intro hg (And.intro hw (And.intro hits (And.intro hbuf4 (And.intro hsep4 hord)))))
            have HC4 := Lib.hid hC
            have HFF := Lib.hid (And.intro hFl (And.intro hFa (And.intro hFr (And.intro hFo hFt))))
            have HMo := Lib.hid (And.intro hM hM0)
            have HmM := Lib.hid hmM
            have HGl := Lib.hid H3.out.1.glo
            clear p0 p1 p2 p3
            have p0 := hw.cell 0 (by simp)
            have p1 := hw.cell 1 (by simp)
            have p2 := hw.cell 2 (by simp)
            have p3 := hw.cell 3 (by simp)
            simp only [List.getD_cons_zero, List.getD_cons_succ] at p0 p1 p2 p3
            clear hg hw hits hbuf4 hsep4 hC hFl hFa hFr hFo hFt hM hM0 hout hF hmM hord hTS hpwl hgS hw4 ht HC
            go_upto_region 23 with fail
            go_cut [94] from 73 to 93 (fun v wx => v = .bool false ∧ w4 = wx)
            case first =>
              by_cases hl0 : 0 < L
              · by_cases hl1 : L = z0
                · subst hl1
                  have g4 : (L != L) = false := by simp
                  go_wp2_with fail
                  go_meet
                  exact ⟨rfl, rfl⟩
                · have g4 : (L != z0) = true := by simp [hl1]
                  have g5 : IntKind.i64.wrap (T + hd) = T + hd := IntWalk.i64_in _ (by have := HN.out; have := HD.out; omega)
                  have g6 : ¬ N2 < T + hd := by rcases HTell.out with h | h | h <;> omega
                  go_wp2_with fail
                  go_meet
                  exact ⟨rfl, rfl⟩
              · go_wp2_with fail
                go_meet
                exact ⟨rfl, rfl⟩
            case rest =>
              obtain ⟨rfl, rfl⟩ := hcut
              have hMb : M ≤ 1000 := by have := HmM.out; omega
              go_wp2_with fail
              go_loopw [9, 16] (fun wv kv wr => ∃ (j : Nat) (g1 : Option Nat) (a1 : Option Addr) (c1 : Nat), j ≤ M ∧ kv = .int .i64 (j : Int) ∧ wv = .slice a1 (m + j) c1 ∧ Buf wr 3 1 g1 a1 (m + j) c1 (nums .i64 (ints (F.take (m + j)))) ∧ Exc (fun i => g = some i) w4 wr ∧ (∀ i, g1 = some i → g = some i ∨ w4.heap.size ≤ i)) (fun _ kv _ => M - (intOf kv).toNat)
              case atStart =>
                refine ⟨0, g, ga, gc, Nat.zero_le _, rfl, rfl, ?_, Exc.refl _ _, fun i hi => .inl hi⟩
                rw [Nat.add_zero, HFF.out.2.2.2.2]
                exact H4.out.2.2.2.1
              case round =>
                obtain ⟨j, g1, a1, c1, hj, rfl, rfl, hbuf, hx, hg1⟩ := hrel
                have HX := Lib.hid (And.intro hbuf (And.intro hx hg1))
                clear hbuf hx hg1
                by_cases hjm : j < M
                · have hits := H4.out.2.2.1.exc HX.out.2.1 (fun i hi hh => hi.1 hh)
                  obtain ⟨gb, go, rfl, c0, _⟩ := hits.at It.none (i := j) (by have h1 := congrArg List.length HC4.out; rw [List.length_map, List.length_map] at h1; have := HMo.out; omega)
                  have hy := numsD HC4.out (i := j) (by have := HMo.out; omega)
                  have hnum : (C4.getD j It.none).num = ((out.getD j 0 : Nat) : Int) := congrArg It.num hy
                  rw [hnum, ← HFF.out.2.2.2.1 j hjm] at c0
                  have hmM := HmM.out
                  have hrow : Row .i64 wr a1 (m + j) c1 (ints (F.take (m + j))) := HX.out.1.row (ints_wf fun i hi => by have := HFF.out.2.2.1 i (List.mem_of_mem_take hi); omega)
                  have hasc : 0 < m + j → F.getD (m + j - 1) 0 < F.getD (m + j) 0 := fun h => asc_next HFF.out.2.1 h (by rw [HFF.out.1]; omega)
                  have htk1 : F.take (m + j + 1) = F.take (m + j) ++ [F.getD (m + j) 0] := by
                    rw [List.take_add_one, List.getElem?_eq_getElem (by rw [HFF.out.1]; omega), List.getD_eq_getElem?_getD, List.getElem?_eq_getElem (by rw [HFF.out.1]; omega)]
                    rfl
                  have hnext : nums .i64 (ints (F.take (m + j + 1))) = nums .i64 (ints (F.take (m + j))) ++ nums .i64 [((F.getD (m + j) 0 : Nat) : Int)] := by
                    rw [htk1]
                    unfold nums ints
                    rw [List.map_append, List.map_append]
                    rfl
                  clear htk1
                  have hle := HFF.out.2.2.1 (F.getD (m + j) 0) (by rw [List.getD_eq_getElem?_getD, List.getElem?_eq_getElem (by rw [HFF.out.1]; omega)]; exact List.getElem_mem _)
                  have hprev : (F.take (m + j)).getD (m + j - 1) 0 = F.getD (m + j - 1) 0 ∨ m + j = 0 := by
                    by_cases h0 : m + j = 0
                    · exact .inr h0
                    · refine .inl ?_
                      simp only [List.getD_eq_getElem?_getD]
                      rw [List.getElem?_take_of_lt (by omega)]
                  generalize F.getD (m + j) 0 = v at c0 hasc hnext hle
                  obtain ⟨mj, hmj⟩ : ∃ mj, mj = m + j := ⟨_, rfl⟩
                  rw [← hmj] at hrow hasc hnext hprev ⊢
                  obtain ⟨i0, hi, hi1, hi2, hi3⟩ := info_parts info64
                  have HI := Lib.hid (And.intro hi (And.intro hi1 (And.intro hi2 hi3)))
                  have hnn : mj + 1 ≤ maxLen := by unfold maxLen; omega
                  have hbb : (mj + 1) * 8 ≤ 140737488355328 := by omega
                  have HNn := Lib.hid (And.intro hnn hbb)
                  have HNx := Lib.hid (And.intro hnext hmj)
                  have j0 : (0 : Int) ≤ (j : Int) := by omega
                  have j1 : (j : Int) < (M : Int) := by omega
                  have hmjb : mj ≤ 1000 := by omega
                  clear hits hy hnum hnext hi hi1 hi2 hi3 hnn hbb hmM hmj
                  by_cases hz : mj = 0
                  · have hz1 : ¬ (0 : Int) < (mj : Int) := by omega
                    have hz1' : decide ((0 : Int) < (mj : Int)) = false := by simp only [hz1, decide_false]
                    have hz2 : ¬ 0 < mj := by omega
                    have hz2' : decide (0 < mj) = false := by simp only [hz2, decide_false]
                    clear hrow hasc hprev hz
                    go_wp2_with fail
                    go_quiet (fail)
                    generalize hWr : wr.drewN _ = w5
                    have hb05 : Below wr.heap.size wr w5 := hWr ▸ below_draw wr _
                    have c0' := (hb05.cell (p := ⟨gb, go + j * 8, none⟩) (World.block_lt_of_cell? wr _ c0)).trans c0
                    have hb5 := below_alloc w5 (.cells #[.int .i64 (v : Int)] 3)
                    have hr5 := row_lit .i64 w5 3 [(v : Int)] 1 rfl (by decide) (fun x hx => by simp only [List.mem_cons, List.not_mem_nil, or_false] at hx; subst hx; exact wf_i64.2 (by omega))
                    have hsrc := hr5.src (P := Try.prog) (tx := 28) Try.underlying28
                    have hbf := (HX.out.1.later hb05).later hb5
                    rw [← HNx.out.2] at hbf
                    have HB5 := Lib.hid hbf
                    have HS5 := Lib.hid hsrc
                    have HB05 := Lib.hid (And.intro hb05 hb5)
                    clear hWr hb05 hb5 hr5 hsrc hbf
                    go_wp2_with (at_builtin; refine wpList_append_buf rfl _ _ 28 28 rfl 3 i0 (.int .i64 0) 1 8 Try.underlying28 HI.out.1 HI.out.2.1 HI.out.2.2.1 HI.out.2.2.2 rfl (by decide) g1 a1 mj c1 (nums .i64 (ints (F.take mj))) rfl HB5.out (.slice (some ⟨w5.heap.size, 0, none⟩) 1 1) 1 (nums .i64 [(v : Int)]) rfl HS5.out HNn.out.1 HNn.out.2 ?_)
                    intro g7 a7 c7 w7 t1 t2 t3
                    obtain ⟨hb05, hb5⟩ := HB05.out
                    have hx7 : Exc (fun i => g = some i) w4 w7 := (HX.out.2.1.trans (S' := fun _ => False) (Exc.of_below (hb05.trans (hb5.mono hb05.size))) (fun _ _ hh => hh.elim)).trans t2 (fun i hi hh => by
                      rcases HX.out.2.2 i hh with h | h
                      · exact h
                      · omega)
                    have hs5 : wr.heap.size ≤ w5.heap.size := hb05.size
                    have hs4 : w4.heap.size ≤ wr.heap.size := HX.out.2.1.size
                    have hg7 : ∀ i, g7 = some i → g = some i ∨ w4.heap.size ≤ i := fun i hi => by
                      rcases t3 i hi with h | h
                      · exact HX.out.2.2 i h
                      · exact .inr (by first | omega | (rw [World.size_alloc] at h; omega))
                    have H7 := Lib.hid (And.intro t1 (And.intro hx7 hg7))
                    clear t1 t2 t3 hb05 hb5 hx7 hg7 hs5 hs4 HB5 HS5 HB05
                    go_wp2
                    have he : m + (j + 1) = mj + 1 := by have := HNx.out.2; omega
                    refine ⟨⟨j + 1, g7, a7, c7, by omega, by go_num, by rw [he], ?_, H7.out.2.1, H7.out.2.2⟩, by simp [intOf]; omega⟩
                    have h1 := H7.out.1
                    rw [he, HNx.out.1]
                    exact h1
                  · have hz2 : (0 : Int) < (mj : Int) := by omega
                    obtain ⟨b2, o2, rfl, hc2⟩ := hrow.cells.resolve_left hz
                    obtain ⟨mp, hmp⟩ : ∃ mp, mp = mj - 1 := ⟨_, rfl⟩
                    have d0 := hc2 mp (by omega)
                    have hpv := hprev.resolve_right hz
                    have hlt2 := hasc (by omega)
                    rw [← hmp] at hpv hlt2
                    have eD : (ints (F.take mj)).getD mp 0 = (((F.take mj).getD mp 0 : Nat) : Int) := by
                      have hl : mp < (F.take mj).length := by have := hrow.len; rw [ints_length] at this; omega
                      simp only [ints, List.getD_eq_getElem?_getD, List.getElem?_map, List.getElem?_eq_getElem hl]; rfl
                    rw [eD, hpv] at d0
                    generalize F.getD mp 0 = u at d0 hlt2
                    have g7 : ¬ (v : Int) ≤ (u : Int) := by omega
                    have g7' : decide ((v : Int) ≤ (u : Int)) = false := by simp only [g7, decide_false]
                    have g8 : IntKind.i64.wrap ((mj : Int) - 1) = (mp : Int) := by rw [IntWalk.i64_in _ (by omega)]; omega
                    have g8' : wrap64 ((mj : Int) - 1) = (mp : Int) := by rw [← IntWalk.i64_left]; exact g8
                    have hz3 : 0 < mj := by omega
                    have g9 : (mp : Int) < (mj : Int) := by omega
                    have g10 : (0 : Int) ≤ (mp : Int) := by omega
                    clear hrow hasc hprev hc2 hpv hlt2 eD hmp hz
                    go_wp2_with fail
                    go_quiet (fail)
                    generalize hWr : wr.drewN _ = w5
                    have hb05 : Below wr.heap.size wr w5 := hWr ▸ below_draw wr _
                    have c0' := (hb05.cell (p := ⟨gb, go + j * 8, none⟩) (World.block_lt_of_cell? wr _ c0)).trans c0
                    have hb5 := below_alloc w5 (.cells #[.int .i64 (v : Int)] 3)
                    have hr5 := row_lit .i64 w5 3 [(v : Int)] 1 rfl (by decide) (fun x hx => by simp only [List.mem_cons, List.not_mem_nil, or_false] at hx; subst hx; exact wf_i64.2 (by omega))
                    have hsrc := hr5.src (P := Try.prog) (tx := 28) Try.underlying28
                    have hbf := (HX.out.1.later hb05).later hb5
                    rw [← HNx.out.2] at hbf
                    have HB5 := Lib.hid hbf
                    have HS5 := Lib.hid hsrc
                    have HB05 := Lib.hid (And.intro hb05 hb5)
                    clear hWr hb05 hb5 hr5 hsrc hbf
                    go_wp2_with (at_builtin; refine wpList_append_buf rfl _ _ 28 28 rfl 3 i0 (.int .i64 0) 1 8 Try.underlying28 HI.out.1 HI.out.2.1 HI.out.2.2.1 HI.out.2.2.2 rfl (by decide) g1 (some ⟨b2, o2, none⟩) mj c1 (nums .i64 (ints (F.take mj))) rfl HB5.out (.slice (some ⟨w5.heap.size, 0, none⟩) 1 1) 1 (nums .i64 [(v : Int)]) rfl HS5.out HNn.out.1 HNn.out.2 ?_)
                    intro g7 a7 c7 w7 t1 t2 t3
                    obtain ⟨hb05, hb5⟩ := HB05.out
                    have hx7 : Exc (fun i => g = some i) w4 w7 := (HX.out.2.1.trans (S' := fun _ => False) (Exc.of_below (hb05.trans (hb5.mono hb05.size))) (fun _ _ hh => hh.elim)).trans t2 (fun i hi hh => by
                      rcases HX.out.2.2 i hh with h | h
                      · exact h
                      · omega)
                    have hs5 : wr.heap.size ≤ w5.heap.size := hb05.size
                    have hs4 : w4.heap.size ≤ wr.heap.size := HX.out.2.1.size
                    have hg7 : ∀ i, g7 = some i → g = some i ∨ w4.heap.size ≤ i := fun i hi => by
                      rcases t3 i hi with h | h
                      · exact HX.out.2.2 i h
                      · exact .inr (by first | omega | (rw [World.size_alloc] at h; omega))
                    have H7 := Lib.hid (And.intro t1 (And.intro hx7 hg7))
                    clear t1 t2 t3 hb05 hb5 hx7 hg7 hs5 hs4 HB5 HS5 HB05
                    go_wp2
                    have he : m + (j + 1) = mj + 1 := by have := HNx.out.2; omega
                    refine ⟨⟨j + 1, g7, a7, c7, by omega, by go_num, by rw [he], ?_, H7.out.2.1, H7.out.2.2⟩, by simp [intOf]; omega⟩
                    have h1 := H7.out.1
                    rw [he, HNx.out.1]
                    exact h1
                · obtain rfl : j = M := by omega
                  have htk : F.take (m + j) = F := by rw [← HFF.out.1, List.take_length]
                  have hbuf := HX.out.1
                  rw [htk] at hbuf
                  have hgn := H4.out.1.exc3 HX.out.2.1 (fun i hi hh => (H4.out.2.2.2.2.1 i hi).1 hh) (fun i hi => HGl.out i hi)
                  have hrw : RW w wr b hd x4 (s.went N2 ⟨z0, 0, z0, z1⟩) F nx z0 N2 N2 g1 a1 c1 := ⟨hgn, by rw [HFF.out.1]; exact hbuf, fun i hi hh => by
                      have h1 := H4.out.2.2.2.2.1 i hi
                      rcases HX.out.2.2 i hh with h2 | h2
                      · exact h1.1 h2
                      · omega, fun i hi => by
                      rcases HX.out.2.2 i hi with h2 | h2
                      · exact HGl.out i h2
                      · exact Nat.le_trans H4.out.1.bel.size h2, H4.out.2.2.2.2.2⟩
                  have HRw := Lib.hid hrw
                  have hne : ¬ g = some pw := fun hh => by
                    have h1 := H3.out.1.buf.lt hh
                    have h2 := H1.out.1.buf.lt hh
                    have h3 := H3.out.2.2.2
                    omega
                  have p0' := HX.out.2.1.cell p0 hne
                  have hmM := HmM.out
                  clear htk hbuf hgn hrw hne p0 p1 p2 p3 hjm hj
                  go_wp2
                  obtain ⟨⟨a1', a2, a3, a4'⟩, ⟨a5, a6⟩, ⟨a7, a8⟩, ⟨a9, a10⟩, ⟨a11, a12⟩, _⟩ := HN.out
                  have hzz := HZ.out
                  exact ⟨⟨k + 1, nx, N2, z0, N2, F, x4, _, g1, a1, c1, by omega, by go_num, rfl, rfl, a2, a3, by omega, by omega, rfl, rfl, by rw [HFF.out.1], by omega, by omega, a2, Int.le_refl _, HRw.out⟩, by simp [intOf]; omega⟩
        · as_aux_lemma =>
            have hno : s.ns = [] ∨ ¬ s.free N2 ⟨z0, 0, z0, z1⟩ := by by_cases h0 : s.ns = []; exact .inl h0; exact .inr fun hh => hfr ⟨h0, hh⟩
            have HC := Lib.hid (passN_no w b x s N2 z0 0 z0 z1 W3 H3.out.1.gn hno)
            clear hno hfr
            go_wp2_with fail
            refine HC.out.mono ?_
            rintro e w4 ⟨a4, C4, x4, rfl, hC, hw4, ht, hg⟩
            have H4 := Lib.hid (H3.out.1.act ht hg (H3.out.1.ord.keep HN.out.1.1))
            clear hC hw4 ht hg HC p0 p1 p2 p3
            simp only [id, List.length_nil]
            go_wp2_with fail
            go_loopw [9, 16] (fun wv kv wr => wv = .slice ga m gc ∧ kv = .int .i64 0 ∧ wr = w4) (fun _ _ _ => 0)
            case atStart => exact ⟨rfl, rfl, rfl⟩
            case round =>
              obtain ⟨rfl, rfl, rfl⟩ := hrel
              go_wp2
              obtain ⟨⟨a1, a2, a3, a4⟩, ⟨a5, a6⟩, ⟨a7, a8⟩, ⟨a9, a10⟩, ⟨a11, a12⟩, _⟩ := HN.out
              exact ⟨⟨k + 1, nx, N2, L, T, W, x4, _, g, ga, gc, by omega, by go_num, rfl, rfl, a2, a3, by omega, by omega, rfl, rfl, by rw [HM.out], a9, a10, a11, by omega, H4.out⟩, by simp [intOf]; omega⟩
      · as_aux_lemma =>
          have g3 : (r == 2) = false := by simp [hr5]
          by_cases hph : s.ph = 1
          · have hW0 := (HP.out.ord.one hph).1
            have hm0 : m = 0 := by rw [HM.out, hW0]; rfl
            have HC := Lib.hid (cutN_bad w b x s W1 H1.out.1.gn (.inl hph))
            have d1 : ¬ (0 : Int) < (m : Int) := by omega
            have d2 : ¬ 0 < m := by omega
            clear hph hW0 hm0
            go_wp2_with fail
            refine HC.out.mono ?_
            rintro e w2 ⟨x2, rfl, ht, hg⟩
            have H2 := Lib.hid (H1.out.1.act ht hg (H1.out.1.ord.keep HN.out.1.1))
            clear ht hg HC p0 p1
            go_wp2
            obtain ⟨⟨a1, a2, a3, a4⟩, ⟨a5, a6⟩, ⟨a7, a8⟩, ⟨a9, a10⟩, ⟨a11, a12⟩, _⟩ := HN.out
            exact ⟨⟨k + 1, nx, N2, L, T, W, x2, _, g, ga, gc, by omega, by go_num, rfl, rfl, a2, a3, by omega, by omega, rfl, rfl, by rw [HM.out], a9, a10, a11, by omega, H2.out⟩, by simp [intOf]; omega⟩
          have hph3 : s.ph ≠ 3 := by rcases HP.out.ord.ph with h | h | h <;> omega
          have HC := Lib.hid (cutN_ok w b x s W1 H1.out.1.gn hph hph3)
          have HPh := Lib.hid (show s.ph ≠ 1 from hph)
          clear hph hph3
          go_wp2_with fail
          refine HC.out.mono ?_
          rintro e w2 ⟨x2, rfl, ht, hg⟩
          have hTS : ∀ j, x.T b j → j < px := fun j hj => by rw [HPx.out]; exact HP.out.gn.here.lt j (.inl hj)
          have hbx := H1.out.2.1.exc ht.exc (fun hh => by have := hTS _ hh; omega)
          have hbuf2 : Buf w2 3 1 g ga m gc (nums .i64 (ints W)) := by rw [HM.out]; exact H1.out.1.buf.exc ht.exc (fun j hj hh => H1.out.1.sep j (.inl hh) hj)
          have hsep2 : ∀ j, x2.S b j → g ≠ some j := fun j hj => by
            rcases ht.lies j hj with h1 | h1
            · exact H1.out.1.sep j h1
            · exact fun hh => by have := H1.out.1.buf.lt hh; omega
          have hmb : m ≤ 1000 := by
            have h1 := HP.out.ord.few
            rw [List.length_append, ← HM.out] at h1
            have := HN.out
            omega
          obtain ⟨mn, hmn⟩ : ∃ mn, mn = min m 3 := ⟨_, rfl⟩
          have m1 : min (m : Int) 3 = (mn : Int) := by omega
          have m1' : min m 3 = mn := hmn.symm
          have m2 : IntKind.i64.wrap ((mn : Int) + 1) = ((mn + 1 : Nat) : Int) := by rw [IntWalk.i64_in _ (by omega)]; push_cast; rfl
          obtain ⟨mq, hmq⟩ : ∃ mq, mq = mn + 1 := ⟨_, rfl⟩
          rw [← hmq] at m2
          have m3 : ¬ (mq : Int) = 0 := by omega
          have m4 : ((mq : Int) == 0) = false := by simp; omega
          have m3' : ¬ mq = 0 := by omega
          have m4' : (mq == 0) = false := by simp; omega
          have m5 : IntKind.i64.wrap B = B := IntWalk.i64_in _ (by have := HF.out; omega)
          obtain ⟨D, hD⟩ : ∃ D : Nat, (D : Int) = B % (mq : Int) := ⟨(B % (mq : Int)).toNat, by have := Int.emod_nonneg B m3; omega⟩
          have m6 : B.tmod (mq : Int) = (D : Int) := by rw [hD]; exact Int.tmod_eq_emod_of_nonneg HF.out.2.1
          have m6' : B % (mq : Int) = (D : Int) := hD.symm
          have m7 : IntKind.i64.wrap (D : Int) = (D : Int) := IntWalk.i64_in _ (by have := Int.emod_lt_of_pos B (show (0 : Int) < (mq : Int) by omega); omega)
          have hDm : D ≤ m := by have := Int.emod_lt_of_pos B (show (0 : Int) < (mq : Int) by omega); omega
          obtain ⟨E, hE⟩ : ∃ E, E = m - D := ⟨_, rfl⟩
          have m8 : IntKind.i64.wrap ((m : Int) - (D : Int)) = (E : Int) := by rw [IntWalk.i64_in _ (by omega)]; omega
          have hEm : E + D = m := by omega
          have HEm := Lib.hid (And.intro hEm (show E ≤ m by omega))
          have hnums : ∀ j ∈ W, j ≤ 1000 := fun j hj => by
            have h1 := (HP.out.ord.rng j (List.mem_append_left _ hj)).2
            have := HN.out
            omega
          have H2 := Lib.hid (And.intro hg (And.intro hbuf2 (And.intro hsep2 hnums)))
          have hGl := HP.out.glo
          have HGl := Lib.hid hGl
          clear p0 p1
          have p1 := hbx.cell 1 (by simp)
          simp only [List.getD_cons_zero, List.getD_cons_succ] at p1
          have HMb := Lib.hid hmb
          have HMn := Lib.hid (show mq = min m 3 + 1 by omega)
          clear hg hbuf2 hsep2 hnums hTS hbx hGl hmn hmq hD hDm hE hEm ht HC hmb
          go_upto_region 37 with fail
          go_cut [17] from 139 to 146 (fun v wx => v = .int .i64 (D : Int) ∧ w2 = wx)
          case first =>
            by_cases h3 : 3 < m
            · have h3' : (3 : Int) < (m : Int) := by omega
              have hq4 : mq = 4 := by have := HMn.out; omega
              rw [hq4] at m6 m6'
              have m6 : B.tmod 4 = (D : Int) := m6
              clear m1 m1' m2 m3 m3' m4 m4' hq4 m6'
              go_wp2_with fail
              go_meet
              exact ⟨rfl, rfl⟩
            · have h3' : ¬ (3 : Int) < (m : Int) := by omega
              have m2' : IntKind.i64.wrap ((m : Int) + 1) = (mq : Int) := by rw [IntWalk.i64_in _ (by have := HMb.out; omega)]; have := HMn.out; omega
              clear m1 m1' m2
              go_wp2_with fail
              go_meet
              exact ⟨rfl, rfl⟩
          case rest =>
            obtain ⟨rfl, rfl⟩ := hcut
            clear m1 m1' m2 m3 m3' m4 m4' m5 m6 m6' m7 p1
            go_wp2_with fail
            go_loopw [18, 19] (fun bv kv wr => ∃ (j : Nat) (g1 : Option Nat) (a1 : Option Addr) (c1 : Nat) (C1 : List It), j ≤ D ∧ kv = .int .i64 ((E + j : Nat) : Int) ∧ bv = .slice a1 j c1 ∧ RetIn w2 wr ((W.drop E).map itN) j g1 a1 c1 C1) (fun _ kv _ => m - (intOf kv).toNat)
            case atStart => exact ⟨0, none, none, 0, [], Nat.zero_le _, rfl, rfl, RetIn.none _ _⟩
            case round =>
              obtain ⟨j, g1, a1, c1, C1, hj, rfl, rfl, hri⟩ := hrel
              have HRi := Lib.hid hri
              have hmb := HMb.out
              obtain ⟨hEm, hEm2⟩ := HEm.out
              obtain ⟨ej, hej⟩ : ∃ ej, ej = E + j := ⟨_, rfl⟩
              rw [← hej]
              clear hri
              by_cases hjD : j < D
              · have hrow : Row .i64 w2 ga m gc (ints W) := H2.out.2.1.row (ints_wf fun i hi => by have := H2.out.2.2.2 i hi; omega)
                obtain ⟨b2, o2, rfl, hc2⟩ := hrow.cells.resolve_left (by omega)
                have d0 := hc2 ej (by omega)
                have hWl : W.length = m := HM.out.symm
                have eD : (ints W).getD ej 0 = ((W.getD ej 0 : Nat) : Int) := by
                  simp only [ints, List.getD_eq_getElem?_getD, List.getElem?_map, List.getElem?_eq_getElem (show ej < W.length by omega)]; rfl
                rw [eD] at d0
                have hle := H2.out.2.2.2 (W.getD ej 0) (by rw [List.getD_eq_getElem?_getD, List.getElem?_eq_getElem (show ej < W.length by omega)]; exact List.getElem_mem _)
                have hLg : ((W.drop E).map itN).getD j It.none = itN (W.getD ej 0) := by
                  simp only [List.getD_eq_getElem?_getD, List.getElem?_map, List.getElem?_drop]
                  rw [← hej, List.getElem?_eq_getElem (show ej < W.length by omega)]
                  rfl
                have hLl : j < ((W.drop E).map itN).length := by rw [List.length_map, List.length_drop]; omega
                generalize W.getD ej 0 = v at d0 hle hLg
                have d1 := (HRi.out.bel.cell (p := ⟨b2, o2 + ej, none⟩) (World.block_lt_of_cell? w2 _ d0)).trans d0
                have j0 : (0 : Int) ≤ (ej : Int) := by omega
                have j1 : (ej : Int) < (m : Int) := by omega
                have e9 : IntKind.i64.wrap ((ej : Int) + 1) = ((ej + 1 : Nat) : Int) := by rw [IntWalk.i64_in _ (by omega)]; push_cast; rfl
                have HLg := Lib.hid (And.intro hLg hLl)
                have HEj := Lib.hid hej
                obtain ⟨i0, hi, hz0, hz1', hz2⟩ := info_parts info_it
                have HI := Lib.hid (And.intro hi (And.intro hz0 (And.intro hz1' hz2)))
                have hnn : j + 1 ≤ maxLen := by unfold maxLen; omega
                have hbb : (j + 1) * 48 ≤ 140737488355328 := by omega
                have HNn := Lib.hid (And.intro hnn hbb)
                clear hrow hc2 hWl eD hLg hLl hej hi hz0 hz1' hz2 hnn hbb d0 hEm hEm2
                go_wp2_with fail
                refine (item_any v wr (by omega)).mono ?_
                rintro e w3 ⟨gi, rfl, hri3, hgi, hb3⟩
                have hgi2 : gi < w3.heap.size := by
                  obtain ⟨b9, o9, h9, hc9⟩ := hri3.cells.resolve_left (by decide)
                  cases h9
                  exact World.block_lt_of_cell? w3 _ (hc9 0 (by decide))
                have hb34 := below_alloc w3 (.cells #[.int .i64 (v : Int), .int .u8 5, .int .u8 0, .int .u8 0, .int .u16 0, .int .u16 0, .int .u8 0, .slice (some ⟨gi, 0, none⟩) 1 1] 56)
                have hr4 := hri3.later hb34
                have hb14 := hb3.trans (hb34.mono hb3.size)
                have hz4 : ∀ z, (some (⟨gi, 0, none⟩ : Addr)) = some z → wr.heap.size ≤ z.block ∧ z.block < (w3.alloc (.cells #[.int .i64 (v : Int), .int .u8 5, .int .u8 0, .int .u8 0, .int .u16 0, .int .u16 0, .int .u8 0, .slice (some ⟨gi, 0, none⟩) 1 1] 56)).heap.size := fun z hz => by
                  cases hz
                  exact ⟨hgi, Nat.lt_of_lt_of_le hgi2 hb34.size⟩
                have hsrc := src_it (y := { itN v with loc := some ⟨gi, 0, none⟩ }) (own_lit w3 56 #[.int .i64 (v : Int), .int .u8 5, .int .u8 0, .int .u8 0, .int .u16 0, .int .u16 0, .int .u8 0, .slice (some ⟨gi, 0, none⟩) 1 1] (encIt { itN v with loc := some ⟨gi, 0, none⟩ }) rfl)
                obtain ⟨y, hy⟩ : ∃ y, y = itN v := ⟨_, rfl⟩
                rw [← hy] at hsrc
                have HYv := Lib.hid hy
                clear hy
                have HBf := Lib.hid (HRi.out.buf.later hb14)
                have HSr := Lib.hid hsrc
                have HK := Lib.hid (And.intro hr4 (And.intro hz4 hb14))
                clear hri3 hgi hgi2 hb3 hb34 hr4 hz4 hb14 hsrc d1
                go_simp
                apply_assumption
                refine wpList_build_it rfl (.tmp 162) rfl _ _ _ _ _ _ _ _ _ _ rfl ?_
                go_wp2_with (at_builtin; refine wpList_append_buf rfl _ _ 41 41 rfl 56 i0 (.agg zeroIt.toArray) 8 48 und_it HI.out.1 HI.out.2.1 HI.out.2.2.1 HI.out.2.2.2 zs_it (by decide) g1 a1 j c1 (cellsIt C1) rfl HBf.out (.slice (some ⟨w3.heap.size, 0, none⟩) 1 1) 1 (encIt { y with loc := some ⟨gi, 0, none⟩ }) rfl HSr.out HNn.out.1 HNn.out.2 ?_; intro g5 a5 c5 w5 r1 r2 r3; have HRR := Lib.hid (And.intro r1 (And.intro r2 r3)); clear r1 r2 r3)
                have hK := HK.out
                obtain ⟨r1, r2, r3⟩ := HRR.out
                have hR5 := HRi.out.step (y := y) hK.2.2 hK.2.1 (by rw [HYv.out]; exact hK.1) HLg.out.2 (by rw [HLg.out.1, HYv.out]) r1 r2 (fun i hi => by first | exact r3 i hi | (rw [World.size_alloc]; exact r3 i hi))
                have HR5 := Lib.hid hR5
                clear r1 r2 r3 hK hR5 HK HSr HBf HRR
                exact ⟨⟨j + 1, g5, a5, c5, _, by omega, by rw [HEj.out]; push_cast; rfl, rfl, HR5.out⟩, by have := HEj.out; simp [intOf]; omega⟩
              · obtain rfl : j = D := by omega
                have x1 : ¬ (ej : Int) < (m : Int) := by omega
                have hsl := cut_front ga m gc E hEm2 (H2.out.2.1.le)
                obtain ⟨hs1, hs2⟩ := hsl
                have hWl : W.length = m := HM.out.symm
                have hdl : ((W.drop E).map itN).length = j := by rw [List.length_map, List.length_drop]; omega
                have hL : C1.map It.bare = (W.drop E).map itN := by
                  have h1 := HRi.out.bare
                  rw [← hdl, List.take_length, List.map_map] at h1
                  exact h1
                have hA := HRi.out.arg (fun i hi => by
                  have h1 := numsD hL (i := i) (by rw [List.length_map] at hdl; omega)
                  have h2 := congrArg (fun y : It => y.dat.length) h1
                  simp only [It.bare, itN, List.length_cons, List.length_nil] at h2
                  omega)
                have hgn := H2.out.1.more HRi.out.bel
                have hfew : j + s.cut.ns.length ≤ 60000 := by
                  have h1 := HP.out.ord.few
                  rw [List.length_append] at h1
                  have h2 := HN.out
                  show j + s.ns.length ≤ 60000
                  omega
                have HC := Lib.hid (returnN w b x2 s.cut a1 j c1 (W.drop E) C1 _ wr hgn rfl hA hL hfew)
                have HW2 := Lib.hid (And.intro hWl hEm2)
                clear hWl hdl hL hA hgn hfew hjD hj hEm hEm2 hej hmb
                go_wp2_with fail
                refine HC.out.mono ?_
                rintro e w5 ⟨x5, rfl, ht, hg⟩
                have hbuf : Buf w5 3 1 g ga m gc (nums .i64 (ints W)) := (H2.out.2.1.later HRi.out.bel).exc ht.exc (fun i hi hh => H2.out.2.2.1 i (.inl hh) hi)
                have hlen : (W.take E).length = E := by rw [List.length_take]; have := HW2.out; omega
                have hrw : RW w w5 b hd x5 (s.cut.back (W.drop E)) (W.take E) nx L T N2 g ga gc := ⟨hg, by
                    rw [hlen, ints_take]
                    exact hbuf.take HW2.out.2, fun i hi => by
                    rcases ht.lies i hi with h1 | h1
                    · exact H2.out.2.2.1 i h1
                    · exact fun hh => by have h2 := H2.out.2.1.lt hh; have h3 := HRi.out.bel.size; omega, HGl.out, (HP.out.ord.back HPh.out E).keep HN.out.1.1⟩
                have HRw := Lib.hid hrw
                clear hbuf hrw ht hg HC hs1 hs2 x1
                go_wp2
                obtain ⟨⟨a1', a2, a3, a4⟩, ⟨a5, a6⟩, ⟨a7, a8⟩, ⟨a9, a10⟩, ⟨a11, a12⟩, _⟩ := HN.out
                exact ⟨⟨k + 1, nx, N2, L, T, W.take E, x5, _, g, ga, gc, by omega, by go_num, rfl, rfl, a2, a3, by omega, by omega, rfl, rfl, by rw [hlen], a9, a10, a11, by omega, HRw.out⟩, by simp [intOf]; omega⟩
    · obtain rfl : k = n := by omega
      have hgn := HP.out.gn
      have hln := len_any b x wr hgn.here
      rw [hgn.is.len] at hln
      obtain ⟨M, hM⟩ : ∃ M, M = s.ns.length := ⟨_, rfl⟩
      rw [← hM] at hln
      have hMx : (M : Int) ≤ (nx : Int) := by
        have h1 := HP.out.ord.few
        rw [List.length_append] at h1
        omega
      have HLn := Lib.hid hln
      clear hgn hln hM hN0 hN1 hn1 hn2 hL0 hL1 hT0 hT1
      go_wp2_with fail
      refine HLn.out.mono ?_
      rintro e w7 ⟨rfl, q7, hq7⟩
      have hb7 : Below w.heap.size w w7 := by rw [hq7]; exact below_drewN HP.out.gn.bel q7
      have HB7 := Lib.hid hb7
      clear hq7 hb7
      go_wp2_with fail
      refine (lives_any w7).mono ?_
      rintro e w8 ⟨rfl, hb8⟩
      have HX := Lib.hid (HB7.out.trans (hb8.mono HB7.out.size))
      clear hb8
      go_wp2
      go_ret
      exact ⟨rfl, HX.out⟩
end Go.Proofs.Ytnkpmjkbkdnfjaa
