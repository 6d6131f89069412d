/- ReroutesOnce: every offered or returned item passes or is flushed exactly once, or is still held. -/
import Derived.Test.YtnkpmjkbkdnfjaaRrBal
import Derived.Test.YtnkpmjkbkdnfjaaOpenTri
import Derived.BigQuiet
namespace Go.Proofs.Ytnkpmjkbkdnfjaa
open Go.RowKit

theorem infoBl : (Try.prog.info? 4).map (fun i => (i.zero, i.size, i.bytes)) = some (some (.bool false), 1, 1) := by kernel_rfl
theorem make_bl (n : Nat) (hn : n ≤ 1000) (w : World) :
    (Instr.makeSlice 62 (.int .i64 (n : Int)) (.int .i64 (n : Int))).run Try.prog w = .ok (.slice (some ⟨w.heap.size, 0, none⟩) n n) (w.alloc (.cells (madeCells #[.bool false] n) 4)) :=
  run_make_row' 62 4 (.bool false) 1 Try.underlying62 infoBl rfl .i64 .i64 n (by omega) (by omega) w
theorem make_in (n : Nat) (hn : n ≤ 1000) (w : World) :
    (Instr.makeSlice 28 (.int .i64 (n : Int)) (.int .i64 (n : Int))).run Try.prog w = .ok (.slice (some ⟨w.heap.size, 0, none⟩) n n) (w.alloc (.cells (madeCells #[.int .i64 0] n) 3)) :=
  run_make_row' 28 3 (.int .i64 0) 8 Try.underlying28 info64 rfl .i64 .i64 n (by omega) (by omega) w
theorem GN.exc2 {T : Nat → Prop} {w0 w w' : World} {b : Nat} {x : Gt} {s : Pn} (h : GN w0 w b x s) (hx : Exc T w w') (hn : ∀ k, x.S b k → ¬ T k) (hT : ∀ k, T k → w0.heap.size ≤ k) : GN w0 w' b x s :=
  ⟨h.here.exc hx hn, h.is, h.bel.trans (hx.below h.bel.size fun i _ hi => hT i hi), h.fresh⟩
def cntV (sn : Nat → Nat) : Nat → Value := fun i => .int .i64 ((sn i : Nat) : Int)
def inV (inn : Nat → Bool) : Nat → Value := fun i => .bool (inn i)
theorem inV_low {inn : Nat → Bool} {er q : Int} {n : Nat} (h0 : er = 0) (h : q < 3) (i : Nat) : inV (inAct inn er q n) i = if i = n then Value.bool true else inV inn i := by
  unfold inV
  rw [inAct_low h0 h]
  dsimp only
  by_cases hi : i = n
  · rw [if_pos hi, if_pos hi]
  · rw [if_neg hi, if_neg hi]
theorem inV_six {inn : Nat → Bool} {er q : Int} {n n1 : Nat} (h0 : er = 0) (h : q = 6) (h1 : n1 = n + 1) (i : Nat) : inV (inAct inn er q n) i = if i = n1 then Value.bool true else if i = n then Value.bool true else inV inn i := by
  unfold inV
  rw [inAct_six h0 h, h1]
  dsimp only
  by_cases hi : i = n + 1
  · rw [if_pos hi, if_pos hi]
  · rw [if_neg hi, if_neg hi]
    by_cases hi2 : i = n
    · rw [if_pos hi2, if_pos hi2]
    · rw [if_neg hi2, if_neg hi2]
/-- A gate beside the law's two rows, after k acts. -/
structure OW (w0 w : World) (b sb ib K : Nat) (H : Int) (x : Gt) (s : Pn) (k : Nat) (N : Int) (sn : Nat → Nat) (inn : Nat → Bool) : Prop where
  gn : GN w0 w b x s
  sep : ∀ j, x.S b j → j ≠ sb ∧ j ≠ ib
  rs : FR w sb 3 K (cntV sn)
  ri : FR w ib 4 K (inV inn)
  ne : sb ≠ ib
  slo : w0.heap.size ≤ sb
  ilo : w0.heap.size ≤ ib
  bal : ∀ m, sn m + s.ns.count m = if inn m then 1 else 0
  hi : ∀ m, 2 * k < m → inn m = false
  inv : s.Inv H k N
set_option maxHeartbeats 8000000 in
set_option maxRecDepth 100000 in
theorem once_walk (hd : Int) (a : Option Addr) (n c : Nat) (l : List (Int × Int × Int)) (w : World) (h0 : (Lit.int .u8 hd).wf = true) (hr : Tris .u8 .u8 .u8 w a n c l) :
    Calls Try.prog 5 #[.int .u8 hd, .slice a n c] w fun e w' => e = .returned (.bool true) ∧ Below w.heap.size w w' := by
  have hmx := hr.max
  have hle := hr.le
  have hd0 := wf_u8.1 h0
  by_cases hbig : 200 < n
  · have k1 : (200 : Int) < (n : Int) := by omega
    clear hr hmx hle hd0
    go_enter Try.func5, Try.ntmps5
    go_wp2_with fail
    refine (lives_any w).mono ?_
    rintro e w2 ⟨rfl, hb⟩
    go_wp2
    go_ret
    exact ⟨rfl, hb⟩
  have k1 : ¬ (200 : Int) < (n : Int) := by omega
  have hwd : IntKind.i64.wrap hd = hd := IntWalk.i64_in _ (by omega)
  obtain ⟨K, hK⟩ : ∃ K, K = 2 * n + 3 := ⟨_, rfl⟩
  have x1 : IntKind.i64.wrap (2 * (n : Int)) = 2 * (n : Int) := IntWalk.i64_in _ (by omega)
  have x2 : IntKind.i64.wrap (2 * (n : Int) + 3) = (K : Int) := by rw [IntWalk.i64_in _ (by omega)]; omega
  have hmi := make_in K (by omega)
  have hmb := make_bl K (by omega)
  have HR := Lib.hid hr
  have HD := Lib.hid hd0
  have HB := Lib.hid (show n ≤ 200 by omega)
  have HK := Lib.hid hK
  clear hr hmx hle hd0 hbig hK
  go_enter Try.func5, Try.ntmps5
  go_wp2_with fail
  refine (new_any hd w HD.out.1 (by have := HD.out; omega)).mono ?_
  rintro e w1 ⟨rfl, h1, b1⟩
  have hg := GN.start h1 b1
  obtain ⟨b, hb⟩ : ∃ b, b = w.heap.size := ⟨_, rfl⟩
  rw [← hb] at hg ⊢
  have r1 := fr_made (.int .i64 0) 3 K w1
  have bl1 := below_alloc w1 (.cells (madeCells #[.int .i64 0] K) 3)
  have r2 := fr_made (.bool false) 4 K (w1.alloc (.cells (madeCells #[.int .i64 0] K) 3))
  have bl2 := below_alloc (w1.alloc (.cells (madeCells #[.int .i64 0] K) 3)) (.cells (madeCells #[.bool false] K) 4)
  rw [World.size_alloc] at r2
  have how : OW w ((w1.alloc (.cells (madeCells #[.int .i64 0] K) 3)).alloc (.cells (madeCells #[.bool false] K) 4)) b w1.heap.size (w1.heap.size + 1) K hd (Gt.fresh hd) (Pn.fresh hd) 0 0 (fun _ => 0) (fun _ => false) :=
    ⟨hg.more (bl1.trans (bl2.mono bl1.size)), fun j hj => by have := hg.here.lt j hj; omega, r1.below bl2, r2, by omega, b1.size, Nat.le_succ_of_le b1.size, fun m => rfl, fun m _ => rfl, Pn.Inv.fresh hd⟩
  have HP := Lib.hid how
  clear how r1 r2 bl1 bl2 hg h1 b1 hb
  go_upto_region 8 with fail
  generalize (w1.alloc (.cells (madeCells #[.int .i64 0] K) 3)).alloc (.cells (madeCells #[.bool false] K) 4) = W at HP ⊢
  obtain ⟨ib, hib⟩ : ∃ m, m = w1.heap.size + 1 := ⟨_, rfl⟩
  obtain ⟨sb, hsb⟩ : ∃ m, m = w1.heap.size := ⟨_, rfl⟩
  have hp := HP.out
  rw [← hib, ← hsb] at hp
  rw [← hib, ← hsb]
  have HW := Lib.hid hp
  clear hp hib hsb HP hmi hmb
  go_wp2_with fail
  go_loopw [9, 10] (fun nv iv wr => ∃ (k : Nat) (N : Int), k ≤ n ∧ iv = .int .i64 (k : Int) ∧ nv = .int .i64 N ∧ 0 ≤ N ∧ N ≤ 255 * (k : Int) ∧ ∃ x s sn inn, OW w wr b sb ib K hd x s k N sn inn) (fun _ iv _ => n - (intOf iv).toNat)
  case atStart => exact ⟨0, 0, Nat.zero_le _, rfl, rfl, Int.le_refl _, Int.le_refl _, _, _, _, _, HW.out⟩
  case round =>
    obtain ⟨k, N, hk, rfl, rfl, hN0, hN1, x, s, sn, inn, how⟩ := hrel
    have HP := Lib.hid how
    clear how HW
    by_cases hlt : k < n
    · have hAr := HR.out
      obtain ⟨lb, lo, rfl, hc⟩ := hAr.cells.resolve_left (by omega)
      obtain ⟨r0, r1, r2⟩ := hc k hlt
      have hlbW : lb < w.heap.size := World.block_lt_of_cell? w _ r0
      have q0 := (HP.out.gn.bel.cell (p := ⟨lb, lo + k * 3, none⟩) hlbW).trans r0
      have q1 := (HP.out.gn.bel.cell (p := ⟨lb, lo + k * 3 + 1, none⟩) hlbW).trans r1
      have q2 := (HP.out.gn.bel.cell (p := ⟨lb, lo + k * 3 + 2, none⟩) hlbW).trans r2
      clear r0 r1 r2
      have hmem : l.getD k (0, 0, 0) ∈ l := by
        have hl := hAr.len
        rw [List.getD_eq_getElem?_getD, List.getElem?_eq_getElem (by omega)]
        exact List.getElem_mem _
      obtain ⟨f0, f1, f2⟩ := hAr.wf _ hmem
      clear hmem
      generalize l.getD k (0, 0, 0) = t at q0 q1 q2 f0 f1 f2
      obtain ⟨A, B, C⟩ := t
      dsimp only at q0 q1 q2 f0 f1 f2
      have fA := wf_u8.1 f0
      have fB := wf_u8.1 f1
      have fC := wf_u8.1 f2
      have e2 : IntKind.i64.wrap C = C := IntWalk.i64_in _ (by omega)
      obtain ⟨N2, hN2⟩ : ∃ N2, N2 = N + C := ⟨_, rfl⟩
      have hkB := HB.out
      have e3 : IntKind.i64.wrap (N + C) = N2 := by rw [hN2]; exact IntWalk.i64_in _ (by omega)
      have hN2a : N ≤ N2 ∧ 0 ≤ N2 ∧ N2 ≤ 255 * ((k + 1 : Nat) : Int) ∧ N2 ≤ 100000 := by push_cast; omega
      have k0 : (0 : Int) ≤ (k : Int) := by omega
      have k2 : (k : Int) < (n : Int) := by omega
      obtain ⟨J, hJ⟩ : ∃ J, J = 2 * k + 1 := ⟨_, rfl⟩
      have hJ2 : J + 1 ≤ 60000 := by omega
      have e4 : IntKind.i64.wrap (2 * (k : Int)) = 2 * (k : Int) := IntWalk.i64_in _ (by omega)
      have e5 : IntKind.i64.wrap (2 * (k : Int) + 1) = (J : Int) := by rw [IntWalk.i64_in _ (by omega)]; omega
      have e6 : IntKind.i64.wrap (2 * (k : Int) + 2) = ((J + 1 : Nat) : Int) := by rw [IntWalk.i64_in _ (by omega)]; omega
      obtain ⟨J1, hJ1⟩ : ∃ J1, J1 = J + 1 := ⟨_, rfl⟩
      rw [← hJ1] at e6
      have hi := HP.out.inv
      have hpl := play_any w wr b x s A B C N2 J HP.out.gn fA fB (by have := hi.few; omega) hJ2 (by omega)
      have hin := Pn.Inv.act (q := A % 8) (y := wayN B) hi hN0 hN2a.1
      have hbal := act_bal (q := A % 8) (y := wayN B) (now := N2) (n := J) HP.out.bal (fun m hm => HP.out.hi m (by omega))
      rw [← hJ] at hin
      obtain ⟨q, hq⟩ : ∃ q, q = A % 8 := ⟨_, rfl⟩
      have eq8 : A.tmod 8 = q := by rw [hq]; exact Int.tmod_eq_emod_of_nonneg fA.1
      have hq7 : 0 ≤ q ∧ q ≤ 7 := by omega
      rw [← hq] at hin hpl hbal
      obtain ⟨⟨out, er, s2⟩, hr2⟩ : ∃ r, r = s.act q (wayN B) N2 J := ⟨_, rfl⟩
      rw [← hr2] at hin hpl hbal
      dsimp only at hin hpl hbal
      have HPl := Lib.hid hpl
      have HIn := Lib.hid hin
      have HJ := Lib.hid (And.intro hJ hN2a)
      have HJ1 := Lib.hid (And.intro hJ1 (show J1 < K ∧ J < K by have := HK.out; omega))
      have HAr := Lib.hid hlbW
      have HBal := Lib.hid hbal
      have lne1 : ¬ lb = ib := by have := HP.out.ilo; omega
      have lne2 : ¬ ib = lb := fun hh => lne1 hh.symm
      have jne1 : ¬ J = J1 := by have := HJ1.out.1; omega
      have jne2 : ¬ J1 = J := by have := HJ1.out.1; omega
      have jk1 : (J : Int) < (K : Int) := by have := HK.out; omega
      have jk2 : (J1 : Int) < (K : Int) := by have := HK.out; omega
      have jk3 : (0 : Int) ≤ (J : Int) := by omega
      have jk4 : (0 : Int) ≤ (J1 : Int) := by omega
      clear hpl hin hJ hJ1 hJ2 hN2 hN2a hi hr2 f0 f1 f2 fA fB fC hAr hc hlbW hN0 hN1 hkB hq hbal
      go_wp2_with fail
      with_reducible refine HPl.out.mono ?_
      rintro e w3 ⟨a3, C3, x3, rfl, hC3, hwent, ht, hg3⟩
      dsimp only at hC3 hg3
      obtain ⟨M, hM⟩ : ∃ M, M = out.length := ⟨_, rfl⟩
      rw [← hM]
      have hrs3 : FR w3 sb 3 K (cntV sn) := HP.out.rs.exc ht.exc (fun hh => (HP.out.sep sb (.inl hh)).1 rfl)
      have hri3 : FR w3 ib 4 K (inV inn) := HP.out.ri.exc ht.exc (fun hh => (HP.out.sep ib (.inl hh)).2 rfl)
      have hsep3 : ∀ j, x3.S b j → j ≠ sb ∧ j ≠ ib := fun j hj => by
        rcases ht.lies j hj with h | h
        · exact HP.out.sep j h
        · have h1 := HP.out.rs.lt; have h2 := HP.out.ri.lt; omega
      have hits : ItsIn w3 (fun j => j ≠ sb ∧ j ≠ ib ∧ ¬ x3.S b j) a3 C3 := by
        obtain ⟨⟨g, hb1, hg1⟩, hr1, hl1⟩ := hwent.off
        obtain ⟨⟨g', hb2, hg2⟩, _, hl2⟩ := hwent.was
        refine ⟨⟨g, hb1, fun j hj => ?_⟩, hr1, fun y hy z hz => ?_⟩
        · have hgg : g' = some j := by
            rcases hb1.lies with ⟨_, h2, _⟩ | ⟨k1, o1, rs1, h1, h2, _⟩
            · rw [h2] at hj; cases hj
            · rw [h2] at hj; cases hj; exact (hb2.block h1).1
          have h1 := HP.out.sep j (hg2 j hgg)
          exact ⟨h1.1, h1.2, (hg1 j hj).2⟩
        · have h1 := HP.out.sep _ (hl2 y hy z hz)
          exact ⟨h1.1, h1.2, (hl1 y hy z hz).2⟩
      have hlA : ∀ j u, w.cell? ⟨lb, j, none⟩ = some u → w3.cell? ⟨lb, j, none⟩ = some u := fun j u hu => (hg3.bel.cell (p := ⟨lb, j, none⟩) HAr.out).trans hu
      have q0' : w3.cell? ⟨lb, lo + k * 3, none⟩ = some (.int .u8 A) := ht.exc.cell q0 (fun hh => by have h1 := HP.out.gn.fresh _ (.inl hh); have h2 := HAr.out; simp only at h1; omega)
      have H3 := Lib.hid (And.intro hg3 (And.intro hrs3 (And.intro hri3 (And.intro hsep3 (And.intro hits hC3)))))
      have HMo := Lib.hid hM
      have HMb := Lib.hid (show M ≤ 1000 by have h1 := HIn.out.2.2.1; have h2 := HB.out; omega)
      clear hrs3 hri3 hsep3 hits hC3 hwent ht hg3 hlA hM q0 q1 q2 HPl
      by_cases hc1 : er = 0 ∧ q < 3
      · as_aux_lemma =>
          have he := hc1.1
          have hqq := hc1.2
          have g1 : q < 3 := hqq
          have g2 : (q == 6) = false := by simp; omega
          have HE := Lib.hid (And.intro he hqq)
          obtain ⟨hg3, hrs3, hri3, hsep3, hits, hC3⟩ := H3.out
          have zf1 := hri3.frozen J
          have zf2 := hri3.frozen J1
          have zc1 := hri3.cell (i := J) HJ1.out.2.2
          have zc2 := hri3.cell (i := J1) HJ1.out.2.1
          simp only [inV] at zc1 zc2
          have HC3 := Lib.hid hC3
          have hx : Exc (fun i => i = ib) w3 (World.setCell w3 ⟨ib, J, none⟩ (.bool true)) := Blk.exc ib J _ w3
          have hfr : FR (World.setCell w3 ⟨ib, J, none⟩ (.bool true)) ib 4 K (inV (inAct inn er q J)) := ((hri3).set J (.bool true)).congr fun i _ => inV_low he hqq i
          have hrs := hrs3.exc hx (fun hh => HP.out.ne hh)
          have hgn : GN w (World.setCell w3 ⟨ib, J, none⟩ (.bool true)) b x3 s2 := hg3.exc2 hx (fun i hi hh => (hsep3 i hi).2 hh) (fun i hi => by rw [hi]; exact HP.out.ilo)
          have hit := hits.exc hx (fun i hi hh => hi.2.1 hh)
          have hsnap : FR (World.setCell w3 ⟨ib, J, none⟩ (.bool true)) sb 3 K (cntV fun i => sn i + (out.take 0).count i) := hrs
          have HSt := Lib.hid (And.intro hsnap (And.intro (And.intro hgn (And.intro hsep3 hfr)) hit))
          have hinn : (∀ m, (sn m + out.count m) + s2.ns.count m = if inAct inn er q J m then 1 else 0) ∧ (∀ m, 2 * (k + 1) < m → inAct inn er q J m = false) := ⟨HBal.out, fun m hm => by
            have h1 := HP.out.hi m (by omega)
            have h2 := HJ.out.1
            rw [inAct_low he hqq]; show (if m = J then true else inn m) = false; rw [if_neg (by omega)]; exact h1⟩
          have HInn := Lib.hid hinn
          have HOut := Lib.hid HIn.out.2.1
          have HKB := Lib.hid (show 2 * k < K by have := HK.out; omega)
          have HSm := Lib.hid (show ∀ m, sn m + out.count m ≤ 1 from fun m => by have := HBal.out m; by_cases hh : inAct inn er q J m = true; (rw [if_pos hh] at this; omega); (rw [if_neg hh] at this; omega))
          subst he
          clear hqq hc1
          clear hg3 hrs3 hri3 hsep3 hits hC3 hx hfr hrs hgn hit hsnap hinn H3
          go_upto_region 19 with fail
          generalize (World.setCell w3 ⟨ib, J, none⟩ (.bool true)) = W4 at HSt ⊢
          clear zf1 zf2 zc1 zc2
          have hMl := HMo.out
          have hMb : M ≤ 1000 := HMb.out
          go_wp2_with fail
          go_loopw [13] (fun kv wr => ∃ j : Nat, j ≤ M ∧ kv = .int .i64 j ∧ Exc (fun i => i = sb) W4 wr ∧ FR wr sb 3 K (cntV fun i => sn i + (out.take j).count i)) (fun kv _ => M - (intOf kv).toNat)
          case atStart => exact ⟨0, Nat.zero_le _, rfl, Exc.refl _ _, HSt.out.1⟩
          case round =>
            obtain ⟨j, hj, rfl, hx, hfr⟩ := hrel
            have HX := Lib.hid (And.intro hx hfr)
            clear hx hfr
            by_cases hjm : j < M
            · have hits := HSt.out.2.2.exc HX.out.1 (fun i hi => hi.1)
              obtain ⟨gb, go, rfl, c0, _⟩ := hits.at It.none (i := j) (by have h1 := congrArg List.length HC3.out; rw [List.length_map, List.length_map] at h1; omega)
              have hy := numsD HC3.out (i := j) (by omega)
              have hnum : (C3.getD j It.none).num = ((out.getD j 0 : Nat) : Int) := congrArg It.num hy
              have hrange := HOut.out (out.getD j 0) (by rw [List.getD_eq_getElem?_getD, List.getElem?_eq_getElem (by omega)]; exact List.getElem_mem _)
              have hcs : ∀ i, (out.take (j + 1)).count i = (out.take j).count i + if i = out.getD j 0 then 1 else 0 := fun i => count_take_succ out j i (by omega)
              rw [hnum] at c0
              generalize out.getD j 0 = m at c0 hrange hcs
              have m1 : (m : Int) < (K : Int) := by have := HKB.out; omega
              have m2 : ¬ (m : Int) < 1 := by omega
              have m3 : ¬ (K : Int) ≤ (m : Int) := by omega
              have m4 : (0 : Int) ≤ (m : Int) := by omega
              have df := HX.out.2.frozen m
              have hsm := HSm.out m
              have hcm : (out.take j).count m ≤ out.count m := (List.take_sublist j out).count_le m
              obtain ⟨V, hV⟩ : ∃ V, V = sn m + (out.take j).count m := ⟨_, rfl⟩
              have d0 : wr.cell? ⟨sb, m, none⟩ = some (.int .i64 (V : Int)) := by rw [hV]; exact HX.out.2.cell (i := m) (by omega)
              have wv : IntKind.i64.wrap ((V : Int) + 1) = ((V + 1 : Nat) : Int) := by rw [IntWalk.i64_in _ (by omega)]; push_cast; rfl
              have j0 : (0 : Int) ≤ (j : Int) := by omega
              have j1 : (j : Int) < (M : Int) := by omega
              have HV := Lib.hid (And.intro hV hcs)
              clear hits hy hnum hrange hsm hcm hV hcs
              go_wp2
              refine ⟨⟨j + 1, by omega, by go_num, HX.out.1.trans (Blk.exc sb m _ wr) (fun _ _ hh => hh), (HX.out.2.set m _).congr fun i _ => ?_⟩, by simp [intOf]; omega⟩
              show Value.int .i64 ((sn i + (out.take (j + 1)).count i : Nat) : Int) = if i = m then Value.int .i64 _ else _
              rw [HV.out.2 i]
              by_cases him : i = m
              · rw [if_pos him, if_pos him, him, ← Nat.add_assoc, ← HV.out.1]; push_cast; rfl
              · rw [if_neg him, if_neg him, Nat.add_zero]
                rfl
            · obtain rfl : j = M := by omega
              have htake : out.take j = out := by rw [hMl, List.take_length]
              have hfr := HX.out.2
              rw [htake] at hfr
              have HFr := Lib.hid hfr
              clear hjm hfr htake
              go_wp2
              have hx := HX.out.1
              have hgn : GN w wr b x3 s2 := HSt.out.2.1.1.exc2 hx (fun i hi hh => (HSt.out.2.1.2.1 i hi).1 hh) (fun i hi => by rw [hi]; exact HP.out.slo)
              exact ⟨⟨k + 1, N2, by omega, by go_num, rfl, HJ.out.2.2.1, HJ.out.2.2.2.1, x3, s2, _, _, ⟨hgn, HSt.out.2.1.2.1, HFr.out, HSt.out.2.1.2.2.exc hx (fun hh => HP.out.ne hh.symm), HP.out.ne, HP.out.slo, HP.out.ilo, HInn.out.1, HInn.out.2, HIn.out.1⟩⟩, by simp [intOf]; omega⟩
      by_cases hc2 : er = 0 ∧ q = 6
      · as_aux_lemma =>
          have he := hc2.1
          have hqq := hc2.2
          have g1 : ¬ q < 3 := by omega
          have g1' : decide (q < 3) = false := by simp; omega
          have g2 : (q == 6) = true := by simp [hqq]
          have HE := Lib.hid (And.intro he hqq)
          obtain ⟨hg3, hrs3, hri3, hsep3, hits, hC3⟩ := H3.out
          have zf1 := hri3.frozen J
          have zf2 := hri3.frozen J1
          have zc1 := hri3.cell (i := J) HJ1.out.2.2
          have zc2 := hri3.cell (i := J1) HJ1.out.2.1
          simp only [inV] at zc1 zc2
          have HC3 := Lib.hid hC3
          have hx : Exc (fun i => i = ib) w3 (World.setCell (World.setCell w3 ⟨ib, J, none⟩ (.bool true)) ⟨ib, J1, none⟩ (.bool true)) := Blk.more (Blk.exc ib J _ w3) J1 _
          have hfr : FR (World.setCell (World.setCell w3 ⟨ib, J, none⟩ (.bool true)) ⟨ib, J1, none⟩ (.bool true)) ib 4 K (inV (inAct inn er q J)) := (((hri3).set J (.bool true)).set J1 (.bool true)).congr fun i _ => inV_six he hqq HJ1.out.1 i
          have hrs := hrs3.exc hx (fun hh => HP.out.ne hh)
          have hgn : GN w (World.setCell (World.setCell w3 ⟨ib, J, none⟩ (.bool true)) ⟨ib, J1, none⟩ (.bool true)) b x3 s2 := hg3.exc2 hx (fun i hi hh => (hsep3 i hi).2 hh) (fun i hi => by rw [hi]; exact HP.out.ilo)
          have hit := hits.exc hx (fun i hi hh => hi.2.1 hh)
          have hsnap : FR (World.setCell (World.setCell w3 ⟨ib, J, none⟩ (.bool true)) ⟨ib, J1, none⟩ (.bool true)) sb 3 K (cntV fun i => sn i + (out.take 0).count i) := hrs
          have HSt := Lib.hid (And.intro hsnap (And.intro (And.intro hgn (And.intro hsep3 hfr)) hit))
          have hinn : (∀ m, (sn m + out.count m) + s2.ns.count m = if inAct inn er q J m then 1 else 0) ∧ (∀ m, 2 * (k + 1) < m → inAct inn er q J m = false) := ⟨HBal.out, fun m hm => by
            have h1 := HP.out.hi m (by omega)
            have h2 := HJ.out.1
            rw [inAct_six he hqq]; show (if m = J + 1 then true else if m = J then true else inn m) = false; rw [if_neg (by omega), if_neg (by omega)]; exact h1⟩
          have HInn := Lib.hid hinn
          have HOut := Lib.hid HIn.out.2.1
          have HKB := Lib.hid (show 2 * k < K by have := HK.out; omega)
          have HSm := Lib.hid (show ∀ m, sn m + out.count m ≤ 1 from fun m => by have := HBal.out m; by_cases hh : inAct inn er q J m = true; (rw [if_pos hh] at this; omega); (rw [if_neg hh] at this; omega))
          subst he
          clear hqq hc1 hc2
          clear hg3 hrs3 hri3 hsep3 hits hC3 hx hfr hrs hgn hit hsnap hinn H3
          go_upto_region 19 with fail
          generalize (World.setCell (World.setCell w3 ⟨ib, J, none⟩ (.bool true)) ⟨ib, J1, none⟩ (.bool true)) = W4 at HSt ⊢
          clear zf1 zf2 zc1 zc2
          have hMl := HMo.out
          have hMb : M ≤ 1000 := HMb.out
          go_wp2_with fail
          go_loopw [13] (fun kv wr => ∃ j : Nat, j ≤ M ∧ kv = .int .i64 j ∧ Exc (fun i => i = sb) W4 wr ∧ FR wr sb 3 K (cntV fun i => sn i + (out.take j).count i)) (fun kv _ => M - (intOf kv).toNat)
          case atStart => exact ⟨0, Nat.zero_le _, rfl, Exc.refl _ _, HSt.out.1⟩
          case round =>
            obtain ⟨j, hj, rfl, hx, hfr⟩ := hrel
            have HX := Lib.hid (And.intro hx hfr)
            clear hx hfr
            by_cases hjm : j < M
            · have hits := HSt.out.2.2.exc HX.out.1 (fun i hi => hi.1)
              obtain ⟨gb, go, rfl, c0, _⟩ := hits.at It.none (i := j) (by have h1 := congrArg List.length HC3.out; rw [List.length_map, List.length_map] at h1; omega)
              have hy := numsD HC3.out (i := j) (by omega)
              have hnum : (C3.getD j It.none).num = ((out.getD j 0 : Nat) : Int) := congrArg It.num hy
              have hrange := HOut.out (out.getD j 0) (by rw [List.getD_eq_getElem?_getD, List.getElem?_eq_getElem (by omega)]; exact List.getElem_mem _)
              have hcs : ∀ i, (out.take (j + 1)).count i = (out.take j).count i + if i = out.getD j 0 then 1 else 0 := fun i => count_take_succ out j i (by omega)
              rw [hnum] at c0
              generalize out.getD j 0 = m at c0 hrange hcs
              have m1 : (m : Int) < (K : Int) := by have := HKB.out; omega
              have m2 : ¬ (m : Int) < 1 := by omega
              have m3 : ¬ (K : Int) ≤ (m : Int) := by omega
              have m4 : (0 : Int) ≤ (m : Int) := by omega
              have df := HX.out.2.frozen m
              have hsm := HSm.out m
              have hcm : (out.take j).count m ≤ out.count m := (List.take_sublist j out).count_le m
              obtain ⟨V, hV⟩ : ∃ V, V = sn m + (out.take j).count m := ⟨_, rfl⟩
              have d0 : wr.cell? ⟨sb, m, none⟩ = some (.int .i64 (V : Int)) := by rw [hV]; exact HX.out.2.cell (i := m) (by omega)
              have wv : IntKind.i64.wrap ((V : Int) + 1) = ((V + 1 : Nat) : Int) := by rw [IntWalk.i64_in _ (by omega)]; push_cast; rfl
              have j0 : (0 : Int) ≤ (j : Int) := by omega
              have j1 : (j : Int) < (M : Int) := by omega
              have HV := Lib.hid (And.intro hV hcs)
              clear hits hy hnum hrange hsm hcm hV hcs
              go_wp2
              refine ⟨⟨j + 1, by omega, by go_num, HX.out.1.trans (Blk.exc sb m _ wr) (fun _ _ hh => hh), (HX.out.2.set m _).congr fun i _ => ?_⟩, by simp [intOf]; omega⟩
              show Value.int .i64 ((sn i + (out.take (j + 1)).count i : Nat) : Int) = if i = m then Value.int .i64 _ else _
              rw [HV.out.2 i]
              by_cases him : i = m
              · rw [if_pos him, if_pos him, him, ← Nat.add_assoc, ← HV.out.1]; push_cast; rfl
              · rw [if_neg him, if_neg him, Nat.add_zero]
                rfl
            · obtain rfl : j = M := by omega
              have htake : out.take j = out := by rw [hMl, List.take_length]
              have hfr := HX.out.2
              rw [htake] at hfr
              have HFr := Lib.hid hfr
              clear hjm hfr htake
              go_wp2
              have hx := HX.out.1
              have hgn : GN w wr b x3 s2 := HSt.out.2.1.1.exc2 hx (fun i hi hh => (HSt.out.2.1.2.1 i hi).1 hh) (fun i hi => by rw [hi]; exact HP.out.slo)
              exact ⟨⟨k + 1, N2, by omega, by go_num, rfl, HJ.out.2.2.1, HJ.out.2.2.2.1, x3, s2, _, _, ⟨hgn, HSt.out.2.1.2.1, HFr.out, HSt.out.2.1.2.2.exc hx (fun hh => HP.out.ne hh.symm), HP.out.ne, HP.out.slo, HP.out.ilo, HInn.out.1, HInn.out.2, HIn.out.1⟩⟩, by simp [intOf]; omega⟩
      by_cases he0 : er = 0
      · as_aux_lemma =>
          have hno1 : ¬ (er = 0 ∧ q < 3) := hc1
          have hno2 : ¬ (er = 0 ∧ q = 6) := hc2
          have g1 : ¬ q < 3 := fun h => hc1 ⟨he0, h⟩
          have g1' : decide (q < 3) = false := by simp; omega
          have g2 : (q == 6) = false := by simp; exact fun h => hc2 ⟨he0, h⟩
          have he := he0
          obtain ⟨hg3, hrs3, hri3, hsep3, hits, hC3⟩ := H3.out
          have zf1 := hri3.frozen J
          have zf2 := hri3.frozen J1
          have zc1 := hri3.cell (i := J) HJ1.out.2.2
          have zc2 := hri3.cell (i := J1) HJ1.out.2.1
          simp only [inV] at zc1 zc2
          have HC3 := Lib.hid hC3
          have hx : Exc (fun i => i = ib) w3 w3 := Exc.refl _ w3
          have hfr : FR w3 ib 4 K (inV (inAct inn er q J)) := (hri3).congr fun i _ => by rw [inAct_none hno1 hno2]
          have hrs := hrs3.exc hx (fun hh => HP.out.ne hh)
          have hgn : GN w w3 b x3 s2 := hg3.exc2 hx (fun i hi hh => (hsep3 i hi).2 hh) (fun i hi => by rw [hi]; exact HP.out.ilo)
          have hit := hits.exc hx (fun i hi hh => hi.2.1 hh)
          have hsnap : FR w3 sb 3 K (cntV fun i => sn i + (out.take 0).count i) := hrs
          have HSt := Lib.hid (And.intro hsnap (And.intro (And.intro hgn (And.intro hsep3 hfr)) hit))
          have hinn : (∀ m, (sn m + out.count m) + s2.ns.count m = if inAct inn er q J m then 1 else 0) ∧ (∀ m, 2 * (k + 1) < m → inAct inn er q J m = false) := ⟨HBal.out, fun m hm => by
            have h1 := HP.out.hi m (by omega)
            have h2 := HJ.out.1
            rw [inAct_none hno1 hno2]; exact h1⟩
          have HInn := Lib.hid hinn
          have HOut := Lib.hid HIn.out.2.1
          have HKB := Lib.hid (show 2 * k < K by have := HK.out; omega)
          have HSm := Lib.hid (show ∀ m, sn m + out.count m ≤ 1 from fun m => by have := HBal.out m; by_cases hh : inAct inn er q J m = true; (rw [if_pos hh] at this; omega); (rw [if_neg hh] at this; omega))
          subst he
          clear hno1 hno2 hc1 hc2
          clear hg3 hrs3 hri3 hsep3 hits hC3 hx hfr hrs hgn hit hsnap hinn H3
          go_upto_region 19 with fail
          clear zf1 zf2 zc1 zc2
          have hMl := HMo.out
          have hMb : M ≤ 1000 := HMb.out
          go_wp2_with fail
          go_loopw [13] (fun kv wr => ∃ j : Nat, j ≤ M ∧ kv = .int .i64 j ∧ Exc (fun i => i = sb) w3 wr ∧ FR wr sb 3 K (cntV fun i => sn i + (out.take j).count i)) (fun kv _ => M - (intOf kv).toNat)
          case atStart => exact ⟨0, Nat.zero_le _, rfl, Exc.refl _ _, HSt.out.1⟩
          case round =>
            obtain ⟨j, hj, rfl, hx, hfr⟩ := hrel
            have HX := Lib.hid (And.intro hx hfr)
            clear hx hfr
            by_cases hjm : j < M
            · have hits := HSt.out.2.2.exc HX.out.1 (fun i hi => hi.1)
              obtain ⟨gb, go, rfl, c0, _⟩ := hits.at It.none (i := j) (by have h1 := congrArg List.length HC3.out; rw [List.length_map, List.length_map] at h1; omega)
              have hy := numsD HC3.out (i := j) (by omega)
              have hnum : (C3.getD j It.none).num = ((out.getD j 0 : Nat) : Int) := congrArg It.num hy
              have hrange := HOut.out (out.getD j 0) (by rw [List.getD_eq_getElem?_getD, List.getElem?_eq_getElem (by omega)]; exact List.getElem_mem _)
              have hcs : ∀ i, (out.take (j + 1)).count i = (out.take j).count i + if i = out.getD j 0 then 1 else 0 := fun i => count_take_succ out j i (by omega)
              rw [hnum] at c0
              generalize out.getD j 0 = m at c0 hrange hcs
              have m1 : (m : Int) < (K : Int) := by have := HKB.out; omega
              have m2 : ¬ (m : Int) < 1 := by omega
              have m3 : ¬ (K : Int) ≤ (m : Int) := by omega
              have m4 : (0 : Int) ≤ (m : Int) := by omega
              have df := HX.out.2.frozen m
              have hsm := HSm.out m
              have hcm : (out.take j).count m ≤ out.count m := (List.take_sublist j out).count_le m
              obtain ⟨V, hV⟩ : ∃ V, V = sn m + (out.take j).count m := ⟨_, rfl⟩
              have d0 : wr.cell? ⟨sb, m, none⟩ = some (.int .i64 (V : Int)) := by rw [hV]; exact HX.out.2.cell (i := m) (by omega)
              have wv : IntKind.i64.wrap ((V : Int) + 1) = ((V + 1 : Nat) : Int) := by rw [IntWalk.i64_in _ (by omega)]; push_cast; rfl
              have j0 : (0 : Int) ≤ (j : Int) := by omega
              have j1 : (j : Int) < (M : Int) := by omega
              have HV := Lib.hid (And.intro hV hcs)
              clear hits hy hnum hrange hsm hcm hV hcs
              go_wp2
              refine ⟨⟨j + 1, by omega, by go_num, HX.out.1.trans (Blk.exc sb m _ wr) (fun _ _ hh => hh), (HX.out.2.set m _).congr fun i _ => ?_⟩, by simp [intOf]; omega⟩
              show Value.int .i64 ((sn i + (out.take (j + 1)).count i : Nat) : Int) = if i = m then Value.int .i64 _ else _
              rw [HV.out.2 i]
              by_cases him : i = m
              · rw [if_pos him, if_pos him, him, ← Nat.add_assoc, ← HV.out.1]; push_cast; rfl
              · rw [if_neg him, if_neg him, Nat.add_zero]
                rfl
            · obtain rfl : j = M := by omega
              have htake : out.take j = out := by rw [hMl, List.take_length]
              have hfr := HX.out.2
              rw [htake] at hfr
              have HFr := Lib.hid hfr
              clear hjm hfr htake
              go_wp2
              have hx := HX.out.1
              have hgn : GN w wr b x3 s2 := HSt.out.2.1.1.exc2 hx (fun i hi hh => (HSt.out.2.1.2.1 i hi).1 hh) (fun i hi => by rw [hi]; exact HP.out.slo)
              exact ⟨⟨k + 1, N2, by omega, by go_num, rfl, HJ.out.2.2.1, HJ.out.2.2.2.1, x3, s2, _, _, ⟨hgn, HSt.out.2.1.2.1, HFr.out, HSt.out.2.1.2.2.exc hx (fun hh => HP.out.ne hh.symm), HP.out.ne, HP.out.slo, HP.out.ilo, HInn.out.1, HInn.out.2, HIn.out.1⟩⟩, by simp [intOf]; omega⟩
      · as_aux_lemma =>
          clear hc1 hc2
          have he := HIn.out.2.2.2.resolve_left he0
          have hno1 : ¬ (er = 0 ∧ q < 3) := fun h => he0 h.1
          have hno2 : ¬ (er = 0 ∧ q = 6) := fun h => he0 h.1
          obtain ⟨hg3, hrs3, hri3, hsep3, hits, hC3⟩ := H3.out
          have zf1 := hri3.frozen J
          have zf2 := hri3.frozen J1
          have zc1 := hri3.cell (i := J) HJ1.out.2.2
          have zc2 := hri3.cell (i := J1) HJ1.out.2.1
          simp only [inV] at zc1 zc2
          have HC3 := Lib.hid hC3
          have hx : Exc (fun i => i = ib) w3 w3 := Exc.refl _ w3
          have hfr : FR w3 ib 4 K (inV (inAct inn er q J)) := (hri3).congr fun i _ => by rw [inAct_none hno1 hno2]
          have hrs := hrs3.exc hx (fun hh => HP.out.ne hh)
          have hgn : GN w w3 b x3 s2 := hg3.exc2 hx (fun i hi hh => (hsep3 i hi).2 hh) (fun i hi => by rw [hi]; exact HP.out.ilo)
          have hit := hits.exc hx (fun i hi hh => hi.2.1 hh)
          have hsnap : FR w3 sb 3 K (cntV fun i => sn i + (out.take 0).count i) := hrs
          have HSt := Lib.hid (And.intro hsnap (And.intro (And.intro hgn (And.intro hsep3 hfr)) hit))
          have hinn : (∀ m, (sn m + out.count m) + s2.ns.count m = if inAct inn er q J m then 1 else 0) ∧ (∀ m, 2 * (k + 1) < m → inAct inn er q J m = false) := ⟨HBal.out, fun m hm => by
            have h1 := HP.out.hi m (by omega)
            have h2 := HJ.out.1
            rw [inAct_none hno1 hno2]; exact h1⟩
          have HInn := Lib.hid hinn
          have HOut := Lib.hid HIn.out.2.1
          have HKB := Lib.hid (show 2 * k < K by have := HK.out; omega)
          have HSm := Lib.hid (show ∀ m, sn m + out.count m ≤ 1 from fun m => by have := HBal.out m; by_cases hh : inAct inn er q J m = true; (rw [if_pos hh] at this; omega); (rw [if_neg hh] at this; omega))
          subst he
          clear hno1 hno2 he0
          clear hg3 hrs3 hri3 hsep3 hits hC3 hx hfr hrs hgn hit hsnap hinn H3
          go_upto_region 19 with fail
          clear zf1 zf2 zc1 zc2
          have hMl := HMo.out
          have hMb : M ≤ 1000 := HMb.out
          go_wp2_with fail
          go_loopw [13] (fun kv wr => ∃ j : Nat, j ≤ M ∧ kv = .int .i64 j ∧ Exc (fun i => i = sb) w3 wr ∧ FR wr sb 3 K (cntV fun i => sn i + (out.take j).count i)) (fun kv _ => M - (intOf kv).toNat)
          case atStart => exact ⟨0, Nat.zero_le _, rfl, Exc.refl _ _, HSt.out.1⟩
          case round =>
            obtain ⟨j, hj, rfl, hx, hfr⟩ := hrel
            have HX := Lib.hid (And.intro hx hfr)
            clear hx hfr
            by_cases hjm : j < M
            · have hits := HSt.out.2.2.exc HX.out.1 (fun i hi => hi.1)
              obtain ⟨gb, go, rfl, c0, _⟩ := hits.at It.none (i := j) (by have h1 := congrArg List.length HC3.out; rw [List.length_map, List.length_map] at h1; omega)
              have hy := numsD HC3.out (i := j) (by omega)
              have hnum : (C3.getD j It.none).num = ((out.getD j 0 : Nat) : Int) := congrArg It.num hy
              have hrange := HOut.out (out.getD j 0) (by rw [List.getD_eq_getElem?_getD, List.getElem?_eq_getElem (by omega)]; exact List.getElem_mem _)
              have hcs : ∀ i, (out.take (j + 1)).count i = (out.take j).count i + if i = out.getD j 0 then 1 else 0 := fun i => count_take_succ out j i (by omega)
              rw [hnum] at c0
              generalize out.getD j 0 = m at c0 hrange hcs
              have m1 : (m : Int) < (K : Int) := by have := HKB.out; omega
              have m2 : ¬ (m : Int) < 1 := by omega
              have m3 : ¬ (K : Int) ≤ (m : Int) := by omega
              have m4 : (0 : Int) ≤ (m : Int) := by omega
              have df := HX.out.2.frozen m
              have hsm := HSm.out m
              have hcm : (out.take j).count m ≤ out.count m := (List.take_sublist j out).count_le m
              obtain ⟨V, hV⟩ : ∃ V, V = sn m + (out.take j).count m := ⟨_, rfl⟩
              have d0 : wr.cell? ⟨sb, m, none⟩ = some (.int .i64 (V : Int)) := by rw [hV]; exact HX.out.2.cell (i := m) (by omega)
              have wv : IntKind.i64.wrap ((V : Int) + 1) = ((V + 1 : Nat) : Int) := by rw [IntWalk.i64_in _ (by omega)]; push_cast; rfl
              have j0 : (0 : Int) ≤ (j : Int) := by omega
              have j1 : (j : Int) < (M : Int) := by omega
              have HV := Lib.hid (And.intro hV hcs)
              clear hits hy hnum hrange hsm hcm hV hcs
              go_wp2
              refine ⟨⟨j + 1, by omega, by go_num, HX.out.1.trans (Blk.exc sb m _ wr) (fun _ _ hh => hh), (HX.out.2.set m _).congr fun i _ => ?_⟩, by simp [intOf]; omega⟩
              show Value.int .i64 ((sn i + (out.take (j + 1)).count i : Nat) : Int) = if i = m then Value.int .i64 _ else _
              rw [HV.out.2 i]
              by_cases him : i = m
              · rw [if_pos him, if_pos him, him, ← Nat.add_assoc, ← HV.out.1]; push_cast; rfl
              · rw [if_neg him, if_neg him, Nat.add_zero]
                rfl
            · obtain rfl : j = M := by omega
              have htake : out.take j = out := by rw [hMl, List.take_length]
              have hfr := HX.out.2
              rw [htake] at hfr
              have HFr := Lib.hid hfr
              clear hjm hfr htake
              go_wp2
              have hx := HX.out.1
              have hgn : GN w wr b x3 s2 := HSt.out.2.1.1.exc2 hx (fun i hi hh => (HSt.out.2.1.2.1 i hi).1 hh) (fun i hi => by rw [hi]; exact HP.out.slo)
              exact ⟨⟨k + 1, N2, by omega, by go_num, rfl, HJ.out.2.2.1, HJ.out.2.2.2.1, x3, s2, _, _, ⟨hgn, HSt.out.2.1.2.1, HFr.out, HSt.out.2.1.2.2.exc hx (fun hh => HP.out.ne hh.symm), HP.out.ne, HP.out.slo, HP.out.ilo, HInn.out.1, HInn.out.2, HIn.out.1⟩⟩, by simp [intOf]; omega⟩
    · obtain rfl : k = n := by omega
      have hfl := flushN w b x s wr HP.out.gn
      have HFl := Lib.hid hfl
      clear hfl hN0 hN1
      go_wp2_with fail
      with_reducible refine HFl.out.mono ?_
      rintro e w3 ⟨a3, C3, x3, rfl, hC3, hwent, ht, hg3⟩
      obtain ⟨out, hout⟩ : ∃ out, out = s.ns := ⟨_, rfl⟩
      obtain ⟨M, hM⟩ : ∃ M, M = out.length := ⟨_, rfl⟩
      rw [← hout] at hC3 ⊢
      rw [← hM]
      simp only [id]
      have hrs3 : FR w3 sb 3 K (cntV fun i => sn i + (out.take 0).count i) := HP.out.rs.exc ht.exc (fun hh => (HP.out.sep sb (.inl hh)).1 rfl)
      have hri3 : FR w3 ib 4 K (inV inn) := HP.out.ri.exc ht.exc (fun hh => (HP.out.sep ib (.inl hh)).2 rfl)
      have hsep3 : ∀ j, x3.S b j → j ≠ sb ∧ j ≠ ib := fun j hj => by
        rcases ht.lies j hj with h | h
        · exact HP.out.sep j h
        · have h1 := HP.out.rs.lt; have h2 := HP.out.ri.lt; omega
      have hits : ItsIn w3 (fun j => j ≠ sb ∧ j ≠ ib ∧ ¬ x3.S b j) a3 C3 := by
        obtain ⟨⟨g, hb1, hg1⟩, hr1, hl1⟩ := hwent.off
        obtain ⟨⟨g', hb2, hg2⟩, _, hl2⟩ := hwent.was
        refine ⟨⟨g, hb1, fun j hj => ?_⟩, hr1, fun y hy z hz => ?_⟩
        · have hgg : g' = some j := by
            rcases hb1.lies with ⟨_, h2, _⟩ | ⟨k1, o1, rs1, h1, h2, _⟩
            · rw [h2] at hj; cases hj
            · rw [h2] at hj; cases hj; exact (hb2.block h1).1
          have h1 := HP.out.sep j (hg2 j hgg)
          exact ⟨h1.1, h1.2, (hg1 j hj).2⟩
        · have h1 := HP.out.sep _ (hl2 y hy z hz)
          exact ⟨h1.1, h1.2, (hl1 y hy z hz).2⟩
      have HSt := Lib.hid (And.intro hrs3 (And.intro (And.intro hg3 (And.intro hsep3 hri3)) hits))
      have HC3 := Lib.hid hC3
      have HMo := Lib.hid hM
      have HOt := Lib.hid hout
      have HMb := Lib.hid (show M ≤ 1000 by have h1 := HP.out.inv.few; have h2 := HB.out; rw [hM, hout]; omega)
      have HOut := Lib.hid (show ∀ j ∈ out, 1 ≤ j ∧ j ≤ 2 * k by rw [hout]; exact HP.out.inv.nums)
      have HKB := Lib.hid (show 2 * k < K by have := HK.out; omega)
      have HSm := Lib.hid (show ∀ m, sn m + out.count m ≤ 1 from fun m => by have := HP.out.bal m; rw [hout]; by_cases hh : inn m = true; (rw [if_pos hh] at this; omega); (rw [if_neg hh] at this; omega))
      clear hrs3 hri3 hsep3 hits hC3 hwent ht hg3 hM hout HFl
      have hMl := HMo.out
      have hMb : M ≤ 1000 := HMb.out
      go_wp2_with fail
      go_loopw [15] (fun kv wr => ∃ j : Nat, j ≤ M ∧ kv = .int .i64 j ∧ Exc (fun i => i = sb) w3 wr ∧ FR wr sb 3 K (cntV fun i => sn i + (out.take j).count i)) (fun kv _ => M - (intOf kv).toNat)
      case atStart => exact ⟨0, Nat.zero_le _, rfl, Exc.refl _ _, HSt.out.1⟩
      case round =>
        obtain ⟨j, hj, rfl, hx, hfr⟩ := hrel
        have HX := Lib.hid (And.intro hx hfr)
        clear hx hfr
        by_cases hjm : j < M
        · have hits := HSt.out.2.2.exc HX.out.1 (fun i hi => hi.1)
          obtain ⟨gb, go, rfl, c0, _⟩ := hits.at It.none (i := j) (by have h1 := congrArg List.length HC3.out; rw [List.length_map, List.length_map] at h1; omega)
          have hy := numsD HC3.out (i := j) (by omega)
          have hnum : (C3.getD j It.none).num = ((out.getD j 0 : Nat) : Int) := congrArg It.num hy
          have hrange := HOut.out (out.getD j 0) (by rw [List.getD_eq_getElem?_getD, List.getElem?_eq_getElem (by omega)]; exact List.getElem_mem _)
          have hcs : ∀ i, (out.take (j + 1)).count i = (out.take j).count i + if i = out.getD j 0 then 1 else 0 := fun i => count_take_succ out j i (by omega)
          rw [hnum] at c0
          generalize out.getD j 0 = m at c0 hrange hcs
          have m1 : (m : Int) < (K : Int) := by have := HKB.out; omega
          have m2 : ¬ (m : Int) < 1 := by omega
          have m3 : ¬ (K : Int) ≤ (m : Int) := by omega
          have m4 : (0 : Int) ≤ (m : Int) := by omega
          have df := HX.out.2.frozen m
          have hsm := HSm.out m
          have hcm : (out.take j).count m ≤ out.count m := (List.take_sublist j out).count_le m
          obtain ⟨V, hV⟩ : ∃ V, V = sn m + (out.take j).count m := ⟨_, rfl⟩
          have d0 : wr.cell? ⟨sb, m, none⟩ = some (.int .i64 (V : Int)) := by rw [hV]; exact HX.out.2.cell (i := m) (by omega)
          have wv : IntKind.i64.wrap ((V : Int) + 1) = ((V + 1 : Nat) : Int) := by rw [IntWalk.i64_in _ (by omega)]; push_cast; rfl
          have j0 : (0 : Int) ≤ (j : Int) := by omega
          have j1 : (j : Int) < (M : Int) := by omega
          have HV := Lib.hid (And.intro hV hcs)
          clear hits hy hnum hrange hsm hcm hV hcs
          go_wp2
          refine ⟨⟨j + 1, by omega, by go_num, HX.out.1.trans (Blk.exc sb m _ wr) (fun _ _ hh => hh), (HX.out.2.set m _).congr fun i _ => ?_⟩, by simp [intOf]; omega⟩
          show Value.int .i64 ((sn i + (out.take (j + 1)).count i : Nat) : Int) = if i = m then Value.int .i64 _ else _
          rw [HV.out.2 i]
          by_cases him : i = m
          · rw [if_pos him, if_pos him, him, ← Nat.add_assoc, ← HV.out.1]; push_cast; rfl
          · rw [if_neg him, if_neg him, Nat.add_zero]
            rfl
        · obtain rfl : j = M := by omega
          have htake : out.take j = out := by rw [hMl, List.take_length]
          have hfr := HX.out.2
          rw [htake] at hfr
          have HFr := Lib.hid hfr
          rw [HOt.out] at hfr
          have HFr := Lib.hid hfr
          clear hjm hfr htake
          have hx := HX.out.1
          have hgn : GN w wr b x3 s.flushed := HSt.out.2.1.1.exc2 hx (fun i hi hh => (HSt.out.2.1.2.1 i hi).1 hh) (fun i hi => by rw [hi]; exact HP.out.slo)
          have hri := HSt.out.2.1.2.2.exc hx (fun hh => HP.out.ne hh.symm)
          have hfr2 : FR wr sb 3 K (fun i => .int .i64 (if inn i then 1 else 0)) := HFr.out.congr fun i _ => by
            show _ = Value.int .i64 ((sn i + s.ns.count i : Nat) : Int)
            rw [HP.out.bal i]
            by_cases hh : inn i = true
            · rw [if_pos hh, if_pos hh]; rfl
            · rw [if_neg hh, if_neg hh]; rfl
          have HEnd := Lib.hid (And.intro hgn (And.intro hri hfr2))
          obtain ⟨w6, rfl⟩ : ∃ x, x = wr := ⟨_, rfl⟩
          clear hx hgn hri hfr2 HSt HX HFr hj
          go_wp2_with fail
          go_loopw [16] (fun kv wr => ∃ m : Nat, m ≤ K ∧ kv = .int .i64 m ∧ ∃ q, wr = w6.drewN q) (fun kv _ => K - (intOf kv).toNat)
          case atStart => exact ⟨0, Nat.zero_le _, rfl, 0, rfl⟩
          case round =>
            obtain ⟨m, hm, rfl, q, rfl⟩ := hrel
            have hKb : K ≤ 1000 := by have := HK.out; have := HB.out; omega
            by_cases hmk : m < K
            · have d0 := HEnd.out.2.2.cell (i := m) hmk
              have d1 := HEnd.out.2.1.cell (i := m) hmk
              have m1 : (m : Int) < (K : Int) := by omega
              have m4 : (0 : Int) ≤ (m : Int) := by omega
              simp only [inV] at d1
              by_cases hin : inn m = true
              · rw [if_pos hin] at d0
                rw [hin] at d1
                clear hin
                go_wp2_with fail
                go_quiet (fail)
                go_wp2
                exact ⟨⟨m + 1, by omega, by go_num, _, rfl⟩, by simp [intOf]; omega⟩
              · rw [if_neg hin] at d0
                have hin2 : inn m = false := by simpa using hin
                rw [hin2] at d1
                clear hin hin2
                go_wp2_with fail
                go_quiet (fail)
                go_wp2
                exact ⟨⟨m + 1, by omega, by go_num, _, rfl⟩, by simp [intOf]; omega⟩
            · obtain rfl : m = K := by omega
              have hgn := HEnd.out.1.drawN q
              have hln := len_any b x3 _ hgn.here
              rw [hgn.is.len] at hln
              have HLn := Lib.hid (show Calls Try.prog 15 #[.pointer (some ⟨b, 0, none⟩)] (w6.drewN q) fun e w' => e = .returned (.int .i64 0) ∧ ∃ q', w' = (w6.drewN q).drewN q' from hln)
              have HG := Lib.hid hgn
              clear hgn hln hmk
              go_wp2_with fail
              refine HLn.out.mono ?_
              rintro e w7 ⟨rfl, q7, hq7⟩
              have HG7 := Lib.hid (show GN w w7 b x3 s.flushed by rw [hq7]; exact HG.out.drawN q7)
              clear hq7
              go_wp2_with fail
              refine (lives_any w7).mono ?_
              rintro e w8 ⟨rfl, hb8⟩
              have HX := Lib.hid (HG7.out.bel.trans (hb8.mono HG7.out.bel.size))
              clear hb8
              go_wp2
              go_ret
              exact ⟨rfl, HX.out⟩
end Go.Proofs.Ytnkpmjkbkdnfjaa
