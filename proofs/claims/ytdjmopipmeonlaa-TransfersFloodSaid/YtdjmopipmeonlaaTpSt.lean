/- Joined: TpSts TpSt. -/
import Derived.Test.YtdjmopipmeonlaaTpMd
import Derived.Test.YtdjmopipmeonlaaPlFall
/- The model's statuses and status. -/
namespace Go.Proofs.Ytdjmopipmeonlaa
set_option linter.unusedVariables false
open Go.RowKit Go.Maps

/-- The cells of the plan in the model's block. -/
theorem MdAt.plan {w : World} {mb : Nat} {a : Option Addr} {n c : Nat} {a' : Option Addr} {n' c' : Nat} {p : Pn} {at' : Nat} {M : Md} (h : MdAt w mb (planCells a n c a' n' c' p) at' M) : w.cell? ⟨mb, 0, none⟩ = some (.slice a n c) ∧ w.cell? ⟨mb, 1, none⟩ = some (.slice a' n' c') ∧ w.cell? ⟨mb, 2, none⟩ = some (.int .i64 p.rate) ∧ w.cell? ⟨mb, 3, none⟩ = some (.int .i64 p.room) ∧ w.cell? ⟨mb, 4, none⟩ = some (.int .i64 p.m0) ∧ w.cell? ⟨mb, 5, none⟩ = some (.int .i64 p.m1) ∧ w.cell? ⟨mb, 6, none⟩ = some (.int .i64 p.m2) :=
  ⟨h.cPl (i := 0) (by omega), h.cPl (i := 1) (by omega), h.cPl (i := 2) (by omega), h.cPl (i := 3) (by omega), h.cPl (i := 4) (by omega), h.cPl (i := 5) (by omega), h.cPl (i := 6) (by omega)⟩
/-- The model in memory, with the plan's rows. -/
structure MW (w : World) (mb : Nat) (a : Option Addr) (n c : Nat) (a' : Option Addr) (n' c' : Nat) (p : Pn) (at' : Nat) (T : Tb) : Prop where
  md : MdAt w mb (planCells a n c a' n' c' p) at' (mdOf T p)
  row : PRow w a n c p.P
  lrow : LRow w a' n' c' p.L
theorem MW.below {w w' : World} {mb : Nat} {a : Option Addr} {n c : Nat} {a' : Option Addr} {n' c' : Nat} {p : Pn} {at' : Nat} {T : Tb} (h : MW w mb a n c a' n' c' p at' T) (hb : Below w.heap.size w w') : MW w' mb a n c a' n' c' p at' T := ⟨h.md.below hb, h.row.later hb, h.lrow.later hb⟩
/-- What statuses returns. -/
def MsOut (T : Tb) (d : Int) (w : World) (e : Ending) (w' : World) : Prop := ∃ a c a2, e = .returned (.tuple #[.slice a (T.sts d).length c, .slice a2 (T.C d).length (T.C d).length]) ∧ Row .u8 w' a (T.sts d).length c (T.sts d) ∧ CRow w' a2 (T.C d).length (T.C d).length (T.C d) ∧ Below w.heap.size w w'
theorem Inv.wfT {x : Nn} {p : Pn} {n m at' : Nat} {T : Tb} (hI : Inv p at' T) (_hp : PF x p n m) (k d : Int) : (Lit.int .u8 (T.byN k d)).wf = true := by
  have : 0 ≤ T.byN k d ∧ T.byN k d ≤ 2 := by
    unfold Tb.byN; split
    · exact hI.told _ _
    · decide
  exact wf_u8.2 (by omega)
set_option maxRecDepth 100000 in
set_option maxHeartbeats 8000000 in
theorem mstatuses_any {x : Nn} {p : Pn} {n m at' : Nat} {T : Tb} (hp : PF x p n m) (hI : Inv p at' T) (hat : at' < n) (mb : Nat) (a : Option Addr) (c : Nat) (a' : Option Addr) (c' : Nat) (dk : Nat) (hto : dk < n) (hne : dk ≠ at') (w : World) (h : MW w mb a n c a' m c' p at' T) :
    Calls Try.prog 16 #[.pointer (some ⟨mb, 0, none⟩), .int .i64 dk] w (MsOut T (pc p.P dk) w) := by
  have hlen := hp.len
  have hn6 := hp.n6
  obtain ⟨l, hok, hC⟩ := hI.C dk (by omega) hne
  have hcne : pc p.P at' ≠ pc p.P dk := fun e => hne (hp.asc.inj (by omega) (by omega) e).symm
  have HCh := Lib.hid (fun (V : World) (hb : Below w.heap.size w V) => (choices_few p a n c a' m c' (pc p.P at') (pc p.P dk) V (h.row.later hb) (h.lrow.later hb) (hp.two hat hto) hcne at' dk (hp.fnd hat) (hp.fnd hto) hp.valid (by omega)).mono (R' := fun e w' => ∃ a2, e = .returned (.tuple #[.slice a2 (T.C (pc p.P dk)).length (T.C (pc p.P dk)).length, .int .i64 0]) ∧ CRow w' a2 (T.C (pc p.P dk)).length (T.C (pc p.P dk)).length (T.C (pc p.P dk)) ∧ Below V.heap.size V w') fun e w' hh => by
    obtain ⟨l2, a2, hok2, he, hcr, hb2, _⟩ := hh
    have := disOk_uniq hok hok2
    subst this
    rw [hC]
    exact ⟨a2, he, hcr, hb2⟩)
  have HIx := Lib.hid (fun (code : Int) (V : World) (hb : Below w.heap.size w V) => cindex_any p a n c a' m c' code V (h.row.later hb))
  have HPl : Hid (∀ k, k < (T.C (pc p.P dk)).length → ∃ j, j < n ∧ ((T.C (pc p.P dk)).getD k (0, 0)).1 = pc p.P j ∧ idN p.P (pc p.P j) = j) := Lib.hid (fun k hk => by
    rw [hC] at hk ⊢
    obtain ⟨b, r, hb, e, _⟩ := fall_lower hok (by omega) (by omega) hk
    rw [e]
    exact ⟨b, by omega, rfl, (idN_some (hp.fnd (by omega))).1⟩)
  have HM := Lib.hid (fun (V : World) (hb : Below w.heap.size w V) => h.below hb)
  have hl64 : (T.C (pc p.P dk)).length ≤ 600 := by
    rw [hC, chC_length]
    have := chL_len (P := p.P) (L := p.L) (t := pc p.P dk) (D := fun i => d99 (l.getD i 0)) (i := at') 99
    rw [hlen] at this
    exact Nat.le_trans this (by omega)
  obtain ⟨b, off, rfl, hc⟩ := h.row.cells.resolve_left (by omega)
  have d0 := (hc at' hat).1
  have d1 := (hc dk hto).1
  have hcn := h.row.le
  have HTs := Lib.hid hI.toldSelf
  have HWf := Lib.hid (fun k => hI.wfT hp k (pc p.P dk))
  obtain ⟨g0, g1, g2, g3, g4, g5, g6⟩ := h.md.plan
  have g7 := h.md.cAt
  have i0 : (0 : Int) ≤ (at' : Int) := by omega
  have i1 : (at' : Int) < (n : Int) := by omega
  have i2 : (0 : Int) ≤ (dk : Int) := by omega
  have i3 : (dk : Int) < (n : Int) := by omega
  obtain ⟨u, hu⟩ : ∃ u, u = pc p.P dk := ⟨_, rfl⟩
  obtain ⟨t, ht⟩ : ∃ t, t = pc p.P at' := ⟨_, rfl⟩
  rw [← hu] at HCh HPl d1 hl64 HWf ⊢
  rw [← ht] at HCh d0
  have HU := Lib.hid hu
  obtain ⟨N, hN⟩ : ∃ N, N = (T.C u).length := ⟨_, rfl⟩
  rw [← hN] at HCh HPl hl64
  have HN := Lib.hid hN
  unfold planV at HCh HIx
  have hCh0 := Lib.hid (HCh.out w.drew (below_draw w 1))
  have hb7 : Below w.heap.size w w.drew := below_draw w 1
  have HK := Lib.hid (fun (V : World) (hb : Below w.heap.size w V) => (show (fun V => V.cell? ⟨mb, 0, none⟩ = some (.slice (some ⟨b, off, none⟩) n c) ∧ V.cell? ⟨mb, 1, none⟩ = some (.slice a' m c') ∧ V.cell? ⟨mb, 2, none⟩ = some (.int .i64 p.rate) ∧ V.cell? ⟨mb, 3, none⟩ = some (.int .i64 p.room) ∧ V.cell? ⟨mb, 4, none⟩ = some (.int .i64 p.m0) ∧ V.cell? ⟨mb, 5, none⟩ = some (.int .i64 p.m1) ∧ V.cell? ⟨mb, 6, none⟩ = some (.int .i64 p.m2) ∧ V.cell? ⟨mb, 7, none⟩ = some (.int .i64 at') ∧ V.cell? ⟨b, off + at' * 2, none⟩ = some (.int .u16 t) ∧ V.cell? ⟨b, off + dk * 2, none⟩ = some (.int .u16 u)) V from by
    obtain ⟨h0, h1, h2, h3, h4, h5, h6⟩ := (h.below hb).md.plan
    refine ⟨h0, h1, h2, h3, h4, h5, h6, (h.below hb).md.cAt, ?_, ?_⟩
    · exact (hb.cell (p := ⟨b, off + at' * 2, none⟩) (World.block_lt_of_cell? _ _ d0)).trans d0
    · exact (hb.cell (p := ⟨b, off + dk * 2, none⟩) (World.block_lt_of_cell? _ _ d1)).trans d1))
  have HLn := Lib.hid hlen
  clear hok hC hcne h hc hI hu ht hN hne hlen hp
  go_enter Try.func16, Try.ntmps16
  go_wp2_with fail
  go_region_held3 (fun V => V.cell? ⟨mb, 0, none⟩ = some (.slice (some ⟨b, off, none⟩) n c) ∧ V.cell? ⟨mb, 1, none⟩ = some (.slice a' m c') ∧ V.cell? ⟨mb, 2, none⟩ = some (.int .i64 p.rate) ∧ V.cell? ⟨mb, 3, none⟩ = some (.int .i64 p.room) ∧ V.cell? ⟨mb, 4, none⟩ = some (.int .i64 p.m0) ∧ V.cell? ⟨mb, 5, none⟩ = some (.int .i64 p.m1) ∧ V.cell? ⟨mb, 6, none⟩ = some (.int .i64 p.m2) ∧ V.cell? ⟨mb, 7, none⟩ = some (.int .i64 at') ∧ V.cell? ⟨b, off + at' * 2, none⟩ = some (.int .u16 t) ∧ V.cell? ⟨b, off + dk * 2, none⟩ = some (.int .u16 u)) (first | exact HK.out _ hb7 | exact HK.out _ HB1.out | (go_keep; done))
    (first
      | ((with_reducible refine hCh0.out.mono ?_); rintro e w1 ⟨a2, rfl, hcr, hb⟩; have HB1 : Hid (Below w.heap.size w w1) := Lib.hid (hb7.trans (hb.mono hb7.size)); have HC1 := Lib.hid hcr; clear hb hcr)
      | fail)
  clear g0 g1 g2 g3 g4 g5 g6 g7 d0 d1 hCh0 HCh hb7 HK
  go_wp2_with fail
  go_loopw [8, 9] (fun v kv wr => ∃ k : Nat, k ≤ N ∧ kv = .int .i64 k ∧ Below w1.heap.size w1 wr ∧ wr.ownsRow w1.heap.size 52 1 v k (nums .u8 ((T.sts u).take k))) (fun _ kv _ => N - (intOf kv).toNat)
  case atStart => exact ⟨0, Nat.zero_le _, rfl, Below.refl _ _, by simpa [nums] using World.ownsRow_nil w1 w1.heap.size 52 1⟩
  case round =>
    obtain ⟨k, hk, rfl, hb, hown⟩ := hrel
    have HB := Lib.hid hb
    have HW := Lib.hid hown
    have hcr := HC1.out.later hb
    have hMw := HM.out wr (HB1.out.trans (hb.mono HB1.out.size))
    clear hb hown
    by_cases hkn : k < N
    · obtain ⟨b2, off2, rfl, hc⟩ := hcr.cells.resolve_left (by omega)
      have hkl : k < (T.C u).length := by rw [← HN.out]; exact hkn
      obtain ⟨c0, _⟩ := hc k hkn
      have HT := Lib.hid (sts_take (T := T) (d := u) hkl)
      obtain ⟨j, hjn, hje, hix⟩ := HPl.out k hkn
      rw [hje] at c0 HT
      obtain ⟨q, hq⟩ : ∃ q, q = pc p.P j := ⟨_, rfl⟩
      rw [← hq] at c0 HT hix
      have HQ := Lib.hid hq
      have hIx := HIx.out q wr.drew (HB1.out.trans ((HB.out.drew).mono HB1.out.size))
      rw [hix] at hIx
      obtain ⟨g0, g1, g2, g3, g4, g5, g6⟩ := hMw.md.plan
      obtain ⟨isb, hisb⟩ : ∃ s, s = isB p.P q := ⟨_, rfl⟩
      rw [← hisb] at hIx
      have HIx1 := Lib.hid hIx
      have k1 : (k : Int) < (N : Int) := by omega
      have k2 : (0 : Int) ≤ (k : Int) := by omega
      have hb7 : Below wr.heap.size wr wr.drew := below_draw wr 1
      have HK2 := Lib.hid (fun (V : World) (hb : Below wr.heap.size wr V) => (show (fun V => V.cell? ⟨mb, 0, none⟩ = some (.slice (some ⟨b, off, none⟩) n c) ∧ V.cell? ⟨mb, 1, none⟩ = some (.slice a' m c') ∧ V.cell? ⟨mb, 2, none⟩ = some (.int .i64 p.rate) ∧ V.cell? ⟨mb, 3, none⟩ = some (.int .i64 p.room) ∧ V.cell? ⟨mb, 4, none⟩ = some (.int .i64 p.m0) ∧ V.cell? ⟨mb, 5, none⟩ = some (.int .i64 p.m1) ∧ V.cell? ⟨mb, 6, none⟩ = some (.int .i64 p.m2) ∧ V.cell? ⟨b2, off2 + k * 2, none⟩ = some (.int .u16 q)) V from by
        obtain ⟨h0, h1, h2, h3, h4, h5, h6⟩ := (hMw.below hb).md.plan
        exact ⟨h0, h1, h2, h3, h4, h5, h6, (hb.cell (p := ⟨b2, off2 + k * 2, none⟩) (World.block_lt_of_cell? _ _ c0)).trans c0⟩))
      clear hq hje hix hIx hc hcr hMw hisb
      go_wp2_with fail
      go_region_held3 (fun V => V.cell? ⟨mb, 0, none⟩ = some (.slice (some ⟨b, off, none⟩) n c) ∧ V.cell? ⟨mb, 1, none⟩ = some (.slice a' m c') ∧ V.cell? ⟨mb, 2, none⟩ = some (.int .i64 p.rate) ∧ V.cell? ⟨mb, 3, none⟩ = some (.int .i64 p.room) ∧ V.cell? ⟨mb, 4, none⟩ = some (.int .i64 p.m0) ∧ V.cell? ⟨mb, 5, none⟩ = some (.int .i64 p.m1) ∧ V.cell? ⟨mb, 6, none⟩ = some (.int .i64 p.m2) ∧ V.cell? ⟨b2, off2 + k * 2, none⟩ = some (.int .u16 q)) (first | exact HK2.out _ hb7 | exact HK2.out _ HBw.out | (go_keep; done))
        (first
          | ((with_reducible refine HIx1.out.mono ?_); rintro e w2 ⟨rfl, hb⟩; have HBw : Hid (Below wr.heap.size wr w2) := Lib.hid (hb7.trans (hb.mono hb7.size)); clear hb)
          | fail)
      have HB2 : Hid (Below w1.heap.size w1 w2) := Lib.hid (HB.out.trans (HBw.out.mono HB.out.size))
      have HW2 := Lib.hid (ownsRow_below HW.out HBw.out)
      have hMw := HM.out w2 (HB1.out.trans (HB2.out.mono HB1.out.size))
      have hto6 := hMw.md.cTold (i := j) (j := dk) (by omega) (by omega)
      have hup6 := hMw.md.cUp (i := j) (by omega)
      rw [mdOf_told (by have := HLn.out; omega) (by have := HLn.out; omega), ← HQ.out, ← HU.out] at hto6
      rw [mdOf_up (by have := HLn.out; omega), ← HQ.out] at hup6
      have hsz2 := HB2.out.size
      have j0 : (0 : Int) ≤ (j : Int) := by omega
      have j1 : (j : Int) < 6 := by omega
      have t1 : (dk : Int) < 6 := by omega
      clear g0 g1 g2 g3 g4 g5 g6 c0 hMw HIx1 hb7 HK2 HBw
      by_cases hjt : j = dk
      · have e1 : ((j : Int) == (dk : Int)) = true := by rw [beq_iff_eq]; omega
        have HZ : Hid (T.told q u = 0) := Lib.hid (by rw [HQ.out, HU.out, hjt]; exact HTs.out _)
        clear hjt
        cases hup : T.isUp q
        · rw [hup] at hup6
          have HV : Hid (T.byN q u = 2) := Lib.hid (by unfold Tb.byN; rw [hup]; rfl)
          clear hup
          go_wp2_with (at_builtin; refine wpList_append_one Try.underlying58 infoSt (by decide) rfl _ _ rfl w1.heap.size _ _ _ _ rfl (by exact HW2.out) rfl (by omega) hsz2 ?_; intro v1 w3 h1 h2 gx; have H1 := Lib.hid h1; have H2 := Lib.hid h2; clear h1 h2 gx)
          go_wp2
          refine ⟨⟨k + 1, by omega, by go_num, HB2.out.trans (H2.out.below hsz2 (fun j hj => (ownBlock_lt HW2.out hj).1)), ?_⟩, by simp [intOf]; omega⟩
          rw [HT.out, HV.out]; exact H1.out
        · rw [hup] at hup6
          have HV : Hid (T.byN q u = 0) := Lib.hid (by unfold Tb.byN; rw [hup, if_pos rfl]; exact HZ.out)
          clear hup
          go_wp2_with (at_builtin; refine wpList_append_one Try.underlying58 infoSt (by decide) rfl _ _ rfl w1.heap.size _ _ _ _ rfl (by exact HW2.out) rfl (by omega) hsz2 ?_; intro v1 w3 h1 h2 gx; have H1 := Lib.hid h1; have H2 := Lib.hid h2; clear h1 h2 gx)
          go_wp2
          refine ⟨⟨k + 1, by omega, by go_num, HB2.out.trans (H2.out.below hsz2 (fun j hj => (ownBlock_lt HW2.out hj).1)), ?_⟩, by simp [intOf]; omega⟩
          rw [HT.out, HV.out]; exact H1.out
      · have e1 : ((j : Int) == (dk : Int)) = false := by rw [beq_eq_false_iff_ne]; omega
        clear hjt
        cases hup : T.isUp q
        · rw [hup] at hup6
          have HV : Hid (T.byN q u = 2) := Lib.hid (by unfold Tb.byN; rw [hup]; rfl)
          clear hup
          go_wp2_with (at_builtin; refine wpList_append_one Try.underlying58 infoSt (by decide) rfl _ _ rfl w1.heap.size _ _ _ _ rfl (by exact HW2.out) rfl (by omega) hsz2 ?_; intro v1 w3 h1 h2 gx; have H1 := Lib.hid h1; have H2 := Lib.hid h2; clear h1 h2 gx)
          go_wp2
          refine ⟨⟨k + 1, by omega, by go_num, HB2.out.trans (H2.out.below hsz2 (fun j hj => (ownBlock_lt HW2.out hj).1)), ?_⟩, by simp [intOf]; omega⟩
          rw [HT.out, HV.out]; exact H1.out
        · rw [hup] at hup6
          have HV : Hid (T.byN q u = T.told q u) := Lib.hid (by unfold Tb.byN; rw [hup, if_pos rfl])
          clear hup
          go_wp2_with (at_builtin; refine wpList_append_one Try.underlying58 infoSt (by decide) rfl _ _ rfl w1.heap.size _ _ _ _ rfl (by exact HW2.out) rfl (by omega) hsz2 ?_; intro v1 w3 h1 h2 gx; have H1 := Lib.hid h1; have H2 := Lib.hid h2; clear h1 h2 gx)
          go_wp2
          refine ⟨⟨k + 1, by omega, by go_num, HB2.out.trans (H2.out.below hsz2 (fun j hj => (ownBlock_lt HW2.out hj).1)), ?_⟩, by simp [intOf]; omega⟩
          rw [HT.out, HV.out]; exact H1.out
    · obtain rfl : k = N := by omega
      have hsl : (T.sts u).length = k := by unfold Tb.sts; rw [List.length_map, HN.out]
      have htk : (T.sts u).take k = T.sts u := List.take_of_length_le (by omega)
      have hown := HW.out
      rw [htk] at hown
      obtain ⟨a3, c3, rfl, hr3, _⟩ := ownsRow_rowN .u8 hown (fun z hz => by
        unfold Tb.sts at hz
        obtain ⟨c, _, rfl⟩ := List.mem_map.1 hz
        exact HWf.out _)
      have HR3 := Lib.hid hr3
      have HSl := Lib.hid hsl
      have HCr := Lib.hid hcr
      clear hr3 hown htk hsl hcr hMw
      go_wp2
      go_ret2
      refine ⟨a3, c3, a2, ?_, ?_, by rw [← HN.out]; exact HCr.out, HB1.out.trans (HB.out.mono HB1.out.size)⟩
      · rw [HSl.out, ← HN.out]; rfl
      · rw [HSl.out]; exact HR3.out
end Go.Proofs.Ytdjmopipmeonlaa
/- The model's status. -/
namespace Go.Proofs.Ytdjmopipmeonlaa
set_option linter.unusedVariables false
open Go.RowKit Go.Maps

theorem sts_length (T : Tb) (d : Int) : (T.sts d).length = (T.C d).length := by unfold Tb.sts; rw [List.length_map]
theorem sts_getD {T : Tb} {d : Int} {k : Nat} (hk : k < (T.C d).length) : (T.sts d).getD k 0 = T.byN ((T.C d).getD k (0, 0)).1 d := by
  unfold Tb.sts; simp [List.getD_eq_getElem?_getD, hk]
set_option maxRecDepth 100000 in
theorem mstatus_me {x : Nn} {p : Pn} {n m at' : Nat} {T : Tb} (_hp : PF x p n m) (mb : Nat) (a : Option Addr) (c : Nat) (a' : Option Addr) (c' : Nat) (w : World) (h : MW w mb a n c a' m c' p at' T) :
    Calls Try.prog 14 #[.pointer (some ⟨mb, 0, none⟩), .int .i64 at'] w fun e w' => e = .returned (.int .u8 0) ∧ Below w.heap.size w w' := by
  have g7 := h.md.cAt
  have e1 : ((at' : Int) == (at' : Int)) = true := by simp
  clear h
  go_enter Try.func14, Try.ntmps14
  go_wp2
  go_ret
  exact ⟨rfl, Below.refl _ _⟩
set_option maxRecDepth 100000 in
set_option maxHeartbeats 8000000 in
theorem mstatus_ok {x : Nn} {p : Pn} {n m at' : Nat} {T : Tb} (hp : PF x p n m) (hI : Inv p at' T) (hat : at' < n) (mb : Nat) (a : Option Addr) (c : Nat) (a' : Option Addr) (c' : Nat) (dk : Nat) (hto : dk < n) (hne : dk ≠ at') (w : World) (h : MW w mb a n c a' m c' p at' T) :
    Calls Try.prog 14 #[.pointer (some ⟨mb, 0, none⟩), .int .i64 dk] w fun e w' => e = .returned (.int .u8 (T.st (pc p.P dk))) ∧ Below w.heap.size w w' := by
  have HMs := Lib.hid (mstatuses_any hp hI hat mb a c a' c' dk hto hne w h)
  have g7 := h.md.cAt
  have e1 : ((dk : Int) == (at' : Int)) = false := by rw [beq_eq_false_iff_ne]; omega
  obtain ⟨d, hd⟩ : ∃ d, d = pc p.P dk := ⟨_, rfl⟩
  rw [← hd] at HMs ⊢
  have hst : T.st d = Tb.stF ((T.C d).getD 0 (0, 0)).2 2 (prs T d) := rfl
  obtain ⟨r0, hr0⟩ : ∃ r0, r0 = ((T.C d).getD 0 (0, 0)).2 := ⟨_, rfl⟩
  obtain ⟨N, hN⟩ : ∃ N, N = (T.C d).length := ⟨_, rfl⟩
  unfold MsOut at HMs
  rw [sts_length, ← hN] at HMs
  rw [← hr0] at hst
  have HSt := Lib.hid hst
  have HN := Lib.hid hN
  have HR0 := Lib.hid hr0
  have HPr : Hid ((prs T d).length = N) := Lib.hid (by unfold prs; rw [List.length_map, hN])
  clear hst hr0 hN hd hne h hp hI
  go_enter Try.func14, Try.ntmps14
  go_wp2_with fail
  with_reducible refine HMs.out.mono ?_
  rintro e w0 ⟨a3, c3, a4, rfl, hr3, hr4, hb⟩
  have HB0 := Lib.hid hb
  have H3 := Lib.hid hr3
  have H4 := Lib.hid hr4
  have hle3 := hr3.le
  have hm3 := hr3.max
  unfold maxLen at hm3
  clear hb hr3 hr4 g7 HMs e1
  go_wp2_with fail
  go_loopw [7, 8] (fun sv kv wr => ∃ k : Nat, k ≤ N ∧ kv = .int .i64 k ∧ sv = .int .u8 (Tb.stF r0 2 ((prs T d).take k)) ∧ (∀ x ∈ (prs T d).take k, ¬ (x.1 = 0 ∧ x.2 = r0)) ∧ Below w0.heap.size w0 wr) (fun _ kv _ => N - (intOf kv).toNat)
  case atStart => exact ⟨0, Nat.zero_le _, rfl, by simp [Tb.stF], by simp, Below.refl _ _⟩
  case round =>
    obtain ⟨k, hk, rfl, rfl, hno, hb⟩ := hrel
    obtain ⟨acc, hacc⟩ : ∃ acc, acc = Tb.stF r0 2 ((prs T d).take k) := ⟨_, rfl⟩
    rw [← hacc]
    have HB := Lib.hid hb
    have HNo := Lib.hid hno
    have HAcc := Lib.hid hacc
    have hr3 := H3.out.later hb
    have hr4 := H4.out.later hb
    clear hb hno hacc
    by_cases hkn : k < N
    · have hkl : k < (T.C d).length := by rw [← HN.out]; exact hkn
      obtain ⟨b3, o3, rfl, hc3⟩ := hr3.cells.resolve_left (by omega)
      obtain ⟨b4, o4, rfl, hc4⟩ := hr4.cells.resolve_left (by omega)
      have c3 := hc3 k hkn
      have c4 := (hc4 k hkn).2
      have c0 := (hc4 0 (by omega)).2
      rw [sts_getD hkl] at c3
      rw [← HR0.out] at c0
      have HStep := Lib.hid (prs_step hkl r0 HNo.out)
      have HHit := Lib.hid (prs_hit hkl r0)
      obtain ⟨s, hs⟩ : ∃ s, s = T.byN ((T.C d).getD k (0, 0)).1 d := ⟨_, rfl⟩
      obtain ⟨q2, hq⟩ : ∃ q, q = ((T.C d).getD k (0, 0)).2 := ⟨_, rfl⟩
      rw [← hs] at c3 HStep HHit
      rw [← hq] at c4 HStep HHit
      have k1 : (k : Int) < (N : Int) := by omega
      have k2 : (0 : Int) ≤ (k : Int) := by omega
      have k3 : (0 : Int) < (N : Int) := by omega
      have k4 : 0 < N := by omega
      simp only [Nat.zero_mul, Nat.add_zero] at c0
      clear hs hq hc3 hc4 hr3 hr4
      by_cases h0 : s = 0
      · have e0 : (s == 0) = true := by simpa using h0
        have e2 : (s != 2) = true := by simp [h0]
        by_cases h1 : q2 = r0
        · have e1 : (q2 == r0) = true := by simpa using h1
          have HRes := Lib.hid (HHit.out h0 h1)
          clear h0 h1 e2
          go_wp2_with fail
          go_quiet (fail)
          go_wp2
          go_ret
          exact ⟨ret_int (by rw [HSt.out, HRes.out]), HB0.out.trans ((HB.out.trans ((below_draw _ _).mono HB.out.size)).mono HB0.out.size)⟩
        · have e1 : (q2 == r0) = false := by simpa using h1
          have HRes := Lib.hid (HStep.out fun h => h1 h.2)
          have HS2 := Lib.hid (show ¬ s = 2 by omega)
          clear h0 h1
          go_wp2_with fail
          go_quiet (fail)
          go_wp2
          refine ⟨⟨k + 1, by omega, by go_num, ?_, HRes.out.1, HB.out.trans ((below_draw _ _).mono HB.out.size)⟩, by simp [intOf]; omega⟩
          rw [HRes.out.2, if_neg HS2.out]
      · have e0 : (s == 0) = false := by simpa using h0
        have HRes := Lib.hid (HStep.out fun h => h0 h.1)
        by_cases h2 : s = 2
        · have e2 : (s != 2) = false := by simpa using h2
          have HS2 := Lib.hid h2
          clear h0 h2
          go_wp2_with fail
          go_quiet (fail)
          go_wp2
          refine ⟨⟨k + 1, by omega, by go_num, ?_, HRes.out.1, HB.out.trans ((below_draw _ _).mono HB.out.size)⟩, by simp [intOf]; omega⟩
          rw [HRes.out.2, if_pos HS2.out, ← HAcc.out]
        · have e2 : (s != 2) = true := by simpa using h2
          have HS2 := Lib.hid h2
          clear h0 h2
          go_wp2_with fail
          go_quiet (fail)
          go_wp2
          refine ⟨⟨k + 1, by omega, by go_num, ?_, HRes.out.1, HB.out.trans ((below_draw _ _).mono HB.out.size)⟩, by simp [intOf]; omega⟩
          rw [HRes.out.2, if_neg HS2.out]
    · obtain rfl : k = N := by omega
      have HRes : Hid (T.st d = acc) := Lib.hid (by rw [HSt.out, HAcc.out, List.take_of_length_le (by rw [HPr.out]; exact Nat.le_refl _)])
      clear hr3 hr4
      go_wp2
      go_ret
      exact ⟨ret_int HRes.out.symm, HB0.out.trans (HB.out.mono HB0.out.size)⟩
/-- The note of two places. -/
def NoteOut (n d s : Int) (w : World) (e : Ending) (w' : World) : Prop := e = .returned (.agg #[.int .u16 n, .int .u16 d, .int .u8 s]) ∧ Below w.heap.size w w'
set_option maxRecDepth 100000 in
set_option maxHeartbeats 8000000 in
theorem mnote_any {x : Nn} {p : Pn} {n m at' : Nat} {T : Tb} (hp : PF x p n m) (mb : Nat) (a : Option Addr) (c : Nat) (a' : Option Addr) (c' : Nat) (i j : Nat) (hi : i < n) (hj : j < n) (s : Int) (w : World) (h : MW w mb a n c a' m c' p at' T) :
    Calls Try.prog 34 #[.pointer (some ⟨mb, 0, none⟩), .int .i64 i, .int .i64 j, .int .u8 s] w (NoteOut (pc p.P i) (pc p.P j) s w) := by
  have hlen := hp.len
  have hn2 := hp.n2
  obtain ⟨W, hW⟩ : ∃ W, W = w.alloc (.cells #[.int .u16 0, .int .u16 0, .int .u8 0] 54) := ⟨_, rfl⟩
  obtain ⟨zb, hzb⟩ : ∃ zb, zb = w.heap.size := ⟨_, rfl⟩
  have hb : Below w.heap.size w W := by rw [hW]; exact below_alloc w _
  have ho : Own W zb 54 [.int .u16 0, .int .u16 0, .int .u8 0] := by rw [hW, hzb]; exact heap_alloc_new w _
  have hM := h.below hb
  obtain ⟨b, off, rfl, hc⟩ := hM.row.cells.resolve_left (by omega)
  have d0 := (hc i hi).1
  have d1 := (hc j hj).1
  obtain ⟨g0, g1, g2, g3, g4, g5, g6⟩ := hM.md.plan
  have hcn := hM.row.le
  obtain ⟨u, hu⟩ : ∃ u, u = pc p.P i := ⟨_, rfl⟩
  obtain ⟨v, hv⟩ : ∃ v, v = pc p.P j := ⟨_, rfl⟩
  rw [← hu] at d0 ⊢
  rw [← hv] at d1 ⊢
  have i0 : (0 : Int) ≤ (i : Int) := by omega
  have i1 : (i : Int) < (n : Int) := by omega
  have i2 : (0 : Int) ≤ (j : Int) := by omega
  have i3 : (j : Int) < (n : Int) := by omega
  have z0 := ho.cell 0 (by simp)
  have z1 := ho.cell 1 (by simp)
  have z2 := ho.cell 2 (by simp)
  have f0 := ho.frozen 0
  have f1 := ho.frozen 1
  have f2 := ho.frozen 2
  simp only [List.getD_cons_zero, List.getD_cons_succ] at z0 z1 z2
  have HB := Lib.hid hb
  have HZb : Hid (w.heap.size ≤ zb) := Lib.hid (by rw [hzb]; exact Nat.le_refl _)
  clear hM hc h hp hu hv ho hb hlen g2 g3 g4 g5 g6
  go_enter Try.func34, Try.ntmps34
  go_upto_region 1 with (fail)
  show Code.wp _ _ _ _ (w.alloc (.cells #[.int .u16 0, .int .u16 0, .int .u8 0] 54))
  rw [← hW, ← hzb]
  clear hW hzb
  go_region
  all_goals go_wp2
  all_goals exact bodyPost_ret (v := .agg #[.int .u16 u, .int .u16 v, .int .u8 s]) (by simp [results, Try.results34, go_sem, z0, z1, z2]) rfl ⟨rfl, (((HB.out.drew).setCell HZb.out _).setCell HZb.out _).setCell HZb.out _⟩
end Go.Proofs.Ytdjmopipmeonlaa
