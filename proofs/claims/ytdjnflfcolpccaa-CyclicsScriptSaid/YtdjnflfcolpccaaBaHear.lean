/- Joined: BaModel BaMdNext BaHear -/
import Derived.Test.YtdjnflfcolpccaaBaNear
import Derived.Deep.RegionHeld3
import Derived.StillTailTactics
import Derived.IntWalk
/- Contracts: the statements' model of an end: limited. -/
namespace Go.Proofs.Ytdjnflfcolpccaa
open Go.RowKit

def mdCells (m : Md) : List Value := [.int .i64 (m.lm : Int), .int .i64 (m.lo : Int), .int .i64 (m.given : Int), .int .i64 (m.sent : Int), .int .i64 (m.acked : Int), .int .i64 (m.plc : Int), .bool m.forced, .int .u8 (m.accepted : Int), .bool m.w0, .bool m.w1, .bool m.failed]
structure MdAt (w : World) (b : Nat) (m : Md) : Prop where
  own : Own w b 29 (mdCells m)
  ok : m.Ok
  small : m.given ≤ 100000
theorem MdAt.cells {w : World} {b : Nat} {m : Md} (h : MdAt w b m) :
    (w.cell? ⟨b, 0, none⟩ = some (.int .i64 (m.lm : Int)) ∧ w.cell? ⟨b, 1, none⟩ = some (.int .i64 (m.lo : Int)) ∧ w.cell? ⟨b, 2, none⟩ = some (.int .i64 (m.given : Int)) ∧ w.cell? ⟨b, 3, none⟩ = some (.int .i64 (m.sent : Int)) ∧ w.cell? ⟨b, 4, none⟩ = some (.int .i64 (m.acked : Int)) ∧ w.cell? ⟨b, 5, none⟩ = some (.int .i64 (m.plc : Int)) ∧ w.cell? ⟨b, 6, none⟩ = some (.bool m.forced) ∧
      w.cell? ⟨b, 7, none⟩ = some (.int .u8 (m.accepted : Int)) ∧ w.cell? ⟨b, 8, none⟩ = some (.bool m.w0) ∧ w.cell? ⟨b, 9, none⟩ = some (.bool m.w1) ∧ w.cell? ⟨b, 10, none⟩ = some (.bool m.failed)) ∧ (∀ j, w.frozen? ⟨b, j, none⟩ = false) :=
  ⟨⟨h.own.cell 0 (by simp [mdCells]), h.own.cell 1 (by simp [mdCells]), h.own.cell 2 (by simp [mdCells]), h.own.cell 3 (by simp [mdCells]), h.own.cell 4 (by simp [mdCells]), h.own.cell 5 (by simp [mdCells]), h.own.cell 6 (by simp [mdCells]), h.own.cell 7 (by simp [mdCells]), h.own.cell 8 (by simp [mdCells]), h.own.cell 9 (by simp [mdCells]), h.own.cell 10 (by simp [mdCells])⟩, fun j => h.own.frozen j⟩
theorem MdAt.later {w w' : World} {b : Nat} {m : Md} (h : MdAt w b m) (hb : Below w.heap.size w w') : MdAt w' b m := ⟨h.own.below hb h.own.lt, h.ok, h.small⟩
theorem MdAt.exc {S : Nat → Prop} {w w' : World} {b : Nat} {m : Md} (h : MdAt w b m) (hx : Exc S w w') (hn : ¬ S b) : MdAt w' b m := ⟨h.own.exc hx hn, h.ok, h.small⟩
set_option maxHeartbeats 4000000 in
set_option maxRecDepth 100000 in
theorem mlimited_any (b : Nat) (m : Md) (w : World) (h : MdAt w b m) :
    Calls Try.prog 33 #[.pointer (some ⟨b, 0, none⟩)] w fun e w' => e = .returned (.bool m.lim) ∧ Below w.heap.size w w' := by
  have h1 := h.ok.ap
  have h2 := h.ok.ps
  have h3 := h.ok.sg
  have h4 := h.ok.win
  have h5 := h.small
  have hb := h.own.lt
  have hoc := ocs_le m.acked (m.sent - m.acked)
  have HM := Lib.hid h
  obtain ⟨⟨c0, c1, c2, c3, c4, c5, c6, c7, c8, c9, c10⟩, _⟩ := h.cells
  clear h c2 c5 c6 c7 c8 c9 c10
  obtain ⟨R, hR⟩ : ∃ R, R = m.lim := ⟨_, rfl⟩
  rw [← hR]
  unfold Md.lim at hR
  have HR := Lib.hid hR
  clear hR
  obtain ⟨S, hS⟩ : ∃ S, S = m.sent := ⟨_, rfl⟩
  obtain ⟨A, hA⟩ : ∃ A, A = m.acked := ⟨_, rfl⟩
  obtain ⟨LM, hLM⟩ : ∃ LM, LM = m.lm := ⟨_, rfl⟩
  obtain ⟨LO, hLO⟩ : ∃ LO, LO = m.lo := ⟨_, rfl⟩
  have g1 := HM.out.ok.lm2
  have g2 := HM.out.ok.lo2
  rw [← hLM] at c0 g1
  rw [← hLO] at c1 g2
  rw [← hS] at c3 h4 hoc
  rw [← hA] at c4 h4 hoc
  have hAS : A ≤ S := by omega
  have hSl : S ≤ 100000 := by omega
  have HE := Lib.hid (And.intro hS (And.intro hA (And.intro hLM hLO)))
  clear hS hA hLM hLO h1 h2 h3 h5
  go_enter Try.func33, Try.ntmps33
  go_wp2_with fail
  go_loopw [3, 4] (fun su i wr => ∃ k : Nat, A ≤ k ∧ k ≤ S ∧ i = .int .i64 k ∧ su = .int .i64 (ocs A (k - A) : Nat) ∧ Below w.heap.size w wr) (fun _ i _ => S - (intOf i).toNat)
  case atStart => exact ⟨A, Nat.le_refl _, hAS, rfl, by rw [Nat.sub_self]; rfl, Below.refl _ _⟩
  case round =>
    obtain ⟨k, hk1, hk2, rfl, rfl, hb2⟩ := hrel
    have c3' := (hb2.cell (p := ⟨b, 3, none⟩) hb).trans c3
    have hoc2 := ocs_le A (k - A)
    by_cases hlt : k < S
    · have hki : (k : Int) < (S : Int) := by omega
      have HK := Lib.hid (fun W => kmsg_acc k W (by omega))
      have HB2 := Lib.hid hb2
      obtain ⟨O, hO⟩ : ∃ O, O = ocs A (k - A) := ⟨_, rfl⟩
      rw [← hO] at hoc2 ⊢
      have HO := Lib.hid hO
      clear hb2 hO
      go_wp2_with fail
      refine (HK.out _).mono ?_
      rintro e w4 ⟨⟨g, ml, mc, rfl, hmsg⟩, hb4⟩
      have hml := hmsg.1
      have hml5 := mlen_le k
      have eO : ocs A (k + 1 - A) = O + ml := by
        rw [show k + 1 - A = (k - A) + 1 by omega]
        show ocs A (k - A) + mlen (A + (k - A)) = _
        rw [show A + (k - A) = k by omega, ← HO.out, hml]
      rw [← hml] at hml5
      have HB4 := Lib.hid (HB2.out.trans (Below.mono hb4 HB2.out.size))
      clear hmsg hb4 hml HK HB2
      go_wp2_with fail
      go_roundw
      case measure => simp [intOf]; omega
      case rel => exact ⟨k + 1, by omega, by omega, by go_num, by rw [eO]; go_num, HB4.out⟩
    · obtain rfl : k = S := by omega
      have hki : ¬ (k : Int) < (k : Int) := by omega
      have c0' := (hb2.cell (p := ⟨b, 0, none⟩) hb).trans c0
      have c1' := (hb2.cell (p := ⟨b, 1, none⟩) hb).trans c1
      have c4' := (hb2.cell (p := ⟨b, 4, none⟩) hb).trans c4
      have hw1 : IntKind.i64.wrap ((k : Int) - (A : Int)) = ((k - A : Nat) : Int) := by rw [IntWalk.i64_in _ (by omega)]; omega
      have hr := HR.out
      rw [← HE.out.1, ← HE.out.2.1, ← HE.out.2.2.1, ← HE.out.2.2.2] at hr
      obtain ⟨O, hO⟩ : ∃ O, O = ocs A (k - A) := ⟨_, rfl⟩
      rw [← hO] at hoc2 hr ⊢
      obtain ⟨D, hD⟩ : ∃ D, D = k - A := ⟨_, rfl⟩
      rw [← hD] at hw1 hr hoc2
      have HB2 := Lib.hid hb2
      clear hb2 hO hD c0 c1 c3 c4 hoc
      by_cases d1 : LM ≤ D
      · have d1i : (LM : Int) ≤ (D : Int) := by omega
        obtain rfl : R = true := by rw [hr]; simp [d1]
        have HX := Lib.hid hr
        clear hr
        go_wp2_with fail
        go_quiet (fail)
        go_wp2
        go_ret
        exact ⟨rfl, HB2.out.trans (Below.mono (below_draw _ _) HB2.out.size)⟩
      · have d1i : ¬ (LM : Int) ≤ (D : Int) := by omega
        have d1d : decide ((LM : Int) ≤ (D : Int)) = false := decide_eq_false d1i
        by_cases d2 : LO ≤ O
        · have d2i : (LO : Int) ≤ (O : Int) := by omega
          obtain rfl : R = true := by rw [hr]; simp [d2]
          have HX := Lib.hid hr
          clear hr
          go_wp2_with fail
          go_quiet (fail)
          go_wp2
          go_ret
          exact ⟨rfl, HB2.out.trans (Below.mono (below_draw _ _) HB2.out.size)⟩
        · have d2i : ¬ (LO : Int) ≤ (O : Int) := by omega
          have d2d : decide ((LO : Int) ≤ (O : Int)) = false := decide_eq_false d2i
          obtain rfl : R = false := by rw [hr]; simp [d1, d2]
          have HX := Lib.hid hr
          clear hr
          go_wp2_with fail
          go_quiet (fail)
          go_wp2
          go_ret
          exact ⟨rfl, HB2.out.trans (Below.mono (below_draw _ _) HB2.out.size)⟩
end Go.Proofs.Ytdjnflfcolpccaa
/- Contracts: the statements' model of an end: next. -/
namespace Go.Proofs.Ytdjnflfcolpccaa
open Go.RowKit

/-- In the model's next: the model's cells, the unit's, the result's. -/
structure NxS (w W : World) (b : Nat) (cs us : List Value) : Prop where
  m : Own W b 29 cs
  u : Own W (w.heap.size + 1) 45 us
  z : Own W w.heap.size 45 zeroUnit
  x : Exc (fun k => k = b) w W
  hb : b < w.heap.size
theorem NxS.later {w W W' : World} {b : Nat} {cs us : List Value} (h : NxS w W b cs us) (hb : Below W.heap.size W W') : NxS w W' b cs us :=
  ⟨h.m.below hb h.m.lt, h.u.below hb h.u.lt, h.z.below hb h.z.lt, h.x.trans (S' := fun _ => False) (Exc.of_below hb) (fun _ _ hh => hh.elim), h.hb⟩
theorem NxS.setm {w W : World} {b : Nat} {cs us : List Value} (h : NxS w W b cs us) (j : Nat) (v : Value) : NxS w (W.setCell ⟨b, j, none⟩ v) b (cs.set j v) us := by
  have hb := h.hb
  exact ⟨h.m.set j v, h.u.other ⟨b, j, none⟩ (by simp; omega) v, h.z.other ⟨b, j, none⟩ (by simp; omega) v, h.x.setCell ⟨b, j, none⟩ (.inl rfl) v, hb⟩
theorem NxS.setu {w W : World} {b : Nat} {cs us : List Value} (h : NxS w W b cs us) (j : Nat) (v : Value) : NxS w (W.setCell ⟨w.heap.size + 1, j, none⟩ v) b cs (us.set j v) := by
  have hb := h.hb
  exact ⟨h.m.other ⟨w.heap.size + 1, j, none⟩ (by simp; omega) v, h.u.set j v, h.z.other ⟨w.heap.size + 1, j, none⟩ (by simp) v, h.x.setCell ⟨w.heap.size + 1, j, none⟩ (.inr (by simp)) v, hb⟩
theorem NxS.cm {w W : World} {b : Nat} {v0 v1 v2 v3 v4 v5 v6 v7 v8 v9 v10 : Value} {us : List Value} (h : NxS w W b [v0, v1, v2, v3, v4, v5, v6, v7, v8, v9, v10] us) :
    W.cell? ⟨b, 2, none⟩ = some v2 ∧ W.cell? ⟨b, 3, none⟩ = some v3 ∧ W.cell? ⟨b, 4, none⟩ = some v4 ∧ W.cell? ⟨b, 5, none⟩ = some v5 ∧ W.cell? ⟨b, 6, none⟩ = some v6 :=
  ⟨h.m.cell 2 (by simp), h.m.cell 3 (by simp), h.m.cell 4 (by simp), h.m.cell 5 (by simp), h.m.cell 6 (by simp)⟩
theorem NxS.fm {w W : World} {b : Nat} {cs us : List Value} (h : NxS w W b cs us) : W.frozen? ⟨b, 3, none⟩ = false ∧ W.frozen? ⟨b, 5, none⟩ = false ∧ W.frozen? ⟨b, 6, none⟩ = false :=
  ⟨h.m.frozen 3, h.m.frozen 5, h.m.frozen 6⟩
theorem NxS.lt {w W : World} {b : Nat} {cs us : List Value} (h : NxS w W b cs us) : b < W.heap.size ∧ w.heap.size < W.heap.size ∧ w.heap.size + 1 < W.heap.size := ⟨h.m.lt, h.z.lt, h.u.lt⟩
theorem NxS.out {w W : World} {b : Nat} {cs us : List Value} (h : NxS w W b cs us) (nm r0 r1 r2 r3 r4 r5 r6 : Value) {W' : World}
    (hW : (((((((W.setCell ⟨w.heap.size + 1, 2, none⟩ nm).setCell ⟨w.heap.size, 0, none⟩ r0).setCell ⟨w.heap.size, 1, none⟩ r1).setCell ⟨w.heap.size, 2, none⟩ r2).setCell ⟨w.heap.size, 3, none⟩ r3).setCell ⟨w.heap.size, 4, none⟩ r4).setCell ⟨w.heap.size, 5, none⟩ r5).setCell ⟨w.heap.size, 6, none⟩ r6 = W') :
    Own W' b 29 cs ∧ Own W' w.heap.size 45 [r0, r1, r2, r3, r4, r5, r6] ∧ Exc (fun k => k = b) w W' ∧ Exc (fun k => k = w.heap.size ∨ k = w.heap.size + 1) W W' := by
  subst hW
  have h1 := h.setu 2 nm
  have hb := h.hb
  have n1 : ∀ j, (b : Nat) ≠ (⟨w.heap.size, j, none⟩ : Addr).block := fun j => by simp; omega
  refine ⟨((((((h1.m.other _ (n1 0) r0).other _ (n1 1) r1).other _ (n1 2) r2).other _ (n1 3) r3).other _ (n1 4) r4).other _ (n1 5) r5).other _ (n1 6) r6, ((((((h1.z.set 0 r0).set 1 r1).set 2 r2).set 3 r3).set 4 r4).set 5 r5).set 6 r6, ?_, ?_⟩
  · exact ((((((h1.x.setCell ⟨w.heap.size, 0, none⟩ (.inr (Nat.le_refl _)) r0).setCell ⟨w.heap.size, 1, none⟩ (.inr (Nat.le_refl _)) r1).setCell ⟨w.heap.size, 2, none⟩ (.inr (Nat.le_refl _)) r2).setCell ⟨w.heap.size, 3, none⟩ (.inr (Nat.le_refl _)) r3).setCell ⟨w.heap.size, 4, none⟩ (.inr (Nat.le_refl _)) r4).setCell ⟨w.heap.size, 5, none⟩ (.inr (Nat.le_refl _)) r5).setCell ⟨w.heap.size, 6, none⟩ (.inr (Nat.le_refl _)) r6
  · exact (((((((((Exc.refl (fun k => k = w.heap.size ∨ k = w.heap.size + 1) W).setCell ⟨w.heap.size + 1, 2, none⟩ (.inl (.inr rfl)) nm).setCell ⟨w.heap.size, 0, none⟩ (.inl (.inl rfl)) r0).setCell ⟨w.heap.size, 1, none⟩ (.inl (.inl rfl)) r1).setCell ⟨w.heap.size, 2, none⟩ (.inl (.inl rfl)) r2).setCell ⟨w.heap.size, 3, none⟩ (.inl (.inl rfl)) r3).setCell ⟨w.heap.size, 4, none⟩ (.inl (.inl rfl)) r4).setCell ⟨w.heap.size, 5, none⟩ (.inl (.inl rfl)) r5).setCell ⟨w.heap.size, 6, none⟩ (.inl (.inl rfl)) r6)
theorem Md.nx_new {m : Md} (hl : m.lim = false) (hf : m.forced = false ∨ m.plc = m.sent) (hs : m.sent < m.given) : m.next = (⟨m.accepted, true, num (m.sent + 1), true, 2, 0, loadK m.sent⟩, { m with sent := m.sent + 1, forced := false }) := by
  have key : m.pre = { m with forced := false } := by
    rcases m.pre_cases with ⟨c, _, _⟩ | ⟨c, _, _⟩ | ⟨_, _, e⟩ | ⟨_, c, e⟩
    · rw [hl] at c; cases c
    · rw [hl] at c; cases c
    · exact e
    · rw [e]
      rcases hf with h5 | h5
      · rw [← h5]
      · exact absurd h5 c
  unfold Md.next
  rw [key]
  unfold Md.go
  rw [if_pos ⟨rfl, hs⟩]
theorem Md.nx_fill {m : Md} (hl : m.lim = false) (hf : m.forced = false ∨ m.plc = m.sent) (hs : ¬ m.sent < m.given) (ha : ¬ m.acked < m.sent) : m.next = (⟨m.accepted, true, num m.sent, true, 0, 0, []⟩, { m with forced := false }) := by
  have key : m.pre = { m with forced := false } := by
    rcases m.pre_cases with ⟨c, _, _⟩ | ⟨c, _, _⟩ | ⟨_, _, e⟩ | ⟨_, c, e⟩
    · rw [hl] at c; cases c
    · rw [hl] at c; cases c
    · exact e
    · rw [e]
      rcases hf with h5 | h5
      · rw [← h5]
      · exact absurd h5 c
  unfold Md.next
  rw [key]
  unfold Md.go
  rw [if_neg (fun hh => hs hh.2), if_neg ha]
theorem Md.nx_rep0 {m : Md} (h : (m.lim = true ∧ (m.forced = false ∨ m.plc = m.sent)) ∨ (m.lim = false ∧ ¬ m.sent < m.given ∧ m.plc = m.sent)) (ha : m.acked < m.sent) : m.next = (⟨m.accepted, true, num (m.acked + 1), true, 2, 0, loadK m.acked⟩, { m with plc := m.acked + 1, forced := m.lim }) := by
  unfold Md.next
  rcases m.pre_cases with ⟨c, c2, e⟩ | ⟨c, c2, e⟩ | ⟨c, c2, e⟩ | ⟨c, c2, e⟩
  · rw [e]
    unfold Md.go Md.idx
    rw [if_neg (fun hh => by cases hh.1), if_pos ha, if_neg (show ¬ m.acked = m.sent by omega), c]
  · rw [e]
    rcases h with ⟨_, h5 | h5⟩ | ⟨h5, _⟩
    · rw [c2] at h5; cases h5
    · unfold Md.go Md.idx
      rw [if_neg (fun hh => by rw [c2] at hh; cases hh.1), if_pos ha, if_pos h5, c, ← c2]
    · rw [c] at h5; cases h5
  · rw [e]
    rcases h with ⟨h5, _⟩ | ⟨_, h5, _⟩
    · rw [c] at h5; cases h5
    · unfold Md.go Md.idx
      rw [if_neg (fun hh => h5 hh.2), if_pos ha, if_pos c2, c]
  · rcases h with ⟨h5, _⟩ | ⟨_, _, h5⟩
    · rw [c] at h5; cases h5
    · exact absurd h5 c2
theorem Md.nx_repP {m : Md} (hp : m.plc ≠ m.sent) (h : m.forced = true ∨ (m.lim = false ∧ ¬ m.sent < m.given)) (ha : m.acked < m.sent) : m.next = (⟨m.accepted, true, num (m.plc + 1), true, 2, 0, loadK m.plc⟩, { m with plc := m.plc + 1 }) := by
  have key : m.pre = m := by
    rcases m.pre_cases with ⟨c, c2, e⟩ | ⟨_, _, e⟩ | ⟨_, c, _⟩ | ⟨_, _, e⟩
    · rcases h with h5 | h5
      · rw [c2] at h5; cases h5
      · rw [c] at h5; cases h5.1
    · exact e
    · exact absurd c hp
    · exact e
  unfold Md.next
  rw [key]
  unfold Md.go Md.idx
  rw [if_neg (fun hh => by
    rcases h with h5 | h5
    · rw [h5] at hh; cases hh.1
    · exact h5.2 hh.2), if_pos ha, if_neg hp]
set_option maxHeartbeats 4000000 in
set_option maxRecDepth 100000 in
theorem mnext_any (b : Nat) (m : Md) (w : World) (h : MdAt w b m) :
    Calls Try.prog 12 #[.pointer (some ⟨b, 0, none⟩)] w fun e w' =>
      (∃ s c, e = .returned (.agg (unCells m.next.1 s m.next.1.load.length c).toArray) ∧ Row .u8 w' s m.next.1.load.length c m.next.1.load ∧ ∀ z, s = some z → w.heap.size ≤ z.block) ∧ MdAt w' b m.next.2 ∧ Exc (fun k => k = b) w w' := by
  have hb := h.own.lt
  obtain ⟨W1, hW1⟩ : ∃ W, W = (w.alloc (.cells #[.int .u8 0, .bool false, .int .u8 0, .bool false, .int .u8 0, .int .u8 0, .slice none 0 0] 45)).alloc (.cells #[.int .u8 (m.accepted : Int), .bool true, .int .u8 0, .bool true, .int .u8 0, .int .u8 0, .slice none 0 0] 45) := ⟨_, rfl⟩
  have hb1 : Below w.heap.size w W1 := by rw [hW1]; exact ((Below.refl _ _).alloc (Nat.le_refl _) _).alloc (by simp) _
  have oz : Own W1 w.heap.size 45 zeroUnit := by
    rw [hW1]
    exact (own_lit w _ _ zeroUnit rfl).below (below_alloc _ _) (by simp)
  have ou : Own W1 (w.heap.size + 1) 45 [.int .u8 (m.accepted : Int), .bool true, .int .u8 0, .bool true, .int .u8 0, .int .u8 0, .slice none 0 0] := by
    have hh := own_lit (w.alloc (.cells #[.int .u8 0, .bool false, .int .u8 0, .bool false, .int .u8 0, .int .u8 0, .slice none 0 0] 45)) 45 #[.int .u8 (m.accepted : Int), .bool true, .int .u8 0, .bool true, .int .u8 0, .int .u8 0, .slice none 0 0] _ rfl
    rw [World.size_alloc] at hh
    rw [hW1]; exact hh
  have HN1 := Lib.hid (NxS.mk (h.own.below hb1 hb) ou oz (Exc.of_below hb1) hb)
  have HLi := Lib.hid (mlimited_any b m W1 (h.later hb1))
  have HM := Lib.hid h
  have c7 := h.own.cell 7 (by simp [mdCells])
  simp only [mdCells, List.getD_cons_succ, List.getD_cons_zero] at c7
  have HW := Lib.hid hW1
  have h1 := h.ok.ap
  have h2 := h.ok.ps
  have h3 := h.ok.sg
  have h4 := h.small
  obtain ⟨B, hB⟩ : ∃ B, B = m.lim := ⟨_, rfl⟩
  rw [← hB] at HLi
  have HLm := Lib.hid hB
  clear h oz ou hW1 hb1 hB
  go_enter Try.func12, Try.ntmps12
  go_wp2_with fail
  rw [← HW.out]
  refine HLi.out.mono ?_
  rintro e w2 ⟨rfl, hb2⟩
  have HN2 := Lib.hid (HN1.out.later hb2)
  clear hb2 HN1 c7
  have hcs : mdCells m = [.int .i64 (m.lm : Int), .int .i64 (m.lo : Int), .int .i64 (m.given : Int), .int .i64 (m.sent : Int), .int .i64 (m.acked : Int), .int .i64 (m.plc : Int), .bool m.forced, .int .u8 (m.accepted : Int), .bool m.w0, .bool m.w1, .bool m.failed] := rfl
  rw [hcs] at HN2
  clear hcs
  obtain ⟨c2, c3, c4, c5, c6⟩ := HN2.out.cm
  obtain ⟨f3, f5, f6⟩ := HN2.out.fm
  obtain ⟨l1, l2, l3⟩ := HN2.out.lt
  obtain ⟨v0, v1, v2, v3, v4, v5, v6⟩ := unit_cells HN2.out.u
  obtain ⟨vf0, vf1, vf2, vf3, vf4, vf5, vf6⟩ := unit_frozen HN2.out.u
  cases hf : m.forced
  · rw [hf] at c6 HN2
    cases B
    · go_wp2_with fail
      go_quiet (fail)
      generalize hW3 : w2.drewN nq = w3
      have HN3 := Lib.hid (HN2.out.later (show Below w2.heap.size w2 w3 by rw [← hW3]; exact below_draw _ _))
      clear hW3 HN2 c2 c3 c4 c5 c6 f3 f5 f6 l1 l2 l3 v0 v1 v2 v3 v4 v5 v6 vf0 vf1 vf2 vf3 vf4 vf5 vf6
      obtain ⟨c2, c3, c4, c5, c6⟩ := HN3.out.cm
      obtain ⟨f3, f5, f6⟩ := HN3.out.fm
      obtain ⟨l1, l2, l3⟩ := HN3.out.lt
      obtain ⟨v0, v1, v2, v3, v4, v5, v6⟩ := unit_cells HN3.out.u
      obtain ⟨vf0, vf1, vf2, vf3, vf4, vf5, vf6⟩ := unit_frozen HN3.out.u
      go_wp2_with fail
      by_cases hsg : m.sent < m.given
      · have hsi : (m.sent : Int) < (m.given : Int) := by omega
        go_quiet (fail)
        generalize hW4 : w3.drewN nq = w4
        have HN4 := Lib.hid (HN3.out.later (show Below w3.heap.size w3 w4 by rw [← hW4]; exact below_draw _ _))
        clear hW4 HN3 c2 c3 c4 c5 c6 f3 f5 f6 l1 l2 l3 v0 v1 v2 v3 v4 v5 v6 vf0 vf1 vf2 vf3 vf4 vf5 vf6
        obtain ⟨c2, c3, c4, c5, c6⟩ := HN4.out.cm
        obtain ⟨f3, f5, f6⟩ := HN4.out.fm
        obtain ⟨l1, l2, l3⟩ := HN4.out.lt
        obtain ⟨v0, v1, v2, v3, v4, v5, v6⟩ := unit_cells HN4.out.u
        obtain ⟨vf0, vf1, vf2, vf3, vf4, vf5, vf6⟩ := unit_frozen HN4.out.u
        go_wp2_with fail
        obtain ⟨w5, hW5⟩ : ∃ X, X = (w4.setCell ⟨w.heap.size + 1, 4, none⟩ (.int .u8 2)) := ⟨_, rfl⟩
        rw [← hW5]
        have hN5 := (HN4.out.setu 4 (.int .u8 2))
        rw [← hW5] at hN5
        simp only [List.set_cons_zero, List.set_cons_succ] at hN5
        have HN5 := Lib.hid hN5
        clear hN5 hW5 HN4 c2 c3 c4 c5 c6 f3 f5 f6 l1 l2 l3 v0 v1 v2 v3 v4 v5 v6 vf0 vf1 vf2 vf3 vf4 vf5 vf6
        obtain ⟨c2, c3, c4, c5, c6⟩ := HN5.out.cm
        obtain ⟨f3, f5, f6⟩ := HN5.out.fm
        obtain ⟨l1, l2, l3⟩ := HN5.out.lt
        obtain ⟨v0, v1, v2, v3, v4, v5, v6⟩ := unit_cells HN5.out.u
        obtain ⟨vf0, vf1, vf2, vf3, vf4, vf5, vf6⟩ := unit_frozen HN5.out.u
        refine (kmsg_any (m.sent) w5 (by omega)).mono ?_
        rintro e w6 ⟨⟨g, c, rfl, hr, hg, hl⟩, hb6⟩
        have HN6 := Lib.hid (HN5.out.later hb6)
        have HR := Lib.hid hr
        have hn : ∀ W, Calls Try.prog 14 #[.int .i64 ((m.sent : Int) + 1)] W fun e w' => e = .returned (.int .u8 ((num (m.sent + 1) : Nat) : Int)) ∧ W = w' := fun W => by
          have := knum_any (m.sent + 1) W (by omega)
          rwa [show ((m.sent + 1 : Nat) : Int) = (m.sent : Int) + 1 by omega] at this
        have HNum := Lib.hid hn
        have hga : w.heap.size + 2 ≤ g := by omega
        clear hb6 hr hg hn HN5 c2 c3 c4 c5 c6 f3 f5 f6 l1 l2 l3 v0 v1 v2 v3 v4 v5 v6 vf0 vf1 vf2 vf3 vf4 vf5 vf6
        obtain ⟨c2, c3, c4, c5, c6⟩ := HN6.out.cm
        obtain ⟨f3, f5, f6⟩ := HN6.out.fm
        obtain ⟨l1, l2, l3⟩ := HN6.out.lt
        obtain ⟨v0, v1, v2, v3, v4, v5, v6⟩ := unit_cells HN6.out.u
        obtain ⟨vf0, vf1, vf2, vf3, vf4, vf5, vf6⟩ := unit_frozen HN6.out.u
        go_wp2_with fail
        have hx0 : Exc (fun k => k = b ∨ k = w.heap.size + 1) w6 (((w6.setCell ⟨w.heap.size + 1, 6, none⟩ (.slice (some ⟨g, 0, none⟩) (mlen m.sent) c)).setCell ⟨b, 3, none⟩ (.int .i64 ((m.sent : Int) + 1)))) := ((Exc.refl (fun k => k = b ∨ k = w.heap.size + 1) w6).setCell ⟨w.heap.size + 1, 6, none⟩ (.inl (.inr rfl)) _).setCell ⟨b, 3, none⟩ (.inl (.inl rfl)) _
        have hr2 := HR.out.exc hx0 (fun z hz hh => by cases hz; have h5 := HN6.out.hb; rcases hh with hh | hh <;> (simp only at hh; omega))
        obtain ⟨w7, hW7⟩ : ∃ X, X = ((w6.setCell ⟨w.heap.size + 1, 6, none⟩ (.slice (some ⟨g, 0, none⟩) (mlen m.sent) c)).setCell ⟨b, 3, none⟩ (.int .i64 ((m.sent : Int) + 1))) := ⟨_, rfl⟩
        rw [← hW7]
        rw [← hW7] at hr2
        have HR2 := Lib.hid hr2
        clear hr2 hx0 HR
        have hN7 := ((HN6.out.setu 6 (.slice (some ⟨g, 0, none⟩) (mlen m.sent) c)).setm 3 (.int .i64 ((m.sent : Int) + 1)))
        rw [← hW7] at hN7
        simp only [List.set_cons_zero, List.set_cons_succ] at hN7
        have HN7 := Lib.hid hN7
        clear hN7 hW7 HN6 c2 c3 c4 c5 c6 f3 f5 f6 l1 l2 l3 v0 v1 v2 v3 v4 v5 v6 vf0 vf1 vf2 vf3 vf4 vf5 vf6
        obtain ⟨c2, c3, c4, c5, c6⟩ := HN7.out.cm
        obtain ⟨f3, f5, f6⟩ := HN7.out.fm
        obtain ⟨l1, l2, l3⟩ := HN7.out.lt
        obtain ⟨v0, v1, v2, v3, v4, v5, v6⟩ := unit_cells HN7.out.u
        obtain ⟨vf0, vf1, vf2, vf3, vf4, vf5, vf6⟩ := unit_frozen HN7.out.u
        refine (HNum.out w7).mono ?_
        rintro e w' ⟨rfl, rfl⟩
        obtain ⟨NM, hNM⟩ : ∃ NM, NM = num (m.sent + 1) := ⟨_, rfl⟩
        rw [← hNM]
        have HNM := Lib.hid hNM
        obtain ⟨y0, y1, y2, y3, y4, y5, y6⟩ := unit_cells HN7.out.z
        obtain ⟨yf0, yf1, yf2, yf3, yf4, yf5, yf6⟩ := unit_frozen HN7.out.z
        clear hNM
        go_wp2
        generalize hWf : ((((((((w7.setCell ⟨w.heap.size + 1, 2, none⟩ (.int .u8 (NM : Int))).setCell ⟨w.heap.size, 0, none⟩ (.int .u8 (m.accepted : Int))).setCell ⟨w.heap.size, 1, none⟩ (.bool true)).setCell ⟨w.heap.size, 2, none⟩ (.int .u8 (NM : Int))).setCell ⟨w.heap.size, 3, none⟩ (.bool true)).setCell ⟨w.heap.size, 4, none⟩ (.int .u8 2)).setCell ⟨w.heap.size, 5, none⟩ (.int .u8 0)).setCell ⟨w.heap.size, 6, none⟩ (.slice (some ⟨g, 0, none⟩) (mlen (m.sent)) c)) = Wf
        obtain ⟨om, oz, ox, oe⟩ := HN7.out.out _ _ _ _ _ _ _ _ hWf
        clear hWf y0 y1 y2 y3 y4 y5 y6
        obtain ⟨y0, y1, y2, y3, y4, y5, y6⟩ := unit_cells oz
        refine bodyPost_ret (v := .agg #[.int .u8 (m.accepted : Int), .bool true, .int .u8 (NM : Int), .bool true, .int .u8 2, .int .u8 0, .slice (some ⟨g, 0, none⟩) (mlen (m.sent)) c]) (by simp [results, Try.results12, go_sem, y0, y1, y2, y3, y4, y5, y6]) rfl ?_
        have hok := Md.next_ok HM.out.ok
        have en := Md.nx_new HLm.out.symm (.inl hf) hsg
        rw [en] at hok ⊢
        have hll : (loadK (m.sent)).length = mlen (m.sent) := loadK_length _
        refine ⟨⟨some ⟨g, 0, none⟩, c, ?_, ?_, fun z hz => by cases hz; show w.heap.size ≤ g; omega⟩, ⟨om, hok, HM.out.small⟩, ox⟩
        · rw [HNM.out, ← hll]; rfl
        · rw [show ((⟨m.accepted, true, num (m.sent + 1), true, 2, 0, loadK (m.sent)⟩ : Un)).load = loadK (m.sent) from rfl, hll]
          exact HR2.out.exc oe (fun z hz hh => by cases hz; rcases hh with hh | hh <;> (simp only at hh; omega))
      · have hsi : ¬ (m.sent : Int) < (m.given : Int) := by omega
        go_quiet (fail)
        generalize hW4 : w3.drewN nq = w4
        have HN4 := Lib.hid (HN3.out.later (show Below w3.heap.size w3 w4 by rw [← hW4]; exact below_draw _ _))
        clear hW4 HN3 c2 c3 c4 c5 c6 f3 f5 f6 l1 l2 l3 v0 v1 v2 v3 v4 v5 v6 vf0 vf1 vf2 vf3 vf4 vf5 vf6
        obtain ⟨c2, c3, c4, c5, c6⟩ := HN4.out.cm
        obtain ⟨f3, f5, f6⟩ := HN4.out.fm
        obtain ⟨l1, l2, l3⟩ := HN4.out.lt
        obtain ⟨v0, v1, v2, v3, v4, v5, v6⟩ := unit_cells HN4.out.u
        obtain ⟨vf0, vf1, vf2, vf3, vf4, vf5, vf6⟩ := unit_frozen HN4.out.u
        go_wp2_with fail
        by_cases ha : m.acked < m.sent
        · have hai : (m.acked : Int) < (m.sent : Int) := by omega
          go_quiet (fail)
          generalize hW5 : w4.drewN nq = w5
          have HN5 := Lib.hid (HN4.out.later (show Below w4.heap.size w4 w5 by rw [← hW5]; exact below_draw _ _))
          clear hW5 HN4 c2 c3 c4 c5 c6 f3 f5 f6 l1 l2 l3 v0 v1 v2 v3 v4 v5 v6 vf0 vf1 vf2 vf3 vf4 vf5 vf6
          obtain ⟨c2, c3, c4, c5, c6⟩ := HN5.out.cm
          obtain ⟨f3, f5, f6⟩ := HN5.out.fm
          obtain ⟨l1, l2, l3⟩ := HN5.out.lt
          obtain ⟨v0, v1, v2, v3, v4, v5, v6⟩ := unit_cells HN5.out.u
          obtain ⟨vf0, vf1, vf2, vf3, vf4, vf5, vf6⟩ := unit_frozen HN5.out.u
          go_wp2_with fail
          by_cases hps : m.plc = m.sent
          · have hpb : ((m.plc : Int) == (m.sent : Int)) = true := by simp; omega
            go_quiet (fail)
            generalize hW6 : w5.drewN nq = w6
            have HN6 := Lib.hid (HN5.out.later (show Below w5.heap.size w5 w6 by rw [← hW6]; exact below_draw _ _))
            clear hW6 HN5 c2 c3 c4 c5 c6 f3 f5 f6 l1 l2 l3 v0 v1 v2 v3 v4 v5 v6 vf0 vf1 vf2 vf3 vf4 vf5 vf6
            obtain ⟨c2, c3, c4, c5, c6⟩ := HN6.out.cm
            obtain ⟨f3, f5, f6⟩ := HN6.out.fm
            obtain ⟨l1, l2, l3⟩ := HN6.out.lt
            obtain ⟨v0, v1, v2, v3, v4, v5, v6⟩ := unit_cells HN6.out.u
            obtain ⟨vf0, vf1, vf2, vf3, vf4, vf5, vf6⟩ := unit_frozen HN6.out.u
            go_wp2_with fail
            obtain ⟨w7, hW7⟩ : ∃ X, X = ((w6.setCell ⟨b, 5, none⟩ (.int .i64 (m.acked : Int))).setCell ⟨w.heap.size + 1, 4, none⟩ (.int .u8 2)) := ⟨_, rfl⟩
            rw [← hW7]
            have hN7 := ((HN6.out.setm 5 (.int .i64 (m.acked : Int))).setu 4 (.int .u8 2))
            rw [← hW7] at hN7
            simp only [List.set_cons_zero, List.set_cons_succ] at hN7
            have HN7 := Lib.hid hN7
            clear hN7 hW7 HN6 c2 c3 c4 c5 c6 f3 f5 f6 l1 l2 l3 v0 v1 v2 v3 v4 v5 v6 vf0 vf1 vf2 vf3 vf4 vf5 vf6
            obtain ⟨c2, c3, c4, c5, c6⟩ := HN7.out.cm
            obtain ⟨f3, f5, f6⟩ := HN7.out.fm
            obtain ⟨l1, l2, l3⟩ := HN7.out.lt
            obtain ⟨v0, v1, v2, v3, v4, v5, v6⟩ := unit_cells HN7.out.u
            obtain ⟨vf0, vf1, vf2, vf3, vf4, vf5, vf6⟩ := unit_frozen HN7.out.u
            refine (kmsg_any (m.acked) w7 (by omega)).mono ?_
            rintro e w8 ⟨⟨g, c, rfl, hr, hg, hl⟩, hb8⟩
            have HN8 := Lib.hid (HN7.out.later hb8)
            have HR := Lib.hid hr
            have hn : ∀ W, Calls Try.prog 14 #[.int .i64 ((m.acked : Int) + 1)] W fun e w' => e = .returned (.int .u8 ((num (m.acked + 1) : Nat) : Int)) ∧ W = w' := fun W => by
              have := knum_any (m.acked + 1) W (by omega)
              rwa [show ((m.acked + 1 : Nat) : Int) = (m.acked : Int) + 1 by omega] at this
            have HNum := Lib.hid hn
            have hga : w.heap.size + 2 ≤ g := by omega
            clear hb8 hr hg hn HN7 c2 c3 c4 c5 c6 f3 f5 f6 l1 l2 l3 v0 v1 v2 v3 v4 v5 v6 vf0 vf1 vf2 vf3 vf4 vf5 vf6
            obtain ⟨c2, c3, c4, c5, c6⟩ := HN8.out.cm
            obtain ⟨f3, f5, f6⟩ := HN8.out.fm
            obtain ⟨l1, l2, l3⟩ := HN8.out.lt
            obtain ⟨v0, v1, v2, v3, v4, v5, v6⟩ := unit_cells HN8.out.u
            obtain ⟨vf0, vf1, vf2, vf3, vf4, vf5, vf6⟩ := unit_frozen HN8.out.u
            go_wp2_with fail
            have hx0 : Exc (fun k => k = b ∨ k = w.heap.size + 1) w8 (((w8.setCell ⟨w.heap.size + 1, 6, none⟩ (.slice (some ⟨g, 0, none⟩) (mlen m.acked) c)).setCell ⟨b, 5, none⟩ (.int .i64 ((m.acked : Int) + 1)))) := ((Exc.refl (fun k => k = b ∨ k = w.heap.size + 1) w8).setCell ⟨w.heap.size + 1, 6, none⟩ (.inl (.inr rfl)) _).setCell ⟨b, 5, none⟩ (.inl (.inl rfl)) _
            have hr2 := HR.out.exc hx0 (fun z hz hh => by cases hz; have h5 := HN8.out.hb; rcases hh with hh | hh <;> (simp only at hh; omega))
            obtain ⟨w9, hW9⟩ : ∃ X, X = ((w8.setCell ⟨w.heap.size + 1, 6, none⟩ (.slice (some ⟨g, 0, none⟩) (mlen m.acked) c)).setCell ⟨b, 5, none⟩ (.int .i64 ((m.acked : Int) + 1))) := ⟨_, rfl⟩
            rw [← hW9]
            rw [← hW9] at hr2
            have HR2 := Lib.hid hr2
            clear hr2 hx0 HR
            have hN9 := ((HN8.out.setu 6 (.slice (some ⟨g, 0, none⟩) (mlen m.acked) c)).setm 5 (.int .i64 ((m.acked : Int) + 1)))
            rw [← hW9] at hN9
            simp only [List.set_cons_zero, List.set_cons_succ] at hN9
            have HN9 := Lib.hid hN9
            clear hN9 hW9 HN8 c2 c3 c4 c5 c6 f3 f5 f6 l1 l2 l3 v0 v1 v2 v3 v4 v5 v6 vf0 vf1 vf2 vf3 vf4 vf5 vf6
            obtain ⟨c2, c3, c4, c5, c6⟩ := HN9.out.cm
            obtain ⟨f3, f5, f6⟩ := HN9.out.fm
            obtain ⟨l1, l2, l3⟩ := HN9.out.lt
            obtain ⟨v0, v1, v2, v3, v4, v5, v6⟩ := unit_cells HN9.out.u
            obtain ⟨vf0, vf1, vf2, vf3, vf4, vf5, vf6⟩ := unit_frozen HN9.out.u
            refine (HNum.out w9).mono ?_
            rintro e w' ⟨rfl, rfl⟩
            obtain ⟨NM, hNM⟩ : ∃ NM, NM = num (m.acked + 1) := ⟨_, rfl⟩
            rw [← hNM]
            have HNM := Lib.hid hNM
            obtain ⟨y0, y1, y2, y3, y4, y5, y6⟩ := unit_cells HN9.out.z
            obtain ⟨yf0, yf1, yf2, yf3, yf4, yf5, yf6⟩ := unit_frozen HN9.out.z
            clear hNM
            go_wp2
            generalize hWf : ((((((((w9.setCell ⟨w.heap.size + 1, 2, none⟩ (.int .u8 (NM : Int))).setCell ⟨w.heap.size, 0, none⟩ (.int .u8 (m.accepted : Int))).setCell ⟨w.heap.size, 1, none⟩ (.bool true)).setCell ⟨w.heap.size, 2, none⟩ (.int .u8 (NM : Int))).setCell ⟨w.heap.size, 3, none⟩ (.bool true)).setCell ⟨w.heap.size, 4, none⟩ (.int .u8 2)).setCell ⟨w.heap.size, 5, none⟩ (.int .u8 0)).setCell ⟨w.heap.size, 6, none⟩ (.slice (some ⟨g, 0, none⟩) (mlen (m.acked)) c)) = Wf
            obtain ⟨om, oz, ox, oe⟩ := HN9.out.out _ _ _ _ _ _ _ _ hWf
            clear hWf y0 y1 y2 y3 y4 y5 y6
            obtain ⟨y0, y1, y2, y3, y4, y5, y6⟩ := unit_cells oz
            refine bodyPost_ret (v := .agg #[.int .u8 (m.accepted : Int), .bool true, .int .u8 (NM : Int), .bool true, .int .u8 2, .int .u8 0, .slice (some ⟨g, 0, none⟩) (mlen (m.acked)) c]) (by simp [results, Try.results12, go_sem, y0, y1, y2, y3, y4, y5, y6]) rfl ?_
            have hok := Md.next_ok HM.out.ok
            have en := Md.nx_rep0 (.inr ⟨HLm.out.symm, hsg, hps⟩) ha
            rw [← HLm.out] at en
            rw [en] at hok ⊢
            have hll : (loadK (m.acked)).length = mlen (m.acked) := loadK_length _
            refine ⟨⟨some ⟨g, 0, none⟩, c, ?_, ?_, fun z hz => by cases hz; show w.heap.size ≤ g; omega⟩, ⟨om, hok, HM.out.small⟩, ox⟩
            · rw [HNM.out, ← hll]; rfl
            · rw [show ((⟨m.accepted, true, num (m.acked + 1), true, 2, 0, loadK (m.acked)⟩ : Un)).load = loadK (m.acked) from rfl, hll]
              exact HR2.out.exc oe (fun z hz hh => by cases hz; rcases hh with hh | hh <;> (simp only at hh; omega))
          · have hpb : ((m.plc : Int) == (m.sent : Int)) = false := by simp; omega
            go_quiet (fail)
            generalize hW6 : w5.drewN nq = w6
            have HN6 := Lib.hid (HN5.out.later (show Below w5.heap.size w5 w6 by rw [← hW6]; exact below_draw _ _))
            clear hW6 HN5 c2 c3 c4 c5 c6 f3 f5 f6 l1 l2 l3 v0 v1 v2 v3 v4 v5 v6 vf0 vf1 vf2 vf3 vf4 vf5 vf6
            obtain ⟨c2, c3, c4, c5, c6⟩ := HN6.out.cm
            obtain ⟨f3, f5, f6⟩ := HN6.out.fm
            obtain ⟨l1, l2, l3⟩ := HN6.out.lt
            obtain ⟨v0, v1, v2, v3, v4, v5, v6⟩ := unit_cells HN6.out.u
            obtain ⟨vf0, vf1, vf2, vf3, vf4, vf5, vf6⟩ := unit_frozen HN6.out.u
            go_wp2_with fail
            obtain ⟨w7, hW7⟩ : ∃ X, X = (w6.setCell ⟨w.heap.size + 1, 4, none⟩ (.int .u8 2)) := ⟨_, rfl⟩
            rw [← hW7]
            have hN7 := (HN6.out.setu 4 (.int .u8 2))
            rw [← hW7] at hN7
            simp only [List.set_cons_zero, List.set_cons_succ] at hN7
            have HN7 := Lib.hid hN7
            clear hN7 hW7 HN6 c2 c3 c4 c5 c6 f3 f5 f6 l1 l2 l3 v0 v1 v2 v3 v4 v5 v6 vf0 vf1 vf2 vf3 vf4 vf5 vf6
            obtain ⟨c2, c3, c4, c5, c6⟩ := HN7.out.cm
            obtain ⟨f3, f5, f6⟩ := HN7.out.fm
            obtain ⟨l1, l2, l3⟩ := HN7.out.lt
            obtain ⟨v0, v1, v2, v3, v4, v5, v6⟩ := unit_cells HN7.out.u
            obtain ⟨vf0, vf1, vf2, vf3, vf4, vf5, vf6⟩ := unit_frozen HN7.out.u
            refine (kmsg_any (m.plc) w7 (by omega)).mono ?_
            rintro e w8 ⟨⟨g, c, rfl, hr, hg, hl⟩, hb8⟩
            have HN8 := Lib.hid (HN7.out.later hb8)
            have HR := Lib.hid hr
            have hn : ∀ W, Calls Try.prog 14 #[.int .i64 ((m.plc : Int) + 1)] W fun e w' => e = .returned (.int .u8 ((num (m.plc + 1) : Nat) : Int)) ∧ W = w' := fun W => by
              have := knum_any (m.plc + 1) W (by omega)
              rwa [show ((m.plc + 1 : Nat) : Int) = (m.plc : Int) + 1 by omega] at this
            have HNum := Lib.hid hn
            have hga : w.heap.size + 2 ≤ g := by omega
            clear hb8 hr hg hn HN7 c2 c3 c4 c5 c6 f3 f5 f6 l1 l2 l3 v0 v1 v2 v3 v4 v5 v6 vf0 vf1 vf2 vf3 vf4 vf5 vf6
            obtain ⟨c2, c3, c4, c5, c6⟩ := HN8.out.cm
            obtain ⟨f3, f5, f6⟩ := HN8.out.fm
            obtain ⟨l1, l2, l3⟩ := HN8.out.lt
            obtain ⟨v0, v1, v2, v3, v4, v5, v6⟩ := unit_cells HN8.out.u
            obtain ⟨vf0, vf1, vf2, vf3, vf4, vf5, vf6⟩ := unit_frozen HN8.out.u
            go_wp2_with fail
            have hx0 : Exc (fun k => k = b ∨ k = w.heap.size + 1) w8 (((w8.setCell ⟨w.heap.size + 1, 6, none⟩ (.slice (some ⟨g, 0, none⟩) (mlen m.plc) c)).setCell ⟨b, 5, none⟩ (.int .i64 ((m.plc : Int) + 1)))) := ((Exc.refl (fun k => k = b ∨ k = w.heap.size + 1) w8).setCell ⟨w.heap.size + 1, 6, none⟩ (.inl (.inr rfl)) _).setCell ⟨b, 5, none⟩ (.inl (.inl rfl)) _
            have hr2 := HR.out.exc hx0 (fun z hz hh => by cases hz; have h5 := HN8.out.hb; rcases hh with hh | hh <;> (simp only at hh; omega))
            obtain ⟨w9, hW9⟩ : ∃ X, X = ((w8.setCell ⟨w.heap.size + 1, 6, none⟩ (.slice (some ⟨g, 0, none⟩) (mlen m.plc) c)).setCell ⟨b, 5, none⟩ (.int .i64 ((m.plc : Int) + 1))) := ⟨_, rfl⟩
            rw [← hW9]
            rw [← hW9] at hr2
            have HR2 := Lib.hid hr2
            clear hr2 hx0 HR
            have hN9 := ((HN8.out.setu 6 (.slice (some ⟨g, 0, none⟩) (mlen m.plc) c)).setm 5 (.int .i64 ((m.plc : Int) + 1)))
            rw [← hW9] at hN9
            simp only [List.set_cons_zero, List.set_cons_succ] at hN9
            have HN9 := Lib.hid hN9
            clear hN9 hW9 HN8 c2 c3 c4 c5 c6 f3 f5 f6 l1 l2 l3 v0 v1 v2 v3 v4 v5 v6 vf0 vf1 vf2 vf3 vf4 vf5 vf6
            obtain ⟨c2, c3, c4, c5, c6⟩ := HN9.out.cm
            obtain ⟨f3, f5, f6⟩ := HN9.out.fm
            obtain ⟨l1, l2, l3⟩ := HN9.out.lt
            obtain ⟨v0, v1, v2, v3, v4, v5, v6⟩ := unit_cells HN9.out.u
            obtain ⟨vf0, vf1, vf2, vf3, vf4, vf5, vf6⟩ := unit_frozen HN9.out.u
            refine (HNum.out w9).mono ?_
            rintro e w' ⟨rfl, rfl⟩
            obtain ⟨NM, hNM⟩ : ∃ NM, NM = num (m.plc + 1) := ⟨_, rfl⟩
            rw [← hNM]
            have HNM := Lib.hid hNM
            obtain ⟨y0, y1, y2, y3, y4, y5, y6⟩ := unit_cells HN9.out.z
            obtain ⟨yf0, yf1, yf2, yf3, yf4, yf5, yf6⟩ := unit_frozen HN9.out.z
            clear hNM
            go_wp2
            generalize hWf : ((((((((w9.setCell ⟨w.heap.size + 1, 2, none⟩ (.int .u8 (NM : Int))).setCell ⟨w.heap.size, 0, none⟩ (.int .u8 (m.accepted : Int))).setCell ⟨w.heap.size, 1, none⟩ (.bool true)).setCell ⟨w.heap.size, 2, none⟩ (.int .u8 (NM : Int))).setCell ⟨w.heap.size, 3, none⟩ (.bool true)).setCell ⟨w.heap.size, 4, none⟩ (.int .u8 2)).setCell ⟨w.heap.size, 5, none⟩ (.int .u8 0)).setCell ⟨w.heap.size, 6, none⟩ (.slice (some ⟨g, 0, none⟩) (mlen (m.plc)) c)) = Wf
            obtain ⟨om, oz, ox, oe⟩ := HN9.out.out _ _ _ _ _ _ _ _ hWf
            clear hWf y0 y1 y2 y3 y4 y5 y6
            obtain ⟨y0, y1, y2, y3, y4, y5, y6⟩ := unit_cells oz
            refine bodyPost_ret (v := .agg #[.int .u8 (m.accepted : Int), .bool true, .int .u8 (NM : Int), .bool true, .int .u8 2, .int .u8 0, .slice (some ⟨g, 0, none⟩) (mlen (m.plc)) c]) (by simp [results, Try.results12, go_sem, y0, y1, y2, y3, y4, y5, y6]) rfl ?_
            have hok := Md.next_ok HM.out.ok
            have en := Md.nx_repP hps (.inr ⟨HLm.out.symm, hsg⟩) ha
            rw [hf] at en
            rw [en] at hok ⊢
            have hll : (loadK (m.plc)).length = mlen (m.plc) := loadK_length _
            refine ⟨⟨some ⟨g, 0, none⟩, c, ?_, ?_, fun z hz => by cases hz; show w.heap.size ≤ g; omega⟩, ⟨om, hok, HM.out.small⟩, ox⟩
            · rw [HNM.out, ← hll]; rfl
            · rw [show ((⟨m.accepted, true, num (m.plc + 1), true, 2, 0, loadK (m.plc)⟩ : Un)).load = loadK (m.plc) from rfl, hll]
              exact HR2.out.exc oe (fun z hz hh => by cases hz; rcases hh with hh | hh <;> (simp only at hh; omega))
        · have hai : ¬ (m.acked : Int) < (m.sent : Int) := by omega
          go_quiet (fail)
          generalize hW5 : w4.drewN nq = w5
          have HN5 := Lib.hid (HN4.out.later (show Below w4.heap.size w4 w5 by rw [← hW5]; exact below_draw _ _))
          clear hW5 HN4 c2 c3 c4 c5 c6 f3 f5 f6 l1 l2 l3 v0 v1 v2 v3 v4 v5 v6 vf0 vf1 vf2 vf3 vf4 vf5 vf6
          obtain ⟨c2, c3, c4, c5, c6⟩ := HN5.out.cm
          obtain ⟨f3, f5, f6⟩ := HN5.out.fm
          obtain ⟨l1, l2, l3⟩ := HN5.out.lt
          obtain ⟨v0, v1, v2, v3, v4, v5, v6⟩ := unit_cells HN5.out.u
          obtain ⟨vf0, vf1, vf2, vf3, vf4, vf5, vf6⟩ := unit_frozen HN5.out.u
          go_wp2_with fail
          refine (knum_any m.sent w5 (by omega)).mono ?_
          rintro e w' ⟨rfl, rfl⟩
          obtain ⟨NM, hNM⟩ : ∃ NM, NM = num m.sent := ⟨_, rfl⟩
          rw [← hNM]
          have HNM := Lib.hid hNM
          obtain ⟨y0, y1, y2, y3, y4, y5, y6⟩ := unit_cells HN5.out.z
          obtain ⟨yf0, yf1, yf2, yf3, yf4, yf5, yf6⟩ := unit_frozen HN5.out.z
          clear hNM
          go_wp2
          generalize hWf : ((((((((w5.setCell ⟨w.heap.size + 1, 2, none⟩ (.int .u8 (NM : Int))).setCell ⟨w.heap.size, 0, none⟩ (.int .u8 (m.accepted : Int))).setCell ⟨w.heap.size, 1, none⟩ (.bool true)).setCell ⟨w.heap.size, 2, none⟩ (.int .u8 (NM : Int))).setCell ⟨w.heap.size, 3, none⟩ (.bool true)).setCell ⟨w.heap.size, 4, none⟩ (.int .u8 0)).setCell ⟨w.heap.size, 5, none⟩ (.int .u8 0)).setCell ⟨w.heap.size, 6, none⟩ (.slice none 0 0)) = Wf
          obtain ⟨om, oz, ox, oe⟩ := HN5.out.out _ _ _ _ _ _ _ _ hWf
          clear hWf y0 y1 y2 y3 y4 y5 y6
          obtain ⟨y0, y1, y2, y3, y4, y5, y6⟩ := unit_cells oz
          refine bodyPost_ret (v := .agg #[.int .u8 (m.accepted : Int), .bool true, .int .u8 (NM : Int), .bool true, .int .u8 0, .int .u8 0, .slice none 0 0]) (by simp [results, Try.results12, go_sem, y0, y1, y2, y3, y4, y5, y6]) rfl ?_
          have hok := Md.next_ok HM.out.ok
          have en := Md.nx_fill HLm.out.symm (.inl hf) hsg ha
          rw [en] at hok ⊢
          refine ⟨⟨none, 0, ?_, Row.of_nil _ _, fun z hz => by cases hz⟩, ⟨om, hok, HM.out.small⟩, ox⟩
          rw [HNM.out]; rfl
    · have ha : m.acked < m.sent := by
        by_cases hh : m.acked < m.sent
        · exact hh
        · have h5 := Md.lim_none HM.out.ok (by omega)
          rw [← HLm.out] at h5
          cases h5
      have hai : (m.acked : Int) < (m.sent : Int) := by omega
      have hab : ((m.acked : Int) == (m.sent : Int)) = false := by simp; omega
      go_wp2_with fail
      obtain ⟨w3, hW3⟩ : ∃ X, X = ((w2.setCell ⟨b, 6, none⟩ (.bool true)).setCell ⟨b, 5, none⟩ (.int .i64 (m.acked : Int))) := ⟨_, rfl⟩
      rw [← hW3]
      have hN3 := ((HN2.out.setm 6 (.bool true)).setm 5 (.int .i64 (m.acked : Int)))
      rw [← hW3] at hN3
      simp only [List.set_cons_zero, List.set_cons_succ] at hN3
      have HN3 := Lib.hid hN3
      clear hN3 hW3 HN2 c2 c3 c4 c5 c6 f3 f5 f6 l1 l2 l3 v0 v1 v2 v3 v4 v5 v6 vf0 vf1 vf2 vf3 vf4 vf5 vf6
      obtain ⟨c2, c3, c4, c5, c6⟩ := HN3.out.cm
      obtain ⟨f3, f5, f6⟩ := HN3.out.fm
      obtain ⟨l1, l2, l3⟩ := HN3.out.lt
      obtain ⟨v0, v1, v2, v3, v4, v5, v6⟩ := unit_cells HN3.out.u
      obtain ⟨vf0, vf1, vf2, vf3, vf4, vf5, vf6⟩ := unit_frozen HN3.out.u
      go_quiet (fail)
      generalize hW4 : w3.drewN nq = w4
      have HN4 := Lib.hid (HN3.out.later (show Below w3.heap.size w3 w4 by rw [← hW4]; exact below_draw _ _))
      clear hW4 HN3 c2 c3 c4 c5 c6 f3 f5 f6 l1 l2 l3 v0 v1 v2 v3 v4 v5 v6 vf0 vf1 vf2 vf3 vf4 vf5 vf6
      obtain ⟨c2, c3, c4, c5, c6⟩ := HN4.out.cm
      obtain ⟨f3, f5, f6⟩ := HN4.out.fm
      obtain ⟨l1, l2, l3⟩ := HN4.out.lt
      obtain ⟨v0, v1, v2, v3, v4, v5, v6⟩ := unit_cells HN4.out.u
      obtain ⟨vf0, vf1, vf2, vf3, vf4, vf5, vf6⟩ := unit_frozen HN4.out.u
      go_wp2_with fail
      go_quiet (fail)
      generalize hW5 : w4.drewN nq = w5
      have HN5 := Lib.hid (HN4.out.later (show Below w4.heap.size w4 w5 by rw [← hW5]; exact below_draw _ _))
      clear hW5 HN4 c2 c3 c4 c5 c6 f3 f5 f6 l1 l2 l3 v0 v1 v2 v3 v4 v5 v6 vf0 vf1 vf2 vf3 vf4 vf5 vf6
      obtain ⟨c2, c3, c4, c5, c6⟩ := HN5.out.cm
      obtain ⟨f3, f5, f6⟩ := HN5.out.fm
      obtain ⟨l1, l2, l3⟩ := HN5.out.lt
      obtain ⟨v0, v1, v2, v3, v4, v5, v6⟩ := unit_cells HN5.out.u
      obtain ⟨vf0, vf1, vf2, vf3, vf4, vf5, vf6⟩ := unit_frozen HN5.out.u
      go_wp2_with fail
      go_quiet (fail)
      generalize hW6 : w5.drewN nq = w6
      have HN6 := Lib.hid (HN5.out.later (show Below w5.heap.size w5 w6 by rw [← hW6]; exact below_draw _ _))
      clear hW6 HN5 c2 c3 c4 c5 c6 f3 f5 f6 l1 l2 l3 v0 v1 v2 v3 v4 v5 v6 vf0 vf1 vf2 vf3 vf4 vf5 vf6
      obtain ⟨c2, c3, c4, c5, c6⟩ := HN6.out.cm
      obtain ⟨f3, f5, f6⟩ := HN6.out.fm
      obtain ⟨l1, l2, l3⟩ := HN6.out.lt
      obtain ⟨v0, v1, v2, v3, v4, v5, v6⟩ := unit_cells HN6.out.u
      obtain ⟨vf0, vf1, vf2, vf3, vf4, vf5, vf6⟩ := unit_frozen HN6.out.u
      go_wp2_with fail
      go_quiet (fail)
      generalize hW7 : w6.drewN nq = w7
      have HN7 := Lib.hid (HN6.out.later (show Below w6.heap.size w6 w7 by rw [← hW7]; exact below_draw _ _))
      clear hW7 HN6 c2 c3 c4 c5 c6 f3 f5 f6 l1 l2 l3 v0 v1 v2 v3 v4 v5 v6 vf0 vf1 vf2 vf3 vf4 vf5 vf6
      obtain ⟨c2, c3, c4, c5, c6⟩ := HN7.out.cm
      obtain ⟨f3, f5, f6⟩ := HN7.out.fm
      obtain ⟨l1, l2, l3⟩ := HN7.out.lt
      obtain ⟨v0, v1, v2, v3, v4, v5, v6⟩ := unit_cells HN7.out.u
      obtain ⟨vf0, vf1, vf2, vf3, vf4, vf5, vf6⟩ := unit_frozen HN7.out.u
      go_wp2_with fail
      obtain ⟨w8, hW8⟩ : ∃ X, X = (w7.setCell ⟨w.heap.size + 1, 4, none⟩ (.int .u8 2)) := ⟨_, rfl⟩
      rw [← hW8]
      have hN8 := (HN7.out.setu 4 (.int .u8 2))
      rw [← hW8] at hN8
      simp only [List.set_cons_zero, List.set_cons_succ] at hN8
      have HN8 := Lib.hid hN8
      clear hN8 hW8 HN7 c2 c3 c4 c5 c6 f3 f5 f6 l1 l2 l3 v0 v1 v2 v3 v4 v5 v6 vf0 vf1 vf2 vf3 vf4 vf5 vf6
      obtain ⟨c2, c3, c4, c5, c6⟩ := HN8.out.cm
      obtain ⟨f3, f5, f6⟩ := HN8.out.fm
      obtain ⟨l1, l2, l3⟩ := HN8.out.lt
      obtain ⟨v0, v1, v2, v3, v4, v5, v6⟩ := unit_cells HN8.out.u
      obtain ⟨vf0, vf1, vf2, vf3, vf4, vf5, vf6⟩ := unit_frozen HN8.out.u
      refine (kmsg_any (m.acked) w8 (by omega)).mono ?_
      rintro e w9 ⟨⟨g, c, rfl, hr, hg, hl⟩, hb9⟩
      have HN9 := Lib.hid (HN8.out.later hb9)
      have HR := Lib.hid hr
      have hn : ∀ W, Calls Try.prog 14 #[.int .i64 ((m.acked : Int) + 1)] W fun e w' => e = .returned (.int .u8 ((num (m.acked + 1) : Nat) : Int)) ∧ W = w' := fun W => by
        have := knum_any (m.acked + 1) W (by omega)
        rwa [show ((m.acked + 1 : Nat) : Int) = (m.acked : Int) + 1 by omega] at this
      have HNum := Lib.hid hn
      have hga : w.heap.size + 2 ≤ g := by omega
      clear hb9 hr hg hn HN8 c2 c3 c4 c5 c6 f3 f5 f6 l1 l2 l3 v0 v1 v2 v3 v4 v5 v6 vf0 vf1 vf2 vf3 vf4 vf5 vf6
      obtain ⟨c2, c3, c4, c5, c6⟩ := HN9.out.cm
      obtain ⟨f3, f5, f6⟩ := HN9.out.fm
      obtain ⟨l1, l2, l3⟩ := HN9.out.lt
      obtain ⟨v0, v1, v2, v3, v4, v5, v6⟩ := unit_cells HN9.out.u
      obtain ⟨vf0, vf1, vf2, vf3, vf4, vf5, vf6⟩ := unit_frozen HN9.out.u
      go_wp2_with fail
      have hx0 : Exc (fun k => k = b ∨ k = w.heap.size + 1) w9 (((w9.setCell ⟨w.heap.size + 1, 6, none⟩ (.slice (some ⟨g, 0, none⟩) (mlen m.acked) c)).setCell ⟨b, 5, none⟩ (.int .i64 ((m.acked : Int) + 1)))) := ((Exc.refl (fun k => k = b ∨ k = w.heap.size + 1) w9).setCell ⟨w.heap.size + 1, 6, none⟩ (.inl (.inr rfl)) _).setCell ⟨b, 5, none⟩ (.inl (.inl rfl)) _
      have hr2 := HR.out.exc hx0 (fun z hz hh => by cases hz; have h5 := HN9.out.hb; rcases hh with hh | hh <;> (simp only at hh; omega))
      obtain ⟨w10, hW10⟩ : ∃ X, X = ((w9.setCell ⟨w.heap.size + 1, 6, none⟩ (.slice (some ⟨g, 0, none⟩) (mlen m.acked) c)).setCell ⟨b, 5, none⟩ (.int .i64 ((m.acked : Int) + 1))) := ⟨_, rfl⟩
      rw [← hW10]
      rw [← hW10] at hr2
      have HR2 := Lib.hid hr2
      clear hr2 hx0 HR
      have hN10 := ((HN9.out.setu 6 (.slice (some ⟨g, 0, none⟩) (mlen m.acked) c)).setm 5 (.int .i64 ((m.acked : Int) + 1)))
      rw [← hW10] at hN10
      simp only [List.set_cons_zero, List.set_cons_succ] at hN10
      have HN10 := Lib.hid hN10
      clear hN10 hW10 HN9 c2 c3 c4 c5 c6 f3 f5 f6 l1 l2 l3 v0 v1 v2 v3 v4 v5 v6 vf0 vf1 vf2 vf3 vf4 vf5 vf6
      obtain ⟨c2, c3, c4, c5, c6⟩ := HN10.out.cm
      obtain ⟨f3, f5, f6⟩ := HN10.out.fm
      obtain ⟨l1, l2, l3⟩ := HN10.out.lt
      obtain ⟨v0, v1, v2, v3, v4, v5, v6⟩ := unit_cells HN10.out.u
      obtain ⟨vf0, vf1, vf2, vf3, vf4, vf5, vf6⟩ := unit_frozen HN10.out.u
      refine (HNum.out w10).mono ?_
      rintro e w' ⟨rfl, rfl⟩
      obtain ⟨NM, hNM⟩ : ∃ NM, NM = num (m.acked + 1) := ⟨_, rfl⟩
      rw [← hNM]
      have HNM := Lib.hid hNM
      obtain ⟨y0, y1, y2, y3, y4, y5, y6⟩ := unit_cells HN10.out.z
      obtain ⟨yf0, yf1, yf2, yf3, yf4, yf5, yf6⟩ := unit_frozen HN10.out.z
      clear hNM
      go_wp2
      generalize hWf : ((((((((w10.setCell ⟨w.heap.size + 1, 2, none⟩ (.int .u8 (NM : Int))).setCell ⟨w.heap.size, 0, none⟩ (.int .u8 (m.accepted : Int))).setCell ⟨w.heap.size, 1, none⟩ (.bool true)).setCell ⟨w.heap.size, 2, none⟩ (.int .u8 (NM : Int))).setCell ⟨w.heap.size, 3, none⟩ (.bool true)).setCell ⟨w.heap.size, 4, none⟩ (.int .u8 2)).setCell ⟨w.heap.size, 5, none⟩ (.int .u8 0)).setCell ⟨w.heap.size, 6, none⟩ (.slice (some ⟨g, 0, none⟩) (mlen (m.acked)) c)) = Wf
      obtain ⟨om, oz, ox, oe⟩ := HN10.out.out _ _ _ _ _ _ _ _ hWf
      clear hWf y0 y1 y2 y3 y4 y5 y6
      obtain ⟨y0, y1, y2, y3, y4, y5, y6⟩ := unit_cells oz
      refine bodyPost_ret (v := .agg #[.int .u8 (m.accepted : Int), .bool true, .int .u8 (NM : Int), .bool true, .int .u8 2, .int .u8 0, .slice (some ⟨g, 0, none⟩) (mlen (m.acked)) c]) (by simp [results, Try.results12, go_sem, y0, y1, y2, y3, y4, y5, y6]) rfl ?_
      have hok := Md.next_ok HM.out.ok
      have en := Md.nx_rep0 (.inl ⟨HLm.out.symm, .inl hf⟩) ha
      rw [← HLm.out] at en
      rw [en] at hok ⊢
      have hll : (loadK (m.acked)).length = mlen (m.acked) := loadK_length _
      refine ⟨⟨some ⟨g, 0, none⟩, c, ?_, ?_, fun z hz => by cases hz; show w.heap.size ≤ g; omega⟩, ⟨om, hok, HM.out.small⟩, ox⟩
      · rw [HNM.out, ← hll]; rfl
      · rw [show ((⟨m.accepted, true, num (m.acked + 1), true, 2, 0, loadK (m.acked)⟩ : Un)).load = loadK (m.acked) from rfl, hll]
        exact HR2.out.exc oe (fun z hz hh => by cases hz; rcases hh with hh | hh <;> (simp only at hh; omega))
  · rw [hf] at c6 HN2
    cases B
    · by_cases hps : m.plc = m.sent
      · have hpb : ((m.plc : Int) == (m.sent : Int)) = true := by simp; omega
        go_wp2_with fail
        go_quiet (fail)
        generalize hW3 : w2.drewN nq = w3
        have HN3 := Lib.hid (HN2.out.later (show Below w2.heap.size w2 w3 by rw [← hW3]; exact below_draw _ _))
        clear hW3 HN2 c2 c3 c4 c5 c6 f3 f5 f6 l1 l2 l3 v0 v1 v2 v3 v4 v5 v6 vf0 vf1 vf2 vf3 vf4 vf5 vf6
        obtain ⟨c2, c3, c4, c5, c6⟩ := HN3.out.cm
        obtain ⟨f3, f5, f6⟩ := HN3.out.fm
        obtain ⟨l1, l2, l3⟩ := HN3.out.lt
        obtain ⟨v0, v1, v2, v3, v4, v5, v6⟩ := unit_cells HN3.out.u
        obtain ⟨vf0, vf1, vf2, vf3, vf4, vf5, vf6⟩ := unit_frozen HN3.out.u
        go_wp2_with fail
        obtain ⟨w4, hW4⟩ : ∃ X, X = (w3.setCell ⟨b, 6, none⟩ (.bool false)) := ⟨_, rfl⟩
        rw [← hW4]
        have hN4 := (HN3.out.setm 6 (.bool false))
        rw [← hW4] at hN4
        simp only [List.set_cons_zero, List.set_cons_succ] at hN4
        have HN4 := Lib.hid hN4
        clear hN4 hW4 HN3 c2 c3 c4 c5 c6 f3 f5 f6 l1 l2 l3 v0 v1 v2 v3 v4 v5 v6 vf0 vf1 vf2 vf3 vf4 vf5 vf6
        obtain ⟨c2, c3, c4, c5, c6⟩ := HN4.out.cm
        obtain ⟨f3, f5, f6⟩ := HN4.out.fm
        obtain ⟨l1, l2, l3⟩ := HN4.out.lt
        obtain ⟨v0, v1, v2, v3, v4, v5, v6⟩ := unit_cells HN4.out.u
        obtain ⟨vf0, vf1, vf2, vf3, vf4, vf5, vf6⟩ := unit_frozen HN4.out.u
        by_cases hsg : m.sent < m.given
        · have hsi : (m.sent : Int) < (m.given : Int) := by omega
          go_quiet (fail)
          generalize hW5 : w4.drewN nq = w5
          have HN5 := Lib.hid (HN4.out.later (show Below w4.heap.size w4 w5 by rw [← hW5]; exact below_draw _ _))
          clear hW5 HN4 c2 c3 c4 c5 c6 f3 f5 f6 l1 l2 l3 v0 v1 v2 v3 v4 v5 v6 vf0 vf1 vf2 vf3 vf4 vf5 vf6
          obtain ⟨c2, c3, c4, c5, c6⟩ := HN5.out.cm
          obtain ⟨f3, f5, f6⟩ := HN5.out.fm
          obtain ⟨l1, l2, l3⟩ := HN5.out.lt
          obtain ⟨v0, v1, v2, v3, v4, v5, v6⟩ := unit_cells HN5.out.u
          obtain ⟨vf0, vf1, vf2, vf3, vf4, vf5, vf6⟩ := unit_frozen HN5.out.u
          go_wp2_with fail
          obtain ⟨w6, hW6⟩ : ∃ X, X = (w5.setCell ⟨w.heap.size + 1, 4, none⟩ (.int .u8 2)) := ⟨_, rfl⟩
          rw [← hW6]
          have hN6 := (HN5.out.setu 4 (.int .u8 2))
          rw [← hW6] at hN6
          simp only [List.set_cons_zero, List.set_cons_succ] at hN6
          have HN6 := Lib.hid hN6
          clear hN6 hW6 HN5 c2 c3 c4 c5 c6 f3 f5 f6 l1 l2 l3 v0 v1 v2 v3 v4 v5 v6 vf0 vf1 vf2 vf3 vf4 vf5 vf6
          obtain ⟨c2, c3, c4, c5, c6⟩ := HN6.out.cm
          obtain ⟨f3, f5, f6⟩ := HN6.out.fm
          obtain ⟨l1, l2, l3⟩ := HN6.out.lt
          obtain ⟨v0, v1, v2, v3, v4, v5, v6⟩ := unit_cells HN6.out.u
          obtain ⟨vf0, vf1, vf2, vf3, vf4, vf5, vf6⟩ := unit_frozen HN6.out.u
          refine (kmsg_any (m.sent) w6 (by omega)).mono ?_
          rintro e w7 ⟨⟨g, c, rfl, hr, hg, hl⟩, hb7⟩
          have HN7 := Lib.hid (HN6.out.later hb7)
          have HR := Lib.hid hr
          have hn : ∀ W, Calls Try.prog 14 #[.int .i64 ((m.sent : Int) + 1)] W fun e w' => e = .returned (.int .u8 ((num (m.sent + 1) : Nat) : Int)) ∧ W = w' := fun W => by
            have := knum_any (m.sent + 1) W (by omega)
            rwa [show ((m.sent + 1 : Nat) : Int) = (m.sent : Int) + 1 by omega] at this
          have HNum := Lib.hid hn
          have hga : w.heap.size + 2 ≤ g := by omega
          clear hb7 hr hg hn HN6 c2 c3 c4 c5 c6 f3 f5 f6 l1 l2 l3 v0 v1 v2 v3 v4 v5 v6 vf0 vf1 vf2 vf3 vf4 vf5 vf6
          obtain ⟨c2, c3, c4, c5, c6⟩ := HN7.out.cm
          obtain ⟨f3, f5, f6⟩ := HN7.out.fm
          obtain ⟨l1, l2, l3⟩ := HN7.out.lt
          obtain ⟨v0, v1, v2, v3, v4, v5, v6⟩ := unit_cells HN7.out.u
          obtain ⟨vf0, vf1, vf2, vf3, vf4, vf5, vf6⟩ := unit_frozen HN7.out.u
          go_wp2_with fail
          have hx0 : Exc (fun k => k = b ∨ k = w.heap.size + 1) w7 (((w7.setCell ⟨w.heap.size + 1, 6, none⟩ (.slice (some ⟨g, 0, none⟩) (mlen m.sent) c)).setCell ⟨b, 3, none⟩ (.int .i64 ((m.sent : Int) + 1)))) := ((Exc.refl (fun k => k = b ∨ k = w.heap.size + 1) w7).setCell ⟨w.heap.size + 1, 6, none⟩ (.inl (.inr rfl)) _).setCell ⟨b, 3, none⟩ (.inl (.inl rfl)) _
          have hr2 := HR.out.exc hx0 (fun z hz hh => by cases hz; have h5 := HN7.out.hb; rcases hh with hh | hh <;> (simp only at hh; omega))
          obtain ⟨w8, hW8⟩ : ∃ X, X = ((w7.setCell ⟨w.heap.size + 1, 6, none⟩ (.slice (some ⟨g, 0, none⟩) (mlen m.sent) c)).setCell ⟨b, 3, none⟩ (.int .i64 ((m.sent : Int) + 1))) := ⟨_, rfl⟩
          rw [← hW8]
          rw [← hW8] at hr2
          have HR2 := Lib.hid hr2
          clear hr2 hx0 HR
          have hN8 := ((HN7.out.setu 6 (.slice (some ⟨g, 0, none⟩) (mlen m.sent) c)).setm 3 (.int .i64 ((m.sent : Int) + 1)))
          rw [← hW8] at hN8
          simp only [List.set_cons_zero, List.set_cons_succ] at hN8
          have HN8 := Lib.hid hN8
          clear hN8 hW8 HN7 c2 c3 c4 c5 c6 f3 f5 f6 l1 l2 l3 v0 v1 v2 v3 v4 v5 v6 vf0 vf1 vf2 vf3 vf4 vf5 vf6
          obtain ⟨c2, c3, c4, c5, c6⟩ := HN8.out.cm
          obtain ⟨f3, f5, f6⟩ := HN8.out.fm
          obtain ⟨l1, l2, l3⟩ := HN8.out.lt
          obtain ⟨v0, v1, v2, v3, v4, v5, v6⟩ := unit_cells HN8.out.u
          obtain ⟨vf0, vf1, vf2, vf3, vf4, vf5, vf6⟩ := unit_frozen HN8.out.u
          refine (HNum.out w8).mono ?_
          rintro e w' ⟨rfl, rfl⟩
          obtain ⟨NM, hNM⟩ : ∃ NM, NM = num (m.sent + 1) := ⟨_, rfl⟩
          rw [← hNM]
          have HNM := Lib.hid hNM
          obtain ⟨y0, y1, y2, y3, y4, y5, y6⟩ := unit_cells HN8.out.z
          obtain ⟨yf0, yf1, yf2, yf3, yf4, yf5, yf6⟩ := unit_frozen HN8.out.z
          clear hNM
          go_wp2
          generalize hWf : ((((((((w8.setCell ⟨w.heap.size + 1, 2, none⟩ (.int .u8 (NM : Int))).setCell ⟨w.heap.size, 0, none⟩ (.int .u8 (m.accepted : Int))).setCell ⟨w.heap.size, 1, none⟩ (.bool true)).setCell ⟨w.heap.size, 2, none⟩ (.int .u8 (NM : Int))).setCell ⟨w.heap.size, 3, none⟩ (.bool true)).setCell ⟨w.heap.size, 4, none⟩ (.int .u8 2)).setCell ⟨w.heap.size, 5, none⟩ (.int .u8 0)).setCell ⟨w.heap.size, 6, none⟩ (.slice (some ⟨g, 0, none⟩) (mlen (m.sent)) c)) = Wf
          obtain ⟨om, oz, ox, oe⟩ := HN8.out.out _ _ _ _ _ _ _ _ hWf
          clear hWf y0 y1 y2 y3 y4 y5 y6
          obtain ⟨y0, y1, y2, y3, y4, y5, y6⟩ := unit_cells oz
          refine bodyPost_ret (v := .agg #[.int .u8 (m.accepted : Int), .bool true, .int .u8 (NM : Int), .bool true, .int .u8 2, .int .u8 0, .slice (some ⟨g, 0, none⟩) (mlen (m.sent)) c]) (by simp [results, Try.results12, go_sem, y0, y1, y2, y3, y4, y5, y6]) rfl ?_
          have hok := Md.next_ok HM.out.ok
          have en := Md.nx_new HLm.out.symm (.inr hps) hsg
          rw [en] at hok ⊢
          have hll : (loadK (m.sent)).length = mlen (m.sent) := loadK_length _
          refine ⟨⟨some ⟨g, 0, none⟩, c, ?_, ?_, fun z hz => by cases hz; show w.heap.size ≤ g; omega⟩, ⟨om, hok, HM.out.small⟩, ox⟩
          · rw [HNM.out, ← hll]; rfl
          · rw [show ((⟨m.accepted, true, num (m.sent + 1), true, 2, 0, loadK (m.sent)⟩ : Un)).load = loadK (m.sent) from rfl, hll]
            exact HR2.out.exc oe (fun z hz hh => by cases hz; rcases hh with hh | hh <;> (simp only at hh; omega))
        · have hsi : ¬ (m.sent : Int) < (m.given : Int) := by omega
          go_quiet (fail)
          generalize hW5 : w4.drewN nq = w5
          have HN5 := Lib.hid (HN4.out.later (show Below w4.heap.size w4 w5 by rw [← hW5]; exact below_draw _ _))
          clear hW5 HN4 c2 c3 c4 c5 c6 f3 f5 f6 l1 l2 l3 v0 v1 v2 v3 v4 v5 v6 vf0 vf1 vf2 vf3 vf4 vf5 vf6
          obtain ⟨c2, c3, c4, c5, c6⟩ := HN5.out.cm
          obtain ⟨f3, f5, f6⟩ := HN5.out.fm
          obtain ⟨l1, l2, l3⟩ := HN5.out.lt
          obtain ⟨v0, v1, v2, v3, v4, v5, v6⟩ := unit_cells HN5.out.u
          obtain ⟨vf0, vf1, vf2, vf3, vf4, vf5, vf6⟩ := unit_frozen HN5.out.u
          go_wp2_with fail
          by_cases ha : m.acked < m.sent
          · have hai : (m.acked : Int) < (m.sent : Int) := by omega
            go_quiet (fail)
            generalize hW6 : w5.drewN nq = w6
            have HN6 := Lib.hid (HN5.out.later (show Below w5.heap.size w5 w6 by rw [← hW6]; exact below_draw _ _))
            clear hW6 HN5 c2 c3 c4 c5 c6 f3 f5 f6 l1 l2 l3 v0 v1 v2 v3 v4 v5 v6 vf0 vf1 vf2 vf3 vf4 vf5 vf6
            obtain ⟨c2, c3, c4, c5, c6⟩ := HN6.out.cm
            obtain ⟨f3, f5, f6⟩ := HN6.out.fm
            obtain ⟨l1, l2, l3⟩ := HN6.out.lt
            obtain ⟨v0, v1, v2, v3, v4, v5, v6⟩ := unit_cells HN6.out.u
            obtain ⟨vf0, vf1, vf2, vf3, vf4, vf5, vf6⟩ := unit_frozen HN6.out.u
            go_wp2_with fail
            have hpb : ((m.plc : Int) == (m.sent : Int)) = true := by simp; omega
            go_quiet (fail)
            generalize hW7 : w6.drewN nq = w7
            have HN7 := Lib.hid (HN6.out.later (show Below w6.heap.size w6 w7 by rw [← hW7]; exact below_draw _ _))
            clear hW7 HN6 c2 c3 c4 c5 c6 f3 f5 f6 l1 l2 l3 v0 v1 v2 v3 v4 v5 v6 vf0 vf1 vf2 vf3 vf4 vf5 vf6
            obtain ⟨c2, c3, c4, c5, c6⟩ := HN7.out.cm
            obtain ⟨f3, f5, f6⟩ := HN7.out.fm
            obtain ⟨l1, l2, l3⟩ := HN7.out.lt
            obtain ⟨v0, v1, v2, v3, v4, v5, v6⟩ := unit_cells HN7.out.u
            obtain ⟨vf0, vf1, vf2, vf3, vf4, vf5, vf6⟩ := unit_frozen HN7.out.u
            go_wp2_with fail
            obtain ⟨w8, hW8⟩ : ∃ X, X = ((w7.setCell ⟨b, 5, none⟩ (.int .i64 (m.acked : Int))).setCell ⟨w.heap.size + 1, 4, none⟩ (.int .u8 2)) := ⟨_, rfl⟩
            rw [← hW8]
            have hN8 := ((HN7.out.setm 5 (.int .i64 (m.acked : Int))).setu 4 (.int .u8 2))
            rw [← hW8] at hN8
            simp only [List.set_cons_zero, List.set_cons_succ] at hN8
            have HN8 := Lib.hid hN8
            clear hN8 hW8 HN7 c2 c3 c4 c5 c6 f3 f5 f6 l1 l2 l3 v0 v1 v2 v3 v4 v5 v6 vf0 vf1 vf2 vf3 vf4 vf5 vf6
            obtain ⟨c2, c3, c4, c5, c6⟩ := HN8.out.cm
            obtain ⟨f3, f5, f6⟩ := HN8.out.fm
            obtain ⟨l1, l2, l3⟩ := HN8.out.lt
            obtain ⟨v0, v1, v2, v3, v4, v5, v6⟩ := unit_cells HN8.out.u
            obtain ⟨vf0, vf1, vf2, vf3, vf4, vf5, vf6⟩ := unit_frozen HN8.out.u
            refine (kmsg_any (m.acked) w8 (by omega)).mono ?_
            rintro e w9 ⟨⟨g, c, rfl, hr, hg, hl⟩, hb9⟩
            have HN9 := Lib.hid (HN8.out.later hb9)
            have HR := Lib.hid hr
            have hn : ∀ W, Calls Try.prog 14 #[.int .i64 ((m.acked : Int) + 1)] W fun e w' => e = .returned (.int .u8 ((num (m.acked + 1) : Nat) : Int)) ∧ W = w' := fun W => by
              have := knum_any (m.acked + 1) W (by omega)
              rwa [show ((m.acked + 1 : Nat) : Int) = (m.acked : Int) + 1 by omega] at this
            have HNum := Lib.hid hn
            have hga : w.heap.size + 2 ≤ g := by omega
            clear hb9 hr hg hn HN8 c2 c3 c4 c5 c6 f3 f5 f6 l1 l2 l3 v0 v1 v2 v3 v4 v5 v6 vf0 vf1 vf2 vf3 vf4 vf5 vf6
            obtain ⟨c2, c3, c4, c5, c6⟩ := HN9.out.cm
            obtain ⟨f3, f5, f6⟩ := HN9.out.fm
            obtain ⟨l1, l2, l3⟩ := HN9.out.lt
            obtain ⟨v0, v1, v2, v3, v4, v5, v6⟩ := unit_cells HN9.out.u
            obtain ⟨vf0, vf1, vf2, vf3, vf4, vf5, vf6⟩ := unit_frozen HN9.out.u
            go_wp2_with fail
            have hx0 : Exc (fun k => k = b ∨ k = w.heap.size + 1) w9 (((w9.setCell ⟨w.heap.size + 1, 6, none⟩ (.slice (some ⟨g, 0, none⟩) (mlen m.acked) c)).setCell ⟨b, 5, none⟩ (.int .i64 ((m.acked : Int) + 1)))) := ((Exc.refl (fun k => k = b ∨ k = w.heap.size + 1) w9).setCell ⟨w.heap.size + 1, 6, none⟩ (.inl (.inr rfl)) _).setCell ⟨b, 5, none⟩ (.inl (.inl rfl)) _
            have hr2 := HR.out.exc hx0 (fun z hz hh => by cases hz; have h5 := HN9.out.hb; rcases hh with hh | hh <;> (simp only at hh; omega))
            obtain ⟨w10, hW10⟩ : ∃ X, X = ((w9.setCell ⟨w.heap.size + 1, 6, none⟩ (.slice (some ⟨g, 0, none⟩) (mlen m.acked) c)).setCell ⟨b, 5, none⟩ (.int .i64 ((m.acked : Int) + 1))) := ⟨_, rfl⟩
            rw [← hW10]
            rw [← hW10] at hr2
            have HR2 := Lib.hid hr2
            clear hr2 hx0 HR
            have hN10 := ((HN9.out.setu 6 (.slice (some ⟨g, 0, none⟩) (mlen m.acked) c)).setm 5 (.int .i64 ((m.acked : Int) + 1)))
            rw [← hW10] at hN10
            simp only [List.set_cons_zero, List.set_cons_succ] at hN10
            have HN10 := Lib.hid hN10
            clear hN10 hW10 HN9 c2 c3 c4 c5 c6 f3 f5 f6 l1 l2 l3 v0 v1 v2 v3 v4 v5 v6 vf0 vf1 vf2 vf3 vf4 vf5 vf6
            obtain ⟨c2, c3, c4, c5, c6⟩ := HN10.out.cm
            obtain ⟨f3, f5, f6⟩ := HN10.out.fm
            obtain ⟨l1, l2, l3⟩ := HN10.out.lt
            obtain ⟨v0, v1, v2, v3, v4, v5, v6⟩ := unit_cells HN10.out.u
            obtain ⟨vf0, vf1, vf2, vf3, vf4, vf5, vf6⟩ := unit_frozen HN10.out.u
            refine (HNum.out w10).mono ?_
            rintro e w' ⟨rfl, rfl⟩
            obtain ⟨NM, hNM⟩ : ∃ NM, NM = num (m.acked + 1) := ⟨_, rfl⟩
            rw [← hNM]
            have HNM := Lib.hid hNM
            obtain ⟨y0, y1, y2, y3, y4, y5, y6⟩ := unit_cells HN10.out.z
            obtain ⟨yf0, yf1, yf2, yf3, yf4, yf5, yf6⟩ := unit_frozen HN10.out.z
            clear hNM
            go_wp2
            generalize hWf : ((((((((w10.setCell ⟨w.heap.size + 1, 2, none⟩ (.int .u8 (NM : Int))).setCell ⟨w.heap.size, 0, none⟩ (.int .u8 (m.accepted : Int))).setCell ⟨w.heap.size, 1, none⟩ (.bool true)).setCell ⟨w.heap.size, 2, none⟩ (.int .u8 (NM : Int))).setCell ⟨w.heap.size, 3, none⟩ (.bool true)).setCell ⟨w.heap.size, 4, none⟩ (.int .u8 2)).setCell ⟨w.heap.size, 5, none⟩ (.int .u8 0)).setCell ⟨w.heap.size, 6, none⟩ (.slice (some ⟨g, 0, none⟩) (mlen (m.acked)) c)) = Wf
            obtain ⟨om, oz, ox, oe⟩ := HN10.out.out _ _ _ _ _ _ _ _ hWf
            clear hWf y0 y1 y2 y3 y4 y5 y6
            obtain ⟨y0, y1, y2, y3, y4, y5, y6⟩ := unit_cells oz
            refine bodyPost_ret (v := .agg #[.int .u8 (m.accepted : Int), .bool true, .int .u8 (NM : Int), .bool true, .int .u8 2, .int .u8 0, .slice (some ⟨g, 0, none⟩) (mlen (m.acked)) c]) (by simp [results, Try.results12, go_sem, y0, y1, y2, y3, y4, y5, y6]) rfl ?_
            have hok := Md.next_ok HM.out.ok
            have en := Md.nx_rep0 (.inr ⟨HLm.out.symm, hsg, hps⟩) ha
            rw [← HLm.out] at en
            rw [en] at hok ⊢
            have hll : (loadK (m.acked)).length = mlen (m.acked) := loadK_length _
            refine ⟨⟨some ⟨g, 0, none⟩, c, ?_, ?_, fun z hz => by cases hz; show w.heap.size ≤ g; omega⟩, ⟨om, hok, HM.out.small⟩, ox⟩
            · rw [HNM.out, ← hll]; rfl
            · rw [show ((⟨m.accepted, true, num (m.acked + 1), true, 2, 0, loadK (m.acked)⟩ : Un)).load = loadK (m.acked) from rfl, hll]
              exact HR2.out.exc oe (fun z hz hh => by cases hz; rcases hh with hh | hh <;> (simp only at hh; omega))
          · have hai : ¬ (m.acked : Int) < (m.sent : Int) := by omega
            go_quiet (fail)
            generalize hW6 : w5.drewN nq = w6
            have HN6 := Lib.hid (HN5.out.later (show Below w5.heap.size w5 w6 by rw [← hW6]; exact below_draw _ _))
            clear hW6 HN5 c2 c3 c4 c5 c6 f3 f5 f6 l1 l2 l3 v0 v1 v2 v3 v4 v5 v6 vf0 vf1 vf2 vf3 vf4 vf5 vf6
            obtain ⟨c2, c3, c4, c5, c6⟩ := HN6.out.cm
            obtain ⟨f3, f5, f6⟩ := HN6.out.fm
            obtain ⟨l1, l2, l3⟩ := HN6.out.lt
            obtain ⟨v0, v1, v2, v3, v4, v5, v6⟩ := unit_cells HN6.out.u
            obtain ⟨vf0, vf1, vf2, vf3, vf4, vf5, vf6⟩ := unit_frozen HN6.out.u
            go_wp2_with fail
            refine (knum_any m.sent w6 (by omega)).mono ?_
            rintro e w' ⟨rfl, rfl⟩
            obtain ⟨NM, hNM⟩ : ∃ NM, NM = num m.sent := ⟨_, rfl⟩
            rw [← hNM]
            have HNM := Lib.hid hNM
            obtain ⟨y0, y1, y2, y3, y4, y5, y6⟩ := unit_cells HN6.out.z
            obtain ⟨yf0, yf1, yf2, yf3, yf4, yf5, yf6⟩ := unit_frozen HN6.out.z
            clear hNM
            go_wp2
            generalize hWf : ((((((((w6.setCell ⟨w.heap.size + 1, 2, none⟩ (.int .u8 (NM : Int))).setCell ⟨w.heap.size, 0, none⟩ (.int .u8 (m.accepted : Int))).setCell ⟨w.heap.size, 1, none⟩ (.bool true)).setCell ⟨w.heap.size, 2, none⟩ (.int .u8 (NM : Int))).setCell ⟨w.heap.size, 3, none⟩ (.bool true)).setCell ⟨w.heap.size, 4, none⟩ (.int .u8 0)).setCell ⟨w.heap.size, 5, none⟩ (.int .u8 0)).setCell ⟨w.heap.size, 6, none⟩ (.slice none 0 0)) = Wf
            obtain ⟨om, oz, ox, oe⟩ := HN6.out.out _ _ _ _ _ _ _ _ hWf
            clear hWf y0 y1 y2 y3 y4 y5 y6
            obtain ⟨y0, y1, y2, y3, y4, y5, y6⟩ := unit_cells oz
            refine bodyPost_ret (v := .agg #[.int .u8 (m.accepted : Int), .bool true, .int .u8 (NM : Int), .bool true, .int .u8 0, .int .u8 0, .slice none 0 0]) (by simp [results, Try.results12, go_sem, y0, y1, y2, y3, y4, y5, y6]) rfl ?_
            have hok := Md.next_ok HM.out.ok
            have en := Md.nx_fill HLm.out.symm (.inr hps) hsg ha
            rw [en] at hok ⊢
            refine ⟨⟨none, 0, ?_, Row.of_nil _ _, fun z hz => by cases hz⟩, ⟨om, hok, HM.out.small⟩, ox⟩
            rw [HNM.out]; rfl
      · have ha : m.acked < m.sent := by omega
        have hai : (m.acked : Int) < (m.sent : Int) := by omega
        have hpb : ((m.plc : Int) == (m.sent : Int)) = false := by simp; omega
        go_wp2_with fail
        go_quiet (fail)
        generalize hW3 : w2.drewN nq = w3
        have HN3 := Lib.hid (HN2.out.later (show Below w2.heap.size w2 w3 by rw [← hW3]; exact below_draw _ _))
        clear hW3 HN2 c2 c3 c4 c5 c6 f3 f5 f6 l1 l2 l3 v0 v1 v2 v3 v4 v5 v6 vf0 vf1 vf2 vf3 vf4 vf5 vf6
        obtain ⟨c2, c3, c4, c5, c6⟩ := HN3.out.cm
        obtain ⟨f3, f5, f6⟩ := HN3.out.fm
        obtain ⟨l1, l2, l3⟩ := HN3.out.lt
        obtain ⟨v0, v1, v2, v3, v4, v5, v6⟩ := unit_cells HN3.out.u
        obtain ⟨vf0, vf1, vf2, vf3, vf4, vf5, vf6⟩ := unit_frozen HN3.out.u
        go_wp2_with fail
        go_quiet (fail)
        generalize hW4 : w3.drewN nq = w4
        have HN4 := Lib.hid (HN3.out.later (show Below w3.heap.size w3 w4 by rw [← hW4]; exact below_draw _ _))
        clear hW4 HN3 c2 c3 c4 c5 c6 f3 f5 f6 l1 l2 l3 v0 v1 v2 v3 v4 v5 v6 vf0 vf1 vf2 vf3 vf4 vf5 vf6
        obtain ⟨c2, c3, c4, c5, c6⟩ := HN4.out.cm
        obtain ⟨f3, f5, f6⟩ := HN4.out.fm
        obtain ⟨l1, l2, l3⟩ := HN4.out.lt
        obtain ⟨v0, v1, v2, v3, v4, v5, v6⟩ := unit_cells HN4.out.u
        obtain ⟨vf0, vf1, vf2, vf3, vf4, vf5, vf6⟩ := unit_frozen HN4.out.u
        go_wp2_with fail
        go_quiet (fail)
        generalize hW5 : w4.drewN nq = w5
        have HN5 := Lib.hid (HN4.out.later (show Below w4.heap.size w4 w5 by rw [← hW5]; exact below_draw _ _))
        clear hW5 HN4 c2 c3 c4 c5 c6 f3 f5 f6 l1 l2 l3 v0 v1 v2 v3 v4 v5 v6 vf0 vf1 vf2 vf3 vf4 vf5 vf6
        obtain ⟨c2, c3, c4, c5, c6⟩ := HN5.out.cm
        obtain ⟨f3, f5, f6⟩ := HN5.out.fm
        obtain ⟨l1, l2, l3⟩ := HN5.out.lt
        obtain ⟨v0, v1, v2, v3, v4, v5, v6⟩ := unit_cells HN5.out.u
        obtain ⟨vf0, vf1, vf2, vf3, vf4, vf5, vf6⟩ := unit_frozen HN5.out.u
        go_wp2_with fail
        go_quiet (fail)
        generalize hW6 : w5.drewN nq = w6
        have HN6 := Lib.hid (HN5.out.later (show Below w5.heap.size w5 w6 by rw [← hW6]; exact below_draw _ _))
        clear hW6 HN5 c2 c3 c4 c5 c6 f3 f5 f6 l1 l2 l3 v0 v1 v2 v3 v4 v5 v6 vf0 vf1 vf2 vf3 vf4 vf5 vf6
        obtain ⟨c2, c3, c4, c5, c6⟩ := HN6.out.cm
        obtain ⟨f3, f5, f6⟩ := HN6.out.fm
        obtain ⟨l1, l2, l3⟩ := HN6.out.lt
        obtain ⟨v0, v1, v2, v3, v4, v5, v6⟩ := unit_cells HN6.out.u
        obtain ⟨vf0, vf1, vf2, vf3, vf4, vf5, vf6⟩ := unit_frozen HN6.out.u
        go_wp2_with fail
        obtain ⟨w7, hW7⟩ : ∃ X, X = (w6.setCell ⟨w.heap.size + 1, 4, none⟩ (.int .u8 2)) := ⟨_, rfl⟩
        rw [← hW7]
        have hN7 := (HN6.out.setu 4 (.int .u8 2))
        rw [← hW7] at hN7
        simp only [List.set_cons_zero, List.set_cons_succ] at hN7
        have HN7 := Lib.hid hN7
        clear hN7 hW7 HN6 c2 c3 c4 c5 c6 f3 f5 f6 l1 l2 l3 v0 v1 v2 v3 v4 v5 v6 vf0 vf1 vf2 vf3 vf4 vf5 vf6
        obtain ⟨c2, c3, c4, c5, c6⟩ := HN7.out.cm
        obtain ⟨f3, f5, f6⟩ := HN7.out.fm
        obtain ⟨l1, l2, l3⟩ := HN7.out.lt
        obtain ⟨v0, v1, v2, v3, v4, v5, v6⟩ := unit_cells HN7.out.u
        obtain ⟨vf0, vf1, vf2, vf3, vf4, vf5, vf6⟩ := unit_frozen HN7.out.u
        refine (kmsg_any (m.plc) w7 (by omega)).mono ?_
        rintro e w8 ⟨⟨g, c, rfl, hr, hg, hl⟩, hb8⟩
        have HN8 := Lib.hid (HN7.out.later hb8)
        have HR := Lib.hid hr
        have hn : ∀ W, Calls Try.prog 14 #[.int .i64 ((m.plc : Int) + 1)] W fun e w' => e = .returned (.int .u8 ((num (m.plc + 1) : Nat) : Int)) ∧ W = w' := fun W => by
          have := knum_any (m.plc + 1) W (by omega)
          rwa [show ((m.plc + 1 : Nat) : Int) = (m.plc : Int) + 1 by omega] at this
        have HNum := Lib.hid hn
        have hga : w.heap.size + 2 ≤ g := by omega
        clear hb8 hr hg hn HN7 c2 c3 c4 c5 c6 f3 f5 f6 l1 l2 l3 v0 v1 v2 v3 v4 v5 v6 vf0 vf1 vf2 vf3 vf4 vf5 vf6
        obtain ⟨c2, c3, c4, c5, c6⟩ := HN8.out.cm
        obtain ⟨f3, f5, f6⟩ := HN8.out.fm
        obtain ⟨l1, l2, l3⟩ := HN8.out.lt
        obtain ⟨v0, v1, v2, v3, v4, v5, v6⟩ := unit_cells HN8.out.u
        obtain ⟨vf0, vf1, vf2, vf3, vf4, vf5, vf6⟩ := unit_frozen HN8.out.u
        go_wp2_with fail
        have hx0 : Exc (fun k => k = b ∨ k = w.heap.size + 1) w8 (((w8.setCell ⟨w.heap.size + 1, 6, none⟩ (.slice (some ⟨g, 0, none⟩) (mlen m.plc) c)).setCell ⟨b, 5, none⟩ (.int .i64 ((m.plc : Int) + 1)))) := ((Exc.refl (fun k => k = b ∨ k = w.heap.size + 1) w8).setCell ⟨w.heap.size + 1, 6, none⟩ (.inl (.inr rfl)) _).setCell ⟨b, 5, none⟩ (.inl (.inl rfl)) _
        have hr2 := HR.out.exc hx0 (fun z hz hh => by cases hz; have h5 := HN8.out.hb; rcases hh with hh | hh <;> (simp only at hh; omega))
        obtain ⟨w9, hW9⟩ : ∃ X, X = ((w8.setCell ⟨w.heap.size + 1, 6, none⟩ (.slice (some ⟨g, 0, none⟩) (mlen m.plc) c)).setCell ⟨b, 5, none⟩ (.int .i64 ((m.plc : Int) + 1))) := ⟨_, rfl⟩
        rw [← hW9]
        rw [← hW9] at hr2
        have HR2 := Lib.hid hr2
        clear hr2 hx0 HR
        have hN9 := ((HN8.out.setu 6 (.slice (some ⟨g, 0, none⟩) (mlen m.plc) c)).setm 5 (.int .i64 ((m.plc : Int) + 1)))
        rw [← hW9] at hN9
        simp only [List.set_cons_zero, List.set_cons_succ] at hN9
        have HN9 := Lib.hid hN9
        clear hN9 hW9 HN8 c2 c3 c4 c5 c6 f3 f5 f6 l1 l2 l3 v0 v1 v2 v3 v4 v5 v6 vf0 vf1 vf2 vf3 vf4 vf5 vf6
        obtain ⟨c2, c3, c4, c5, c6⟩ := HN9.out.cm
        obtain ⟨f3, f5, f6⟩ := HN9.out.fm
        obtain ⟨l1, l2, l3⟩ := HN9.out.lt
        obtain ⟨v0, v1, v2, v3, v4, v5, v6⟩ := unit_cells HN9.out.u
        obtain ⟨vf0, vf1, vf2, vf3, vf4, vf5, vf6⟩ := unit_frozen HN9.out.u
        refine (HNum.out w9).mono ?_
        rintro e w' ⟨rfl, rfl⟩
        obtain ⟨NM, hNM⟩ : ∃ NM, NM = num (m.plc + 1) := ⟨_, rfl⟩
        rw [← hNM]
        have HNM := Lib.hid hNM
        obtain ⟨y0, y1, y2, y3, y4, y5, y6⟩ := unit_cells HN9.out.z
        obtain ⟨yf0, yf1, yf2, yf3, yf4, yf5, yf6⟩ := unit_frozen HN9.out.z
        clear hNM
        go_wp2
        generalize hWf : ((((((((w9.setCell ⟨w.heap.size + 1, 2, none⟩ (.int .u8 (NM : Int))).setCell ⟨w.heap.size, 0, none⟩ (.int .u8 (m.accepted : Int))).setCell ⟨w.heap.size, 1, none⟩ (.bool true)).setCell ⟨w.heap.size, 2, none⟩ (.int .u8 (NM : Int))).setCell ⟨w.heap.size, 3, none⟩ (.bool true)).setCell ⟨w.heap.size, 4, none⟩ (.int .u8 2)).setCell ⟨w.heap.size, 5, none⟩ (.int .u8 0)).setCell ⟨w.heap.size, 6, none⟩ (.slice (some ⟨g, 0, none⟩) (mlen (m.plc)) c)) = Wf
        obtain ⟨om, oz, ox, oe⟩ := HN9.out.out _ _ _ _ _ _ _ _ hWf
        clear hWf y0 y1 y2 y3 y4 y5 y6
        obtain ⟨y0, y1, y2, y3, y4, y5, y6⟩ := unit_cells oz
        refine bodyPost_ret (v := .agg #[.int .u8 (m.accepted : Int), .bool true, .int .u8 (NM : Int), .bool true, .int .u8 2, .int .u8 0, .slice (some ⟨g, 0, none⟩) (mlen (m.plc)) c]) (by simp [results, Try.results12, go_sem, y0, y1, y2, y3, y4, y5, y6]) rfl ?_
        have hok := Md.next_ok HM.out.ok
        have en := Md.nx_repP hps (.inl hf) ha
        rw [hf] at en
        rw [en] at hok ⊢
        have hll : (loadK (m.plc)).length = mlen (m.plc) := loadK_length _
        refine ⟨⟨some ⟨g, 0, none⟩, c, ?_, ?_, fun z hz => by cases hz; show w.heap.size ≤ g; omega⟩, ⟨om, hok, HM.out.small⟩, ox⟩
        · rw [HNM.out, ← hll]; rfl
        · rw [show ((⟨m.accepted, true, num (m.plc + 1), true, 2, 0, loadK (m.plc)⟩ : Un)).load = loadK (m.plc) from rfl, hll]
          exact HR2.out.exc oe (fun z hz hh => by cases hz; rcases hh with hh | hh <;> (simp only at hh; omega))
    · have ha : m.acked < m.sent := by
        by_cases hh : m.acked < m.sent
        · exact hh
        · have h5 := Md.lim_none HM.out.ok (by omega)
          rw [← HLm.out] at h5
          cases h5
      have hai : (m.acked : Int) < (m.sent : Int) := by omega
      have hab : ((m.acked : Int) == (m.sent : Int)) = false := by simp; omega
      by_cases hps : m.plc = m.sent
      · have hpb : ((m.plc : Int) == (m.sent : Int)) = true := by simp; omega
        go_wp2_with fail
        go_quiet (fail)
        generalize hW3 : w2.drewN nq = w3
        have HN3 := Lib.hid (HN2.out.later (show Below w2.heap.size w2 w3 by rw [← hW3]; exact below_draw _ _))
        clear hW3 HN2 c2 c3 c4 c5 c6 f3 f5 f6 l1 l2 l3 v0 v1 v2 v3 v4 v5 v6 vf0 vf1 vf2 vf3 vf4 vf5 vf6
        obtain ⟨c2, c3, c4, c5, c6⟩ := HN3.out.cm
        obtain ⟨f3, f5, f6⟩ := HN3.out.fm
        obtain ⟨l1, l2, l3⟩ := HN3.out.lt
        obtain ⟨v0, v1, v2, v3, v4, v5, v6⟩ := unit_cells HN3.out.u
        obtain ⟨vf0, vf1, vf2, vf3, vf4, vf5, vf6⟩ := unit_frozen HN3.out.u
        go_wp2_with fail
        obtain ⟨w4, hW4⟩ : ∃ X, X = ((w3.setCell ⟨b, 5, none⟩ (.int .i64 (m.acked : Int))).setCell ⟨b, 6, none⟩ (.bool true)) := ⟨_, rfl⟩
        rw [← hW4]
        have hN4 := ((HN3.out.setm 5 (.int .i64 (m.acked : Int))).setm 6 (.bool true))
        rw [← hW4] at hN4
        simp only [List.set_cons_zero, List.set_cons_succ] at hN4
        have HN4 := Lib.hid hN4
        clear hN4 hW4 HN3 c2 c3 c4 c5 c6 f3 f5 f6 l1 l2 l3 v0 v1 v2 v3 v4 v5 v6 vf0 vf1 vf2 vf3 vf4 vf5 vf6
        obtain ⟨c2, c3, c4, c5, c6⟩ := HN4.out.cm
        obtain ⟨f3, f5, f6⟩ := HN4.out.fm
        obtain ⟨l1, l2, l3⟩ := HN4.out.lt
        obtain ⟨v0, v1, v2, v3, v4, v5, v6⟩ := unit_cells HN4.out.u
        obtain ⟨vf0, vf1, vf2, vf3, vf4, vf5, vf6⟩ := unit_frozen HN4.out.u
        go_quiet (fail)
        generalize hW5 : w4.drewN nq = w5
        have HN5 := Lib.hid (HN4.out.later (show Below w4.heap.size w4 w5 by rw [← hW5]; exact below_draw _ _))
        clear hW5 HN4 c2 c3 c4 c5 c6 f3 f5 f6 l1 l2 l3 v0 v1 v2 v3 v4 v5 v6 vf0 vf1 vf2 vf3 vf4 vf5 vf6
        obtain ⟨c2, c3, c4, c5, c6⟩ := HN5.out.cm
        obtain ⟨f3, f5, f6⟩ := HN5.out.fm
        obtain ⟨l1, l2, l3⟩ := HN5.out.lt
        obtain ⟨v0, v1, v2, v3, v4, v5, v6⟩ := unit_cells HN5.out.u
        obtain ⟨vf0, vf1, vf2, vf3, vf4, vf5, vf6⟩ := unit_frozen HN5.out.u
        go_wp2_with fail
        go_quiet (fail)
        generalize hW6 : w5.drewN nq = w6
        have HN6 := Lib.hid (HN5.out.later (show Below w5.heap.size w5 w6 by rw [← hW6]; exact below_draw _ _))
        clear hW6 HN5 c2 c3 c4 c5 c6 f3 f5 f6 l1 l2 l3 v0 v1 v2 v3 v4 v5 v6 vf0 vf1 vf2 vf3 vf4 vf5 vf6
        obtain ⟨c2, c3, c4, c5, c6⟩ := HN6.out.cm
        obtain ⟨f3, f5, f6⟩ := HN6.out.fm
        obtain ⟨l1, l2, l3⟩ := HN6.out.lt
        obtain ⟨v0, v1, v2, v3, v4, v5, v6⟩ := unit_cells HN6.out.u
        obtain ⟨vf0, vf1, vf2, vf3, vf4, vf5, vf6⟩ := unit_frozen HN6.out.u
        go_wp2_with fail
        go_quiet (fail)
        generalize hW7 : w6.drewN nq = w7
        have HN7 := Lib.hid (HN6.out.later (show Below w6.heap.size w6 w7 by rw [← hW7]; exact below_draw _ _))
        clear hW7 HN6 c2 c3 c4 c5 c6 f3 f5 f6 l1 l2 l3 v0 v1 v2 v3 v4 v5 v6 vf0 vf1 vf2 vf3 vf4 vf5 vf6
        obtain ⟨c2, c3, c4, c5, c6⟩ := HN7.out.cm
        obtain ⟨f3, f5, f6⟩ := HN7.out.fm
        obtain ⟨l1, l2, l3⟩ := HN7.out.lt
        obtain ⟨v0, v1, v2, v3, v4, v5, v6⟩ := unit_cells HN7.out.u
        obtain ⟨vf0, vf1, vf2, vf3, vf4, vf5, vf6⟩ := unit_frozen HN7.out.u
        go_wp2_with fail
        obtain ⟨w8, hW8⟩ : ∃ X, X = (w7.setCell ⟨w.heap.size + 1, 4, none⟩ (.int .u8 2)) := ⟨_, rfl⟩
        rw [← hW8]
        have hN8 := (HN7.out.setu 4 (.int .u8 2))
        rw [← hW8] at hN8
        simp only [List.set_cons_zero, List.set_cons_succ] at hN8
        have HN8 := Lib.hid hN8
        clear hN8 hW8 HN7 c2 c3 c4 c5 c6 f3 f5 f6 l1 l2 l3 v0 v1 v2 v3 v4 v5 v6 vf0 vf1 vf2 vf3 vf4 vf5 vf6
        obtain ⟨c2, c3, c4, c5, c6⟩ := HN8.out.cm
        obtain ⟨f3, f5, f6⟩ := HN8.out.fm
        obtain ⟨l1, l2, l3⟩ := HN8.out.lt
        obtain ⟨v0, v1, v2, v3, v4, v5, v6⟩ := unit_cells HN8.out.u
        obtain ⟨vf0, vf1, vf2, vf3, vf4, vf5, vf6⟩ := unit_frozen HN8.out.u
        refine (kmsg_any (m.acked) w8 (by omega)).mono ?_
        rintro e w9 ⟨⟨g, c, rfl, hr, hg, hl⟩, hb9⟩
        have HN9 := Lib.hid (HN8.out.later hb9)
        have HR := Lib.hid hr
        have hn : ∀ W, Calls Try.prog 14 #[.int .i64 ((m.acked : Int) + 1)] W fun e w' => e = .returned (.int .u8 ((num (m.acked + 1) : Nat) : Int)) ∧ W = w' := fun W => by
          have := knum_any (m.acked + 1) W (by omega)
          rwa [show ((m.acked + 1 : Nat) : Int) = (m.acked : Int) + 1 by omega] at this
        have HNum := Lib.hid hn
        have hga : w.heap.size + 2 ≤ g := by omega
        clear hb9 hr hg hn HN8 c2 c3 c4 c5 c6 f3 f5 f6 l1 l2 l3 v0 v1 v2 v3 v4 v5 v6 vf0 vf1 vf2 vf3 vf4 vf5 vf6
        obtain ⟨c2, c3, c4, c5, c6⟩ := HN9.out.cm
        obtain ⟨f3, f5, f6⟩ := HN9.out.fm
        obtain ⟨l1, l2, l3⟩ := HN9.out.lt
        obtain ⟨v0, v1, v2, v3, v4, v5, v6⟩ := unit_cells HN9.out.u
        obtain ⟨vf0, vf1, vf2, vf3, vf4, vf5, vf6⟩ := unit_frozen HN9.out.u
        go_wp2_with fail
        have hx0 : Exc (fun k => k = b ∨ k = w.heap.size + 1) w9 (((w9.setCell ⟨w.heap.size + 1, 6, none⟩ (.slice (some ⟨g, 0, none⟩) (mlen m.acked) c)).setCell ⟨b, 5, none⟩ (.int .i64 ((m.acked : Int) + 1)))) := ((Exc.refl (fun k => k = b ∨ k = w.heap.size + 1) w9).setCell ⟨w.heap.size + 1, 6, none⟩ (.inl (.inr rfl)) _).setCell ⟨b, 5, none⟩ (.inl (.inl rfl)) _
        have hr2 := HR.out.exc hx0 (fun z hz hh => by cases hz; have h5 := HN9.out.hb; rcases hh with hh | hh <;> (simp only at hh; omega))
        obtain ⟨w10, hW10⟩ : ∃ X, X = ((w9.setCell ⟨w.heap.size + 1, 6, none⟩ (.slice (some ⟨g, 0, none⟩) (mlen m.acked) c)).setCell ⟨b, 5, none⟩ (.int .i64 ((m.acked : Int) + 1))) := ⟨_, rfl⟩
        rw [← hW10]
        rw [← hW10] at hr2
        have HR2 := Lib.hid hr2
        clear hr2 hx0 HR
        have hN10 := ((HN9.out.setu 6 (.slice (some ⟨g, 0, none⟩) (mlen m.acked) c)).setm 5 (.int .i64 ((m.acked : Int) + 1)))
        rw [← hW10] at hN10
        simp only [List.set_cons_zero, List.set_cons_succ] at hN10
        have HN10 := Lib.hid hN10
        clear hN10 hW10 HN9 c2 c3 c4 c5 c6 f3 f5 f6 l1 l2 l3 v0 v1 v2 v3 v4 v5 v6 vf0 vf1 vf2 vf3 vf4 vf5 vf6
        obtain ⟨c2, c3, c4, c5, c6⟩ := HN10.out.cm
        obtain ⟨f3, f5, f6⟩ := HN10.out.fm
        obtain ⟨l1, l2, l3⟩ := HN10.out.lt
        obtain ⟨v0, v1, v2, v3, v4, v5, v6⟩ := unit_cells HN10.out.u
        obtain ⟨vf0, vf1, vf2, vf3, vf4, vf5, vf6⟩ := unit_frozen HN10.out.u
        refine (HNum.out w10).mono ?_
        rintro e w' ⟨rfl, rfl⟩
        obtain ⟨NM, hNM⟩ : ∃ NM, NM = num (m.acked + 1) := ⟨_, rfl⟩
        rw [← hNM]
        have HNM := Lib.hid hNM
        obtain ⟨y0, y1, y2, y3, y4, y5, y6⟩ := unit_cells HN10.out.z
        obtain ⟨yf0, yf1, yf2, yf3, yf4, yf5, yf6⟩ := unit_frozen HN10.out.z
        clear hNM
        go_wp2
        generalize hWf : ((((((((w10.setCell ⟨w.heap.size + 1, 2, none⟩ (.int .u8 (NM : Int))).setCell ⟨w.heap.size, 0, none⟩ (.int .u8 (m.accepted : Int))).setCell ⟨w.heap.size, 1, none⟩ (.bool true)).setCell ⟨w.heap.size, 2, none⟩ (.int .u8 (NM : Int))).setCell ⟨w.heap.size, 3, none⟩ (.bool true)).setCell ⟨w.heap.size, 4, none⟩ (.int .u8 2)).setCell ⟨w.heap.size, 5, none⟩ (.int .u8 0)).setCell ⟨w.heap.size, 6, none⟩ (.slice (some ⟨g, 0, none⟩) (mlen (m.acked)) c)) = Wf
        obtain ⟨om, oz, ox, oe⟩ := HN10.out.out _ _ _ _ _ _ _ _ hWf
        clear hWf y0 y1 y2 y3 y4 y5 y6
        obtain ⟨y0, y1, y2, y3, y4, y5, y6⟩ := unit_cells oz
        refine bodyPost_ret (v := .agg #[.int .u8 (m.accepted : Int), .bool true, .int .u8 (NM : Int), .bool true, .int .u8 2, .int .u8 0, .slice (some ⟨g, 0, none⟩) (mlen (m.acked)) c]) (by simp [results, Try.results12, go_sem, y0, y1, y2, y3, y4, y5, y6]) rfl ?_
        have hok := Md.next_ok HM.out.ok
        have en := Md.nx_rep0 (.inl ⟨HLm.out.symm, .inr hps⟩) ha
        rw [← HLm.out] at en
        rw [en] at hok ⊢
        have hll : (loadK (m.acked)).length = mlen (m.acked) := loadK_length _
        refine ⟨⟨some ⟨g, 0, none⟩, c, ?_, ?_, fun z hz => by cases hz; show w.heap.size ≤ g; omega⟩, ⟨om, hok, HM.out.small⟩, ox⟩
        · rw [HNM.out, ← hll]; rfl
        · rw [show ((⟨m.accepted, true, num (m.acked + 1), true, 2, 0, loadK (m.acked)⟩ : Un)).load = loadK (m.acked) from rfl, hll]
          exact HR2.out.exc oe (fun z hz hh => by cases hz; rcases hh with hh | hh <;> (simp only at hh; omega))
      · have hpb : ((m.plc : Int) == (m.sent : Int)) = false := by simp; omega
        go_wp2_with fail
        go_quiet (fail)
        generalize hW3 : w2.drewN nq = w3
        have HN3 := Lib.hid (HN2.out.later (show Below w2.heap.size w2 w3 by rw [← hW3]; exact below_draw _ _))
        clear hW3 HN2 c2 c3 c4 c5 c6 f3 f5 f6 l1 l2 l3 v0 v1 v2 v3 v4 v5 v6 vf0 vf1 vf2 vf3 vf4 vf5 vf6
        obtain ⟨c2, c3, c4, c5, c6⟩ := HN3.out.cm
        obtain ⟨f3, f5, f6⟩ := HN3.out.fm
        obtain ⟨l1, l2, l3⟩ := HN3.out.lt
        obtain ⟨v0, v1, v2, v3, v4, v5, v6⟩ := unit_cells HN3.out.u
        obtain ⟨vf0, vf1, vf2, vf3, vf4, vf5, vf6⟩ := unit_frozen HN3.out.u
        go_wp2_with fail
        go_quiet (fail)
        generalize hW4 : w3.drewN nq = w4
        have HN4 := Lib.hid (HN3.out.later (show Below w3.heap.size w3 w4 by rw [← hW4]; exact below_draw _ _))
        clear hW4 HN3 c2 c3 c4 c5 c6 f3 f5 f6 l1 l2 l3 v0 v1 v2 v3 v4 v5 v6 vf0 vf1 vf2 vf3 vf4 vf5 vf6
        obtain ⟨c2, c3, c4, c5, c6⟩ := HN4.out.cm
        obtain ⟨f3, f5, f6⟩ := HN4.out.fm
        obtain ⟨l1, l2, l3⟩ := HN4.out.lt
        obtain ⟨v0, v1, v2, v3, v4, v5, v6⟩ := unit_cells HN4.out.u
        obtain ⟨vf0, vf1, vf2, vf3, vf4, vf5, vf6⟩ := unit_frozen HN4.out.u
        go_wp2_with fail
        go_quiet (fail)
        generalize hW5 : w4.drewN nq = w5
        have HN5 := Lib.hid (HN4.out.later (show Below w4.heap.size w4 w5 by rw [← hW5]; exact below_draw _ _))
        clear hW5 HN4 c2 c3 c4 c5 c6 f3 f5 f6 l1 l2 l3 v0 v1 v2 v3 v4 v5 v6 vf0 vf1 vf2 vf3 vf4 vf5 vf6
        obtain ⟨c2, c3, c4, c5, c6⟩ := HN5.out.cm
        obtain ⟨f3, f5, f6⟩ := HN5.out.fm
        obtain ⟨l1, l2, l3⟩ := HN5.out.lt
        obtain ⟨v0, v1, v2, v3, v4, v5, v6⟩ := unit_cells HN5.out.u
        obtain ⟨vf0, vf1, vf2, vf3, vf4, vf5, vf6⟩ := unit_frozen HN5.out.u
        go_wp2_with fail
        go_quiet (fail)
        generalize hW6 : w5.drewN nq = w6
        have HN6 := Lib.hid (HN5.out.later (show Below w5.heap.size w5 w6 by rw [← hW6]; exact below_draw _ _))
        clear hW6 HN5 c2 c3 c4 c5 c6 f3 f5 f6 l1 l2 l3 v0 v1 v2 v3 v4 v5 v6 vf0 vf1 vf2 vf3 vf4 vf5 vf6
        obtain ⟨c2, c3, c4, c5, c6⟩ := HN6.out.cm
        obtain ⟨f3, f5, f6⟩ := HN6.out.fm
        obtain ⟨l1, l2, l3⟩ := HN6.out.lt
        obtain ⟨v0, v1, v2, v3, v4, v5, v6⟩ := unit_cells HN6.out.u
        obtain ⟨vf0, vf1, vf2, vf3, vf4, vf5, vf6⟩ := unit_frozen HN6.out.u
        go_wp2_with fail
        obtain ⟨w7, hW7⟩ : ∃ X, X = (w6.setCell ⟨w.heap.size + 1, 4, none⟩ (.int .u8 2)) := ⟨_, rfl⟩
        rw [← hW7]
        have hN7 := (HN6.out.setu 4 (.int .u8 2))
        rw [← hW7] at hN7
        simp only [List.set_cons_zero, List.set_cons_succ] at hN7
        have HN7 := Lib.hid hN7
        clear hN7 hW7 HN6 c2 c3 c4 c5 c6 f3 f5 f6 l1 l2 l3 v0 v1 v2 v3 v4 v5 v6 vf0 vf1 vf2 vf3 vf4 vf5 vf6
        obtain ⟨c2, c3, c4, c5, c6⟩ := HN7.out.cm
        obtain ⟨f3, f5, f6⟩ := HN7.out.fm
        obtain ⟨l1, l2, l3⟩ := HN7.out.lt
        obtain ⟨v0, v1, v2, v3, v4, v5, v6⟩ := unit_cells HN7.out.u
        obtain ⟨vf0, vf1, vf2, vf3, vf4, vf5, vf6⟩ := unit_frozen HN7.out.u
        refine (kmsg_any (m.plc) w7 (by omega)).mono ?_
        rintro e w8 ⟨⟨g, c, rfl, hr, hg, hl⟩, hb8⟩
        have HN8 := Lib.hid (HN7.out.later hb8)
        have HR := Lib.hid hr
        have hn : ∀ W, Calls Try.prog 14 #[.int .i64 ((m.plc : Int) + 1)] W fun e w' => e = .returned (.int .u8 ((num (m.plc + 1) : Nat) : Int)) ∧ W = w' := fun W => by
          have := knum_any (m.plc + 1) W (by omega)
          rwa [show ((m.plc + 1 : Nat) : Int) = (m.plc : Int) + 1 by omega] at this
        have HNum := Lib.hid hn
        have hga : w.heap.size + 2 ≤ g := by omega
        clear hb8 hr hg hn HN7 c2 c3 c4 c5 c6 f3 f5 f6 l1 l2 l3 v0 v1 v2 v3 v4 v5 v6 vf0 vf1 vf2 vf3 vf4 vf5 vf6
        obtain ⟨c2, c3, c4, c5, c6⟩ := HN8.out.cm
        obtain ⟨f3, f5, f6⟩ := HN8.out.fm
        obtain ⟨l1, l2, l3⟩ := HN8.out.lt
        obtain ⟨v0, v1, v2, v3, v4, v5, v6⟩ := unit_cells HN8.out.u
        obtain ⟨vf0, vf1, vf2, vf3, vf4, vf5, vf6⟩ := unit_frozen HN8.out.u
        go_wp2_with fail
        have hx0 : Exc (fun k => k = b ∨ k = w.heap.size + 1) w8 (((w8.setCell ⟨w.heap.size + 1, 6, none⟩ (.slice (some ⟨g, 0, none⟩) (mlen m.plc) c)).setCell ⟨b, 5, none⟩ (.int .i64 ((m.plc : Int) + 1)))) := ((Exc.refl (fun k => k = b ∨ k = w.heap.size + 1) w8).setCell ⟨w.heap.size + 1, 6, none⟩ (.inl (.inr rfl)) _).setCell ⟨b, 5, none⟩ (.inl (.inl rfl)) _
        have hr2 := HR.out.exc hx0 (fun z hz hh => by cases hz; have h5 := HN8.out.hb; rcases hh with hh | hh <;> (simp only at hh; omega))
        obtain ⟨w9, hW9⟩ : ∃ X, X = ((w8.setCell ⟨w.heap.size + 1, 6, none⟩ (.slice (some ⟨g, 0, none⟩) (mlen m.plc) c)).setCell ⟨b, 5, none⟩ (.int .i64 ((m.plc : Int) + 1))) := ⟨_, rfl⟩
        rw [← hW9]
        rw [← hW9] at hr2
        have HR2 := Lib.hid hr2
        clear hr2 hx0 HR
        have hN9 := ((HN8.out.setu 6 (.slice (some ⟨g, 0, none⟩) (mlen m.plc) c)).setm 5 (.int .i64 ((m.plc : Int) + 1)))
        rw [← hW9] at hN9
        simp only [List.set_cons_zero, List.set_cons_succ] at hN9
        have HN9 := Lib.hid hN9
        clear hN9 hW9 HN8 c2 c3 c4 c5 c6 f3 f5 f6 l1 l2 l3 v0 v1 v2 v3 v4 v5 v6 vf0 vf1 vf2 vf3 vf4 vf5 vf6
        obtain ⟨c2, c3, c4, c5, c6⟩ := HN9.out.cm
        obtain ⟨f3, f5, f6⟩ := HN9.out.fm
        obtain ⟨l1, l2, l3⟩ := HN9.out.lt
        obtain ⟨v0, v1, v2, v3, v4, v5, v6⟩ := unit_cells HN9.out.u
        obtain ⟨vf0, vf1, vf2, vf3, vf4, vf5, vf6⟩ := unit_frozen HN9.out.u
        refine (HNum.out w9).mono ?_
        rintro e w' ⟨rfl, rfl⟩
        obtain ⟨NM, hNM⟩ : ∃ NM, NM = num (m.plc + 1) := ⟨_, rfl⟩
        rw [← hNM]
        have HNM := Lib.hid hNM
        obtain ⟨y0, y1, y2, y3, y4, y5, y6⟩ := unit_cells HN9.out.z
        obtain ⟨yf0, yf1, yf2, yf3, yf4, yf5, yf6⟩ := unit_frozen HN9.out.z
        clear hNM
        go_wp2
        generalize hWf : ((((((((w9.setCell ⟨w.heap.size + 1, 2, none⟩ (.int .u8 (NM : Int))).setCell ⟨w.heap.size, 0, none⟩ (.int .u8 (m.accepted : Int))).setCell ⟨w.heap.size, 1, none⟩ (.bool true)).setCell ⟨w.heap.size, 2, none⟩ (.int .u8 (NM : Int))).setCell ⟨w.heap.size, 3, none⟩ (.bool true)).setCell ⟨w.heap.size, 4, none⟩ (.int .u8 2)).setCell ⟨w.heap.size, 5, none⟩ (.int .u8 0)).setCell ⟨w.heap.size, 6, none⟩ (.slice (some ⟨g, 0, none⟩) (mlen (m.plc)) c)) = Wf
        obtain ⟨om, oz, ox, oe⟩ := HN9.out.out _ _ _ _ _ _ _ _ hWf
        clear hWf y0 y1 y2 y3 y4 y5 y6
        obtain ⟨y0, y1, y2, y3, y4, y5, y6⟩ := unit_cells oz
        refine bodyPost_ret (v := .agg #[.int .u8 (m.accepted : Int), .bool true, .int .u8 (NM : Int), .bool true, .int .u8 2, .int .u8 0, .slice (some ⟨g, 0, none⟩) (mlen (m.plc)) c]) (by simp [results, Try.results12, go_sem, y0, y1, y2, y3, y4, y5, y6]) rfl ?_
        have hok := Md.next_ok HM.out.ok
        have en := Md.nx_repP hps (.inl hf) ha
        rw [hf] at en
        rw [en] at hok ⊢
        have hll : (loadK (m.plc)).length = mlen (m.plc) := loadK_length _
        refine ⟨⟨some ⟨g, 0, none⟩, c, ?_, ?_, fun z hz => by cases hz; show w.heap.size ≤ g; omega⟩, ⟨om, hok, HM.out.small⟩, ox⟩
        · rw [HNM.out, ← hll]; rfl
        · rw [show ((⟨m.accepted, true, num (m.plc + 1), true, 2, 0, loadK (m.plc)⟩ : Un)).load = loadK (m.plc) from rfl, hll]
          exact HR2.out.exc oe (fun z hz hh => by cases hz; rcases hh with hh | hh <;> (simp only at hh; omega))
end Go.Proofs.Ytdjnflfcolpccaa
/- Contracts: the statements' model of an end: hear. -/
namespace Go.Proofs.Ytdjnflfcolpccaa
open Go.RowKit

structure HrS (w W : World) (b : Nat) (cs us : List Value) : Prop where
  m : Own W b 29 cs
  u : Own W w.heap.size 45 us
  x : Exc (fun k => k = b) w W
  hb : b < w.heap.size
theorem HrS.later {w W W' : World} {b : Nat} {cs us : List Value} (h : HrS w W b cs us) (hb : Below W.heap.size W W') : HrS w W' b cs us :=
  ⟨h.m.below hb h.m.lt, h.u.below hb h.u.lt, h.x.trans (S' := fun _ => False) (Exc.of_below hb) (fun _ _ hh => hh.elim), h.hb⟩
theorem HrS.setm {w W : World} {b : Nat} {cs us : List Value} (h : HrS w W b cs us) (j : Nat) (v : Value) : HrS w (W.setCell ⟨b, j, none⟩ v) b (cs.set j v) us := by
  have hb := h.hb
  exact ⟨h.m.set j v, h.u.other ⟨b, j, none⟩ (by simp; omega) v, h.x.setCell ⟨b, j, none⟩ (.inl rfl) v, hb⟩
theorem HrS.drew {w W : World} {b : Nat} {cs us : List Value} (h : HrS w W b cs us) : HrS w W.drew b cs us := h.later (show Below W.heap.size W W.drew from below_draw W 1)
theorem HrS.cm {w W : World} {b : Nat} {v0 v1 v2 v3 v4 v5 v6 v7 v8 v9 v10 : Value} {us : List Value} (h : HrS w W b [v0, v1, v2, v3, v4, v5, v6, v7, v8, v9, v10] us) :
    W.cell? ⟨b, 3, none⟩ = some v3 ∧ W.cell? ⟨b, 4, none⟩ = some v4 ∧ W.cell? ⟨b, 5, none⟩ = some v5 ∧ W.cell? ⟨b, 7, none⟩ = some v7 ∧ W.cell? ⟨b, 8, none⟩ = some v8 ∧ W.cell? ⟨b, 9, none⟩ = some v9 ∧ W.cell? ⟨b, 10, none⟩ = some v10 :=
  ⟨h.m.cell 3 (by simp), h.m.cell 4 (by simp), h.m.cell 5 (by simp), h.m.cell 7 (by simp), h.m.cell 8 (by simp), h.m.cell 9 (by simp), h.m.cell 10 (by simp)⟩
theorem HrS.fm {w W : World} {b : Nat} {cs us : List Value} (h : HrS w W b cs us) : W.frozen? ⟨b, 4, none⟩ = false ∧ W.frozen? ⟨b, 5, none⟩ = false ∧ W.frozen? ⟨b, 7, none⟩ = false ∧ W.frozen? ⟨b, 8, none⟩ = false ∧ W.frozen? ⟨b, 9, none⟩ = false ∧ W.frozen? ⟨b, 10, none⟩ = false :=
  ⟨h.m.frozen 4, h.m.frozen 5, h.m.frozen 7, h.m.frozen 8, h.m.frozen 9, h.m.frozen 10⟩
theorem HrS.lt {w W : World} {b : Nat} {cs us : List Value} (h : HrS w W b cs us) : b < W.heap.size ∧ w.heap.size < W.heap.size := ⟨h.m.lt, h.u.lt⟩
set_option maxHeartbeats 4000000 in
set_option maxRecDepth 100000 in
theorem mhear_any (b : Nat) (m : Md) (u : Un) (s' : Option Addr) (n c : Nat) (w : World) (h : MdAt w b m) (hfl : m.failed = false) (hk1 : u.kind ≠ 1) (hu0 : u.back < 128) (hu2 : u.fore < 128) :
    Calls Try.prog 15 #[.pointer (some ⟨b, 0, none⟩), .agg (unCells u s' n c).toArray] w fun e w' =>
      e = .returned (.bool (m.hear u).1) ∧ MdAt w' b (m.hear u).2 ∧ Exc (fun k => k = b) w w' := by
  have hok := Md.hear_ok h.ok u hu2
  have hb := h.own.lt
  have hsm := h.small
  have h1 := h.ok.ap
  have h2 := h.ok.ps
  have h3 := h.ok.sg
  have h5 := h.ok.acc
  obtain ⟨W0, hW0⟩ : ∃ W, W = w.alloc (.cells (unCells u s' n c).toArray 45) := ⟨_, rfl⟩
  have hb0 : Below w.heap.size w W0 := by rw [hW0]; exact below_alloc _ _
  have ou : Own W0 w.heap.size 45 (unCells u s' n c) := by rw [hW0]; exact own_lit w _ _ _ rfl
  have HN0 := Lib.hid (HrS.mk (h.own.below hb0 hb) ou (Exc.of_below hb0) hb)
  have hd : m.d u < 128 := Nat.mod_lt _ (by decide)
  have hnl := num_lt m.acked
  have hdi : (((u.back : Int) + 128 - ((num m.acked : Nat) : Int))).tmod 128 = ((m.d u : Nat) : Int) := by
    rw [Int.tmod_eq_emod_of_nonneg (by omega)]
    unfold Md.d; omega
  obtain ⟨D, hD⟩ : ∃ D, D = m.d u := ⟨_, rfl⟩
  obtain ⟨NM, hNM⟩ : ∃ NM, NM = num m.acked := ⟨_, rfl⟩
  rw [← hD] at hd hdi
  rw [← hNM] at hdi hnl
  have hn : ∀ q, Calls Try.prog 14 #[.int .i64 (m.acked : Int)] (W0.drewN q) fun e w' => e = .returned (.int .u8 (NM : Int)) ∧ ∃ k, w' = (W0.drewN q).drewN k := fun q =>
    (knum_any m.acked (W0.drewN q) (by omega)).mono fun e w' ⟨he, hw'⟩ => ⟨by rw [he, hNM], 0, hw'.symm⟩
  have k1 : ((u.kind : Int) == 1) = false := by simp; omega
  have k2 : IntKind.i64.wrap (u.back : Int) = (u.back : Int) := IntWalk.i64_in _ (by omega)
  have k3 : IntKind.i64.wrap ((u.back : Int) + 128) = (u.back : Int) + 128 := IntWalk.i64_in _ (by omega)
  have k4 : IntKind.i64.wrap (NM : Int) = (NM : Int) := IntWalk.i64_in _ (by omega)
  have k5 : IntKind.i64.wrap ((u.back : Int) + 128 - (NM : Int)) = (u.back : Int) + 128 - (NM : Int) := IntWalk.i64_in _ (by omega)
  obtain ⟨O, hO⟩ : ∃ O, O = m.sent - m.acked := ⟨_, rfl⟩
  have k6 : IntKind.i64.wrap ((m.sent : Int) - (m.acked : Int)) = (O : Int) := by rw [IntWalk.i64_in _ (by omega)]; omega
  have k7 : (m.sent : Int) - (m.acked : Int) = (O : Int) := by omega
  have hwr : m.wrong u = decide (O < D) := by rw [hO, hD]; rfl
  have HN := Lib.hid hn
  have HD := Lib.hid (And.intro hD hwr)
  have HOk := Lib.hid hok
  have HM := Lib.hid h
  have HW := Lib.hid hW0
  have hO5 : O ≤ 100000 := by omega
  clear h ou hW0 hb0 hn hD hNM hwr hok hO
  have hcs : mdCells m = [.int .i64 (m.lm : Int), .int .i64 (m.lo : Int), .int .i64 (m.given : Int), .int .i64 (m.sent : Int), .int .i64 (m.acked : Int), .int .i64 (m.plc : Int), .bool m.forced, .int .u8 (m.accepted : Int), .bool m.w0, .bool m.w1, .bool m.failed] := rfl
  rw [hcs, hfl] at HN0
  clear hcs
  simp only [unCells] at HW HN0 ⊢
  go_enter Try.func15, Try.ntmps15
  go_wp2_with fail
  rw [← HW.out]
  obtain ⟨c3, c4, c5, c7, c8, c9, c10⟩ := HN0.out.cm
  obtain ⟨f4, f5, f7, f8, f9, f10⟩ := HN0.out.fm
  obtain ⟨l1, l2⟩ := HN0.out.lt
  obtain ⟨v0, v1, v2, v3, v4, v5, v6⟩ := unit_cells HN0.out.u
  go_quiet ((go_at_call 14; exact Calls.quiet_of (HN.out _)))
  generalize hW1 : W0.drewN nq = w1
  have HN1 := Lib.hid (HN0.out.later (show Below W0.heap.size W0 w1 by rw [← hW1]; exact below_draw _ _))
  clear hW1 HN0 c3 c4 c5 c7 c8 c9 c10 f4 f5 f7 f8 f9 f10 l1 l2 v0 v1 v2 v3 v4 v5 v6
  obtain ⟨c3, c4, c5, c7, c8, c9, c10⟩ := HN1.out.cm
  obtain ⟨f4, f5, f7, f8, f9, f10⟩ := HN1.out.fm
  obtain ⟨l1, l2⟩ := HN1.out.lt
  obtain ⟨v0, v1, v2, v3, v4, v5, v6⟩ := unit_cells HN1.out.u
  clear k2 k3 k4 k5 hdi
  by_cases hwd : O < D
  · have hwi : (O : Int) < (D : Int) := by omega
    have HWd := Lib.hid hwd
    clear hwd
    go_wp2_with fail
    go_quiet (fail)
    generalize hW2 : w1.drewN nq = w2
    have HN2 := Lib.hid (HN1.out.later (show Below w1.heap.size w1 w2 by rw [← hW2]; exact below_draw _ _))
    clear hW2 HN1 c3 c4 c5 c7 c8 c9 c10 f4 f5 f7 f8 f9 f10 l1 l2 v0 v1 v2 v3 v4 v5 v6
    obtain ⟨c3, c4, c5, c7, c8, c9, c10⟩ := HN2.out.cm
    obtain ⟨f4, f5, f7, f8, f9, f10⟩ := HN2.out.fm
    obtain ⟨l1, l2⟩ := HN2.out.lt
    obtain ⟨v0, v1, v2, v3, v4, v5, v6⟩ := unit_cells HN2.out.u
    clear k6 k7 hwi
    cases hx0 : m.w0
    · rw [hx0] at c8
      cases hx1 : m.w1
      · rw [hx1] at c9
        rw [hx0, hx1] at HN2
        go_wp2_with fail
        obtain ⟨w3, hW3⟩ : ∃ X, X = (w2.setCell ⟨b, 10, none⟩ (.bool false)) := ⟨_, rfl⟩
        rw [← hW3]
        have hN3 := (HN2.out.setm 10 (.bool false))
        rw [← hW3] at hN3
        simp only [List.set_cons_zero, List.set_cons_succ] at hN3
        have HN3 := Lib.hid hN3
        clear hN3 hW3 HN2 c3 c4 c5 c7 c8 c9 c10 f4 f5 f7 f8 f9 f10 l1 l2 v0 v1 v2 v3 v4 v5 v6
        obtain ⟨c3, c4, c5, c7, c8, c9, c10⟩ := HN3.out.cm
        obtain ⟨f4, f5, f7, f8, f9, f10⟩ := HN3.out.fm
        obtain ⟨l1, l2⟩ := HN3.out.lt
        obtain ⟨v0, v1, v2, v3, v4, v5, v6⟩ := unit_cells HN3.out.u
        go_region
        obtain ⟨w4, hW4⟩ : ∃ X, X = (w3.setCell ⟨b, 8, none⟩ (.bool false)).drew := ⟨_, rfl⟩
        rw [← hW4]
        have hN4 := (HN3.out.setm 8 (.bool false)).drew
        rw [← hW4] at hN4
        simp only [List.set_cons_zero, List.set_cons_succ] at hN4
        have HN4 := Lib.hid hN4
        clear hN4 hW4 HN3 c3 c4 c5 c7 c8 c9 c10 f4 f5 f7 f8 f9 f10 l1 l2 v0 v1 v2 v3 v4 v5 v6
        obtain ⟨c3, c4, c5, c7, c8, c9, c10⟩ := HN4.out.cm
        obtain ⟨f4, f5, f7, f8, f9, f10⟩ := HN4.out.fm
        obtain ⟨l1, l2⟩ := HN4.out.lt
        obtain ⟨v0, v1, v2, v3, v4, v5, v6⟩ := unit_cells HN4.out.u
        go_wp2
        go_ret
        have ew : m.wrong u = true := by rw [HD.out.2]; exact decide_eq_true HWd.out
        have eh : m.hear u = (false, { m with w0 := m.w1, w1 := true, failed := m.w0 || m.w1 }) := by unfold Md.hear; rw [ew]; rfl
        rw [hx0, hx1] at eh
        have ho := HOk.out
        rw [eh] at ho ⊢
        have hf := HN4.out.setm 9 (.bool true)
        exact ⟨rfl, ⟨hf.m, ho, hsm⟩, hf.x⟩
      · rw [hx1] at c9
        rw [hx0, hx1] at HN2
        go_wp2_with fail
        obtain ⟨w3, hW3⟩ : ∃ X, X = (w2.setCell ⟨b, 10, none⟩ (.bool true)) := ⟨_, rfl⟩
        rw [← hW3]
        have hN3 := (HN2.out.setm 10 (.bool true))
        rw [← hW3] at hN3
        simp only [List.set_cons_zero, List.set_cons_succ] at hN3
        have HN3 := Lib.hid hN3
        clear hN3 hW3 HN2 c3 c4 c5 c7 c8 c9 c10 f4 f5 f7 f8 f9 f10 l1 l2 v0 v1 v2 v3 v4 v5 v6
        obtain ⟨c3, c4, c5, c7, c8, c9, c10⟩ := HN3.out.cm
        obtain ⟨f4, f5, f7, f8, f9, f10⟩ := HN3.out.fm
        obtain ⟨l1, l2⟩ := HN3.out.lt
        obtain ⟨v0, v1, v2, v3, v4, v5, v6⟩ := unit_cells HN3.out.u
        go_region
        obtain ⟨w4, hW4⟩ : ∃ X, X = (w3.setCell ⟨b, 8, none⟩ (.bool true)).drew := ⟨_, rfl⟩
        rw [← hW4]
        have hN4 := (HN3.out.setm 8 (.bool true)).drew
        rw [← hW4] at hN4
        simp only [List.set_cons_zero, List.set_cons_succ] at hN4
        have HN4 := Lib.hid hN4
        clear hN4 hW4 HN3 c3 c4 c5 c7 c8 c9 c10 f4 f5 f7 f8 f9 f10 l1 l2 v0 v1 v2 v3 v4 v5 v6
        obtain ⟨c3, c4, c5, c7, c8, c9, c10⟩ := HN4.out.cm
        obtain ⟨f4, f5, f7, f8, f9, f10⟩ := HN4.out.fm
        obtain ⟨l1, l2⟩ := HN4.out.lt
        obtain ⟨v0, v1, v2, v3, v4, v5, v6⟩ := unit_cells HN4.out.u
        go_wp2
        go_ret
        have ew : m.wrong u = true := by rw [HD.out.2]; exact decide_eq_true HWd.out
        have eh : m.hear u = (false, { m with w0 := m.w1, w1 := true, failed := m.w0 || m.w1 }) := by unfold Md.hear; rw [ew]; rfl
        rw [hx0, hx1] at eh
        have ho := HOk.out
        rw [eh] at ho ⊢
        have hf := HN4.out.setm 9 (.bool true)
        exact ⟨rfl, ⟨hf.m, ho, hsm⟩, hf.x⟩
    · rw [hx0] at c8
      cases hx1 : m.w1
      · rw [hx1] at c9
        rw [hx0, hx1] at HN2
        go_wp2_with fail
        obtain ⟨w3, hW3⟩ : ∃ X, X = (w2.setCell ⟨b, 10, none⟩ (.bool true)) := ⟨_, rfl⟩
        rw [← hW3]
        have hN3 := (HN2.out.setm 10 (.bool true))
        rw [← hW3] at hN3
        simp only [List.set_cons_zero, List.set_cons_succ] at hN3
        have HN3 := Lib.hid hN3
        clear hN3 hW3 HN2 c3 c4 c5 c7 c8 c9 c10 f4 f5 f7 f8 f9 f10 l1 l2 v0 v1 v2 v3 v4 v5 v6
        obtain ⟨c3, c4, c5, c7, c8, c9, c10⟩ := HN3.out.cm
        obtain ⟨f4, f5, f7, f8, f9, f10⟩ := HN3.out.fm
        obtain ⟨l1, l2⟩ := HN3.out.lt
        obtain ⟨v0, v1, v2, v3, v4, v5, v6⟩ := unit_cells HN3.out.u
        go_region
        obtain ⟨w4, hW4⟩ : ∃ X, X = (w3.setCell ⟨b, 8, none⟩ (.bool false)).drew := ⟨_, rfl⟩
        rw [← hW4]
        have hN4 := (HN3.out.setm 8 (.bool false)).drew
        rw [← hW4] at hN4
        simp only [List.set_cons_zero, List.set_cons_succ] at hN4
        have HN4 := Lib.hid hN4
        clear hN4 hW4 HN3 c3 c4 c5 c7 c8 c9 c10 f4 f5 f7 f8 f9 f10 l1 l2 v0 v1 v2 v3 v4 v5 v6
        obtain ⟨c3, c4, c5, c7, c8, c9, c10⟩ := HN4.out.cm
        obtain ⟨f4, f5, f7, f8, f9, f10⟩ := HN4.out.fm
        obtain ⟨l1, l2⟩ := HN4.out.lt
        obtain ⟨v0, v1, v2, v3, v4, v5, v6⟩ := unit_cells HN4.out.u
        go_wp2
        go_ret
        have ew : m.wrong u = true := by rw [HD.out.2]; exact decide_eq_true HWd.out
        have eh : m.hear u = (false, { m with w0 := m.w1, w1 := true, failed := m.w0 || m.w1 }) := by unfold Md.hear; rw [ew]; rfl
        rw [hx0, hx1] at eh
        have ho := HOk.out
        rw [eh] at ho ⊢
        have hf := HN4.out.setm 9 (.bool true)
        exact ⟨rfl, ⟨hf.m, ho, hsm⟩, hf.x⟩
      · rw [hx1] at c9
        rw [hx0, hx1] at HN2
        go_wp2_with fail
        obtain ⟨w3, hW3⟩ : ∃ X, X = (w2.setCell ⟨b, 10, none⟩ (.bool true)) := ⟨_, rfl⟩
        rw [← hW3]
        have hN3 := (HN2.out.setm 10 (.bool true))
        rw [← hW3] at hN3
        simp only [List.set_cons_zero, List.set_cons_succ] at hN3
        have HN3 := Lib.hid hN3
        clear hN3 hW3 HN2 c3 c4 c5 c7 c8 c9 c10 f4 f5 f7 f8 f9 f10 l1 l2 v0 v1 v2 v3 v4 v5 v6
        obtain ⟨c3, c4, c5, c7, c8, c9, c10⟩ := HN3.out.cm
        obtain ⟨f4, f5, f7, f8, f9, f10⟩ := HN3.out.fm
        obtain ⟨l1, l2⟩ := HN3.out.lt
        obtain ⟨v0, v1, v2, v3, v4, v5, v6⟩ := unit_cells HN3.out.u
        go_region
        obtain ⟨w4, hW4⟩ : ∃ X, X = (w3.setCell ⟨b, 8, none⟩ (.bool true)).drew := ⟨_, rfl⟩
        rw [← hW4]
        have hN4 := (HN3.out.setm 8 (.bool true)).drew
        rw [← hW4] at hN4
        simp only [List.set_cons_zero, List.set_cons_succ] at hN4
        have HN4 := Lib.hid hN4
        clear hN4 hW4 HN3 c3 c4 c5 c7 c8 c9 c10 f4 f5 f7 f8 f9 f10 l1 l2 v0 v1 v2 v3 v4 v5 v6
        obtain ⟨c3, c4, c5, c7, c8, c9, c10⟩ := HN4.out.cm
        obtain ⟨f4, f5, f7, f8, f9, f10⟩ := HN4.out.fm
        obtain ⟨l1, l2⟩ := HN4.out.lt
        obtain ⟨v0, v1, v2, v3, v4, v5, v6⟩ := unit_cells HN4.out.u
        go_wp2
        go_ret
        have ew : m.wrong u = true := by rw [HD.out.2]; exact decide_eq_true HWd.out
        have eh : m.hear u = (false, { m with w0 := m.w1, w1 := true, failed := m.w0 || m.w1 }) := by unfold Md.hear; rw [ew]; rfl
        rw [hx0, hx1] at eh
        have ho := HOk.out
        rw [eh] at ho ⊢
        have hf := HN4.out.setm 9 (.bool true)
        exact ⟨rfl, ⟨hf.m, ho, hsm⟩, hf.x⟩
  · have hwi : ¬ (O : Int) < (D : Int) := by omega
    have hwid : decide ((O : Int) < (D : Int)) = false := decide_eq_false hwi
    have HWd := Lib.hid hwd
    clear hwd
    go_wp2_with fail
    go_quiet (fail)
    generalize hW2 : w1.drewN nq = w2
    have HN2 := Lib.hid (HN1.out.later (show Below w1.heap.size w1 w2 by rw [← hW2]; exact below_draw _ _))
    clear hW2 HN1 c3 c4 c5 c7 c8 c9 c10 f4 f5 f7 f8 f9 f10 l1 l2 v0 v1 v2 v3 v4 v5 v6
    obtain ⟨c3, c4, c5, c7, c8, c9, c10⟩ := HN2.out.cm
    obtain ⟨f4, f5, f7, f8, f9, f10⟩ := HN2.out.fm
    obtain ⟨l1, l2⟩ := HN2.out.lt
    obtain ⟨v0, v1, v2, v3, v4, v5, v6⟩ := unit_cells HN2.out.u
    clear k6 k7 hwi hwid
    go_wp2_with fail
    obtain ⟨w3, hW3⟩ : ∃ X, X = (w2.setCell ⟨b, 10, none⟩ (.bool false)) := ⟨_, rfl⟩
    rw [← hW3]
    have hN3 := (HN2.out.setm 10 (.bool false))
    rw [← hW3] at hN3
    simp only [List.set_cons_zero, List.set_cons_succ] at hN3
    have HN3 := Lib.hid hN3
    clear hN3 hW3 HN2 c3 c4 c5 c7 c8 c9 c10 f4 f5 f7 f8 f9 f10 l1 l2 v0 v1 v2 v3 v4 v5 v6
    obtain ⟨c3, c4, c5, c7, c8, c9, c10⟩ := HN3.out.cm
    obtain ⟨f4, f5, f7, f8, f9, f10⟩ := HN3.out.fm
    obtain ⟨l1, l2⟩ := HN3.out.lt
    obtain ⟨v0, v1, v2, v3, v4, v5, v6⟩ := unit_cells HN3.out.u
    go_region
    obtain ⟨w4, hW4⟩ : ∃ X, X = (w3.setCell ⟨b, 8, none⟩ (.bool m.w1)).drew := ⟨_, rfl⟩
    rw [← hW4]
    have hN4 := (HN3.out.setm 8 (.bool m.w1)).drew
    rw [← hW4] at hN4
    simp only [List.set_cons_zero, List.set_cons_succ] at hN4
    have HN4 := Lib.hid hN4
    clear hN4 hW4 HN3 c3 c4 c5 c7 c8 c9 c10 f4 f5 f7 f8 f9 f10 l1 l2 v0 v1 v2 v3 v4 v5 v6
    obtain ⟨c3, c4, c5, c7, c8, c9, c10⟩ := HN4.out.cm
    obtain ⟨f4, f5, f7, f8, f9, f10⟩ := HN4.out.fm
    obtain ⟨l1, l2⟩ := HN4.out.lt
    obtain ⟨v0, v1, v2, v3, v4, v5, v6⟩ := unit_cells HN4.out.u
    obtain ⟨A, hA⟩ : ∃ A, A = m.acked + D := ⟨_, rfl⟩
    have hAi : (m.acked : Int) + (D : Int) = (A : Int) := by omega
    have hA5 : A ≤ 200000 := by omega
    have HA := Lib.hid hA
    clear hA
    go_wp2_with fail
    obtain ⟨w5, hW5⟩ : ∃ X, X = ((w4.setCell ⟨b, 9, none⟩ (.bool false)).setCell ⟨b, 4, none⟩ (.int .i64 (A : Int))) := ⟨_, rfl⟩
    rw [← hW5]
    have hN5 := ((HN4.out.setm 9 (.bool false)).setm 4 (.int .i64 (A : Int)))
    rw [← hW5] at hN5
    simp only [List.set_cons_zero, List.set_cons_succ] at hN5
    have HN5 := Lib.hid hN5
    clear hN5 hW5 HN4 c3 c4 c5 c7 c8 c9 c10 f4 f5 f7 f8 f9 f10 l1 l2 v0 v1 v2 v3 v4 v5 v6
    obtain ⟨c3, c4, c5, c7, c8, c9, c10⟩ := HN5.out.cm
    obtain ⟨f4, f5, f7, f8, f9, f10⟩ := HN5.out.fm
    obtain ⟨l1, l2⟩ := HN5.out.lt
    obtain ⟨v0, v1, v2, v3, v4, v5, v6⟩ := unit_cells HN5.out.u
    clear hAi
    go_region
    obtain ⟨R, hR⟩ : ∃ R, R = max m.plc A := ⟨_, rfl⟩
    have hRi : (if m.plc < A then (A : Int) else (m.plc : Int)) = (R : Int) := by rw [hR]; split <;> omega
    rw [hRi]
    obtain ⟨w6, hW6⟩ : ∃ X, X = (w5.setCell ⟨b, 5, none⟩ (.int .i64 (R : Int))).drew := ⟨_, rfl⟩
    rw [← hW6]
    have hN6 := (HN5.out.setm 5 (.int .i64 (R : Int))).drew
    rw [← hW6] at hN6
    simp only [List.set_cons_zero, List.set_cons_succ] at hN6
    have HN6 := Lib.hid hN6
    clear hN6 hW6 HN5 c3 c4 c5 c7 c8 c9 c10 f4 f5 f7 f8 f9 f10 l1 l2 v0 v1 v2 v3 v4 v5 v6
    obtain ⟨c3, c4, c5, c7, c8, c9, c10⟩ := HN6.out.cm
    obtain ⟨f4, f5, f7, f8, f9, f10⟩ := HN6.out.fm
    obtain ⟨l1, l2⟩ := HN6.out.lt
    obtain ⟨v0, v1, v2, v3, v4, v5, v6⟩ := unit_cells HN6.out.u
    have HRm := Lib.hid hR
    clear hRi hR
    have ew : m.wrong u = false := by rw [HD.out.2]; exact decide_eq_false HWd.out
    have hack : m.ack u = { m with acked := A, plc := R, w0 := m.w1, w1 := false } := by unfold Md.ack; rw [← HD.out.1, ← HA.out, ← HRm.out]
    have HEw := Lib.hid (And.intro ew hack)
    obtain ⟨N1, hN1⟩ : ∃ N1, N1 = (m.accepted + 1) % 128 := ⟨_, rfl⟩
    have e9 : IntKind.i64.wrap (m.accepted : Int) = (m.accepted : Int) := IntWalk.i64_in _ (by omega)
    have e10 : IntKind.i64.wrap ((m.accepted : Int) + 1) = (m.accepted : Int) + 1 := IntWalk.i64_in _ (by omega)
    have e11 : ((m.accepted : Int) + 1).tmod 128 = (N1 : Int) := by rw [Int.tmod_eq_emod_of_nonneg (by omega), hN1]; omega
    have e12 : IntKind.i64.wrap (u.fore : Int) = (u.fore : Int) := IntWalk.i64_in _ (by omega)
    have HN1 := Lib.hid hN1
    clear ew hack hN1
    by_cases hk : u.kind = 2
    · have hkb : ((u.kind : Int) == 2) = true := by simp; omega
      by_cases hff : u.fore = N1
      · have hfb : ((u.fore : Int) == (N1 : Int)) = true := by simp; omega
        go_wp2_with fail
        go_quiet (fail)
        generalize hW7 : w6.drewN nq = w7
        have HN7 := Lib.hid (HN6.out.later (show Below w6.heap.size w6 w7 by rw [← hW7]; exact below_draw _ _))
        clear hW7 HN6 c3 c4 c5 c7 c8 c9 c10 f4 f5 f7 f8 f9 f10 l1 l2 v0 v1 v2 v3 v4 v5 v6
        obtain ⟨c3, c4, c5, c7, c8, c9, c10⟩ := HN7.out.cm
        obtain ⟨f4, f5, f7, f8, f9, f10⟩ := HN7.out.fm
        obtain ⟨l1, l2⟩ := HN7.out.lt
        obtain ⟨v0, v1, v2, v3, v4, v5, v6⟩ := unit_cells HN7.out.u
        go_wp2
        go_ret
        have et : m.takes u = true := by unfold Md.takes; rw [HN1.out] at hff; simp [hk, hff]
        have eh : m.hear u = (true, { m with acked := A, plc := R, w0 := m.w1, w1 := false, accepted := u.fore }) := by
          unfold Md.hear
          rw [HEw.out.1, et, HEw.out.2]
          rfl
        have ho := HOk.out
        rw [eh] at ho ⊢
        rw [hfl, hff] at ho ⊢
        have hf := (HN7.out.setm 7 (.int .u8 (N1 : Int)))
        exact ⟨rfl, ⟨hf.m, ho, hsm⟩, hf.x⟩
      · have hfb : ((u.fore : Int) == (N1 : Int)) = false := by simp; omega
        go_wp2_with fail
        go_quiet (fail)
        generalize hW7 : w6.drewN nq = w7
        have HN7 := Lib.hid (HN6.out.later (show Below w6.heap.size w6 w7 by rw [← hW7]; exact below_draw _ _))
        clear hW7 HN6 c3 c4 c5 c7 c8 c9 c10 f4 f5 f7 f8 f9 f10 l1 l2 v0 v1 v2 v3 v4 v5 v6
        obtain ⟨c3, c4, c5, c7, c8, c9, c10⟩ := HN7.out.cm
        obtain ⟨f4, f5, f7, f8, f9, f10⟩ := HN7.out.fm
        obtain ⟨l1, l2⟩ := HN7.out.lt
        obtain ⟨v0, v1, v2, v3, v4, v5, v6⟩ := unit_cells HN7.out.u
        go_wp2
        go_ret
        have et : m.takes u = false := by unfold Md.takes; rw [HN1.out] at hff; simp [hff]
        have eh : m.hear u = (false, { m with acked := A, plc := R, w0 := m.w1, w1 := false }) := by
          unfold Md.hear
          rw [HEw.out.1, et, HEw.out.2]
          rfl
        have ho := HOk.out
        rw [eh] at ho ⊢
        rw [hfl] at ho ⊢
        have hf := HN7.out
        exact ⟨rfl, ⟨hf.m, ho, hsm⟩, hf.x⟩
    · have hkb : ((u.kind : Int) == 2) = false := by simp; omega
      go_wp2_with fail
      go_quiet (fail)
      generalize hW7 : w6.drewN nq = w7
      have HN7 := Lib.hid (HN6.out.later (show Below w6.heap.size w6 w7 by rw [← hW7]; exact below_draw _ _))
      clear hW7 HN6 c3 c4 c5 c7 c8 c9 c10 f4 f5 f7 f8 f9 f10 l1 l2 v0 v1 v2 v3 v4 v5 v6
      obtain ⟨c3, c4, c5, c7, c8, c9, c10⟩ := HN7.out.cm
      obtain ⟨f4, f5, f7, f8, f9, f10⟩ := HN7.out.fm
      obtain ⟨l1, l2⟩ := HN7.out.lt
      obtain ⟨v0, v1, v2, v3, v4, v5, v6⟩ := unit_cells HN7.out.u
      go_wp2
      go_ret
      have et : m.takes u = false := by unfold Md.takes; simp [hk]
      have eh : m.hear u = (false, { m with acked := A, plc := R, w0 := m.w1, w1 := false }) := by
        unfold Md.hear
        rw [HEw.out.1, et, HEw.out.2]
        rfl
      have ho := HOk.out
      rw [eh] at ho ⊢
      rw [hfl] at ho ⊢
      have hf := HN7.out
      exact ⟨rfl, ⟨hf.m, ho, hsm⟩, hf.x⟩
set_option maxHeartbeats 1000000 in
set_option maxRecDepth 100000 in
theorem mhear_state (b : Nat) (u : Un) (s' : Option Addr) (n c : Nat) (w : World) (hk : u.kind = 1) :
    Calls Try.prog 15 #[.pointer (some ⟨b, 0, none⟩), .agg (unCells u s' n c).toArray] w fun e w' => e = .returned (.bool false) ∧ Below w.heap.size w w' := by
  obtain ⟨W0, hW0⟩ : ∃ W, W = w.alloc (.cells (unCells u s' n c).toArray 45) := ⟨_, rfl⟩
  have hb0 : Below w.heap.size w W0 := by rw [hW0]; exact below_alloc _ _
  have k1 : ((u.kind : Int) == 1) = true := by simp; omega
  have HW := Lib.hid hW0
  have HB := Lib.hid hb0
  clear hW0 hb0 hk
  simp only [unCells] at HW ⊢
  go_enter Try.func15, Try.ntmps15
  go_wp2
  go_ret
  exact ⟨rfl, by rw [← HW.out]; exact HB.out⟩
end Go.Proofs.Ytdjnflfcolpccaa
