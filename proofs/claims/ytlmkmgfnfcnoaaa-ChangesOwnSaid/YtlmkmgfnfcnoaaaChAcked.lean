/- Ends of layer 16: Acked: the items that have arrived are wiped out and let go. -/
import Derived.Test.YtlmkmgfnfcnoaaaChSettle
namespace Go.Proofs.Ytlmkmgfnfcnoaaa
open Go.RowKit

/-- clear(v[:p]) of items: behind the first p all is as it was. -/
theorem its_clear {w : World} {g : Option Nat} {a : Option Addr} {n c : Nat} {cs : List Value} (h : Buf w 38 8 g a n c cs) (p : Nat) (hp : p ≤ n) (ty : TypeId) :
    ∃ w' cs', (Builtin.clear_ #[42] ty #[.slice a p c]).run Try.prog w = .ok (.tuple #[]) w' ∧ Buf w' 38 8 g a n c cs' ∧ cs'.drop (p * 8) = cs.drop (p * 8) ∧ Exc (fun k => g = some k) w w' := by
  rcases h.lies with ⟨rfl, h2, h3⟩ | ⟨k, o, rs, rfl, h2, h3, h4, h5⟩
  · refine ⟨w, cs, ?_, h, rfl, Exc.refl _ _⟩
    simp [Builtin.clear_, run_underlying und_it]
  · by_cases hp0 : p = 0
    · subst hp0
      refine ⟨w, cs, ?_, h, rfl, Exc.refl _ _⟩
      simp [Builtin.clear_, run_underlying und_it]
    · have hle := h.le
      have hnc : n * 8 ≤ c * 8 := Nat.mul_le_mul_right 8 hle
      have hpn : p * 8 ≤ n * 8 := Nat.mul_le_mul_right 8 hp
      obtain ⟨i0, hi, hz, hs, _⟩ := info_parts info_it
      have hv : ∀ W, (zeroValue 38).run Try.prog W = .ok (.agg zeroIt.toArray) W := fun W => by simp [zeroValue, typeInfo, hi, hz]
      obtain ⟨zs, hzs⟩ : ∃ zs, zs = (Builtin.zeroCells zeroIt.toArray p).toList := ⟨_, rfl⟩
      have hzl : zs.length = p * 8 := by rw [hzs, Array.length_toList, size_zeroCells]; rfl
      have hz1 : ∀ u ∈ zs, u.oneCell' = true := fun u hu => by
        rw [hzs] at hu
        simp only [Builtin.zeroCells, Array.toList_map, List.mem_map] at hu
        obtain ⟨j, _, rfl⟩ := hu
        have hlt : j % 8 < 8 := Nat.mod_lt _ (by decide)
        show (zeroIt.toArray[j % 8]!).oneCell' = true
        have : ∀ m : Fin 8, (zeroIt.toArray[m.val]!).oneCell' = true := by decide
        exact this ⟨j % 8, hlt⟩
      have hst := run_storeCells_cells (P := Try.prog) k o zs 0 w (fun j hj => by rw [Nat.add_zero, h3.cell (o + j) (by omega)]; rfl) (fun j hj => h3.frozen _) hz1
      rw [Nat.add_zero] at hst
      have hown := Own.setCells zs o h3
      have hcl : cs.length = n * 8 := h.len
      refine ⟨_, zs ++ cs.drop (p * 8), ?_, ⟨by rw [List.length_append, hzl, List.length_drop, hcl]; omega, hle, h.max, .inr ⟨k, o, _, rfl, h2, hown, by rw [setL_length]; exact h4, fun j hj => ?_⟩⟩, ?_, exc_setCells (S := fun i => g = some i) h2 zs o (Exc.refl _ _)⟩
      · obtain ⟨m, rfl⟩ : ∃ m, p = m + 1 := ⟨p - 1, by omega⟩
        rw [hzs] at hst ⊢
        have hcells : (Value.agg zeroIt.toArray).cells = zeroIt.toArray := rfl
        simp [Builtin.clear_, run_underlying und_it, hv, hcells, hst]
      · rw [setL_getD _ _ _ _ (by omega)]
        by_cases hj2 : j < p * 8
        · rw [if_pos (by omega), getD_append_left (by omega)]; congr 1; omega
        · rw [if_neg (by omega), h5 j hj, getD_append_right (by omega), hzl]
          simp only [List.getD_eq_getElem?_getD, List.getElem?_drop]
          rw [show p * 8 + (j - p * 8) = j by omega]
      · rw [List.drop_append, hzl, Nat.sub_self, List.drop_of_length_le (by omega)]; rfl
/-- v[:p] of items. -/
theorem its_front (a : Option Addr) (n c p : Nat) (hp : p ≤ n) (hle : n ≤ c) (W : World) :
    (Instr.slice 42 (.slice a n c) none (some (.int .i64 (p : Int))) none).run Try.prog W = .ok (.slice a p c) W ∧ (Instr.sliceAt 42 (.slice a n c) none (some (.int .i64 (p : Int))) none).run Try.prog W = .ok (.slice a p c) W := by
  have key : (Instr.slice 42 (.slice a n c) none (some (.int .i64 (p : Int))) none).run Try.prog W = .ok (.slice a p c) W := by
    rw [run_slice_h W 42 a n c und_it2 .i64 (p : Int) (by omega) (by omega), elem_it, size_it]
    simp [sliced, Result.andThen]
    intro _
    rcases a with _ | ⟨b, o, s⟩ <;> simp [Addr.add]
  exact ⟨key, by rw [run_sliceAt_slice _ _ _ _ _ _ und_it2]; exact key⟩
/-- Of the end's items the first D are let go. -/
def AckOut (w : World) (b : Nat) (x : Ed) (N D : Nat) (e : Ending) (w' : World) : Prop :=
  e = .returned (.int .i64 0) ∧ ∃ a c, EdTo w b x { x with its := x.its.drop D, acked := N, a := a, c := c } w'
theorem EdAt.cutI {w w' : World} {b : Nat} {x : Ed} {D N : Nat} {a' : Option Addr} {c' : Nat} (h : EdAt w b x) (hx : Exc (x.T b) w w') (hb : Buf w' 38 8 x.g a' (x.its.length - D) c' ((cellsIt x.its).drop (D * 8))) (hN : N = x.acked + D) (hD : D ≤ x.its.length)
    (ho : Own w' b 60 (edCells { x with its := x.its.drop D, acked := N, a := a', c := c' })) : EdTo w b x { x with its := x.its.drop D, acked := N, a := a', c := c' } w' := by
  refine ⟨⟨ho, ?_, ?_, h.gb, ?_, h.lst, h.st3, h.wf⟩, hx, fun k hk => .inl ?_⟩
  · show Buf w' _ 8 x.g a' (x.its.drop D).length c' (cellsIt (x.its.drop D))
    rw [List.length_drop, ← cellsIt_drop]; exact hb
  · exact (h.its.exc hx (fun _ hk => hk)).part (fun y hy => List.mem_of_mem_drop hy)
  · show N + (x.its.drop D).length ≤ 60000
    have := h.few
    rw [List.length_drop]; omega
  · rcases hk with hk | ⟨y, hy, z, hz, hk⟩
    · exact .inl hk
    · exact .inr ⟨y, List.mem_of_mem_drop hy, z, hz, hk⟩
set_option maxHeartbeats 4000000 in
set_option maxRecDepth 100000 in
theorem acked_ok (b : Nat) (x : Ed) (N D : Nat) (w : World) (h : EdAt w b x) (hst : x.st = 0) (hN : N = x.acked + D) (hD : D ≤ x.its.length) :
    Calls Try.prog 11 #[.pointer (some ⟨b, 0, none⟩), .int .i64 (N : Int)] w fun e w' => AckOut w b x N D e w' := by
  have HC := Lib.hid (check_ok b x 0 w h hst)
  have H := Lib.hid h
  have HSn := Lib.hid (fun W hW => sent_any b x W hW)
  have hfew := h.few
  obtain ⟨K, hK⟩ : ∃ K, K = x.acked := ⟨_, rfl⟩
  obtain ⟨M, hM⟩ : ∃ M, M = x.its.length := ⟨_, rfl⟩
  obtain ⟨S, hS⟩ : ∃ S, S = x.acked + x.its.length := ⟨_, rfl⟩
  rw [← hS] at HSn
  rw [← hK] at hN hfew
  rw [← hM] at hD hfew
  have l1 : ¬ (N : Int) < 0 := by omega
  have d2 : decide (S < N) = false := by simp; omega
  have hw : IntKind.i64.wrap ((N : Int) - (K : Int)) = (D : Int) := by rw [IntWalk.i64_in _ (by omega)]; omega
  have hw2 : IntKind.i64.wrap ((K : Int) + (D : Int)) = (N : Int) := by rw [IntWalk.i64_in _ (by omega)]; omega
  have m1 : max (D : Int) 0 = (D : Int) := by omega
  have m2 : ¬ (D : Int) < 0 := by omega
  have HN := Lib.hid hN
  have HD := Lib.hid hD
  have HK := Lib.hid hK
  have HM := Lib.hid hM
  clear h hst hN hD hS hfew hK hM
  go_enter Try.func11, Try.ntmps11
  go_wp2_with fail
  refine HC.out.mono ?_
  rintro e w' ⟨rfl, q, rfl⟩
  have h2 := H.out.later (below_draw w q)
  generalize hW2 : w.drewN q = w2 at h2 ⊢
  have hb2 : Below w.heap.size w w2 := by rw [← hW2]; exact below_draw w q
  have H2 := Lib.hid h2
  have HB2 := Lib.hid hb2
  clear h2 hb2 hW2
  go_wp2_with fail
  with_reducible refine (HSn.out _ H2.out).mono ?_
  rintro e w3 ⟨rfl, q3, hq3⟩
  have hb3 : Below w2.heap.size w2 w3 := by rw [hq3]; exact below_draw w2 q3
  have h3 := H2.out.later hb3
  obtain ⟨_, _, c2, c3, _, _⟩ := h3.cells
  have f2 := h3.own.frozen 2
  have f3 := h3.own.frozen 3
  have hbuf := h3.buf
  rw [← HM.out] at c2 hbuf
  rw [← HK.out] at c3
  obtain ⟨s1, s2⟩ := its_front x.a M x.c D HD.out hbuf.le w3
  obtain ⟨w4, cs', hcl, hbuf4, hcs, hx34⟩ := its_clear hbuf D HD.out 0
  obtain ⟨A, t1, t2, hbuf5⟩ := its_cut hbuf4 D HD.out
  obtain ⟨c', hc'⟩ : ∃ c', c' = x.c - D := ⟨_, rfl⟩
  obtain ⟨M', hM'⟩ : ∃ M', M' = M - D := ⟨_, rfl⟩
  rw [← hc', ← hM'] at t1 t2 hbuf5
  rw [hcs] at hbuf5
  have g2 := hx34.cell c2 (fun hk => h3.gb _ hk rfl)
  have g3 := hx34.cell c3 (fun hk => h3.gb _ hk rfl)
  have o4 := h3.own.exc hx34 (fun hk => h3.gb _ hk rfl)
  have e2 := o4.frozen 2
  have e3 := o4.frozen 3
  have H3 := Lib.hid h3
  have HB3 := Lib.hid (HB2.out.trans (hb3.mono HB2.out.size))
  have HX34 := Lib.hid hx34
  have HO4 := Lib.hid o4
  have HBuf5 := Lib.hid hbuf5
  have HM2 := Lib.hid hM'
  clear h3 hb3 hq3 hx34 o4 hbuf hbuf4 hbuf5 hcs hc' hM'
  go_wp2
  have hx45 := Blk.more (Blk.exc b 2 (.slice A M' c') w4) 3 (.int .i64 (N : Int))
  have ho := (HO4.out.set 2 (.slice A M' c')).set 3 (.int .i64 (N : Int))
  have hfin := H3.out.cutI (D := D) (N := N) (a' := A) (c' := c') ((HX34.out.weak (fun _ _ hk => .inr hk)).trans hx45 (fun _ _ hk => .inl hk)) (by
    rw [← HM.out, ← HM2.out]
    exact HBuf5.out.exc hx45 (fun k hk => H3.out.gb k hk)) (by rw [← HK.out]; exact HN.out) (by rw [← HM.out]; exact HD.out) (by
    have e : edCells { x with its := x.its.drop D, acked := N, a := A, c := c' } = ((edCells x).set 2 (.slice A M' c')).set 3 (.int .i64 (N : Int)) := by simp [edCells, HM2.out, HM.out]
    rw [e]; exact ho)
  go_ret
  exact ⟨rfl, A, c', hfin.after HB3.out⟩
end Go.Proofs.Ytlmkmgfnfcnoaaa
