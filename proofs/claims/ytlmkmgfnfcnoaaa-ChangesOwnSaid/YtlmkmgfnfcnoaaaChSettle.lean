/- Ends of layer 16: what Told and Tick return: settle. -/
import Derived.Test.YtlmkmgfnfcnoaaaChGet
import Derived.Test.YtlmkmgfnfcnoaaaChClone
import Derived.Test.YtlmkmgfnfcnoaaaChSum
namespace Go.Proofs.Ytlmkmgfnfcnoaaa
open Go.RowKit

/-- v[p:] of items: one equation of the run, one reading. -/
theorem its_cut {w : World} {g : Option Nat} {a : Option Addr} {n c : Nat} {cs : List Value} (h : Buf w 38 8 g a n c cs) (p : Nat) (hp : p ≤ n) :
    ∃ A : Option Addr, (∀ W, (Instr.slice 42 (.slice a n c) (some (.int .i64 (p : Int))) none none).run Try.prog W = .ok (.slice A (n - p) (c - p)) W) ∧
      (∀ W, (Instr.sliceAt 42 (.slice a n c) (some (.int .i64 (p : Int))) none none).run Try.prog W = .ok (.slice A (n - p) (c - p)) W) ∧ Buf w 38 8 g A (n - p) (c - p) (cs.drop (p * 8)) := by
  have hle := h.le
  have key : ∀ W, (Instr.slice 42 (.slice a n c) (some (.int .i64 (p : Int))) none none).run Try.prog W = .ok (.slice (if c = p then a else a.map (·.add (p * 8))) (n - p) (c - p)) W := by
    intro W
    rw [run_slice_l W 42 a n c und_it2 .i64 (p : Int) (by omega) (by omega), elem_it, size_it]
    simp [sliced, Result.andThen]
  refine ⟨_, key, fun W => by rw [run_sliceAt_slice _ _ _ _ _ _ und_it2]; exact key W, ?_⟩
  exact h.cut p hp (if c = p then a else a.map (·.add (p * 8))) (fun hlt b o ha => by rw [if_neg (by omega), ha]; simp [Addr.add]) (fun he => by rw [if_pos he.symm])
theorem Buf.clip {w : World} {t sz : Nat} {g : Option Nat} {a : Option Addr} {n c : Nat} {cs : List Value} (h : Buf w t sz g a n c cs) : Buf w t sz g a n n cs := by
  refine ⟨h.len, Nat.le_refl _, Nat.le_trans h.le h.max, ?_⟩
  have hle := h.le
  rcases h.lies with ⟨h1, h2, h3⟩ | ⟨k, o, rs, h1, h2, h3, h4, h5⟩
  · exact .inl ⟨h1, h2, by omega⟩
  · exact .inr ⟨k, o, rs, h1, h2, h3, by have : n * sz ≤ c * sz := Nat.mul_le_mul_right sz hle; omega, h5⟩
def Ed.idle (x : Ed) : Ed := ⟨2, [], 0, x.last, 0, none, none, 0⟩
/-- Settled: the items from the D-th on are handed out. -/
def SettleOut (w : World) (b : Nat) (x : Ed) (D : Nat) (f : Value → Value) (e : Ending) (w' : World) : Prop :=
  ∃ A, e = .returned (f (.slice A (x.its.length - D) (x.its.length - D))) ∧ ItsIn w' (fun k => x.S b k ∧ k ≠ b) A (x.its.drop D) ∧ EdTo w b x x.idle w'
set_option maxHeartbeats 4000000 in
set_option maxRecDepth 100000 in
theorem settle_ok (b : Nat) (x : Ed) (L D : Nat) (w : World) (h : EdAt w b x) (hL : L = x.acked + D) (hD : D ≤ x.its.length) :
    Calls Try.prog 27 #[.pointer (some ⟨b, 0, none⟩), .int .i64 (L : Int)] w fun e w' => SettleOut w b x D id e w' := by
  obtain ⟨A, hs1, hs2, hbuf⟩ := its_cut h.buf D hD
  have hfew := h.few
  obtain ⟨K, hK⟩ : ∃ K, K = x.acked := ⟨_, rfl⟩
  obtain ⟨M, hM⟩ : ∃ M, M = x.its.length - D := ⟨_, rfl⟩
  obtain ⟨C, hC⟩ : ∃ C, C = x.c - D := ⟨_, rfl⟩
  rw [← hK] at hL hfew
  have hw : IntKind.i64.wrap ((L : Int) - (K : Int)) = (D : Int) := by rw [IntWalk.i64_in _ (by omega)]; omega
  rw [← hM, ← hC] at hs1 hs2 hbuf
  have hcp : ∀ q, Calls Try.prog 31 #[.slice A M C] (w.drewN q) fun e w' => e = .returned (.slice A M M) ∧ w' = w.drewN q := fun q => (clipIt_any A M C (w.drewN q) hbuf.le hbuf.max).mono fun _ _ ⟨h1, h2⟩ => ⟨h1, h2.symm⟩
  obtain ⟨c0, c1, c2, c3, c4, c5⟩ := h.cells
  rw [← hK] at c3
  have H := Lib.hid h
  have HCp := Lib.hid hcp
  have HBuf := Lib.hid hbuf
  have HN := Lib.hid (And.intro hM (And.intro hC hK))
  clear h hbuf hL hM hC hK hcp hfew
  go_enter Try.func27, Try.ntmps27
  go_wp2_with fail
  go_quiet ((go_at_call 31; exact Calls.quiet_of_same (HCp.out _)))
  have h2 := H.out.later (below_draw w nq)
  have hbuf2 := HBuf.out.later (below_draw w nq)
  clear c0 c1 c2 c3 c4 c5
  generalize hW2 : w.drewN nq = w2 at h2 hbuf2 ⊢
  have hb2 : Below w.heap.size w w2 := by rw [← hW2]; exact below_draw w nq
  obtain ⟨c0, c1, c2, c3, c4, c5⟩ := h2.cells
  have f0 := h2.own.frozen 0
  have f1 := h2.own.frozen 1
  have f2 := h2.own.frozen 2
  have f3 := h2.own.frozen 3
  have f4 := h2.own.frozen 4
  have f5 := h2.own.frozen 5
  have H2 := Lib.hid h2
  have HBuf2 := Lib.hid hbuf2
  have HB2 := Lib.hid hb2
  clear h2 hb2 hbuf2 hW2 hs1 hs2 hw
  go_wp2
  have hx := Blk.more (Blk.more (Blk.more (Blk.more (Blk.more (Blk.exc b 0 (.bool true) w2) 1 (.int .u8 2)) 2 (.slice none 0 0)) 3 (.int .i64 0)) 4 (.int .i64 (x.last : Int))) 5 (.int .i64 0)
  have ho := ((((((H2.out.own.set 0 (.bool true)).set 1 (.int .u8 2)).set 2 (.slice none 0 0)).set 3 (.int .i64 0)).set 4 (.int .i64 (x.last : Int))).set 5 (.int .i64 0))
  have hfin := H2.out.empty (y := x.idle) hx (by
    have e : edCells x.idle = (((((((edCells x).set 0 (.bool true)).set 1 (.int .u8 2)).set 2 (.slice none 0 0)).set 3 (.int .i64 0)).set 4 (.int .i64 (x.last : Int))).set 5 (.int .i64 0)) := by simp [edCells, Ed.idle]
    rw [e]; exact ho) rfl rfl rfl rfl (by show 0 ≤ 60000; decide) H2.out.lst (by show 2 ≤ 2; decide) (by show _ ≤ (0 : Int) ∧ (0 : Int) ≤ _; decide)
  go_ret
  obtain ⟨e1, e2, e3⟩ := HN.out
  have hb3 := (HBuf2.out.clip).exc hx (fun k hk => H2.out.gb k hk)
  refine ⟨A, by rw [← e1]; rfl, ⟨⟨x.g, ?_, fun k hk => ⟨.inl (.inr hk), H2.out.gb k hk⟩⟩, fun y hy => ?_, fun y hy z hz => ?_⟩, hfin.after HB2.out⟩
  · rw [List.length_drop, ← e1, ← cellsIt_drop]; exact hb3
  · have hy2 := List.mem_of_mem_drop hy
    exact (H2.out.its.row y hy2).exc hx fun z hz hk => (H2.out.its.off y hy2 z hz).1 (.inl hk)
  · have hy2 := List.mem_of_mem_drop hy
    exact ⟨.inr ⟨y, hy2, z, hz, rfl⟩, fun hk => (H2.out.its.off y hy2 z hz).1 (.inl hk)⟩
set_option maxHeartbeats 4000000 in
set_option maxRecDepth 100000 in
theorem told_ok (b : Nat) (x : Ed) (L D : Nat) (w : World) (h : EdAt w b x) (hst : x.st = 1) (hL : L = x.acked + D) (hD : D ≤ x.its.length) :
    Calls Try.prog 13 #[.pointer (some ⟨b, 0, none⟩), .int .i64 (L : Int)] w fun e w' => SettleOut w b x D (fun v => .tuple #[v, .int .i64 0]) e w' := by
  have HC := Lib.hid (check_ok b x 1 w h hst)
  have H := Lib.hid h
  have HSe := Lib.hid (fun W hW => settle_ok b x L D W hW hL hD)
  have HSn := Lib.hid (fun W hW => sent_any b x W hW)
  obtain ⟨K, hK⟩ : ∃ K, K = x.acked := ⟨_, rfl⟩
  obtain ⟨S, hS⟩ : ∃ S, S = x.acked + x.its.length := ⟨_, rfl⟩
  rw [← hS] at HSn
  have l1 : ¬ L < K := by omega
  have l2 : ¬ S < L := by omega
  have d1 : decide (L < K) = false := by simp; omega
  have d2 : decide (S < L) = false := by simp; omega
  have HK := Lib.hid hK
  clear h hst hL hD hK hS
  go_enter Try.func13, Try.ntmps13
  go_wp2_with fail
  refine HC.out.mono ?_
  rintro e w' ⟨rfl, q, rfl⟩
  have h2 := H.out.later (below_draw w q)
  generalize hW2 : w.drewN q = w2 at h2 ⊢
  have hb2 : Below w.heap.size w w2 := by rw [← hW2]; exact below_draw w q
  have c3 := h2.cells.2.2.2.1
  rw [← HK.out] at c3
  have H2 := Lib.hid h2
  have HB2 := Lib.hid hb2
  clear h2 hb2 hW2
  go_wp2_with fail
  with_reducible refine (HSn.out _ H2.out).mono ?_
  rintro e w3 ⟨rfl, q3, rfl⟩
  go_wp2_with fail
  with_reducible refine (HSe.out _ (H2.out.later (below_draw w2 q3))).mono ?_
  rintro e w4 ⟨A, rfl, hin, hto⟩
  have HIn := Lib.hid hin
  have HTo := Lib.hid (hto.after (HB2.out.trans ((below_draw w2 q3).mono HB2.out.size)))
  clear hin hto
  dsimp only [id]
  go_wp2
  go_ret2
  exact ⟨A, rfl, HIn.out, HTo.out⟩
set_option maxHeartbeats 4000000 in
set_option maxRecDepth 100000 in
/-- A number that is known to have arrived, and a smaller one is told. -/
theorem told_low (b : Nat) (x : Ed) (L : Nat) (w : World) (h : EdAt w b x) (hst : x.st = 1) (hL : L < x.acked) :
    Calls Try.prog 13 #[.pointer (some ⟨b, 0, none⟩), .int .i64 (L : Int)] w fun e w' => e = .returned (.tuple #[.slice none 0 0, .int .i64 1]) ∧ ∃ q, w' = w.drewN q := by
  have HC := Lib.hid (check_ok b x 1 w h hst)
  have H := Lib.hid h
  obtain ⟨K, hK⟩ : ∃ K, K = x.acked := ⟨_, rfl⟩
  rw [← hK] at hL
  have d1 : decide (L < K) = true := by simp; omega
  have HK := Lib.hid hK
  clear h hst hK
  go_enter Try.func13, Try.ntmps13
  go_wp2_with fail
  refine HC.out.mono ?_
  rintro e w' ⟨rfl, q, rfl⟩
  have h2 := H.out.later (below_draw w q)
  have c3 := h2.cells.2.2.2.1
  rw [← HK.out] at c3
  clear h2
  go_wp2
  go_ret2
  exact ⟨rfl, q, rfl⟩
set_option maxHeartbeats 4000000 in
set_option maxRecDepth 100000 in
theorem tick_ok (b : Nat) (x : Ed) (t base : Int) (w : World) (h : EdAt w b x) (hst : x.st = 1) (hbase : -9223372036854775808 ≤ base ∧ base ≤ 9223372036854775807) (hle : satI x.failed base ≤ t) :
    Calls Try.prog 20 #[.pointer (some ⟨b, 0, none⟩), .int .i64 t, .int .i64 base] w fun e w' => SettleOut w b x 0 (fun v => .tuple #[v, .bool true]) e w' := by
  have HC := Lib.hid (check_ok b x 1 w h hst)
  have H := Lib.hid h
  have HSe := Lib.hid (fun W hW => settle_ok b x x.acked 0 W hW rfl (Nat.zero_le _))
  have HSm := Lib.hid (fun W => sum_any x.failed base W h.wf hbase)
  obtain ⟨S, hS⟩ : ∃ S, S = satI x.failed base := ⟨_, rfl⟩
  rw [← hS] at HSm hle
  have l1 : ¬ t < S := by omega
  have d1 : decide (t < S) = false := by simp; omega
  clear h hst hS hbase
  go_enter Try.func20, Try.ntmps20
  go_wp2_with fail
  refine HC.out.mono ?_
  rintro e w' ⟨rfl, q, rfl⟩
  have h2 := H.out.later (below_draw w q)
  generalize hW2 : w.drewN q = w2 at h2 ⊢
  have hb2 : Below w.heap.size w w2 := by rw [← hW2]; exact below_draw w q
  obtain ⟨_, _, _, c3, _, c5⟩ := h2.cells
  have H2 := Lib.hid h2
  have HB2 := Lib.hid hb2
  clear h2 hb2 hW2
  go_wp2_with fail
  with_reducible refine (HSm.out _).mono ?_
  rintro e w3 ⟨rfl, rfl⟩
  go_wp2_with fail
  with_reducible refine (HSe.out _ H2.out).mono ?_
  rintro e w4 ⟨A, rfl, hin, hto⟩
  have HIn := Lib.hid hin
  have HTo := Lib.hid (hto.after HB2.out)
  clear hin hto
  dsimp only [id]
  go_wp2
  go_ret2
  exact ⟨A, rfl, HIn.out, HTo.out⟩
set_option maxHeartbeats 4000000 in
set_option maxRecDepth 100000 in
theorem tick_early (b : Nat) (x : Ed) (t base : Int) (w : World) (h : EdAt w b x) (hst : x.st = 1) (hbase : -9223372036854775808 ≤ base ∧ base ≤ 9223372036854775807) (hlt : t < satI x.failed base) :
    Calls Try.prog 20 #[.pointer (some ⟨b, 0, none⟩), .int .i64 t, .int .i64 base] w fun e w' => e = .returned (.tuple #[.slice none 0 0, .bool false]) ∧ ∃ q, w' = w.drewN q := by
  have HC := Lib.hid (check_ok b x 1 w h hst)
  have H := Lib.hid h
  have HSm := Lib.hid (fun W => sum_any x.failed base W h.wf hbase)
  obtain ⟨S, hS⟩ : ∃ S, S = satI x.failed base := ⟨_, rfl⟩
  rw [← hS] at HSm hlt
  have d1 : decide (t < S) = true := by simp; omega
  clear h hst hS hbase
  go_enter Try.func20, Try.ntmps20
  go_wp2_with fail
  refine HC.out.mono ?_
  rintro e w' ⟨rfl, q, rfl⟩
  have c5 := (H.out.later (below_draw w q)).cells.2.2.2.2.2
  go_wp2_with fail
  with_reducible refine (HSm.out _).mono ?_
  rintro e w3 ⟨rfl, rfl⟩
  go_wp2
  go_ret2
  exact ⟨rfl, q, rfl⟩
set_option maxHeartbeats 4000000 in
set_option maxRecDepth 100000 in
theorem tick_not (b : Nat) (x : Ed) (t base : Int) (w : World) (h : EdAt w b x) (hst : x.st ≠ 1) :
    Calls Try.prog 20 #[.pointer (some ⟨b, 0, none⟩), .int .i64 t, .int .i64 base] w fun e w' => e = .returned (.tuple #[.slice none 0 0, .bool false]) ∧ ∃ q, w' = w.drewN q := by
  have HC := Lib.hid (check_bad b x 1 w h hst)
  clear h hst
  go_enter Try.func20, Try.ntmps20
  go_wp2_with fail
  refine HC.out.mono ?_
  rintro e w' ⟨rfl, q, rfl⟩
  go_wp2
  go_ret2
  exact ⟨rfl, q, rfl⟩
end Go.Proofs.Ytlmkmgfnfcnoaaa
