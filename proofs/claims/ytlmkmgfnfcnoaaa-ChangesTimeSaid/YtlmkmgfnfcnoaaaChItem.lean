/- Layer 16: the statements' own items: item, is, run. -/
import Derived.Test.YtlmkmgfnfcnoaaaChSettle
namespace Go.Proofs.Ytlmkmgfnfcnoaaa
open Go.RowKit

/-- The item with a number. -/
def isIt (n : Nat) (y : It) : Prop := y.num = n ∧ y.sv = 5 ∧ y.dat = [(n : Int) % 256, (n : Int) / 256]
def ItemOut (w : World) (n : Nat) (e : Ending) (w' : World) : Prop :=
  ∃ g, e = .returned (.agg #[.int .i64 (n : Int), .int .u8 5, .int .u8 0, .int .u8 0, .int .u16 0, .int .u16 0, .int .u8 0, .slice (some ⟨g, 0, none⟩) 2 2]) ∧ Row .u8 w' (some ⟨g, 0, none⟩) 2 2 [(n : Int) % 256, (n : Int) / 256] ∧ Below w.heap.size w w'
set_option maxHeartbeats 2000000 in
set_option maxRecDepth 100000 in
theorem item_any (n : Nat) (w : World) (hn : n ≤ 60000) : Calls Try.prog 9 #[.int .i64 (n : Int)] w fun e w' => ItemOut w n e w' := by
  have h0 : (0 : Int) ≤ (n : Int) := by omega
  have h1 : (n : Int) ≤ 60000 := by omega
  go_enter Try.func9, Try.ntmps9
  go_wp2
  refine bodyPost_ret (v := .agg #[.int .i64 (n : Int), .int .u8 5, .int .u8 0, .int .u8 0, .int .u16 0, .int .u16 0, .int .u8 0, .slice (some ⟨w.heap.size + 1, 0, none⟩) 2 2]) (by simp [results, Try.results9, go_sem]) rfl ?_
  refine ⟨w.heap.size + 1, rfl, ?_, (below_alloc _ _).trans ((below_alloc _ _).mono (by simp))⟩
  have h2 := row_lit .u8 (w.alloc (.cells #[.int .i64 (n : Int), .int .u8 5, .int .u8 0, .int .u8 0, .int .u16 0, .int .u16 0, .int .u8 0, .slice (some ⟨w.heap.size + 1, 0, none⟩) 2 2] 38)) 5 [(n : Int) % 256, (n : Int) / 256] 2 rfl (by decide) (fun x hx => by
    simp only [List.mem_cons, List.not_mem_nil, or_false] at hx
    rcases hx with rfl | rfl <;> exact wf_u8.2 (by omega))
  rw [World.size_alloc] at h2
  exact h2
set_option maxHeartbeats 2000000 in
set_option maxRecDepth 100000 in
theorem is_yes (n : Nat) (nw pr tp fr sl : Int) (s : Option Addr) (w : World) (hn : n ≤ 60000) (hr : Row .u8 w s 2 2 [(n : Int) % 256, (n : Int) / 256]) :
    Calls Try.prog 28 #[.agg #[.int .i64 (n : Int), .int .u8 5, .int .u8 nw, .int .u8 pr, .int .u16 tp, .int .u16 fr, .int .u8 sl, .slice s 2 2], .int .i64 (n : Int)] w fun e w' => e = .returned (.bool true) ∧ Below w.heap.size w w' := by
  have h0 : (0 : Int) ≤ (n : Int) := by omega
  have h1 : (n : Int) ≤ 60000 := by omega
  obtain ⟨b, o, rfl, hc⟩ := hr.cells.resolve_left (by decide)
  have c0 := hc 0 (by decide)
  have c1 := hc 1 (by decide)
  simp only [List.getD_cons_zero, List.getD_cons_succ, Nat.add_zero] at c0 c1
  have hb := World.block_lt_of_cell? w _ c0
  simp only at hb
  have q1 : ((n : Int) == (n : Int)) = true := by simp
  have q2 : ((n : Int) % 256 == (n : Int) % 256) = true := by simp
  have q3 : ((n : Int) / 256 == (n : Int) / 256) = true := by simp
  clear hc hr
  go_enter Try.func28, Try.ntmps28
  go_wp2
  go_ret
  exact ⟨rfl, below_alloc _ _⟩
theorem ItsIn.at {w : World} {P : Nat → Prop} {a : Option Addr} {l : List It} (h : ItsIn w P a l) (d : It) {i : Nat} (hi : i < l.length) :
    ∃ k o, a = some ⟨k, o, none⟩ ∧ w.cell? ⟨k, o + i * 8, none⟩ = some (.int .i64 (l.getD i d).num) ∧ w.cell? ⟨k, o + i * 8 + 1, none⟩ = some (.int .u8 (l.getD i d).sv) ∧ w.cell? ⟨k, o + i * 8 + 2, none⟩ = some (.int .u8 (l.getD i d).nw) ∧ w.cell? ⟨k, o + i * 8 + 3, none⟩ = some (.int .u8 (l.getD i d).pr) ∧
      w.cell? ⟨k, o + i * 8 + 4, none⟩ = some (.int .u16 (l.getD i d).tp) ∧ w.cell? ⟨k, o + i * 8 + 5, none⟩ = some (.int .u16 (l.getD i d).fr) ∧ w.cell? ⟨k, o + i * 8 + 6, none⟩ = some (.int .u8 (l.getD i d).sl) ∧ w.cell? ⟨k, o + i * 8 + 7, none⟩ = some (.slice (l.getD i d).loc (l.getD i d).dat.length (l.getD i d).dat.length) ∧
      Row .u8 w (l.getD i d).loc (l.getD i d).dat.length (l.getD i d).dat.length (l.getD i d).dat := by
  obtain ⟨g, hb, _⟩ := h.buf
  obtain ⟨k, o, ha, _, hc⟩ := hb.cell (by omega)
  have hm : l.getD i d ∈ l := by rw [List.getD_eq_getElem?_getD, List.getElem?_eq_getElem hi]; exact List.getElem_mem hi
  have key : ∀ j, j < 8 → w.cell? ⟨k, o + i * 8 + j, none⟩ = some ((encIt (l.getD i d)).getD j undef) := fun j hj => by
    rw [Nat.add_assoc, hc (i * 8 + j) (by omega), cellsIt_getD l d hi hj]
  exact ⟨k, o, ha, key 0 (by decide), key 1 (by decide), key 2 (by decide), key 3 (by decide), key 4 (by decide), key 5 (by decide), key 6 (by decide), key 7 (by decide), h.row _ hm⟩
theorem ItsIn.nil_addr {w : World} {P : Nat → Prop} {a : Option Addr} {l : List It} (h : ItsIn w P a l) : l.length ≤ maxLen := by obtain ⟨g, hb, _⟩ := h.buf; exact hb.max
def It.none : It := ⟨0, 0, 0, 0, 0, 0, 0, [], Option.none⟩
set_option maxHeartbeats 4000000 in
set_option maxRecDepth 100000 in
theorem run_yes (w : World) (P : Nat → Prop) (a : Option Addr) (l : List It) (M F L : Nat) (h : ItsIn w P a l) (hM : l.length = M) (hF : F + M = L + 1) (hL : L ≤ 60000) (hi : ∀ i, i < M → isIt (F + i) (l.getD i It.none)) :
    Calls Try.prog 14 #[.slice a M M, .int .i64 (F : Int), .int .i64 (L : Int)] w fun e w' => e = .returned (.bool true) ∧ Below w.heap.size w w' := by
  have hw1 : IntKind.i64.wrap ((L : Int) - (F : Int)) = (L : Int) - (F : Int) := IntWalk.i64_in _ (by omega)
  have hw2 : IntKind.i64.wrap ((L : Int) - (F : Int) + 1) = (M : Int) := by rw [IntWalk.i64_in _ (by omega)]; omega
  have m1 : max (M : Int) 0 = (M : Int) := by omega
  have m2 : ¬ (M : Int) < 0 := by omega
  have q1 : ((M : Int) != (M : Int)) = false := by simp
  have hMm : M ≤ 60001 := by omega
  have H := Lib.hid h
  have HM := Lib.hid hM
  have HI := Lib.hid hi
  have HF := Lib.hid hF
  clear h hM hi hF
  go_enter Try.func14, Try.ntmps14
  go_wp2_with fail
  go_loopw [7] (fun kv wr => ∃ k : Nat, k ≤ M ∧ kv = .int .i64 k ∧ Below w.heap.size w wr) (fun kv _ => M - (intOf kv).toNat)
  case atStart => exact ⟨0, Nat.zero_le _, rfl, Below.refl _ _⟩
  case round =>
    obtain ⟨k, hk, rfl, hb⟩ := hrel
    have HX := Lib.hid hb
    by_cases hkn : k < M
    · obtain ⟨b, o, rfl, c0, c1, c2, c3, c4, c5, c6, c7, hr⟩ := (H.out.later hb).at It.none (by rw [HM.out]; exact hkn)
      obtain ⟨e1, e2, e3⟩ := HI.out k hkn
      generalize l.getD k It.none = y at c0 c1 c2 c3 c4 c5 c6 c7 hr e1 e2 e3
      rw [e1] at c0
      rw [e2] at c1
      rw [e3] at c7 hr
      simp only [List.length_cons, List.length_nil, Nat.zero_add, Nat.reduceAdd] at c7 hr
      have hwk : IntKind.i64.wrap ((F : Int) + (k : Int)) = ((F + k : Nat) : Int) := by rw [IntWalk.i64_in _ (by have := HF.out; omega)]; push_cast; rfl
      have HC := Lib.hid (is_yes (F + k) y.nw y.pr y.tp y.fr y.sl _ wr (by have := HF.out; omega) hr)
      have hkM : (k : Int) < (M : Int) := by omega
      have hk0 : (0 : Int) ≤ (k : Int) := by omega
      clear hr hb e1 e2 e3
      obtain ⟨N, hN⟩ : ∃ N : Nat, N = F + k := ⟨_, rfl⟩
      rw [← hN] at c0 hwk HC
      clear hN
      go_wp2_with fail
      with_reducible refine HC.out.mono ?_
      rintro e w2 ⟨rfl, hb2⟩
      have HX2 := Lib.hid (HX.out.trans (hb2.mono HX.out.size))
      clear hb2
      go_wp2
      exact ⟨⟨k + 1, by omega, by go_num, HX2.out⟩, by simp [intOf]; omega⟩
    · obtain rfl : k = M := by omega
      clear hb
      go_wp2
      go_ret
      exact ⟨rfl, HX.out⟩
end Go.Proofs.Ytlmkmgfnfcnoaaa
