/- Contracts of package units: the closure of Decode, unitOf. -/
import Derived.Test.YtnecdmihnndebaaDoorUnEnc
import Derived.Test.YtnecdmihnndebaaDoorFrCut
namespace Go.Proofs.YtnecdmihnndebaaDoor
open Go.RowKit

set_option maxHeartbeats 1000000 in
set_option maxRecDepth 100000 in
theorem number_any (i g b o n c : Nat) (x : Int) (w : World) (hx0 : 0 ≤ x) (hx1 : x ≤ 255) (hi : i < n) (hg : w.cell? ⟨g, 0, none⟩ = some (.slice (some ⟨b, o, none⟩) n c)) (hc : w.cell? ⟨b, o + i, none⟩ = some (.int .u8 x)) :
    Calls Tryd.prog 38 #[.int .i64 (i : Int), .pointer (some ⟨g, 0, none⟩)] w fun e w' => e = .returned (.tuple #[.int .u8 (x % 128), .bool (decide (128 ≤ x))]) ∧ ∃ q, w' = w.drewN q := by
  have ha := andNot_mark hx0 hx1
  have hb := and_mark hx0 hx1
  by_cases h : 128 ≤ x
  · rw [if_pos h] at hb
    rw [decide_eq_true h]
    go_enter Tryd.func38, Tryd.ntmps38
    go_wp2
    go_quiet (fail)
    go_wp2
    go_ret2
    exact ⟨rfl, _, rfl⟩
  · rw [if_neg h] at hb
    rw [decide_eq_false h]
    go_enter Tryd.func38, Tryd.ntmps38
    go_wp2
    go_quiet (fail)
    go_wp2
    go_ret2
    exact ⟨rfl, _, rfl⟩
def kindL (l : List Int) : Int := if l.length = 0 then 0 else if l.length = 1 then 1 else 2
def statL (l : List Int) : Int := if l.length = 1 then l.getD 0 0 else 0
def loadL (l : List Int) : List Int := if 2 ≤ l.length then l else []
set_option maxHeartbeats 2000000 in
set_option maxRecDepth 100000 in
theorem unitOf_any (a : Option Addr) (n c : Nat) (l : List Int) (w : World) (h : Row .u8 w a n c l) (hn : n ≤ 1000) (m : Nat) (hm : (loadL l).length = m) :
    Calls Tryd.prog 39 #[.slice a n c] w fun e w' =>
      (∃ s, e = .returned (.agg #[.int .u8 0, .bool false, .int .u8 0, .bool false, .int .u8 (kindL l), .int .u8 (statL l), .slice s m m]) ∧ LoadAt w' w.heap.size s (loadL l)) ∧ Below w.heap.size w w' := by
  have hl := h.len
  by_cases hn0 : n = 0
  · subst hn0
    have hnil := List.eq_nil_of_length_eq_zero hl
    subst hnil
    obtain rfl : m = 0 := by rw [← hm]; rfl
    have e1 : kindL [] = 0 := rfl
    have e2 : statL [] = 0 := rfl
    have e3 : loadL [] = [] := rfl
    rw [e1, e2, e3]
    clear h hl hm
    go_enter Tryd.func39, Tryd.ntmps39
    go_wp2
    exact bodyPost_ret (v := .agg #[.int .u8 0, .bool false, .int .u8 0, .bool false, .int .u8 0, .int .u8 0, .slice none 0 0]) (by simp [results, Tryd.results39, go_sem]) rfl ⟨⟨none, rfl, .inl ⟨rfl, rfl⟩⟩, below_alloc _ _⟩
  · by_cases hn1 : n = 1
    · subst hn1
      obtain ⟨x, rfl⟩ : ∃ x, l = [x] := List.length_eq_one_iff.1 hl
      rcases h.cells with h0 | ⟨b, o, rfl, hc⟩
      · omega
      have g0 := hc 0 (by decide)
      simp only [Nat.add_zero, List.getD_cons_zero] at g0
      have hx := (wf_u8.1 (h.wf x (by simp)))
      obtain rfl : m = 0 := by rw [← hm]; rfl
      have e1 : kindL [x] = 1 := rfl
      have e2 : statL [x] = x := rfl
      have e3 : loadL [x] = [] := rfl
      rw [e1, e2, e3]
      have hblt : b < w.heap.size := World.block_lt_of_cell? w _ g0
      clear h hl hm hc hn0
      go_enter Tryd.func39, Tryd.ntmps39
      go_wp2
      exact bodyPost_ret (v := .agg #[.int .u8 0, .bool false, .int .u8 0, .bool false, .int .u8 1, .int .u8 x, .slice none 0 0]) (by simp [results, Tryd.results39, go_sem]) rfl ⟨⟨none, rfl, .inl ⟨rfl, rfl⟩⟩, below_alloc _ _⟩
    · have hn2 : 2 ≤ n := by omega
      have e1 : kindL l = 2 := by unfold kindL; rw [if_neg (by omega), if_neg (by omega)]
      have e2 : statL l = 0 := by unfold statL; rw [if_neg (by omega)]
      have e3 : loadL l = l := by unfold loadL; rw [if_pos (by omega)]
      rw [e3] at hm
      obtain rfl : n = m := by omega
      rw [e1, e2, e3]
      obtain ⟨_, hle, hmx, hw, hc, _⟩ := h
      unfold maxLen at hmx
      have t0 : ((n : Int) == 0) = false := by simpa using hn0
      have t1 : ((n : Int) == 1) = false := by simp; omega
      have hmk := make8 n (by omega)
      obtain ⟨cs, hcs⟩ : ∃ cs, cs = nums .u8 l := ⟨_, rfl⟩
      have hlen : cs.length = n := by rw [hcs, nums_length, hl]
      obtain ⟨b, o, rfl, hcc⟩ : ∃ b off, a = some ⟨b, off, none⟩ ∧ ∀ i, i < n → w.cell? ⟨b, off + i, none⟩ = some (.int .u8 (l.getD i 0)) := by
        rcases hc with h0 | h0
        · omega
        · exact h0
      have hsrc : ∀ j v, cs[j]? = some v → b < w.heap.size ∧ w.cell? ⟨b, o + j, none⟩ = some v := by
        intro j v hj
        have hjn : j < n := by
          rw [← hlen]; exact (List.getElem?_eq_some_iff.1 hj).1
        refine ⟨World.block_lt_of_cell? w _ (hcc j hjn), ?_⟩
        rw [hcc j hjn, ← hj, hcs, nums, List.getElem?_map, List.getD_eq_getElem?_getD, List.getElem?_eq_getElem (by omega)]
        rfl
      have HC := Lib.hid hcs
      have HS := Lib.hid hsrc
      have HN := Lib.hid hlen
      have HL := Lib.hid hl
      clear hl hm hw hcs hsrc hlen hc hcc hn0 hn1 e1 e2 e3
      go_enter Tryd.func39, Tryd.ntmps39
      go_wp2_with (with_reducible refine wpList_copy_splice rfl (.tmp 18) (.tmp 19) 23 23 rfl 5 Tryd.underlying23 size8 _ _ n n n c rfl rfl (w.heap.size + 1) 0 (nums .u8 (List.replicate n 0)) 5 ?_ cs ?_ ?_ ?_ ?_ (w.heap.size + 1) (w.alloc (.cells #[.int .u8 0, .bool false, .int .u8 0, .bool false, .int .u8 0, .int .u8 0, .slice none 0 0] 29)) ?_ (Nat.le_refl _) ?_)
      · have := own_made .u8 n 5 (w.alloc (.cells #[.int .u8 0, .bool false, .int .u8 0, .bool false, .int .u8 0, .int .u8 0, .slice none 0 0] 29))
        rw [World.size_alloc] at this
        exact this
      · rw [HN.out]; simp
      · intro hpos
        intro j v hj
        obtain ⟨hb', hcell⟩ := HS.out j v hj
        have hbb : Below w.heap.size w ((w.alloc (.cells #[.int .u8 0, .bool false, .int .u8 0, .bool false, .int .u8 0, .int .u8 0, .slice none 0 0] 29)).alloc (.cells (madeCells #[.int .u8 0] n) 5)) := ((Below.refl _ _).alloc (Nat.le_refl _) _).alloc (by simp) _
        rw [hbb.cell (p := ⟨b, o + j, none⟩) hb']
        exact hcell
      · rw [HN.out, nums_length, List.length_replicate]; omega
      · intro v hv
        rw [HC.out, nums, List.mem_map] at hv
        obtain ⟨y, _, rfl⟩ := hv
        rfl
      · exact (Below.refl _ _).alloc (by simp) _
      · intro w' hg hb
        have hg2 := hg.out
        have hown : Own w' (w.heap.size + 1) 5 (nums .u8 l) := by
          unfold Own
          rw [hg2]
          congr 3
          rw [splice, HC.out, nums_length, HL.out]
          simp [nums]
        have hlt := hown.lt
        have hz := (own_lit w 29 #[.int .u8 0, .bool false, .int .u8 0, .bool false, .int .u8 0, .int .u8 0, .slice none 0 0] _ rfl).below hb (by omega)
        obtain ⟨z0, z1, z2, z3, z4, z5, z6⟩ := unit_cells hz
        obtain ⟨f0, f1, f2, f3, f4, f5, f6⟩ := unit_frozen hz
        have HB := Lib.hid ((below_alloc w _).trans (hb.mono (Nat.le_succ _)))
        have HO := Lib.hid hown
        clear hg hg2 hb hown hz
        go_wp2
        have HX := Lib.hid ((((((((Exc.refl (fun k => k = w.heap.size) w').setCell ⟨w.heap.size, 0, none⟩ (.inl rfl) (.int .u8 0)).setCell ⟨w.heap.size, 1, none⟩ (.inl rfl) (.bool false)).setCell ⟨w.heap.size, 2, none⟩ (.inl rfl) (.int .u8 0)).setCell ⟨w.heap.size, 3, none⟩ (.inl rfl) (.bool false)).setCell ⟨w.heap.size, 4, none⟩ (.inl rfl) (.int .u8 2)).setCell ⟨w.heap.size, 5, none⟩ (.inl rfl) (.int .u8 0)).setCell ⟨w.heap.size, 6, none⟩ (.inl rfl) (.slice (some ⟨w.heap.size + 1, 0, none⟩) n n))
        refine bodyPost_ret (v := .agg #[.int .u8 0, .bool false, .int .u8 0, .bool false, .int .u8 2, .int .u8 0, .slice (some ⟨w.heap.size + 1, 0, none⟩) n n]) (by simp [results, Tryd.results39, go_sem, z0, z1, z2, z3, z4, z5, z6]) rfl ⟨⟨some ⟨w.heap.size + 1, 0, none⟩, rfl, .inr ⟨_, rfl, Nat.le_succ _, ?_⟩⟩, ?_⟩
        · exact HO.out.exc HX.out (by omega)
        · exact HB.out.trans (HX.out.below HB.out.size (fun i _ hi => by omega))
end Go.Proofs.YtnecdmihnndebaaDoor
