/- Contracts: Join, Frame. -/
import Derived.Test.YtnecdmihnndebaaDoorFrStuff
import Derived.Test.YtnecdmihnndebaaDoorOf
namespace Go.Proofs.YtnecdmihnndebaaDoor
open Go.RowKit

theorem Mat.at {P : Nat → Prop} {T : Bool} {w : World} {a : Option Addr} {n c : Nat} {L : List (List Int)} (h : Mat w P T a n c L) {i : Nat} (hi : i < n) :
    ∃ b o ra m rc l, a = some ⟨b, o, none⟩ ∧ w.cell? ⟨b, o + i, none⟩ = some (.slice ra m rc) ∧ Row .u8 w ra m rc l ∧ (T = true → rc = m) ∧ (∀ z, ra = some z → P z.block) ∧ L.getD i [] = l ∧ l.length = m := by
  rcases h.cells with h0 | ⟨b, o, ha, hp, hc⟩
  · omega
  · obtain ⟨v, hv, ra, rc, rfl, hr, ht, hz⟩ := hc i hi
    exact ⟨b, o, ra, _, rc, _, ha, hv, hr, ht, hz, rfl, rfl⟩
theorem take_succL {L : List (List Int)} {k : Nat} (h : k < L.length) : L.take (k + 1) = L.take k ++ [L.getD k []] := by
  rw [List.take_succ_eq_append_getElem h]
  simp [List.getD_eq_getElem?_getD, h]
theorem getDL_mem {L : List (List Int)} {k : Nat} (h : k < L.length) : L.getD k [] ∈ L := by
  rw [List.getD_eq_getElem?_getD, List.getElem?_eq_getElem h, Option.getD_some]; exact List.getElem_mem h
def lenOk (l : List Int) : Prop := 5 ≤ l.length ∧ l.length ≤ 280
set_option maxHeartbeats 400000 in
theorem join_bad (P : Nat → Prop) (T : Bool) (a : Option Addr) (n c : Nat) (L : List (List Int)) (w : World) (h : Mat w P T a n c L) (hbad : ∃ l ∈ L, ¬ lenOk l) :
    Calls Tryd.prog 7 #[.slice a n c] w fun e w' => e = .returned (.tuple #[.slice none 0 0, .int .i64 5]) ∧ w = w' := by
  have hmc := h.le
  have hcm := h.max
  unfold maxLen at hcm
  have H := Lib.hid h
  have HB := Lib.hid hbad
  clear h hbad
  go_enter Tryd.func7, Tryd.ntmps7
  go_wp2_with fail
  go_loop [5, 11] (fun _ i => ∃ k : Nat, k ≤ n ∧ i = .int .i64 k ∧ ∀ l ∈ L.take k, lenOk l) (fun _ i => n - (intOf i).toNat)
  case atStart => exact ⟨0, Nat.zero_le _, rfl, by simp⟩
  case round =>
    obtain ⟨k, hk, rfl, hok⟩ := hrel
    by_cases hlt : k < n
    · obtain ⟨b, o, ra, m, rc, l, rfl, hv, hr, _, _, hl, hm⟩ := H.out.at hlt
      have ht := take_succL (L := L) (k := k) (by rw [H.out.len]; exact hlt)
      rw [hl] at ht
      have HK := Lib.hid hok
      have HT := Lib.hid ht
      have HM := Lib.hid hm
      have hrl := hr.le
      have hrm := hr.max
      unfold maxLen at hrm
      clear hok ht hr hl hm
      by_cases h5 : m < 5
      · go_wp2
        go_ret2
        exact ⟨rfl, rfl⟩
      · by_cases h280 : 280 < m
        · go_wp2
          go_ret2
          exact ⟨rfl, rfl⟩
        · go_wp2
          refine ⟨⟨k + 1, by omega, by go_num, ?_⟩, by simp [intOf]; omega⟩
          rw [HT.out]
          intro l' hl'
          rcases List.mem_append.1 hl' with h1 | h1
          · exact HK.out l' h1
          · simp at h1
            subst h1
            have := HM.out
            unfold lenOk
            omega
    · exfalso
      obtain rfl : k = n := by omega
      obtain ⟨l, hl, hnot⟩ := HB.out
      rw [List.take_of_length_le (by rw [H.out.len]; exact Nat.le_refl _)] at hok
      exact hnot (hok l hl)
theorem FlagOk.pos {w : World} (h : FlagOk w) : 0 < w.heap.size := by
  have := World.block_lt_of_cell? w _ (h 0 (by decide))
  exact this
set_option maxRecDepth 20000 in
set_option maxHeartbeats 1000000 in
theorem join_ok (P : Nat → Prop) (T : Bool) (a : Option Addr) (n c : Nat) (L : List (List Int)) (w : World) (hf : FlagOk w) (h : Mat w P T a n c L) (hok : ∀ l ∈ L, lenOk l) (hn : n ≤ 300) :
    Calls Tryd.prog 7 #[.slice a n c] w fun e w' => ∃ v, e = .returned (.tuple #[v, .int .i64 0]) ∧ Tight (joinL L) w.heap.size v w' ∧ Below w.heap.size w w' := by
  have hmc := h.le
  have hcm := h.max
  unfold maxLen at hcm
  have hwf := withFlag_any w.heap.size (.slice none 0 0) 0 [] w hf (Nat.le_refl _) (by simpa [nums] using World.ownsRow_nil w w.heap.size 5 1) (by omega)
  have H := Lib.hid h
  have HF := Lib.hid hf
  have HOk := Lib.hid hok
  have HW := Lib.hid hwf
  clear h hf hok hwf
  go_enter Tryd.func7, Tryd.ntmps7
  go_wp2_with fail
  go_loop [5, 11] (fun _ i => ∃ k : Nat, k ≤ n ∧ i = .int .i64 k) (fun _ i => n - (intOf i).toNat)
  case atStart => exact ⟨0, Nat.zero_le _, rfl⟩
  case round =>
    obtain ⟨k, hk, rfl⟩ := hrel
    by_cases hlt : k < n
    · obtain ⟨b, o, ra, m, rc, l, rfl, hv, hr, _, _, hl, hm⟩ := H.out.at hlt
      have hlo := HOk.out _ (getDL_mem (L := L) (k := k) (by rw [H.out.len]; exact hlt))
      rw [hl] at hlo
      unfold lenOk at hlo
      rw [hm] at hlo
      obtain ⟨hlo1, hlo2⟩ := hlo
      clear hr hl hm
      go_wp2
      exact ⟨⟨k + 1, by omega, by go_num⟩, by simp [intOf]; omega⟩
    · go_wp2_with fail
      refine HW.out.mono ?_
      rintro e w1 ⟨v1, rfl, hown, hgr, _⟩
      have hown : w1.ownsRow w.heap.size 5 1 v1 (joinL (L.take 0)).length (nums .u8 (joinL (L.take 0))) := by simpa [joinL, flagL] using hown
      have HO := Lib.hid hown
      have HG := Lib.hid hgr
      clear hown hgr
      go_wp2_with fail
      go_loopw [6, 8, 27] (fun v _ i wr => ∃ k : Nat, k ≤ n ∧ i = .int .i64 k ∧ Grow (.slice none 0 0) w v wr ∧ wr.ownsRow w.heap.size 5 1 v (joinL (L.take k)).length (nums .u8 (joinL (L.take k)))) (fun _ _ i _ => n - (intOf i).toNat)
      case atStart => exact ⟨0, Nat.zero_le _, rfl, HG.out, HO.out⟩
      case round =>
        obtain ⟨j, hj, rfl, hgr, hown⟩ := hrel
        by_cases hlt2 : j < n
        · have hmat := H.out.later hgr.nil
          obtain ⟨b, o, ra, m, rc, l, rfl, hv, hr, _, _, hl, hm⟩ := hmat.at hlt2
          have hLl : j < L.length := by rw [H.out.len]; exact hlt2
          have hlo := HOk.out _ (getDL_mem hLl)
          have ht := take_succL hLl
          rw [hl] at hlo ht
          unfold lenOk at hlo
          rw [hm] at hlo
          obtain ⟨hlo1, hlo2⟩ := hlo
          have hof := of_any ra m rc l wr hr (by omega)
          have hjl : (joinL (L.take j)).length ≤ 842408 := joinL_length (L.take j) 300 280 (fun b hb => (HOk.out b (List.mem_of_mem_take hb)).2) (by rw [List.length_take]; omega)
          have hjl2 : (joinL (L.take (j + 1))).length ≤ 842408 := joinL_length (L.take (j + 1)) 300 280 (fun b hb => (HOk.out b (List.mem_of_mem_take hb)).2) (by rw [List.length_take]; omega)
          have HOf := Lib.hid hof
          have HG2 := Lib.hid hgr
          have HO2 := Lib.hid hown
          have HT := Lib.hid ht
          have HM := Lib.hid hm
          clear hof hgr hown hmat hr hl ht hm
          go_wp2_with fail
          refine HOf.out.mono ?_
          rintro e w2 ⟨rfl, hb2, ho2⟩
          have hown2 := ownsRow_below HO2.out hb2
          have hrow2 : Row .u8 w2 (some ⟨wr.heap.size, 0, none⟩) (8 * m) (8 * m) (ofL l) := ho2.row0 _ _ (by rw [ofL_length, HM.out]) (Nat.le_refl _) (by unfold maxLen; omega) (bin_wf (bin_ofL l))
          have hws := withStuffed_any w.heap.size _ _ _ _ _ _ _ w2 (Nat.le_trans HG2.out.exc.size hb2.size) hown2 (by omega) hrow2 (bin_ofL l) (by omega) (fun z hz hh => by
            simp at hz
            subst hz
            have := (ownBlock_lt HO2.out hh).2
            simp only at this
            omega)
          have HB2 := Lib.hid hb2
          have HWs := Lib.hid hws
          clear hb2 ho2 hown2 hrow2 hws
          go_wp2_with fail
          refine HWs.out.mono ?_
          rintro e w3 ⟨v3, rfl, hown3, hgr3⟩
          have hg3 := (HG2.out.more HB2.out).trans hgr3
          have hf3 := HF.out.later hg3.nil
          have hsl := stuff_length_le (ofL l)
          have hsl0 := runEnd_nonneg 1 (stuff (ofL l))
          rw [ofL_length, HM.out] at hsl
          have hwf3 := withFlag_any w.heap.size v3 _ _ w3 hf3 (hg3.exc.size) hown3 (by omega)
          have HG3 := Lib.hid hg3
          have HWf3 := Lib.hid hwf3
          clear hown3 hgr3 hg3 hf3 hwf3 hsl hsl0
          go_wp2_with fail
          refine HWf3.out.mono ?_
          rintro e w4 ⟨v4, rfl, hown4, hgr4, g4, c4, hv4⟩
          have hg4 := HG3.out.trans hgr4
          have e1 : joinL (L.take (j + 1)) = joinL (L.take j) ++ stuff (ofL l) ++ flagL := by rw [HT.out, joinL_snoc]
          obtain ⟨N, hN⟩ : ∃ N, N = (joinL (L.take (j + 1))).length := ⟨_, rfl⟩
          have e2 : (joinL (L.take j)).length + (stuff (ofL l)).length + 8 = N := by rw [hN, e1, List.length_append, List.length_append]; rfl
          rw [← e1, e2] at hown4
          rw [e2] at hv4
          rw [← hN] at hjl2
          subst hv4
          have HG4 := Lib.hid hg4
          have HO4 := Lib.hid hown4
          have HN := Lib.hid hN
          clear hown4 hgr4 hg4 e1 e2 hjl hN hv
          go_wp2
          refine ⟨⟨j + 1, by omega, by go_num, HG4.out, ?_⟩, by simp [intOf]; omega⟩
          rw [← HN.out]
          exact HO4.out
        · obtain rfl : j = n := by omega
          rw [List.take_of_length_le (by rw [H.out.len]; exact Nat.le_refl _)] at hown
          have hjl : (joinL L).length ≤ 842408 := joinL_length L 300 280 (fun b hb => (HOk.out b hb).2) (by rw [H.out.len]; omega)
          obtain ⟨a', c', rfl, hrow, hlow⟩ := ownsRow_low hown (bin_wf (bin_joinL L))
          have hl := limited_ok a' (joinL L).length c' wr (by omega) hrow.le (by have := hrow.max; unfold maxLen at this; omega) (fun z hz => (hlow z hz).1)
          have hbel := hgr.nil
          have HL := Lib.hid hl
          have HBel := Lib.hid hbel
          have HRow := Lib.hid hrow
          have HLow := Lib.hid hlow
          clear hl hown hgr hrow hlow hbel hjl
          go_wp2_with fail
          refine HL.out.mono ?_
          rintro e w'' ⟨rfl, rfl⟩
          go_wp2
          go_ret2
          exact ⟨_, rfl, ⟨a', rfl, HRow.out.tight, HLow.out⟩, HBel.out⟩
/-- A slice of slices of one element, laid by the call. -/
theorem mat_one {w : World} {P : Nat → Prop} {T : Bool} {v : Value} {l : List Int} (h : RowV w P T v l) : Mat (w.alloc (.cells #[v] 23)) (fun j => P j ∨ j = w.heap.size) T (some ⟨w.heap.size, 0, none⟩) 1 1 [l] := by
  refine ⟨rfl, Nat.le_refl _, by unfold maxLen; omega, .inr ⟨_, 0, rfl, .inr rfl, fun i hi => ?_⟩, by simp⟩
  obtain rfl : i = 0 := by omega
  have ho : Own (w.alloc (.cells #[v] 23)) w.heap.size 23 [v] := heap_alloc_new w _
  refine ⟨v, ho.cell 0 (by simp), ?_⟩
  exact (h.later (below_alloc w _)).mono (fun j _ hj => .inl hj) (.inr fun j hj => .inl hj)
theorem row_rowV {w : World} {a : Option Addr} {n c : Nat} {l : List Int} (h : Row .u8 w a n c l) : RowV w (fun _ => True) false (.slice a n c) l := by
  have := h.len
  subst this
  exact ⟨a, c, rfl, h, by simp, fun _ _ => trivial⟩
theorem frame_bad (a : Option Addr) (n c : Nat) (l : List Int) (w : World) (h : Row .u8 w a n c l) (hbad : ¬ lenOk l) :
    Calls Tryd.prog 26 #[.slice a n c] w fun e w' => e = .returned (.tuple #[.slice none 0 0, .int .i64 5]) ∧ Below w.heap.size w w' := by
  have hcon := join_bad _ _ _ _ _ _ _ (mat_one (row_rowV h)) ⟨l, by simp, hbad⟩
  have H := Lib.hid hcon
  clear hcon h hbad
  go_enter Tryd.func26, Tryd.ntmps26
  go_wp2_with fail
  refine H.out.mono ?_
  rintro e w' ⟨rfl, rfl⟩
  go_wp2
  go_ret2
  exact ⟨rfl, below_alloc _ _⟩
theorem frame_ok (a : Option Addr) (n c : Nat) (l : List Int) (w : World) (hf : FlagOk w) (h : Row .u8 w a n c l) (hok : lenOk l) :
    Calls Tryd.prog 26 #[.slice a n c] w fun e w' => ∃ v, e = .returned (.tuple #[v, .int .i64 0]) ∧ Tight (joinL [l]) w.heap.size v w' ∧ Below w.heap.size w w' := by
  have hcon := join_ok _ _ _ _ _ _ _ (hf.later (below_alloc w _)) (mat_one (row_rowV h)) (by simpa using hok) (by omega)
  have H := Lib.hid hcon
  clear hcon h hok hf
  go_enter Tryd.func26, Tryd.ntmps26
  go_wp2_with fail
  refine H.out.mono ?_
  rintro e w' ⟨v, rfl, ⟨a', rfl, hr, hlow⟩, hb⟩
  have hlow' : ∀ z, a' = some z → z.spot = none ∧ w.heap.size ≤ z.block := fun z hz => ⟨(hlow z hz).1, by have := (hlow z hz).2; rw [World.size_alloc] at this; omega⟩
  have HR := Lib.hid hr
  have HL := Lib.hid hlow'
  have HB := Lib.hid (below_call hb)
  clear hr hlow hlow' hb
  go_wp2
  go_ret2
  exact ⟨_, rfl, ⟨a', rfl, HR.out, HL.out⟩, HB.out⟩
end Go.Proofs.YtnecdmihnndebaaDoor
