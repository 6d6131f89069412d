/- Contracts: withStuffed, limited, Stuff. -/
import Derived.Test.YtnecdmihnndebaaDoorFrPieces
import Derived.Test.YtnecdmihnndebaaDoorCheck
namespace Go.Proofs.YtnecdmihnndebaaDoor
open Go.RowKit

theorem row_at {k : IntKind} {w : World} {a : Option Addr} {n c : Nat} {l : List Int} (h : Row k w a n c l) {i : Nat} (hi : i < n) : ∃ b o, a = some ⟨b, o, none⟩ ∧ w.cell? ⟨b, o + i, none⟩ = some (.int k (l.getD i 0)) := by
  rcases h.cells with h0 | ⟨b, o, ha, hc⟩
  · omega
  · exact ⟨b, o, ha, hc i hi⟩
theorem bin_getD {l : List Int} (h : Bin l) {i : Nat} (hi : i < l.length) : l.getD i 0 = 0 ∨ l.getD i 0 = 1 := by
  rw [List.getD_eq_getElem?_getD, List.getElem?_eq_getElem hi, Option.getD_some]
  exact h _ (List.getElem_mem hi)
theorem cnt_run {l : List Int} {x : Int} (hx : x = 0 ∨ x = 1) : cnt (runEnd 1 l) x = runEnd 1 (l ++ [x]) := by
  unfold cnt; rw [runEnd_snoc]; rcases hx with rfl | rfl <;> simp
set_option maxHeartbeats 1000000 in
theorem withStuffed_any (B : Nat) (v : Value) (n : Nat) (xs : List Int) (a : Option Addr) (m c : Nat) (l : List Int) (w : World) (hB : B ≤ w.heap.size) (hown : w.ownsRow B 5 1 v n (nums .u8 xs)) (hn : n ≤ 1099511627776)
    (hrow : Row .u8 w a m c l) (hbin : Bin l) (hm : m ≤ 16777216) (hsep : ∀ z, a = some z → v.ownBlock ≠ some z.block) :
    Calls Tryd.prog 19 #[v, .slice a m c] w fun e w' => ∃ v', e = .returned v' ∧ w'.ownsRow B 5 1 v' (n + (stuff l).length) (nums .u8 (xs ++ stuff l)) ∧ Grow v w v' w' := by
  have hmc := hrow.le
  have hcm := hrow.max
  unfold maxLen at hcm
  have HO := Lib.hid hown
  have HR := Lib.hid hrow
  have HB := Lib.hid hbin
  have HS := Lib.hid hsep
  clear hown hrow hbin hsep
  go_enter Tryd.func19, Tryd.ntmps19
  go_wp2_with fail
  go_loopw [0, 5, 7, 10] (fun v1 o _ i wr => ∃ k : Nat, ∃ r : Int, k ≤ m ∧ i = .int .i64 k ∧ o = .int .i64 r ∧ r = runEnd 1 (stuff (l.take k)) ∧ Grow v w v1 wr ∧ wr.ownsRow B 5 1 v1 (n + (stuff (l.take k)).length) (nums .u8 (xs ++ stuff (l.take k)))) (fun _ _ _ i _ => m - (intOf i).toNat)
  case atStart => exact ⟨0, 0, Nat.zero_le _, rfl, rfl, rfl, Grow.refl _ _, by simpa [stuff] using HO.out⟩
  case round =>
    obtain ⟨k, r, hk, rfl, rfl, hr, hgr, hown⟩ := hrel
    by_cases hlt : k < m
    · have hrow1 := HR.out.exc hgr.exc HS.out
      obtain ⟨b, o, rfl, g0⟩ := row_at hrow1 hlt
      have hlk : k < l.length := by rw [HR.out.len]; exact hlt
      have hx01 := bin_getD HB.out hlk
      have ht := take_succ' hlk
      obtain ⟨x, hx⟩ : ∃ x, x = l.getD k 0 := ⟨_, rfl⟩
      rw [← hx] at g0 hx01 ht
      obtain ⟨p, hp⟩ : ∃ p, p = stuff (l.take k) := ⟨_, rfl⟩
      have hs4 := stuff_runs (l.take k)
      have hr0 := runEnd_nonneg 1 (stuff (l.take k))
      have hlen := stuff_length_le (l.take k)
      have hsn := stuff_snoc (l.take k) x
      rw [← ht] at hsn
      rw [← hp] at hr hs4 hr0 hlen hsn hown
      rw [List.length_take] at hlen
      have hplen : p.length ≤ 20132660 := by omega
      rw [← hr] at hs4 hr0
      obtain ⟨hs4, _⟩ := hs4
      have hq := cnt_run (l := p) hx01
      rw [← hr] at hq
      obtain ⟨q, hqq⟩ : ∃ q, q = cnt r x := ⟨_, rfl⟩
      have hcon := fun w => counted_any r x w hr0 (by omega)
      rw [← hqq] at hq hcon
      have HT := Lib.hid hsn
      have HQ := Lib.hid hq
      have HG := Lib.hid hgr
      have HW := Lib.hid hown
      have HC := Lib.hid hcon
      have hsz : B ≤ wr.heap.size := Nat.le_trans hB hgr.exc.size
      clear hgr hown hcon hq hqq hsn ht hx hp hr hlen hrow1
      go_wp2_with (at_builtin; refine wpList_append_one Tryd.underlying23 info8 (by decide) rfl _ _ rfl B _ _ _ _ rfl (by exact HW.out) rfl (by omega) hsz ?_)
      intro v1 w1 h1 h2 g c1 h3
      have H1 := Lib.hid h1
      have H2 := Lib.hid h2
      have hsz1 : B ≤ w1.heap.size := Nat.le_trans hsz h2.exc.size
      clear h1 h2 h3
      go_wp2_with fail
      refine (HC.out w1).mono ?_
      rintro e w' ⟨rfl, rfl⟩
      by_cases h5 : q = 5
      · have ht5 : (q == 5) = true := by simpa using h5
        have H5 := Lib.hid h5
        clear h5
        go_wp2_with (at_builtin; refine wpList_append_one Tryd.underlying23 info8 (by decide) rfl _ _ rfl B _ _ _ _ rfl (by exact H1.out) rfl (by omega) hsz1 ?_)
        intro v2 w2 h4 h5 g2 c2 h6
        have H3 := Lib.hid h4
        have H4 := Lib.hid h5
        clear h4 h5 h6
        go_wp2
        have e2 : stuff (l.take (k + 1)) = p ++ [x, 0] := by rw [HT.out, if_pos]; rw [← HQ.out]; exact H5.out
        refine ⟨⟨k + 1, 0, by omega, by go_num, rfl, ?_, HG.out.trans (H2.out.trans H4.out), ?_⟩, by simp [intOf]; omega⟩
        · rw [e2, show p ++ [x, 0] = (p ++ [x]) ++ [0] by simp, runEnd_snoc, if_neg (by decide)]
        · rw [e2]
          have := H3.out
          simpa [Nat.add_assoc] using this
      · have ht5 : (q == 5) = false := by simpa using h5
        have H5 := Lib.hid h5
        clear h5
        go_wp2
        have e2 : stuff (l.take (k + 1)) = p ++ [x] := by rw [HT.out, if_neg]; rw [← HQ.out]; exact H5.out
        refine ⟨⟨k + 1, q, by omega, by go_num, rfl, ?_, HG.out.trans H2.out, ?_⟩, by simp [intOf]; omega⟩
        · rw [e2]; exact HQ.out
        · rw [e2]
          have := H1.out
          simpa [Nat.add_assoc] using this
    · obtain rfl : k = m := by omega
      rw [List.take_of_length_le (by rw [HR.out.len]; exact Nat.le_refl _)] at hown
      have HG := Lib.hid hgr
      have HW := Lib.hid hown
      clear hgr hown hr
      go_wp2
      go_ret
      exact ⟨_, rfl, HW.out, HG.out⟩
theorem limited_big (a : Option Addr) (n c : Nat) (w : World) (h : 1048576 < n) (hn : n ≤ 281474976710656) :
    Calls Tryd.prog 21 #[.slice a n c] w fun e w' => e = .returned (.tuple #[.slice none 0 0, .int .i64 3]) ∧ w = w' := by
  go_enter Tryd.func21, Tryd.ntmps21
  go_wp2
  go_ret2
  exact ⟨rfl, rfl⟩
theorem limited_ok (a : Option Addr) (n c : Nat) (w : World) (h : n ≤ 1048576) (hle : n ≤ c) (hm : c ≤ 9223372036854775807) (ha : ∀ x, a = some x → x.spot = none) :
    Calls Tryd.prog 21 #[.slice a n c] w fun e w' => e = .returned (.tuple #[.slice a n n, .int .i64 0]) ∧ w = w' := by
  have hc := clip8_any a n c w hle hm ha
  have H := Lib.hid hc
  clear hc ha
  go_enter Tryd.func21, Tryd.ntmps21
  go_wp2_with fail
  refine H.out.mono ?_
  rintro e w' ⟨rfl, rfl⟩
  go_wp2
  go_ret2
  exact ⟨rfl, rfl⟩
/-- A list without spare capacity in new memory, or nil. -/
def Tight (l : List Int) (B : Nat) (v : Value) (w' : World) : Prop := ∃ a, v = .slice a l.length l.length ∧ Row .u8 w' a l.length l.length l ∧ ∀ z, a = some z → z.spot = none ∧ B ≤ z.block
theorem Row.tight {k : IntKind} {w : World} {a : Option Addr} {n c : Nat} {l : List Int} (h : Row k w a n c l) : Row k w a n n l :=
  ⟨h.len, Nat.le_refl _, Nat.le_trans h.le h.max, h.wf, h.cells, fun hn => by have := h.isNil hn; have := h.le; omega⟩
theorem bin_wf {l : List Int} (h : Bin l) : ∀ x ∈ l, (Lit.int .u8 x).wf = true := fun x hx => wf_u8.2 (by have := h x hx; omega)
theorem ownsRow_low {w : World} {B e n : Nat} {k : IntKind} {v : Value} {l : List Int} (h : w.ownsRow B e 1 v n (nums k l)) (hw : ∀ x ∈ l, (Lit.int k x).wf = true) :
    ∃ a c, v = .slice a n c ∧ Row k w a n c l ∧ ∀ z, a = some z → z.spot = none ∧ B ≤ z.block := by
  obtain ⟨a, c, rfl, hr, hs⟩ := ownsRow_rowN k h hw
  refine ⟨a, c, rfl, hr, fun z hz => ⟨hs z hz, ?_⟩⟩
  subst hz
  exact (ownBlock_lt h rfl).1
end Go.Proofs.YtnecdmihnndebaaDoor
