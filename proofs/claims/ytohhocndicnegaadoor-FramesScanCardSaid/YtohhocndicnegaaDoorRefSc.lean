/- Contracts: the reference of frames: ends, plain, aborted. -/
import Derived.Test.YtohhocndicnegaaDoorRefFr
import Derived.Test.YtohhocndicnegaaDoorScMath
import Derived.Test.YtohhocndicnegaaDoorRefOctets
namespace Go.Proofs.YtohhocndicnegaaDoor
open Go.RowKit

/-- Positions as numbers. -/
def posI (l : List Nat) : List Int := l.map Int.ofNat
theorem posI_length (l : List Nat) : (posI l).length = l.length := by simp [posI]
theorem posI_getD (l : List Nat) (i : Nat) : (posI l).getD i 0 = ((l.getD i 0 : Nat) : Int) := by
  unfold posI
  by_cases h : i < l.length
  · simp [List.getD_eq_getElem?_getD, h]
  · simp [List.getD_eq_getElem?_getD, List.getElem?_eq_none (by omega : l.length ≤ i)]
theorem endsL_len (s : List Int) : (endsL s).length ≤ s.length := by
  induction s using snocInd with
  | h0 => simp [endsL]
  | h1 s b ih =>
    rw [endsL_snoc, List.length_append, List.length_append]
    split <;> simp <;> omega
set_option maxHeartbeats 1000000 in
theorem ends_any (a : Option Addr) (n c : Nat) (l : List Int) (w : World) (h : Row .u8 w a n c l) (hn : n ≤ 2097152) :
    Calls Tryd.prog 39 #[.slice a n c] w fun e w' => (∃ v a' c', e = .returned v ∧ v = .slice a' (endsL l).length c' ∧ Row .i64 w' a' (endsL l).length c' (posI (endsL l))) ∧ Below w.heap.size w w' := by
  have hmc := h.le
  have hcm := h.max
  unfold maxLen at hcm
  have H := Lib.hid h
  clear h
  go_enter Tryd.func39, Tryd.ntmps39
  go_wp2_with fail
  go_loopw [3, 4] (fun v i wr => ∃ k : Nat, k ≤ n ∧ i = .int .i64 k ∧ Grow (.slice none 0 0) w v wr ∧ wr.ownsRow w.heap.size 3 1 v (endsL (l.take k)).length (nums .i64 (posI (endsL (l.take k))))) (fun _ i _ => n - (intOf i).toNat)
  case atStart => exact ⟨0, Nat.zero_le _, rfl, Grow.refl _ _, by simpa [endsL, posI, nums] using World.ownsRow_nil w w.heap.size 3 1⟩
  case round =>
    obtain ⟨k, hk, rfl, hgr, hown⟩ := hrel
    by_cases hlt : k < n
    · have hrow1 := H.out.later hgr.nil
      have hones := ones_any a n c l k wr hrow1 (by omega)
      obtain ⟨b, o, rfl, g0⟩ := row_at hrow1 hlt
      have hlk : k < l.length := by rw [H.out.len]; exact hlt
      have ht := take_succ' hlk
      obtain ⟨x, hx⟩ : ∃ x, x = l.getD k 0 := ⟨_, rfl⟩
      rw [← hx] at g0 ht
      have hes := endsL_snoc (l.take k) x
      rw [← ht] at hes
      have hll : (l.take k).length = k := by rw [List.length_take]; omega
      rw [hll] at hes
      have hel := endsL_len (l.take k)
      rw [hll] at hel
      obtain ⟨N, hN⟩ : ∃ N, N = (endsL (l.take k)).length := ⟨_, rfl⟩
      rw [← hN] at hel hown
      obtain ⟨q, hq⟩ : ∃ q, q = runEnd 1 (l.take k) := ⟨_, rfl⟩
      rw [← hq] at hones hes
      have HOn := Lib.hid hones
      have HE := Lib.hid hes
      have HN := Lib.hid hN
      have HG := Lib.hid hgr
      have HW := Lib.hid hown
      have hsz : w.heap.size ≤ wr.heap.size := hgr.exc.size
      clear hones hes hN hgr hown hq hx ht hrow1
      by_cases h0 : x = 0
      · subst h0
        by_cases h6 : q = 6
        · have h6' : (q == 6) = true := by simpa using h6
          have HS := Lib.hid h6
          clear h6
          go_wp2_with fail
          refine HOn.out.mono ?_
          rintro e w' ⟨rfl, rfl⟩
          go_wp2_with (at_builtin; refine wpList_append_one Tryd.underlying60 info64 (by decide) rfl _ _ rfl w.heap.size _ _ _ _ rfl (by exact HW.out) rfl (by omega) hsz ?_)
          intro v1 w1 h1 h2 g c1 h3
          have H1 := Lib.hid h1
          have H2 := Lib.hid h2
          clear h1 h2 h3
          go_wp2
          refine ⟨⟨k + 1, by omega, by go_num, HG.out.trans H2.out, ?_⟩, by simp [intOf]; omega⟩
          have e1 : endsL (l.take (k + 1)) = endsL (l.take k) ++ [k + 1] := by rw [HE.out, if_pos ⟨by trivial, HS.out⟩]
          have e2 : posI (endsL (l.take (k + 1))) = posI (endsL (l.take k)) ++ [(k : Int) + 1] := by rw [e1]; simp [posI]
          rw [e2, e1, List.length_append, ← HN.out]
          exact H1.out
        · have h6' : (q == 6) = false := by simpa using h6
          have HS := Lib.hid h6
          clear h6
          go_wp2_with fail
          refine HOn.out.mono ?_
          rintro e w' ⟨rfl, rfl⟩
          go_wp2
          refine ⟨⟨k + 1, by omega, by go_num, HG.out, ?_⟩, by simp [intOf]; omega⟩
          have e1 : endsL (l.take (k + 1)) = endsL (l.take k) := by rw [HE.out, if_neg (fun hh => HS.out hh.2), List.append_nil]
          rw [e1, ← HN.out]
          exact HW.out
      · have h0' : (x == 0) = false := by simpa using h0
        have HS := Lib.hid h0
        clear h0
        go_wp2
        refine ⟨⟨k + 1, by omega, by go_num, HG.out, ?_⟩, by simp [intOf]; omega⟩
        have e1 : endsL (l.take (k + 1)) = endsL (l.take k) := by rw [HE.out, if_neg (fun hh => HS.out hh.1), List.append_nil]
        rw [e1, ← HN.out]
        exact HW.out
    · obtain rfl : k = n := by omega
      have hll := H.out.len
      rw [List.take_of_length_le (by omega)] at hown
      have hel := endsL_len l
      have hle := endsL_le l
      obtain ⟨a', c', rfl, hrow, _⟩ := ownsRow_low hown (fun x hx => by
        unfold posI at hx
        obtain ⟨y, hy, rfl⟩ := List.mem_map.1 hx
        have := hle y hy
        have e : (Int.ofNat y : Int) = (y : Int) := rfl
        rw [wf_i64, e]; omega)
      have HRow := Lib.hid hrow
      have HBel := Lib.hid hgr.nil
      clear hown hgr hrow hel hle
      go_wp2
      go_ret
      exact ⟨⟨_, a', c', rfl, rfl, HRow.out⟩, HBel.out⟩
set_option maxHeartbeats 1000000 in
theorem plain_any (a : Option Addr) (n c : Nat) (l : List Int) (w : World) (h : Row .u8 w a n c l) (hbin : Bin l) (hn : n ≤ 2097152) :
    Calls Tryd.prog 40 #[.slice a n c] w fun e w' => (∃ v a' c', e = .returned v ∧ v = .slice a' (plain l).length c' ∧ Row .u8 w' a' (plain l).length c' (plain l) ∧ ∀ z, a' = some z → z.spot = none) ∧ Below w.heap.size w w' := by
  have hmc := h.le
  have hcm := h.max
  unfold maxLen at hcm
  have H := Lib.hid h
  have HB := Lib.hid hbin
  clear h hbin
  go_enter Tryd.func40, Tryd.ntmps40
  go_wp2_with fail
  go_loopw [3, 4] (fun v i wr => ∃ k : Nat, k ≤ n ∧ i = .int .i64 k ∧ Grow (.slice none 0 0) w v wr ∧ wr.ownsRow w.heap.size 5 1 v (plain (l.take k)).length (nums .u8 (plain (l.take k)))) (fun _ i _ => n - (intOf i).toNat)
  case atStart => exact ⟨0, Nat.zero_le _, rfl, Grow.refl _ _, by simpa [plain, nums] using World.ownsRow_nil w w.heap.size 5 1⟩
  case round =>
    obtain ⟨k, hk, rfl, hgr, hown⟩ := hrel
    by_cases hlt : k < n
    · have hrow1 := H.out.later hgr.nil
      have hones := ones_any a n c l k wr hrow1 (by omega)
      obtain ⟨b, o, rfl, g0⟩ := row_at hrow1 hlt
      have hlk : k < l.length := by rw [H.out.len]; exact hlt
      have hx01 := bin_getD HB.out hlk
      have ht := take_succ' hlk
      obtain ⟨x, hx⟩ : ∃ x, x = l.getD k 0 := ⟨_, rfl⟩
      rw [← hx] at g0 ht hx01
      have hps := plain_snoc (l.take k) x
      rw [← ht] at hps
      have hpl := plain_length (l.take k)
      rw [List.length_take] at hpl
      obtain ⟨N, hN⟩ : ∃ N, N = (plain (l.take k)).length := ⟨_, rfl⟩
      rw [← hN] at hpl hown
      have hN2 : N ≤ 2097152 := by omega
      obtain ⟨q, hq⟩ : ∃ q, q = runEnd 1 (l.take k) := ⟨_, rfl⟩
      rw [← hq] at hones hps
      have HOn := Lib.hid hones
      have HP := Lib.hid hps
      have HN := Lib.hid hN
      have HG := Lib.hid hgr
      have HW := Lib.hid hown
      have hsz : w.heap.size ≤ wr.heap.size := hgr.exc.size
      clear hones hps hN hgr hown hq hx ht hrow1 hpl
      have key : ∀ (hc : x = 1 ∨ q ≠ 5) {v1 : Value} {w1 : World} (h1 : w1.ownsRow w.heap.size 5 1 v1 (N + 1) (nums .u8 (plain (l.take k) ++ [x]))), w1.ownsRow w.heap.size 5 1 v1 (plain (l.take (k + 1))).length (nums .u8 (plain (l.take (k + 1)))) := fun hc {v1 w1} h1 => by
        have e1 : plain (l.take (k + 1)) = plain (l.take k) ++ [x] := by rw [HP.out, if_pos hc]
        rw [e1, List.length_append, ← HN.out]
        exact h1
      have HK := Lib.hid key
      clear key
      rcases hx01 with rfl | rfl
      · by_cases h5 : q = 5
        · have h5' : (q != 5) = false := by simpa using h5
          have HS := Lib.hid h5
          clear h5
          go_wp2_with fail
          refine HOn.out.mono ?_
          rintro e w' ⟨rfl, rfl⟩
          go_wp2
          refine ⟨⟨k + 1, by omega, by go_num, HG.out, ?_⟩, by simp [intOf]; omega⟩
          have e1 : plain (l.take (k + 1)) = plain (l.take k) := by rw [HP.out, if_neg (fun hh => by rcases hh with h | h; cases h; exact h HS.out)]
          rw [e1, ← HN.out]
          exact HW.out
        · have h5' : (q != 5) = true := by simpa using h5
          have HS := Lib.hid h5
          clear h5
          go_wp2_with fail
          refine HOn.out.mono ?_
          rintro e w' ⟨rfl, rfl⟩
          go_wp2_with (at_builtin; refine wpList_append_one Tryd.underlying22 info8 (by decide) rfl _ _ rfl w.heap.size _ _ _ _ rfl (by exact HW.out) rfl (by omega) hsz ?_)
          intro v1 w1 h1 h2 g c1 h3
          have H1 := Lib.hid h1
          have H2 := Lib.hid h2
          clear h1 h2 h3
          go_wp2
          exact ⟨⟨k + 1, by omega, by go_num, HG.out.trans H2.out, HK.out (.inr HS.out) H1.out⟩, by simp [intOf]; omega⟩
      · go_wp2_with (at_builtin; refine wpList_append_one Tryd.underlying22 info8 (by decide) rfl _ _ rfl w.heap.size _ _ _ _ rfl (by exact HW.out) rfl (by omega) hsz ?_)
        intro v1 w1 h1 h2 g c1 h3
        have H1 := Lib.hid h1
        have H2 := Lib.hid h2
        clear h1 h2 h3
        go_wp2
        exact ⟨⟨k + 1, by omega, by go_num, HG.out.trans H2.out, HK.out (.inl (by trivial)) H1.out⟩, by simp [intOf]; omega⟩
    · obtain rfl : k = n := by omega
      rw [List.take_of_length_le (by rw [H.out.len]; exact Nat.le_refl _)] at hown
      obtain ⟨a', c', rfl, hrow, hlow⟩ := ownsRow_low hown (bin_wf (bin_plain HB.out))
      have HRow := Lib.hid hrow
      have HBel := Lib.hid hgr.nil
      have HLow := Lib.hid hlow
      clear hown hgr hrow hlow
      go_wp2
      go_ret
      exact ⟨⟨_, a', c', rfl, rfl, HRow.out, fun z hz => (HLow.out z hz).1⟩, HBel.out⟩
set_option maxHeartbeats 1000000 in
theorem aborted_any (a : Option Addr) (n c : Nat) (l : List Int) (w : World) (h : Row .u8 w a n c l) (hn : n ≤ 2097152) :
    Calls Tryd.prog 41 #[.slice a n c] w fun e w' => e = .returned (.bool (abortL l)) ∧ w = w' := by
  have hmc := h.le
  have hcm := h.max
  unfold maxLen at hcm
  have H := Lib.hid h
  clear h
  go_enter Tryd.func41, Tryd.ntmps41
  go_wp2_with fail
  go_loop [3] (fun i => ∃ k : Nat, k ≤ n ∧ i = .int .i64 k ∧ abortL (l.take k) = false) (fun i => n - (intOf i).toNat)
  case atStart => exact ⟨0, Nat.zero_le _, rfl, rfl⟩
  case round =>
    obtain ⟨k, hk, rfl, hab⟩ := hrel
    by_cases hlt : k < n
    · have hones := ones_any a n c l (k + 1) w H.out (by omega)
      have hlk : k < l.length := by rw [H.out.len]; exact hlt
      have ht := take_succ' hlk
      have hs := abortL_snoc (l.take k) (l.getD k 0)
      rw [← ht, hab, Bool.false_or] at hs
      obtain ⟨q, hq⟩ : ∃ q, q = runEnd 1 (l.take (k + 1)) := ⟨_, rfl⟩
      rw [← hq] at hones hs
      have HOn := Lib.hid hones
      have HS := Lib.hid hs
      have HH := Lib.hid H.out.len
      clear hones hs hq ht hab hlk
      by_cases h7 : q = 7
      · have h7' : (q == 7) = true := by simpa using h7
        have hall : abortL l = true := by
          have h1 : abortL (l.take (k + 1)) = true := by rw [HS.out]; simpa using h7
          have hmono : ∀ a b : List Int, abortL a = true → abortL (a ++ b) = true := fun a b ha => by
            induction b using snocInd with
            | h0 => rw [List.append_nil]; exact ha
            | h1 b x ih => rw [← List.append_assoc, abortL_snoc, ih]; rfl
          have := hmono _ (l.drop (k + 1)) h1
          rwa [List.take_append_drop] at this
        have HA := Lib.hid hall
        clear hall h7
        go_wp2_with fail
        refine HOn.out.mono ?_
        rintro e w' ⟨rfl, rfl⟩
        go_wp2
        go_ret
        exact ⟨ret_bool HA.out.symm, rfl⟩
      · have h7' : (q == 7) = false := by simpa using h7
        have hall : abortL (l.take (k + 1)) = false := by rw [HS.out]; simpa using h7
        have HA := Lib.hid hall
        clear hall h7
        go_wp2_with fail
        refine HOn.out.mono ?_
        rintro e w' ⟨rfl, rfl⟩
        go_wp2
        exact ⟨⟨k + 1, by omega, by go_num, HA.out⟩, by simp [intOf]; omega⟩
    · obtain rfl : k = n := by omega
      rw [List.take_of_length_le (by rw [H.out.len]; exact Nat.le_refl _)] at hab
      have HA := Lib.hid hab
      clear hab
      go_wp2
      go_ret
      exact ⟨ret_bool HA.out.symm, rfl⟩
end Go.Proofs.YtohhocndicnegaaDoor
