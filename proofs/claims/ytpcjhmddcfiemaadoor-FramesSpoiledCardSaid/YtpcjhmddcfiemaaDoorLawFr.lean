/- Contracts: of the statements of frames: Lists, octets. -/
import Derived.Test.YtpcjhmddcfiemaaDoorJoin
import Derived.Test.YtpcjhmddcfiemaaDoorLawBytes
import Derived.Test.YtpcjhmddcfiemaaDoorLawStream
namespace Go.Proofs.YtpcjhmddcfiemaaDoor
open Go.RowKit

set_option maxHeartbeats 1000000 in
/-- Lists of lists that agree, the first without spare capacity: 0. -/
theorem lists_yes (P1 P2 : Nat → Prop) (T : Bool) (a1 a2 : Option Addr) (n c2 : Nat) (L : List (List Int)) (w : World) (h1 : Mat w P1 true a1 n n L) (h2 : Mat w P2 T a2 n c2 L) :
    Calls Tryd.prog 27 #[.slice a1 n n, .slice a2 n c2] w fun e w' => e = .returned (.int .i64 0) ∧ ∃ q, w' = w.drewN q := by
  have hm1 := h1.max
  have hm2 := h2.max
  have hl2 := h2.le
  unfold maxLen at hm1 hm2
  have hne : ((n : Int) != (n : Int)) = false := by simp
  have H1 := Lib.hid h1
  have H2 := Lib.hid h2
  clear h1 h2
  go_enter Tryd.func27, Tryd.ntmps27
  go_wp2_with fail
  go_loopw [5] (fun i wr => ∃ k : Nat, k ≤ n ∧ i = .int .i64 k ∧ ∃ q, wr = w.drewN q) (fun i _ => n - (intOf i).toNat)
  case atStart => exact ⟨0, Nat.zero_le _, rfl, 0, rfl⟩
  case round =>
    obtain ⟨k, hk, rfl, q, hq⟩ := hrel
    have hbel : Below w.heap.size w wr := by rw [hq]; exact below_draw w q
    by_cases hlt : k < n
    · obtain ⟨b1, o1, ra, m, rc, l, rfl, g1, hr1, ht1, _, hl1, hlen1⟩ := (H1.out.later hbel).at hlt
      obtain ⟨b2, o2, ra2, m2, rc2, l2, rfl, g2, hr2, _, _, hl2', hlen2⟩ := (H2.out.later hbel).at hlt
      have hll : l = l2 := by rw [← hl1, ← hl2']
      subst hll
      have hmm : m = m2 := by rw [← hlen1, ← hlen2]
      subst hmm
      have hrc := ht1 rfl
      subst hrc
      have hcon : ∀ x, Calls Tryd.prog 14 #[.slice ra rc rc, .slice ra2 rc rc2] (wr.drewN x) fun e w' => e = .returned (.int .i64 0) ∧ ∃ n, w' = (wr.drewN x).drewN n := fun x => bytes_yes ra ra2 rc rc rc2 l _ (hr1.later (below_draw wr x)) (hr2.later (below_draw wr x))
      have HC := Lib.hid hcon
      have HQ := Lib.hid hq
      clear hcon hr1 hr2 ht1 hl1 hl2' hlen1 hlen2 hbel hq
      go_wp2_with fail
      go_quiet (exact Calls.quiet_of (HC.out _))
      go_wp2
      exact ⟨⟨k + 1, by omega, by go_num, by rw [HQ.out]; exact ⟨_, World.drewN_drewN _ _ _⟩⟩, by simp [intOf]; omega⟩
    · have HQ := Lib.hid hq
      clear hq hbel
      go_wp2
      go_ret
      exact ⟨rfl, q, HQ.out⟩
/-- n octets of a list, repeated. -/
def octetsL (b : List Int) (n : Nat) : List Int := (List.range n).map fun i => b.getD (i % b.length) 0
theorem octetsL_length (b : List Int) (n : Nat) : (octetsL b n).length = n := by simp [octetsL]
theorem octetsL_range {b : List Int} (h : ∀ x ∈ b, 0 ≤ x ∧ x ≤ 255) (n : Nat) : ∀ x ∈ octetsL b n, 0 ≤ x ∧ x ≤ 255 := fun x hx => by
  unfold octetsL at hx
  obtain ⟨i, _, rfl⟩ := List.mem_map.1 hx
  by_cases hb : i % b.length < b.length
  · rw [List.getD_eq_getElem?_getD, List.getElem?_eq_getElem hb, Option.getD_some]
    exact h _ (List.getElem_mem hb)
  · rw [List.getD_eq_getElem?_getD, List.getElem?_eq_none (by omega)]; simp
set_option maxHeartbeats 400000 in
theorem octets2_any (a : Option Addr) (m c : Nat) (b : List Int) (n : Nat) (w : World) (h : Row .u8 w a m c b) (hn : n ≤ 1048576) :
    Calls Tryd.prog 19 #[.slice a m c, .int .i64 n] w fun e w' => e = .returned (.slice (some ⟨w.heap.size, 0, none⟩) n n) ∧ Below w.heap.size w w' ∧ Own w' w.heap.size 5 (nums .u8 (octetsL b n)) := by
  have hmc := h.le
  have hcm := h.max
  unfold maxLen at hcm
  have hmk := make8 n (by omega)
  have H := Lib.hid h
  clear h
  go_enter Tryd.func19, Tryd.ntmps19
  go_wp2_with fail
  clear hmk
  go_loopw [6] (fun i wr => ∃ k : Nat, k ≤ n ∧ i = .int .i64 k ∧ Below w.heap.size w wr ∧ Own wr w.heap.size 5 (nums .u8 (octetsL b k ++ List.replicate (n - k) 0)) ) (fun i _ => n - (intOf i).toNat)
  case atStart => exact ⟨0, Nat.zero_le _, rfl, below_alloc _ _, by simpa [octetsL] using own_made .u8 n 5 w⟩
  case round =>
    obtain ⟨k, hk, rfl, hbel, hown⟩ := hrel
    by_cases hlt : k < n
    · by_cases hm0 : 0 < m
      · obtain ⟨bb, o, rfl, g0⟩ := row_at (H.out.later hbel) (Nat.mod_lt k hm0)
        have hmod : (k : Int) % (m : Int) = ((k % m : Nat) : Int) := by simp
        have hmod2 := Nat.mod_lt k hm0
        obtain ⟨j, hj⟩ : ∃ j, j = k % m := ⟨_, rfl⟩
        rw [← hj] at g0 hmod hmod2
        obtain ⟨x, hx⟩ : ∃ x, x = b.getD j 0 := ⟨_, rfl⟩
        rw [← hx] at g0
        have hA := octetsL_length b k
        have hcell := hown.cell k (by rw [nums_length, List.length_append, hA, List.length_replicate]; omega)
        have hfr := hown.frozen k
        have hmz : ((m : Int) == 0) = false := by simp; omega
        have hst : octetsL b (k + 1) = octetsL b k ++ [x] := by
          unfold octetsL
          rw [List.range_succ, List.map_append, List.map_singleton, H.out.len, ← hj, ← hx]
        have HO := Lib.hid hown
        have HB := Lib.hid hbel
        have HA := Lib.hid hA
        have HS := Lib.hid hst
        clear hown hbel hA hst hj hx
        go_wp2
        refine ⟨⟨k + 1, by omega, by go_num, HB.out.setCell (Nat.le_refl _) _, ?_⟩, by simp [intOf]; omega⟩
        have := HO.out.set k (.int .u8 x)
        rw [nums_set, set_at _ HA.out hlt] at this
        rw [HS.out]
        exact this
      · have hm00 : m = 0 := by omega
        subst hm00
        have hb0 : b = [] := List.eq_nil_of_length_eq_zero H.out.len
        subst hb0
        have he : octetsL [] k ++ List.replicate (n - k) 0 = octetsL [] n := by
          apply List.ext_getElem
          · simp [octetsL_length]; omega
          · intro i h1 h2
            by_cases hi : i < k
            · rw [List.getElem_append_left (by rw [octetsL_length]; exact hi)]; simp [octetsL]
            · rw [List.getElem_append_right (by rw [octetsL_length]; omega)]; simp [octetsL]
        rw [he] at hown
        have HO := Lib.hid hown
        have HB := Lib.hid hbel
        clear hown hbel he
        go_wp2
        go_ret
        exact ⟨rfl, HB.out, HO.out⟩
    · obtain rfl : k = n := by omega
      rw [Nat.sub_self, List.replicate_zero, List.append_nil] at hown
      have HO := Lib.hid hown
      have HB := Lib.hid hbel
      clear hown hbel
      go_wp2
      go_ret
      exact ⟨rfl, HB.out, HO.out⟩
end Go.Proofs.YtpcjhmddcfiemaaDoor
