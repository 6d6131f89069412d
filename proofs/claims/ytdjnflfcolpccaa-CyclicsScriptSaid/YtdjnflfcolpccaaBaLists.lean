/- Contracts: lists of lists that agree (the statements' Lists). -/
import Derived.Test.YtdjnflfcolpccaaLawBytes
import Derived.Test.YtdjnflfcolpccaaBaseFr
namespace Go.Proofs.Ytdjnflfcolpccaa
open Go.RowKit

theorem Mat.spot {P : Nat → Prop} {T : Bool} {w : World} {a : Option Addr} {n c : Nat} {L : List (List Int)} (h : Mat w P T a n c L) {i : Nat} (hi : i < n) :
    ∃ b o ra m rc l, a = some ⟨b, o, none⟩ ∧ w.cell? ⟨b, o + i, none⟩ = some (.slice ra m rc) ∧ Row .u8 w ra m rc l ∧ (T = true → rc = m) ∧ (∀ z, ra = some z → P z.block) ∧ L.getD i [] = l ∧ l.length = m := by
  rcases h.cells with h0 | ⟨b, o, ha, hp, hc⟩
  · omega
  · obtain ⟨v, hv, ra, rc, rfl, hr, ht, hz⟩ := hc i hi
    exact ⟨b, o, ra, _, rc, _, ha, hv, hr, ht, hz, rfl, rfl⟩
set_option maxHeartbeats 1000000 in
/-- Lists of lists that agree, the first without spare capacity: 0. -/
theorem lists_same (P1 P2 : Nat → Prop) (T : Bool) (a1 a2 : Option Addr) (n c2 : Nat) (L : List (List Int)) (w : World) (h1 : Mat w P1 true a1 n n L) (h2 : Mat w P2 T a2 n c2 L) :
    Calls Try.prog 17 #[.slice a1 n n, .slice a2 n c2] w fun e w' => e = .returned (.int .i64 0) ∧ ∃ q, w' = w.drewN q := by
  have hm1 := h1.max
  have hm2 := h2.max
  have hl2 := h2.le
  unfold maxLen at hm1 hm2
  have hne : ((n : Int) != (n : Int)) = false := by simp
  have H1 := Lib.hid h1
  have H2 := Lib.hid h2
  clear h1 h2
  go_enter Try.func17, Try.ntmps17
  go_wp2_with fail
  go_loopw [5] (fun i wr => ∃ k : Nat, k ≤ n ∧ i = .int .i64 k ∧ ∃ q, wr = w.drewN q) (fun i _ => n - (intOf i).toNat)
  case atStart => exact ⟨0, Nat.zero_le _, rfl, 0, rfl⟩
  case round =>
    obtain ⟨k, hk, rfl, q, hq⟩ := hrel
    have hbel : Below w.heap.size w wr := by rw [hq]; exact below_draw w q
    by_cases hlt : k < n
    · obtain ⟨b1, o1, ra, m, rc, l, rfl, g1, hr1, ht1, _, hl1, hlen1⟩ := (H1.out.later hbel).spot hlt
      obtain ⟨b2, o2, ra2, m2, rc2, l2, rfl, g2, hr2, _, _, hl2', hlen2⟩ := (H2.out.later hbel).spot hlt
      have hll : l = l2 := by rw [← hl1, ← hl2']
      subst hll
      have hmm : m = m2 := by rw [← hlen1, ← hlen2]
      subst hmm
      have hrc := ht1 rfl
      subst hrc
      have hcon : ∀ x, Calls Try.prog 38 #[.slice ra rc rc, .slice ra2 rc rc2] (wr.drewN x) fun e w' => e = .returned (.int .i64 0) ∧ ∃ n, w' = (wr.drewN x).drewN n := fun x => bytes_yes ra ra2 rc rc rc2 l _ (hr1.later (below_draw wr x)) (hr2.later (below_draw wr x))
      have HC := Lib.hid hcon
      have HQ := Lib.hid hq
      clear hcon hr1 hr2 ht1 hl1 hl2' hlen1 hlen2 hbel hq
      go_wp2_with fail
      go_quiet (exact Calls.quiet_of (HC.out _))
      go_wp2
      exact ⟨⟨k + 1, by omega, by go_num, by rw [HQ.out]; exact ⟨_, World.drewN_drewN _ _ _⟩⟩, by simp [intOf]; omega⟩
    · have HQ := Lib.hid hq
      clear hq hbel
      go_wp2
      go_ret
      exact ⟨rfl, q, HQ.out⟩
end Go.Proofs.Ytdjnflfcolpccaa
