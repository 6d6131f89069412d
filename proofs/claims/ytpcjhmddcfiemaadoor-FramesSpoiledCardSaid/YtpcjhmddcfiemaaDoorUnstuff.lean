/- Contracts: Unstuff. -/
import Derived.Test.YtpcjhmddcfiemaaDoorFrStuff
namespace Go.Proofs.YtpcjhmddcfiemaaDoor
open Go.RowKit

theorem runMax_mono (v : Int) (a b : List Int) : runMax v a ≤ runMax v (a ++ b) := by
  induction b using snocInd with
  | h0 => simp
  | h1 b x ih =>
    rw [← List.append_assoc, runMax_snoc]
    split
    · split <;> omega
    · exact ih
theorem runMax_take (v : Int) (l : List Int) (k : Nat) : runMax v (l.take k) ≤ runMax v l := by
  have := runMax_mono v (l.take k) (l.drop k)
  rwa [List.take_append_drop] at this
theorem unstuff_err (a : Option Addr) (n c : Nat) (l : List Int) (x : Int) (w : World) (h : Row .u8 w a n c l) (he : errOf l = x) (hx : x ≠ 0) :
    Calls Tryd.prog 13 #[.slice a n c] w fun e w' => e = .returned (.tuple #[.slice none 0 0, .int .i64 x]) ∧ w = w' := by
  have hcon := check_any a n c l w h
  rw [he] at hcon
  have hne : (x != 0) = true := by simpa using hx
  have H := Lib.hid hcon
  clear hcon h he hx
  go_enter Tryd.func13, Tryd.ntmps13
  go_wp2_with fail
  refine H.out.mono ?_
  rintro e w' ⟨rfl, rfl⟩
  go_wp2
  go_ret2
  exact ⟨rfl, rfl⟩
def UnstuffSays (l : List Int) (B : Nat) (w : World) (e : Ending) (w' : World) : Prop :=
  (isStuffed l = true → ∃ v, e = .returned (.tuple #[v, .int .i64 0]) ∧ Tight (plain l) B v w') ∧ (isStuffed l = false → e = .returned (.tuple #[.slice none 0 0, .int .i64 4])) ∧ Below w.heap.size w w'
set_option maxHeartbeats 1000000 in
theorem unstuff_any (a : Option Addr) (n c : Nat) (l : List Int) (w : World) (h : Row .u8 w a n c l) (he : errOf l = 0) :
    Calls Tryd.prog 13 #[.slice a n c] w fun e w' => UnstuffSays l w.heap.size w e w' := by
  have hcon := check_any a n c l w h
  rw [he] at hcon
  obtain ⟨hn, hbits⟩ := errOf_zero he
  have hbin : Bin l := fun x hx => by have := h.bits hbits x hx; omega
  rw [h.len] at hn
  have hmc := h.le
  have hcm := h.max
  unfold maxLen at hcm
  have H := Lib.hid hcon
  have HR := Lib.hid h
  have HB := Lib.hid hbin
  clear hcon h he hbin hbits
  go_enter Tryd.func13, Tryd.ntmps13
  go_wp2_with fail
  refine H.out.mono ?_
  rintro e w' ⟨rfl, rfl⟩
  go_wp2_with fail
  go_loopw [5, 6, 8, 16] (fun v o _ i wr => ∃ k : Nat, ∃ r : Int, k ≤ n ∧ i = .int .i64 k ∧ o = .int .i64 r ∧ r = runEnd 1 (l.take k) ∧ runMax 1 (l.take k) ≤ 5 ∧ Grow (.slice none 0 0) w v wr ∧ wr.ownsRow w.heap.size 5 1 v (plain (l.take k)).length (nums .u8 (plain (l.take k)))) (fun _ _ _ i _ => n - (intOf i).toNat)
  case atStart => exact ⟨0, 0, Nat.zero_le _, rfl, rfl, rfl, by simp [runMax], Grow.refl _ _, by simpa [plain, nums] using World.ownsRow_nil w w.heap.size 5 1⟩
  case round =>
    obtain ⟨k, r, hk, rfl, rfl, hr, hmx, hgr, hown⟩ := hrel
    by_cases hlt : k < n
    · have hrow1 := HR.out.later hgr.nil
      obtain ⟨b, o, rfl, g0⟩ := row_at hrow1 hlt
      have hlk : k < l.length := by rw [HR.out.len]; exact hlt
      have hx01 := bin_getD HB.out hlk
      have ht := take_succ' hlk
      obtain ⟨x, hx⟩ : ∃ x, x = l.getD k 0 := ⟨_, rfl⟩
      rw [← hx] at g0 hx01 ht
      have hrm := runEnd_le_max 1 (l.take k)
      have hr0 := runEnd_nonneg 1 (l.take k)
      have hpl := plain_length (l.take k)
      rw [List.length_take] at hpl
      have hps := plain_snoc (l.take k) x
      have hms := runMax_snoc 1 x (l.take k)
      have hes := runEnd_snoc 1 x (l.take k)
      have hq := cnt_run (l := l.take k) hx01
      have hall := runMax_take 1 l (k + 1)
      rw [← ht] at hps hms hes hq
      rw [← hr] at hrm hr0 hms hes hps hq
      have hcon := fun w => counted_any r x w hr0 (by omega)
      obtain ⟨q, hqq⟩ : ∃ q, q = cnt r x := ⟨_, rfl⟩
      rw [← hqq] at hq hcon
      have hsz : w.heap.size ≤ wr.heap.size := hgr.exc.size
      have hr5 : r ≤ 5 := by omega
      have hplen : (plain (l.take k)).length ≤ 1048576 := by omega
      have HPS := Lib.hid hps
      have HMS := Lib.hid hms
      have HES := Lib.hid hes
      have HQ := Lib.hid hq
      have HC := Lib.hid hcon
      have HG := Lib.hid hgr
      have HW := Lib.hid hown
      have HM := Lib.hid hmx
      have HA := Lib.hid hall
      clear hps hms hes hq hcon hgr hown hmx hall hqq hx hr ht hrow1 hpl hrm
      by_cases h5 : r < 5
      · have hle : runMax 1 (l.take (k + 1)) ≤ 5 := by
          rw [HMS.out]
          split
          · split
            · omega
            · exact HM.out
          · exact HM.out
        have HL := Lib.hid hle
        clear hle
        go_wp2_with (at_builtin; refine wpList_append_one Tryd.underlying22 info8 (by decide) rfl _ _ rfl w.heap.size _ _ _ _ rfl (by exact HW.out) rfl (by omega) hsz ?_)
        intro v1 w1 h1 h2 gg c1 h3
        have H1 := Lib.hid h1
        have H2 := Lib.hid h2
        clear h1 h2 h3
        go_wp2_with fail
        refine (HC.out w1).mono ?_
        rintro e w' ⟨rfl, rfl⟩
        go_wp2
        refine ⟨⟨k + 1, q, by omega, by go_num, rfl, HQ.out, HL.out, HG.out.trans H2.out, ?_⟩, by simp [intOf]; omega⟩
        have e1 : plain (l.take (k + 1)) = plain (l.take k) ++ [x] := by rw [HPS.out, if_pos (.inr (by omega))]
        rw [e1, List.length_append, List.length_singleton]
        exact H1.out
      · have hr55 : r = 5 := by omega
        subst hr55
        rcases hx01 with rfl | rfl
        · go_wp2_with fail
          refine (HC.out _).mono ?_
          rintro e w' ⟨rfl, rfl⟩
          go_wp2
          refine ⟨⟨k + 1, q, by omega, by go_num, rfl, HQ.out, by rw [HMS.out, if_neg (by decide)]; exact HM.out, HG.out, ?_⟩, by simp [intOf]; omega⟩
          have e1 : plain (l.take (k + 1)) = plain (l.take k) := by rw [HPS.out, if_neg (by simp)]
          rw [e1]
          exact HW.out
        · have hbad : isStuffed l = false := by
            have h6 : 6 ≤ runMax 1 (l.take (k + 1)) := by
              rw [HMS.out, if_pos rfl]
              split <;> omega
            have := HA.out
            simp [isStuffed]
            omega
          have HBad := Lib.hid hbad
          clear hbad
          go_wp2
          go_ret2
          exact ⟨fun hh => (by rw [HBad.out] at hh; cases hh), fun _ => rfl, HG.out.nil⟩
    · obtain rfl : k = n := by omega
      rw [List.take_of_length_le (by rw [HR.out.len]; exact Nat.le_refl _)] at hown hmx hr
      have hbel := hgr.nil
      have HBel := Lib.hid hbel
      by_cases h5 : r = 5
      · subst h5
        have hbad : isStuffed l = false := by simp [isStuffed, ← hr]
        have HBad := Lib.hid hbad
        clear hbad hgr hown hmx hr hbel
        go_wp2
        go_ret2
        exact ⟨fun hh => (by rw [HBad.out] at hh; cases hh), fun _ => rfl, HBel.out⟩
      · have h5' : (r == 5) = false := by simpa using h5
        have hgood : isStuffed l = true := by simp [isStuffed, ← hr, h5]; omega
        obtain ⟨a', c', rfl, hrow, hlow⟩ := ownsRow_low hown (bin_wf (bin_plain HB.out))
        have hle := hrow.le
        have hmx' := hrow.max
        unfold maxLen at hmx'
        have hcl := clip8_any a' (plain l).length c' wr hle hmx' (fun z hz => (hlow z hz).1)
        have HCl := Lib.hid hcl
        have HG := Lib.hid hgood
        have HRow := Lib.hid hrow
        have HLow := Lib.hid hlow
        clear hcl hgood hgr hown hmx hr hbel hrow hlow h5
        go_wp2_with fail
        refine HCl.out.mono ?_
        rintro e w' ⟨rfl, rfl⟩
        go_wp2
        go_ret2
        exact ⟨fun _ => ⟨_, rfl, a', rfl, HRow.out.tight, HLow.out⟩, fun hh => (by rw [HG.out] at hh; cases hh), HBel.out⟩
end Go.Proofs.YtpcjhmddcfiemaaDoor
