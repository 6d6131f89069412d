/- RestartsEnd: a machine that restarts is ready as soon as all that are up are done, and at the latest after base ticks. -/
import Derived.Test.YtpjdodgbidkblaaRsPts
import Derived.BigQuiet
namespace Go.Proofs.Ytpjdodgbidkblaa
open Go.RowKit Go.Maps

def bitB (A i : Nat) : Bool := decide (A / 2 ^ i % 2 = 1)
theorem bit_eq {A i : Nat} (hA : A ≤ 255) (hi : i ≤ 8) : (bits BinOp.and IntKind.u8 ((A : Int) / 2 ^ min i 8) 1 == 1) = bitB A i := by
  have h1 : (A : Int) / 2 ^ i = ((A / 2 ^ i : Nat) : Int) := by rw [Int.natCast_ediv, Int.natCast_pow]; rfl
  have h2 : A / 2 ^ i ≤ A := Nat.div_le_self A _
  unfold bitB
  rw [Nat.min_eq_left hi, h1]
  generalize A / 2 ^ i = B at h2
  rw [and_one_u8 _ (by omega) (by omega), Bool.eq_iff_iff, beq_iff_eq, decide_eq_true_eq]
  omega
/-- What is known of the points when the first k have been told. -/
def gK (u d : Nat → Bool) (k : Nat) : Nat → Bool × Bool := fun i => if i < k then (u i, u i && d i) else (false, false)
def stK (u : Nat → Bool) (k : Nat) : Int := if anyN k u = true then 2 else 1
def bgK (u : Nat → Bool) (k z1 : Nat) : Int := if anyN k u = true then z1 else 0
theorem stK_yes {u : Nat → Bool} {k : Nat} (hu : u k = true) : stK u (k + 1) = 2 := by unfold stK; rw [anyN_succ, hu, Bool.or_true, if_pos rfl]
theorem bgK_yes {u : Nat → Bool} {k z1 : Nat} (hu : u k = true) : bgK u (k + 1) z1 = z1 := by unfold bgK; rw [anyN_succ, hu, Bool.or_true, if_pos rfl]
theorem stK_no {u : Nat → Bool} {k : Nat} (hu : u k = false) : stK u (k + 1) = stK u k := by unfold stK; rw [anyN_succ, hu, Bool.or_false]
theorem bgK_no {u : Nat → Bool} {k z1 : Nat} (hu : u k = false) : bgK u (k + 1) z1 = bgK u k z1 := by unfold bgK; rw [anyN_succ, hu, Bool.or_false]
theorem gK_at (u d : Nat → Bool) (k : Nat) : gK u d k k = (false, false) := if_neg (Nat.lt_irrefl k)
theorem gK_old {u d : Nat → Bool} {k i : Nat} (h : i ≠ k) : gK u d (k + 1) i = gK u d k i := by
  unfold gK
  by_cases hi : i < k
  · rw [if_pos hi, if_pos (by omega)]
  · rw [if_neg hi, if_neg (by omega)]
theorem gK_new (u d : Nat → Bool) (k : Nat) : gK u d (k + 1) k = (u k, u k && d k) := if_pos (Nat.lt_succ_self k)
theorem gK_any (u d : Nat → Bool) (k : Nat) : (anyN k fun i => (gK u d k i).1 && !(gK u d k i).2) = anyN k fun i => u i && !d i := by
  refine anyN_congr fun i hi => ?_
  unfold gK
  rw [if_pos hi]
  cases u i <;> cases d i <;> rfl
theorem gk_up {w : World} {mb bm j z0 z1 k : Nat} {u d : Nat → Bool} (h : McAt w mb bm ((mcN 0 j (gK u d k) z0 (stK u k) (bgK u k z1)).up z1 (0 + (k : Int)))) : McAt w mb bm (mcN 0 j (updF (gK u d k) k (true, false)) z0 2 z1) := by
  have h1 := mcN_up h
  rw [gK_at] at h1
  have e1 : (if stK u k = 1 then (2 : Int) else stK u k) = 2 := by
    unfold stK; cases anyN k u <;> simp
  have e2 : (if stK u k = 1 then (z1 : Int) else bgK u k z1) = z1 := by
    unfold stK bgK; cases anyN k u <;> simp
  rw [e1, e2] at h1
  exact h1
theorem gk_next {w : World} {mb bm j z0 z1 k : Nat} {u d : Nat → Bool} (hu : u k = true) (hd : d k = false) (h : McAt w mb bm (mcN 0 j (updF (gK u d k) k (true, false)) z0 2 z1)) : McAt w mb bm (mcN 0 j (gK u d (k + 1)) z0 (stK u (k + 1)) (bgK u (k + 1) z1)) := by
  rw [bgK_yes hu]
  refine mcN_congr h (fun i _ => ?_) (stK_yes hu)
  by_cases hi : i = k
  · subst hi; rw [gK_new, updF_same, hu, hd]; rfl
  · rw [updF_other hi, gK_old hi]
theorem gk_done {w : World} {mb bm j z0 z1 k : Nat} {u d : Nat → Bool} (hu : u k = true) (hd : d k = true) (h : McAt w mb bm ((mcN 0 j (updF (gK u d k) k (true, false)) z0 2 z1).done (0 + (k : Int)))) : McAt w mb bm (mcN 0 j (gK u d (k + 1)) z0 (stK u (k + 1)) (bgK u (k + 1) z1)) := by
  have h1 := mcN_done h
  rw [updF_same, if_pos ⟨rfl, rfl⟩] at h1
  rw [bgK_yes hu]
  refine mcN_congr h1 (fun i _ => ?_) (stK_yes hu)
  by_cases hi : i = k
  · subst hi; rw [gK_new, updF_same, hu, hd]; rfl
  · rw [updF_other hi, updF_other hi, gK_old hi]
theorem gk_none {w : World} {mb bm j z0 z1 k : Nat} {u d : Nat → Bool} (hu : u k = false) (h : McAt w mb bm (mcN 0 j (gK u d k) z0 (stK u k) (bgK u k z1))) : McAt w mb bm (mcN 0 j (gK u d (k + 1)) z0 (stK u (k + 1)) (bgK u (k + 1) z1)) := by
  rw [bgK_no hu]
  refine mcN_congr h (fun i _ => ?_) (stK_no hu)
  by_cases hi : i = k
  · subst hi; rw [gK_new, gK_at, hu]; rfl
  · rw [gK_old hi]
theorem gk_no {w : World} {mb bm j z0 z1 k : Nat} {u d : Nat → Bool} (hu : u k = false) (h : McAt w mb bm ((mcN 0 j (gK u d k) z0 (stK u k) (bgK u k z1)).done (0 + (k : Int)))) : McAt w mb bm (mcN 0 j (gK u d (k + 1)) z0 (stK u (k + 1)) (bgK u (k + 1) z1)) := by
  have h1 := mcN_done h
  rw [gK_at, if_neg (fun h => by cases h.2)] at h1
  exact gk_none hu h1
set_option maxHeartbeats 8000000 in
set_option maxRecDepth 100000 in
theorem end_walk (many : Int) (z0 z1 a0 a1 : Nat) (w : World) (h0 : (Lit.int .u8 many).wf = true) (h1 : z0 ≤ 65535) (h2 : z1 ≤ 65535) (h3 : a0 ≤ 255) (h4 : a1 ≤ 255) :
    Calls Try.prog 4 #[.int .u8 many, .agg #[.int .u16 (z0 : Int), .int .u16 (z1 : Int)], .agg #[.int .u8 (a0 : Int), .int .u8 (a1 : Int)]] w fun e w' => e = .returned (.bool true) ∧ Below w.heap.size w w' := by
  have hm := wf_u8.1 h0
  obtain ⟨n, hn⟩ : ∃ n : Nat, (n : Int) = 1 + many % 6 := ⟨(1 + many % 6).toNat, by omega⟩
  have hmod : many.tmod 6 = many % 6 := Int.tmod_eq_emod_of_nonneg hm.1
  have hn6 : 1 ≤ n ∧ n ≤ 6 := by omega
  have HZ := Lib.hid (And.intro h1 (And.intro h2 (And.intro h3 h4)))
  have HN6 := Lib.hid hn6
  have hw1 : IntKind.i64.wrap (1 + many % 6) = (n : Int) := by rw [hn]; exact IntWalk.i64_in _ (by omega)
  clear h0 h1 h2 h3 h4 hm hn hn6
  go_enter Try.func4, Try.ntmps4
  go_wp2_with fail
  have o0 : Own ((w.alloc (.cells #[.int .u16 (z0 : Int), .int .u16 (z1 : Int)] 40)).alloc (.cells #[.int .u8 (a0 : Int), .int .u8 (a1 : Int)] 41)) (w.heap.size + 1) 41 [.int .u8 (a0 : Int), .int .u8 (a1 : Int)] := by
    have h := heap_alloc_new (w.alloc (.cells #[.int .u16 (z0 : Int), .int .u16 (z1 : Int)] 40)) (.cells #[.int .u8 (a0 : Int), .int .u8 (a1 : Int)] 41)
    rw [World.size_alloc] at h
    exact h
  have b0 : Below w.heap.size w ((w.alloc (.cells #[.int .u16 (z0 : Int), .int .u16 (z1 : Int)] 40)).alloc (.cells #[.int .u8 (a0 : Int), .int .u8 (a1 : Int)] 41)) := (below_alloc w _).trans ((below_alloc _ _).mono (by rw [World.size_alloc]; omega))
  generalize (w.alloc (.cells #[.int .u16 (z0 : Int), .int .u16 (z1 : Int)] 40)).alloc (.cells #[.int .u8 (a0 : Int), .int .u8 (a1 : Int)] 41) = W0 at o0 b0 ⊢
  obtain ⟨pa, hpa⟩ : ∃ x, x = w.heap.size + 1 := ⟨_, rfl⟩
  rw [← hpa] at o0 ⊢
  have HO := Lib.hid o0
  have HB0 := Lib.hid b0
  have HN := Lib.hid hw1
  clear o0 b0 hpa hmod hw1
  go_loopw [10, 11] (fun v i wr => ∃ k : Nat, k ≤ n ∧ i = .int .i64 k ∧ wr.ownsRow W0.heap.size 26 1 v k (nums .u16 (ptsL 0 k)) ∧ Below W0.heap.size W0 wr) (fun _ i _ => n - (intOf i).toNat)
  case atStart => exact ⟨0, Nat.zero_le _, rfl, by simpa [nums, ptsL] using World.ownsRow_nil W0 W0.heap.size 26 1, Below.refl _ _⟩
  case round =>
    obtain ⟨k, hk, rfl, hown, hb⟩ := hrel
    have HW := Lib.hid hown
    have HB := Lib.hid hb
    have hsz := hb.size
    clear hown hb
    by_cases hkn : k < n
    · have k1 : (k : Int) < (n : Int) := by omega
      have HK := Lib.hid hkn
      have kw : IntKind.i64.wrap ((k : Int) + 1) = (k : Int) + 1 := IntWalk.i64_in _ (by have := HN6.out; omega)
      have kc : IntKind.u16.wrap (k : Int) = (k : Int) := by rw [IntKind.wrap_u16]; have := HN6.out; omega
      go_wp2_with (at_builtin; refine wpList_append_one Try.underlying24 infoU16 (by decide) rfl _ _ rfl W0.heap.size _ _ _ _ rfl (by exact HW.out) rfl (by have := HN6.out; omega) hsz ?_)
      intro v1 w1 h1 h2 gx cx h3
      rw [show ptsL 0 k ++ [(k : Int)] = ptsL 0 (k + 1) by rw [ptsL_succ, Int.zero_add]] at h1
      have H1 := Lib.hid h1
      have H2 := Lib.hid h2
      clear h1 h2 h3
      go_wp2
      exact ⟨⟨k + 1, by have := HK.out; omega, by go_num, H1.out, HB.out.trans (H2.out.below hsz (fun j hj => (ownBlock_lt HW.out hj).1))⟩, by simp [intOf]; have := HK.out; omega⟩
    · obtain rfl : k = n := by omega
      obtain ⟨a, c, rfl, hr, _⟩ := ownsRow_rowN .u16 HW.out (ptsL_wf (by omega) (by have := HN6.out; omega))
      obtain ⟨W1, hW1⟩ : ∃ x, x = wr := ⟨_, rfl⟩
      subst hW1
      have HR := Lib.hid hr
      have HB1 := Lib.hid (HB0.out.trans (HB.out.mono HB0.out.size))
      have HO1 := Lib.hid (HO.out.below HB.out HO.out.lt)
      have q0 : wrap64 (z0 : Int) = z0 := by rw [← IntWalk.i64_left]; exact IntWalk.i64_in _ (by have := HZ.out; omega)
      have q1 : wrap64 (z1 : Int) = z1 := by rw [← IntWalk.i64_left]; exact IntWalk.i64_in _ (by have := HZ.out; omega)
      rw [q0, q1]
      clear hr hsz q0 q1
      go_wp2_with fail
      refine (new_any a k c (ptsL 0 k) z0 W1 HR.out (wf_i64.2 (by have := HZ.out; omega)) (ptsL_length 0 k).symm (by have := HN6.out; omega)).mono ?_
      rintro e w2 ⟨hb2, hn2⟩
      rcases hn2 with ⟨_, mb, bm, rfl, hm, hlm, hlk⟩ | ⟨h1, _⟩
      rotate_left
      · exact absurd (ptsL_ok (by omega) (by have := HN6.out; omega) (by omega)) h1
      rw [fresh_mcN] at hm
      have HM := Lib.hid hm
      have HLo := Lib.hid (And.intro hlm hlk)
      have HB2 := Lib.hid hb2
      clear hm hlm hlk hb2
      go_wp2_with fail
      go_loopw [14] (fun i wr => ∃ j : Nat, j ≤ k ∧ i = .int .i64 j ∧ McAt wr mb bm (mcN 0 k (fun x => (decide (j ≤ x), false)) z0 (if j < k then 0 else 1) 0) ∧ Below W1.heap.size W1 wr) (fun i _ => k - (intOf i).toNat)
      case atStart => exact ⟨0, Nat.zero_le _, rfl, mcN_congr HM.out (fun i _ => by simp) (if_pos (by have := HN6.out; omega)), HB2.out⟩
      case round =>
        obtain ⟨j, hj, rfl, hm, hb⟩ := hrel
        have HM := Lib.hid hm
        have HB3 := Lib.hid hb
        clear hm hb
        by_cases hjk : j < k
        · have hrow := HR.out.later HB3.out
          obtain ⟨b, off, had, hc⟩ := hrow.cells.resolve_left (by omega)
          have c0 := hc j hjk
          rw [ptsL_getD 0 hjk] at c0
          obtain ⟨q, hq⟩ : ∃ q, q = 0 + (j : Int) := ⟨_, rfl⟩
          rw [← hq] at c0
          have HQ := Lib.hid hq
          have HJ := Lib.hid hjk
          have j1 : (j : Int) < (k : Int) := by omega
          have j2 : (0 : Int) ≤ (j : Int) := by omega
          have jw : IntKind.i64.wrap ((j : Int) + 1) = (j : Int) + 1 := IntWalk.i64_in _ (by have := HN6.out; omega)
          clear hrow hc hq
          subst had
          go_wp2_with fail
          clear c0
          refine (down_ok q wr HM.out (wf16.2 (by have := HQ.out; have := HJ.out; have := HN6.out; omega)) (show q ∈ ptsL 0 k by rw [ptsL_mem]; have := HQ.out; have := HJ.out; omega)).mono ?_
          rintro e w4 ⟨rfl, hm, hx⟩
          rw [HQ.out] at hm
          have HM4 := Lib.hid (mcN_down hm)
          have HX4 := Lib.hid (HB3.out.trans (hx.below HB3.out.size (fun i _ hi => by have := HLo.out; rcases hi with hi | hi <;> omega)))
          clear hm hx
          go_wp2
          refine ⟨⟨j + 1, by have := HJ.out; omega, by go_num, mcN_congr HM4.out (fun i _ => ?_) ?_, HX4.out⟩, by simp [intOf]; have := HJ.out; omega⟩
          · unfold updF
            by_cases hij : i = j
            · rw [if_pos hij, decide_eq_false (by omega)]
            · rw [if_neg hij, decide_eq_decide.2 (show j + 1 ≤ i ↔ j ≤ i by omega)]
          · by_cases hjn : j + 1 < k
            · rw [if_pos hjn, if_pos (by
                rw [anyN_true]
                refine ⟨j + 1, hjn, ?_⟩
                rw [updF_other (by omega)]
                simp), if_pos (by omega)]
            · rw [if_neg hjn, if_neg (by
                rw [Bool.not_eq_true, anyN_false]
                intro i hi
                unfold updF
                by_cases hij : i = j
                · rw [if_pos hij]
                · rw [if_neg hij]
                  have := HJ.out
                  simp; omega)]
        · obtain rfl : j = k := by omega
          have hM := HM.out
          rw [if_neg (by omega)] at hM
          have HM := Lib.hid (mcN_congr (g := fun _ => (false, false)) (st' := 1) hM (fun i hi => by rw [decide_eq_false (by omega)]) rfl)
          obtain ⟨W3, hW3⟩ : ∃ x, x = wr := ⟨_, rfl⟩
          subst hW3
          clear hM
          go_wp2_with fail
          refine (state_any W3 HM.out).mono ?_
          rintro e w4 ⟨rfl, rfl⟩
          rw [mcN_st]
          have hE0 : (mcN 0 j (fun _ => (false, false)) (z0 : Int) 1 0).ends z1 = false := by unfold Mc.ends; rw [mcN_st]; rfl
          have HE0 := Lib.hid hE0
          clear hE0
          go_wp2_with fail
          refine (tick_any z1 W3 HM.out).mono ?_
          rintro e w5 ⟨rfl, hm, hx⟩
          rw [mcN_tick, HE0.out, if_neg (by decide)] at hm
          rw [HE0.out]
          have HM5 := Lib.hid hm
          have HX5 := Lib.hid (HB3.out.trans (hx.below HB3.out.size (fun i _ hi => by have := HLo.out; rcases hi with hi | hi <;> omega)))
          clear hm hx HE0
          go_wp2_with fail
          obtain ⟨u, hu⟩ : ∃ u, u = bitB a0 := ⟨_, rfl⟩
          obtain ⟨d, hd⟩ : ∃ d, d = bitB a1 := ⟨_, rfl⟩
          have HU := Lib.hid hu
          have HD := Lib.hid hd
          clear hu hd
          go_loopw [15, 16, 17] (fun p q i wr => ∃ k : Nat, k ≤ j ∧ i = .int .i64 k ∧ p = .bool (!anyN k fun i => u i && !d i) ∧ q = .bool (anyN k u) ∧
            McAt wr mb bm (mcN 0 j (gK u d k) z0 (stK u k) (bgK u k z1)) ∧ Below W1.heap.size W1 wr) (fun _ _ i _ => j - (intOf i).toNat)
          case atStart => exact ⟨0, Nat.zero_le _, rfl, rfl, rfl, mcN_congr HM5.out (fun i _ => by simp [gK]) rfl, HX5.out⟩
          case round =>
            obtain ⟨k, hk, rfl, rfl, rfl, hm, hb⟩ := hrel
            have HM := Lib.hid hm
            have HB6 := Lib.hid hb
            clear hm hb
            by_cases hkj : k < j
            · have hrow := HR.out.later HB6.out
              obtain ⟨b, off, had, hc⟩ := hrow.cells.resolve_left (by omega)
              have c0 := hc k hkj
              rw [ptsL_getD 0 hkj] at c0
              obtain ⟨q, hq⟩ : ∃ q, q = 0 + (k : Int) := ⟨_, rfl⟩
              rw [← hq] at c0
              have HQ := Lib.hid hq
              have HJ := Lib.hid hkj
              have j1 : (k : Int) < (j : Int) := by omega
              have j2 : (0 : Int) ≤ (k : Int) := by omega
              have jw : IntKind.i64.wrap ((k : Int) + 1) = (k : Int) + 1 := IntWalk.i64_in _ (by have := HN6.out; omega)
              have ho := HO1.out.below HB6.out HO1.out.lt
              obtain ⟨t0, t1⟩ : _ ∧ _ := ⟨ho.cell 0 (by simp), ho.cell 1 (by simp)⟩
              simp only [List.getD_cons_zero, List.getD_cons_succ] at t0 t1
              clear hrow hc hq ho
              subst had
              have q2 : q ∈ ptsL 0 j := by rw [ptsL_mem]; have := HQ.out; omega
              have HQm := Lib.hid q2
              have HQw := Lib.hid (show (Lit.int .u16 q).wf = true from wf16.2 (by have := HN6.out; have := HQ.out; omega))
              have HZw := Lib.hid (show (Lit.int .i64 (z1 : Int)).wf = true from wf_i64.2 (by have := HZ.out; omega))
              obtain ⟨P, hP⟩ : ∃ P, P = anyN k fun i => u i && !d i := ⟨_, rfl⟩
              obtain ⟨Q, hQ⟩ : ∃ Q, Q = anyN k u := ⟨_, rfl⟩
              have HP : Hid ((anyN (k + 1) fun i => u i && !d i) = (P || (u k && !d k))) := Lib.hid (by rw [anyN_succ, hP])
              have HQn : Hid (anyN (k + 1) u = (Q || u k)) := Lib.hid (by rw [anyN_succ, hQ])
              rw [← hP, ← hQ]
              have e0 := bit_eq (A := a0) (i := k) (by have := HZ.out; omega) (by have := HN6.out; omega)
              have e1 := bit_eq (A := a1) (i := k) (by have := HZ.out; omega) (by have := HN6.out; omega)
              rw [show bitB a0 k = u k by rw [HU.out]] at e0
              rw [show bitB a1 k = d k by rw [HD.out]] at e1
              have HMs : Hid (0 ≤ k ∧ k < j) := Lib.hid ⟨Nat.zero_le _, hkj⟩
              clear hP hQ q2
              have c0K : Hid (∀ v, Below W1.heap.size W1 v → v.cell? ⟨b, off + k, none⟩ = some (.int .u16 q)) := Lib.hid (fun v hv => by
                have hrow := HR.out.later hv
                obtain ⟨b', off', had, hc⟩ := hrow.cells.resolve_left (by have := HMs.out; omega)
                cases had
                have c0 := hc k HMs.out.2
                rw [ptsL_getD 0 HMs.out.2] at c0
                rw [HQ.out]; exact c0)
              rcases Bool.eq_false_or_eq_true (u k) with hu | hu
              · have HUk := Lib.hid hu
                rw [hu] at e0
                rcases Bool.eq_false_or_eq_true (d k) with hd | hd
                · have HDk := Lib.hid hd
                  rw [hd] at e1
                  clear hu hd
                  cases P
                  · as_aux_lemma =>
                      go_wp2_with fail
                      refine (up_ok z1 q wr HM.out HZw.out HQw.out HQm.out).mono ?_
                      rintro e w7 ⟨rfl, hm, hx⟩
                      rw [HQ.out] at hm
                      have HM7 := Lib.hid (gk_up hm)
                      have HX7 := Lib.hid (HB6.out.trans (hx.below HB6.out.size (fun i _ hi => by have := HLo.out; rcases hi with hi | hi <;> omega)))
                      have c0 := c0K.out _ HX7.out
                      clear hm hx
                      go_wp2_with fail
                      refine (done_ok q w7 HM7.out HQw.out HQm.out).mono ?_
                      rintro e w8 ⟨rfl, hm, hx⟩
                      rw [HQ.out] at hm
                      have HM8 := Lib.hid (gk_done HUk.out HDk.out hm)
                      have HX8 := Lib.hid (HX7.out.trans (hx.below HX7.out.size (fun i _ hi => by have := HLo.out; rcases hi with hi | hi <;> omega)))
                      clear hm hx
                      go_wp2
                      refine ⟨⟨k + 1, HMs.out.2, by go_num, ?_, ?_, HM8.out, HX8.out⟩, by simp [intOf]; have := HMs.out; omega⟩
                      · rw [HP.out, HUk.out, HDk.out]; simp
                      · rw [HQn.out, HUk.out]; simp
                  · as_aux_lemma =>
                      go_wp2_with fail
                      refine (up_ok z1 q wr HM.out HZw.out HQw.out HQm.out).mono ?_
                      rintro e w7 ⟨rfl, hm, hx⟩
                      rw [HQ.out] at hm
                      have HM7 := Lib.hid (gk_up hm)
                      have HX7 := Lib.hid (HB6.out.trans (hx.below HB6.out.size (fun i _ hi => by have := HLo.out; rcases hi with hi | hi <;> omega)))
                      have c0 := c0K.out _ HX7.out
                      clear hm hx
                      go_wp2_with fail
                      refine (done_ok q w7 HM7.out HQw.out HQm.out).mono ?_
                      rintro e w8 ⟨rfl, hm, hx⟩
                      rw [HQ.out] at hm
                      have HM8 := Lib.hid (gk_done HUk.out HDk.out hm)
                      have HX8 := Lib.hid (HX7.out.trans (hx.below HX7.out.size (fun i _ hi => by have := HLo.out; rcases hi with hi | hi <;> omega)))
                      clear hm hx
                      go_wp2
                      refine ⟨⟨k + 1, HMs.out.2, by go_num, ?_, ?_, HM8.out, HX8.out⟩, by simp [intOf]; have := HMs.out; omega⟩
                      · rw [HP.out, HUk.out, HDk.out]; simp
                      · rw [HQn.out, HUk.out]; simp
                · have HDk := Lib.hid hd
                  rw [hd] at e1
                  clear hu hd
                  cases P
                  · as_aux_lemma =>
                      go_wp2_with fail
                      refine (up_ok z1 q wr HM.out HZw.out HQw.out HQm.out).mono ?_
                      rintro e w7 ⟨rfl, hm, hx⟩
                      rw [HQ.out] at hm
                      have HM7 := Lib.hid (gk_up hm)
                      have HX7 := Lib.hid (HB6.out.trans (hx.below HB6.out.size (fun i _ hi => by have := HLo.out; rcases hi with hi | hi <;> omega)))
                      have c0 := c0K.out _ HX7.out
                      clear hm hx
                      go_wp2
                      refine ⟨⟨k + 1, HMs.out.2, by go_num, ?_, ?_, (gk_next HUk.out HDk.out HM7.out), HX7.out⟩, by simp [intOf]; have := HMs.out; omega⟩
                      · rw [HP.out, HUk.out, HDk.out]; simp
                      · rw [HQn.out, HUk.out]; simp
                  · as_aux_lemma =>
                      go_wp2_with fail
                      refine (up_ok z1 q wr HM.out HZw.out HQw.out HQm.out).mono ?_
                      rintro e w7 ⟨rfl, hm, hx⟩
                      rw [HQ.out] at hm
                      have HM7 := Lib.hid (gk_up hm)
                      have HX7 := Lib.hid (HB6.out.trans (hx.below HB6.out.size (fun i _ hi => by have := HLo.out; rcases hi with hi | hi <;> omega)))
                      have c0 := c0K.out _ HX7.out
                      clear hm hx
                      go_wp2
                      refine ⟨⟨k + 1, HMs.out.2, by go_num, ?_, ?_, (gk_next HUk.out HDk.out HM7.out), HX7.out⟩, by simp [intOf]; have := HMs.out; omega⟩
                      · rw [HP.out, HUk.out, HDk.out]; simp
                      · rw [HQn.out, HUk.out]; simp
              · have HUk := Lib.hid hu
                rw [hu] at e0
                rcases Bool.eq_false_or_eq_true (d k) with hd | hd
                · have HDk := Lib.hid hd
                  rw [hd] at e1
                  clear hu hd
                  as_aux_lemma =>
                    go_wp2_with fail
                    refine (done_ok q wr HM.out HQw.out HQm.out).mono ?_
                    rintro e w8 ⟨rfl, hm, hx⟩
                    rw [HQ.out] at hm
                    have HM8 := Lib.hid (gk_no HUk.out hm)
                    have HX8 := Lib.hid (HB6.out.trans (hx.below HB6.out.size (fun i _ hi => by have := HLo.out; rcases hi with hi | hi <;> omega)))
                    clear hm hx
                    go_wp2
                    refine ⟨⟨k + 1, HMs.out.2, by go_num, ?_, ?_, HM8.out, HX8.out⟩, by simp [intOf]; have := HMs.out; omega⟩
                    · rw [HP.out, HUk.out]; simp
                    · rw [HQn.out, HUk.out]; simp
                · have HDk := Lib.hid hd
                  rw [hd] at e1
                  clear hu hd
                  as_aux_lemma =>
                    go_wp2
                    refine ⟨⟨k + 1, HMs.out.2, by go_num, ?_, ?_, (gk_none HUk.out HM.out), HB6.out⟩, by simp [intOf]; have := HMs.out; omega⟩
                    · rw [HP.out, HUk.out]; simp
                    · rw [HQn.out, HUk.out]; simp
            · obtain rfl : k = j := by omega
              obtain ⟨W6, hW6⟩ : ∃ x, x = wr := ⟨_, rfl⟩
              subst hW6
              obtain ⟨P, hP⟩ : ∃ P, P = anyN k fun i => u i && !d i := ⟨_, rfl⟩
              obtain ⟨Q, hQ⟩ : ∃ Q, Q = anyN k u := ⟨_, rfl⟩
              have hM := HM.out
              have hst : stK u k = if Q = true then 2 else 1 := by unfold stK; rw [hQ]
              have hbg : bgK u k z1 = if Q = true then (z1 : Int) else 0 := by unfold bgK; rw [hQ]
              have hE : ∀ st beg now : Int, beg + z0 ≤ 9223372036854775807 → (mcN 0 k (gK u d k) z0 st beg).ends now = (decide (st = 2) && (!P || decide (beg + z0 ≤ now))) := fun st beg now h => by rw [mcN_ends h, gK_any, hP]
              have HE := Lib.hid hE
              rw [← hP, ← hQ]
              have ws : IntKind.i64.wrap ((z1 : Int) + z0) = (z1 : Int) + z0 := IntWalk.i64_in _ (by have := HZ.out; omega)
              have wt : IntKind.i64.wrap ((z1 : Int) + z0 - 1) = (z1 : Int) + z0 - 1 := IntWalk.i64_in _ (by have := HZ.out; omega)
              rw [hst, hbg] at hM
              clear hP hQ hst hbg hE
              cases Q
              · as_aux_lemma =>
                  rw [if_neg (by decide), if_neg (by decide)] at hM
                  have HM := Lib.hid hM
                  clear hM
                  have he := HE.out 1 0 ((z1 : Int) + z0) (by have := HZ.out; omega)
                  rw [decide_eq_false (by decide), Bool.false_and] at he
                  have HEe := Lib.hid he
                  clear he
                  go_wp2_with fail
                  refine (state_any W6 HM.out).mono ?_
                  rintro e w21 ⟨rfl, rfl⟩
                  rw [mcN_st]
                  go_wp2_with fail
                  refine (tick_any ((z1 : Int) + z0) W6 HM.out).mono ?_
                  rintro e w22 ⟨rfl, hm, hx⟩
                  rw [mcN_tick, HEe.out, if_neg (by decide)] at hm
                  rw [HEe.out]
                  have HM7 := Lib.hid hm
                  have HB7 := Lib.hid (HB6.out.trans (hx.below HB6.out.size (fun i _ hi => by have := HLo.out; rcases hi with hi | hi <;> omega)))
                  clear hm hx
                  go_wp2_with fail
                  refine (lives_any w22).mono ?_
                  rintro e w99 ⟨rfl, hb⟩
                  have HBl := Lib.hid (HB7.out.trans (hb.mono HB7.out.size))
                  clear hb
                  go_wp2
                  go_ret
                  exact ⟨rfl, HB1.out.trans (HBl.out.mono HB1.out.size)⟩
              · rw [if_pos rfl, if_pos rfl] at hM
                have HM := Lib.hid hM
                clear hM
                cases P
                · as_aux_lemma =>
                    have he : (mcN 0 k (gK u d k) z0 2 z1).ends z1 = true := by rw [HE.out 2 z1 z1 (by have := HZ.out; omega), decide_eq_true rfl]; rfl
                    have HEe := Lib.hid he
                    clear he
                    go_wp2_with fail
                    refine (state_any W6 HM.out).mono ?_
                    rintro e w23 ⟨rfl, rfl⟩
                    rw [mcN_st]
                    go_wp2_with fail
                    refine (tick_any (z1 : Int) W6 HM.out).mono ?_
                    rintro e w24 ⟨rfl, hm, hx⟩
                    rw [mcN_tick, HEe.out, if_pos rfl] at hm
                    rw [HEe.out]
                    have HM7 := Lib.hid hm
                    have HB7 := Lib.hid (HB6.out.trans (hx.below HB6.out.size (fun i _ hi => by have := HLo.out; rcases hi with hi | hi <;> omega)))
                    clear hm hx
                    go_wp2_with fail
                    refine (state_any w24 HM7.out).mono ?_
                    rintro e w25 ⟨rfl, rfl⟩
                    rw [mcN_st]
                    go_wp2_with fail
                    refine (lives_any w24).mono ?_
                    rintro e w99 ⟨rfl, hb⟩
                    have HBl := Lib.hid (HB7.out.trans (hb.mono HB7.out.size))
                    clear hb
                    go_wp2
                    go_ret
                    exact ⟨rfl, HB1.out.trans (HBl.out.mono HB1.out.size)⟩
                · by_cases hz : z0 = 0
                  · as_aux_lemma =>
                      have he : (mcN 0 k (gK u d k) z0 2 z1).ends z1 = true := by rw [HE.out 2 z1 z1 (by have := HZ.out; omega), decide_eq_true rfl, decide_eq_true (by omega)]; rfl
                      have HEe := Lib.hid he
                      have hz0 : ((z0 : Int) == 0) = true := by simpa using hz
                      clear he hz
                      go_wp2_with fail
                      refine (state_any W6 HM.out).mono ?_
                      rintro e w26 ⟨rfl, rfl⟩
                      rw [mcN_st]
                      go_wp2_with fail
                      refine (tick_any (z1 : Int) W6 HM.out).mono ?_
                      rintro e w27 ⟨rfl, hm, hx⟩
                      rw [mcN_tick, HEe.out, if_pos rfl] at hm
                      rw [HEe.out]
                      have HM7 := Lib.hid hm
                      have HB7 := Lib.hid (HB6.out.trans (hx.below HB6.out.size (fun i _ hi => by have := HLo.out; rcases hi with hi | hi <;> omega)))
                      clear hm hx
                      go_wp2_with fail
                      refine (state_any w27 HM7.out).mono ?_
                      rintro e w28 ⟨rfl, rfl⟩
                      rw [mcN_st]
                      go_wp2_with fail
                      refine (lives_any w27).mono ?_
                      rintro e w99 ⟨rfl, hb⟩
                      have HBl := Lib.hid (HB7.out.trans (hb.mono HB7.out.size))
                      clear hb
                      go_wp2
                      go_ret
                      exact ⟨rfl, HB1.out.trans (HBl.out.mono HB1.out.size)⟩
                  · as_aux_lemma =>
                      have he : (mcN 0 k (gK u d k) z0 2 z1).ends z1 = false := by rw [HE.out 2 z1 z1 (by have := HZ.out; omega), decide_eq_true rfl, decide_eq_false (by omega)]; rfl
                      have HEe := Lib.hid he
                      have he2 : (mcN 0 k (gK u d k) z0 2 z1).ends ((z1 : Int) + z0 - 1) = false := by rw [HE.out 2 z1 _ (by have := HZ.out; omega), decide_eq_true rfl, decide_eq_false (by omega)]; rfl
                      have HEf := Lib.hid he2
                      have he3 : (mcN 0 k (gK u d k) z0 2 z1).ends ((z1 : Int) + z0) = true := by rw [HE.out 2 z1 _ (by have := HZ.out; omega), decide_eq_true rfl, decide_eq_true (by omega)]; rfl
                      have HEg := Lib.hid he3
                      have hz0 : ((z0 : Int) == 0) = false := by simpa using hz
                      clear he he2 he3 hz
                      go_wp2_with fail
                      refine (state_any W6 HM.out).mono ?_
                      rintro e w29 ⟨rfl, rfl⟩
                      rw [mcN_st]
                      go_wp2_with fail
                      refine (tick_any (z1 : Int) W6 HM.out).mono ?_
                      rintro e w30 ⟨rfl, hm, hx⟩
                      rw [mcN_tick, HEe.out, if_neg (by decide)] at hm
                      rw [HEe.out]
                      have HM7 := Lib.hid hm
                      have HB7 := Lib.hid (HB6.out.trans (hx.below HB6.out.size (fun i _ hi => by have := HLo.out; rcases hi with hi | hi <;> omega)))
                      clear hm hx
                      go_wp2_with fail
                      refine (tick_any ((z1 : Int) + z0 - 1) w30 HM7.out).mono ?_
                      rintro e w31 ⟨rfl, hm, hx⟩
                      rw [mcN_tick, HEf.out, if_neg (by decide)] at hm
                      rw [HEf.out]
                      have HM8 := Lib.hid hm
                      have HB8 := Lib.hid (HB7.out.trans (hx.below HB7.out.size (fun i _ hi => by have := HLo.out; rcases hi with hi | hi <;> omega)))
                      clear hm hx
                      go_wp2_with fail
                      refine (state_any w31 HM8.out).mono ?_
                      rintro e w32 ⟨rfl, rfl⟩
                      rw [mcN_st]
                      go_wp2_with fail
                      refine (tick_any ((z1 : Int) + z0) w31 HM8.out).mono ?_
                      rintro e w33 ⟨rfl, hm, hx⟩
                      rw [mcN_tick, HEg.out, if_pos rfl] at hm
                      rw [HEg.out]
                      have HM9 := Lib.hid hm
                      have HB9 := Lib.hid (HB8.out.trans (hx.below HB8.out.size (fun i _ hi => by have := HLo.out; rcases hi with hi | hi <;> omega)))
                      clear hm hx
                      go_wp2_with fail
                      refine (state_any w33 HM9.out).mono ?_
                      rintro e w34 ⟨rfl, rfl⟩
                      rw [mcN_st]
                      go_wp2_with fail
                      refine (lives_any w33).mono ?_
                      rintro e w99 ⟨rfl, hb⟩
                      have HBl := Lib.hid (HB9.out.trans (hb.mono HB9.out.size))
                      clear hb
                      go_wp2
                      go_ret
                      exact ⟨rfl, HB1.out.trans (HBl.out.mono HB1.out.size)⟩
end Go.Proofs.Ytpjdodgbidkblaa
