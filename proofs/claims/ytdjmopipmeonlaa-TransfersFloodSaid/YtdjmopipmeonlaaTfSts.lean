/- Joined: TfSt TfSts. -/
import Derived.Test.YtdjmopipmeonlaaTfGet
/- A table's statusOf, Status and Statuses. -/
namespace Go.Proofs.Ytdjmopipmeonlaa
set_option linter.unusedVariables false
open Go.RowKit Go.Maps

theorem clipS_any (a : Option Addr) (n c : Nat) (w : World) (hnc : n ≤ c) (_hc : c ≤ maxLen) :
    Calls Try.prog 39 #[.slice a n c] w fun e w' => e = .returned (.slice a n n) ∧ w = w' := by
  have h1 : (n : Int) ≤ (c : Int) := by omega
  go_enter Try.func39, Try.ntmps39
  go_wp2
  go_ret
  exact ⟨rfl, rfl⟩
theorem clipN_any (a : Option Addr) (n c : Nat) (w : World) (hnc : n ≤ c) (_hc : c ≤ maxLen) :
    Calls Try.prog 44 #[.slice a n c] w fun e w' => e = .returned (.slice a n n) ∧ w = w' := by
  have h1 : (n : Int) ≤ (c : Int) := by omega
  go_enter Try.func44, Try.ntmps44
  go_wp2
  go_ret
  exact ⟨rfl, rfl⟩
theorem Tb.byN_range {T : Tb} (h : TbWf T) (n d : Int) : 0 ≤ T.byN n d ∧ T.byN n d ≤ 2 := by
  unfold Tb.byN; split
  · exact h.told n d
  · decide
theorem stF_range (r0 : Int) : ∀ (l : List (Int × Int)) (acc : Int), 0 ≤ acc → acc ≤ 2 → 0 ≤ Tb.stF r0 acc l ∧ Tb.stF r0 acc l ≤ 2
  | [], acc, h1, h2 => ⟨h1, h2⟩
  | (s, r) :: l, acc, h1, h2 => by
    unfold Tb.stF
    split
    · decide
    · split
      · exact stF_range r0 l acc h1 h2
      · exact stF_range r0 l 1 (by decide) (by decide)
theorem Tb.st_range (T : Tb) (d : Int) : 0 ≤ T.st d ∧ T.st d ≤ 2 := stF_range _ _ _ (by decide) (by decide)
/-- The pairs of status and rank that statusOf goes through. -/
def prs (T : Tb) (d : Int) : List (Int × Int) := (T.C d).map fun c => (T.byN c.1 d, c.2)
theorem prs_take {T : Tb} {d : Int} {k : Nat} (hk : k < (T.C d).length) : (prs T d).take (k + 1) = (prs T d).take k ++ [(T.byN ((T.C d).getD k (0, 0)).1 d, ((T.C d).getD k (0, 0)).2)] := by
  unfold prs
  rw [← List.map_take, ← List.map_take, List.take_succ_eq_append_getElem hk, List.map_append]
  simp [List.getD_eq_getElem?_getD, hk]
theorem prs_step {T : Tb} {d : Int} {k : Nat} (hk : k < (T.C d).length) (r0 : Int) (hno : ∀ x ∈ (prs T d).take k, ¬ (x.1 = 0 ∧ x.2 = r0)) (hn : ¬ (T.byN ((T.C d).getD k (0, 0)).1 d = 0 ∧ ((T.C d).getD k (0, 0)).2 = r0)) :
    (∀ x ∈ (prs T d).take (k + 1), ¬ (x.1 = 0 ∧ x.2 = r0)) ∧ Tb.stF r0 2 ((prs T d).take (k + 1)) = if T.byN ((T.C d).getD k (0, 0)).1 d = 2 then Tb.stF r0 2 ((prs T d).take k) else 1 := by
  rw [prs_take hk]
  refine ⟨fun x hx => ?_, ?_⟩
  · rcases List.mem_append.1 hx with h | h
    · exact hno x h
    · rw [List.mem_singleton] at h; subst h; exact hn
  · rw [Tb.stF_snoc r0 _ 2 _ _ hno, if_neg hn]
theorem prs_hit {T : Tb} {d : Int} {k : Nat} (hk : k < (T.C d).length) (r0 : Int) (h1 : T.byN ((T.C d).getD k (0, 0)).1 d = 0) (h2 : ((T.C d).getD k (0, 0)).2 = r0) : Tb.stF r0 2 (prs T d) = 0 := by
  have h := prs_take (T := T) (d := d) hk
  rw [← List.take_append_drop (k + 1) (prs T d), h]
  exact Tb.stF_zero r0 _ _ _ ⟨_, List.mem_append_right _ (List.mem_singleton.2 rfl), h1, h2⟩
theorem mem_getD {α : Type} {L : List α} {k : Nat} {d : α} (hk : k < L.length) : L.getD k d ∈ L := by
  rw [List.getD_eq_getElem?_getD, List.getElem?_eq_getElem hk]; exact List.getElem_mem _
set_option maxRecDepth 100000 in
set_option maxHeartbeats 2000000 in
theorem statusOf_any {y : Tl} {T : Tb} (d : Int) (w : World) (h : TbAt w y T) (hd : d ∈ T.D) : Calls Try.prog 37 #[.pointer (some ⟨y.tb, 0, none⟩), .int .u16 d] w fun e w' => e = .returned (.int .u8 (T.st d)) ∧ Below w.heap.size w w' := by
  have hwd := h.fix.drow.wf d hd
  obtain ⟨g0, g1, g2, g3, g4, g5, g6, g7⟩ := h.cells
  obtain ⟨a, e1, e2, _⟩ := h.fix.crow d hd
  have hlc := h.wf.lenC d hd
  have hcw := h.wf.chwf d hd
  have hr := h.drew.fix.chs.run hwd (.inl ⟨hd, e1⟩)
  have hst : T.st d = Tb.stF ((T.C d).getD 0 (0, 0)).2 2 (prs T d) := rfl
  have HSB := Lib.hid (fun (n : Int) (W : World) (hb : Below w.heap.size w W) (hn : (Lit.int .u16 n).wf = true) => statusBy_any n d W (h.below hb) hn hwd)
  obtain ⟨r0, hr0⟩ : ∃ r0, r0 = ((T.C d).getD 0 (0, 0)).2 := ⟨_, rfl⟩
  obtain ⟨n, hn⟩ : ∃ n, n = (T.C d).length := ⟨_, rfl⟩
  rw [← hn] at hr e2 hlc
  rw [← hr0] at hst
  have HSt := Lib.hid hst
  have HN := Lib.hid hn
  have HR0 := Lib.hid hr0
  have HC := Lib.hid e2
  have HCW := Lib.hid hcw
  have HPr : Hid ((prs T d).length = n) := Lib.hid (by unfold prs; rw [List.length_map, hn])
  clear hst hn hr0 e1 e2 hcw h hd hwd
  go_enter Try.func37, Try.ntmps37
  go_wp2_with fail
  go_region
  clear hr g0 g1 g2 g3 g4 g5 g6 g7
  have hb0 : Below w.heap.size w w.drew := below_draw w 1
  generalize w.drew = w0 at hb0 ⊢
  have HC0 := Lib.hid (fun (W : World) (hb : Below w0.heap.size w0 W) => HC.out.exc (S := fun _ => False) (Exc.of_below (hb0.trans (hb.mono hb0.size))) (fun _ _ h => h))
  have HB0 := Lib.hid hb0
  clear hb0 HC
  go_wp2_with fail
  go_loopw [5, 18] (fun sv kv wr => ∃ k : Nat, k ≤ n ∧ kv = .int .i64 k ∧ sv = .int .u8 (Tb.stF r0 2 ((prs T d).take k)) ∧ (∀ x ∈ (prs T d).take k, ¬ (x.1 = 0 ∧ x.2 = r0)) ∧ Below w0.heap.size w0 wr) (fun _ kv _ => n - (intOf kv).toNat)
  case atStart => exact ⟨0, Nat.zero_le _, rfl, by simp [Tb.stF], by simp, Below.refl _ _⟩
  case round =>
    obtain ⟨k, hk, rfl, rfl, hno, hb⟩ := hrel
    obtain ⟨acc, hacc⟩ : ∃ acc, acc = Tb.stF r0 2 ((prs T d).take k) := ⟨_, rfl⟩
    rw [← hacc]
    have HB := Lib.hid hb
    have HNo := Lib.hid hno
    have HAcc := Lib.hid hacc
    have hcr := HC0.out wr hb
    have hsz : w0.heap.size ≤ wr.heap.size := hb.size
    clear hb hno hacc
    by_cases hkn : k < n
    · obtain ⟨b, off, rfl, hc⟩ := hcr.cells.resolve_left (by omega)
      have hkl : k < (T.C d).length := by rw [← HN.out]; exact hkn
      obtain ⟨c0, c1⟩ := hc k hkn
      have c2 := (hc 0 (by omega)).2
      rw [← HR0.out] at c2
      have hw := HCW.out _ (mem_getD (d := (0, 0)) hkl)
      have HStep := Lib.hid (prs_step hkl r0 HNo.out)
      have HHit := Lib.hid (prs_hit hkl r0)
      obtain ⟨q, hq⟩ : ∃ q, q = (T.C d).getD k (0, 0) := ⟨_, rfl⟩
      rw [← hq] at c0 c1 hw HStep HHit
      obtain ⟨q1, q2⟩ := q
      simp only at c0 c1 hw HStep HHit
      obtain ⟨s, hs⟩ : ∃ s, s = T.byN q1 d := ⟨_, rfl⟩
      have hsb := HSB.out q1 (wr.alloc (.cells #[.int .u16 q1, .int .i64 q2] 114)) (HB0.out.trans ((HB.out.trans ((below_alloc wr _).mono HB.out.size)).mono HB0.out.size)) hw
      rw [← hs] at hsb HStep HHit
      have HSb := Lib.hid hsb
      have hbl : b < wr.heap.size := World.block_lt_of_cell? _ _ c0
      have k1 : (k : Int) < (n : Int) := by omega
      have k2 : (0 : Int) ≤ (k : Int) := by omega
      have k3 : (0 : Int) < (n : Int) := by omega
      have k4 : 0 < n := by omega
      simp only [Nat.zero_mul, Nat.add_zero] at c2
      have HEnd : Hid (Below w0.heap.size w0 (wr.alloc (.cells #[.int .u16 q1, .int .i64 q2] 114))) := Lib.hid (HB.out.trans ((below_alloc wr _).mono HB.out.size))
      clear hq hs hc hcr hw hsb
      go_wp2_with fail
      with_reducible refine HSb.out.mono ?_
      rintro e w' ⟨rfl, rfl⟩
      by_cases h0 : s = 0
      · have e0 : (s == 0) = true := by simpa using h0
        have e2 : (s != 2) = true := by simp [h0]
        by_cases h1 : q2 = r0
        · have e1 : (q2 == r0) = true := by simpa using h1
          have HRes := Lib.hid (HHit.out h0 h1)
          clear h0 h1 e2
          go_wp2_with fail
          go_quiet (fail)
          go_wp2
          go_ret
          exact ⟨ret_int (by rw [HSt.out, HRes.out]), HB0.out.trans ((HEnd.out.trans ((below_draw _ _).mono HEnd.out.size)).mono HB0.out.size)⟩
        · have e1 : (q2 == r0) = false := by simpa using h1
          have HRes := Lib.hid (HStep.out fun h => h1 h.2)
          have HS2 := Lib.hid (show ¬ s = 2 by omega)
          clear h0 h1
          go_wp2_with fail
          go_quiet (fail)
          go_wp2
          refine ⟨⟨k + 1, by omega, by go_num, ?_, HRes.out.1, HEnd.out.trans ((below_draw _ _).mono HEnd.out.size)⟩, by simp [intOf]; omega⟩
          rw [HRes.out.2, if_neg HS2.out]
      · have e0 : (s == 0) = false := by simpa using h0
        have HRes := Lib.hid (HStep.out fun h => h0 h.1)
        by_cases h2 : s = 2
        · have e2 : (s != 2) = false := by simpa using h2
          have HS2 := Lib.hid h2
          clear h0 h2
          go_wp2_with fail
          go_quiet (fail)
          go_wp2
          refine ⟨⟨k + 1, by omega, by go_num, ?_, HRes.out.1, HEnd.out.trans ((below_draw _ _).mono HEnd.out.size)⟩, by simp [intOf]; omega⟩
          rw [HRes.out.2, if_pos HS2.out, ← HAcc.out]
        · have e2 : (s != 2) = true := by simpa using h2
          have HS2 := Lib.hid h2
          clear h0 h2
          go_wp2_with fail
          go_quiet (fail)
          go_wp2
          refine ⟨⟨k + 1, by omega, by go_num, ?_, HRes.out.1, HEnd.out.trans ((below_draw _ _).mono HEnd.out.size)⟩, by simp [intOf]; omega⟩
          rw [HRes.out.2, if_neg HS2.out]
    · obtain rfl : k = n := by omega
      have HRes : Hid (T.st d = acc) := Lib.hid (by rw [HSt.out, HAcc.out, List.take_of_length_le (by rw [HPr.out]; exact Nat.le_refl _)])
      clear hcr
      go_wp2
      go_ret
      exact ⟨ret_int HRes.out.symm, HB0.out.trans (HB.out.mono HB0.out.size)⟩
end Go.Proofs.Ytdjmopipmeonlaa
/- A table's Status and Statuses. -/
namespace Go.Proofs.Ytdjmopipmeonlaa
set_option linter.unusedVariables false
open Go.RowKit Go.Maps

set_option maxRecDepth 100000 in
theorem status_nul (a : Option Addr) (d : Int) (w : World) (h : Nul w a) : Calls Try.prog 13 #[.pointer a, .int .u16 d] w fun e w' => e = .returned (.tuple #[.int .u8 0, .int .i64 2]) ∧ w = w' := by
  have HE := Lib.hid (isEmpty_nul a w h)
  clear h
  go_enter Try.func13, Try.ntmps13
  go_wp2_with fail
  with_reducible refine HE.out.mono ?_
  rintro e w' ⟨rfl, rfl⟩
  go_wp2
  go_ret2
  exact ⟨rfl, rfl⟩
set_option maxRecDepth 100000 in
theorem status_me {y : Tl} {T : Tb} (w : World) (h : TbAt w y T) : Calls Try.prog 13 #[.pointer (some ⟨y.tb, 0, none⟩), .int .u16 T.me] w fun e w' => e = .returned (.tuple #[.int .u8 0, .int .i64 0]) ∧ Below w.heap.size w w' := by
  have HE := Lib.hid (isEmpty_any w h)
  obtain ⟨g0, g1, g2, g3, g4, g5, g6, g7⟩ := h.cells
  clear h
  go_enter Try.func13, Try.ntmps13
  go_wp2_with fail
  with_reducible refine HE.out.mono ?_
  rintro e w' ⟨rfl, rfl⟩
  go_wp2
  go_ret2
  exact ⟨rfl, Below.refl _ _⟩
set_option maxRecDepth 100000 in
theorem status_no {y : Tl} {T : Tb} (d : Int) (w : World) (h : TbAt w y T) (hwd : (Lit.int .u16 d).wf = true) (hm : d ≠ T.me) (hd : d ∉ T.D) : Calls Try.prog 13 #[.pointer (some ⟨y.tb, 0, none⟩), .int .u16 d] w fun e w' => e = .returned (.tuple #[.int .u8 0, .int .i64 7]) ∧ Below w.heap.size w w' := by
  have HE := Lib.hid (isEmpty_any w h)
  have hN := isDestination_any d w h hwd
  rw [decide_eq_false hd] at hN
  have HN := Lib.hid hN
  have hne : (d == T.me) = false := by simpa using hm
  obtain ⟨g0, g1, g2, g3, g4, g5, g6, g7⟩ := h.cells
  clear h hN hwd hm hd
  go_enter Try.func13, Try.ntmps13
  go_wp2_with fail
  with_reducible refine HE.out.mono ?_
  rintro e w' ⟨rfl, rfl⟩
  go_wp2_with fail
  with_reducible refine HN.out.mono ?_
  rintro e w' ⟨rfl, hb⟩
  have HB := Lib.hid hb
  clear hb g0 g1 g2 g3 g4 g5 g6 g7
  go_wp2
  go_ret2
  exact ⟨rfl, HB.out⟩
set_option maxRecDepth 100000 in
theorem status_ok {y : Tl} {T : Tb} (d : Int) (w : World) (h : TbAt w y T) (hm : d ≠ T.me) (hd : d ∈ T.D) : Calls Try.prog 13 #[.pointer (some ⟨y.tb, 0, none⟩), .int .u16 d] w fun e w' => e = .returned (.tuple #[.int .u8 (T.st d), .int .i64 0]) ∧ Below w.heap.size w w' := by
  have HE := Lib.hid (isEmpty_any w h)
  have hwd := h.fix.drow.wf d hd
  have hN := isDestination_any d w h hwd
  rw [decide_eq_true hd] at hN
  have HN := Lib.hid hN
  have HS := Lib.hid (fun (W : World) (hb : Below w.heap.size w W) => statusOf_any d W (h.below hb) hd)
  have hne : (d == T.me) = false := by simpa using hm
  obtain ⟨g0, g1, g2, g3, g4, g5, g6, g7⟩ := h.cells
  obtain ⟨s, hs⟩ : ∃ s, s = T.st d := ⟨_, rfl⟩
  rw [← hs] at HS ⊢
  clear h hN hwd hm hd hs
  go_enter Try.func13, Try.ntmps13
  go_wp2_with fail
  with_reducible refine HE.out.mono ?_
  rintro e w' ⟨rfl, rfl⟩
  go_wp2_with fail
  with_reducible refine HN.out.mono ?_
  rintro e w1 ⟨rfl, hb⟩
  have HB := Lib.hid hb
  clear hb g0 g1 g2 g3 g4 g5 g6 g7
  go_wp2_with fail
  with_reducible refine (HS.out w1 HB.out).mono ?_
  rintro e w2 ⟨rfl, hb⟩
  have HB2 := Lib.hid (HB.out.trans (hb.mono HB.out.size))
  clear hb
  go_wp2
  go_ret2
  exact ⟨rfl, HB2.out⟩
set_option maxRecDepth 100000 in
theorem statuses_nul (a : Option Addr) (d : Int) (w : World) (h : Nul w a) : Calls Try.prog 15 #[.pointer a, .int .u16 d] w fun e w' => e = .returned (.tuple #[.slice none 0 0, .int .i64 2]) ∧ w = w' := by
  have HE := Lib.hid (isEmpty_nul a w h)
  clear h
  go_enter Try.func15, Try.ntmps15
  go_wp2_with fail
  with_reducible refine HE.out.mono ?_
  rintro e w' ⟨rfl, rfl⟩
  go_wp2
  go_ret2
  exact ⟨rfl, rfl⟩
set_option maxRecDepth 100000 in
theorem statuses_me {y : Tl} {T : Tb} (w : World) (h : TbAt w y T) : Calls Try.prog 15 #[.pointer (some ⟨y.tb, 0, none⟩), .int .u16 T.me] w fun e w' => e = .returned (.tuple #[.slice none 0 0, .int .i64 1]) ∧ Below w.heap.size w w' := by
  have HE := Lib.hid (isEmpty_any w h)
  obtain ⟨g0, g1, g2, g3, g4, g5, g6, g7⟩ := h.cells
  clear h
  go_enter Try.func15, Try.ntmps15
  go_wp2_with fail
  with_reducible refine HE.out.mono ?_
  rintro e w' ⟨rfl, rfl⟩
  go_wp2
  go_ret2
  exact ⟨rfl, Below.refl _ _⟩
set_option maxRecDepth 100000 in
theorem statuses_no {y : Tl} {T : Tb} (d : Int) (w : World) (h : TbAt w y T) (hwd : (Lit.int .u16 d).wf = true) (hm : d ≠ T.me) (hd : d ∉ T.D) : Calls Try.prog 15 #[.pointer (some ⟨y.tb, 0, none⟩), .int .u16 d] w fun e w' => e = .returned (.tuple #[.slice none 0 0, .int .i64 7]) ∧ Below w.heap.size w w' := by
  have HE := Lib.hid (isEmpty_any w h)
  have hN := isDestination_any d w h hwd
  rw [decide_eq_false hd] at hN
  have HN := Lib.hid hN
  have hne : (d == T.me) = false := by simpa using hm
  obtain ⟨g0, g1, g2, g3, g4, g5, g6, g7⟩ := h.cells
  clear h hN hwd hm hd
  go_enter Try.func15, Try.ntmps15
  go_wp2_with fail
  with_reducible refine HE.out.mono ?_
  rintro e w' ⟨rfl, rfl⟩
  go_wp2_with fail
  with_reducible refine HN.out.mono ?_
  rintro e w' ⟨rfl, hb⟩
  have HB := Lib.hid hb
  clear hb g0 g1 g2 g3 g4 g5 g6 g7
  go_wp2
  go_ret2
  exact ⟨rfl, HB.out⟩
theorem sts_take {T : Tb} {d : Int} {k : Nat} (hk : k < (T.C d).length) : (T.sts d).take (k + 1) = (T.sts d).take k ++ [T.byN ((T.C d).getD k (0, 0)).1 d] := by
  unfold Tb.sts
  rw [← List.map_take, ← List.map_take, List.take_succ_eq_append_getElem hk, List.map_append]
  simp [List.getD_eq_getElem?_getD, hk]
theorem infoSt : (Try.prog.info? 52).map (fun i => (i.zero, i.size, i.bytes)) = some (some (.int .u8 0), 1, 1) := by kernel_rfl
/-- The statuses of a destination's choices, in memory of the call's own. -/
def StsOut (T : Tb) (d : Int) (w : World) (e : Ending) (w' : World) : Prop := ∃ a, e = .returned (.tuple #[.slice a (T.sts d).length (T.sts d).length, .int .i64 0]) ∧ Row .u8 w' a (T.sts d).length (T.sts d).length (T.sts d) ∧ Below w.heap.size w w'
set_option maxRecDepth 100000 in
set_option maxHeartbeats 2000000 in
theorem statuses_ok {y : Tl} {T : Tb} (d : Int) (w : World) (h : TbAt w y T) (hm : d ≠ T.me) (hd : d ∈ T.D) : Calls Try.prog 15 #[.pointer (some ⟨y.tb, 0, none⟩), .int .u16 d] w (StsOut T d w) := by
  have HE := Lib.hid (isEmpty_any w h)
  have hwd := h.fix.drow.wf d hd
  have hN := isDestination_any d w h hwd
  rw [decide_eq_true hd] at hN
  have HN := Lib.hid hN
  have hne : (d == T.me) = false := by simpa using hm
  obtain ⟨g0, g1, g2, g3, g4, g5, g6, g7⟩ := h.cells
  obtain ⟨a, e1, e2, _⟩ := h.fix.crow d hd
  have hlc := h.wf.lenC d hd
  have hcw := h.wf.chwf d hd
  obtain ⟨n, hn⟩ : ∃ n, n = (T.C d).length := ⟨_, rfl⟩
  rw [← hn] at e1 e2 hlc
  have hrun := fun (W : World) (hb : Below w.heap.size w W) => (h.below hb).fix.chs.run hwd (.inl ⟨hd, e1⟩)
  have HRun := Lib.hid hrun
  have hcell := fun (W : World) (hb : Below w.heap.size w W) => (h.below hb).cells
  have HCell := Lib.hid hcell
  have HSB := Lib.hid (fun (q : Int) (W : World) (hb : Below w.heap.size w W) (hq : (Lit.int .u16 q).wf = true) => statusBy_any q d W (h.below hb) hq hwd)
  have HC := Lib.hid (fun (W : World) (hb : Below w.heap.size w W) => e2.exc (S := fun _ => False) (Exc.of_below hb) (fun _ _ h => h))
  have HRg := Lib.hid (fun q => (wf_u8.2 (by have := Tb.byN_range h.wf q d; omega) : (Lit.int .u8 (T.byN q d)).wf = true))
  have HN2 := Lib.hid hn
  have HCW := Lib.hid hcw
  have HLen : Hid ((T.sts d).length = n) := Lib.hid (by unfold Tb.sts; rw [List.length_map, hn])
  clear h hN hwd hm hd e1 e2 hrun hcell hcw hn
  go_enter Try.func15, Try.ntmps15
  go_wp2_with fail
  with_reducible refine HE.out.mono ?_
  rintro e w' ⟨rfl, rfl⟩
  go_wp2_with fail
  with_reducible refine HN.out.mono ?_
  rintro e w0 ⟨rfl, hb⟩
  have hr := HRun.out w0 hb
  have HB0 := Lib.hid hb
  clear g0 g1 g2 g3 g4 g5 g6 g7 hne
  obtain ⟨g0, g1, g2, g3, g4, g5, g6, g7⟩ := HCell.out w0 hb
  clear hb HN HE
  go_wp2_with fail
  clear hr g0 g1 g2 g3 g4 g5 g6 g7
  go_loopw [6, 31] (fun v kv wr => ∃ k : Nat, k ≤ n ∧ kv = .int .i64 k ∧ Below w0.heap.size w0 wr ∧ wr.ownsRow w0.heap.size 52 1 v k (nums .u8 ((T.sts d).take k))) (fun _ kv _ => n - (intOf kv).toNat)
  case atStart => exact ⟨0, Nat.zero_le _, rfl, Below.refl _ _, by simpa [nums] using World.ownsRow_nil w0 w0.heap.size 52 1⟩
  case round =>
    obtain ⟨k, hk, rfl, hb, hown⟩ := hrel
    have HB := Lib.hid hb
    have HW := Lib.hid hown
    have hsz : w0.heap.size ≤ wr.heap.size := hb.size
    have hcr := HC.out wr (HB0.out.trans (hb.mono HB0.out.size))
    clear hb hown
    by_cases hkn : k < n
    · obtain ⟨b, off, rfl, hc⟩ := hcr.cells.resolve_left (by omega)
      have hkl : k < (T.C d).length := by rw [← HN2.out]; exact hkn
      obtain ⟨c0, c1⟩ := hc k hkn
      have hw := HCW.out _ (mem_getD (d := (0, 0)) hkl)
      have HT := Lib.hid (sts_take (T := T) (d := d) hkl)
      obtain ⟨q, hq⟩ : ∃ q, q = (T.C d).getD k (0, 0) := ⟨_, rfl⟩
      rw [← hq] at c0 c1 hw HT
      obtain ⟨q1, q2⟩ := q
      simp only at c0 c1 hw HT
      have hB1 : Below w0.heap.size w0 (wr.alloc (.cells #[.int .u16 q1, .int .i64 q2] 114)) := HB.out.trans ((below_alloc wr _).mono HB.out.size)
      have hsb := HSB.out q1 (wr.alloc (.cells #[.int .u16 q1, .int .i64 q2] 114)) (HB0.out.trans (hB1.mono HB0.out.size)) hw
      obtain ⟨s, hs⟩ : ∃ s, s = T.byN q1 d := ⟨_, rfl⟩
      rw [← hs] at hsb HT
      have HSb := Lib.hid hsb
      have HB1 := Lib.hid hB1
      have HW1 := Lib.hid (ownsRow_below HW.out (below_alloc wr (.cells #[.int .u16 q1, .int .i64 q2] 114)))
      have hbl : b < wr.heap.size := World.block_lt_of_cell? _ _ c0
      have k1 : (k : Int) < (n : Int) := by omega
      have k2 : (0 : Int) ≤ (k : Int) := by omega
      have hsz1 := hB1.size
      clear hq hs hc hcr hw hsb hB1
      go_wp2_with fail
      with_reducible refine HSb.out.mono ?_
      rintro e w5 ⟨rfl, hw5⟩
      have hB5 := HB1.out
      have hW5 := HW1.out
      rw [hw5] at hB5 hW5
      have HB5 := Lib.hid hB5
      have HW5 := Lib.hid hW5
      have hsz5 := hB5.size
      clear c0 c1 hw5 hB5 hW5 hsz1
      go_wp2_with (at_builtin; refine wpList_append_one Try.underlying58 infoSt (by decide) rfl _ _ rfl w0.heap.size _ _ _ _ rfl (by exact HW5.out) rfl (by omega) hsz5 ?_)
      intro v1 w1 h1 h2 gx cx h3
      have H1 := Lib.hid h1
      have H2 := Lib.hid h2
      clear h1 h2 h3
      go_wp2
      refine ⟨⟨k + 1, by omega, by go_num, HB5.out.trans (H2.out.below hsz5 (fun j hj => (ownBlock_lt HW5.out hj).1)), ?_⟩, by simp [intOf]; omega⟩
      rw [HT.out]
      exact H1.out
    · obtain rfl : k = n := by omega
      have htk : (T.sts d).take k = T.sts d := List.take_of_length_le (by rw [HLen.out]; exact Nat.le_refl _)
      have hown := HW.out
      rw [htk] at hown
      obtain ⟨a2, c2, rfl, hr2, _⟩ := ownsRow_rowN .u8 hown (fun x hx => by
        unfold Tb.sts at hx
        obtain ⟨c, _, rfl⟩ := List.mem_map.1 hx
        exact HRg.out _)
      have HCl := Lib.hid (clipS_any a2 k c2 wr hr2.le hr2.max)
      have HR2 := Lib.hid hr2
      clear hr2 hown htk hcr
      go_wp2_with fail
      with_reducible refine HCl.out.mono ?_
      rintro e w' ⟨rfl, rfl⟩
      go_wp2
      go_ret2
      refine ⟨a2, ?_, ?_, HB0.out.trans (HB.out.mono HB0.out.size)⟩
      · rw [HLen.out]; rfl
      · have h5 := HR2.out
        rw [HLen.out]
        exact ⟨h5.len, Nat.le_refl _, Nat.le_trans h5.le h5.max, h5.wf, h5.cells, fun e => by have := h5.isNil e; have := h5.le; omega⟩
end Go.Proofs.Ytdjmopipmeonlaa
