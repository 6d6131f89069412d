/- slices.Index and slices.Contains over ints; the code's place. -/
import Derived.Test.YtpgdaodgdckehaaShCol
namespace Go.Proofs.Ytpgdaodgdckehaa
open Go.RowKit

theorem index_any (a : Option Addr) (n c : Nat) (l : List Int) (v : Int) (w : World) (h : Row .i64 w a n c l) :
    Calls Try.prog 31 #[.slice a n c, .int .i64 v] w fun e w' => (∃ r : Int, e = .returned (.int .i64 r) ∧ (0 ≤ r ↔ v ∈ l)) ∧ w = w' := by
  have hl := h.len
  have hle := h.le
  have hmx := h.max
  unfold maxLen at hmx
  have H := Lib.hid h
  clear h
  go_enter Try.func31, Try.ntmps31
  go_wp2_with fail
  go_loop [8] (fun i => ∃ k : Nat, k ≤ n ∧ i = .int .i64 k ∧ ∀ j, j < k → l.getD j 0 ≠ v) (fun i => n - (intOf i).toNat)
  case atStart => exact ⟨0, Nat.zero_le _, rfl, fun j hj => absurd hj (Nat.not_lt_zero _)⟩
  case round =>
    obtain ⟨k, hk, rfl, hno⟩ := hrel
    have HN := Lib.hid hno
    clear hno
    by_cases hkn : k < n
    · obtain ⟨b, off, rfl, hc⟩ := H.out.cells.resolve_left (by omega)
      have c0 := hc k hkn
      obtain ⟨x, hx⟩ : ∃ x, x = l.getD k 0 := ⟨_, rfl⟩
      rw [← hx] at c0
      have HX := Lib.hid hx
      clear hc hx
      by_cases he : v = x
      · subst he
        go_wp2
        go_ret
        refine ⟨⟨_, rfl, ?_⟩, rfl⟩
        constructor
        · intro _
          rw [HX.out, List.getD_eq_getElem?_getD, List.getElem?_eq_getElem (by omega)]
          exact List.getElem_mem _
        · intro _; omega
      · have hef : (v == x) = false := by simpa using he
        go_wp2
        refine ⟨⟨k + 1, by omega, by go_num, fun j hj => ?_⟩, by simp [intOf]; omega⟩
        by_cases hjk : j = k
        · rw [hjk, ← HX.out]; exact fun h => he h.symm
        · exact HN.out j (by omega)
    · obtain rfl : k = n := by omega
      go_wp2
      go_ret
      refine ⟨⟨_, rfl, ?_⟩, rfl⟩
      constructor
      · intro h; omega
      · intro h
        obtain ⟨j, hj, rfl⟩ := List.getElem_of_mem h
        exact absurd (by simp [List.getD_eq_getElem?_getD, hj]) (HN.out j (by omega))
theorem contains_any (a : Option Addr) (n c : Nat) (l : List Int) (v : Int) (w : World) (h : Row .i64 w a n c l) :
    Calls Try.prog 30 #[.slice a n c, .int .i64 v] w fun e w' => e = .returned (.bool (decide (v ∈ l))) ∧ w = w' := by
  have hcon := index_any a n c l v w h
  have HC := Lib.hid hcon
  clear hcon h
  go_enter Try.func30, Try.ntmps30
  go_wp2_with fail
  with_reducible refine HC.out.mono ?_
  rintro e w' ⟨⟨r, rfl, hr⟩, rfl⟩
  have HR := Lib.hid hr
  clear hr
  go_wp2
  all_goals (go_ret; exact ⟨ret_bool (by have := HR.out; simp [← this]; try omega), rfl⟩)
theorem placeM_empty {g : List Nat} {us : Nat → Bool} {q : Nat} (hf : (g.filter us).length = 0) : placeM g us q = -1 := by
  by_cases h0 : g.length = 0
  · rw [List.eq_nil_of_length_eq_zero h0]; exact placeM_nil us q
  · have hm : q % g.length < g.length := Nat.mod_lt _ (by omega)
    refine placeM_none (fun hu => ?_) hf
    have h1 : g.getD (q % g.length) 0 ∈ g.filter us := List.mem_filter.2 ⟨getD_memN hm, hu⟩
    rw [List.eq_nil_of_length_eq_zero hf] at h1
    cases h1
theorem mem_iN {x : Nat} {l : List Nat} : (x : Int) ∈ iN l ↔ x ∈ l := by
  unfold iN
  rw [List.mem_map]
  constructor
  · rintro ⟨y, hy, he⟩
    obtain rfl : y = x := by omega
    exact hy
  · exact fun h => ⟨x, h, rfl⟩
/-- A place as Go hands it back. -/
def PlOut (v : Int) : Ending := .returned (.tuple #[.int .i64 (max v 0), .bool (decide (0 ≤ v))])
theorem plOut_no : PlOut (-1) = .returned (.tuple #[.int .i64 0, .bool false]) := rfl
theorem plOut_nat (x : Nat) : PlOut x = .returned (.tuple #[.int .i64 x, .bool true]) := by
  unfold PlOut
  rw [show max (x : Int) 0 = x by omega, decide_eq_true (by omega)]
set_option maxHeartbeats 1000000 in
theorem place_any (a : Option Addr) (n c : Nat) (g : List Nat) (a' : Option Addr) (n' c' : Nat) (us : Nat → Bool) (q : Nat) (w : World) (hG : Row .i64 w a n c (iN g)) (hU : Row .i64 w a' n' c' (iN (g.filter us))) (hq : q ≤ 1000) :
    Calls Try.prog 21 #[.slice a n c, .slice a' n' c', .int .i64 (q : Int)] w fun e w' => e = PlOut (placeM g us q) ∧ w = w' := by
  have hl := hG.len
  have hl' := hU.len
  rw [iN_length] at hl hl'
  have hle := hG.le
  have hmx := hG.max
  have hle' := hU.le
  have hmx' := hU.max
  unfold maxLen at hmx hmx'
  by_cases h0 : n' = 0
  · subst h0
    rw [placeM_empty (by omega), plOut_no]
    clear hG hU hl hl'
    go_enter Try.func21, Try.ntmps21
    go_wp2
    go_ret2
    exact ⟨rfl, rfl⟩
  · have h0i : ((n' : Int) == 0) = false := by simp; omega
    have hfl := List.length_filter_le us g
    have hn : 0 < n := by omega
    have hm1 : q % n < n := Nat.mod_lt _ hn
    have hm2 : q / n % n' < n' := Nat.mod_lt _ (by omega)
    have t1 : (q : Int).tmod (n : Int) = ((q % n : Nat) : Int) := by rw [Int.tmod_eq_emod_of_nonneg (Int.natCast_nonneg _)]; rfl
    have t2 : (q : Int).tdiv (n : Int) = ((q / n : Nat) : Int) := by rw [Int.tdiv_eq_ediv_of_nonneg (Int.natCast_nonneg _)]; rfl
    have t3 : ((q / n : Nat) : Int).tmod (n' : Int) = ((q / n % n' : Nat) : Int) := by rw [Int.tmod_eq_emod_of_nonneg (Int.natCast_nonneg _)]; rfl
    obtain ⟨b, off, rfl, hc⟩ := hG.cells.resolve_left (by omega)
    obtain ⟨b', off', rfl, hc'⟩ := hU.cells.resolve_left (by omega)
    have c0 := hc _ hm1
    have c1 := hc' _ hm2
    rw [iN_getD] at c0 c1
    have hmem := getD_memN (g := g) (i := q % n) (by omega)
    have hpl1 : us (g.getD (q % n) 0) = true → placeM g us q = (g.getD (q % n) 0 : Nat) := fun h => by
      have := placeM_home (g := g) (us := us) (q := q) (by omega) (by rw [hl]; exact h)
      rw [hl] at this; exact this
    have hpl2 : ¬ us (g.getD (q % n) 0) = true → placeM g us q = ((g.filter us).getD (q / n % n') 0 : Nat) := fun h => by
      have := placeM_other (g := g) (us := us) (q := q) (by omega) (by rw [hl]; exact h) (by omega)
      rw [hl, hl'] at this; exact this
    have hmi : ((g.getD (q % n) 0 : Nat) : Int) ∈ iN (g.filter us) ↔ us (g.getD (q % n) 0) = true := by
      rw [mem_iN, List.mem_filter]
      exact ⟨fun h => h.2, fun h => ⟨hmem, h⟩⟩
    generalize g.getD (q % n) 0 = hm at *
    generalize (g.filter us).getD (q / n % n') 0 = ot at *
    have hcon := contains_any (some ⟨b', off', none⟩) n' c' (iN (g.filter us)) (hm : Int) w hU
    obtain ⟨r1, hr1⟩ : ∃ r, r = q % n := ⟨_, rfl⟩
    obtain ⟨r2, hr2⟩ : ∃ r, r = q / n := ⟨_, rfl⟩
    rw [← hr1] at t1 c0 hm1
    rw [← hr2] at t2 t3 c1 hm2
    obtain ⟨r3, hr3⟩ : ∃ r, r = r2 % n' := ⟨_, rfl⟩
    rw [← hr3] at t3 c1 hm2
    have hr2q : r2 ≤ 1000 := by rw [hr2]; exact Nat.le_trans (Nat.div_le_self _ _) hq
    have w1 : IntKind.i64.wrap (r2 : Int) = r2 := IntWalk.i64_in _ (by omega)
    have w2 : IntKind.i64.wrap (r1 : Int) = r1 := IntWalk.i64_in _ (by omega)
    have w3 : IntKind.i64.wrap (r3 : Int) = r3 := IntWalk.i64_in _ (by omega)
    have hn0 : ¬ (n : Int) = 0 := by omega
    have hn0' : ¬ (n' : Int) = 0 := by omega
    by_cases hus : us hm = true
    · rw [hpl1 hus, plOut_nat]
      rw [decide_eq_true (hmi.2 hus)] at hcon
      have HC := Lib.hid hcon
      clear hcon hG hU hc hc' hpl1 hpl2 hmi hr1 hr2 hr3 hmem hl hl' hfl hus
      go_enter Try.func21, Try.ntmps21
      go_wp2_with fail
      with_reducible refine HC.out.mono ?_
      rintro e w' ⟨rfl, rfl⟩
      go_wp2
      go_ret2
      exact ⟨rfl, rfl⟩
    · rw [hpl2 hus, plOut_nat]
      rw [decide_eq_false (fun h => hus (hmi.1 h))] at hcon
      have HC := Lib.hid hcon
      clear hcon hG hU hc hc' hpl1 hpl2 hmi hr1 hr2 hr3 hmem hl hl' hfl hus
      go_enter Try.func21, Try.ntmps21
      go_wp2_with fail
      with_reducible refine HC.out.mono ?_
      rintro e w' ⟨rfl, rfl⟩
      go_wp2
      go_ret2
      exact ⟨rfl, rfl⟩
end Go.Proofs.Ytpgdaodgdckehaa
