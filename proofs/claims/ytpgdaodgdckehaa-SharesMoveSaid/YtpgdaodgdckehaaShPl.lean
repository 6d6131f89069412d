/- The statements' own place. -/
import Derived.Test.YtpgdaodgdckehaaShTab
namespace Go.Proofs.Ytpgdaodgdckehaa
open Go.RowKit

def usB (U : List Bool) (i : Nat) : Bool := U.getD i true
theorem filter_take_in {g : List Nat} {us : Nat → Bool} {k : Nat} (hk : k < g.length) (h : us (g.getD k 0) = true) : (g.take (k + 1)).filter us = (g.take k).filter us ++ [g.getD k 0] := by
  have e : g.getD k 0 = g[k] := by simp [List.getD_eq_getElem?_getD, hk]
  rw [e] at h ⊢
  rw [List.take_succ_eq_append_getElem hk, List.filter_append, List.filter_cons_of_pos h]; rfl
theorem filter_take_out {g : List Nat} {us : Nat → Bool} {k : Nat} (hk : k < g.length) (h : us (g.getD k 0) = false) : (g.take (k + 1)).filter us = (g.take k).filter us := by
  have e : g.getD k 0 = g[k] := by simp [List.getD_eq_getElem?_getD, hk]
  rw [e] at h
  rw [List.take_succ_eq_append_getElem hk, List.filter_append, List.filter_cons_of_neg (by simp [h])]; simp
theorem iN_wf {l : List Nat} (h : ∀ x ∈ l, x ≤ 1000000) : ∀ x ∈ iN l, (Lit.int .i64 x).wf = true := by
  intro x hx
  unfold iN at hx
  obtain ⟨y, hy, rfl⟩ := List.mem_map.1 hx
  have := h y hy
  simp [Lit.wf, IntKind.min, IntKind.max, IntKind.bits, IntKind.signed]; omega
set_option maxHeartbeats 1000000 in
theorem lplace_any (a : Option Addr) (n c : Nat) (g : List Nat) (a' : Option Addr) (n' c' : Nat) (U : List Bool) (q : Nat) (w : World) (hG : Row .i64 w a n c (iN g)) (hU : BRow w a' n' c' U) (hg : ∀ x ∈ g, x < n') (hn' : n' ≤ 1000000) (hn : n ≤ 1000000) (hq : q ≤ 1000) :
    Calls Try.prog 11 #[.slice a n c, .slice a' n' c', .int .i64 (q : Int)] w fun e w' => e = .returned (.int .i64 (placeM g (usB U) q)) ∧ Below w.heap.size w w' := by
  have hl := hG.len
  rw [iN_length] at hl
  by_cases h0 : n = 0
  · subst h0
    rw [List.eq_nil_of_length_eq_zero hl, placeM_nil]
    clear hG hU hl hg
    go_enter Try.func11, Try.ntmps11
    go_wp2
    go_ret
    exact ⟨rfl, Below.refl _ _⟩
  · have hm1 : q % n < n := Nat.mod_lt _ (by omega)
    have t1 : (q : Int).tmod (n : Int) = ((q % n : Nat) : Int) := by rw [Int.tmod_eq_emod_of_nonneg (Int.natCast_nonneg _)]; rfl
    have t2 : (q : Int).tdiv (n : Int) = ((q / n : Nat) : Int) := by rw [Int.tdiv_eq_ediv_of_nonneg (Int.natCast_nonneg _)]; rfl
    have hr2 : q / n ≤ 1000 := Nat.le_trans (Nat.div_le_self _ _) hq
    obtain ⟨b, off, rfl, hc⟩ := hG.cells.resolve_left (by omega)
    have c0 := hc _ hm1
    rw [iN_getD] at c0
    have hmem := getD_memN (g := g) (i := q % n) (by omega)
    have hxl := hg _ hmem
    have hpl1 : usB U (g.getD (q % n) 0) = true → placeM g (usB U) q = (g.getD (q % n) 0 : Nat) := fun h => by
      have := placeM_home (g := g) (us := usB U) (q := q) (by omega) (by rw [hl]; exact h)
      rw [hl] at this; exact this
    have hpl3 : ¬ usB U (g.getD (q % n) 0) = true → (g.filter (usB U)).length = 0 → placeM g (usB U) q = -1 := fun h hf => placeM_none (by rw [hl]; exact h) hf
    have hpl2 : ¬ usB U (g.getD (q % n) 0) = true → (g.filter (usB U)).length ≠ 0 → placeM g (usB U) q = ((g.filter (usB U)).getD (q / n % (g.filter (usB U)).length) 0 : Nat) := fun h hf => by
      have := placeM_other (g := g) (us := usB U) (q := q) (by omega) (by rw [hl]; exact h) hf
      rw [hl] at this; exact this
    obtain ⟨b', off', rfl, hc'⟩ := hU.cells.resolve_left (by omega)
    have c1 := hc' _ hxl
    obtain ⟨x, hx⟩ : ∃ x, x = g.getD (q % n) 0 := ⟨_, rfl⟩
    rw [← hx] at c0 c1 hxl hpl1 hpl2 hpl3
    obtain ⟨u, hu⟩ : ∃ u, u = usB U x := ⟨_, rfl⟩
    have hu2 : U.getD x true = u := hu.symm
    rw [hu2] at c1
    rw [← hu] at hpl1 hpl2 hpl3
    obtain ⟨r1, hr1⟩ : ∃ r, r = q % n := ⟨_, rfl⟩
    obtain ⟨r2, hr2'⟩ : ∃ r, r = q / n := ⟨_, rfl⟩
    rw [← hr1] at t1 c0 hm1
    rw [← hr2'] at t2 hr2 hpl2
    have w1 : IntKind.i64.wrap (r2 : Int) = r2 := IntWalk.i64_in _ (by omega)
    have w2 : IntKind.i64.wrap (r1 : Int) = r1 := IntWalk.i64_in _ (by omega)
    have hn0 : ((n : Int) == 0) = false := by simp; omega
    have HG := Lib.hid hG
    have HU := Lib.hid hU
    have HGl := Lib.hid hg
    have HL := Lib.hid hl
    have HP1 := Lib.hid hpl1
    have HP2 := Lib.hid hpl2
    have HP3 := Lib.hid hpl3
    clear hG hU hg hc hc' hmem hx hu hu2 hr1 hr2' hpl1 hpl2 hpl3 hl
    cases u
    · go_enter Try.func11, Try.ntmps11
      go_wp2_with fail
      clear c0 c1
      go_loopw [8, 9] (fun v i wr => ∃ k : Nat, k ≤ n ∧ i = .int .i64 k ∧ wr.ownsRow w.heap.size 3 1 v ((g.take k).filter (usB U)).length (nums .i64 (iN ((g.take k).filter (usB U)))) ∧ Below w.heap.size w wr) (fun _ i _ => n - (intOf i).toNat)
      case atStart => exact ⟨0, Nat.zero_le _, rfl, ⟨rfl, .inl ⟨rfl, rfl⟩⟩, Below.refl _ _⟩
      case round =>
        obtain ⟨k, hk, rfl, hown, hb⟩ := hrel
        have hsz := hb.size
        by_cases hkn : k < n
        · have hkl : k < g.length := by rw [HL.out]; exact hkn
          obtain ⟨b1, o1, hab, hc⟩ := (HG.out.later hb).cells.resolve_left (by omega)
          obtain ⟨b2, o2, hab2, hc'⟩ := (HU.out.later hb).cells.resolve_left (by omega)
          cases hab
          cases hab2
          have c0 := hc k hkn
          rw [iN_getD] at c0
          have hyl := HGl.out _ (getD_memN hkl)
          have c1 := hc' _ hyl
          have hin := fun h => filter_take_in (us := usB U) hkl h
          have hout := fun h => filter_take_out (us := usB U) hkl h
          have hfl : ((g.take k).filter (usB U)).length ≤ k := Nat.le_trans (List.length_filter_le _ _) (by rw [List.length_take]; omega)
          obtain ⟨y, hy⟩ : ∃ y, y = g.getD k 0 := ⟨_, rfl⟩
          rw [← hy] at c0 c1 hyl hin hout
          have e1 : U.getD y true = usB U y := rfl
          rw [e1] at c1
          generalize usB U y = z at *
          have HI := Lib.hid hin
          have HO := Lib.hid hout
          have HW := Lib.hid hown
          have HB := Lib.hid hb
          clear hin hout hown hb hc hc' hy e1
          cases z
          · have hO := HO.out rfl
            have HO1 := Lib.hid hO
            clear hO HI HO
            go_wp2
            refine ⟨⟨k + 1, by omega, by go_num, ?_, HB.out⟩, by simp [intOf]; omega⟩
            rw [HO1.out]; exact HW.out
          · have hI := HI.out rfl
            have HI1 := Lib.hid hI
            clear hI HO HI
            go_wp2_with (at_builtin; refine wpList_append_one Try.underlying31 info64 (by decide) rfl (.tmp 38) (.tmp 43) rfl w.heap.size _ ((g.take k).filter (usB U)).length (iN ((g.take k).filter (usB U))) (y : Int) rfl (by exact HW.out) rfl (by omega) hsz ?_)
            intro v2 w2 h2 h3 _ _ _
            have hb6 := HB.out.trans (h3.below (B := w.heap.size) hsz (fun j hj => (World.ownsRow.lt HW.out j hj).1))
            have H2 := Lib.hid h2
            have HB6 := Lib.hid hb6
            clear h2 h3 hb6
            go_wp2
            have h2' : w2.ownsRow w.heap.size 3 1 v2 ((g.take (k + 1)).filter (usB U)).length (nums .i64 (iN ((g.take (k + 1)).filter (usB U)))) := by
              rw [HI1.out, iN_append, List.length_append]
              exact H2.out
            refine ⟨⟨k + 1, by omega, by go_num, h2', HB6.out⟩, by simp [intOf]; omega⟩
        · obtain rfl : k = n := by omega
          rw [List.take_of_length_le (by rw [HL.out]; exact Nat.le_refl _)] at hown
          have hfl : (g.filter (usB U)).length ≤ k := Nat.le_trans (List.length_filter_le _ _) (by rw [HL.out]; omega)
          obtain ⟨s, d, rfl, hr, _⟩ := ownsRow_rowN .i64 hown (iN_wf fun x hx => by have := HGl.out x (List.mem_filter.1 hx).1; omega)
          have HP2 := Lib.hid (HP2.out (by simp))
          have HP3 := Lib.hid (HP3.out (by simp))
          clear HP1
          generalize g.filter (usB U) = F at *
          have HB := Lib.hid hb
          by_cases hf : F.length = 0
          · have e := HP3.out hf
            rw [hf] at *
            clear hown hr hb
            go_wp2
            go_ret
            first | exact ⟨rfl, HB.out⟩ | exact ⟨ret_int e.symm, HB.out⟩
          · have e := HP2.out hf
            have hm2 : r2 % F.length < F.length := Nat.mod_lt _ (by omega)
            obtain ⟨b3, o3, rfl, hc⟩ := hr.cells.resolve_left (by omega)
            have c2 := hc _ hm2
            rw [iN_getD] at c2
            have t3 : (r2 : Int).tmod (F.length : Int) = ((r2 % F.length : Nat) : Int) := by rw [Int.tmod_eq_emod_of_nonneg (Int.natCast_nonneg _)]; rfl
            have hF0 : ¬ (F.length : Int) = 0 := by omega
            generalize F.getD (r2 % F.length) 0 = ot at *
            generalize F.length = m at *
            obtain ⟨r3, hr3⟩ : ∃ r, r = r2 % m := ⟨_, rfl⟩
            rw [← hr3] at t3 c2 hm2
            have w3 : IntKind.i64.wrap (r3 : Int) = r3 := IntWalk.i64_in _ (by omega)
            have HE := Lib.hid e
            clear hown hr hb hc hr3 e HP2 HP3 hf
            go_wp2
            go_ret
            exact ⟨ret_int HE.out.symm, HB.out⟩
    · have e := HP1.out rfl
      rw [e]
      clear e HP1 HP2 HP3
      go_enter Try.func11, Try.ntmps11
      go_wp2
      go_ret
      exact ⟨rfl, Below.refl _ _⟩
end Go.Proofs.Ytpgdaodgdckehaa
