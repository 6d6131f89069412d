/- The statements' plans: what N.Of returns, as plain data, is valid. -/
import Derived.Test.YtppbcehcaeeocaaPlWay
namespace Go.Proofs.Ytppbcehcaeeocaa

/-- The statements' data of a plan. -/
structure Nn where
  many : Nat
  codes : List Nat
  ends : Nat
  tree : List Nat
  extra : List (Nat × Nat × Nat)
  rate : Nat
  room : Nat
  k0 : Nat
  k1 : Nat
def Nn.n (x : Nn) : Nat := 2 + x.many % 5
def placeN (x : Nn) (i : Nat) : Int × Bool := (10 * (i : Int) + ((x.codes.getD i 0 % 10 : Nat) : Int), decide (x.ends / 2 ^ i % 2 = 0))
def placesN (x : Nn) (k : Nat) : List (Int × Bool) := (List.range k).map (placeN x)
theorem placesN_succ (x : Nn) (k : Nat) : placesN x (k + 1) = placesN x k ++ [placeN x k] := by simp [placesN, List.range_succ]
theorem placesN_length (x : Nn) (k : Nat) : (placesN x k).length = k := by simp [placesN]
theorem placesN_pc (x : Nn) {k i : Nat} (h : i < k) : pc (placesN x k) i = 10 * (i : Int) + ((x.codes.getD i 0 % 10 : Nat) : Int) := by
  simp [pc, placesN, placeN, List.getD_eq_getElem?_getD, h]
theorem placesN_pt (x : Nn) {k i : Nat} (h : i < k) : pt (placesN x k) i = decide (x.ends / 2 ^ i % 2 = 0) := by
  simp [pt, placesN, placeN, List.getD_eq_getElem?_getD, h]
theorem placesN_lt (x : Nn) {k i j : Nat} (h : i < j) (hj : j < k) : pc (placesN x k) i < pc (placesN x k) j := by
  rw [placesN_pc x (by omega), placesN_pc x hj]; omega
theorem placesN_range (x : Nn) {k i : Nat} (h : i < k) (hk : k ≤ 6) : 0 ≤ pc (placesN x k) i ∧ pc (placesN x k) i ≤ 59 := by
  rw [placesN_pc x h]; omega
/-- A line between the places a and b is put in order. -/
def putN (P : List (Int × Bool)) (L : List Ln) (a b d : Nat) : List Ln := addL L (pc P (min a b)) (pc P (max a b)) (1 + ((d % 3 : Nat) : Int))
/-- The lines after the places before k. -/
def treeN (x : Nn) : Nat → List Ln
  | 0 => []
  | k + 1 => if k = 0 then [] else putN (placesN x x.n) (treeN x k) k (x.tree.getD k 0 % k) (x.tree.getD k 0 / 16)
/-- And after j further ones. -/
def extraN (x : Nn) : Nat → List Ln
  | 0 => treeN x x.n
  | j + 1 =>
    if (x.extra.getD j (0, 0, 0)).1 % x.n = (x.extra.getD j (0, 0, 0)).2.1 % x.n then extraN x j
    else putN (placesN x x.n) (extraN x j) ((x.extra.getD j (0, 0, 0)).1 % x.n) ((x.extra.getD j (0, 0, 0)).2.1 % x.n) (x.extra.getD j (0, 0, 0)).2.2
def linesN (x : Nn) : List Ln := extraN x (min x.extra.length 6)
def Nn.rm (x : Nn) : Nat := 3 + x.room % 6
def Nn.mk0 (x : Nn) : Nat := 1 + x.k0 % (x.rm - 2)
def Nn.mk1 (x : Nn) : Nat := x.mk0 + 1 + x.k1 % (x.rm - 1 - x.mk0)
def planN (x : Nn) : Pn := ⟨placesN x x.n, linesN x, 1 + ((x.rate % 3 : Nat) : Int), x.rm, x.mk0, x.mk1, x.rm⟩
/-- What holds of the lines of such a plan. -/
structure LnsOk (P : List (Int × Bool)) (L : List Ln) : Prop where
  fine : Fine L
  ends : ∀ l ∈ L, ∃ a b, a < b ∧ b < P.length ∧ l.A = pc P a ∧ l.B = pc P b
  delay : ∀ l ∈ L, 1 ≤ l.D ∧ l.D ≤ 3
  code : ∀ l ∈ L, 0 ≤ l.C
theorem LnsOk.nil (P : List (Int × Bool)) : LnsOk P [] := ⟨Fine.nil, by simp, by simp, by simp⟩
theorem LnsOk.put {P : List (Int × Bool)} {L : List Ln} (h : LnsOk P L) {a b : Nat} (d : Nat) (ha : a < P.length) (hb : b < P.length) (hne : a ≠ b) : LnsOk P (putN P L a b d) := by
  refine ⟨h.fine.add _ _ _, fun l hl => ?_, fun l hl => ?_, fun l hl => ?_⟩ <;> rcases mem_addL hl with hl | rfl
  · exact h.ends l hl
  · exact ⟨min a b, max a b, by omega, by omega, rfl, rfl⟩
  · exact h.delay l hl
  · constructor <;> simp only <;> omega
  · exact h.code l hl
  · simp only; omega
theorem putN_length (P : List (Int × Bool)) (L : List Ln) (a b d : Nat) : (putN P L a b d).length = L.length + 1 := addL_length _ _ _ _
theorem Nn.n_range (x : Nn) : 2 ≤ x.n ∧ x.n ≤ 6 := by unfold Nn.n; omega
theorem treeN_ok (x : Nn) : ∀ k, k ≤ x.n → LnsOk (placesN x x.n) (treeN x k) ∧ (treeN x k).length = k - 1
  | 0, _ => ⟨LnsOk.nil _, rfl⟩
  | k + 1, hk => by
    unfold treeN
    split
    · rename_i h; subst h; exact ⟨LnsOk.nil _, rfl⟩
    · rename_i h
      obtain ⟨h1, h2⟩ := treeN_ok x k (by omega)
      have hm : x.tree.getD k 0 % k < k := Nat.mod_lt _ (by omega)
      exact ⟨h1.put _ (by rw [placesN_length]; omega) (by rw [placesN_length]; omega) (by omega), by rw [putN_length, h2]; omega⟩
theorem extraN_ok (x : Nn) : ∀ j, LnsOk (placesN x x.n) (extraN x j) ∧ (extraN x j).length ≤ 5 + j
  | 0 => by
    obtain ⟨h1, h2⟩ := treeN_ok x x.n (Nat.le_refl _)
    have := x.n_range
    exact ⟨h1, by show (treeN x x.n).length ≤ _; omega⟩
  | j + 1 => by
    obtain ⟨h1, h2⟩ := extraN_ok x j
    unfold extraN
    split
    · exact ⟨h1, by omega⟩
    · rename_i h
      have hn := x.n_range
      have m1 : (x.extra.getD j (0, 0, 0)).1 % x.n < x.n := Nat.mod_lt _ (by omega)
      have m2 : (x.extra.getD j (0, 0, 0)).2.1 % x.n < x.n := Nat.mod_lt _ (by omega)
      exact ⟨h1.put _ (by rw [placesN_length]; exact m1) (by rw [placesN_length]; exact m2) h, by rw [putN_length]; omega⟩
theorem linesN_ok (x : Nn) : LnsOk (placesN x x.n) (linesN x) ∧ (linesN x).length ≤ 11 := by
  obtain ⟨h1, h2⟩ := extraN_ok x (min x.extra.length 6)
  exact ⟨h1, by unfold linesN; omega⟩
theorem Nn.marks (x : Nn) : 1 ≤ x.mk0 ∧ x.mk0 < x.mk1 ∧ x.mk1 < x.rm ∧ 3 ≤ x.rm ∧ x.rm ≤ 8 := by
  have h0 : 3 ≤ x.rm ∧ x.rm ≤ 8 := by unfold Nn.rm; omega
  have h1 : x.k0 % (x.rm - 2) < x.rm - 2 := Nat.mod_lt _ (by omega)
  have h2 : x.mk0 = 1 + x.k0 % (x.rm - 2) := rfl
  have h3 : x.k1 % (x.rm - 1 - x.mk0) < x.rm - 1 - x.mk0 := Nat.mod_lt _ (by omega)
  have h4 : x.mk1 = x.mk0 + 1 + x.k1 % (x.rm - 1 - x.mk0) := rfl
  omega
theorem planN_asc (x : Nn) : Asc (planN x).P := fun i j hij hj => placesN_lt x hij (by simpa [planN, placesN_length] using hj)
theorem planN_valid (x : Nn) : ValidPl (planN x) := by
  have hn := x.n_range
  have hlen : (planN x).P.length = x.n := placesN_length x x.n
  obtain ⟨hl, hll⟩ := linesN_ok x
  have hL : (planN x).L = linesN x := rfl
  have hP : (planN x).P = placesN x x.n := rfl
  refine ⟨by omega, by rw [hL]; omega, by omega, fun i hi => ?_, fun i hi => ?_, fun i hi => ?_, ?_⟩
  · rw [hlen] at hi
    simp only [okPl, Bool.and_eq_true, Bool.or_eq_true, decide_eq_true_eq]
    refine ⟨by have := placesN_range x hi hn.2; rw [hP]; omega, ?_⟩
    by_cases e : i = 0
    · exact .inl e
    · exact .inr (by rw [hP]; exact placesN_lt x (by omega) hi)
  · rw [hL] at hi
    have hm : lnAt (linesN x) i ∈ linesN x := by
      have : lnAt (linesN x) i = (linesN x)[i] := by simp [lnAt, List.getD_eq_getElem?_getD, hi]
      rw [this]; exact List.getElem_mem hi
    obtain ⟨a, b, hab, hb, eA, eB⟩ := hl.ends _ hm
    have hd := hl.delay _ hm
    have hc : (lnAt (linesN x) i).C ≤ 11 := by
      have h1 := hl.fine.code hm (A := (lnAt (linesN x) i).A) (B := (lnAt (linesN x) i).B) (by simp [pairB])
      have h2 := List.countP_le_length (p := pairB (lnAt (linesN x) i).A (lnAt (linesN x) i).B) (l := linesN x)
      omega
    simp only [okLn, Bool.and_eq_true, Bool.or_eq_true, decide_eq_true_eq, hL]
    refine ⟨⟨⟨⟨?_, by omega⟩, by omega⟩, by omega⟩, ?_⟩
    · rw [eA, eB]; exact placesN_lt x hab (by rwa [placesN_length] at hb)
    · by_cases e : i = 0
      · exact .inl e
      · exact .inr (lt3B_iff.2 (hl.fine.ord.at (by omega) hi))
  · rw [hL] at hi
    have hm : lnAt (linesN x) i ∈ linesN x := by
      have : lnAt (linesN x) i = (linesN x)[i] := by simp [lnAt, List.getD_eq_getElem?_getD, hi]
      rw [this]; exact List.getElem_mem hi
    obtain ⟨a, b, hab, hb, eA, eB⟩ := hl.ends _ hm
    have hasc : Asc (placesN x x.n) := planN_asc x
    simp only [okEnd, hL, hP, eA, eB, Bool.and_eq_true]
    exact ⟨by rw [hasc.fnd (k := a) (by omega)]; rfl, by rw [hasc.fnd (k := b) hb]; rfl⟩
  · have hm := x.marks
    have d1 : decide ((1 : Int) ≤ 1 + ((x.rate % 3 : Nat) : Int)) = true := decide_eq_true (by omega)
    have d2 : decide (1 + ((x.rate % 3 : Nat) : Int) ≤ 16) = true := decide_eq_true (by omega)
    have d3 : decide ((1 : Int) ≤ x.rm) = true := decide_eq_true (by omega)
    have d4 : decide ((x.rm : Int) ≤ 64) = true := decide_eq_true (by omega)
    have d5 : decide ((1 : Int) ≤ x.mk0) = true := decide_eq_true (by omega)
    have d6 : decide ((x.mk0 : Int) < x.mk1) = true := decide_eq_true (by omega)
    have d7 : decide ((x.mk1 : Int) < x.rm) = true := decide_eq_true (by omega)
    have d8 : decide ((x.rm : Int) ≤ x.rm) = true := decide_eq_true (by omega)
    unfold okNum
    rw [Bool.and_eq_true, Bool.and_eq_true, Bool.and_eq_true, Bool.and_eq_true, Bool.and_eq_true, Bool.and_eq_true, Bool.and_eq_true]
    exact ⟨⟨⟨⟨⟨⟨⟨d1, d2⟩, d3⟩, d4⟩, d5⟩, d6⟩, d7⟩, d8⟩
theorem planN_chk (x : Nn) : chkPl (planN x) = 0 := chkPl_zero.2 (planN_valid x)
end Go.Proofs.Ytppbcehcaeeocaa
