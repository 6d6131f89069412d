import Derived.Test.YthlckipcgogogaaGreatDoorPlRx
/- Neighbors of a place and the search for distances: mathematics. -/
namespace Go.Proofs.YthlckipcgogogaaGreatDoor
set_option linter.unusedVariables false

theorem sorted_ext {α : Type} {r : α → α → Prop} (ha : ∀ x y, r x y → ¬ r y x) : ∀ {l1 l2 : List α}, l1.Pairwise r → l2.Pairwise r → (∀ x, x ∈ l1 ↔ x ∈ l2) → l1 = l2
  | [], [], _, _, _ => rfl
  | [], y :: _, _, _, h => by have := (h y).2 List.mem_cons_self; cases this
  | x :: _, [], _, _, h => by have := (h x).1 List.mem_cons_self; cases this
  | x :: l1, y :: l2, h1, h2, h => by
    have g1 := List.pairwise_cons.1 h1
    have g2 := List.pairwise_cons.1 h2
    have hx := (h x).1 List.mem_cons_self
    have hy := (h y).2 List.mem_cons_self
    have e : x = y := by
      rcases List.mem_cons.1 hx with e | hx'
      · exact e
      · rcases List.mem_cons.1 hy with e | hy'
        · exact e.symm
        · exact absurd (g2.1 x hx') (ha _ _ (g1.1 y hy'))
    subst e
    congr 1
    refine sorted_ext ha g1.2 g2.2 fun z => ⟨fun hz => ?_, fun hz => ?_⟩
    · rcases List.mem_cons.1 ((h z).1 (List.mem_cons_of_mem _ hz)) with e | h'
      · subst e; exact absurd (g1.1 z hz) (ha _ _ (g1.1 z hz))
      · exact h'
    · rcases List.mem_cons.1 ((h z).2 (List.mem_cons_of_mem _ hz)) with e | h'
      · subst e; exact absurd (g2.1 z hz) (ha _ _ (g2.1 z hz))
      · exact h'
/-- The other end of a line at c. -/
def othO (l : Ln) (c : Int) : Option Int := if l.A = c then some l.B else if l.B = c then some l.A else none
/-- The other ends of the lines at c, in order. -/
def othersL (L : List Ln) (c : Int) : List Int := L.filterMap fun l => othO l c
theorem othersL_take (L : List Ln) (c : Int) (k : Nat) (hk : k < L.length) : othersL (L.take (k + 1)) c = othersL (L.take k) c ++ (othO (lnAt L k) c).toList := by
  unfold othersL lnAt
  rw [List.take_succ_eq_append_getElem hk, List.filterMap_append]
  simp only [List.getD_eq_getElem?_getD, List.getElem?_eq_getElem hk, Option.getD_some, List.filterMap_cons, List.filterMap_nil]
  cases othO L[k] c <;> rfl
theorem othersL_le (L : List Ln) (c : Int) : (othersL L c).length ≤ L.length := by unfold othersL; exact List.length_filterMap_le ..
theorem mem_othersL {L : List Ln} {c x : Int} (hL : ∀ l ∈ L, l.A < l.B) : x ∈ othersL L c ↔ 0 < nearN L c x := by
  unfold othersL nearN
  rw [List.mem_filterMap, List.countP_pos_iff]
  constructor
  · rintro ⟨l, hl, h⟩
    refine ⟨l, hl, ?_⟩
    unfold othO at h
    unfold joins
    split at h
    · simp only [Option.some.injEq] at h; simp only [Bool.or_eq_true, Bool.and_eq_true, decide_eq_true_eq]; omega
    · split at h
      · simp only [Option.some.injEq] at h; simp only [Bool.or_eq_true, Bool.and_eq_true, decide_eq_true_eq]; omega
      · cases h
  · rintro ⟨l, hl, h⟩
    refine ⟨l, hl, ?_⟩
    have := hL l hl
    unfold joins at h
    simp only [Bool.or_eq_true, Bool.and_eq_true, decide_eq_true_eq] at h
    unfold othO
    split
    · simp only [Option.some.injEq]; omega
    · split
      · simp only [Option.some.injEq]; omega
      · omega
theorem lt3_trans {x y z : Ln} (h1 : lt3 x y) (h2 : lt3 y z) : lt3 x z := by unfold lt3 at *; omega
theorem ord_of_valid {p : Pn} (h : ValidPl p) : Ord p.L := by
  unfold Ord
  rw [List.pairwise_iff_getElem]
  intro i j hi hj hij
  obtain ⟨d, rfl⟩ : ∃ d, j = i + 1 + d := ⟨j - (i + 1), by omega⟩
  have st : ∀ m, (hm : m + 1 < p.L.length) → lt3 p.L[m] p.L[m + 1] := fun m hm => by
    have := h.ln (m + 1) hm
    simp only [okLn, Bool.and_eq_true, Bool.or_eq_true, decide_eq_true_eq] at this
    rcases this.2 with h1 | h1
    · omega
    · have := lt3B_iff.1 h1
      simpa [lnAt, List.getD_eq_getElem?_getD, hm, show m < p.L.length by omega] using this
  induction d with
  | zero => exact st i hj
  | succ d ih =>
    have h1 := ih (by omega) (by omega) st
    have h2 : lt3 p.L[i + 1 + d] p.L[i + 1 + (d + 1)] := st (i + 1 + d) hj
    exact lt3_trans h1 h2
theorem line_of_valid {p : Pn} (h : ValidPl p) {l : Ln} (hl : l ∈ p.L) : l.A < l.B ∧ (fnd p.P l.A).isSome = true ∧ (fnd p.P l.B).isSome = true ∧ 1 ≤ l.D ∧ l.D ≤ 64 ∧ l.C ≤ 15 := by
  obtain ⟨i, hi, rfl⟩ := lnAt_mem hl
  have h1 := h.ln i hi
  have h2 := h.en i hi
  simp only [okLn, okEnd, Bool.and_eq_true, Bool.or_eq_true, decide_eq_true_eq] at h1 h2
  exact ⟨h1.1.1.1.1, h2.1, h2.2, h1.1.1.2, h1.1.2, h1.1.1.1.2⟩
/-- The other ends ascend (an end may occur several times). -/
theorem othersL_asc {L : List Ln} (h : Ord L) (hL : ∀ l ∈ L, l.A < l.B) (c : Int) : (othersL L c).Pairwise (· ≤ ·) := by
  unfold othersL Ord at *
  induction L with
  | nil => exact List.Pairwise.nil
  | cons l L ih =>
    obtain ⟨h1, h2⟩ := List.pairwise_cons.1 h
    have ih' := ih h2 fun m hm => hL m (List.mem_cons_of_mem _ hm)
    have hl := hL l List.mem_cons_self
    rw [List.filterMap_cons]
    cases e : othO l c with
    | none => exact ih'
    | some x =>
      refine List.pairwise_cons.2 ⟨fun y hy => ?_, ih'⟩
      obtain ⟨m, hm, hy⟩ := List.mem_filterMap.1 hy
      have := h1 m hm
      have hm' := hL m (List.mem_cons_of_mem _ hm)
      unfold lt3 at this
      have e1 : (l.A = c ∧ l.B = x) ∨ (l.A ≠ c ∧ l.B = c ∧ l.A = x) := by
        unfold othO at e
        by_cases q : l.A = c
        · rw [if_pos q] at e; exact .inl ⟨q, Option.some.inj e⟩
        · rw [if_neg q] at e
          by_cases q2 : l.B = c
          · rw [if_pos q2] at e; exact .inr ⟨q, q2, Option.some.inj e⟩
          · rw [if_neg q2] at e; cases e
      have e2 : (m.A = c ∧ m.B = y) ∨ (m.A ≠ c ∧ m.B = c ∧ m.A = y) := by
        unfold othO at hy
        by_cases q : m.A = c
        · rw [if_pos q] at hy; exact .inl ⟨q, Option.some.inj hy⟩
        · rw [if_neg q] at hy
          by_cases q2 : m.B = c
          · rw [if_pos q2] at hy; exact .inr ⟨q, q2, Option.some.inj hy⟩
          · rw [if_neg q2] at hy; cases hy
      omega
/-- Without repetitions. -/
def dedup : List Int → List Int
  | [] => []
  | [x] => [x]
  | x :: y :: l => if x = y then dedup (y :: l) else x :: dedup (y :: l)
theorem mem_dedup : ∀ {l : List Int} {x : Int}, x ∈ dedup l ↔ x ∈ l
  | [], _ => Iff.rfl
  | [_], _ => Iff.rfl
  | y :: z :: l, x => by
    unfold dedup
    split
    · rename_i e
      subst e
      rw [mem_dedup]; simp
    · rw [List.mem_cons, mem_dedup]; simp
theorem dedup_asc : ∀ {l : List Int}, l.Pairwise (· ≤ ·) → (dedup l).Pairwise (· < ·)
  | [], _ => List.Pairwise.nil
  | [_], _ => by simp [dedup]
  | y :: z :: l, h => by
    obtain ⟨h1, h2⟩ := List.pairwise_cons.1 h
    unfold dedup
    split
    · exact dedup_asc h2
    · rename_i e
      refine List.pairwise_cons.2 ⟨fun x hx => ?_, dedup_asc h2⟩
      have hx' := mem_dedup.1 hx
      have := h1 z List.mem_cons_self
      rcases List.mem_cons.1 hx' with rfl | hx'
      · omega
      · have := (List.pairwise_cons.1 h2).1 x hx'; omega
theorem dedup_le : ∀ l : List Int, (dedup l).length ≤ l.length
  | [] => Nat.le_refl _
  | [_] => Nat.le_refl _
  | y :: z :: l => by
    have := dedup_le (z :: l)
    unfold dedup
    split
    · simp at *; omega
    · simp at *; omega
/-- The neighbors of the place with code c. -/
def nbrs (p : Pn) (c : Int) : List Int := dedup (othersL p.L c)
theorem nbrs_asc {p : Pn} (h : ValidPl p) (c : Int) : (nbrs p c).Pairwise (· < ·) := dedup_asc (othersL_asc (ord_of_valid h) (fun _ hl => (line_of_valid h hl).1) c)
theorem mem_nbrs {p : Pn} (h : ValidPl p) {c x : Int} : x ∈ nbrs p c ↔ 0 < nearN p.L c x := by
  unfold nbrs
  rw [mem_dedup]
  exact mem_othersL fun _ hl => (line_of_valid h hl).1
theorem nbrs_place {p : Pn} (h : ValidPl p) {c x : Int} (hx : x ∈ nbrs p c) : ∃ i, i < p.P.length ∧ pc p.P i = x ∧ fnd p.P x = some i := by
  rw [mem_nbrs h] at hx
  unfold nearN at hx
  obtain ⟨l, hl, hj⟩ := List.countP_pos_iff.1 hx
  obtain ⟨_, h1, h2, _⟩ := line_of_valid h hl
  unfold joins at hj
  simp only [Bool.or_eq_true, Bool.and_eq_true, decide_eq_true_eq] at hj
  have hs : (fnd p.P x).isSome = true := by
    rcases hj with ⟨_, e⟩ | ⟨e, _⟩
    · rw [← e]; exact h2
    · rw [← e]; exact h1
  obtain ⟨i, hi⟩ := Option.isSome_iff_exists.1 hs
  obtain ⟨a, b, _⟩ := fnd_some_iff.1 hi
  exact ⟨i, a, b, hi⟩
/-- The neighbors are the places to which there is a line, in order. -/
theorem nbrs_filter {p : Pn} (h : ValidPl p) (hA : Asc p.P) (c : Int) : nbrs p c = (p.P.map (·.1)).filter (fun x => decide (0 < nearN p.L c x)) := by
  refine sorted_ext (r := (· < ·)) (fun x y h1 h2 => by omega) (nbrs_asc h c) (List.Pairwise.filter _ ?_) fun x => ?_
  · rw [List.pairwise_map, List.pairwise_iff_getElem]
    intro i j hi hj hij
    have := hA i j hij hj
    simpa [pc, List.getD_eq_getElem?_getD, hi, hj] using this
  · rw [List.mem_filter, mem_nbrs h, decide_eq_true_eq]
    refine ⟨fun hx => ⟨?_, hx⟩, fun hx => hx.2⟩
    obtain ⟨i, hi, e, _⟩ := nbrs_place h ((mem_nbrs h).2 hx)
    refine List.mem_map.2 ⟨p.P[i], List.getElem_mem hi, ?_⟩
    rw [← e]; simp [pc, List.getD_eq_getElem?_getD, hi]
theorem nbrs_none (p : Pn) (c : Int) : (nbrs p c).length ≤ p.L.length := Nat.le_trans (dedup_le _) (othersL_le _ _)

/-- The search: F the places found, l the distances so far (-1: none), K the one whose neighbors are visited, done: those that have been. -/
structure Bfs (P : List (Int × Bool)) (L : List Ln) (t : Int) (s : Nat) (F : List Nat) (l : List Int) (K : Nat) (done : List Int) : Prop where
  len : l.length = P.length
  st : s < P.length ∧ pc P s = t
  ne : 0 < F.length
  mem : ∀ i, i ∈ F ↔ i < P.length ∧ l.getD i 0 ≠ -1
  nodup : F.Nodup
  lo : ∀ i, i < P.length → -1 ≤ l.getD i 0
  zero : l.getD s 0 = 0
  pos : ∀ i, i < P.length → i ≠ s → l.getD i 0 ≠ 0
  mono : ∀ a b, a ≤ b → b < F.length → l.getD (F.getD a 0) 0 ≤ l.getD (F.getD b 0) 0
  near : ∀ b, b < F.length → K < F.length → l.getD (F.getD b 0) 0 ≤ l.getD (F.getD K 0) 0 + 1
  le : ∀ a, a < F.length → l.getD (F.getD a 0) 0 ≤ (a : Int)
  att : ∀ i, i ∈ F → i ≠ s → ∃ k, k ∈ F ∧ stepB P L t i k = true ∧ l.getD i 0 = l.getD k 0 + 1
  low : ∀ a, a < K → a < F.length → ∀ i, i < P.length → stepB P L t i (F.getD a 0) = true → i ∈ F ∧ l.getD i 0 ≤ l.getD (F.getD a 0) 0 + 1
  cur : ∀ i, i < P.length → pc P i ∈ done → i ∈ F
theorem Bfs.lt {P : List (Int × Bool)} {L : List Ln} {t : Int} {s : Nat} {F : List Nat} {l : List Int} {K : Nat} {done : List Int} (h : Bfs P L t s F l K done) {a : Nat} (ha : a < F.length) : F.getD a 0 ∈ F ∧ F.getD a 0 < P.length := by
  have h1 : F.getD a 0 ∈ F := by
    rw [List.getD_eq_getElem?_getD, List.getElem?_eq_getElem ha]; exact List.getElem_mem ha
  exact ⟨h1, ((h.mem _).1 h1).1⟩
theorem nodup_le {n : Nat} : ∀ {F : List Nat}, F.Nodup → (∀ i ∈ F, i < n) → F.length ≤ n := by
  induction n with
  | zero =>
    intro F _ h
    cases F with
    | nil => exact Nat.le_refl _
    | cons x F => have := h x List.mem_cons_self; omega
  | succ n ih =>
    intro F hn h
    by_cases hm : n ∈ F
    · have h1 : (F.erase n).Nodup := hn.erase n
      have h2 := ih h1 fun i hi => by
        have h3 := h i (List.mem_of_mem_erase hi)
        have h4 : i ≠ n := fun e => by subst e; exact (List.Nodup.not_mem_erase hn) hi
        omega
      rw [List.length_erase_of_mem hm] at h2
      omega
    · have := ih hn fun i hi => by
        have h3 := h i hi
        have h4 : i ≠ n := fun e => by subst e; exact hm hi
        omega
      omega
theorem Bfs.count {P : List (Int × Bool)} {L : List Ln} {t : Int} {s : Nat} {F : List Nat} {l : List Int} {K : Nat} {done : List Int} (h : Bfs P L t s F l K done) : F.length ≤ P.length :=
  nodup_le h.nodup fun i hi => ((h.mem i).1 hi).1
theorem Bfs.full {P : List (Int × Bool)} {L : List Ln} {t : Int} {s : Nat} {F : List Nat} {l : List Int} {K : Nat} {done : List Int} (h : Bfs P L t s F l K done) (hf : F.length = P.length) {i : Nat} (hi : i < P.length) : i ∈ F := by
  refine Decidable.byContradiction fun hn => ?_
  have := nodup_le (F := i :: F) (n := P.length) (List.nodup_cons.2 ⟨hn, h.nodup⟩) fun j hj => by
    rcases List.mem_cons.1 hj with rfl | hj
    · exact hi
    · exact ((h.mem j).1 hj).1
  simp at this
  omega
theorem Bfs.start {P : List (Int × Bool)} {L : List Ln} {t : Int} {s : Nat} (hs : s < P.length) (ht : pc P s = t) : Bfs P L t s [s] ((List.replicate P.length (-1)).set s 0) 0 [] := by
  have h0 : ((List.replicate P.length (-1 : Int)).set s 0).getD s 0 = 0 := getD_set_eq _ (by simpa using hs)
  have h1 : ∀ i, i < P.length → i ≠ s → ((List.replicate P.length (-1 : Int)).set s 0).getD i 0 = -1 := fun i hi e => by
    rw [getD_set_ne _ (Ne.symm e)]; simp [List.getD_eq_getElem?_getD, hi]
  refine ⟨by simp, ⟨hs, ht⟩, by simp, fun i => ⟨fun hi => ?_, fun ⟨hi, hd⟩ => ?_⟩, by simp, fun i hi => ?_, h0, fun i hi e => ?_, fun a b hab hb => ?_, fun b hb _ => ?_, fun a ha => ?_, fun i hi e => ?_, fun a ha => absurd ha (Nat.not_lt_zero _), fun i _ hm => by cases hm⟩
  · simp only [List.mem_singleton] at hi; subst hi; exact ⟨hs, by rw [h0]; decide⟩
  · by_cases e : i = s
    · rw [e]; simp
    · exact absurd (h1 i hi e) hd
  · by_cases e : i = s
    · rw [e, h0]; decide
    · rw [h1 i hi e]; omega
  · rw [h1 i hi e]; decide
  · simp only [List.length_singleton] at hb
    have : a = b := by omega
    rw [this]; exact Int.le_refl _
  · simp only [List.length_singleton] at hb
    have : b = 0 := by omega
    subst this; simp only [List.getD_cons_zero]; omega
  · simp only [List.length_singleton] at ha
    have : a = 0 := by omega
    subst this; simp only [List.getD_cons_zero]; rw [h0]; decide
  · simp only [List.mem_singleton] at hi; exact absurd hi e
/-- A neighbor that has been found before. -/
theorem Bfs.old {P : List (Int × Bool)} {L : List Ln} {t : Int} {s : Nat} {F : List Nat} {l : List Int} {K : Nat} {done : List Int} (h : Bfs P L t s F l K done) (hA : Asc P) {i : Nat} (hi : i < P.length) (hd : l.getD i 0 ≠ -1) : Bfs P L t s F l K (done ++ [pc P i]) := by
  refine ⟨h.len, h.st, h.ne, h.mem, h.nodup, h.lo, h.zero, h.pos, h.mono, h.near, h.le, h.att, h.low, fun j hj hm => ?_⟩
  rcases List.mem_append.1 hm with hm | hm
  · exact h.cur j hj hm
  · simp only [List.mem_singleton] at hm
    rw [hA.inj hj hi hm]
    exact (h.mem i).2 ⟨hi, hd⟩
theorem getD_snoc_lt {F : List Nat} {x a : Nat} (ha : a < F.length) : (F ++ [x]).getD a 0 = F.getD a 0 := by
  simp [List.getD_eq_getElem?_getD, List.getElem?_append_left ha]
theorem getD_snoc_eq {F : List Nat} {x : Nat} : (F ++ [x]).getD F.length 0 = x := by simp [List.getD_eq_getElem?_getD]
/-- A neighbor that is found now. -/
theorem Bfs.new {P : List (Int × Bool)} {L : List Ln} {t : Int} {s : Nat} {F : List Nat} {l : List Int} {K : Nat} {done : List Int} (h : Bfs P L t s F l K done) (hA : Asc P) (hK : K < F.length) {i : Nat} (hi : i < P.length) (hd : l.getD i 0 = -1)
    (hs : stepB P L t i (F.getD K 0) = true) : Bfs P L t s (F ++ [i]) (l.set i (l.getD (F.getD K 0) 0 + 1)) K (done ++ [pc P i]) := by
  have hil : i < l.length := by rw [h.len]; exact hi
  have hn : i ∉ F := fun hm => ((h.mem i).1 hm).2 hd
  have hFa : ∀ a, a < F.length → F.getD a 0 ≠ i := fun a ha e => hn (e ▸ (h.lt ha).1)
  have hk := (h.lt hK)
  have hk0 : 0 ≤ l.getD (F.getD K 0) 0 := by
    have h1 := h.lo _ hk.2
    have h2 := ((h.mem _).1 hk.1).2
    omega
  have hsi : i ≠ s := fun e => by subst e; rw [h.zero] at hd; cases hd
  have g1 : (l.set i (l.getD (F.getD K 0) 0 + 1)).getD i 0 = l.getD (F.getD K 0) 0 + 1 := getD_set_eq _ hil
  have g2 : ∀ j, j ≠ i → (l.set i (l.getD (F.getD K 0) 0 + 1)).getD j 0 = l.getD j 0 := fun j e => getD_set_ne _ (Ne.symm e)
  have g3 : ∀ a, a < F.length → (l.set i (l.getD (F.getD K 0) 0 + 1)).getD ((F ++ [i]).getD a 0) 0 = l.getD (F.getD a 0) 0 := fun a ha => by
    rw [getD_snoc_lt ha, g2 _ (hFa a ha)]
  have g4 : (l.set i (l.getD (F.getD K 0) 0 + 1)).getD ((F ++ [i]).getD F.length 0) 0 = l.getD (F.getD K 0) 0 + 1 := by rw [getD_snoc_eq, g1]
  have hlen : (F ++ [i]).length = F.length + 1 := by simp
  refine ⟨by rw [List.length_set]; exact h.len, h.st, by rw [hlen]; omega, fun j => ?_, ?_, fun j hj => ?_, ?_, fun j hj e => ?_, fun a b hab hb => ?_, fun b hb hKb => ?_, fun a ha => ?_, fun j hj e => ?_, fun a ha haF j hj hst => ?_, fun j hj hm => ?_⟩
  · rw [List.mem_append, List.mem_singleton]
    by_cases e : j = i
    · subst e
      exact ⟨fun _ => ⟨hi, by rw [g1]; omega⟩, fun _ => .inr rfl⟩
    · rw [g2 j e, ← h.mem]
      exact ⟨fun hh => hh.resolve_right e, .inl⟩
  · rw [List.nodup_append]
    refine ⟨h.nodup, by simp, fun a ha b hb => ?_⟩
    simp only [List.mem_singleton] at hb
    subst hb
    exact fun e => hn (e ▸ ha)
  · by_cases e : j = i
    · subst e; rw [g1]; omega
    · rw [g2 j e]; exact h.lo j hj
  · rw [g2 s (Ne.symm hsi)]; exact h.zero
  · by_cases e' : j = i
    · subst e'; rw [g1]; omega
    · rw [g2 j e']; exact h.pos j hj e
  · rw [hlen] at hb
    by_cases e : b = F.length
    · subst e
      rw [g4]
      by_cases e2 : a = F.length
      · subst e2; rw [g4]; exact Int.le_refl _
      · rw [g3 a (by omega)]
        exact h.near a (by omega) hK
    · rw [g3 a (by omega), g3 b (by omega)]
      exact h.mono a b hab (by omega)
  · rw [g3 K hK]
    rw [hlen] at hb
    by_cases e : b = F.length
    · subst e; rw [g4]; exact Int.le_refl _
    · rw [g3 b (by omega)]; exact h.near b (by omega) hK
  · rw [hlen] at ha
    by_cases e : a = F.length
    · subst e; rw [g4]
      have := h.le K hK
      omega
    · rw [g3 a (by omega)]; exact h.le a (by omega)
  · rcases List.mem_append.1 hj with hj | hj
    · have hji : j ≠ i := fun e => hn (e ▸ hj)
      obtain ⟨k, hkF, h1, h2⟩ := h.att j hj e
      refine ⟨k, List.mem_append_left _ hkF, h1, ?_⟩
      rw [g2 j hji, g2 k (fun e => hn (e ▸ hkF))]; exact h2
    · simp only [List.mem_singleton] at hj
      subst hj
      exact ⟨F.getD K 0, List.mem_append_left _ hk.1, hs, by rw [g1, g2 _ (hFa K hK)]⟩
  · have ha' : a < F.length := by omega
    rw [getD_snoc_lt ha'] at hst
    obtain ⟨h1, h2⟩ := h.low a ha ha' j hj hst
    have hji : j ≠ i := fun e => hn (e ▸ h1)
    refine ⟨List.mem_append_left _ h1, ?_⟩
    rw [g2 j hji, g3 a ha']; exact h2
  · rcases List.mem_append.1 hm with hm | hm
    · exact List.mem_append_left _ (h.cur j hj hm)
    · simp only [List.mem_singleton] at hm
      rw [hA.inj hj hi hm]
      exact List.mem_append_right _ (by simp)
/-- All neighbors of a place have been visited, or it is passed by. -/
theorem Bfs.next {P : List (Int × Bool)} {L : List Ln} {t : Int} {s : Nat} {F : List Nat} {l : List Int} {K : Nat} {done : List Int} (h : Bfs P L t s F l K done) (hK : K < F.length)
    (hd : ∀ i, i < P.length → stepB P L t i (F.getD K 0) = true → pc P i ∈ done) : Bfs P L t s F l (K + 1) [] := by
  refine ⟨h.len, h.st, h.ne, h.mem, h.nodup, h.lo, h.zero, h.pos, h.mono, fun b hb hK1 => ?_, h.le, h.att, fun a ha haF i hi hst => ?_, fun i _ hm => by cases hm⟩
  · have h1 := h.near b hb hK
    have h2 := h.mono K (K + 1) (by omega) hK1
    omega
  · by_cases e : a = K
    · subst e
      have h1 := h.cur i hi (hd i hi hst)
      obtain ⟨j, hj, rfl⟩ := List.getElem_of_mem h1
      have h2 := h.near j hj hK
      refine ⟨h1, ?_⟩
      simpa [List.getD_eq_getElem?_getD, hj] using h2
    · exact h.low a (by omega) haF i hi hst
theorem Bfs.clear {P : List (Int × Bool)} {L : List Ln} {t : Int} {s : Nat} {F : List Nat} {l : List Int} {K : Nat} {done : List Int} (h : Bfs P L t s F l K done) : Bfs P L t s F l K [] :=
  ⟨h.len, h.st, h.ne, h.mem, h.nodup, h.lo, h.zero, h.pos, h.mono, h.near, h.le, h.att, h.low, fun _ _ hm => by cases hm⟩
/-- Distances as the code has them: -1 for no way. -/
def d99 (x : Int) : Int := if x = -1 then 99 else x
theorem Bfs.small {P : List (Int × Bool)} {L : List Ln} {t : Int} {s : Nat} {F : List Nat} {l : List Int} {K : Nat} {done : List Int} (h : Bfs P L t s F l K done) (hn : P.length ≤ 64) : ∀ i, i < P.length → -1 ≤ l.getD i 0 ∧ l.getD i 0 < 64 := fun i hi => by
  refine ⟨h.lo i hi, ?_⟩
  by_cases e : l.getD i 0 = -1
  · omega
  · obtain ⟨a, ha, q⟩ := List.getElem_of_mem ((h.mem i).2 ⟨hi, e⟩)
    have h3 := h.le a ha
    have h4 := h.count
    have e' : F.getD a 0 = i := by rw [← q]; simp [List.getD_eq_getElem?_getD, ha]
    rw [e'] at h3
    omega
/-- The search is over. -/
theorem Bfs.dist {P : List (Int × Bool)} {L : List Ln} {t : Int} {s : Nat} {F : List Nat} {l : List Int} {K : Nat} {done : List Int} (h : Bfs P L t s F l K done) (hA : Asc P) (hn : P.length ≤ 64) (he : F.length ≤ K ∨ F.length = P.length) :
    Dist P L t (fun i => d99 (l.getD i 0)) := by
  have hsome : ∀ i, i ∈ F → d99 (l.getD i 0) = l.getD i 0 ∧ 0 ≤ l.getD i 0 ∧ l.getD i 0 < 64 := fun i hi => by
    have h1 := (h.mem i).1 hi
    have h2 := h.lo i h1.1
    obtain ⟨a, ha, e⟩ := List.getElem_of_mem hi
    have h3 := h.le a ha
    have h4 := h.count
    have e' : F.getD a 0 = i := by rw [← e]; simp [List.getD_eq_getElem?_getD, ha]
    rw [e'] at h3
    refine ⟨by unfold d99; rw [if_neg h1.2], by omega, by omega⟩
  have hnone : ∀ i, i < P.length → i ∉ F → d99 (l.getD i 0) = 99 := fun i hi hF => by
    have : l.getD i 0 = -1 := Decidable.byContradiction fun e => hF ((h.mem i).2 ⟨hi, e⟩)
    unfold d99; rw [if_pos this]
  have hs : ∀ i, i < P.length → pc P i = t → i = s := fun i hi e => hA.inj hi h.st.1 (by rw [e, h.st.2])
  have hsF : s ∈ F := (h.mem s).2 ⟨h.st.1, by rw [h.zero]; decide⟩
  have htop : ∀ i, i < P.length → d99 (l.getD i 0) ≤ 99 := fun i hi => by
    by_cases hF : i ∈ F
    · have := hsome i hF; omega
    · rw [hnone i hi hF]; omega
  refine ⟨fun i hi e => ?_, fun i hi e => ?_, fun i k hi hk hst => ?_, fun i hi hd e => ?_, htop⟩
  · show d99 _ = 0
    rw [hs i hi e, (hsome s hsF).1]; exact h.zero
  · show 0 < d99 _
    by_cases hF : i ∈ F
    · have h1 := hsome i hF
      have h2 := h.pos i hi (fun q => e (by rw [q]; exact h.st.2))
      omega
    · rw [hnone i hi hF]; decide
  · show d99 _ ≤ d99 _ + 1
    by_cases hk' : k ∈ F
    · obtain ⟨a, ha, rfl⟩ := List.getElem_of_mem hk'
      have e' : F.getD a 0 = F[a] := by simp [List.getD_eq_getElem?_getD, ha]
      rw [(hsome _ hk').1]
      by_cases haK : a < K
      · obtain ⟨h1, h2⟩ := h.low a haK ha i hi (by rw [e']; exact hst)
        rw [(hsome i h1).1]
        rw [e'] at h2; exact h2
      · have hf : F.length = P.length := by
          rcases he with he | he
          · omega
          · exact he
        have h1 := h.full hf hi
        obtain ⟨b, hb, rfl⟩ := List.getElem_of_mem h1
        have h2 := h.near b hb (by omega)
        have h3 := h.mono K a (by omega) ha
        rw [e'] at h3
        have e2 : F.getD b 0 = F[b] := by simp [List.getD_eq_getElem?_getD, hb]
        rw [e2] at h2
        rw [(hsome _ h1).1]
        omega
    · rw [hnone k hk hk']
      have := htop i hi
      omega
  · have hF : i ∈ F := Decidable.byContradiction fun hF => by
      have := hnone i hi hF
      simp only [this] at hd
      omega
    obtain ⟨k, hkF, h1, h2⟩ := h.att i hF (fun q => e (by rw [q]; exact h.st.2))
    refine ⟨k, ((h.mem k).1 hkF).1, h1, ?_⟩
    show d99 _ = d99 _ + 1
    rw [(hsome i hF).1, (hsome k hkF).1]; exact h2
end Go.Proofs.YthlckipcgogogaaGreatDoor
