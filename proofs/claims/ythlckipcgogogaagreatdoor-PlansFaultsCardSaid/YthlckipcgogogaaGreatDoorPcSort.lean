/- Joined: PlHt PcSort. -/
import Derived.Test.YthlckipcgogogaaGreatDoorPlNb
import Derived.Sort.LotA
import Derived.Test.YthlckipcgogogaaGreatDoorLbCmp
import Derived.BigQuiet
/- Heights by a stable order of the places: mathematics. -/
namespace Go.Proofs.YthlckipcgogogaaGreatDoor
set_option linter.unusedVariables false
open Go.Sort

section
variable {n : Nat} [Inhabited (Fin n)] (f : Fin n → Int)
/-- One value is smaller. -/
def ltF (x y : Fin n) : Bool := decide (f x < f y)
/-- One value is smaller, or they are equal and the index is. -/
def ltX (x y : Fin n) : Bool := decide (f x < f y) || decide (f x = f y) && decide (x.val < y.val)
omit [Inhabited (Fin n)] in
theorem ltX_swo : SWO (ltX f) := by
  constructor
  · intro x; simp [ltX]
  · intro x y z h g
    simp only [ltX, Bool.or_eq_true, Bool.and_eq_true, decide_eq_true_eq] at *; omega
  · intro x y z h g
    simp only [ltX, Bool.or_eq_false_iff, Bool.and_eq_false_iff, decide_eq_false_iff_not] at *; omega
omit [Inhabited (Fin n)] in
theorem ltF_swo : SWO (ltF f) := by
  constructor
  · intro x; simp [ltF]
  · intro x y z h g
    simp only [ltF, decide_eq_true_eq] at *; omega
  · intro x y z h g
    simp only [ltF, decide_eq_false_iff_not] at *; omega
omit [Inhabited (Fin n)] in
theorem lt_same {x y : Fin n} (h : y.val < x.val) : ltF f x y = ltX f x y := by
  have : decide (x.val < y.val) = false := decide_eq_false (by omega)
  simp [ltF, ltX, this]
theorem ins_same (i : Nat) : ∀ (j : Nat) (d : Array (Fin n)), j ≤ i → i < d.size → (∀ a, a ≤ i → a ≠ j → (d[a]!).val < (d[j]!).val) →
    insInner (ltF f) 0 j d = insInner (ltX f) 0 j d ∧ (insInner (ltX f) 0 j d).size = d.size ∧ (∀ a, i < a → (insInner (ltX f) 0 j d)[a]! = d[a]!) ∧ (∀ a, a ≤ i → ∃ a', a' ≤ i ∧ (insInner (ltX f) 0 j d)[a]! = d[a']!)
  | 0, d, _, _, _ => ⟨rfl, rfl, fun _ _ => rfl, fun a ha => ⟨a, ha, rfl⟩⟩
  | j + 1, d, hj, hi, h => by
    have h1 := h j (by omega) (by omega)
    have e := lt_same f h1
    have hgt : decide (j + 1 > 0) = true := by simp
    unfold insInner
    rw [e, hgt, Bool.true_and]
    by_cases hl : ltX f d[j + 1]! d[j]! = true
    · rw [if_pos hl, if_pos hl]
      have s1 : (swp d (j + 1) j)[j + 1]! = d[j]! := swp_left d (j + 1) j (by omega) (by omega)
      have s2 : (swp d (j + 1) j)[j]! = d[j + 1]! := swp_right d (j + 1) j (by omega)
      have s3 : ∀ k, k ≠ j + 1 → k ≠ j → (swp d (j + 1) j)[k]! = d[k]! := fun k a b => swp_other d (j + 1) j k a b
      obtain ⟨r1, r2, r3, r4⟩ := ins_same i j (swp d (j + 1) j) (by omega) (by rw [size_swp]; exact hi) (fun a ha hne => by
        rw [s2]
        by_cases q : a = j + 1
        · rw [q, s1]; exact h1
        · rw [s3 a q hne]; exact h a ha q)
      refine ⟨r1, by rw [r2, size_swp], fun a ha => by rw [r3 a ha]; exact s3 a (by omega) (by omega), fun a ha => ?_⟩
      obtain ⟨a', ha', e'⟩ := r4 a ha
      rw [e']
      by_cases q : a' = j + 1
      · exact ⟨j, by omega, by rw [q, s1]⟩
      · by_cases q' : a' = j
        · exact ⟨j + 1, hj, by rw [q', s2]⟩
        · exact ⟨a', ha', s3 a' q q'⟩
    · rw [if_neg hl, if_neg hl]
      exact ⟨rfl, rfl, fun _ _ => rfl, fun a ha => ⟨a, ha, rfl⟩⟩
theorem outer_same : ∀ (m b i : Nat) (d : Array (Fin n)), b - i ≤ m → b ≤ d.size → (∀ a c, a < c → i ≤ c → c < d.size → (d[a]!).val < (d[c]!).val) → insOuter (ltF f) 0 b i d = insOuter (ltX f) 0 b i d
  | 0, b, i, d, hm, _, _ => by
    unfold insOuter
    rw [if_neg (by omega), if_neg (by omega)]
  | m + 1, b, i, d, hm, hb, h => by
    unfold insOuter
    by_cases hi : i < b
    · rw [if_pos hi, if_pos hi]
      obtain ⟨r1, r2, r3, r4⟩ := ins_same f i i d (Nat.le_refl _) (by omega) (fun a ha hne => h a i (by omega) (Nat.le_refl _) (by omega))
      rw [r1]
      refine outer_same m b (i + 1) _ (by omega) (by rw [r2]; exact hb) fun a c hac hc hs => ?_
      rw [r2] at hs
      rw [r3 c (by omega)]
      by_cases ha : a ≤ i
      · obtain ⟨a', ha', e⟩ := r4 a ha
        rw [e]; exact h a' c (by omega) (by omega) hs
      · rw [r3 a (by omega)]; exact h a c hac (by omega) hs
    · rw [if_neg hi, if_neg hi]
/-- On ascending indices the stable order by the values is the one by values and indices. -/
theorem sort_same (d : Array (Fin n)) (h : ∀ a c, a < c → c < d.size → (d[a]!).val < (d[c]!).val) : insertionSort (ltF f) d 0 d.size = insertionSort (ltX f) d 0 d.size :=
  outer_same f _ _ _ _ (Nat.le_refl _) (Nat.le_refl _) (fun a c hac _ hs => h a c hac hs)
theorem get_bang {d : Array (Fin n)} {i : Nat} (hi : i < d.toList.length) : d[i]! = d.toList[i] := by
  simp at hi
  simp [hi]
theorem sort_size (d : Array (Fin n)) : (insertionSort (ltF f) d 0 d.size).size = d.size := (insertionSort_holds (lt := ltF f) (ltF_swo f) d 0 d.size (Nat.zero_le _) (Nat.le_refl _)).1.1
theorem sort_spec (d : Array (Fin n)) (h : d.toList.Pairwise (fun x y => x.val < y.val)) :
    (insertionSort (ltF f) d 0 d.size).size = d.size ∧ (insertionSort (ltF f) d 0 d.size).toList.Perm d.toList ∧ (insertionSort (ltF f) d 0 d.size).toList.Pairwise (fun x y => ltX f x y = true) := by
  have h1 := sort_same f d (fun a c hac hc => by
    have h2 := List.pairwise_iff_getElem.1 h a c (by simp; omega) (by simpa using hc) hac
    rwa [get_bang (by simp; omega), get_bang (by simpa using hc)])
  obtain ⟨⟨q1, q2, q3⟩, q4⟩ := insertionSort_holds (lt := ltX f) (ltX_swo f) d 0 d.size (Nat.zero_le _) (Nat.le_refl _)
  rw [h1]
  have e1 : ((insertionSort (ltX f) d 0 d.size).extract 0 d.size) = insertionSort (ltX f) d 0 d.size := by
    generalize insertionSort (ltX f) d 0 d.size = z at q1 ⊢
    rw [← q1]; simp
  rw [e1] at q3
  have e2 : d.extract 0 d.size = d := by simp
  rw [e2] at q3
  refine ⟨q1, q3, ?_⟩
  have hnd : (insertionSort (ltX f) d 0 d.size).toList.Nodup := q3.symm.nodup (h.imp (fun hlt e => by subst e; omega))
  rw [List.pairwise_iff_getElem]
  intro i j hi hj hij
  have h3 := q4 i j (Nat.zero_le _) hij (by simp at hj; omega)
  rw [get_bang hi, get_bang hj] at h3
  have h4 : (insertionSort (ltX f) d 0 d.size).toList[i] ≠ (insertionSort (ltX f) d 0 d.size).toList[j] := fun e => by
    have := (List.nodup_iff_pairwise_ne.1 hnd)
    exact (List.pairwise_iff_getElem.1 this i j hi hj hij) e
  generalize (insertionSort (ltX f) d 0 d.size).toList[i] = x at h3 h4
  generalize (insertionSort (ltX f) d 0 d.size).toList[j] = y at h3 h4
  have h5 : x.val ≠ y.val := fun e => h4 (Fin.ext e)
  simp only [ltX, Bool.or_eq_true, Bool.and_eq_true, Bool.or_eq_false_iff, Bool.and_eq_false_iff, decide_eq_true_eq, decide_eq_false_iff_not] at *
  omega
end
/-- The places with a way, in order. -/
def wayL (n : Nat) (l : List Int) : List Nat := (List.range n).filter fun i => decide (l.getD i 0 ≠ -1)
theorem wayL_succ (k : Nat) (l : List Int) : wayL (k + 1) l = wayL k l ++ (if l.getD k 0 ≠ -1 then [k] else []) := by
  unfold wayL
  rw [List.range_succ, List.filter_append]
  congr 1
  by_cases h : l.getD k 0 = -1
  · rw [if_neg (by simpa using h), List.filter_cons_of_neg (by simpa using h), List.filter_nil]
  · rw [if_pos h, List.filter_cons_of_pos (by simpa using h), List.filter_nil]
theorem wayL_lt {n : Nat} {l : List Int} {i : Nat} (h : i ∈ wayL n l) : i < n ∧ l.getD i 0 ≠ -1 := by
  unfold wayL at h
  obtain ⟨a, b⟩ := List.mem_filter.1 h
  exact ⟨List.mem_range.1 a, by simpa using b⟩
theorem wayL_asc (n : Nat) (l : List Int) : (wayL n l).Pairwise (· < ·) := List.Pairwise.filter _ List.pairwise_lt_range
theorem wayL_le (n : Nat) (l : List Int) : (wayL n l).length ≤ n := by have := List.length_filter_le (fun i => decide (l.getD i 0 ≠ -1)) (List.range n); simpa [wayL] using this
/-- The places in an order stand on their positions; the others keep -1. -/
def putPos (l : List Int) (o : List Nat) : Nat → List Int
  | 0 => l
  | h + 1 => (putPos l o h).set (o.getD h 0) (h : Int)
theorem putPos_length (l : List Int) (o : List Nat) : ∀ h, (putPos l o h).length = l.length
  | 0 => rfl
  | h + 1 => by unfold putPos; rw [List.length_set]; exact putPos_length l o h
theorem putPos_out (l : List Int) (o : List Nat) {i : Nat} : ∀ h, h ≤ o.length → (∀ a, a < h → o.getD a 0 ≠ i) → (putPos l o h).getD i 0 = l.getD i 0
  | 0, _, _ => rfl
  | h + 1, hh, hn => by
    unfold putPos
    rw [getD_set_ne _ (hn h (by omega))]
    exact putPos_out l o h (by omega) fun a ha => hn a (by omega)
theorem putPos_at (l : List Int) (o : List Nat) (hd : o.Nodup) (hb : ∀ i ∈ o, i < l.length) {a : Nat} : ∀ h, a < h → h ≤ o.length → (putPos l o h).getD (o.getD a 0) 0 = (a : Int)
  | 0, h, _ => absurd h (Nat.not_lt_zero _)
  | h + 1, ha, hh => by
    have gd : ∀ a, (q : a < o.length) → o.getD a 0 = o[a] := fun a q => by simp [List.getD_eq_getElem?_getD, q]
    unfold putPos
    by_cases e : a = h
    · subst e
      rw [getD_set_eq _ (by rw [putPos_length, gd a (by omega)]; exact hb _ (List.getElem_mem _))]
    · have : o.getD h 0 ≠ o.getD a 0 := by
        rw [gd h (by omega), gd a (by omega)]
        exact fun q => e ((List.getElem_inj hd).1 q).symm
      rw [getD_set_ne _ this]
      exact putPos_at l o hd hb h (by omega) (by omega)
/-- Heights as the code has them. -/
def htI (n : Nat) (l : List Int) (i : Nat) : Int := if l.getD i 0 = -1 then -1 else (htN n (fun k => d99 (l.getD k 0)) i : Int)
theorem countP_pos {α : Type} {r : α → α → Bool} (ha : ∀ x y, r x y = true → r y x = false) : ∀ {o : List α}, o.Pairwise (fun x y => r x y = true) → ∀ {a : Nat}, (h : a < o.length) → o.countP (fun k => r k o[a]) = a
  | [], _, a, h => absurd h (Nat.not_lt_zero _)
  | x :: o, hp, 0, h => by
    obtain ⟨h1, h2⟩ := List.pairwise_cons.1 hp
    rw [List.countP_eq_zero]
    intro y hy
    simp only [List.getElem_cons_zero]
    have hxx : r x x = false := by
      cases e : r x x
      · rfl
      · exact absurd (ha x x e) (by rw [e]; decide)
    rcases List.mem_cons.1 hy with rfl | hy
    · rw [hxx]; decide
    · rw [ha x y (h1 y hy)]; decide
  | x :: o, hp, a + 1, h => by
    obtain ⟨h1, h2⟩ := List.pairwise_cons.1 hp
    have ih := countP_pos ha h2 (a := a) (by simpa using h)
    simp only [List.getElem_cons_succ]
    rw [List.countP_cons, ih, if_pos (h1 _ (List.getElem_mem _))]
/-- A sorted order of the places with a way tells the heights. -/
theorem heights_of {n : Nat} {l : List Int} {o : List Nat} (hl : l.length = n) (hp : o.Perm (wayL n l)) (hs : o.Pairwise (fun x y => lowerB (fun k => l.getD k 0) x y = true)) (hlo : ∀ i, i < n → l.getD i 0 < 99) :
    ∀ i, i < n → (putPos l o o.length).getD i 0 = htI n l i := by
  intro i hi
  have hnd : o.Nodup := hp.symm.nodup ((wayL_asc n l).imp (fun h e => by omega))
  have hlt : ∀ j ∈ o, j < l.length := fun j hj => by rw [hl]; exact (wayL_lt (hp.mem_iff.1 hj)).1
  by_cases e : l.getD i 0 = -1
  · unfold htI
    rw [if_pos e]
    rw [putPos_out l o o.length (Nat.le_refl _) fun a ha q => ?_]
    · exact e
    · have : i ∈ o := by rw [← q, List.getD_eq_getElem?_getD, List.getElem?_eq_getElem ha]; exact List.getElem_mem ha
      exact (wayL_lt (hp.mem_iff.1 this)).2 e
  · have hm : i ∈ o := hp.mem_iff.2 (List.mem_filter.2 ⟨List.mem_range.2 hi, by simpa using e⟩)
    obtain ⟨a, ha, q⟩ := List.getElem_of_mem hm
    have gd : o.getD a 0 = i := by rw [← q]; simp [List.getD_eq_getElem?_getD, ha]
    unfold htI
    rw [if_neg e]
    have h1 := putPos_at l o hnd hlt o.length ha (Nat.le_refl _)
    rw [gd] at h1
    rw [h1]
    have h2 := countP_pos (r := lowerB (fun k => l.getD k 0)) (fun x y h => by
      simp only [lowerB, Bool.or_eq_true, Bool.and_eq_true, Bool.or_eq_false_iff, Bool.and_eq_false_iff, decide_eq_true_eq, decide_eq_false_iff_not] at *; omega) hs ha
    rw [q] at h2
    have h3 : o.countP (fun k => lowerB (fun k => l.getD k 0) k i) = (wayL n l).countP (fun k => lowerB (fun k => l.getD k 0) k i) := hp.countP_eq _
    have h4 : htN n (fun k => d99 (l.getD k 0)) i = (wayL n l).countP (fun k => lowerB (fun k => l.getD k 0) k i) := by
      unfold htN wayL
      rw [List.countP_filter]
      refine List.countP_congr fun k hk => ?_
      have hk' := List.mem_range.1 hk
      have hi9 := hlo i hi
      have e9 : d99 (l.getD i 0) = l.getD i 0 := by unfold d99; rw [if_neg e]
      simp only [lowerB, Bool.and_eq_true, Bool.or_eq_true, decide_eq_true_eq, e9]
      by_cases ek : l.getD k 0 = -1
      · have : d99 (l.getD k 0) = 99 := by unfold d99; rw [if_pos ek]
        rw [this]
        constructor
        · intro h; omega
        · intro h; exact absurd ek h.2
      · have : d99 (l.getD k 0) = l.getD k 0 := by unfold d99; rw [if_neg ek]
        rw [this]
        exact ⟨fun h => ⟨h, ek⟩, fun h => h.1⟩
    congr 1
    rw [h4, ← h3, h2]
end Go.Proofs.YthlckipcgogogaaGreatDoor
/- The stable order of places: the closure, the library's sort of few. -/
namespace Go.Proofs.YthlckipcgogogaaGreatDoor
set_option linter.unusedVariables false
open Go.RowKit Go.Sort Go.Lib

theorem sort_exc {α : Type} [Inhabited α] (enc : α → Value) (w : World) (blk off m : Nat) (dk : Array α) (os : Array Obj) : Exc (fun k => k = blk) w (sortWorld enc w blk off m dk os) := by
  refine ⟨rfl, rfl, rfl, by simp [sortWorld, grow, putRow, mapBlock, Sort.ahead], fun k hk hn => ?_⟩
  show ((Sort.ahead w m).heap.modify blk _ ++ os)[k]? = w.heap[k]?
  rw [Array.getElem?_append_left (by simpa [Sort.ahead] using hk), Array.getElem?_modify, if_neg (fun e => hn e.symm)]
  rfl
theorem sw_exc {α : Type} [Inhabited α] {enc : α → Value} {w0 W : World} {blk off : Nat} {dk : Array α} (h : SW enc w0 blk off dk W) : Exc (fun k => k = blk) w0 W := by
  obtain ⟨m, os, rfl⟩ := h
  exact sort_exc enc w0 blk off m dk os
theorem cmpI_any (a b : Int) (w : World) :
    Calls Tryz.prog 68 #[.int .i64 a, .int .i64 b] w fun e w' => e = .returned (.int .i64 (cmpL a b)) ∧ w' = w := by
  rcases cmpL_cases a b with ⟨e, h⟩ | ⟨e, h⟩ | ⟨e, rfl⟩ <;> rw [e] <;> clear e
  · go_enter Tryz.func68, Tryz.ntmps68
    go_wp2
    go_ret
    exact ⟨rfl, rfl⟩
  · have h' : ¬ a < b := by omega
    go_enter Tryz.func68, Tryz.ntmps68
    go_wp2
    go_ret
    exact ⟨rfl, rfl⟩
  · go_enter Tryz.func68, Tryz.ntmps68
    go_wp2
    go_ret
    exact ⟨rfl, rfl⟩
/-- The comparison of two places by their distances. -/
def cfL (l : List Int) (n : Nat) (x y : Fin n) : Int := cmpL (l.getD x.val 0) (l.getD y.val 0)
theorem ltOf_cf (l : List Int) (n : Nat) : ltOf (cfL l n) = ltF (fun x : Fin n => l.getD x.val 0) := by
  funext x y
  unfold ltOf cfL ltF
  rcases cmpL_cases (l.getD x.val 0) (l.getD y.val 0) with ⟨e, h⟩ | ⟨e, h⟩ | ⟨e, h⟩
  · rw [e, show decide (l.getD x.val 0 < l.getD y.val 0) = true from decide_eq_true h]; rfl
  · rw [e, show decide (l.getD x.val 0 < l.getD y.val 0) = false from decide_eq_false (by omega)]; rfl
  · rw [e, show decide (l.getD x.val 0 < l.getD y.val 0) = false from decide_eq_false (by omega)]; rfl
def encF {n : Nat} (x : Fin n) : Value := .int .i64 (x.val : Int)
set_option maxHeartbeats 1000000 in
theorem closure_any (l : List Int) (n : Nat) (x y : Fin n) (bx g : Nat) (W : World) (hl : l.length = n) (hb : W.cell? ⟨bx, 0, none⟩ = some (.slice (some ⟨g, 0, none⟩) n n)) (ho : Own W g 3 (nums .i64 l)) :
    Calls Tryz.prog 93 #[encF x, encF y, .pointer (some ⟨bx, 0, none⟩)] W fun e w' => e = .returned (.int .i64 (cfL l n x y)) ∧ ∃ q, w' = W.drewN q := by
  unfold encF
  obtain ⟨i, hi⟩ := x
  obtain ⟨j, hj⟩ := y
  have c1 := ho.cell i (by rw [nums_length]; omega)
  have c2 := ho.cell j (by rw [nums_length]; omega)
  rw [nums_getD _ _ _ (by omega)] at c1 c2
  unfold cfL
  simp only
  generalize l.getD i 0 = u at c1 ⊢
  generalize l.getD j 0 = v at c2 ⊢
  have i1 : (0 : Int) ≤ (i : Int) := by omega
  have i2 : (i : Int) < (n : Int) := by omega
  have j1 : (0 : Int) ≤ (j : Int) := by omega
  have j2 : (j : Int) < (n : Int) := by omega
  have HC := Lib.hid (fun W => cmpI_any u v W)
  generalize cmpL u v = r at HC ⊢
  clear ho hl
  go_enter Tryz.func93, Tryz.ntmps93
  go_wp2_with fail
  go_quiet ((go_at_call 68; exact Calls.quiet_of_same (HC.out _)))
  go_wp2
  go_ret
  exact ⟨rfl, _, rfl⟩
theorem lays_any (l : List Int) (n : Nat) [Inhabited (Fin n)] (bx g blk size : Nat) (w : World) (hl : l.length = n) (hb : w.cell? ⟨bx, 0, none⟩ = some (.slice (some ⟨g, 0, none⟩) n n)) (ho : Own w g 3 (nums .i64 l)) (h1 : bx ≠ blk) (h2 : g ≠ blk) :
    CmpLays1 Tryz.prog 93 #[.pointer (some ⟨bx, 0, none⟩)] (encF (n := n)) (cfL l n) blk 0 size w := fun m os dk _ x y => by
  have hx := sort_exc (encF (n := n)) w blk 0 m dk os
  refine (closure_any l n x y bx g _ hl (hx.cell hb h1) ?_).mono fun e w' h => ⟨h.1, ?_⟩
  · unfold Own
    rw [hx.block g ho.lt h2]; exact ho
  · obtain ⟨q, hq⟩ := h.2
    exact ⟨q, #[], by rw [hq, grow_empty]⟩
/-- What the library's stable sort leaves. -/
def StOut {n : Nat} [Inhabited (Fin n)] (Q : Array (Fin n) → Prop) (w : World) (blk : Nat) (d : Array (Fin n)) (e : Ending) (w' : World) : Prop := e = .returned (.tuple #[]) ∧ ∃ d', d'.size = d.size ∧ Q d' ∧ SW encF w blk 0 d' w'
set_option maxHeartbeats 2000000 in
theorem stable_few (l : List Int) (n : Nat) [Inhabited (Fin n)] (bx g blk cap : Nat) (d : Array (Fin n)) (w : World) (hl : l.length = n) (hb : w.cell? ⟨bx, 0, none⟩ = some (.slice (some ⟨g, 0, none⟩) n n)) (ho : Own w g 3 (nums .i64 l)) (h1 : bx ≠ blk) (h2 : g ≠ blk)
    (hH : Holds (encF (n := n)) w blk 0 d) (hblk : blk < w.heap.size) (hd : d.size < 20) (hd0 : 0 < d.size) :
    Calls Tryz.prog 112 #[.slice (some ⟨blk, 0, none⟩) d.size cap, .int .i64 (d.size : Int), .func (.func 93) #[] #[.pointer (some ⟨bx, 0, none⟩)]] w (StOut (fun d' => d' = insertionSort (ltF (fun x : Fin n => l.getD x.val 0)) d 0 d.size) w blk d) := by
  have eg : ∀ args w, (callFunc 93 args).run Tryz.prog w = .ok (.enter 93 args) w := enters_of Tryz.func93 (by kernel_rfl) rfl
  have hcon := Any.insertionSortCmpFunc_s layInsert (encF (n := n)) (cfL l n) 93 #[.pointer (some ⟨bx, 0, none⟩)] blk 0 cap 0 d.size d d w w eg (lays_any l n bx g blk d.size w hl hb ho h1 h2) ⟨fun _ => rfl, hH, hblk⟩ rfl (SW.start hH) (Nat.zero_le _) (Nat.le_refl _) (by omega)
  rw [ltOf_cf] at hcon
  change Calls Tryz.prog 134 #[.slice (some ⟨blk, 0, none⟩) d.size cap, .int .i64 0, .int .i64 (d.size : Int), .func (.func 93) #[] #[.pointer (some ⟨bx, 0, none⟩)]] _ _ at hcon
  have HC := Lib.hid hcon
  have HSz := Lib.hid ((sort_size (fun x : Fin n => l.getD x.val 0) d))
  obtain ⟨m, hm⟩ : ∃ m, m = d.size := ⟨_, rfl⟩
  rw [← hm] at HC HSz hd hd0 ⊢
  have HM := Lib.hid hm
  clear hcon hb ho hH eg hl hm
  have d1 : (m : Int) < 20 := by omega
  have d2 : (0 : Int) ≤ (m : Int) := by omega
  have d3 : ¬ (20 : Int) ≤ (m : Int) := by omega
  go_enter Tryz.func112, Tryz.ntmps112
  go_wp2_with fail
  go_loopw [7, 8] (fun sa sb wr => sa = .int .i64 0 ∧ sb = .int .i64 20 ∧ wr = w) (fun _ _ _ => 0)
  case atStart => exact ⟨rfl, rfl, rfl⟩
  case round =>
    obtain ⟨rfl, rfl, rfl⟩ := hrel
    go_wp2_with fail
    with_reducible refine HC.out.mono ?_
    rintro e w' ⟨rfl, hsw⟩
    have HSw := Lib.hid hsw
    clear hsw HC
    go_wp2_with fail
    go_loopw [6] (fun s6 wr => s6 = .int .i64 20 ∧ wr = w') (fun _ _ => 0)
    case atStart => exact ⟨rfl, rfl⟩
    case round =>
      obtain ⟨rfl, rfl⟩ := hrel
      go_wp2
      go_end0
      exact ⟨rfl, _, by rw [HSz.out, HM.out], by rw [HM.out], HSw.out⟩
theorem sortStable_any {n : Nat} [Inhabited (Fin n)] (Q : Array (Fin n) → Prop) (bx blk cap : Nat) (d : Array (Fin n)) (w : World)
    (hs : Calls Tryz.prog 112 #[.slice (some ⟨blk, 0, none⟩) d.size cap, .int .i64 (d.size : Int), .func (.func 93) #[] #[.pointer (some ⟨bx, 0, none⟩)]] w (StOut Q w blk d)) :
    Calls Tryz.prog 92 #[.slice (some ⟨blk, 0, none⟩) d.size cap, .func (.func 93) #[] #[.pointer (some ⟨bx, 0, none⟩)]] w (StOut Q w blk d) := by
  have HC := Lib.hid hs
  clear hs
  obtain ⟨m, hm⟩ : ∃ m, m = d.size := ⟨_, rfl⟩
  rw [← hm] at HC ⊢
  clear hm
  go_enter Tryz.func92, Tryz.ntmps92
  go_wp2_with fail
  with_reducible refine HC.out.mono ?_
  rintro e w' ⟨rfl, hq⟩
  have HQ := Lib.hid hq
  clear hq HC
  go_wp2
  go_end0
  exact ⟨rfl, HQ.out⟩
end Go.Proofs.YthlckipcgogogaaGreatDoor
