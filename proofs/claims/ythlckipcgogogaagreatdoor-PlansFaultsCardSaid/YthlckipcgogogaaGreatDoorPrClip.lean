/- Joined: PrRi PrRf PrRng PrClip. -/
import Derived.Test.YthlckipcgogogaaGreatDoorPrRead
import Derived.Test.YthlckipcgogogaaGreatDoorPrSuf
import Derived.Test.YthlckipcgogogaaGreatDoorPlCells
/- Read's loop: what holds between two lines. -/
namespace Go.Proofs.YthlckipcgogogaaGreatDoor
set_option linter.unusedVariables false
open Go.RowKit

/-- A line that strings.Lines hands out, behind a state. -/
def stepR (st : Option (Pn × Nat)) (x : List UInt8) : Option (Pn × Nat) := st.bind fun s => if x.getLast? = some 10 then stepM s.1 s.2 (sufC x) else none
def rdS (l : List (List UInt8)) : Option (Pn × Nat) := l.foldl stepR (some (emptyPn, 0))
theorem rdS_snoc (l : List (List UInt8)) (x : List UInt8) : rdS (l ++ [x]) = stepR (rdS l) x := by simp [rdS]
theorem placeM_grow {p q : Pn} {r : List (List UInt8)} (h : placeM p r = some q) : q.P.length ≤ p.P.length + 1 ∧ q.L.length ≤ p.L.length + 1 := by
  by_cases h2 : r.length = 2
  · obtain ⟨x, y, rfl⟩ := len2 h2
    have hM : placeM p [x, y] = if parseE x = 0 then (if y = transferW then some { p with P := p.P ++ [((parseN x : Int), true)] } else if y = endW then some { p with P := p.P ++ [((parseN x : Int), false)] } else none) else none := by
      unfold placeM pointO
      by_cases h : parseE x = 0
      · rw [if_pos h]; simp only [h, if_true]
      · rw [if_neg h]; simp only [h, if_false]
    rw [hM] at h
    split at h
    · split at h
      · obtain rfl := Option.some.inj h; simp
      · split at h
        · obtain rfl := Option.some.inj h; simp
        · cases h
    · cases h
  · rw [placeM_len h2] at h; cases h
theorem lineM_grow {p q : Pn} {r : List (List UInt8)} (h : lineM p r = some q) : q.P.length ≤ p.P.length + 1 ∧ q.L.length ≤ p.L.length + 1 := by
  by_cases h2 : r.length = 4
  · obtain ⟨x, y, z, u, rfl⟩ := len4 h2
    rw [lineM_eq] at h
    split at h
    · obtain rfl := Option.some.inj h; simp
    · cases h
  · rw [lineM_len h2] at h; cases h
theorem stepM_grow {p q : Pn} {part part' : Nat} {c : List UInt8} (h : stepM p part c = some (q, part')) : part' ≤ 4 ∧ q.P.length ≤ p.P.length + 1 ∧ q.L.length ≤ p.L.length + 1 := by
  unfold stepM at h
  split at h
  · cases h
  · split at h
    · split at h
      · cases hm : placeM p _ with
        | none => rw [hm] at h; cases h
        | some m =>
          rw [hm] at h
          obtain ⟨rfl, rfl⟩ := Prod.mk.inj (Option.some.inj h)
          exact ⟨by omega, placeM_grow hm⟩
      · cases h
    · split at h
      · split at h
        · cases hm : lineM p _ with
          | none => rw [hm] at h; cases h
          | some m =>
            rw [hm] at h
            obtain ⟨rfl, rfl⟩ := Prod.mk.inj (Option.some.inj h)
            exact ⟨by omega, lineM_grow hm⟩
        · cases h
      · split at h
        · split at h
          · split at h
            · rename_i a _
              cases hm : numO a with
              | none => rw [hm] at h; cases h
              | some m =>
                rw [hm] at h
                obtain ⟨rfl, rfl⟩ := Prod.mk.inj (Option.some.inj h)
                exact ⟨by omega, by simp, by simp⟩
            · cases h
          · cases h
        · split at h
          · split at h
            · split at h
              · rename_i a _
                cases hm : numO a with
                | none => rw [hm] at h; cases h
                | some m =>
                  rw [hm] at h
                  obtain ⟨rfl, rfl⟩ := Prod.mk.inj (Option.some.inj h)
                  exact ⟨by omega, by simp, by simp⟩
              · cases h
            · cases h
          · split at h
            · split at h
              · split at h
                · split at h
                  · obtain ⟨rfl, rfl⟩ := Prod.mk.inj (Option.some.inj h)
                    exact ⟨by omega, by simp, by simp⟩
                  · cases h
                · cases h
              · cases h
            · cases h
theorem rdS_grow0 : ∀ (l : List (List UInt8)) (st : Option (Pn × Nat)) (k : Nat), (∀ p part, st = some (p, part) → part ≤ 4 ∧ p.P.length ≤ k ∧ p.L.length ≤ k) → ∀ p part, l.foldl stepR st = some (p, part) → part ≤ 4 ∧ p.P.length ≤ k + l.length ∧ p.L.length ≤ k + l.length
  | [], st, k, hs, p, part, h => by
    have := hs p part h
    simpa using this
  | x :: l, st, k, hs, p, part, h => by
    have h1 := rdS_grow0 l (stepR st x) (k + 1) (fun q part' hq => by
      cases st with
      | none => cases hq
      | some s =>
        have h1 := hs s.1 s.2 rfl
        change (if x.getLast? = some 10 then stepM s.1 s.2 (sufC x) else none) = some (q, part') at hq
        split at hq
        · have h2 := stepM_grow hq
          omega
        · cases hq) p part h
    rw [List.length_cons]
    omega
theorem rdS_grow (l : List (List UInt8)) (p : Pn) (part : Nat) (h : rdS l = some (p, part)) : part ≤ 4 ∧ p.P.length ≤ l.length ∧ p.L.length ≤ l.length := by
  have h1 := rdS_grow0 l (some (emptyPn, 0)) 0 (fun q part' hq => by
    obtain ⟨rfl, rfl⟩ := Prod.mk.inj (Option.some.inj hq)
    exact ⟨by omega, by simp [emptyPn], by simp [emptyPn]⟩) p part h
  omega
/-- Between two lines: the reader at rb, the count at bc, the results at b2, b3. -/
structure RdI (w : World) (B rb b2 b3 bc : Nat) (pre : List LnT) (W : World) : Prop where
  st : ∃ p part vP vL, rdS (pre.map (·.1)) = some (p, part) ∧ RdAt B W rb vP vL p part
  cnt : Own W bc 3 [.int .i64 (pre.length : Int)]
  r2 : Own W b2 31 [.slice none 0 0, .slice none 0 0, .int .i64 0, .int .i64 0, .int .i64 0, .int .i64 0, .int .i64 0]
  r3 : Own W b3 37 [.int .i64 0, .int .i64 0]
  bel : Below w.heap.size w W
/-- The loop is left: a line that is not well formed. -/
structure RdX (w : World) (b2 b3 : Nat) (c : Code) (pre : List LnT) (W : World) : Prop where
  ret : c = .ret
  st : ∃ q x, pre = q ++ [x] ∧ (∃ s, rdS (q.map (·.1)) = some s) ∧ rdS (pre.map (·.1)) = none
  r2 : Own W b2 31 [.slice none 0 0, .slice none 0 0, .int .i64 0, .int .i64 0, .int .i64 0, .int .i64 0, .int .i64 0]
  r3 : Own W b3 37 [.int .i64 4, .int .i64 (pre.length : Int)]
  bel : Below w.heap.size w W
theorem own_abides {W W' : World} {row : Option Nat} {B cb b t : Nat} {cs : List Value} (h : Own W b t cs) (hg : W.grownBy W' row) (hr : ∀ r, row = some r → r = cb ∨ (B ≤ r ∧ ∃ o : Obj, W.heap[r]? = some o ∧ o.isCells = false)) (hb : b ≠ cb) : Own W' b t cs :=
  block_stands hg hr h hb (by simp [Obj.isCells])
theorem owns_abides {W W' : World} {row : Option Nat} {B cb e k n : Nat} {v : Value} {xs : List Value} (h : W.ownsRow B e k v n xs) (hg : W.grownBy W' row) (hr : ∀ r, row = some r → r = cb ∨ (B ≤ r ∧ ∃ o : Obj, W.heap[r]? = some o ∧ o.isCells = false)) (hb : cb < B) : W'.ownsRow B e k v n xs := by
  refine ownsK_exc h (Exc.of_grown hg) (fun j hj hrow => ?_)
  rcases hr j hrow with h1 | ⟨_, o, h1, h2⟩
  · have := (ownsK_lt h hj).1; omega
  · rcases h.2 with ⟨hnil, _⟩ | ⟨g, cap, cur, hv, _, hc, _⟩
    · rw [hnil] at hj; cases hj
    · rw [hv] at hj
      obtain rfl : g = j := Option.some.inj hj
      rw [h1] at hc
      cases hc
      cases h2
theorem rdI_abides {w : World} {B rb b2 b3 bc cb : Nat} (hcb : cb < B) (hw : w.heap.size ≤ cb ∧ w.heap.size ≤ B) (hrb : rb ≠ cb) (h2 : b2 ≠ cb) (h3 : b3 ≠ cb) (hbc : bc ≠ cb) : AbidesC (fun o => o.isCells = false) B cb (RdI w B rb b2 b3 bc) :=
  fun pre W W' row h hg hr => by
    obtain ⟨⟨p, part, vP, vL, e, hR⟩, hc, hr2, hr3, hbel⟩ := h
    exact ⟨⟨p, part, vP, vL, e, own_abides hR.own hg hr hrb, owns_abides hR.ps hg hr hcb, owns_abides hR.ls hg hr hcb, hR.ne, hR.lt, Nat.le_trans hR.sz hg.size⟩, own_abides hc hg hr hbc, own_abides hr2 hg hr h2, own_abides hr3 hg hr h3,
      abides_below (β := Unit) (q := fun o => o.isCells = false) (Nat.le_refl _) hw.2 hw.1 () W W' row hbel hg hr⟩
theorem rdX_abides {w : World} {B b2 b3 cb : Nat} (c : Code) (hw : w.heap.size ≤ cb ∧ w.heap.size ≤ B) (h2 : b2 ≠ cb) (h3 : b3 ≠ cb) : AbidesC (fun o => o.isCells = false) B cb (RdX w b2 b3 c) :=
  fun pre W W' row h hg hr => by
    obtain ⟨hret, hst, hr2, hr3, hbel⟩ := h
    exact ⟨hret, hst, own_abides hr2 hg hr h2, own_abides hr3 hg hr h3, abides_below (β := Unit) (q := fun o => o.isCells = false) (Nat.le_refl _) hw.2 hw.1 () W W' row hbel hg hr⟩
end Go.Proofs.YthlckipcgogogaaGreatDoor
/- Reading line by line is readF. -/
namespace Go.Proofs.YthlckipcgogogaaGreatDoor
set_option linter.unusedVariables false
open Go.RowKit

theorem line_yes {s : List UInt8} (h : s.dropWhile (· != 10) ≠ []) : (lineH s).getLast? = some 10 ∧ sufC (lineH s) = s.takeWhile (· != 10) ∧ lineT s = (s.dropWhile (· != 10)).drop 1 := by
  have hs := nl_split s h
  have hk : nlK s = (s.takeWhile (· != 10)).length := rfl
  generalize s.takeWhile (· != 10) = a at *
  generalize (s.dropWhile (· != 10)).drop 1 = b at *
  have hH : lineH s = a ++ [10] := by
    unfold lineH
    rw [hk, hs, show a ++ 10 :: b = (a ++ [10]) ++ b by simp, List.take_left' (by simp)]
  have hT : lineT s = b := by
    unfold lineT
    rw [hk, hs, show a ++ 10 :: b = (a ++ [10]) ++ b by simp, List.drop_left' (by simp)]
  refine ⟨by rw [hH]; simp, ?_, hT⟩
  rw [hH]
  unfold sufC
  rw [if_pos (by simp), List.dropLast_concat]
theorem line_no {s : List UInt8} (h : s.dropWhile (· != 10) = []) : (lineH s).getLast? ≠ some 10 := by
  have h1 := List.takeWhile_append_dropWhile (p := (· != (10 : UInt8))) (l := s)
  rw [h, List.append_nil] at h1
  rw [lineH_all (by unfold nlK; rw [h1])]
  intro hq
  have h2 : (10 : UInt8) ∈ s.takeWhile (· != 10) := by rw [h1]; exact List.mem_of_getLast? hq
  have h3 := List.all_takeWhile (p := (· != (10 : UInt8))) (l := s)
  rw [List.all_eq_true] at h3
  have h4 := h3 10 h2
  simp at h4
theorem stepR_none (l : List (List UInt8)) : l.foldl stepR none = none := by
  induction l with
  | nil => rfl
  | cons x l ih => exact ih
/-- All lines are well formed. -/
theorem readF_all : ∀ (f : Nat) (s : List UInt8) (n : Nat) (p : Pn) (part : Nat) (q : Pn) (part' : Nat), s.length ≤ f → (linesL f s).foldl stepR (some (p, part)) = some (q, part') →
    readF f s n p part = if part' = 4 then .plan q else .fault (n + (linesL f s).length + 1)
  | 0, s, n, p, part, q, part', hs, h => by
    obtain rfl : s = [] := List.eq_nil_of_length_eq_zero (by omega)
    obtain ⟨rfl, rfl⟩ := Prod.mk.inj (Option.some.inj h)
    simp [readF, linesL]
  | f + 1, s, n, p, part, q, part', hs, h => by
    by_cases he : s = []
    · subst he
      rw [linesL_nil] at h ⊢
      obtain ⟨rfl, rfl⟩ := Prod.mk.inj (Option.some.inj h)
      simp [readF]
    · have hlt := lineT_lt he
      rw [linesL, if_neg he, List.foldl_cons] at h
      by_cases hd : s.dropWhile (· != 10) = []
      · have h1 : stepR (some (p, part)) (lineH s) = none := if_neg (line_no hd)
        rw [h1, stepR_none] at h
        cases h
      · obtain ⟨h1, h2, h3⟩ := line_yes hd
        have h4 : stepR (some (p, part)) (lineH s) = stepM p part (s.takeWhile (· != 10)) := by
          show (if (lineH s).getLast? = some 10 then stepM p part (sufC (lineH s)) else none) = _
          rw [if_pos h1, h2]
        rw [h4] at h
        rw [readF, if_neg he, if_neg hd, linesL, if_neg he, List.length_cons]
        cases hm : stepM p part (s.takeWhile (· != 10)) with
        | none => rw [hm, stepR_none] at h; cases h
        | some st =>
          obtain ⟨p2, part2⟩ := st
          rw [hm] at h
          have h5 := readF_all f (lineT s) (n + 1) p2 part2 q part' (by omega) h
          simp only []
          rw [← h3, h5]
          by_cases h6 : part' = 4
          · rw [if_pos h6, if_pos h6]
          · rw [if_neg h6, if_neg h6]
            congr 1
            omega
/-- A line is not. -/
theorem readF_line_bad : ∀ (f : Nat) (s : List UInt8) (n : Nat) (p : Pn) (part : Nat) (pre : List (List UInt8)) (x : List UInt8) (st : Pn × Nat), s.length ≤ f → (pre ++ [x]) <+: linesL f s → pre.foldl stepR (some (p, part)) = some st → stepR (some st) x = none →
    readF f s n p part = .fault (n + pre.length + 1)
  | 0, s, n, p, part, pre, x, st, hs, hp, h1, h2 => by
    rw [linesL] at hp
    have := hp.length_le
    simp at this
  | f + 1, s, n, p, part, pre, x, st, hs, hp, h1, h2 => by
    by_cases he : s = []
    · subst he
      rw [linesL_nil] at hp
      have := hp.length_le
      simp at this
    · have hlt := lineT_lt he
      rw [linesL, if_neg he] at hp
      rw [readF, if_neg he]
      have hstep : s.dropWhile (· != 10) ≠ [] → stepR (some (p, part)) (lineH s) = stepM p part (s.takeWhile (· != 10)) := fun hd => by
        obtain ⟨e1, e2, _⟩ := line_yes hd
        show (if (lineH s).getLast? = some 10 then stepM p part (sufC (lineH s)) else none) = _
        rw [if_pos e1, e2]
      cases pre with
      | nil =>
        obtain ⟨t, ht⟩ := hp
        obtain ⟨rfl, _⟩ := List.cons.inj ht
        obtain rfl := Option.some.inj h1
        by_cases hd : s.dropWhile (· != 10) = []
        · rw [if_pos hd]; rfl
        · rw [if_neg hd]
          rw [hstep hd] at h2
          rw [h2]
          rfl
      | cons y pre =>
        obtain ⟨t, ht⟩ := hp
        obtain ⟨e9, ht2⟩ := List.cons.inj ht
        subst e9
        rw [List.foldl_cons] at h1
        by_cases hd : s.dropWhile (· != 10) = []
        · have h3 : stepR (some (p, part)) (lineH s) = none := if_neg (line_no hd)
          rw [h3, stepR_none] at h1
          cases h1
        · rw [if_neg hd]
          rw [hstep hd] at h1
          cases hm : stepM p part (s.takeWhile (· != 10)) with
          | none => rw [hm, stepR_none] at h1; cases h1
          | some s2 =>
            obtain ⟨p2, part2⟩ := s2
            rw [hm] at h1
            have h5 := readF_line_bad f (lineT s) (n + 1) p2 part2 pre x st (by omega) ⟨t, ht2⟩ h1 h2
            simp only []
            rw [← (line_yes hd).2.2, h5, List.length_cons]
            congr 1
            omega
end Go.Proofs.YthlckipcgogogaaGreatDoor
/- Every code and number that the reader lays is in range. -/
namespace Go.Proofs.YthlckipcgogogaaGreatDoor
set_option linter.unusedVariables false
open Go.RowKit

theorem numV_ten : ∀ l : List UInt8, l.all digitB = true → numV l < 10 ^ l.length
  | [], _ => by simp [numV]
  | c :: l, h => by
    simp only [List.all_cons, Bool.and_eq_true] at h
    obtain ⟨k, hk, rfl⟩ := digit_of h.1
    have hv : (48 + UInt8.ofNat k : UInt8).toNat - 48 = k := by
      have : ∀ i : Fin 10, (48 + UInt8.ofNat i.val : UInt8).toNat - 48 = i.val := by decide
      exact this ⟨k, hk⟩
    have ih := numV_ten l h.2
    rw [numV_cons, hv, List.length_cons, Nat.pow_succ]
    have : k * 10 ^ l.length ≤ 9 * 10 ^ l.length := Nat.mul_le_mul_right _ (by omega)
    omega
theorem numO_lt {l : List UInt8} {n : Nat} (h : numO l = some n) : n < 1000000 := by
  unfold numO at h
  split at h
  · rename_i hs
    obtain rfl := Option.some.inj h
    simp only [numS, Bool.and_eq_true, Bool.or_eq_true, decide_eq_true_eq, beq_iff_eq, bne_iff_ne] at hs
    obtain ⟨⟨⟨h1, h2⟩, h3⟩, h4⟩ := hs
    have h5 := numV_ten l h4
    have h6 : 10 ^ l.length ≤ 10 ^ 6 := Nat.pow_le_pow_right (by decide) h2
    omega
  · cases h
/-- All that a plan holds is in range. -/
def InR (p : Pn) : Prop := (∀ x ∈ p.P, 0 ≤ x.1 ∧ x.1 ≤ 65535) ∧ (∀ x ∈ p.L, (0 ≤ x.A ∧ x.A ≤ 65535) ∧ (0 ≤ x.B ∧ x.B ≤ 65535) ∧ (0 ≤ x.C ∧ x.C ≤ 255) ∧ (-9223372036854775808 ≤ x.D ∧ x.D ≤ 9223372036854775807)) ∧
  (0 ≤ p.rate ∧ p.rate < 1000000) ∧ (0 ≤ p.room ∧ p.room < 1000000) ∧ (0 ≤ p.m0 ∧ p.m0 < 1000000) ∧ (0 ≤ p.m1 ∧ p.m1 < 1000000) ∧ (0 ≤ p.m2 ∧ p.m2 < 1000000)
theorem placeM_rng {p q : Pn} {r : List (List UInt8)} (hp : InR p) (h : placeM p r = some q) : InR q := by
  by_cases h2 : r.length = 2
  · obtain ⟨x, y, rfl⟩ := len2 h2
    unfold placeM at h
    simp only at h
    cases hx : pointO x with
    | none => rw [hx] at h; cases h
    | some v =>
      rw [hx] at h
      simp only at h
      have hv := (pointO_some hx).1
      split at h
      · obtain rfl := Option.some.inj h
        refine ⟨fun z hz => ?_, hp.2⟩
        rcases List.mem_append.1 hz with hz | hz
        · exact hp.1 z hz
        · obtain rfl := List.mem_singleton.1 hz
          simp only; omega
      · split at h
        · obtain rfl := Option.some.inj h
          refine ⟨fun z hz => ?_, hp.2⟩
          rcases List.mem_append.1 hz with hz | hz
          · exact hp.1 z hz
          · obtain rfl := List.mem_singleton.1 hz
            simp only; omega
        · cases h
  · rw [placeM_len h2] at h; cases h
theorem lineM_rng {p q : Pn} {r : List (List UInt8)} (hp : InR p) (h : lineM p r = some q) : InR q := by
  by_cases h2 : r.length = 4
  · obtain ⟨x, y, z, u, rfl⟩ := len4 h2
    unfold lineM at h
    simp only at h
    cases hx : pointO x with
    | none => rw [hx] at h; cases h
    | some vx =>
      cases hy : pointO y with
      | none => rw [hx, hy] at h; cases h
      | some vy =>
        cases hz : numO z with
        | none => rw [hx, hy, hz] at h; cases h
        | some vz =>
          cases hu : numO u with
          | none => rw [hx, hy, hz, hu] at h; cases h
          | some vu =>
            rw [hx, hy, hz, hu] at h
            simp only at h
            have h1 := (pointO_some hx).1
            have h3 := (pointO_some hy).1
            have h4 := numO_lt hu
            split at h
            · obtain rfl := Option.some.inj h
              refine ⟨hp.1, fun l hl => ?_, hp.2.2⟩
              rcases List.mem_append.1 hl with hl | hl
              · exact hp.2.1 l hl
              · obtain rfl := List.mem_singleton.1 hl
                simp only; omega
            · cases h
  · rw [lineM_len h2] at h; cases h
theorem stepM_rng {p q : Pn} {part part' : Nat} {c : List UInt8} (hp : InR p) (h : stepM p part c = some (q, part')) : InR q := by
  unfold stepM at h
  split at h
  · cases h
  · split at h
    · split at h
      · cases hm : placeM p _ with
        | none => rw [hm] at h; cases h
        | some m =>
          rw [hm] at h
          obtain ⟨rfl, rfl⟩ := Prod.mk.inj (Option.some.inj h)
          exact placeM_rng hp hm
      · cases h
    · split at h
      · split at h
        · cases hm : lineM p _ with
          | none => rw [hm] at h; cases h
          | some m =>
            rw [hm] at h
            obtain ⟨rfl, rfl⟩ := Prod.mk.inj (Option.some.inj h)
            exact lineM_rng hp hm
        · cases h
      · split at h
        · split at h
          · split at h
            · rename_i a _
              cases hm : numO a with
              | none => rw [hm] at h; cases h
              | some m =>
                rw [hm] at h
                obtain ⟨rfl, rfl⟩ := Prod.mk.inj (Option.some.inj h)
                have := numO_lt hm
                exact ⟨hp.1, hp.2.1, by simp only; omega, hp.2.2.2⟩
            · cases h
          · cases h
        · split at h
          · split at h
            · split at h
              · rename_i a _
                cases hm : numO a with
                | none => rw [hm] at h; cases h
                | some m =>
                  rw [hm] at h
                  obtain ⟨rfl, rfl⟩ := Prod.mk.inj (Option.some.inj h)
                  have := numO_lt hm
                  exact ⟨hp.1, hp.2.1, hp.2.2.1, by simp only; omega, hp.2.2.2.2⟩
              · cases h
            · cases h
          · split at h
            · split at h
              · split at h
                · split at h
                  · rename_i x y z hx hy hz
                    obtain ⟨rfl, rfl⟩ := Prod.mk.inj (Option.some.inj h)
                    have h1 := numO_lt hx
                    have h2 := numO_lt hy
                    have h3 := numO_lt hz
                    exact ⟨hp.1, hp.2.1, hp.2.2.1, hp.2.2.2.1, by simp only; omega, by simp only; omega, by simp only; omega⟩
                  · cases h
                · cases h
              · cases h
            · cases h
theorem rdS_rng0 : ∀ (l : List (List UInt8)) (st : Option (Pn × Nat)), (∀ p part, st = some (p, part) → InR p) → ∀ p part, l.foldl stepR st = some (p, part) → InR p
  | [], st, hs, p, part, h => hs p part h
  | x :: l, st, hs, p, part, h => rdS_rng0 l (stepR st x) (fun q part' hq => by
      cases st with
      | none => cases hq
      | some s =>
        have h1 := hs s.1 s.2 rfl
        change (if x.getLast? = some 10 then stepM s.1 s.2 (sufC x) else none) = some (q, part') at hq
        split at hq
        · exact stepM_rng h1 hq
        · cases hq) p part h
theorem rdS_rng (l : List (List UInt8)) (p : Pn) (part : Nat) (h : rdS l = some (p, part)) : InR p :=
  rdS_rng0 l (some (emptyPn, 0)) (fun q part' hq => by
    obtain ⟨rfl, rfl⟩ := Prod.mk.inj (Option.some.inj hq)
    unfold InR emptyPn
    simp) p part h
end Go.Proofs.YthlckipcgogogaaGreatDoor
/- slices.Clip of places and of lines; rows that stay where their cells stay. -/
namespace Go.Proofs.YthlckipcgogogaaGreatDoor
set_option linter.unusedVariables false
open Go.RowKit

theorem clipPl_any (a : Option Addr) (n c : Nat) (w : World) (hnc : n ≤ c) (_hc : c ≤ maxLen) :
    Calls Tryz.prog 39 #[.slice a n c] w fun e w' => e = .returned (.slice a n n) ∧ w = w' := by
  have h1 : (n : Int) ≤ (c : Int) := by omega
  go_enter Tryz.func39, Tryz.ntmps39
  go_wp2
  go_ret
  exact ⟨rfl, rfl⟩
theorem clipLn_any (a : Option Addr) (n c : Nat) (w : World) (hnc : n ≤ c) (_hc : c ≤ maxLen) :
    Calls Tryz.prog 40 #[.slice a n c] w fun e w' => e = .returned (.slice a n n) ∧ w = w' := by
  have h1 : (n : Int) ≤ (c : Int) := by omega
  go_enter Tryz.func40, Tryz.ntmps40
  go_wp2
  go_ret
  exact ⟨rfl, rfl⟩
theorem prow_keep {w w' : World} {a : Option Addr} {n c : Nat} {P : List (Int × Bool)} (h : PRow w a n c P) (hk : ∀ z : Addr, a = some z → ∀ i v, w.cell? ⟨z.block, i, none⟩ = some v → w'.cell? ⟨z.block, i, none⟩ = some v) : PRow w' a n n P := by
  refine ⟨h.len, Nat.le_refl _, Nat.le_trans h.le h.max, h.wf, ?_, fun ha => by have h1 := h.isNil ha; have h2 := h.le; omega⟩
  rcases h.cells with h0 | ⟨b, off, rfl, hc⟩
  · exact .inl h0
  · exact .inr ⟨b, off, rfl, fun i hi => ⟨hk _ rfl _ _ (hc i hi).1, hk _ rfl _ _ (hc i hi).2⟩⟩
theorem lrow_keep {w w' : World} {a : Option Addr} {n c : Nat} {L : List Ln} (h : LRow w a n c L) (hk : ∀ z : Addr, a = some z → ∀ i v, w.cell? ⟨z.block, i, none⟩ = some v → w'.cell? ⟨z.block, i, none⟩ = some v) : LRow w' a n n L := by
  refine ⟨h.len, Nat.le_refl _, Nat.le_trans h.le h.max, h.wf, ?_, fun ha => by have h1 := h.isNil ha; have h2 := h.le; omega⟩
  rcases h.cells with h0 | ⟨b, off, rfl, hc⟩
  · exact .inl h0
  · exact .inr ⟨b, off, rfl, fun i hi => ⟨hk _ rfl _ _ (hc i hi).1, hk _ rfl _ _ (hc i hi).2.1, hk _ rfl _ _ (hc i hi).2.2.1, hk _ rfl _ _ (hc i hi).2.2.2⟩⟩
end Go.Proofs.YthlckipcgogogaaGreatDoor
