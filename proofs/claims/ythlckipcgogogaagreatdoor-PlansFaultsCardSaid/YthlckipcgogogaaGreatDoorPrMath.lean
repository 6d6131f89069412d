import Derived.Test.YthlckipcgogogaaGreatDoorLbText
import Derived.Test.YthlckipcgogogaaGreatDoorPlN
/- The text of a plan as plain data: how it is read line by line, and that reading and writing are one another's inverse. -/
namespace Go.Proofs.YthlckipcgogogaaGreatDoor
set_option linter.unusedVariables false

def placeW : List UInt8 := [112, 108, 97, 99, 101]
def transferW : List UInt8 := [116, 114, 97, 110, 115, 102, 101, 114]
def endW : List UInt8 := [101, 110, 100]
def lineW : List UInt8 := [108, 105, 110, 101]
def rateW : List UInt8 := [114, 97, 116, 101]
def roomW : List UInt8 := [114, 111, 111, 109]
def marksW : List UInt8 := [109, 97, 114, 107, 115]
/-- The words of a line. -/
def wds : List UInt8 → List (List UInt8)
  | [] => [[]]
  | c :: l => if c = 32 then [] :: wds l else match wds l with | [] => [[c]] | w :: r => (c :: w) :: r
/-- Words joined by a space. -/
def unw : List (List UInt8) → List UInt8
  | [] => []
  | [w] => w
  | w :: x :: r => w ++ 32 :: unw (x :: r)
theorem wds_ne : ∀ l, wds l ≠ []
  | [] => by simp [wds]
  | c :: l => by
    unfold wds
    split
    · simp
    · cases wds l <;> simp
theorem unw_wds : ∀ l, unw (wds l) = l
  | [] => rfl
  | c :: l => by
    have ih := unw_wds l
    have hne := wds_ne l
    unfold wds
    by_cases hc : c = 32
    · rw [if_pos hc]
      cases hw : wds l with
      | nil => exact absurd hw hne
      | cons w r =>
        rw [hw] at ih
        show [] ++ 32 :: unw (w :: r) = _
        rw [ih, hc]; rfl
    · rw [if_neg hc]
      cases hw : wds l with
      | nil => exact absurd hw hne
      | cons w r =>
        rw [hw] at ih
        cases r with
        | nil => show c :: w = _; rw [show w = l from ih]
        | cons x r => show (c :: w) ++ 32 :: unw (x :: r) = _; rw [List.cons_append, show w ++ 32 :: unw (x :: r) = l from ih]
def noS (w : List UInt8) : Bool := w.all (· != 32)
theorem wds_one : ∀ w : List UInt8, noS w = true → wds w = [w]
  | [], _ => rfl
  | c :: w, h => by
    simp only [noS, List.all_cons, Bool.and_eq_true, bne_iff_ne, ne_eq] at h
    unfold wds
    rw [if_neg h.1, wds_one w h.2]
theorem wds_more : ∀ (w l : List UInt8), noS w = true → wds (w ++ 32 :: l) = w :: wds l
  | [], l, _ => by show wds (32 :: l) = _; rw [wds, if_pos rfl]
  | c :: w, l, h => by
    simp only [noS, List.all_cons, Bool.and_eq_true, bne_iff_ne, ne_eq] at h
    show wds (c :: (w ++ 32 :: l)) = _
    rw [wds, if_neg h.1, wds_more w l h.2]
theorem wds_unw : ∀ ws : List (List UInt8), ws ≠ [] → (∀ w ∈ ws, noS w = true) → wds (unw ws) = ws
  | [], h, _ => absurd rfl h
  | [w], _, h => wds_one w (h w (by simp))
  | w :: x :: r, _, h => by
    show wds (w ++ 32 :: unw (x :: r)) = _
    rw [wds_more w _ (h w (by simp)), wds_unw (x :: r) (by simp) fun y hy => h y (List.mem_cons_of_mem _ hy)]
/-- The number of a word. -/
def numS (l : List UInt8) : Bool := decide (1 ≤ l.length) && decide (l.length ≤ 6) && (l.length == 1 || l.getD 0 0 != 48) && l.all digitB
def numO (l : List UInt8) : Option Nat := if numS l then some (numV l) else none
theorem numV_fold : ∀ (l : List UInt8) (a : Nat), l.foldl (fun a c => 10 * a + (c.toNat - 48)) a = a * 10 ^ l.length + numV l
  | [], a => by simp [numV]
  | c :: l, a => by
    show l.foldl _ (10 * a + (c.toNat - 48)) = a * 10 ^ (l.length + 1) + l.foldl _ (10 * 0 + (c.toNat - 48))
    rw [numV_fold l (10 * a + (c.toNat - 48)), numV_fold l (10 * 0 + (c.toNat - 48)), Nat.pow_succ]
    generalize c.toNat - 48 = d
    generalize 10 ^ l.length = T
    have e : (10 * a + d) * T = a * (T * 10) + d * T := by rw [Nat.add_mul, Nat.mul_comm 10 a, Nat.mul_assoc, Nat.mul_comm 10 T]
    have e0 : (10 * 0 + d) * T = d * T := by simp
    omega
theorem numV_cons (c : UInt8) (l : List UInt8) : numV (c :: l) = (c.toNat - 48) * 10 ^ l.length + numV l := by
  show l.foldl _ (10 * 0 + (c.toNat - 48)) = _
  rw [numV_fold]; simp
theorem numO_small {l : List UInt8} {n : Nat} (h : numO l = some n) (hn : n < 256) : l = numL n := by
  unfold numO at h
  split at h
  · rename_i hs
    obtain rfl := Option.some.inj h
    simp only [numS, Bool.and_eq_true, Bool.or_eq_true, decide_eq_true_eq, beq_iff_eq, bne_iff_ne] at hs
    obtain ⟨⟨⟨h1, h2⟩, h3⟩, h4⟩ := hs
    have h5 : l.length ≤ 3 := by
      match l, h1, h3, h4, hn with
      | [c], _, _, _, _ => simp
      | c :: d :: r, _, h3, h4, hn =>
        simp only [List.length_cons] at h3 ⊢
        have hc0 : c ≠ 48 := by
          rcases h3 with h3 | h3
          · omega
          · simpa using h3
        simp only [List.all_cons, Bool.and_eq_true] at h4
        obtain ⟨k, hk, rfl⟩ := digit_of h4.1
        have hk0 : k ≠ 0 := zero_byte k hk hc0
        have hv : (48 + UInt8.ofNat k : UInt8).toNat - 48 = k := by
          have : ∀ i : Fin 10, (48 + UInt8.ofNat i.val : UInt8).toNat - 48 = i.val := by decide
          exact this ⟨k, hk⟩
        rw [numV_cons, hv] at hn
        by_cases hr : r.length ≤ 1
        · omega
        · have : 10 ^ 3 ≤ 10 ^ (d :: r).length := Nat.pow_le_pow_right (by decide) (by simp; omega)
          have : 1 * 10 ^ (d :: r).length ≤ k * 10 ^ (d :: r).length := Nat.mul_le_mul_right _ (by omega)
          omega
    have hg : goodB l = true := by
      simp only [goodB, shapeB, Bool.and_eq_true, Bool.or_eq_true, decide_eq_true_eq, beq_iff_eq, bne_iff_ne]
      exact ⟨⟨⟨h1, h5⟩, h3⟩, h4⟩
    exact (numL_of_good hg).symm
  · cases h
theorem numO_numL {n : Nat} (h : n < 256) : numO (numL n) = some n := by
  obtain ⟨g1, g2, _, _⟩ := good_numL ⟨n, h⟩
  simp only at g1 g2
  unfold numO
  rw [if_pos, g2]
  simp only [goodB, shapeB, Bool.and_eq_true, decide_eq_true_eq] at g1
  obtain ⟨⟨⟨h1, h2⟩, h3⟩, h4⟩ := g1
  simp only [numS, Bool.and_eq_true, decide_eq_true_eq]
  exact ⟨⟨⟨h1, by omega⟩, h3⟩, h4⟩
/-- The point code of a word. -/
def pointO (l : List UInt8) : Option Nat := if parseE l = 0 then some (parseN l) else none
theorem pointO_pcL {p : Nat} (h : p ≤ 16383) : pointO (pcL p) = some p := by
  obtain ⟨h1, h2⟩ := parse_text p h
  unfold pointO; rw [if_pos h1, h2]
theorem pointO_some {l : List UInt8} {p : Nat} (h : pointO l = some p) : p ≤ 16383 ∧ pcL p = l := by
  unfold pointO at h
  split at h
  · rename_i he
    obtain rfl := Option.some.inj h
    obtain ⟨h1, h2, _⟩ := text_parse he
    exact ⟨h1, h2⟩
  · cases h
/-- What the words behind the first one of a place, of a line, say. -/
def placeM (p : Pn) : List (List UInt8) → Option Pn
  | [a, b] => match pointO a with
    | some x => if b = transferW then some { p with P := p.P ++ [((x : Int), true)] } else if b = endW then some { p with P := p.P ++ [((x : Int), false)] } else none
    | none => none
  | _ => none
def lineM (p : Pn) : List (List UInt8) → Option Pn
  | [a, b, c, d] => match pointO a, pointO b, numO c, numO d with
    | some x, some y, some k, some t => if k ≤ 255 then some { p with L := p.L ++ [⟨x, y, k, t⟩] } else none
    | _, _, _, _ => none
  | _ => none
/-- A line behind a state: the plan so far, and the part of the last line. -/
def stepM (p : Pn) (part : Nat) (c : List UInt8) : Option (Pn × Nat) :=
  match wds c with
  | [] => none
  | w :: r =>
    if w = placeW then if part ≤ 0 then (placeM p r).map fun q => (q, 0) else none
    else if w = lineW then if part ≤ 1 then (lineM p r).map fun q => (q, 1) else none
    else if w = rateW then if part < 2 then match r with
        | [a] => (numO a).map fun (n : Nat) => ({ p with rate := (n : Int) }, 2)
        | _ => none
      else none
    else if w = roomW then if part = 2 then match r with
        | [a] => (numO a).map fun (n : Nat) => ({ p with room := (n : Int) }, 3)
        | _ => none
      else none
    else if w = marksW then if part = 3 then match r with
        | [a, b, d] => match numO a, numO b, numO d with
          | some x, some y, some z => some ({ p with m0 := (x : Int), m1 := (y : Int), m2 := (z : Int) }, 4)
          | _, _, _ => none
        | _ => none
      else none
    else none
/-- The lines of a plan's text. -/
def plText (x : Int × Bool) : List UInt8 := unw [placeW, pcL x.1.toNat, if x.2 then transferW else endW] ++ [10]
def lnText (x : Ln) : List UInt8 := unw [lineW, pcL x.A.toNat, pcL x.B.toNat, numL x.C.toNat, numL x.D.toNat] ++ [10]
def partText (p : Pn) (part : Nat) : List UInt8 :=
  p.P.flatMap plText ++ p.L.flatMap lnText ++ (if 2 ≤ part then unw [rateW, numL p.rate.toNat] ++ [10] else []) ++ (if 3 ≤ part then unw [roomW, numL p.room.toNat] ++ [10] else []) ++ (if 4 ≤ part then unw [marksW, numL p.m0.toNat, numL p.m1.toNat, numL p.m2.toNat] ++ [10] else [])
/-- The numbers are octets. -/
structure Small (p : Pn) (part : Nat) : Prop where
  ln : ∀ x ∈ p.L, x.C < 256 ∧ x.D < 256
  n2 : 2 ≤ part → p.rate < 256
  n3 : 3 ≤ part → p.room < 256
  n4 : 4 ≤ part → p.m0 < 256 ∧ p.m1 < 256 ∧ p.m2 < 256
/-- Before lines there are no lines. -/
def Part (p : Pn) (part : Nat) : Prop := part = 0 → p.L = []
theorem place_L {p q : Pn} {r : List (List UInt8)} (h : placeM p r = some q) : q.L = p.L := by
  unfold placeM at h
  split at h
  · split at h
    · split at h
      · cases h; rfl
      · split at h
        · cases h; rfl
        · cases h
    · cases h
  · cases h
theorem step_zero {p q : Pn} {part : Nat} {c : List UInt8} (h : stepM p part c = some (q, 0)) : part = 0 ∧ q.L = p.L := by
  unfold stepM at h
  split at h
  · cases h
  · split at h
    · split at h
      · rename_i h0
        rw [Option.map_eq_some_iff] at h
        obtain ⟨x, hx, he⟩ := h
        cases he
        exact ⟨by omega, place_L hx⟩
      · cases h
    · split at h
      · split at h
        · rw [Option.map_eq_some_iff] at h
          obtain ⟨x, hx, he⟩ := h
          simp at he
        · cases h
      · split at h
        · split at h
          · split at h
            · rw [Option.map_eq_some_iff] at h
              obtain ⟨x, hx, he⟩ := h
              simp at he
            · cases h
          · cases h
        · split at h
          · split at h
            · split at h
              · rw [Option.map_eq_some_iff] at h
                obtain ⟨x, hx, he⟩ := h
                simp at he
              · cases h
            · cases h
          · split at h
            · split at h
              · split at h
                · split at h
                  · simp at h
                  · cases h
                · cases h
              · cases h
            · cases h
theorem step_part {p q : Pn} {part part' : Nat} {c : List UInt8} (h : stepM p part c = some (q, part')) (hp : Part p part) : Part q part' := by
  intro e
  subst e
  obtain ⟨h1, h2⟩ := step_zero h
  rw [h2]; exact hp h1
theorem step_text {p q : Pn} {part part' : Nat} {c : List UInt8} (h : stepM p part c = some (q, part')) (hp : Part p part) (hs : Small q part') :
    Small p part ∧ Part q part' ∧ partText q part' = partText p part ++ (c ++ [10]) := by
  have hc := unw_wds c
  unfold stepM at h
  cases hw : wds c with
  | nil => exact absurd hw (wds_ne c)
  | cons w r =>
    rw [hw] at h hc
    simp only at h
    split at h
    · rename_i e
      subst e
      split at h
      · rename_i h0
        obtain rfl : part = 0 := by omega
        match r, h, hc with
        | [a, b], h, hc =>
          simp only [placeM] at h
          cases hx : pointO a with
          | none => rw [hx] at h; simp at h
          | some x =>
            obtain ⟨_, hx2⟩ := pointO_some hx
            rw [hx] at h
            simp only at h
            split at h
            · rename_i e
              subst e
              simp only [Option.map_some, Option.some.injEq, Prod.mk.injEq] at h
              obtain ⟨rfl, rfl⟩ := h
              have hL := hp rfl
              refine ⟨⟨hs.ln, by omega, by omega, by omega⟩, fun _ => hL, ?_⟩
              rw [← hc]
              simp [partText, hL, plText, hx2, List.flatMap_append]
            · split at h
              · rename_i e
                subst e
                simp only [Option.map_some, Option.some.injEq, Prod.mk.injEq] at h
                obtain ⟨rfl, rfl⟩ := h
                have hL := hp rfl
                refine ⟨⟨hs.ln, by omega, by omega, by omega⟩, fun _ => hL, ?_⟩
                rw [← hc]
                simp [partText, hL, plText, hx2, List.flatMap_append]
              · simp at h
        | [], h, _ => simp [placeM] at h
        | [_], h, _ => simp [placeM] at h
        | _ :: _ :: _ :: _, h, _ => simp [placeM] at h
      · cases h
    · split at h
      · rename_i e
        subst e
        split at h
        · rename_i h0
          match r, h, hc with
          | [a, b, k, d], h, hc =>
            simp only [lineM] at h
            cases hx : pointO a with
            | none => rw [hx] at h; simp at h
            | some x =>
              cases hy : pointO b with
              | none => rw [hx, hy] at h; simp at h
              | some y =>
                cases hk : numO k with
                | none => rw [hx, hy, hk] at h; simp at h
                | some kk =>
                  cases hd : numO d with
                  | none => rw [hx, hy, hk, hd] at h; simp at h
                  | some t =>
                    obtain ⟨_, hx2⟩ := pointO_some hx
                    obtain ⟨_, hy2⟩ := pointO_some hy
                    rw [hx, hy, hk, hd] at h
                    simp only at h
                    split at h
                    · simp only [Option.map_some, Option.some.injEq, Prod.mk.injEq] at h
                      obtain ⟨rfl, rfl⟩ := h
                      have hsx := hs.ln ⟨x, y, kk, t⟩ (by simp)
                      have e1 := numO_small hk (by have := hsx.1; simp at this; omega)
                      have e2 := numO_small hd (by have := hsx.2; simp at this; omega)
                      refine ⟨⟨fun z hz => hs.ln z (by simp [hz]), by omega, by omega, by omega⟩, fun h9 => absurd h9 (by omega), ?_⟩
                      rw [← hc, e1, e2]
                      simp [partText, lnText, hx2, hy2, List.flatMap_append, show ¬ 2 ≤ part by omega, show ¬ 3 ≤ part by omega, show ¬ 4 ≤ part by omega]
                    · simp at h
          | [], h, _ => simp [lineM] at h
          | [_], h, _ => simp [lineM] at h
          | [_, _], h, _ => simp [lineM] at h
          | [_, _, _], h, _ => simp [lineM] at h
          | _ :: _ :: _ :: _ :: _ :: _, h, _ => simp [lineM] at h
        · cases h
      · split at h
        · rename_i e
          subst e
          split at h
          · rename_i h0
            match r, h, hc with
            | [a], h, hc =>
              simp only at h
              cases hx : numO a with
              | none => rw [hx] at h; simp at h
              | some x =>
                rw [hx] at h
                simp only [Option.map_some, Option.some.injEq, Prod.mk.injEq] at h
                obtain ⟨rfl, rfl⟩ := h
                have e1 := numO_small hx (by have := hs.n2 (by omega); simp at this; omega)
                refine ⟨⟨hs.ln, by omega, by omega, by omega⟩, fun h9 => absurd h9 (by omega), ?_⟩
                rw [← hc, e1]
                simp [partText, show ¬ 2 ≤ part by omega, show ¬ 3 ≤ part by omega, show ¬ 4 ≤ part by omega]
            | [], h, _ => simp at h
            | _ :: _ :: _, h, _ => simp at h
          · cases h
        · split at h
          · rename_i e
            subst e
            split at h
            · rename_i h0
              subst h0
              match r, h, hc with
              | [a], h, hc =>
                simp only at h
                cases hx : numO a with
                | none => rw [hx] at h; simp at h
                | some x =>
                  rw [hx] at h
                  simp only [Option.map_some, Option.some.injEq, Prod.mk.injEq] at h
                  obtain ⟨rfl, rfl⟩ := h
                  have e1 := numO_small hx (by have := hs.n3 (by omega); simp at this; omega)
                  refine ⟨⟨hs.ln, fun _ => hs.n2 (by omega), by omega, by omega⟩, fun h9 => absurd h9 (by omega), ?_⟩
                  rw [← hc, e1]
                  simp [partText]
              | [], h, _ => simp at h
              | _ :: _ :: _, h, _ => simp at h
            · cases h
          · split at h
            · rename_i e
              subst e
              split at h
              · rename_i h0
                subst h0
                match r, h, hc with
                | [a, b, d], h, hc =>
                  simp only at h
                  cases hx : numO a with
                  | none => rw [hx] at h; simp at h
                  | some x =>
                    cases hy : numO b with
                    | none => rw [hx, hy] at h; simp at h
                    | some y =>
                      cases hz : numO d with
                      | none => rw [hx, hy, hz] at h; simp at h
                      | some z =>
                        rw [hx, hy, hz] at h
                        simp only [Option.some.injEq, Prod.mk.injEq] at h
                        obtain ⟨rfl, rfl⟩ := h
                        have h4 := hs.n4 (by omega)
                        simp only at h4
                        have e1 := numO_small hx (by omega)
                        have e2 := numO_small hy (by omega)
                        have e3 := numO_small hz (by omega)
                        refine ⟨⟨hs.ln, fun _ => hs.n2 (by omega), fun _ => hs.n3 (by omega), by omega⟩, fun h9 => absurd h9 (by omega), ?_⟩
                        rw [← hc, e1, e2, e3]
                        simp [partText]
                | [], h, _ => simp at h
                | [_], h, _ => simp at h
                | [_, _], h, _ => simp at h
                | _ :: _ :: _ :: _ :: _, h, _ => simp at h
              · cases h
            · cases h
/-- What reading gives: a fault at a line, or the plan behind the last one. -/
inductive RdM
  | fault (line : Nat)
  | plan (p : Pn)
/-- Reading on behind a state, some lines having come. -/
def readF : Nat → List UInt8 → Nat → Pn → Nat → RdM
  | 0, s, n, p, part => if s = [] ∧ part = 4 then .plan p else .fault (n + 1)
  | f + 1, s, n, p, part =>
    if s = [] then (if part = 4 then .plan p else .fault (n + 1)) else
    if s.dropWhile (· != 10) = [] then .fault (n + 1) else
    match stepM p part (s.takeWhile (· != 10)) with
    | none => .fault (n + 1)
    | some (q, part') => readF f ((s.dropWhile (· != 10)).drop 1) (n + 1) q part'
theorem nl_split : ∀ s : List UInt8, s.dropWhile (· != 10) ≠ [] → s = s.takeWhile (· != 10) ++ (10 :: (s.dropWhile (· != 10)).drop 1)
  | [], h => absurd rfl h
  | c :: s, h => by
    by_cases hc : c = 10
    · subst hc; rfl
    · have hc' : (c != 10) = true := by simpa using hc
      simp only [List.dropWhile_cons, List.takeWhile_cons, hc', if_true] at h ⊢
      rw [List.cons_append, ← nl_split s h]
/-- A text that is accepted, its numbers being octets, is the one that is written. -/
theorem read_text : ∀ (f : Nat) (s : List UInt8) (n : Nat) (p : Pn) (part : Nat) (q : Pn), s.length ≤ f → readF f s n p part = .plan q → Part p part → Small q 4 → Small p part ∧ partText q 4 = partText p part ++ s
  | 0, s, n, p, part, q, hf, h, hp, hs => by
    obtain rfl : s = [] := List.eq_nil_of_length_eq_zero (by omega)
    unfold readF at h
    split at h
    · rename_i h4
      replace h4 := h4.2
      cases h
      subst h4
      exact ⟨hs, by simp⟩
    · cases h
  | f + 1, s, n, p, part, q, hf, h, hp, hs => by
    unfold readF at h
    split at h
    · rename_i h0
      subst h0
      split at h
      · rename_i h4
        cases h
        subst h4
        exact ⟨hs, by simp⟩
      · cases h
    · rename_i h0
      split at h
      · cases h
      · rename_i h1
        have hsp := nl_split s h1
        split at h
        · cases h
        · rename_i q' part' hst
          have hlen : ((s.dropWhile (· != 10)).drop 1).length ≤ f := by
            have := congrArg List.length hsp
            rw [List.length_append, List.length_cons] at this
            omega
          -- first the rest, then this line
          have hp' : Part q' part' := step_part hst hp
          obtain ⟨hs', ht⟩ := read_text f _ _ q' part' q hlen h hp' hs
          obtain ⟨a1, _, a3⟩ := step_text hst hp hs'
          refine ⟨a1, ?_⟩
          rw [ht, a3]
          conv => rhs; rw [hsp]
          simp
end Go.Proofs.YthlckipcgogogaaGreatDoor
