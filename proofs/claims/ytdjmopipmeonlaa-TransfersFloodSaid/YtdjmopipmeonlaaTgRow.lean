/- Joined: TgNet TgTabs TgRow. -/
import Derived.Test.YtdjmopipmeonlaaTgMath
/- Tables that hear each other: a round of telling settles the next height. -/
namespace Go.Proofs.Ytdjmopipmeonlaa
set_option linter.unusedVariables false
set_option linter.unusedVariables false
open Go.RowKit Go.Maps

theorem Inv.meN {p : Pn} {i : Nat} {T : Tb} (hv : ValidPl p) (h : Inv p i T) : pc p.P i ∉ T.N := fun h9 => by
  rw [h.N, mem_nbrs hv] at h9
  unfold nearN at h9
  obtain ⟨l, hl, hj⟩ := List.countP_pos_iff.1 h9
  have := (line_of_valid hv hl).1
  simp only [joins, Bool.or_eq_true, Bool.and_eq_true, decide_eq_true_eq] at hj
  omega
theorem Inv.place {x : Nn} {p : Pn} {n m i : Nat} {T : Tb} (hp : PF x p n m) (h : Inv p i T) {u : Int} (hu : u ∈ T.N) : ∃ j, j < n ∧ u = pc p.P j ∧ j ≠ i := by
  have hu2 := hu
  rw [h.N] at hu2
  obtain ⟨j, hj, e, _⟩ := nbrs_place hp.valid hu2
  rw [hp.len] at hj
  refine ⟨j, hj, e.symm, fun e2 => ?_⟩
  rw [← e, e2] at hu
  exact h.meN hp.valid hu
theorem Inv.dest {x : Nn} {p : Pn} {n m i : Nat} {T : Tb} (hp : PF x p n m) (h : Inv p i T) {y : Int} (hy : y ∈ T.D) : ∃ d, d < n ∧ y = pc p.P d ∧ d ≠ i := by
  rw [h.D] at hy
  obtain ⟨h1, h2⟩ := mem_dests.1 hy
  unfold codesP at h1
  obtain ⟨z, hz, e⟩ := List.mem_map.1 h1
  obtain ⟨d, hd, e2⟩ := List.getElem_of_mem hz
  have e3 : y = pc p.P d := by
    unfold pc
    rw [List.getD_eq_getElem?_getD, List.getElem?_eq_getElem hd, Option.getD_some, e2, e]
  exact ⟨d, by rw [← hp.len]; exact hd, e3, fun e4 => h2 (by rw [e3, e4])⟩
theorem Inv.heard {p : Pn} {j : Nat} {T : Tb} (h : Inv p j T) (ci : Int) (X : List (Int × Int × Int)) (s : Int → Int) (h1 : ∀ y v, (pc p.P j, y, v) ∈ X → y ≠ pc p.P j ∧ y ≠ ci) (hs : ∀ y, 0 ≤ s y ∧ s y ≤ 2) : Inv p j (hearP T ci (pc p.P j) X s) := by
  refine ⟨h.me, h.tr, h.N, h.D, h.C, fun x => ?_, fun x => ?_, h.saidMe, h.saidSelf, fun x y => ?_, h.said⟩ <;> unfold hearP
  · show (if x = ci ∧ (pc p.P j, pc p.P j, s (pc p.P j)) ∈ X then s (pc p.P j) else T.told x (pc p.P j)) = 0
    rw [if_neg fun h9 => (h1 _ _ h9.2).1 rfl]; exact h.toldMe x
  · show (if x = ci ∧ (pc p.P j, x, s x) ∈ X then s x else T.told x x) = 0
    rw [if_neg fun h9 => (h1 _ _ h9.2).2 h9.1]; exact h.toldSelf x
  · show 0 ≤ (if x = ci ∧ (pc p.P j, y, s y) ∈ X then s y else T.told x y) ∧ (if x = ci ∧ (pc p.P j, y, s y) ∈ X then s y else T.told x y) ≤ 2
    split
    · exact hs y
    · exact h.told x y
/-- Notes that a table tells name neither their receiver nor their sender. -/
theorem Inv.note {x : Nn} {p : Pn} {n m i : Nat} {T : Tb} (hp : PF x p n m) (h : Inv p i T) {u y s : Int} (hm : (u, y, s) ∈ T.tellL T.N) : u ∈ T.N ∧ y ∈ T.D ∧ y ≠ u ∧ y ≠ pc p.P i ∧ s = T.st y ∧ (0 ≤ s ∧ s ≤ 2) := by
  obtain ⟨h1, _, h3, h4, h5⟩ := mem_tellL.1 hm
  exact ⟨h1.1, h3, h4.1, fun e => h.meD (e ▸ h3), h5, by rw [h5]; exact T.st_range y⟩
theorem Net.step {x : Nn} {p : Pn} {n m : Nat} {U : Nat → Nat → Bool} {Ts : Nat → Tb} (hp : PF x p n m) (h : Net p n U Ts) {i : Nat} (hi : i < n) : Net p n U (tabX p Ts i ((Ts i).tellL (Ts i).N)) := by
  have hlen := hp.len
  refine ⟨fun j hj => ?_, fun j k hj hk hN => ?_, h.sym, fun j k hj hk hU => ?_, fun j k d hj hk hd => ?_⟩
  · by_cases e : j = i
    · subst e; rw [tabX_me]; exact (h.inv j hj).toldL _
    · rw [tabX_other p Ts e]
      exact (h.inv j hj).heard _ _ _ (fun y v hm => by
        have h1 := (h.inv i hi).note hp hm
        exact ⟨h1.2.2.1, h1.2.2.2.1⟩) fun y => (Ts i).st_range y
  · by_cases e : j = i
    · subst e; rw [tabX_me] at hN ⊢; exact h.up j k hj hk hN
    · rw [tabX_other p Ts e] at hN ⊢; exact h.up j k hj hk hN
  · by_cases e : j = i
    · subst e; rw [tabX_me]; exact h.nb j k hj hk hU
    · rw [tabX_other p Ts e]; exact h.nb j k hj hk hU
  · have h0 := h.eq j k d hj hk hd
    by_cases ej : j = i
    · subst ej
      rw [tabX_me]
      by_cases ek : k = j
      · subst ek
        rw [tabX_me]
        show (Ts k).told (pc p.P k) (pc p.P d) = (if pc p.P k ∈ (Ts k).N ∧ _ then _ else (Ts k).said (pc p.P k) (pc p.P d))
        rw [if_neg fun h9 => (h.inv k hk).meN hp.valid h9.1]
        exact h0
      · rw [tabX_other p Ts ek]
        show (if pc p.P j = pc p.P j ∧ (pc p.P k, pc p.P d, (Ts j).st (pc p.P d)) ∈ (Ts j).tellL (Ts j).N then (Ts j).st (pc p.P d) else (Ts k).told (pc p.P j) (pc p.P d)) = (if pc p.P k ∈ (Ts j).N ∧ (Ts j).up (pc p.P k) = true ∧ (Ts j).tr = true ∧ pc p.P d ∈ (Ts j).D ∧ pc p.P d ≠ pc p.P k then (Ts j).st (pc p.P d) else (Ts j).said (pc p.P k) (pc p.P d))
        by_cases h1 : pc p.P k ∈ (Ts j).N ∧ (Ts j).up (pc p.P k) = true ∧ (Ts j).tr = true ∧ pc p.P d ∈ (Ts j).D ∧ pc p.P d ≠ pc p.P k
        · rw [if_pos h1]
          by_cases h2 : (Ts j).st (pc p.P d) = (Ts j).said (pc p.P k) (pc p.P d)
          · rw [if_neg, h0, ← h2]
            rintro ⟨_, h9⟩
            exact (mem_tellL.1 h9).2.2.2.1.2 h2
          · exact if_pos ⟨rfl, mem_tellL.2 ⟨⟨h1.1, h1.2.1⟩, h1.2.2.1, h1.2.2.2.1, ⟨h1.2.2.2.2, h2⟩, rfl⟩⟩
        · rw [if_neg h1, if_neg]
          · exact h0
          · rintro ⟨_, h9⟩
            obtain ⟨a1, a2, a3, a4, _⟩ := mem_tellL.1 h9
            exact h1 ⟨a1.1, a1.2, a2, a3, a4.1⟩
    · have hne : ¬ pc p.P j = pc p.P i := fun e => ej ((pc_inj hp (by omega) (by omega)).1 e)
      rw [tabX_other p Ts ej]
      show (tabX p Ts i ((Ts i).tellL (Ts i).N) k).told (pc p.P j) (pc p.P d) = (Ts j).said (pc p.P k) (pc p.P d)
      by_cases ek : k = i
      · subst ek
        rw [tabX_me]
        exact h0
      · rw [tabX_other p Ts ek]
        show (if pc p.P j = pc p.P i ∧ _ then _ else (Ts k).told (pc p.P j) (pc p.P d)) = _
        rw [if_neg fun h9 => hne h9.1]
        exact h0
/-- A status stays while all lower places have told all. -/
theorem st_keep {x : Nn} {p : Pn} {n m : Nat} {U : Nat → Nat → Bool} {Ts : Nat → Tb} {h : Nat → Nat → Nat} (hp : PF x p n m) (hN : Net p n U Ts) (hh : Hgt p n h) {i : Nat} (hi : i < n) {k d : Nat} (hk : k < n) (hd : d < n) (hkd : k ≠ d)
    (hT : ∀ b, b < n → b ≠ d → h d b < h d k → Told p n U Ts b d) : (tabX p Ts i ((Ts i).tellL (Ts i).N) k).st (pc p.P d) = (Ts k).st (pc p.P d) := by
  have hlen := hp.len
  by_cases e : k = i
  · subst e; rw [tabX_me]; rfl
  · rw [tabX_other p Ts e]
    refine Tb.st_congr rfl fun c hc => ?_
    obtain ⟨b, hb, e1, h2, _, _⟩ := hh.low d k (Ts k) hk hd hkd (hN.inv k hk) c hc
    show (if (Ts k).isUp c.1 then (if c.1 = pc p.P i ∧ (pc p.P k, pc p.P d, (Ts i).st (pc p.P d)) ∈ (Ts i).tellL (Ts i).N then (Ts i).st (pc p.P d) else (Ts k).told c.1 (pc p.P d)) else 2) = (if (Ts k).isUp c.1 then (Ts k).told c.1 (pc p.P d) else 2)
    rw [if_neg (c := c.1 = pc p.P i ∧ _)]
    rintro ⟨h3, h4⟩
    have hbi : b = i := (pc_inj hp (by omega) (by omega)).1 (e1.symm.trans h3)
    subst hbi
    obtain ⟨a1, a2, a3, a4, _⟩ := mem_tellL.1 h4
    have hbd : b ≠ d := fun e9 => by subst e9; exact (hN.inv b hb).meD a3
    have hU : U b k = true := by rw [← hN.up b k hb hk a1.1]; exact a1.2
    exact a4.2 (hT b hb hbd h2 k hk hU hkd a2).symm
/-- Behind its telling a place has told all. -/
theorem told_me {x : Nn} {p : Pn} {n m : Nat} {U : Nat → Nat → Bool} {Ts : Nat → Tb} (hp : PF x p n m) (hN : Net p n U Ts) {i : Nat} (hi : i < n) (X : List (Int × Int × Int)) {d : Nat} (hd : d < n) (hne : i ≠ d) : Told p n U (tabX p Ts i X) i d := by
  have hlen := hp.len
  intro j hj hU hjd ht
  rw [tabX_me] at ht ⊢
  have h1 := hN.nb i j hi hj hU
  refine if_pos ⟨h1, ?_, ht, ((hN.inv i hi).memP hp hi hd (Ne.symm hne)).2, fun e => hjd ((pc_inj hp (by omega) (by omega)).1 e).symm⟩
  rw [hN.up i j hi hj h1]; exact hU
/-- All places up to a height have told all; of this height, the first ones. -/
def Lev (p : Pn) (n : Nat) (U : Nat → Nat → Bool) (Ts : Nat → Tb) (h : Nat → Nat → Nat) (r i : Nat) : Prop := ∀ k d, k < n → d < n → k ≠ d → (h d k < r ∨ (h d k = r ∧ k < i)) → Told p n U Ts k d
theorem Lev.step {x : Nn} {p : Pn} {n m : Nat} {U : Nat → Nat → Bool} {Ts : Nat → Tb} {h : Nat → Nat → Nat} (hp : PF x p n m) (hN : Net p n U Ts) (hh : Hgt p n h) {r i : Nat} (hL : Lev p n U Ts h r i) (hi : i < n) : Lev p n U (tabX p Ts i ((Ts i).tellL (Ts i).N)) h r (i + 1) := by
  intro k d hk hd hkd hc
  by_cases e : k = i
  · subst e; exact told_me hp hN hk _ hd hkd
  · have h1 : h d k < r ∨ (h d k = r ∧ k < i) := by omega
    have h2 := hL k d hk hd hkd h1
    have h3 := st_keep hp hN hh hi hk hd hkd fun b hb hbd hlt => hL b d hb hd hbd (.inl (by omega))
    intro j hj hU hjd ht
    rw [h3, tabX_other p Ts e]
    rw [tabX_other p Ts e] at ht
    exact h2 j hj hU hjd ht
theorem Lev.next {p : Pn} {n : Nat} {U : Nat → Nat → Bool} {Ts : Nat → Tb} {h : Nat → Nat → Nat} {r : Nat} (hL : Lev p n U Ts h r n) : Lev p n U Ts h (r + 1) 0 := fun k d hk hd hkd hc => hL k d hk hd hkd (by omega)
theorem Lev.all {p : Pn} {n : Nat} {U : Nat → Nat → Bool} {Ts : Nat → Tb} {h : Nat → Nat → Nat} (hh : Hgt p n h) {r i : Nat} (hr : n ≤ r) (hL : Lev p n U Ts h r i) {k d : Nat} (hk : k < n) (hd : d < n) (hkd : k ≠ d) : Told p n U Ts k d := hL k d hk hd hkd (.inl (Nat.lt_of_lt_of_le (hh.lt d k hk) hr))
/-- Who has told all tells nothing; who tells nothing has told all. -/
theorem tell_none {x : Nn} {p : Pn} {n m : Nat} {U : Nat → Nat → Bool} {Ts : Nat → Tb} (hp : PF x p n m) (hN : Net p n U Ts) {i : Nat} (hi : i < n) : (Ts i).tellL (Ts i).N = [] ↔ ∀ d, d < n → i ≠ d → Told p n U Ts i d := by
  have hlen := hp.len
  constructor
  · intro h d hd hne j hj hU hjd ht
    refine Classical.byContradiction fun h9 => ?_
    have h1 := hN.nb i j hi hj hU
    have hm : (pc p.P j, pc p.P d, (Ts i).st (pc p.P d)) ∈ (Ts i).tellL (Ts i).N := mem_tellL.2 ⟨⟨h1, by rw [hN.up i j hi hj h1]; exact hU⟩, ht, ((hN.inv i hi).memP hp hi hd (Ne.symm hne)).2, ⟨fun e => hjd ((pc_inj hp (by omega) (by omega)).1 e).symm, fun e => h9 e.symm⟩, rfl⟩
    rw [h] at hm
    cases hm
  · intro h
    refine List.eq_nil_iff_forall_not_mem.2 fun z hz => ?_
    obtain ⟨u, y, s⟩ := z
    obtain ⟨a1, a2, a3, a4, _⟩ := mem_tellL.1 hz
    obtain ⟨j, hj, e1, _⟩ := (hN.inv i hi).place hp a1.1
    obtain ⟨d, hd, e2, hne⟩ := (hN.inv i hi).dest hp a3
    subst e1 e2
    have hU : U i j = true := by rw [← hN.up i j hi hj a1.1]; exact a1.2
    exact a4.2 (h d hd (Ne.symm hne) j hj hU (fun e => a4.1 (by rw [e])) a2).symm
/-- A turn in which nothing is told leaves what has been told. -/
theorem quiet_step {x : Nn} {p : Pn} {n m : Nat} {U : Nat → Nat → Bool} {Ts : Nat → Tb} (hp : PF x p n m) (hN : Net p n U Ts) {i : Nat} (hi : i < n) (h : ∀ k d, k < i → d < n → k ≠ d → Told p n U Ts k d) : ∀ k d, k < i + 1 → d < n → k ≠ d → Told p n U (tabX p Ts i []) k d := by
  intro k d hk hd hkd
  by_cases e : k = i
  · subst e; exact told_me hp hN hi _ hd hkd
  · intro j hj hU hjd ht
    rw [tabX_other p Ts e, hearP_nil] at ht ⊢
    exact h k d (by omega) hd hkd j hj hU hjd ht
/-- When all has been told, a destination is reached exactly by a choice that is up and reaches it. -/
theorem reach_st {x : Nn} {p : Pn} {n m : Nat} {U : Nat → Nat → Bool} {Ts : Nat → Tb} {h : Nat → Nat → Nat} (hp : PF x p n m) (hN : Net p n U Ts) (hh : Hgt p n h) (hT : ∀ k d, k < n → d < n → k ≠ d → Told p n U Ts k d) {i d : Nat} (hi : i < n) (hd : d < n) (hne : i ≠ d) :
    (Ts i).st (pc p.P d) ≠ 2 ↔ ∃ c ∈ (Ts i).C (pc p.P d), ∃ b, b < n ∧ c.1 = pc p.P b ∧ U i b = true ∧ (b = d ∨ (Ts b).st (pc p.P d) ≠ 2) := by
  have hlen := hp.len
  have key : ∀ c ∈ (Ts i).C (pc p.P d), ∀ b, b < n → c.1 = pc p.P b → ((Ts i).byN c.1 (pc p.P d) ≠ 2 ↔ U i b = true ∧ (b = d ∨ (Ts b).st (pc p.P d) ≠ 2)) := by
    intro c hc b hb e
    obtain ⟨b', hb', e1, _, h3, h4⟩ := hh.low d i (Ts i) hi hd hne (hN.inv i hi) c hc
    have e2 : b' = b := (pc_inj hp (by omega) (by omega)).1 (e1.symm.trans e)
    subst e2
    have hup := hN.up i b' hi hb h4
    have hU : (Ts i).isUp c.1 = U i b' := by
      unfold Tb.isUp; rw [e1, hup, decide_eq_true h4, Bool.true_and]
    show (if (Ts i).isUp c.1 then (Ts i).told c.1 (pc p.P d) else 2) ≠ 2 ↔ _
    rw [hU]
    cases hu : U i b'
    · simp
    · rw [if_pos rfl, e1]
      by_cases hbd : b' = d
      · subst hbd
        rw [(hN.inv i hi).toldSelf]
        exact ⟨fun _ => ⟨rfl, .inl rfl⟩, fun _ => by decide⟩
      · rw [hN.eq b' i d hb hi hd, hT b' d hb hd hbd i hi (by rw [hN.sym]; exact hu) hne (by rw [(hN.inv b' hb).tr]; exact h3.resolve_right hbd)]
        exact ⟨fun h9 => ⟨rfl, .inr h9⟩, fun h9 => h9.2.resolve_left hbd⟩
  constructor
  · intro h1
    refine Classical.byContradiction fun h2 => h1 (((Ts i).st_two _).2 fun c hc => Classical.byContradiction fun h3 => h2 ?_)
    obtain ⟨b, hb, e1, _, _, _⟩ := hh.low d i (Ts i) hi hd hne (hN.inv i hi) c hc
    exact ⟨c, hc, b, hb, e1, (key c hc b hb e1).1 h3⟩
  · rintro ⟨c, hc, b, hb, e1, h2⟩ h1
    exact (key c hc b hb e1).2 h2 (((Ts i).st_two _).1 h1 c hc)
end Go.Proofs.Ytdjmopipmeonlaa
/- The tables of all places beside each other in memory. -/
namespace Go.Proofs.Ytdjmopipmeonlaa
set_option linter.unusedVariables false
set_option linter.unusedVariables false
open Go.RowKit Go.Maps

/-- What is read stays. -/
def Kp (w w' : World) : Prop := ∀ p v, w.cell? p = some v → w'.cell? p = some v
theorem Kp.refl (w : World) : Kp w w := fun _ _ h => h
theorem Kp.trans {a b c : World} (h : Kp a b) (g : Kp b c) : Kp a c := fun p v e => g p v (h p v e)
theorem Kp.below {w w' : World} (hb : Below w.heap.size w w') : Kp w w' := fun p v h => (hb.cell (World.block_lt_of_cell? w _ h)).trans h
theorem PRow.kept {w w' : World} {a : Option Addr} {n c : Nat} {P : List (Int × Bool)} (h : PRow w a n c P) (hk : Kp w w') : PRow w' a n c P :=
  ⟨h.len, h.le, h.max, h.wf, h.cells.imp id fun ⟨b, off, ha, hc⟩ => ⟨b, off, ha, fun i hi => ⟨hk _ _ (hc i hi).1, hk _ _ (hc i hi).2⟩⟩, h.isNil⟩
theorem LRow.kept {w w' : World} {a : Option Addr} {n c : Nat} {L : List Ln} (h : LRow w a n c L) (hk : Kp w w') : LRow w' a n c L :=
  ⟨h.len, h.le, h.max, h.wf, h.cells.imp id fun ⟨b, off, ha, hc⟩ => ⟨b, off, ha, fun i hi => ⟨hk _ _ (hc i hi).1, hk _ _ (hc i hi).2.1, hk _ _ (hc i hi).2.2.1, hk _ _ (hc i hi).2.2.2⟩⟩, h.isNil⟩
/-- A row of pointers to tables. -/
structure TRow (w : World) (b n c : Nat) (ys : Nat → Tl) : Prop where
  le : n ≤ c
  max : c ≤ maxLen
  cells : ∀ i, i < n → w.cell? ⟨b, i, none⟩ = some (.pointer (some ⟨(ys i).tb, 0, none⟩))
theorem TRow.kept {w w' : World} {b n c : Nat} {ys : Nat → Tl} (h : TRow w b n c ys) (hk : Kp w w') : TRow w' b n c ys := ⟨h.le, h.max, fun i hi => hk _ _ (h.cells i hi)⟩
theorem TbAt.mutMap {w : World} {y : Tl} {T : Tb} (h : TbAt w y T) {k : Nat} (hk : Mut y k) : ∃ es clock, w.heap[k]? = some (.map es clock) := by
  rcases hk with rfl | rfl | rfl
  · exact h.ups.map
  · exact h.tol.map
  · exact h.sai.map
/-- The blocks that the tables' methods write. -/
def AllMut (n : Nat) (ys : Nat → Tl) : Nat → Prop := fun k => ∃ i, i < n ∧ Mut (ys i) k
structure Tabs (w : World) (n : Nat) (ys : Nat → Tl) (Ts : Nat → Tb) : Prop where
  tb : ∀ i, i < n → TbAt w (ys i) (Ts i)
  apart : ∀ i j, i < n → j < n → i ≠ j → ∀ k, Mut (ys i) k → k ≠ (ys j).bc ∧ k ≠ (ys j).bu ∧ k ≠ (ys j).bt ∧ k ≠ (ys j).bs
theorem Tabs.below {w w' : World} {n : Nat} {ys : Nat → Tl} {Ts : Nat → Tb} (h : Tabs w n ys Ts) (hb : Below w.heap.size w w') : Tabs w' n ys Ts := ⟨fun i hi => (h.tb i hi).below hb, h.apart⟩
theorem Tabs.kp {w w' : World} {n : Nat} {ys : Nat → Tl} {Ts : Nat → Tb} (h : Tabs w n ys Ts) (hx : Exc (AllMut n ys) w w') : Kp w w' := fun p v hc => hx.cell hc fun ⟨i, hi, hm⟩ => by
  obtain ⟨es, clock, hb⟩ := (h.tb i hi).mutMap hm
  exact cell_map hc hb
theorem Tabs.own {w w' : World} {n : Nat} {ys : Nat → Tl} {Ts : Nat → Tb} (h : Tabs w n ys Ts) (hx : Exc (AllMut n ys) w w') {b t : Nat} {cs : List Value} (ho : Own w b t cs) : Own w' b t cs := own_exc ho hx fun ⟨i, hi, hm⟩ => by
  obtain ⟨es, clock, hb⟩ := (h.tb i hi).mutMap hm
  exact own_map ho hb
theorem excAll {n : Nat} {ys : Nat → Tl} {w w' : World} {i : Nat} (hi : i < n) (h : Exc (Mut (ys i)) w w') : Exc (AllMut n ys) w w' := h.weak fun _ _ hk => ⟨i, hi, hk⟩
theorem excAll_trans {n : Nat} {ys : Nat → Tl} {a b c : World} (h : Exc (AllMut n ys) a b) (k : Exc (AllMut n ys) b c) : Exc (AllMut n ys) a c := h.trans k fun _ _ h => h
theorem Tabs.put {w w' : World} {n : Nat} {ys : Nat → Tl} {Ts : Nat → Tb} (h : Tabs w n ys Ts) {i : Nat} (hi : i < n) (hx : Exc (Mut (ys i)) w w') {Ts' : Nat → Tb} (ht : TbAt w' (ys i) (Ts' i)) (ho : ∀ j, j < n → j ≠ i → Ts' j = Ts j) : Tabs w' n ys Ts' := by
  refine ⟨fun j hj => ?_, h.apart⟩
  by_cases e : j = i
  · subst e; exact ht
  · rw [ho j hj e]
    exact (h.tb j hj).exc hx ((h.tb i hi).off (h.tb j hj) (h.apart i j hi hj (Ne.symm e)))
theorem Tabs.congr {w : World} {n : Nat} {ys : Nat → Tl} {Ts Ts' : Nat → Tb} (h : Tabs w n ys Ts) (ho : ∀ j, j < n → Ts' j = Ts j) : Tabs w n ys Ts' := ⟨fun j hj => by rw [ho j hj]; exact h.tb j hj, h.apart⟩

theorem NRow.kept {w w' : World} {n : Nat} {ys : Nat → Tl} {Ts : Nat → Tb} (h : Tabs w n ys Ts) (hx : Exc (AllMut n ys) w w') {a : Option Addr} {l c : Nat} {X : List (Int × Int × Int)} (hr : NRow w a l c X) : NRow w' a l c X :=
  ⟨hr.len, hr.le, hr.max, hr.cells.imp id fun ⟨g, R, ha, ho⟩ => ⟨g, R, ha, h.own hx ho⟩, hr.isNil⟩
theorem cellsN_set : ∀ (X : List (Int × Int × Int)) (k : Nat) (u : Int), k < X.length → (cellsN X).set (k * 3) (.int .u16 u) = cellsN (X.set k (u, (X.getD k (0, 0, 0)).2))
  | [], _, _, h => absurd h (Nat.not_lt_zero _)
  | x :: X, 0, u, _ => rfl
  | x :: X, k + 1, u, h => by
    have e : cellsN (x :: X) = .int .u16 x.1 :: .int .u16 x.2.1 :: .int .u8 x.2.2 :: cellsN X := rfl
    have e2 : cellsN (x :: X.set k (u, (X.getD k (0, 0, 0)).2)) = .int .u16 x.1 :: .int .u16 x.2.1 :: .int .u8 x.2.2 :: cellsN (X.set k (u, (X.getD k (0, 0, 0)).2)) := rfl
    rw [e, show (k + 1) * 3 = k * 3 + 1 + 1 + 1 by omega, List.set_cons_succ, List.set_cons_succ, List.set_cons_succ, cellsN_set X k u (by simpa using h), List.set_cons_succ]
    exact e2.symm
/-- The address of a note is written. -/
theorem NRow.put {w : World} {g n c : Nat} {X : List (Int × Int × Int)} (h : NRow w (some ⟨g, 0, none⟩) n c X) {k : Nat} (hk : k < n) (u : Int) : NRow (w.setCell ⟨g, k * 3, none⟩ (.int .u16 u)) (some ⟨g, 0, none⟩) n c (X.set k (u, (X.getD k (0, 0, 0)).2)) := by
  have hl := h.len
  refine ⟨by simpa using hl, h.le, h.max, .inr ?_, fun e => by cases e⟩
  obtain ⟨g', R, ha, ho⟩ := h.cells.resolve_left (by omega)
  cases ha
  refine ⟨g, R, rfl, ?_⟩
  have h2 := Own.set ho (k * 3) (.int .u16 u)
  rw [List.set_append_left _ _ (by rw [cellsN_length]; omega), cellsN_set X k u (by omega)] at h2
  exact h2
theorem Net.back {x : Nn} {p : Pn} {n m : Nat} {U : Nat → Nat → Bool} {Ts : Nat → Tb} (hp : PF x p n m) (h : Net p n U Ts) {i j : Nat} (hi : i < n) (hj : j < n) (hN : pc p.P j ∈ (Ts i).N) : pc p.P i ∈ (Ts j).N := by
  rw [(h.inv i hi).N, mem_nbrs hp.valid] at hN
  rw [(h.inv j hj).N, mem_nbrs hp.valid, nearN_comm]
  exact hN
end Go.Proofs.Ytdjmopipmeonlaa
/- Rows of truth values in blocks of a call's own; who is up for whom, as rows. -/
namespace Go.Proofs.Ytdjmopipmeonlaa
set_option linter.unusedVariables false
set_option linter.unusedVariables false
open Go.RowKit Go.Maps

theorem infoBl : (Try.prog.info? 4).map (fun i => (i.zero, i.size, i.bytes)) = some (some (.bool false), 1, 1) := by kernel_rfl
theorem make_bl (n : Nat) (hn : n ≤ 1000) (w : World) :
    (Instr.makeSlice 68 (.int .i64 (n : Int)) (.int .i64 (n : Int))).run Try.prog w = .ok (.slice (some ⟨w.heap.size, 0, none⟩) n n) (w.alloc (.cells (madeCells #[.bool false] n) 4)) :=
  run_make_row' 68 4 (.bool false) 1 Try.underlying68 infoBl rfl .i64 .i64 n (by omega) (by omega) w
/-- A row of n truth values, said by a function. -/
def fnB (n : Nat) (f : Nat → Bool) : List Value := (List.range n).map fun i => .bool (f i)
theorem fnB_length (n : Nat) (f : Nat → Bool) : (fnB n f).length = n := by simp [fnB]
def RB (w : World) (b n : Nat) (f : Nat → Bool) : Prop := Own w b 4 (fnB n f)
theorem rb_made (n : Nat) (w : World) : RB (w.alloc (.cells (madeCells #[.bool false] n) 4)) w.heap.size n (fun _ => false) := by
  unfold RB Own
  rw [heap_alloc_new w _]
  congr 2
  apply Array.ext
  · simp [madeCells, fnB]
  · intro i h1 h2
    simp [madeCells, fnB, Nat.mod_one]
theorem RB.cell {w : World} {b n : Nat} {f : Nat → Bool} (h : RB w b n f) {i : Nat} (hi : i < n) : w.cell? ⟨b, i, none⟩ = some (.bool (f i)) := by
  have h1 := Own.cell h i (by rw [fnB_length]; exact hi)
  rw [h1]
  unfold fnB
  rw [List.getD_eq_getElem?_getD, List.getElem?_map, List.getElem?_range hi]; rfl
theorem RB.frozen {w : World} {b n : Nat} {f : Nat → Bool} (h : RB w b n f) (i : Nat) : w.frozen? ⟨b, i, none⟩ = false := Own.frozen h i
theorem RB.lt {w : World} {b n : Nat} {f : Nat → Bool} (h : RB w b n f) : b < w.heap.size := Own.lt h
theorem RB.below {w w' : World} {b n : Nat} {f : Nat → Bool} (h : RB w b n f) (hb : Below w.heap.size w w') : RB w' b n f := Own.below h hb (Own.lt h)
theorem RB.exc {S : Nat → Prop} {w w' : World} {b n : Nat} {f : Nat → Bool} (h : RB w b n f) (hx : Exc S w w') (hn : ¬ S b) : RB w' b n f := own_exc h hx hn
def updB (f : Nat → Bool) (k : Nat) (v : Bool) : Nat → Bool := fun i => if i = k then v else f i
theorem RB.set {w : World} {b n : Nat} {f : Nat → Bool} (h : RB w b n f) (k : Nat) (v : Bool) : RB (w.setCell ⟨b, k, none⟩ (.bool v)) b n (updB f k v) := by
  have h2 := Own.set h k (.bool v)
  have e : (fnB n f).set k (.bool v) = fnB n (updB f k v) := by
    refine List.ext_getElem? fun i => ?_
    unfold fnB updB
    by_cases hi : i < n
    · by_cases e : k = i
      · subst e
        rw [List.getElem?_set_self (by simpa using hi), List.getElem?_map, List.getElem?_range hi]; simp
      · rw [List.getElem?_set_ne e, List.getElem?_map, List.getElem?_map, List.getElem?_range hi]
        have e9 : ¬ i = k := fun h => e h.symm
        simp only [Option.map_some, if_neg e9]
    · rw [List.getElem?_eq_none (by simp; omega), List.getElem?_eq_none (by simp; omega)]
  rw [e] at h2
  exact h2
theorem RB.congr {w : World} {b n : Nat} {f g : Nat → Bool} (h : RB w b n f) (e : ∀ i, i < n → g i = f i) : RB w b n g := by
  unfold RB
  rw [show fnB n g = fnB n f from List.map_congr_left fun i hi => by rw [e i (List.mem_range.1 hi)]]
  exact h
/-- Who is up for whom, as rows. -/
structure UpT (w : World) (ub n : Nat) (rows : Nat → Nat) (U : Nat → Nat → Bool) : Prop where
  top : ∀ i, i < n → w.cell? ⟨ub, i, none⟩ = some (.slice (some ⟨rows i, 0, none⟩) n n)
  row : ∀ i, i < n → RB w (rows i) n (U i)
  inj : ∀ i j, i < n → j < n → i ≠ j → rows i ≠ rows j
theorem UpT.kept {w w' : World} {ub n : Nat} {rows : Nat → Nat} {U : Nat → Nat → Bool} (h : UpT w ub n rows U) (hk : Kp w w') (hr : ∀ i, i < n → RB w' (rows i) n (U i)) : UpT w' ub n rows U := ⟨fun i hi => hk _ _ (h.top i hi), hr, h.inj⟩
theorem UpT.below {w w' : World} {ub n : Nat} {rows : Nat → Nat} {U : Nat → Nat → Bool} (h : UpT w ub n rows U) (hb : Below w.heap.size w w') : UpT w' ub n rows U := h.kept (Kp.below hb) fun i hi => (h.row i hi).below hb
theorem UpT.all {w w' : World} {ub n : Nat} {rows : Nat → Nat} {U : Nat → Nat → Bool} (h : UpT w ub n rows U) {N : Nat} {ys : Nat → Tl} {Ts : Nat → Tb} (hT : Tabs w N ys Ts) (hx : Exc (AllMut N ys) w w') : UpT w' ub n rows U := h.kept (hT.kp hx) fun i hi => hT.own hx (h.row i hi)
theorem UpT.set {w : World} {ub n : Nat} {rows : Nat → Nat} {U : Nat → Nat → Bool} (h : UpT w ub n rows U) {i : Nat} (hi : i < n) (k : Nat) (v : Bool) : UpT (w.setCell ⟨rows i, k, none⟩ (.bool v)) ub n rows (fun a => if a = i then updB (U i) k v else U a) := by
  have hx : Exc (fun q => q = rows i) w (w.setCell ⟨rows i, k, none⟩ (.bool v)) := (Exc.refl (fun q => q = rows i) w).setCell ⟨rows i, k, none⟩ (.inl rfl) _
  refine ⟨fun j hj => hx.cell (h.top j hj) fun e => ?_, fun j hj => ?_, h.inj⟩
  · have h1 := h.top j hj
    have h2 := (h.row i hi).cell hj
    rw [show (⟨ub, j, none⟩ : Addr) = ⟨rows i, j, none⟩ by rw [show ub = rows i from e]] at h1
    rw [h1] at h2
    cases h2
  · by_cases e : j = i
    · subst e
      simp only [if_true]
      exact (h.row j hj).set k v
    · simp only [e, if_false]
      exact (h.row j hj).exc hx fun e9 => h.inj j i hj hi e e9
end Go.Proofs.Ytdjmopipmeonlaa
