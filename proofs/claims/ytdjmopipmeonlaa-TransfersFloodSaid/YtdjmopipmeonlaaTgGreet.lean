import Derived.Test.YtdjmopipmeonlaaTgFlood
/- Two places go down for each other, or greet each other and come up. -/
namespace Go.Proofs.Ytdjmopipmeonlaa
set_option linter.unusedVariables false
set_option linter.unusedVariables false
open Go.RowKit Go.Maps

theorem mem_news {T : Tb} {n u y s : Int} : (u, y, s) ∈ T.news n ↔ u = n ∧ T.tr = true ∧ y ∈ T.D ∧ (y ≠ n ∧ T.st y ≠ T.said n y) ∧ s = T.st y := by
  unfold Tb.news
  constructor
  · intro hm
    split at hm
    · rename_i ht
      unfold Tb.newsL at hm
      obtain ⟨d, hd, he⟩ := List.mem_map.1 hm
      rw [List.mem_filter] at hd
      cases he
      exact ⟨rfl, ht, hd.1, of_decide_eq_true hd.2, rfl⟩
    · cases hm
  · rintro ⟨rfl, ht, hd, hq, rfl⟩
    unfold Tb.newsL
    rw [if_pos ht]
    exact List.mem_map.2 ⟨y, List.mem_filter.2 ⟨hd, decide_eq_true hq⟩, rfl⟩
theorem Inv.noteG {x : Nn} {p : Pn} {n m i : Nat} {T : Tb} (hp : PF x p n m) (h : Inv p i T) {c u y s : Int} (hm : (u, y, s) ∈ T.news c) : u = c ∧ y ∈ T.D ∧ y ≠ u ∧ y ≠ pc p.P i ∧ s = T.st y ∧ (0 ≤ s ∧ s ≤ 2) := by
  obtain ⟨h1, _, h3, h4, h5⟩ := mem_news.1 hm
  exact ⟨h1, h3, h1 ▸ h4.1, fun e => h.meD (e ▸ h3), h5, by rw [h5]; exact T.st_range y⟩
theorem Net.greet {x : Nn} {p : Pn} {n m : Nat} {U : Nat → Nat → Bool} {Ts : Nat → Tb} (hp : PF x p n m) (h : Net p n U Ts) {i q : Nat} (hi : i < n) (hq : q < n) (hiq : q ≠ i) : Net p n U (tabG p Ts i ((Ts i).told1 (pc p.P q)) ((Ts i).news (pc p.P q))) := by
  have hlen := hp.len
  refine ⟨fun j hj => ?_, fun j k hj hk hN => ?_, h.sym, fun j k hj hk hU => ?_, fun j k d hj hk hd => ?_⟩
  · by_cases e : j = i
    · subst e; rw [tabG_me]; exact (h.inv j hj).told1 _
    · rw [tabG_other p Ts e]
      exact (h.inv j hj).heard _ _ _ (fun y v hm => by
        have h1 := (h.inv i hi).noteG hp hm
        exact ⟨h1.2.2.1, h1.2.2.2.1⟩) fun y => (Ts i).st_range y
  · by_cases e : j = i
    · subst e; rw [tabG_me] at hN ⊢; exact h.up j k hj hk hN
    · rw [tabG_other p Ts e] at hN ⊢; exact h.up j k hj hk hN
  · by_cases e : j = i
    · subst e; rw [tabG_me]; exact h.nb j k hj hk hU
    · rw [tabG_other p Ts e]; exact h.nb j k hj hk hU
  · have h0 := h.eq j k d hj hk hd
    by_cases ej : j = i
    · subst ej
      rw [tabG_me]
      by_cases ek : k = j
      · subst ek
        rw [tabG_me]
        show (Ts k).told (pc p.P k) (pc p.P d) = (if (Ts k).tr = true then (Ts k).saidL (pc p.P q) (Ts k).D else (Ts k).said) (pc p.P k) (pc p.P d)
        rw [h0]
        split
        · unfold Tb.saidL
          rw [if_neg fun h9 => hiq ((pc_inj hp (by omega) (by omega)).1 h9.1).symm]
        · rfl
      · rw [tabG_other p Ts ek]
        show (if pc p.P j = pc p.P j ∧ (pc p.P k, pc p.P d, (Ts j).st (pc p.P d)) ∈ (Ts j).news (pc p.P q) then (Ts j).st (pc p.P d) else (Ts k).told (pc p.P j) (pc p.P d)) = (if (Ts j).tr = true then (Ts j).saidL (pc p.P q) (Ts j).D else (Ts j).said) (pc p.P k) (pc p.P d)
        by_cases h1 : (pc p.P k = pc p.P q ∧ pc p.P d ∈ (Ts j).D ∧ pc p.P d ≠ pc p.P q) ∧ (Ts j).tr = true
        · obtain ⟨h1, ht⟩ := h1
          rw [if_pos ht]
          unfold Tb.saidL
          rw [if_pos h1]
          by_cases h2 : (Ts j).st (pc p.P d) = (Ts j).said (pc p.P k) (pc p.P d)
          · rw [if_neg, h0, ← h2]
            rintro ⟨_, h9⟩
            have h8 := (mem_news.1 h9).2.2.2.1.2
            rw [← h1.1] at h8
            exact h8 h2
          · exact if_pos ⟨rfl, mem_news.2 ⟨h1.1, ht, h1.2.1, ⟨h1.2.2, by rw [← h1.1]; exact h2⟩, rfl⟩⟩
        · rw [if_neg]
          · rw [h0]
            split
            · rename_i ht
              unfold Tb.saidL
              rw [if_neg fun h9 => h1 ⟨h9, ht⟩]
            · rfl
          · rintro ⟨_, h9⟩
            obtain ⟨a1, a2, a3, a4, _⟩ := mem_news.1 h9
            exact h1 ⟨⟨a1, a3, a4.1⟩, a2⟩
    · have hne : ¬ pc p.P j = pc p.P i := fun e => ej ((pc_inj hp (by omega) (by omega)).1 e)
      rw [tabG_other p Ts ej]
      show (tabG p Ts i _ _ k).told (pc p.P j) (pc p.P d) = (Ts j).said (pc p.P k) (pc p.P d)
      by_cases ek : k = i
      · subst ek
        rw [tabG_me]
        exact h0
      · rw [tabG_other p Ts ek]
        show (if pc p.P j = pc p.P i ∧ _ then _ else (Ts k).told (pc p.P j) (pc p.P d)) = _
        rw [if_neg fun h9 => hne h9.1]
        exact h0
/-- Two places are up for each other, or not; of both, one table each is new. -/
def setU (U : Nat → Nat → Bool) (a b : Nat) (v : Bool) : Nat → Nat → Bool := fun i j => if (i = a ∧ j = b) ∨ (i = b ∧ j = a) then v else U i j
def two (Ts : Nat → Tb) (a b : Nat) (A B : Tb) : Nat → Tb := fun j => if j = a then A else if j = b then B else Ts j
theorem two_a (Ts : Nat → Tb) (a b : Nat) (A B : Tb) : two Ts a b A B a = A := if_pos rfl
theorem two_b (Ts : Nat → Tb) {a b : Nat} (h : b ≠ a) (A B : Tb) : two Ts a b A B b = B := by unfold two; rw [if_neg h, if_pos rfl]
theorem two_o (Ts : Nat → Tb) {a b j : Nat} (h : j ≠ a) (g : j ≠ b) (A B : Tb) : two Ts a b A B j = Ts j := by unfold two; rw [if_neg h, if_neg g]
theorem upd1_at {p : Pn} {n : Nat} (hi : ∀ i j, i < n → j < n → (pc p.P i = pc p.P j ↔ i = j)) (f : Int → Bool) {a j : Nat} (ha : a < n) (hj : j < n) (v : Bool) : upd1 f (pc p.P a) v (pc p.P j) = if j = a then v else f (pc p.P j) := by
  unfold upd1
  by_cases e : j = a
  · rw [if_pos e, if_pos ((hi _ _ hj ha).2 e)]
  · rw [if_neg e, if_neg fun h9 => e ((hi _ _ hj ha).1 h9)]
/-- What two places become that keep what they are and what eq says. -/
theorem Net.pair {x : Nn} {p : Pn} {n m : Nat} {U : Nat → Nat → Bool} {Ts : Nat → Tb} (hp : PF x p n m) (h : Net p n U Ts) {a b : Nat} (ha : a < n) (hb : b < n) (hab : b ≠ a) (hN : pc p.P b ∈ (Ts a).N) (v : Bool) {A B : Tb} (hA : Inv p a A) (hB : Inv p b B)
    (uA : A.up = upd1 (Ts a).up (pc p.P b) v) (uB : B.up = upd1 (Ts b).up (pc p.P a) v)
    (eq : ∀ i j d, i < n → j < n → d < n → (two Ts a b A B j).told (pc p.P i) (pc p.P d) = (two Ts a b A B i).said (pc p.P j) (pc p.P d)) : Net p n (setU U a b v) (two Ts a b A B) := by
  have hlen := hp.len
  have hij : ∀ i j, i < n → j < n → (pc p.P i = pc p.P j ↔ i = j) := fun i j hi hj => pc_inj hp (by omega) (by omega)
  have hNb := h.back hp ha hb hN
  have nA : A.N = (Ts a).N := by rw [hA.N, (h.inv a ha).N]
  have nB : B.N = (Ts b).N := by rw [hB.N, (h.inv b hb).N]
  refine ⟨fun j hj => ?_, fun j k hj hk hM => ?_, fun i j => ?_, fun j k hj hk hU => ?_, eq⟩
  · by_cases e : j = a
    · subst e; rw [two_a]; exact hA
    · by_cases e2 : j = b
      · subst e2; rw [two_b Ts e]; exact hB
      · rw [two_o Ts e e2]; exact h.inv j hj
  · by_cases e : j = a
    · subst e
      rw [two_a] at hM ⊢
      rw [uA, upd1_at hij _ hb hk]
      unfold setU
      by_cases e2 : k = b
      · rw [if_pos e2, if_pos (.inl ⟨rfl, e2⟩)]
      · rw [if_neg e2, if_neg (by omega), h.up j k hj hk (nA ▸ hM)]
    · by_cases e2 : j = b
      · subst e2
        rw [two_b Ts e] at hM ⊢
        rw [uB, upd1_at hij _ ha hk]
        unfold setU
        by_cases e3 : k = a
        · rw [if_pos e3, if_pos (.inr ⟨rfl, e3⟩)]
        · rw [if_neg e3, if_neg (by omega), h.up j k hj hk (nB ▸ hM)]
      · rw [two_o Ts e e2] at hM ⊢
        unfold setU
        rw [if_neg (by omega), h.up j k hj hk hM]
  · unfold setU
    rw [h.sym i j]
    by_cases e : (i = a ∧ j = b) ∨ (i = b ∧ j = a)
    · rw [if_pos e, if_pos (by omega)]
    · rw [if_neg e, if_neg (by omega)]
  · unfold setU at hU
    by_cases e : (j = a ∧ k = b) ∨ (j = b ∧ k = a)
    · rcases e with ⟨rfl, rfl⟩ | ⟨rfl, rfl⟩
      · rw [two_a, nA]; exact hN
      · rw [two_b Ts hab, nB]; exact hNb
    · rw [if_neg e] at hU
      have h9 := h.nb j k hj hk hU
      by_cases e7 : j = a
      · subst e7; rw [two_a, nA]; exact h9
      · by_cases e2 : j = b
        · subst e2; rw [two_b Ts e7, nB]; exact h9
        · rw [two_o Ts e7 e2]; exact h9
theorem Net.ups {x : Nn} {p : Pn} {n m : Nat} {U : Nat → Nat → Bool} {Ts : Nat → Tb} (hp : PF x p n m) (h : Net p n U Ts) {a b : Nat} (ha : a < n) (hb : b < n) (hab : b ≠ a) (hN : pc p.P b ∈ (Ts a).N) : Net p n (setU U a b true) (two Ts a b ((Ts a).ups (pc p.P b)) ((Ts b).ups (pc p.P a))) := by
  refine h.pair hp ha hb hab hN true ((h.inv a ha).ups _) ((h.inv b hb).ups _) rfl rfl fun i j d hi hj hd => ?_
  have t : ∀ k, k < n → (two Ts a b ((Ts a).ups (pc p.P b)) ((Ts b).ups (pc p.P a)) k).told = (Ts k).told ∧ (two Ts a b ((Ts a).ups (pc p.P b)) ((Ts b).ups (pc p.P a)) k).said = (Ts k).said := fun k hk => by
    by_cases e : k = a
    · subst e; rw [two_a]; exact ⟨rfl, rfl⟩
    · by_cases e2 : k = b
      · subst e2; rw [two_b Ts e]; exact ⟨rfl, rfl⟩
      · rw [two_o Ts e e2]; exact ⟨rfl, rfl⟩
  rw [(t j hj).1, (t i hi).2]
  exact h.eq i j d hi hj hd
theorem Net.downs {x : Nn} {p : Pn} {n m : Nat} {U : Nat → Nat → Bool} {Ts : Nat → Tb} (hp : PF x p n m) (h : Net p n U Ts) {a b : Nat} (ha : a < n) (hb : b < n) (hab : b ≠ a) (hN : pc p.P b ∈ (Ts a).N) : Net p n (setU U a b false) (two Ts a b ((Ts a).down (pc p.P b)) ((Ts b).down (pc p.P a))) := by
  have hlen := hp.len
  have hij : ∀ i j, i < n → j < n → (pc p.P i = pc p.P j ↔ i = j) := fun i j hi hj => pc_inj hp (by omega) (by omega)
  refine h.pair hp ha hb hab hN false ((h.inv a ha).down _) ((h.inv b hb).down _) rfl rfl fun i j d hi hj hd => ?_
  have t : ∀ k q d, k < n → q < n → d < n → (two Ts a b ((Ts a).down (pc p.P b)) ((Ts b).down (pc p.P a)) k).told (pc p.P q) (pc p.P d) = (if (k = a ∧ q = b) ∨ (k = b ∧ q = a) then 0 else (Ts k).told (pc p.P q) (pc p.P d)) ∧
      (two Ts a b ((Ts a).down (pc p.P b)) ((Ts b).down (pc p.P a)) k).said (pc p.P q) (pc p.P d) = (if (k = a ∧ q = b) ∨ (k = b ∧ q = a) then 0 else (Ts k).said (pc p.P q) (pc p.P d)) := by
    have key : ∀ k c q d, k < n → c < n → q < n → d < n → ((Ts k).down (pc p.P c)).told (pc p.P q) (pc p.P d) = (if q = c then 0 else (Ts k).told (pc p.P q) (pc p.P d)) ∧ ((Ts k).down (pc p.P c)).said (pc p.P q) (pc p.P d) = (if q = c then 0 else (Ts k).said (pc p.P q) (pc p.P d)) := fun k c q d hk hc hq hd => by
      have kf : ∀ f : Int → Int → Int, f (pc p.P q) (pc p.P k) = 0 → (if pc p.P q = pc p.P c ∧ pc p.P d ∈ (Ts k).D then (0 : Int) else f (pc p.P q) (pc p.P d)) = if q = c then 0 else f (pc p.P q) (pc p.P d) := fun f hf => by
        by_cases e : q = c
        · by_cases e2 : d = k
          · subst e2
            rw [if_neg (c := pc p.P q = pc p.P c ∧ _) fun h9 => (h.inv d hd).meD h9.2, if_pos e, hf]
          · rw [if_pos (c := pc p.P q = pc p.P c ∧ _) ⟨(hij q c hq hc).2 e, ((h.inv k hk).memP hp hk hd e2).2⟩, if_pos e]
        · rw [if_neg (c := pc p.P q = pc p.P c ∧ _) fun h9 => e ((hij q c hq hc).1 h9.1), if_neg e]
      exact ⟨kf _ ((h.inv k hk).toldMe _), kf _ ((h.inv k hk).saidMe _)⟩
    intro k q d hk hq hd
    by_cases e : k = a
    · subst e
      rw [two_a, (key k b q d hk hb hq hd).1, (key k b q d hk hb hq hd).2]
      by_cases e2 : q = b
      · rw [if_pos e2, if_pos e2, if_pos (.inl ⟨rfl, e2⟩), if_pos (.inl ⟨rfl, e2⟩)]; exact ⟨rfl, rfl⟩
      · rw [if_neg e2, if_neg e2, if_neg (by omega), if_neg (by omega)]; exact ⟨rfl, rfl⟩
    · by_cases e2 : k = b
      · subst e2
        rw [two_b Ts e, (key k a q d hk ha hq hd).1, (key k a q d hk ha hq hd).2]
        by_cases e3 : q = a
        · rw [if_pos e3, if_pos e3, if_pos (.inr ⟨rfl, e3⟩), if_pos (.inr ⟨rfl, e3⟩)]; exact ⟨rfl, rfl⟩
        · rw [if_neg e3, if_neg e3, if_neg (by omega), if_neg (by omega)]; exact ⟨rfl, rfl⟩
      · rw [two_o Ts e e2, if_neg (by omega), if_neg (by omega)]; exact ⟨rfl, rfl⟩
  rw [(t j i d hj hi hd).1, (t i j d hi hj hd).2, h.eq i j d hi hj hd]
  by_cases e : (j = a ∧ i = b) ∨ (j = b ∧ i = a)
  · rw [if_pos e, if_pos (by omega)]
  · rw [if_neg e, if_neg (by omega)]
theorem Tabs.pair {w w1 w2 : World} {n : Nat} {ys : Nat → Tl} {Ts : Nat → Tb} (h : Tabs w n ys Ts) {a b : Nat} (ha : a < n) (hb : b < n) (hab : b ≠ a) {A B : Tb} (hA : TbAt w1 (ys a) A) (hx : Exc (Mut (ys a)) w w1) (hB : TbAt w2 (ys b) B) (hy : Exc (Mut (ys b)) w1 w2) : Tabs w2 n ys (two Ts a b A B) := by
  have h1 : Tabs w1 n ys (two Ts a b A (Ts b)) := h.put ha hx (by rw [two_a]; exact hA) fun j hj hne => by
    by_cases e : j = b
    · subst e; exact two_b Ts hne _ _
    · exact two_o Ts hne e _ _
  refine h1.put hb hy (by rw [two_b Ts hab]; exact hB) fun j hj hne => ?_
  by_cases e : j = a
  · subst e; rw [two_a, two_a]
  · rw [two_o Ts e hne, two_o Ts e hne]
end Go.Proofs.Ytdjmopipmeonlaa
