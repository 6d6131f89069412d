/- Joined: TpAct TpInv TgMath. -/
import Derived.Test.YtdjmopipmeonlaaTpSame
import Derived.BigQuiet
import Derived.StillTailTactics
/- What an act does to a table, as plain data; the model behind each change. -/
namespace Go.Proofs.Ytdjmopipmeonlaa
set_option linter.unusedVariables false
open Go.RowKit Go.Maps

/-- The value of an act. -/
def actV (x0 x1 x2 x3 : Nat) : Value := .agg #[.int .u8 x0, .int .u8 x1, .int .u8 x2, .int .u8 x3]
theorem MW.ups {x : Nn} {w : World} {mb : Nat} {a : Option Addr} {n c : Nat} {a' : Option Addr} {m c' : Nat} {p : Pn} {at' : Nat} {T : Tb} (h : MW w mb a n c a' m c' p at' T) (hp : PF x p n m) (hap : Apart mb a a') {i : Nat} (hi : i < n) (hN : pc p.P i ∈ T.N) : MW (w.setCell ⟨mb, 8 + i, none⟩ (.bool true)) mb a n c a' m c' p at' (T.ups (pc p.P i)) := by
  have hlen := hp.len
  have hn6 := hp.n6
  have hx : Exc (fun q => q = mb) w (w.setCell ⟨mb, 8 + i, none⟩ (.bool true)) := Exc.setCell (S := fun q => q = mb) (Exc.refl _ w) _ (.inl rfl) _
  refine ⟨(h.md.sUp (a := i) (by omega) true).congr ?_ (fun _ _ => rfl) (fun _ _ _ _ => rfl) (fun _ _ _ _ => rfl), h.row.exc hx fun z hz => Nat.ne_of_lt (hap.p z hz), h.lrow.exc hx fun z hz => Nat.ne_of_lt (hap.l z hz)⟩
  intro k hk
  show (decide (k < p.P.length) && (T.ups (pc p.P i)).isUp (pc p.P k)) = updU (mdOf T p).up i true k
  unfold updU
  by_cases h1 : k = i
  · subst h1
    rw [if_pos rfl, decide_eq_true (show k < p.P.length by omega)]
    unfold Tb.isUp Tb.ups
    simp [upd1_same, hN]
  · rw [if_neg h1]
    unfold mdOf Tb.isUp Tb.ups
    by_cases h2 : k < p.P.length
    · have h3 : ¬ pc p.P k = pc p.P i := fun e => h1 ((pc_inj hp h2 (by omega)).1 e)
      simp [upd1_other h3]
    · simp [h2]
theorem MW.hears {x : Nn} {w : World} {mb : Nat} {a : Option Addr} {n c : Nat} {a' : Option Addr} {m c' : Nat} {p : Pn} {at' : Nat} {T : Tb} (h : MW w mb a n c a' m c' p at' T) (hp : PF x p n m) (hap : Apart mb a a') {i j : Nat} (hi : i < n) (hj : j < n) (s : Int) : MW (w.setCell ⟨mb, 20 + i * 6 + j, none⟩ (.int .u8 s)) mb a n c a' m c' p at' (T.hear (pc p.P i) (pc p.P j) s) := by
  have hlen := hp.len
  have hn6 := hp.n6
  have hx : Exc (fun q => q = mb) w (w.setCell ⟨mb, 20 + i * 6 + j, none⟩ (.int .u8 s)) := Exc.setCell (S := fun q => q = mb) (Exc.refl _ w) _ (.inl rfl) _
  refine ⟨(h.md.sTold (a := i) (c := j) (by omega) (by omega) s).congr (fun _ _ => rfl) (fun _ _ => rfl) ?_ (fun _ _ _ _ => rfl), h.row.exc hx fun z hz => Nat.ne_of_lt (hap.p z hz), h.lrow.exc hx fun z hz => Nat.ne_of_lt (hap.l z hz)⟩
  intro k hk l hl
  show (if k < p.P.length ∧ l < p.P.length then upd2 T.told (pc p.P i) (pc p.P j) s (pc p.P k) (pc p.P l) else 0) = updT (mdOf T p).told i j s k l
  unfold upd2 updT mdOf
  by_cases h1 : k < p.P.length ∧ l < p.P.length
  · rw [if_pos h1]
    simp only [pc_inj hp h1.1 (show i < p.P.length by omega), pc_inj hp h1.2 (show j < p.P.length by omega), if_pos h1]
  · rw [if_neg h1, if_neg (by omega)]
    simp only [if_neg h1]
/-- The world behind the model's Down. -/
def downW (w : World) (mb i : Nat) : World := (((((((((((((w.setCell ⟨mb, 8 + i, none⟩ (.bool false)).setCell ⟨mb, 20 + i * 6 + 0, none⟩ (.int .u8 0)).setCell ⟨mb, 20 + i * 6 + 1, none⟩ (.int .u8 0)).setCell ⟨mb, 20 + i * 6 + 2, none⟩ (.int .u8 0)).setCell ⟨mb, 20 + i * 6 + 3, none⟩ (.int .u8 0)).setCell ⟨mb, 20 + i * 6 + 4, none⟩ (.int .u8 0)).setCell ⟨mb, 20 + i * 6 + 5, none⟩ (.int .u8 0)).setCell ⟨mb, 56 + i * 6 + 0, none⟩ (.int .u8 0)).setCell ⟨mb, 56 + i * 6 + 1, none⟩ (.int .u8 0)).setCell ⟨mb, 56 + i * 6 + 2, none⟩ (.int .u8 0)).setCell ⟨mb, 56 + i * 6 + 3, none⟩ (.int .u8 0)).setCell ⟨mb, 56 + i * 6 + 4, none⟩ (.int .u8 0)).setCell ⟨mb, 56 + i * 6 + 5, none⟩ (.int .u8 0)).drew
def zrow (f : Nat → Nat → Int) (a : Nat) : Nat → Nat → Int := fun i j => if i = a then 0 else f i j
theorem zrow_six (f : Nat → Nat → Int) (a i j : Nat) (hj : j < 6) : updT (updT (updT (updT (updT (updT f a 0 0) a 1 0) a 2 0) a 3 0) a 4 0) a 5 0 i j = zrow f a i j := by
  unfold updT zrow
  by_cases h : i = a
  · subst h
    rw [if_pos rfl]
    rcases (by omega : j = 0 ∨ j = 1 ∨ j = 2 ∨ j = 3 ∨ j = 4 ∨ j = 5) with rfl | rfl | rfl | rfl | rfl | rfl <;> simp
  · simp [h]
theorem MdAt.downs {w : World} {mb : Nat} {pl : List Value} {at' : Nat} {M : Md} (h : MdAt w mb pl at' M) {i : Nat} (hi : i < 6) : MdAt (downW w mb i) mb pl at' ⟨updU M.up i false, M.near, zrow M.told i, zrow M.said i⟩ := by
  have h1 := h.sUp (a := i) hi false
  have h2 := (((((h1.sTold (a := i) (c := 0) hi (by omega) 0).sTold (a := i) (c := 1) hi (by omega) 0).sTold (a := i) (c := 2) hi (by omega) 0).sTold (a := i) (c := 3) hi (by omega) 0).sTold (a := i) (c := 4) hi (by omega) 0).sTold (a := i) (c := 5) hi (by omega) 0
  have h3 := (((((h2.sSaid (a := i) (c := 0) hi (by omega) 0).sSaid (a := i) (c := 1) hi (by omega) 0).sSaid (a := i) (c := 2) hi (by omega) 0).sSaid (a := i) (c := 3) hi (by omega) 0).sSaid (a := i) (c := 4) hi (by omega) 0).sSaid (a := i) (c := 5) hi (by omega) 0
  exact (h3.below (below_draw _ 1)).congr (fun _ _ => rfl) (fun _ _ => rfl) (fun k _ l hl => (zrow_six _ _ _ _ hl).symm) (fun k _ l hl => (zrow_six _ _ _ _ hl).symm)
theorem Exc.downs {w v : World} {mb i : Nat} (h : Exc (fun q => q = mb) w v) : Exc (fun q => q = mb) w (downW v mb i) := by
  unfold downW
  refine Exc.drawN ?_ 1
  iterate 13 refine Exc.setCell (S := fun q => q = mb) ?_ _ (.inl rfl) _
  exact h
theorem MW.downs {x : Nn} {w : World} {mb : Nat} {a : Option Addr} {n c : Nat} {a' : Option Addr} {m c' : Nat} {p : Pn} {at' : Nat} {T : Tb} (h : MW w mb a n c a' m c' p at' T) (hp : PF x p n m) (hap : Apart mb a a') {i : Nat} (hi : i < n) (hI : Inv p at' T) (w' : World) (hx : Exc (fun q => q = mb) w w') (hm : MdAt w' mb (planCells a n c a' m c' p) at' ⟨updU (mdOf T p).up i false, (mdOf T p).near, zrow (mdOf T p).told i, zrow (mdOf T p).said i⟩) : MW w' mb a n c a' m c' p at' (T.down (pc p.P i)) := by
  have hlen := hp.len
  have hD : ∀ l, l < p.P.length → ¬ pc p.P l ∈ T.D → pc p.P l = pc p.P at' := fun l hl hn => by
    rw [hI.D] at hn
    refine Classical.byContradiction fun h9 => hn (mem_dests.2 ⟨?_, h9⟩)
    unfold codesP pc
    rw [List.getD_eq_getElem?_getD, List.getElem?_eq_getElem hl]
    exact List.mem_map_of_mem (List.getElem_mem hl)
  refine ⟨hm.congr ?_ (fun _ _ => rfl) ?_ ?_, h.row.exc hx fun z hz => Nat.ne_of_lt (hap.p z hz), h.lrow.exc hx fun z hz => Nat.ne_of_lt (hap.l z hz)⟩
  · intro k hk
    show (decide (k < p.P.length) && (T.down (pc p.P i)).isUp (pc p.P k)) = updU (mdOf T p).up i false k
    unfold updU
    by_cases h1 : k = i
    · subst h1
      rw [if_pos rfl]
      unfold Tb.isUp Tb.down
      simp [upd1_same]
    · rw [if_neg h1]
      unfold mdOf Tb.isUp Tb.down
      by_cases h2 : k < p.P.length
      · have h3 : ¬ pc p.P k = pc p.P i := fun e => h1 ((pc_inj hp h2 (by omega)).1 e)
        simp [upd1_other h3]
      · simp [h2]
  · intro k hk l hl
    show (if k < p.P.length ∧ l < p.P.length then (if pc p.P k = pc p.P i ∧ pc p.P l ∈ T.D then 0 else T.told (pc p.P k) (pc p.P l)) else 0) = zrow (mdOf T p).told i k l
    unfold zrow mdOf
    by_cases h1 : k < p.P.length ∧ l < p.P.length
    · simp only [pc_inj hp h1.1 (show i < p.P.length by omega), if_pos h1]
      by_cases h2 : k = i
      · rw [if_pos h2]
        by_cases h3 : pc p.P l ∈ T.D
        · rw [if_pos ⟨h2, h3⟩]
        · rw [if_neg (fun h => h3 h.2), hD l h1.2 h3]; exact hI.toldMe _
      · rw [if_neg h2, if_neg (fun h => h2 h.1)]
    · simp only [if_neg h1]; split <;> rfl
  · intro k hk l hl
    show (if k < p.P.length ∧ l < p.P.length then (if pc p.P k = pc p.P i ∧ pc p.P l ∈ T.D then 0 else T.said (pc p.P k) (pc p.P l)) else 0) = zrow (mdOf T p).said i k l
    unfold zrow mdOf
    by_cases h1 : k < p.P.length ∧ l < p.P.length
    · simp only [pc_inj hp h1.1 (show i < p.P.length by omega), if_pos h1]
      by_cases h2 : k = i
      · rw [if_pos h2]
        by_cases h3 : pc p.P l ∈ T.D
        · rw [if_pos ⟨h2, h3⟩]
        · rw [if_neg (fun h => h3 h.2), hD l h1.2 h3]; exact hI.saidMe _
      · rw [if_neg h2, if_neg (fun h => h2 h.1)]
    · simp only [if_neg h1]; split <;> rfl
/-- What do returns, and the model behind it. -/
def DoOut (mb : Nat) (a : Option Addr) (n c : Nat) (a' : Option Addr) (m c' : Nat) (p : Pn) (at' : Nat) (T : Tb) (X : List (Int × Int × Int)) (E : Int) (w : World) (e : Ending) (w' : World) : Prop :=
  ∃ a2 c2, e = .returned (.tuple #[.slice a2 X.length c2, .int .i64 E]) ∧ NRow w' a2 X.length c2 X ∧ MW w' mb a n c a' m c' p at' T ∧ Exc (fun q => q = mb) w w' ∧ ∀ z, a2 = some z → w.heap.size ≤ z.block
def nbK (P : List (Int × Bool)) (N : List Int) (k : Nat) : List Int := ((codesP P).take k).filter fun c => decide (c ∈ N)
theorem nbK_zero (P : List (Int × Bool)) (N : List Int) : nbK P N 0 = [] := rfl
theorem nbK_snoc (P : List (Int × Bool)) (N : List Int) {k : Nat} (hk : k < P.length) : nbK P N (k + 1) = nbK P N k ++ (if pc P k ∈ N then [pc P k] else []) := by
  unfold nbK
  rw [take_one (by rw [codesP_length]; exact hk), List.filter_append, codesP_getD]
  by_cases h : pc P k ∈ N
  · rw [if_pos h, List.filter_cons_of_pos (by simpa using h)]; rfl
  · rw [if_neg h, List.filter_cons_of_neg (by simpa using h)]; rfl
theorem nbK_le {P : List (Int × Bool)} {N : List Int} {k : Nat} : (nbK P N k).length ≤ P.length := by
  unfold nbK
  refine Nat.le_trans (List.length_filter_le _ _) ?_
  rw [List.length_take, codesP_length]; omega
theorem nbK_all {x : Nn} {p : Pn} {n m : Nat} (hp : PF x p n m) (t : Int) : nbK p.P (nbrs p t) n = nbrs p t := by
  unfold nbK
  rw [List.take_of_length_le (by rw [codesP_length, hp.len]; exact Nat.le_refl _)]
  rw [nbrs_filter hp.valid hp.asc t]
  unfold codesP
  refine List.filter_congr fun y hy => decide_eq_decide.2 ?_
  rw [List.mem_filter, decide_eq_true_eq]
  exact ⟨fun h => h.2, fun h => ⟨hy, h⟩⟩
theorem nbK_new {x : Nn} {p : Pn} {n m : Nat} (hp : PF x p n m) {N : List Int} {k : Nat} (hk : k < n) : pc p.P k ∉ nbK p.P N k := by
  intro h
  unfold nbK at h
  have h1 := (List.mem_filter.1 h).1
  obtain ⟨i, hi, e⟩ := List.getElem_of_mem h1
  rw [List.length_take, codesP_length] at hi
  have e2 : pc p.P i = pc p.P k := by
    rw [← e, List.getElem_take, ← codesP_getD, List.getD_eq_getElem?_getD, List.getElem?_eq_getElem (by rw [codesP_length]; omega)]; rfl
  have := (pc_inj hp (i := i) (j := k) (by omega) (by rw [hp.len]; exact hk)).1 e2
  omega
theorem Inv.meD {p : Pn} {at' : Nat} {T : Tb} (h : Inv p at' T) : pc p.P at' ∉ T.D := by rw [h.D]; intro h9; exact (mem_dests.1 h9).2 rfl
theorem Inv.toldL {p : Pn} {at' : Nat} {T : Tb} (h : Inv p at' T) (L : List Int) : Inv p at' (T.toldL L) := by
  refine h.said' _ (fun x => ?_) (fun x => ?_) (fun x y => ?_)
  · rw [if_neg fun h9 => h.meD h9.2.2.2.1]; exact h.saidMe x
  · rw [if_neg fun h9 => h9.2.2.2.2 rfl]; exact h.saidSelf x
  · split
    · exact T.st_range y
    · exact h.said x y
theorem Inv.told1 {p : Pn} {at' : Nat} {T : Tb} (h : Inv p at' T) (u : Int) : Inv p at' (T.told1 u) := by
  have h1 := h.saidL u T.D h.meD
  unfold Tb.told1
  by_cases ht : T.tr = true
  · rw [if_pos ht]; exact h1
  · rw [if_neg ht]; exact h
theorem Inv.destsLe {x : Nn} {p : Pn} {n m at' : Nat} {T : Tb} (hp : PF x p n m) (h : Inv p at' T) : T.D.length ≤ 6 := by
  rw [h.D]
  unfold destsP
  refine Nat.le_trans (List.length_filter_le _ _) ?_
  rw [codesP_length, hp.len]; exact hp.n6
theorem Tb.toldL_end {T : Tb} (ht : T.tr = false) (L : List Int) : T.toldL L = T := by
  unfold Tb.toldL
  have : (fun x y => if x ∈ L ∧ T.up x = true ∧ T.tr = true ∧ y ∈ T.D ∧ y ≠ x then T.st y else T.said x y) = T.said := by
    funext x y; rw [if_neg]; rintro ⟨_, _, h, _⟩; rw [ht] at h; cases h
  rw [this]
theorem note_new (V : World) (u d s : Int) : Own ((((V.alloc (.cells #[.int .u16 0, .int .u16 0, .int .u8 0] 54)).setCell ⟨V.heap.size, 0, none⟩ (.int .u16 u)).setCell ⟨V.heap.size, 1, none⟩ (.int .u16 d)).setCell ⟨V.heap.size, 2, none⟩ (.int .u8 s)) V.heap.size 54 [.int .u16 u, .int .u16 d, .int .u8 s] := by
  have h : Own (V.alloc (.cells #[.int .u16 0, .int .u16 0, .int .u8 0] 54)) V.heap.size 54 [.int .u16 0, .int .u16 0, .int .u8 0] := heap_alloc_new V _
  exact Own.set (Own.set (Own.set h 0 _) 1 _) 2 _
theorem rem_nat (k n : Nat) : (k : Int).tmod (n : Int) = ((k % n : Nat) : Int) := by rw [Int.tmod_eq_emod_of_nonneg (Int.natCast_nonneg _)]; rfl
end Go.Proofs.Ytdjmopipmeonlaa
/- What holds of a table holds behind each act. -/
namespace Go.Proofs.Ytdjmopipmeonlaa
set_option linter.unusedVariables false
open Go.RowKit Go.Maps

theorem Inv.ups {p : Pn} {at' : Nat} {T : Tb} (h : Inv p at' T) (u : Int) : Inv p at' (T.ups u) := ⟨h.me, h.tr, h.N, h.D, h.C, h.toldMe, h.toldSelf, h.saidMe, h.saidSelf, h.told, h.said⟩
theorem Inv.down {p : Pn} {at' : Nat} {T : Tb} (h : Inv p at' T) (u : Int) : Inv p at' (T.down u) := by
  have h1 : ∀ (f : Int → Int → Int) (x y : Int), (0 ≤ f x y ∧ f x y ≤ 2) → 0 ≤ (if x = u ∧ y ∈ T.D then 0 else f x y) ∧ (if x = u ∧ y ∈ T.D then 0 else f x y) ≤ 2 := fun f x y h9 => by
    split
    · exact ⟨Int.le_refl _, by decide⟩
    · exact h9
  have h2 : ∀ (f : Int → Int → Int) (x y : Int), f x y = 0 → (if x = u ∧ y ∈ T.D then 0 else f x y) = 0 := fun f x y h9 => by
    split
    · rfl
    · exact h9
  exact ⟨h.me, h.tr, h.N, h.D, h.C, fun x => h2 _ _ _ (h.toldMe x), fun x => h2 _ _ _ (h.toldSelf x), fun x => h2 _ _ _ (h.saidMe x), fun x => h2 _ _ _ (h.saidSelf x), fun x y => h1 _ _ _ (h.told x y), fun x y => h1 _ _ _ (h.said x y)⟩
theorem Inv.hear {p : Pn} {at' : Nat} {T : Tb} (h : Inv p at' T) {u d s : Int} (h1 : d ≠ pc p.P at') (h2 : d ≠ u) (h3 : 0 ≤ s ∧ s ≤ 2) : Inv p at' (T.hear u d s) := by
  refine ⟨h.me, h.tr, h.N, h.D, h.C, fun x => ?_, fun x => ?_, h.saidMe, h.saidSelf, fun x y => ?_, h.said⟩ <;> show _ <;> unfold Tb.hear
  · show upd2 T.told u d s x (pc p.P at') = 0
    rw [upd2_other fun h9 => h1 h9.2.symm]; exact h.toldMe x
  · show upd2 T.told u d s x x = 0
    rw [upd2_other fun h9 => h2 (h9.2.symm.trans h9.1)]; exact h.toldSelf x
  · show 0 ≤ upd2 T.told u d s x y ∧ upd2 T.told u d s x y ≤ 2
    unfold upd2; split
    · exact h3
    · exact h.told x y
theorem Inv.says {p : Pn} {at' : Nat} {T : Tb} (h : Inv p at' T) {u d s : Int} (h1 : d ≠ pc p.P at') (h2 : d ≠ u) (h3 : 0 ≤ s ∧ s ≤ 2) : Inv p at' (T.says u d s) := by
  refine h.said' _ (fun x => ?_) (fun x => ?_) (fun x y => ?_)
  · rw [upd2_other fun h9 => h1 h9.2.symm]; exact h.saidMe x
  · rw [upd2_other fun h9 => h2 (h9.2.symm.trans h9.1)]; exact h.saidSelf x
  · unfold upd2; split
    · exact h3
    · exact h.said x y
end Go.Proofs.Ytdjmopipmeonlaa
/- Tables that hear each other: what holds while everything is told. -/
namespace Go.Proofs.Ytdjmopipmeonlaa
set_option linter.unusedVariables false
open Go.RowKit Go.Maps

theorem Inv.memP {p : Pn} {q : Nat} {T : Tb} (h : Inv p q T) {x : Nn} {n m : Nat} (hp : PF x p n m) (hq : q < n) {k : Nat} (hk : k < n) (hne : k ≠ q) : pc p.P k ≠ T.me ∧ pc p.P k ∈ T.D := by
  have hlen := hp.len
  have h1 : pc p.P k ≠ pc p.P q := fun e => hne ((pc_inj hp (by omega) (by omega)).1 e)
  rw [h.me, h.D]
  refine ⟨h1, mem_dests.2 ⟨?_, h1⟩⟩
  unfold codesP pc
  rw [List.getD_eq_getElem?_getD, List.getElem?_eq_getElem (by omega)]
  exact List.mem_map_of_mem (List.getElem_mem _)
theorem stF_or (r0 : Int) : ∀ (l : List (Int × Int)) (acc : Int), Tb.stF r0 acc l = 0 ∨ Tb.stF r0 acc l = 1 ∨ (Tb.stF r0 acc l = acc ∧ ∀ x ∈ l, x.1 = 2)
  | [], acc => .inr (.inr ⟨rfl, by simp⟩)
  | (s, r) :: l, acc => by
    show (if s = 0 ∧ r = r0 then (0 : Int) else Tb.stF r0 (if s = 2 then acc else 1) l) = 0 ∨ (if s = 0 ∧ r = r0 then (0 : Int) else Tb.stF r0 (if s = 2 then acc else 1) l) = 1 ∨ ((if s = 0 ∧ r = r0 then (0 : Int) else Tb.stF r0 (if s = 2 then acc else 1) l) = acc ∧ _)
    split
    · exact .inl rfl
    · rcases stF_or r0 l (if s = 2 then acc else 1) with h | h | ⟨h, h2⟩
      · exact .inl h
      · exact .inr (.inl h)
      · by_cases e : s = 2
        · rw [if_pos e] at h ⊢
          exact .inr (.inr ⟨h, fun x hx => (List.mem_cons.1 hx).elim (fun h9 => by rw [h9]; exact e) (h2 x)⟩)
        · rw [if_neg e] at h ⊢
          exact .inr (.inl h)
theorem stF_all (r0 : Int) : ∀ (l : List (Int × Int)) (acc : Int), (∀ x ∈ l, x.1 = 2) → Tb.stF r0 acc l = acc
  | [], _, _ => rfl
  | (s, r) :: l, acc, h => by
    have e : s = 2 := h (s, r) (List.mem_cons_self)
    show (if s = 0 ∧ r = r0 then (0 : Int) else Tb.stF r0 (if s = 2 then acc else 1) l) = acc
    rw [if_neg (by omega), if_pos e]
    exact stF_all r0 l acc fun x hx => h x (List.mem_cons_of_mem _ hx)
theorem Tb.st_two (T : Tb) (d : Int) : T.st d = 2 ↔ ∀ c ∈ T.C d, T.byN c.1 d = 2 := by
  constructor
  · intro h c hc
    have h2 : Tb.stF ((T.C d).getD 0 (0, 0)).2 2 ((T.C d).map fun c => (T.byN c.1 d, c.2)) = 2 := h
    rcases stF_or ((T.C d).getD 0 (0, 0)).2 ((T.C d).map fun c => (T.byN c.1 d, c.2)) 2 with h3 | h3 | ⟨_, h3⟩
    · rw [h2] at h3; cases h3
    · rw [h2] at h3; cases h3
    · exact h3 (T.byN c.1 d, c.2) (List.mem_map_of_mem (f := fun c => (T.byN c.1 d, c.2)) hc)
  · intro h
    refine stF_all _ _ _ fun x hx => ?_
    obtain ⟨c, hc, rfl⟩ := List.mem_map.1 hx
    exact h c hc
theorem Tb.st_congr {T T' : Tb} {d : Int} (hC : T'.C d = T.C d) (h : ∀ c ∈ T.C d, T'.byN c.1 d = T.byN c.1 d) : T'.st d = T.st d := by
  unfold Tb.st
  rw [hC]
  congr 1
  refine List.map_congr_left fun c hc => ?_
  rw [h c hc]
theorem mem_tellL {T : Tb} {L : List Int} {u y s : Int} : (u, y, s) ∈ T.tellL L ↔ (u ∈ L ∧ T.up u = true) ∧ T.tr = true ∧ y ∈ T.D ∧ (y ≠ u ∧ T.st y ≠ T.said u y) ∧ s = T.st y := by
  unfold Tb.tellL
  rw [List.mem_flatMap]
  constructor
  · rintro ⟨v, hv, hm⟩
    rw [List.mem_filter] at hv
    unfold Tb.news at hm
    split at hm
    · rename_i ht
      unfold Tb.newsL at hm
      obtain ⟨d, hd, he⟩ := List.mem_map.1 hm
      rw [List.mem_filter] at hd
      cases he
      exact ⟨hv, ht, hd.1, of_decide_eq_true hd.2, rfl⟩
    · cases hm
  · rintro ⟨hv, ht, hd, hq, rfl⟩
    refine ⟨u, List.mem_filter.2 hv, ?_⟩
    unfold Tb.news Tb.newsL
    rw [if_pos ht]
    exact List.mem_map.2 ⟨y, List.mem_filter.2 ⟨hd, decide_eq_true hq⟩, rfl⟩

/-- A table that has heard the notes X of the place ci. -/
def hearP (T : Tb) (ci cj : Int) (X : List (Int × Int × Int)) (s : Int → Int) : Tb := { T with told := fun x y => if x = ci ∧ (cj, y, s y) ∈ X then s y else T.told x y }
theorem hearP_nil (T : Tb) (ci cj : Int) (s : Int → Int) : hearP T ci cj [] s = T := by
  unfold hearP; simp
theorem hearP_other {T : Tb} {ci cj u d v : Int} {X : List (Int × Int × Int)} {s : Int → Int} (h : u ≠ cj) : hearP T ci cj (X ++ [(u, d, v)]) s = hearP T ci cj X s := by
  unfold hearP
  congr 1
  funext x y
  have e : (cj, y, s y) ∈ X ++ [(u, d, v)] ↔ (cj, y, s y) ∈ X := by
    rw [List.mem_append, List.mem_singleton]
    exact ⟨fun h9 => h9.elim id fun h8 => absurd (congrArg Prod.fst h8).symm h, .inl⟩
  simp only [e]
theorem hearP_same {T : Tb} {ci cj d : Int} {X : List (Int × Int × Int)} {s : Int → Int} : hearP T ci cj (X ++ [(cj, d, s d)]) s = (hearP T ci cj X s).hear ci d (s d) := by
  unfold hearP Tb.hear
  show ({ T with told := _ } : Tb) = { T with told := _ }
  congr 1
  funext x y
  show (if x = ci ∧ (cj, y, s y) ∈ X ++ [(cj, d, s d)] then s y else T.told x y) = upd2 (fun x y => if x = ci ∧ (cj, y, s y) ∈ X then s y else T.told x y) ci d (s d) x y
  unfold upd2
  by_cases h1 : x = ci ∧ y = d
  · obtain ⟨rfl, rfl⟩ := h1
    rw [if_pos ⟨rfl, by simp⟩, if_pos ⟨rfl, rfl⟩]
  · rw [if_neg h1]
    have e : (x = ci ∧ (cj, y, s y) ∈ X ++ [(cj, d, s d)]) ↔ (x = ci ∧ (cj, y, s y) ∈ X) := by
      rw [List.mem_append, List.mem_singleton]
      constructor
      · rintro ⟨h2, h3 | h3⟩
        · exact ⟨h2, h3⟩
        · exact absurd ⟨h2, (congrArg (fun z : Int × Int × Int => z.2.1) h3)⟩ h1
      · exact fun h2 => ⟨h2.1, .inl h2.2⟩
    simp only [e]
/-- All tables, when the place i is as M, and the notes X of it have been heard. -/
def tabG (p : Pn) (Ts : Nat → Tb) (i : Nat) (M : Tb) (X : List (Int × Int × Int)) : Nat → Tb := fun j => if j = i then M else hearP (Ts j) (pc p.P i) (pc p.P j) X (Ts i).st
theorem tabG_me (p : Pn) (Ts : Nat → Tb) (i : Nat) (M : Tb) (X : List (Int × Int × Int)) : tabG p Ts i M X i = M := if_pos rfl
theorem tabG_other (p : Pn) (Ts : Nat → Tb) {i j : Nat} (h : j ≠ i) (M : Tb) (X : List (Int × Int × Int)) : tabG p Ts i M X j = hearP (Ts j) (pc p.P i) (pc p.P j) X (Ts i).st := if_neg h
/-- .. when the place i has told all. -/
def tabX (p : Pn) (Ts : Nat → Tb) (i : Nat) (X : List (Int × Int × Int)) : Nat → Tb := tabG p Ts i ((Ts i).toldL (Ts i).N) X
theorem tabX_me (p : Pn) (Ts : Nat → Tb) (i : Nat) (X : List (Int × Int × Int)) : tabX p Ts i X i = (Ts i).toldL (Ts i).N := if_pos rfl
theorem tabX_other (p : Pn) (Ts : Nat → Tb) {i j : Nat} (h : j ≠ i) (X : List (Int × Int × Int)) : tabX p Ts i X j = hearP (Ts j) (pc p.P i) (pc p.P j) X (Ts i).st := if_neg h

/-- The tables of all places: who is up for whom; what was told is what was said. -/
structure Net (p : Pn) (n : Nat) (U : Nat → Nat → Bool) (Ts : Nat → Tb) : Prop where
  inv : ∀ i, i < n → Inv p i (Ts i)
  up : ∀ i j, i < n → j < n → pc p.P j ∈ (Ts i).N → (Ts i).up (pc p.P j) = U i j
  sym : ∀ i j, U i j = U j i
  nb : ∀ i j, i < n → j < n → U i j = true → pc p.P j ∈ (Ts i).N
  eq : ∀ i j d, i < n → j < n → d < n → (Ts j).told (pc p.P i) (pc p.P d) = (Ts i).said (pc p.P j) (pc p.P d)
/-- The place k has told all about d. -/
def Told (p : Pn) (n : Nat) (U : Nat → Nat → Bool) (Ts : Nat → Tb) (k d : Nat) : Prop := ∀ j, j < n → U k j = true → j ≠ d → (Ts k).tr = true → (Ts k).said (pc p.P j) (pc p.P d) = (Ts k).st (pc p.P d)
/-- Heights: choices lead to lower places. -/
structure Hgt (p : Pn) (n : Nat) (h : Nat → Nat → Nat) : Prop where
  lt : ∀ d i, i < n → h d i < n
  low : ∀ d i T, i < n → d < n → i ≠ d → Inv p i T → ∀ c ∈ T.C (pc p.P d), ∃ b, b < n ∧ c.1 = pc p.P b ∧ h d b < h d i ∧ (pt p.P b = true ∨ b = d) ∧ pc p.P b ∈ T.N
theorem htN_top {n : Nat} {D : Nat → Int} {i : Nat} (hi : i < n) : htN n D i < n := by
  have h := countP_lt (p := fun k => lowerB D k i) (q := fun _ => true) (l := List.range n) (fun _ _ _ => rfl) ⟨i, List.mem_range.2 hi, rfl, lowerB_irrefl⟩
  simpa [htN] using h
theorem hgt_ex {x : Nn} {p : Pn} {n m : Nat} {Ts : Nat → Tb} (hp : PF x p n m) (hI : ∀ i, i < n → Inv p i (Ts i)) : ∃ h, Hgt p n h := by
  have hlen := hp.len
  have hn2 := hp.n2
  have h1 : ∀ d, ∃ l, d < n → DisOk p (pc p.P d) l := fun d => by
    by_cases hd : d < n
    · obtain ⟨i, hi, hne⟩ : ∃ i, i < n ∧ i ≠ d := by
        by_cases e : d = 0
        · exact ⟨1, by omega, by omega⟩
        · exact ⟨0, by omega, fun h => e h.symm⟩
      obtain ⟨l, hl, _⟩ := (hI i hi).C d (by omega) (Ne.symm hne)
      exact ⟨l, fun _ => hl⟩
    · exact ⟨[], fun h => absurd h hd⟩
  obtain ⟨f, hf⟩ := Classical.axiomOfChoice h1
  refine ⟨fun d i => htN n (fun y => d99 ((f d).getD y 0)) i, fun d i hi => htN_top hi, fun d i T hi hd hne hT c hc => ?_⟩
  obtain ⟨l, hl, hC⟩ := hT.C d (by omega) (Ne.symm hne)
  rw [hC] at hc
  unfold chC at hc
  obtain ⟨y, hy, rfl⟩ := List.mem_map.1 hc
  obtain ⟨_, h2, h3⟩ := mem_chL.1 hy
  simp only [isCh, stepB, Bool.and_eq_true, Bool.or_eq_true, decide_eq_true_eq] at h3
  refine ⟨y.2, by omega, rfl, ?_, ?_, ?_⟩
  · refine htN_lt (by omega) ?_
    have h4 := h3.1.2
    have e1 := hl.dist.uniq (hf d hd).dist (i := y.2) (by omega)
    have e2 := hl.dist.uniq (hf d hd).dist (i := i) (by omega)
    simp only [lowerB, Bool.or_eq_true, Bool.and_eq_true, decide_eq_true_eq] at h4 ⊢
    rw [← e1, ← e2]
    exact h4
  · rcases h3.2.2 with h4 | h4
    · exact .inl h4
    · exact .inr ((pc_inj hp (by omega) (by omega)).1 h4)
  · rw [hT.N, mem_nbrs hp.valid]
    exact h3.2.1
end Go.Proofs.Ytdjmopipmeonlaa
