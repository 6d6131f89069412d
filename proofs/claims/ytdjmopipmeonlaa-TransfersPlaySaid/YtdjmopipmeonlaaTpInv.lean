/- Joined: TpAct TpInv. -/
import Derived.Test.YtdjmopipmeonlaaTpSame
import Derived.BigQuiet
import Derived.StillTailTactics
/- What an act does to a table, as plain data; the model behind each change. -/
namespace Go.Proofs.Ytdjmopipmeonlaa
set_option linter.unusedVariables false
open Go.RowKit Go.Maps

/-- The value of an act. -/
def actV (x0 x1 x2 x3 : Nat) : Value := .agg #[.int .u8 x0, .int .u8 x1, .int .u8 x2, .int .u8 x3]
theorem MW.ups {x : Nn} {w : World} {mb : Nat} {a : Option Addr} {n c : Nat} {a' : Option Addr} {m c' : Nat} {p : Pn} {at' : Nat} {T : Tb} (h : MW w mb a n c a' m c' p at' T) (hp : PF x p n m) (hap : Apart mb a a') {i : Nat} (hi : i < n) (hN : pc p.P i ∈ T.N) : MW (w.setCell ⟨mb, 8 + i, none⟩ (.bool true)) mb a n c a' m c' p at' (T.ups (pc p.P i)) := by
  have hlen := hp.len
  have hn6 := hp.n6
  have hx : Exc (fun q => q = mb) w (w.setCell ⟨mb, 8 + i, none⟩ (.bool true)) := Exc.setCell (S := fun q => q = mb) (Exc.refl _ w) _ (.inl rfl) _
  refine ⟨(h.md.sUp (a := i) (by omega) true).congr ?_ (fun _ _ => rfl) (fun _ _ _ _ => rfl) (fun _ _ _ _ => rfl), h.row.exc hx fun z hz => Nat.ne_of_lt (hap.p z hz), h.lrow.exc hx fun z hz => Nat.ne_of_lt (hap.l z hz)⟩
  intro k hk
  show (decide (k < p.P.length) && (T.ups (pc p.P i)).isUp (pc p.P k)) = updU (mdOf T p).up i true k
  unfold updU
  by_cases h1 : k = i
  · subst h1
    rw [if_pos rfl, decide_eq_true (show k < p.P.length by omega)]
    unfold Tb.isUp Tb.ups
    simp [upd1_same, hN]
  · rw [if_neg h1]
    unfold mdOf Tb.isUp Tb.ups
    by_cases h2 : k < p.P.length
    · have h3 : ¬ pc p.P k = pc p.P i := fun e => h1 ((pc_inj hp h2 (by omega)).1 e)
      simp [upd1_other h3]
    · simp [h2]
theorem MW.hears {x : Nn} {w : World} {mb : Nat} {a : Option Addr} {n c : Nat} {a' : Option Addr} {m c' : Nat} {p : Pn} {at' : Nat} {T : Tb} (h : MW w mb a n c a' m c' p at' T) (hp : PF x p n m) (hap : Apart mb a a') {i j : Nat} (hi : i < n) (hj : j < n) (s : Int) : MW (w.setCell ⟨mb, 20 + i * 6 + j, none⟩ (.int .u8 s)) mb a n c a' m c' p at' (T.hear (pc p.P i) (pc p.P j) s) := by
  have hlen := hp.len
  have hn6 := hp.n6
  have hx : Exc (fun q => q = mb) w (w.setCell ⟨mb, 20 + i * 6 + j, none⟩ (.int .u8 s)) := Exc.setCell (S := fun q => q = mb) (Exc.refl _ w) _ (.inl rfl) _
  refine ⟨(h.md.sTold (a := i) (c := j) (by omega) (by omega) s).congr (fun _ _ => rfl) (fun _ _ => rfl) ?_ (fun _ _ _ _ => rfl), h.row.exc hx fun z hz => Nat.ne_of_lt (hap.p z hz), h.lrow.exc hx fun z hz => Nat.ne_of_lt (hap.l z hz)⟩
  intro k hk l hl
  show (if k < p.P.length ∧ l < p.P.length then upd2 T.told (pc p.P i) (pc p.P j) s (pc p.P k) (pc p.P l) else 0) = updT (mdOf T p).told i j s k l
  unfold upd2 updT mdOf
  by_cases h1 : k < p.P.length ∧ l < p.P.length
  · rw [if_pos h1]
    simp only [pc_inj hp h1.1 (show i < p.P.length by omega), pc_inj hp h1.2 (show j < p.P.length by omega), if_pos h1]
  · rw [if_neg h1, if_neg (by omega)]
    simp only [if_neg h1]
/-- The world behind the model's Down. -/
def downW (w : World) (mb i : Nat) : World := (((((((((((((w.setCell ⟨mb, 8 + i, none⟩ (.bool false)).setCell ⟨mb, 20 + i * 6 + 0, none⟩ (.int .u8 0)).setCell ⟨mb, 20 + i * 6 + 1, none⟩ (.int .u8 0)).setCell ⟨mb, 20 + i * 6 + 2, none⟩ (.int .u8 0)).setCell ⟨mb, 20 + i * 6 + 3, none⟩ (.int .u8 0)).setCell ⟨mb, 20 + i * 6 + 4, none⟩ (.int .u8 0)).setCell ⟨mb, 20 + i * 6 + 5, none⟩ (.int .u8 0)).setCell ⟨mb, 56 + i * 6 + 0, none⟩ (.int .u8 0)).setCell ⟨mb, 56 + i * 6 + 1, none⟩ (.int .u8 0)).setCell ⟨mb, 56 + i * 6 + 2, none⟩ (.int .u8 0)).setCell ⟨mb, 56 + i * 6 + 3, none⟩ (.int .u8 0)).setCell ⟨mb, 56 + i * 6 + 4, none⟩ (.int .u8 0)).setCell ⟨mb, 56 + i * 6 + 5, none⟩ (.int .u8 0)).drew
def zrow (f : Nat → Nat → Int) (a : Nat) : Nat → Nat → Int := fun i j => if i = a then 0 else f i j
theorem zrow_six (f : Nat → Nat → Int) (a i j : Nat) (hj : j < 6) : updT (updT (updT (updT (updT (updT f a 0 0) a 1 0) a 2 0) a 3 0) a 4 0) a 5 0 i j = zrow f a i j := by
  unfold updT zrow
  by_cases h : i = a
  · subst h
    rw [if_pos rfl]
    rcases (by omega : j = 0 ∨ j = 1 ∨ j = 2 ∨ j = 3 ∨ j = 4 ∨ j = 5) with rfl | rfl | rfl | rfl | rfl | rfl <;> simp
  · simp [h]
theorem MdAt.downs {w : World} {mb : Nat} {pl : List Value} {at' : Nat} {M : Md} (h : MdAt w mb pl at' M) {i : Nat} (hi : i < 6) : MdAt (downW w mb i) mb pl at' ⟨updU M.up i false, M.near, zrow M.told i, zrow M.said i⟩ := by
  have h1 := h.sUp (a := i) hi false
  have h2 := (((((h1.sTold (a := i) (c := 0) hi (by omega) 0).sTold (a := i) (c := 1) hi (by omega) 0).sTold (a := i) (c := 2) hi (by omega) 0).sTold (a := i) (c := 3) hi (by omega) 0).sTold (a := i) (c := 4) hi (by omega) 0).sTold (a := i) (c := 5) hi (by omega) 0
  have h3 := (((((h2.sSaid (a := i) (c := 0) hi (by omega) 0).sSaid (a := i) (c := 1) hi (by omega) 0).sSaid (a := i) (c := 2) hi (by omega) 0).sSaid (a := i) (c := 3) hi (by omega) 0).sSaid (a := i) (c := 4) hi (by omega) 0).sSaid (a := i) (c := 5) hi (by omega) 0
  exact (h3.below (below_draw _ 1)).congr (fun _ _ => rfl) (fun _ _ => rfl) (fun k _ l hl => (zrow_six _ _ _ _ hl).symm) (fun k _ l hl => (zrow_six _ _ _ _ hl).symm)
theorem Exc.downs {w v : World} {mb i : Nat} (h : Exc (fun q => q = mb) w v) : Exc (fun q => q = mb) w (downW v mb i) := by
  unfold downW
  refine Exc.drawN ?_ 1
  iterate 13 refine Exc.setCell (S := fun q => q = mb) ?_ _ (.inl rfl) _
  exact h
theorem MW.downs {x : Nn} {w : World} {mb : Nat} {a : Option Addr} {n c : Nat} {a' : Option Addr} {m c' : Nat} {p : Pn} {at' : Nat} {T : Tb} (h : MW w mb a n c a' m c' p at' T) (hp : PF x p n m) (hap : Apart mb a a') {i : Nat} (hi : i < n) (hI : Inv p at' T) (w' : World) (hx : Exc (fun q => q = mb) w w') (hm : MdAt w' mb (planCells a n c a' m c' p) at' ⟨updU (mdOf T p).up i false, (mdOf T p).near, zrow (mdOf T p).told i, zrow (mdOf T p).said i⟩) : MW w' mb a n c a' m c' p at' (T.down (pc p.P i)) := by
  have hlen := hp.len
  have hD : ∀ l, l < p.P.length → ¬ pc p.P l ∈ T.D → pc p.P l = pc p.P at' := fun l hl hn => by
    rw [hI.D] at hn
    refine Classical.byContradiction fun h9 => hn (mem_dests.2 ⟨?_, h9⟩)
    unfold codesP pc
    rw [List.getD_eq_getElem?_getD, List.getElem?_eq_getElem hl]
    exact List.mem_map_of_mem (List.getElem_mem hl)
  refine ⟨hm.congr ?_ (fun _ _ => rfl) ?_ ?_, h.row.exc hx fun z hz => Nat.ne_of_lt (hap.p z hz), h.lrow.exc hx fun z hz => Nat.ne_of_lt (hap.l z hz)⟩
  · intro k hk
    show (decide (k < p.P.length) && (T.down (pc p.P i)).isUp (pc p.P k)) = updU (mdOf T p).up i false k
    unfold updU
    by_cases h1 : k = i
    · subst h1
      rw [if_pos rfl]
      unfold Tb.isUp Tb.down
      simp [upd1_same]
    · rw [if_neg h1]
      unfold mdOf Tb.isUp Tb.down
      by_cases h2 : k < p.P.length
      · have h3 : ¬ pc p.P k = pc p.P i := fun e => h1 ((pc_inj hp h2 (by omega)).1 e)
        simp [upd1_other h3]
      · simp [h2]
  · intro k hk l hl
    show (if k < p.P.length ∧ l < p.P.length then (if pc p.P k = pc p.P i ∧ pc p.P l ∈ T.D then 0 else T.told (pc p.P k) (pc p.P l)) else 0) = zrow (mdOf T p).told i k l
    unfold zrow mdOf
    by_cases h1 : k < p.P.length ∧ l < p.P.length
    · simp only [pc_inj hp h1.1 (show i < p.P.length by omega), if_pos h1]
      by_cases h2 : k = i
      · rw [if_pos h2]
        by_cases h3 : pc p.P l ∈ T.D
        · rw [if_pos ⟨h2, h3⟩]
        · rw [if_neg (fun h => h3 h.2), hD l h1.2 h3]; exact hI.toldMe _
      · rw [if_neg h2, if_neg (fun h => h2 h.1)]
    · simp only [if_neg h1]; split <;> rfl
  · intro k hk l hl
    show (if k < p.P.length ∧ l < p.P.length then (if pc p.P k = pc p.P i ∧ pc p.P l ∈ T.D then 0 else T.said (pc p.P k) (pc p.P l)) else 0) = zrow (mdOf T p).said i k l
    unfold zrow mdOf
    by_cases h1 : k < p.P.length ∧ l < p.P.length
    · simp only [pc_inj hp h1.1 (show i < p.P.length by omega), if_pos h1]
      by_cases h2 : k = i
      · rw [if_pos h2]
        by_cases h3 : pc p.P l ∈ T.D
        · rw [if_pos ⟨h2, h3⟩]
        · rw [if_neg (fun h => h3 h.2), hD l h1.2 h3]; exact hI.saidMe _
      · rw [if_neg h2, if_neg (fun h => h2 h.1)]
    · simp only [if_neg h1]; split <;> rfl
/-- What do returns, and the model behind it. -/
def DoOut (mb : Nat) (a : Option Addr) (n c : Nat) (a' : Option Addr) (m c' : Nat) (p : Pn) (at' : Nat) (T : Tb) (X : List (Int × Int × Int)) (E : Int) (w : World) (e : Ending) (w' : World) : Prop :=
  ∃ a2 c2, e = .returned (.tuple #[.slice a2 X.length c2, .int .i64 E]) ∧ NRow w' a2 X.length c2 X ∧ MW w' mb a n c a' m c' p at' T ∧ Exc (fun q => q = mb) w w' ∧ ∀ z, a2 = some z → w.heap.size ≤ z.block
def nbK (P : List (Int × Bool)) (N : List Int) (k : Nat) : List Int := ((codesP P).take k).filter fun c => decide (c ∈ N)
theorem nbK_zero (P : List (Int × Bool)) (N : List Int) : nbK P N 0 = [] := rfl
theorem nbK_snoc (P : List (Int × Bool)) (N : List Int) {k : Nat} (hk : k < P.length) : nbK P N (k + 1) = nbK P N k ++ (if pc P k ∈ N then [pc P k] else []) := by
  unfold nbK
  rw [take_one (by rw [codesP_length]; exact hk), List.filter_append, codesP_getD]
  by_cases h : pc P k ∈ N
  · rw [if_pos h, List.filter_cons_of_pos (by simpa using h)]; rfl
  · rw [if_neg h, List.filter_cons_of_neg (by simpa using h)]; rfl
theorem nbK_le {P : List (Int × Bool)} {N : List Int} {k : Nat} : (nbK P N k).length ≤ P.length := by
  unfold nbK
  refine Nat.le_trans (List.length_filter_le _ _) ?_
  rw [List.length_take, codesP_length]; omega
theorem nbK_all {x : Nn} {p : Pn} {n m : Nat} (hp : PF x p n m) (t : Int) : nbK p.P (nbrs p t) n = nbrs p t := by
  unfold nbK
  rw [List.take_of_length_le (by rw [codesP_length, hp.len]; exact Nat.le_refl _)]
  rw [nbrs_filter hp.valid hp.asc t]
  unfold codesP
  refine List.filter_congr fun y hy => decide_eq_decide.2 ?_
  rw [List.mem_filter, decide_eq_true_eq]
  exact ⟨fun h => h.2, fun h => ⟨hy, h⟩⟩
theorem nbK_new {x : Nn} {p : Pn} {n m : Nat} (hp : PF x p n m) {N : List Int} {k : Nat} (hk : k < n) : pc p.P k ∉ nbK p.P N k := by
  intro h
  unfold nbK at h
  have h1 := (List.mem_filter.1 h).1
  obtain ⟨i, hi, e⟩ := List.getElem_of_mem h1
  rw [List.length_take, codesP_length] at hi
  have e2 : pc p.P i = pc p.P k := by
    rw [← e, List.getElem_take, ← codesP_getD, List.getD_eq_getElem?_getD, List.getElem?_eq_getElem (by rw [codesP_length]; omega)]; rfl
  have := (pc_inj hp (i := i) (j := k) (by omega) (by rw [hp.len]; exact hk)).1 e2
  omega
theorem Inv.meD {p : Pn} {at' : Nat} {T : Tb} (h : Inv p at' T) : pc p.P at' ∉ T.D := by rw [h.D]; intro h9; exact (mem_dests.1 h9).2 rfl
theorem Inv.toldL {p : Pn} {at' : Nat} {T : Tb} (h : Inv p at' T) (L : List Int) : Inv p at' (T.toldL L) := by
  refine h.said' _ (fun x => ?_) (fun x => ?_) (fun x y => ?_)
  · rw [if_neg fun h9 => h.meD h9.2.2.2.1]; exact h.saidMe x
  · rw [if_neg fun h9 => h9.2.2.2.2 rfl]; exact h.saidSelf x
  · split
    · exact T.st_range y
    · exact h.said x y
theorem Inv.told1 {p : Pn} {at' : Nat} {T : Tb} (h : Inv p at' T) (u : Int) : Inv p at' (T.told1 u) := by
  have h1 := h.saidL u T.D h.meD
  unfold Tb.told1
  by_cases ht : T.tr = true
  · rw [if_pos ht]; exact h1
  · rw [if_neg ht]; exact h
theorem Inv.destsLe {x : Nn} {p : Pn} {n m at' : Nat} {T : Tb} (hp : PF x p n m) (h : Inv p at' T) : T.D.length ≤ 6 := by
  rw [h.D]
  unfold destsP
  refine Nat.le_trans (List.length_filter_le _ _) ?_
  rw [codesP_length, hp.len]; exact hp.n6
theorem Tb.toldL_end {T : Tb} (ht : T.tr = false) (L : List Int) : T.toldL L = T := by
  unfold Tb.toldL
  have : (fun x y => if x ∈ L ∧ T.up x = true ∧ T.tr = true ∧ y ∈ T.D ∧ y ≠ x then T.st y else T.said x y) = T.said := by
    funext x y; rw [if_neg]; rintro ⟨_, _, h, _⟩; rw [ht] at h; cases h
  rw [this]
theorem note_new (V : World) (u d s : Int) : Own ((((V.alloc (.cells #[.int .u16 0, .int .u16 0, .int .u8 0] 54)).setCell ⟨V.heap.size, 0, none⟩ (.int .u16 u)).setCell ⟨V.heap.size, 1, none⟩ (.int .u16 d)).setCell ⟨V.heap.size, 2, none⟩ (.int .u8 s)) V.heap.size 54 [.int .u16 u, .int .u16 d, .int .u8 s] := by
  have h : Own (V.alloc (.cells #[.int .u16 0, .int .u16 0, .int .u8 0] 54)) V.heap.size 54 [.int .u16 0, .int .u16 0, .int .u8 0] := heap_alloc_new V _
  exact Own.set (Own.set (Own.set h 0 _) 1 _) 2 _
theorem rem_nat (k n : Nat) : (k : Int).tmod (n : Int) = ((k % n : Nat) : Int) := by rw [Int.tmod_eq_emod_of_nonneg (Int.natCast_nonneg _)]; rfl
end Go.Proofs.Ytdjmopipmeonlaa
/- What holds of a table holds behind each act. -/
namespace Go.Proofs.Ytdjmopipmeonlaa
set_option linter.unusedVariables false
open Go.RowKit Go.Maps

theorem Inv.ups {p : Pn} {at' : Nat} {T : Tb} (h : Inv p at' T) (u : Int) : Inv p at' (T.ups u) := ⟨h.me, h.tr, h.N, h.D, h.C, h.toldMe, h.toldSelf, h.saidMe, h.saidSelf, h.told, h.said⟩
theorem Inv.down {p : Pn} {at' : Nat} {T : Tb} (h : Inv p at' T) (u : Int) : Inv p at' (T.down u) := by
  have h1 : ∀ (f : Int → Int → Int) (x y : Int), (0 ≤ f x y ∧ f x y ≤ 2) → 0 ≤ (if x = u ∧ y ∈ T.D then 0 else f x y) ∧ (if x = u ∧ y ∈ T.D then 0 else f x y) ≤ 2 := fun f x y h9 => by
    split
    · exact ⟨Int.le_refl _, by decide⟩
    · exact h9
  have h2 : ∀ (f : Int → Int → Int) (x y : Int), f x y = 0 → (if x = u ∧ y ∈ T.D then 0 else f x y) = 0 := fun f x y h9 => by
    split
    · rfl
    · exact h9
  exact ⟨h.me, h.tr, h.N, h.D, h.C, fun x => h2 _ _ _ (h.toldMe x), fun x => h2 _ _ _ (h.toldSelf x), fun x => h2 _ _ _ (h.saidMe x), fun x => h2 _ _ _ (h.saidSelf x), fun x y => h1 _ _ _ (h.told x y), fun x y => h1 _ _ _ (h.said x y)⟩
theorem Inv.hear {p : Pn} {at' : Nat} {T : Tb} (h : Inv p at' T) {u d s : Int} (h1 : d ≠ pc p.P at') (h2 : d ≠ u) (h3 : 0 ≤ s ∧ s ≤ 2) : Inv p at' (T.hear u d s) := by
  refine ⟨h.me, h.tr, h.N, h.D, h.C, fun x => ?_, fun x => ?_, h.saidMe, h.saidSelf, fun x y => ?_, h.said⟩ <;> show _ <;> unfold Tb.hear
  · show upd2 T.told u d s x (pc p.P at') = 0
    rw [upd2_other fun h9 => h1 h9.2.symm]; exact h.toldMe x
  · show upd2 T.told u d s x x = 0
    rw [upd2_other fun h9 => h2 (h9.2.symm.trans h9.1)]; exact h.toldSelf x
  · show 0 ≤ upd2 T.told u d s x y ∧ upd2 T.told u d s x y ≤ 2
    unfold upd2; split
    · exact h3
    · exact h.told x y
theorem Inv.says {p : Pn} {at' : Nat} {T : Tb} (h : Inv p at' T) {u d s : Int} (h1 : d ≠ pc p.P at') (h2 : d ≠ u) (h3 : 0 ≤ s ∧ s ≤ 2) : Inv p at' (T.says u d s) := by
  refine h.said' _ (fun x => ?_) (fun x => ?_) (fun x y => ?_)
  · rw [upd2_other fun h9 => h1 h9.2.symm]; exact h.saidMe x
  · rw [upd2_other fun h9 => h2 (h9.2.symm.trans h9.1)]; exact h.saidSelf x
  · unfold upd2; split
    · exact h3
    · exact h.said x y
end Go.Proofs.Ytdjmopipmeonlaa
