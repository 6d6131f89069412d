/- Joined: TfMath AggRow PcCr. -/
import Derived.Test.YtdjmopipmeonlaaRows
import Derived.Test.YtdjmopipmeonlaaTfMap
/- Tables as plain data: statuses, what is told. -/
namespace Go.Proofs.Ytdjmopipmeonlaa
set_option linter.unusedVariables false

/-- What a table knows: its place, whether it transfers, neighbors, destinations, choices; which neighbors are up, what they told, what was said to them. -/
structure Tb where
  me : Int
  tr : Bool
  N : List Int
  D : List Int
  C : Int → List (Int × Int)
  up : Int → Bool
  told : Int → Int → Int
  said : Int → Int → Int
def upd1 (f : Int → Bool) (n : Int) (b : Bool) : Int → Bool := fun x => if x = n then b else f x
def upd2 (f : Int → Int → Int) (n d v : Int) : Int → Int → Int := fun x y => if x = n ∧ y = d then v else f x y
theorem upd1_same (f : Int → Bool) (n : Int) (b : Bool) : upd1 f n b n = b := if_pos rfl
theorem upd1_other {f : Int → Bool} {n x : Int} {b : Bool} (h : x ≠ n) : upd1 f n b x = f x := if_neg h
theorem upd2_same (f : Int → Int → Int) (n d v : Int) : upd2 f n d v n d = v := if_pos ⟨rfl, rfl⟩
theorem upd2_other {f : Int → Int → Int} {n d x y v : Int} (h : ¬ (x = n ∧ y = d)) : upd2 f n d v x y = f x y := if_neg h
namespace Tb
def isUp (T : Tb) (n : Int) : Bool := decide (n ∈ T.N) && T.up n
/-- The status of the choice of a neighbor. -/
def byN (T : Tb) (n d : Int) : Int := if T.isUp n then T.told n d else 2
def stF (r0 : Int) : Int → List (Int × Int) → Int
  | acc, [] => acc
  | acc, (s, r) :: l => if s = 0 ∧ r = r0 then 0 else stF r0 (if s = 2 then acc else 1) l
def sts (T : Tb) (d : Int) : List Int := (T.C d).map fun c => T.byN c.1 d
/-- The status of a destination. -/
def st (T : Tb) (d : Int) : Int := stF ((T.C d).getD 0 (0, 0)).2 2 ((T.C d).map fun c => (T.byN c.1 d, c.2))
/-- What must be told to a neighbor about these destinations, and what has been said then. -/
def newsL (T : Tb) (n : Int) (L : List Int) : List (Int × Int × Int) := (L.filter fun d => decide (d ≠ n ∧ T.st d ≠ T.said n d)).map fun d => (n, d, T.st d)
def saidL (T : Tb) (n : Int) (L : List Int) : Int → Int → Int := fun x y => if x = n ∧ y ∈ L ∧ y ≠ n then T.st y else T.said x y
def news (T : Tb) (n : Int) : List (Int × Int × Int) := if T.tr then T.newsL n T.D else []
def told1 (T : Tb) (n : Int) : Tb := { T with said := if T.tr then T.saidL n T.D else T.said }
/-- .. to these neighbors. -/
def tellL (T : Tb) (L : List Int) : List (Int × Int × Int) := (L.filter T.up).flatMap T.news
def toldL (T : Tb) (L : List Int) : Tb := { T with said := fun x y => if x ∈ L ∧ T.up x = true ∧ T.tr = true ∧ y ∈ T.D ∧ y ≠ x then T.st y else T.said x y }
/-- What must be asked again. -/
def askD (T : Tb) (n : Int) (L : List Int) : List (Int × Int × Int) := (L.filter fun d => decide (T.isUp n = true ∧ T.told n d ≠ 0)).map fun d => (n, d, T.told n d)
def askL (T : Tb) (L : List Int) : List (Int × Int × Int) := L.flatMap fun n => T.askD n T.D
def down (T : Tb) (n : Int) : Tb := { T with up := upd1 T.up n false, told := fun x y => if x = n ∧ y ∈ T.D then 0 else T.told x y, said := fun x y => if x = n ∧ y ∈ T.D then 0 else T.said x y }
def ups (T : Tb) (n : Int) : Tb := { T with up := upd1 T.up n true }
def hear (T : Tb) (n d s : Int) : Tb := { T with told := upd2 T.told n d s }
def says (T : Tb) (n d s : Int) : Tb := { T with said := upd2 T.said n d s }
/-- Is there something to answer? -/
def ansB (T : Tb) (n d s : Int) : Bool := T.tr && T.isUp n && decide (d ∈ T.D) && decide (d ≠ n) && decide (T.st d ≠ s)
theorem newsL_snoc (T : Tb) (n : Int) (L : List Int) (d : Int) : T.newsL n (L ++ [d]) = T.newsL n L ++ (if d ≠ n ∧ T.st d ≠ T.said n d then [(n, d, T.st d)] else []) := by
  unfold newsL
  rw [List.filter_append, List.map_append]
  by_cases h : d ≠ n ∧ T.st d ≠ T.said n d
  · rw [if_pos h, List.filter_cons_of_pos (by simpa using h)]; rfl
  · rw [if_neg h, List.filter_cons_of_neg (by simpa using h)]; rfl
theorem newsL_le (T : Tb) (n : Int) (L : List Int) : (T.newsL n L).length ≤ L.length := by
  unfold newsL; rw [List.length_map]; exact List.length_filter_le _ _
theorem saidL_snoc_same {T : Tb} {n : Int} {L : List Int} {d : Int} (h : ¬ (d ≠ n ∧ T.st d ≠ T.said n d)) : T.saidL n (L ++ [d]) = T.saidL n L := by
  funext x y
  unfold saidL
  by_cases h1 : x = n ∧ y ∈ L ∧ y ≠ n
  · rw [if_pos h1, if_pos ⟨h1.1, List.mem_append_left _ h1.2.1, h1.2.2⟩]
  · by_cases h2 : x = n ∧ y ∈ L ++ [d] ∧ y ≠ n
    · rw [if_neg h1, if_pos h2]
      obtain ⟨rfl, h3, h4⟩ := h2
      rcases List.mem_append.1 h3 with h5 | h5
      · exact absurd ⟨rfl, h5, h4⟩ h1
      · rw [List.mem_singleton] at h5
        subst h5
        exact Classical.byContradiction fun h6 => h ⟨h4, h6⟩
    · rw [if_neg h1, if_neg h2]
theorem saidL_snoc {T : Tb} {n : Int} {L : List Int} {d : Int} (h : d ≠ n) : T.saidL n (L ++ [d]) = upd2 (T.saidL n L) n d (T.st d) := by
  funext x y
  unfold upd2
  by_cases h1 : x = n ∧ y = d
  · obtain ⟨rfl, rfl⟩ := h1
    rw [if_pos ⟨rfl, rfl⟩]
    unfold saidL
    rw [if_pos ⟨rfl, by simp, h⟩]
  · rw [if_neg h1]
    unfold saidL
    by_cases h2 : x = n ∧ y ∈ L ∧ y ≠ n
    · rw [if_pos h2, if_pos ⟨h2.1, List.mem_append_left _ h2.2.1, h2.2.2⟩]
    · rw [if_neg h2, if_neg]
      rintro ⟨rfl, h3, h4⟩
      rcases List.mem_append.1 h3 with h5 | h5
      · exact h2 ⟨rfl, h5, h4⟩
      · rw [List.mem_singleton] at h5; exact h1 ⟨rfl, h5⟩
/-- Before a destination's turn nothing has been said about it. -/
theorem saidL_new {T : Tb} {n : Int} {L : List Int} {d : Int} (h : d ∉ L) : T.saidL n L n d = T.said n d := by
  unfold saidL; rw [if_neg fun h1 => h h1.2.1]
theorem saidL_nil (T : Tb) (n : Int) : T.saidL n [] = T.said := by
  funext x y; unfold saidL; rw [if_neg (by simp)]
/-- The status of a destination hangs on what is up and was told alone. -/
theorem st_said (T : Tb) (s : Int → Int → Int) (d : Int) : ({ T with said := s } : Tb).st d = T.st d := rfl
theorem tellL_snoc (T : Tb) (L : List Int) (n : Int) : T.tellL (L ++ [n]) = T.tellL L ++ (if T.up n then T.news n else []) := by
  unfold tellL
  rw [List.filter_append, List.flatMap_append]
  cases h : T.up n
  · rw [List.filter_cons_of_neg (by simp [h])]; simp
  · rw [List.filter_cons_of_pos h]; simp
theorem toldL_nil (T : Tb) : T.toldL [] = T := by
  unfold toldL; simp
theorem toldL_snoc_no {T : Tb} {L : List Int} {n : Int} (h : T.up n = false) : T.toldL (L ++ [n]) = T.toldL L := by
  unfold toldL
  congr 1
  funext x y
  by_cases h1 : x ∈ L ∧ T.up x = true ∧ T.tr = true ∧ y ∈ T.D ∧ y ≠ x
  · rw [if_pos h1, if_pos ⟨List.mem_append_left _ h1.1, h1.2⟩]
  · rw [if_neg h1, if_neg]
    rintro ⟨h2, h3⟩
    rcases List.mem_append.1 h2 with h4 | h4
    · exact h1 ⟨h4, h3⟩
    · rw [List.mem_singleton] at h4; subst h4; rw [h] at h3; cases h3.1
theorem toldL_news {T : Tb} {L : List Int} {n : Int} (h : n ∉ L) : (T.toldL L).news n = T.news n := by
  have e : (T.toldL L).newsL n (T.toldL L).D = T.newsL n T.D := by
    unfold newsL
    congr 1
    refine List.filter_congr fun d _ => ?_
    have e2 : (T.toldL L).said n d = T.said n d := if_neg fun h1 => h h1.1
    rw [e2]; rfl
  unfold news
  rw [e]; rfl
theorem toldL_snoc {T : Tb} {L : List Int} {n : Int} (h : T.up n = true) : T.toldL (L ++ [n]) = (T.toldL L).told1 n := by
  unfold told1
  show ({ T with said := _ } : Tb) = { T with said := _ }
  congr 1
  funext x y
  show (if x ∈ L ++ [n] ∧ T.up x = true ∧ T.tr = true ∧ y ∈ T.D ∧ y ≠ x then T.st y else T.said x y) = (if T.tr = true then (T.toldL L).saidL n T.D else (T.toldL L).said) x y
  cases ht : T.tr
  · simp [toldL, ht]
  · rw [if_pos rfl]
    unfold saidL
    have e : (T.toldL L).st y = T.st y := rfl
    rw [e]
    by_cases h1 : x = n ∧ y ∈ T.D ∧ y ≠ n
    · rw [if_pos h1]
      obtain ⟨rfl, h2, h3⟩ := h1
      rw [if_pos ⟨by simp, h, rfl, h2, h3⟩]
    · rw [if_neg h1]
      show _ = (if x ∈ L ∧ T.up x = true ∧ T.tr = true ∧ y ∈ T.D ∧ y ≠ x then T.st y else T.said x y)
      rw [ht]
      by_cases h2 : x ∈ L ∧ T.up x = true ∧ true = true ∧ y ∈ T.D ∧ y ≠ x
      · rw [if_pos h2, if_pos ⟨List.mem_append_left _ h2.1, h2.2⟩]
      · rw [if_neg h2, if_neg]
        rintro ⟨h3, h4⟩
        rcases List.mem_append.1 h3 with h5 | h5
        · exact h2 ⟨h5, h4⟩
        · rw [List.mem_singleton] at h5; subst h5; exact h1 ⟨rfl, h4.2.2.1, h4.2.2.2⟩
theorem askD_snoc (T : Tb) (n : Int) (L : List Int) (d : Int) : T.askD n (L ++ [d]) = T.askD n L ++ (if T.isUp n = true ∧ T.told n d ≠ 0 then [(n, d, T.told n d)] else []) := by
  unfold askD
  rw [List.filter_append, List.map_append]
  by_cases h : T.isUp n = true ∧ T.told n d ≠ 0
  · rw [if_pos h, List.filter_cons_of_pos (by simpa using h)]; rfl
  · rw [if_neg h, List.filter_cons_of_neg (by simpa using h)]; rfl
theorem askL_snoc (T : Tb) (L : List Int) (n : Int) : T.askL (L ++ [n]) = T.askL L ++ T.askD n T.D := by simp [askL]
theorem askD_le (T : Tb) (n : Int) (L : List Int) : (T.askD n L).length ≤ L.length := by
  unfold askD; rw [List.length_map]; exact List.length_filter_le _ _
theorem len_flat {α β : Type} (f : α → List β) (m : Nat) : ∀ L : List α, (∀ x ∈ L, (f x).length ≤ m) → (L.flatMap f).length ≤ L.length * m
  | [], _ => by simp
  | x :: L, h => by
    have h1 := len_flat f m L fun y hy => h y (List.mem_cons_of_mem _ hy)
    have h2 := h x (List.mem_cons_self)
    rw [List.flatMap_cons, List.length_append, List.length_cons, Nat.succ_mul]; omega
theorem askL_le (T : Tb) (L : List Int) : (T.askL L).length ≤ L.length * T.D.length := len_flat _ _ L fun n _ => T.askD_le n T.D
theorem news_le (T : Tb) (n : Int) : (T.news n).length ≤ T.D.length := by
  unfold news; split
  · exact T.newsL_le n T.D
  · exact Nat.zero_le _
theorem tellL_le (T : Tb) (L : List Int) : (T.tellL L).length ≤ L.length * T.D.length :=
  Nat.le_trans (len_flat _ _ _ fun n _ => T.news_le n) (Nat.mul_le_mul_right _ (List.length_filter_le _ _))
theorem stF_snoc (r0 : Int) : ∀ (l : List (Int × Int)) (acc s r : Int), (∀ x ∈ l, ¬ (x.1 = 0 ∧ x.2 = r0)) → stF r0 acc (l ++ [(s, r)]) = if s = 0 ∧ r = r0 then 0 else if s = 2 then stF r0 acc l else 1
  | [], acc, s, r, _ => by simp [stF]
  | (a, b) :: l, acc, s, r, h => by
    have h1 := h (a, b) (List.mem_cons_self)
    show (if a = 0 ∧ b = r0 then 0 else stF r0 (if a = 2 then acc else 1) (l ++ [(s, r)])) = _
    rw [if_neg h1, stF_snoc r0 l _ s r fun x hx => h x (List.mem_cons_of_mem _ hx)]
    show _ = if s = 0 ∧ r = r0 then 0 else if s = 2 then (if a = 0 ∧ b = r0 then 0 else stF r0 (if a = 2 then acc else 1) l) else 1
    rw [if_neg h1]
theorem stF_zero (r0 : Int) : ∀ (l m : List (Int × Int)) (acc : Int), (∃ x ∈ l, x.1 = 0 ∧ x.2 = r0) → stF r0 acc (l ++ m) = 0
  | [], m, acc, h => by obtain ⟨x, hx, _⟩ := h; cases hx
  | (a, b) :: l, m, acc, h => by
    show (if a = 0 ∧ b = r0 then 0 else stF r0 (if a = 2 then acc else 1) (l ++ m)) = 0
    by_cases h1 : a = 0 ∧ b = r0
    · rw [if_pos h1]
    · rw [if_neg h1]
      refine stF_zero r0 l m _ ?_
      obtain ⟨x, hx, h2⟩ := h
      rcases List.mem_cons.1 hx with rfl | hx
      · exact absurd h2 h1
      · exact ⟨x, hx, h2⟩
end Tb
end Go.Proofs.Ytdjmopipmeonlaa
/- Slices of structs that grow: k cells an element. -/
namespace Go.Proofs.Ytdjmopipmeonlaa
set_option linter.unusedVariables false
open Go.RowKit

theorem ownsK_exc {S : Nat → Prop} {w w' : World} {B e k n : Nat} {v : Value} {xs : List Value} (h : w.ownsRow B e k v n xs) (hx : Exc S w w') (hn : ∀ j, v.ownBlock = some j → ¬ S j) : w'.ownsRow B e k v n xs := by
  obtain ⟨h1, h2⟩ := h
  refine ⟨h1, ?_⟩
  rcases h2 with h2 | ⟨g, cap, cur, rfl, hg, hh, r⟩
  · exact .inl h2
  · refine .inr ⟨g, cap, cur, rfl, hg, ?_, r⟩
    rw [hx.block g (Array.getElem?_eq_some_iff.1 hh).1 (hn g rfl)]; exact hh
theorem ownsK_below {w w' : World} {B e k n : Nat} {v : Value} {xs : List Value} (h : w.ownsRow B e k v n xs) (hx : Below w.heap.size w w') : w'.ownsRow B e k v n xs :=
  ownsK_exc (S := fun _ => False) h (Exc.of_below hx) (fun _ _ h => h)
theorem ownsK_lt {w : World} {B e k n : Nat} {v : Value} {xs : List Value} (h : w.ownsRow B e k v n xs) {j : Nat} (hj : v.ownBlock = some j) : B ≤ j ∧ j < w.heap.size := by
  rcases h.2 with ⟨rfl, _⟩ | ⟨g, cap, cur, rfl, hg, hh, _⟩
  · cases hj
  · cases hj; exact ⟨hg, (Array.getElem?_eq_some_iff.1 hh).1⟩
/-- What a row of the call's own holds. -/
theorem ownsK_cells {w : World} {B e k n : Nat} {v : Value} {xs : List Value} (h : w.ownsRow B e k v n xs) (hn : 0 < n) : ∃ b c, v = .slice (some ⟨b, 0, none⟩) n c ∧ n ≤ c ∧ c ≤ maxLen ∧ B ≤ b ∧ b < w.heap.size ∧ (∀ i, i < n * k → w.cell? ⟨b, i, none⟩ = some (xs.getD i undef) ∧ w.frozen? ⟨b, i, none⟩ = false) := by
  rcases h.2 with ⟨rfl, h0⟩ | ⟨g, cap, cur, rfl, hb, hg, hle, hc, hs, ht⟩
  · omega
  · refine ⟨g, cap, rfl, hle, hc, hb, (Array.getElem?_eq_some_iff.1 hg).1, fun i hi => ⟨?_, frozen_of_row w g i cur e hg⟩⟩
    rw [cell_of_row w g i cur e _ hg]
    have hh := congrArg (fun z => z[i]?) ht
    simp only [List.getElem?_take, hi, if_true] at hh
    have hl : i < xs.length := by rw [h.1]; exact hi
    rw [← Array.getElem?_toList, hh, List.getD_eq_getElem?_getD, List.getElem?_eq_getElem hl]
    rfl
theorem ownsK_len {w : World} {B e k n : Nat} {v : Value} {xs : List Value} (h : w.ownsRow B e k v n xs) : ∃ a c, v = .slice a n c ∧ n ≤ c ∧ c ≤ maxLen := by
  rcases h.2 with ⟨rfl, h0⟩ | ⟨g, cap, cur, rfl, hb, hg, hle, hc, hs, ht⟩
  · subst h0; exact ⟨none, 0, rfl, Nat.le_refl _, Nat.zero_le _⟩
  · exact ⟨_, cap, rfl, hle, hc⟩
/-- append(v, s), v of the call's own, s a struct of k cells. -/
theorem wpList_append_agg {t e : TypeId} {z : Value} {k bytes : Nat} (ht : Try.prog.underlying t = some (.slice e)) (hin : (Try.prog.info? e).map (fun i => (i.zero, i.size, i.bytes)) = some (some z, k, bytes)) (hz : z.cells.size = k) (hk : 0 < k) (hby8 : bytes ≤ 64)
    {ops : Array Oper} {rest : List Oper} {o : Oper} {a : Act} {Q : Exit → Act → World → Prop} {w0 : World} (hgd : o.guard = none) (s x : Operand)
    (ho : o.op = .call { callee := .builtin .append, args := #[s, x], argTypes := #[t, t] })
    (B : Nat) (v : Value) (n : Nat) (xs cs : List Value) (hcl : cs.length = k) (h1 : ∀ u ∈ cs, u.oneCell' = true) (hs : a.eval s = v) (hown : w0.ownsRow B e k v n xs) (hx : a.eval x = .slice (some ⟨w0.heap.size, 0, none⟩) 1 1)
    (hn : n + 1 ≤ 1099511627776) (hB : B ≤ w0.heap.size)
    (h : ∀ v' w', w'.ownsRow B e k v' (n + 1) (xs ++ cs) → Grow v w0 v' w' → (∃ g c, v' = .slice (some ⟨g, 0, none⟩) (n + 1) c) → wpList Try.prog ops Q rest (a.put o.dst v') w') :
    wpList Try.prog ops Q (o :: rest) a (w0.alloc (.cells cs.toArray e)) := by
  obtain ⟨i0, hi, hz0, hz1, hz2⟩ := info_parts hin
  have hbb : (n + 1) * bytes ≤ 140737488355328 := by
    have : (n + 1) * bytes ≤ 1099511627776 * 64 := Nat.mul_le_mul hn hby8
    omega
  refine wpList_append_lies _ hgd s x t ho B e i0 z k bytes ht hi hz0 hz1 hz2 hz hk v n xs hs (ownsK_below hown (below_alloc w0 _)) ⟨w0.heap.size, 0, none⟩ 1 1 cs hx (by rw [Nat.one_mul]; exact hcl) (fun j u hj => ?_) h1 (by decide) (by unfold maxLen; omega) hbb (by simp; omega) (w0.heap.size + 1) (by simp) ?_
  · have hj0 := (List.getElem?_eq_some_iff.1 hj).1
    have ho : Own (w0.alloc (.cells cs.toArray e)) w0.heap.size e cs := heap_alloc_new w0 _
    have e1 : (⟨w0.heap.size, 0, none⟩ : Addr).add j = ⟨w0.heap.size, j, none⟩ := by unfold Addr.add; split <;> simp_all
    rw [e1, ho.cell j hj0, List.getD_eq_getElem?_getD, hj]; rfl
  · intro g cap w' h1 h2 h3 h4
    refine h _ w' h1 ⟨?_, ?_⟩ ⟨_, _, rfl⟩
    · exact ((Exc.refl _ w0).alloc _).trans (Exc.of_grown h2) (fun _ _ hh => hh)
    · intro j hj
      simp only [Value.ownBlock, Option.some.injEq] at hj
      subst hj
      rcases h3 with h3 | h3
      · exact .inl h3
      · exact .inr (by omega)
end Go.Proofs.Ytdjmopipmeonlaa
/- The cells of choices; slices that read as choices. -/
namespace Go.Proofs.Ytdjmopipmeonlaa
set_option linter.unusedVariables false
open Go.RowKit

def encC (x : Int × Int) : List Value := [.int .u16 x.1, .int .i64 x.2]
/-- The cells of choices. -/
def cellsC (X : List (Int × Int)) : List Value := X.flatMap encC
theorem cellsC_length (X : List (Int × Int)) : (cellsC X).length = X.length * 2 := by
  induction X with
  | nil => rfl
  | cons x X ih => simp only [cellsC, List.flatMap_cons, List.length_append, encC, List.length_cons, List.length_nil] at *; omega
theorem cellsC_getD (X : List (Int × Int)) {i : Nat} (hi : i < X.length) : (cellsC X).getD (i * 2) undef = .int .u16 (X.getD i (0, 0)).1 ∧ (cellsC X).getD (i * 2 + 1) undef = .int .i64 (X.getD i (0, 0)).2 := by
  induction X generalizing i with
  | nil => cases hi
  | cons x X ih =>
    cases i with
    | zero => simp [cellsC, encC]
    | succ i =>
      have h := ih (i := i) (by simpa using hi)
      have e : cellsC (x :: X) = .int .u16 x.1 :: .int .i64 x.2 :: cellsC X := rfl
      rw [e, show (i + 1) * 2 = i * 2 + 1 + 1 by omega]
      simp only [List.getD_cons_succ]
      exact h
/-- A slice value reads in w as the choices X. -/
structure CRow (w : World) (a : Option Addr) (n c : Nat) (X : List (Int × Int)) : Prop where
  len : X.length = n
  le : n ≤ c
  max : c ≤ maxLen
  cells : n = 0 ∨ ∃ b off, a = some ⟨b, off, none⟩ ∧ ∀ i, i < n → w.cell? ⟨b, off + i * 2, none⟩ = some (.int .u16 (X.getD i (0, 0)).1) ∧ w.cell? ⟨b, off + i * 2 + 1, none⟩ = some (.int .i64 (X.getD i (0, 0)).2)
theorem CRow.exc {S : Nat → Prop} {w w' : World} {a : Option Addr} {n c : Nat} {X : List (Int × Int)} (h : CRow w a n c X) (hx : Exc S w w') (hn : ∀ x, a = some x → ¬ S x.block) : CRow w' a n c X := by
  refine ⟨h.len, h.le, h.max, ?_⟩
  rcases h.cells with h0 | ⟨b, off, ha, hc⟩
  · exact .inl h0
  · have hb : ¬ S b := hn _ ha
    exact .inr ⟨b, off, ha, fun i hi => ⟨hx.cell (hc i hi).1 hb, hx.cell (hc i hi).2 hb⟩⟩
theorem CRow.later {w w' : World} {a : Option Addr} {n c : Nat} {X : List (Int × Int)} (h : CRow w a n c X) (hb : Below w.heap.size w w') : CRow w' a n c X :=
  h.exc (S := fun _ => False) (Exc.of_below hb) (fun _ _ h => h)
end Go.Proofs.Ytdjmopipmeonlaa
