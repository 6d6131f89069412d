/- What the walks of frames share: slices of slices. -/
import Derived.Test.YtnecdmihnndebaaDoorBaseEx
namespace Go.Proofs.YtnecdmihnndebaaDoor
open Go.RowKit

/-! ## Slices of slices of octets -/
/-- A slice value that reads as l; with T: without spare; its block is one of P. -/
def RowV (w : World) (P : Nat → Prop) (T : Bool) (v : Value) (l : List Int) : Prop :=
  ∃ a c, v = .slice a l.length c ∧ Row .u8 w a l.length c l ∧ (T = true → c = l.length) ∧ ∀ z, a = some z → P z.block
theorem RowV.exc {S P : Nat → Prop} {T : Bool} {w w' : World} {v : Value} {l : List Int} (h : RowV w P T v l) (hx : Exc S w w') (hn : ∀ k, P k → ¬ S k) : RowV w' P T v l := by
  obtain ⟨a, c, rfl, hr, ht, hp⟩ := h
  exact ⟨a, c, rfl, hr.exc hx (fun x hxa => hn _ (hp x hxa)), ht, hp⟩
theorem RowV.mono {P P' : Nat → Prop} {T : Bool} {w : World} {v : Value} {l : List Int} (h : RowV w P T v l) (hp' : ∀ k, k < w.heap.size → P k → P' k) (hne : l ≠ [] ∨ ∀ k, P k → P' k) : RowV w P' T v l := by
  obtain ⟨a, c, rfl, hr, ht, hp⟩ := h
  refine ⟨a, c, rfl, hr, ht, fun z hz => ?_⟩
  rcases hne with hne | hne
  · rcases hr.cells with h0 | ⟨b, o, ha, hc⟩
    · exact absurd (List.eq_nil_of_length_eq_zero h0) hne
    · have := World.block_lt_of_cell? w _ (hc 0 (List.length_pos_iff.2 hne))
      rw [hz] at ha
      simp at ha
      subst ha
      exact hp' _ this (hp _ hz)
  · exact hne _ (hp z hz)
/-- A slice value (address, length, capacity) reads in w as the lists L. -/
structure Mat (w : World) (P : Nat → Prop) (T : Bool) (a : Option Addr) (n c : Nat) (L : List (List Int)) : Prop where
  len : L.length = n
  le : n ≤ c
  max : c ≤ maxLen
  cells : n = 0 ∨ ∃ b off, a = some ⟨b, off, none⟩ ∧ P b ∧ ∀ i, i < n → ∃ v, w.cell? ⟨b, off + i, none⟩ = some v ∧ RowV w P T v (L.getD i [])
  isNil : a = none → c = 0
theorem Mat.nil (w : World) (P : Nat → Prop) (T : Bool) : Mat w P T none 0 0 [] := ⟨rfl, Nat.le_refl _, Nat.zero_le _, .inl rfl, fun _ => rfl⟩
theorem Mat.exc {S P : Nat → Prop} {T : Bool} {w w' : World} {a : Option Addr} {n c : Nat} {L : List (List Int)} (h : Mat w P T a n c L) (hx : Exc S w w') (hn : ∀ k, P k → ¬ S k) : Mat w' P T a n c L := by
  refine ⟨h.len, h.le, h.max, ?_, h.isNil⟩
  rcases h.cells with h0 | ⟨b, off, ha, hp, hc⟩
  · exact .inl h0
  · refine .inr ⟨b, off, ha, hp, fun i hi => ?_⟩
    obtain ⟨v, hv, hr⟩ := hc i hi
    exact ⟨v, hx.cell hv (hn _ hp), hr.exc hx hn⟩
theorem Mat.later {P : Nat → Prop} {T : Bool} {w w' : World} {a : Option Addr} {n c : Nat} {L : List (List Int)} (h : Mat w P T a n c L) (hx : Below w.heap.size w w') : Mat w' P T a n c L :=
  h.exc (S := fun _ => False) (Exc.of_below hx) (fun _ _ hh => hh)
theorem RowV.later {P : Nat → Prop} {T : Bool} {w w' : World} {v : Value} {l : List Int} (h : RowV w P T v l) (hx : Below w.heap.size w w') : RowV w' P T v l :=
  h.exc (S := fun _ => False) (Exc.of_below hx) (fun _ _ hh => hh)
theorem Mat.weak {P P' : Nat → Prop} {T : Bool} {w : World} {a : Option Addr} {n c : Nat} {L : List (List Int)} (h : Mat w P T a n c L) (hp : ∀ k, P k → P' k) : Mat w P' T a n c L := by
  refine ⟨h.len, h.le, h.max, ?_, h.isNil⟩
  rcases h.cells with h0 | ⟨b, off, ha, hpb, hc⟩
  · exact .inl h0
  · refine .inr ⟨b, off, ha, hp _ hpb, fun i hi => ?_⟩
    obtain ⟨v, hv, hr⟩ := hc i hi
    exact ⟨v, hv, hr.mono (fun k _ => hp k) (.inr hp)⟩
theorem Mat.piece {P : Nat → Prop} {T : Bool} {w : World} {b o n c : Nat} {L : List (List Int)} (h : Mat w P T (some ⟨b, o, none⟩) n c L) (p m d : Nat) (hp : p + m ≤ n) (hd : m ≤ d) (hd2 : d + p ≤ c) : Mat w P T (some ⟨b, o + p, none⟩) m d ((L.drop p).take m) := by
  have := h.max
  refine ⟨by rw [List.length_take, List.length_drop, h.len]; omega, hd, by omega, ?_, by simp⟩
  rcases h.cells with h0 | ⟨b', off, ha, hpb, hc⟩
  · exact .inl (by omega)
  · simp at ha
    obtain ⟨rfl, rfl⟩ := ha
    refine .inr ⟨_, _, rfl, hpb, fun i hi => ?_⟩
    obtain ⟨v, hv, hr⟩ := hc (p + i) (by omega)
    refine ⟨v, by rw [Nat.add_assoc]; exact hv, ?_⟩
    have e : ((L.drop p).take m).getD i [] = L.getD (p + i) [] := by simp [List.getD_eq_getElem?_getD, hi]
    rw [e]; exact hr
/-- The like with a slice of the call's own. -/
structure OwnMat (w : World) (B : Nat) (P : Nat → Prop) (T : Bool) (v : Value) (L : List (List Int)) : Prop where
  own : ∃ vs, w.ownsRow B 23 1 v L.length vs ∧ ∀ i, i < L.length → RowV w P T (vs.getD i undef) (L.getD i [])
theorem OwnMat.nil (w : World) (B : Nat) (P : Nat → Prop) (T : Bool) : OwnMat w B P T (.slice none 0 0) [] := ⟨[], World.ownsRow_nil _ _ _ _, fun i hi => by simp at hi⟩
theorem OwnMat.exc {S P : Nat → Prop} {B : Nat} {T : Bool} {w w' : World} {v : Value} {L : List (List Int)} (h : OwnMat w B P T v L) (hx : Exc S w w') (hn : ∀ k, P k → ¬ S k) (hv : ∀ k, v.ownBlock = some k → ¬ S k) : OwnMat w' B P T v L := by
  obtain ⟨vs, ho, hr⟩ := h.own
  exact ⟨vs, ownsRow_exc ho hx hv, fun i hi => (hr i hi).exc hx hn⟩
theorem OwnMat.later {P : Nat → Prop} {B : Nat} {T : Bool} {w w' : World} {v : Value} {L : List (List Int)} (h : OwnMat w B P T v L) (hx : Below w.heap.size w w') : OwnMat w' B P T v L :=
  h.exc (S := fun _ => False) (Exc.of_below hx) (fun _ _ hh => hh) (fun _ _ hh => hh)
theorem OwnMat.weak {P P' : Nat → Prop} {B : Nat} {T : Bool} {w : World} {v : Value} {L : List (List Int)} (h : OwnMat w B P T v L) (hp : ∀ k, P k → P' k) : OwnMat w B P' T v L := by
  obtain ⟨vs, ho, hr⟩ := h.own
  exact ⟨vs, ho, fun i hi => (hr i hi).mono (fun k _ => hp k) (.inr hp)⟩
theorem OwnMat.mat {P : Nat → Prop} {B : Nat} {T : Bool} {w : World} {v : Value} {L : List (List Int)} (h : OwnMat w B P T v L) (hp : ∀ k, v.ownBlock = some k → P k) :
    ∃ a c, v = .slice a L.length c ∧ Mat w P T a L.length c L ∧ (∀ x, a = some x → x.spot = none ∧ P x.block) := by
  obtain ⟨vs, ho, hr⟩ := h.own
  rcases ho.2 with ⟨rfl, h0⟩ | ⟨g, cap, cur, rfl, hb, hg, hn, hc, hs, ht⟩
  · have : L = [] := List.eq_nil_of_length_eq_zero h0
    subst this
    exact ⟨none, 0, rfl, Mat.nil _ _ _, by simp⟩
  · refine ⟨_, cap, rfl, ⟨rfl, hn, hc, .inr ⟨g, 0, rfl, hp g rfl, fun i hi => ⟨vs.getD i undef, ?_, hr i hi⟩⟩, by simp⟩, fun x hx => by simp at hx; subst hx; exact ⟨rfl, hp g rfl⟩⟩
    rw [cell_of_row w g (0 + i) cur _ _ hg, Nat.zero_add]
    have hh := congrArg (fun z => z[i]?) ht
    simp only [List.getElem?_take, Nat.mul_one, hi, if_true] at hh
    rw [← Array.getElem?_toList, hh]
    have hvl : i < vs.length := by have := ho.1; omega
    simp [List.getD_eq_getElem?_getD, hvl]
theorem infoRow : (Tryd.prog.info? 23).map (fun i => (i.zero, i.size, i.bytes)) = some (some (.slice none 0 0), 1, 24) := by kernel_rfl
/-- append(v, l), v a slice of slices of the call's own. -/
theorem wpList_append_row {ops : Array Oper} {rest : List Oper} {o : Oper} {a : Act} {Q : Exit → Act → World → Prop} {w0 : World} (hgd : o.guard = none) (s x : Operand)
    (ho : o.op = .call { callee := .builtin .append, args := #[s, x], argTypes := #[51, 51] })
    (B : Nat) (P : Nat → Prop) (T : Bool) (v u : Value) (L : List (List Int)) (l : List Int) (hs : a.eval s = v) (hown : OwnMat w0 B P T v L) (hu : RowV w0 P T u l) (hPv : ∀ k, v.ownBlock = some k → ¬ P k) (hx : a.eval x = .slice (some ⟨w0.heap.size, 0, none⟩) 1 1)
    (hn : L.length + 1 ≤ 2199023255552) (hB : B ≤ w0.heap.size)
    (h : ∀ v' w', OwnMat w' B P T v' (L ++ [l]) → Grow v w0 v' w' → wpList Tryd.prog ops Q rest (a.put o.dst v') w') :
    wpList Tryd.prog ops Q (o :: rest) a (w0.alloc (.cells #[u] 23)) := by
  obtain ⟨i0, hi, hz0, hz1, hz2⟩ := info_parts infoRow
  obtain ⟨vs, hvs, hr⟩ := hown.own
  have hbb : (L.length + 1) * 24 ≤ 140737488355328 := by omega
  have hu1 : u.oneCell' = true := by obtain ⟨a, c, rfl, _⟩ := hu; rfl
  refine wpList_append_lies _ hgd s x _ ho B _ i0 (.slice none 0 0) 1 24 Tryd.underlying51 hi hz0 hz1 hz2 rfl (by decide) v L.length vs hs (hvs.alloc _) ⟨w0.heap.size, 0, none⟩ 1 1 [u] hx rfl (cell_one_new w0 _ _) (fun u' hu' => by simp at hu'; subst hu'; exact hu1) (by decide) (by unfold maxLen; omega) hbb (by simp; omega) (w0.heap.size + 1) (by simp) ?_
  intro g cap w' h1 h2 h3 h4
  have hexc : Exc (fun k => v.ownBlock = some k) w0 w' := ((Exc.refl _ w0).alloc _).trans (Exc.of_grown h2) (fun _ _ hh => hh)
  have hnS : ∀ k, P k → ¬ (v.ownBlock = some k) := fun k hk hh => hPv k hh hk
  refine h _ w' ⟨vs ++ [u], by simpa using h1, fun i hi => ?_⟩ ⟨hexc, ?_⟩
  · have hvl := hvs.1
    rw [List.length_append, List.length_singleton] at hi
    by_cases hil : i < L.length
    · have e1 : (vs ++ [u]).getD i undef = vs.getD i undef := by rw [List.getD_eq_getElem?_getD, List.getElem?_append_left (by omega), ← List.getD_eq_getElem?_getD]
      have e2 : (L ++ [l]).getD i [] = L.getD i [] := by rw [List.getD_eq_getElem?_getD, List.getElem?_append_left hil, ← List.getD_eq_getElem?_getD]
      rw [e1, e2]
      exact (hr i hil).exc hexc hnS
    · obtain rfl : i = L.length := by omega
      have e1 : (vs ++ [u]).getD L.length undef = u := by rw [List.getD_eq_getElem?_getD, List.getElem?_append_right (by omega)]; simp [show L.length - vs.length = 0 by omega]
      have e2 : (L ++ [l]).getD L.length [] = l := by rw [List.getD_eq_getElem?_getD, List.getElem?_append_right (by omega)]; simp
      rw [e1, e2]
      exact hu.exc hexc hnS
  · intro j hj
    simp only [Value.ownBlock, Option.some.injEq] at hj
    subst hj
    rcases h3 with h3 | h3
    · exact .inl h3
    · exact .inr (by omega)
/-- The rows that a call has gathered, and where they lie. -/
structure Gath (B : Nat) (T : Bool) (v : Value) (L : List (List Int)) (w : World) : Prop where
  mat : OwnMat w B (fun j => B ≤ j ∧ v.ownBlock ≠ some j ∧ j < w.heap.size) T v L
theorem Gath.nil (B : Nat) (T : Bool) (w : World) : Gath B T (.slice none 0 0) [] w := ⟨OwnMat.nil _ _ _ _⟩
theorem Gath.later {B : Nat} {T : Bool} {v : Value} {L : List (List Int)} {w w' : World} (h : Gath B T v L w) (hb : Below w.heap.size w w') : Gath B T v L w' :=
  ⟨(h.mat.later hb).weak fun _ ⟨h1, h2, h3⟩ => ⟨h1, h2, by have := hb.size; omega⟩⟩
theorem Gath.add {B : Nat} {T : Bool} {v v' : Value} {L : List (List Int)} {l : List Int} {w w' : World} (h : OwnMat w' B (fun j => B ≤ j ∧ v.ownBlock ≠ some j ∧ j < w.heap.size) T v' (L ++ [l])) (hg : Grow v w v' w') : Gath B T v' (L ++ [l]) w' :=
  ⟨h.weak fun j ⟨h1, h2, h3⟩ => ⟨h1, fun hh => by rcases hg.lies j hh with h4 | h4; exact h2 h4; omega, by have := hg.exc.size; omega⟩⟩
theorem Gath.row {B : Nat} {T : Bool} {v u : Value} {L : List (List Int)} {l : List Int} {w w' : World} (h : Gath B T v L w) (hB : B ≤ w.heap.size) {P : Nat → Prop} (hu : RowV w' P T u l) (hP : ∀ j, P j → w.heap.size ≤ j ∧ j < w'.heap.size) : RowV w' (fun j => B ≤ j ∧ v.ownBlock ≠ some j ∧ j < w'.heap.size) T u l := by
  obtain ⟨vs, ho, _⟩ := h.mat.own
  refine hu.mono (fun j _ hj => ?_) (.inr fun j hj => ?_)
  · have := hP j hj; exact ⟨by omega, fun hh => by have := (ownBlock_lt ho hh).2; omega, this.2⟩
  · have := hP j hj; exact ⟨by omega, fun hh => by have := (ownBlock_lt ho hh).2; omega, this.2⟩
theorem Gath.lt {B : Nat} {T : Bool} {v : Value} {L : List (List Int)} {w : World} (h : Gath B T v L w) : ∀ j, v.ownBlock = some j → B ≤ j ∧ j < w.heap.size := by
  obtain ⟨vs, ho, _⟩ := h.mat.own
  exact fun j hj => ownBlock_lt ho hj
theorem Gath.done {B : Nat} {T : Bool} {v : Value} {L : List (List Int)} {w : World} (h : Gath B T v L w) : ∃ a c, v = .slice a L.length c ∧ Mat w (fun j => B ≤ j ∧ j < w.heap.size) T a L.length c L ∧ (∀ x, a = some x → x.spot = none ∧ B ≤ x.block ∧ x.block < w.heap.size) :=
  (h.mat.weak (P' := fun j => B ≤ j ∧ j < w.heap.size) fun _ ⟨h1, _, h3⟩ => ⟨h1, h3⟩).mat h.lt
end Go.Proofs.YtnecdmihnndebaaDoor
