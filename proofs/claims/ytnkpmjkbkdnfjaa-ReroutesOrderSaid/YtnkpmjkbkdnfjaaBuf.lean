/- A slice with memory of its own behind it, at any place of its block (v = v[k:] leaves it so), of elements of any size: append, a piece, what lies where. -/
import Derived.Test.YtnkpmjkbkdnfjaaBaseEx
import Derived.Deep.AppendSrc
import Derived.ArgAppend
namespace Go.Proofs.Ytnkpmjkbkdnfjaa
open Go.RowKit

/-- Cells laid one behind the other. -/
def setL : List Value → Nat → List Value → List Value
  | rs, _, [] => rs
  | rs, o, v :: vs => setL (rs.set o v) (o + 1) vs
theorem setL_length : ∀ (vs : List Value) (rs : List Value) (o : Nat), (setL rs o vs).length = rs.length
  | [], _, _ => rfl
  | v :: vs, rs, o => by rw [setL, setL_length vs]; simp
theorem setL_getD : ∀ (vs : List Value) (rs : List Value) (o j : Nat), o + vs.length ≤ rs.length → (setL rs o vs).getD j undef = if o ≤ j ∧ j < o + vs.length then vs.getD (j - o) undef else rs.getD j undef
  | [], rs, o, j, _ => by rw [setL, if_neg (by simp only [List.length_nil]; omega)]
  | v :: vs, rs, o, j, h => by
    have h' : o + 1 + vs.length ≤ (rs.set o v).length := by simp at h ⊢; omega
    rw [setL, setL_getD vs _ _ _ h']
    simp only [List.length_cons] at h ⊢
    by_cases h1 : o + 1 ≤ j ∧ j < o + 1 + vs.length
    · rw [if_pos h1, if_pos (by omega)]
      obtain ⟨i, rfl⟩ : ∃ i, j = o + 1 + i := ⟨j - (o + 1), by omega⟩
      rw [show o + 1 + i - (o + 1) = i by omega, show o + 1 + i - o = i + 1 by omega]
      rfl
    · rw [if_neg h1]
      by_cases h2 : j = o
      · subst h2
        rw [if_pos (by omega), Nat.sub_self]
        simp [List.getD_eq_getElem?_getD, show j < rs.length by omega]
      · rw [if_neg (by omega)]
        simp only [List.getD_eq_getElem?_getD]
        rw [List.getElem?_set_ne (fun hh => h2 hh.symm)]
theorem Own.setCells {b t : Nat} : ∀ (vs : List Value) {rs : List Value} (o : Nat) {w : World}, Own w b t rs → Own (w.setCells b o vs) b t (setL rs o vs)
  | [], _, _, _, h => h
  | v :: vs, rs, o, w, h => by
    rw [World.setCells, setL]
    exact Own.setCells vs (o + 1) (h.set o v)
theorem exc_setCells {b : Nat} {S : Nat → Prop} (hb : S b) : ∀ (vs : List Value) (o : Nat) {a w : World}, Exc S a w → Exc S a (w.setCells b o vs)
  | [], _, _, _, h => h
  | v :: vs, o, a, w, h => by
    rw [World.setCells]
    exact exc_setCells hb vs (o + 1) (h.setCell _ (.inl hb) v)
/-- A slice of n elements of sz cells each, the cells cs, in block g; its capacity's cells are there. -/
structure Buf (w : World) (t sz : Nat) (g : Option Nat) (a : Option Addr) (n c : Nat) (cs : List Value) : Prop where
  len : cs.length = n * sz
  le : n ≤ c
  max : c ≤ maxLen
  lies : (a = none ∧ g = none ∧ c = 0) ∨ ∃ k o rs, a = some ⟨k, o, none⟩ ∧ g = some k ∧ Own w k t rs ∧ o + c * sz ≤ rs.length ∧ ∀ j, j < n * sz → rs.getD (o + j) undef = cs.getD j undef
theorem Buf.nil (w : World) (t sz : Nat) : Buf w t sz none none 0 0 [] := ⟨by simp, Nat.le_refl _, Nat.zero_le _, .inl ⟨rfl, rfl, rfl⟩⟩
theorem Buf.lt {w : World} {t sz : Nat} {g : Option Nat} {a : Option Addr} {n c : Nat} {cs : List Value} (h : Buf w t sz g a n c cs) {k : Nat} (hk : g = some k) : k < w.heap.size := by
  rcases h.lies with ⟨_, h2, _⟩ | ⟨k', o, rs, _, h2, h3, _⟩
  · rw [h2] at hk; cases hk
  · rw [h2] at hk; cases hk; exact h3.lt
theorem Buf.block {w : World} {t sz : Nat} {g : Option Nat} {a : Option Addr} {n c : Nat} {cs : List Value} (h : Buf w t sz g a n c cs) {x : Addr} (hx : a = some x) : g = some x.block ∧ x.spot = none := by
  rcases h.lies with ⟨h1, _, _⟩ | ⟨k', o, rs, h1, h2, _⟩
  · rw [h1] at hx; cases hx
  · rw [h1] at hx; cases hx; exact ⟨h2, rfl⟩
theorem Buf.exc {S : Nat → Prop} {w w' : World} {t sz : Nat} {g : Option Nat} {a : Option Addr} {n c : Nat} {cs : List Value} (h : Buf w t sz g a n c cs) (hx : Exc S w w') (hn : ∀ k, g = some k → ¬ S k) : Buf w' t sz g a n c cs := by
  refine ⟨h.len, h.le, h.max, ?_⟩
  rcases h.lies with h1 | ⟨k, o, rs, h1, h2, h3, h4⟩
  · exact .inl h1
  · refine .inr ⟨k, o, rs, h1, h2, ?_, h4⟩
    unfold Own
    rw [hx.block k h3.lt (hn k h2)]
    exact h3
theorem Buf.later {w w' : World} {t sz : Nat} {g : Option Nat} {a : Option Addr} {n c : Nat} {cs : List Value} (h : Buf w t sz g a n c cs) (hx : Below w.heap.size w w') : Buf w' t sz g a n c cs :=
  h.exc (S := fun _ => False) (Exc.of_below hx) (fun _ _ h => h)
/-- What lies where. -/
theorem Buf.cell {w : World} {t sz : Nat} {g : Option Nat} {a : Option Addr} {n c : Nat} {cs : List Value} (h : Buf w t sz g a n c cs) (hn : 0 < n * sz) :
    ∃ k o, a = some ⟨k, o, none⟩ ∧ g = some k ∧ ∀ j, j < n * sz → w.cell? ⟨k, o + j, none⟩ = some (cs.getD j undef) := by
  rcases h.lies with ⟨_, _, h3⟩ | ⟨k, o, rs, h1, h2, h3, h4, h5⟩
  · have := h.le
    have : n = 0 := by omega
    subst this
    simp at hn
  · refine ⟨k, o, h1, h2, fun j hj => ?_⟩
    have hle : n * sz ≤ c * sz := Nat.mul_le_mul_right sz h.le
    rw [h3.cell (o + j) (by omega), h5 j hj]
theorem Buf.frozen {w : World} {t sz : Nat} {g : Option Nat} {a : Option Addr} {n c : Nat} {cs : List Value} (h : Buf w t sz g a n c cs) {k o : Nat} (ha : a = some ⟨k, o, none⟩) (j : Nat) : w.frozen? ⟨k, j, none⟩ = false := by
  rcases h.lies with ⟨h1, _⟩ | ⟨k', o', rs, h1, h2, h3, _⟩
  · rw [h1] at ha; cases ha
  · rw [h1] at ha; cases ha; exact h3.frozen j
/-- A piece from p on: v[p:]. At p = c the address stays. -/
theorem Buf.cut {w : World} {t sz : Nat} {g : Option Nat} {a : Option Addr} {n c : Nat} {cs : List Value} (h : Buf w t sz g a n c cs) (p : Nat) (hp : p ≤ n) (a' : Option Addr)
    (ha : p < c → ∀ b o, a = some ⟨b, o, none⟩ → a' = some ⟨b, o + p * sz, none⟩) (hc : p = c → a' = a) : Buf w t sz g a' (n - p) (c - p) (cs.drop (p * sz)) := by
  have hle := h.le
  refine ⟨by rw [List.length_drop, h.len, Nat.sub_mul], by omega, by have := h.max; omega, ?_⟩
  rcases h.lies with ⟨h1, h2, h3⟩ | ⟨k, o, rs, h1, h2, h3, h4, h5⟩
  · exact .inl ⟨by rw [hc (by omega)]; exact h1, h2, by omega⟩
  · right
    by_cases hpc : p < c
    · have hm : p * sz + (c - p) * sz = c * sz := by rw [← Nat.add_mul]; congr 1; omega
      have hm2 : p * sz + (n - p) * sz = n * sz := by rw [← Nat.add_mul]; congr 1; omega
      refine ⟨k, o + p * sz, rs, ha hpc k o h1, h2, h3, by omega, fun j hj => ?_⟩
      rw [Nat.add_assoc, h5 (p * sz + j) (by omega)]
      simp [List.getD_eq_getElem?_getD]
    · have e : p = c := by omega
      refine ⟨k, o, rs, by rw [hc e]; exact h1, h2, h3, by rw [show c - p = 0 by omega]; omega, fun j hj => ?_⟩
      rw [show n - p = 0 by omega] at hj
      omega
theorem getD_append_left {l k : List Value} {j : Nat} (h : j < l.length) : (l ++ k).getD j undef = l.getD j undef := by
  simp [List.getD_eq_getElem?_getD, List.getElem?_append_left h]
theorem getD_append_right {l k : List Value} {j : Nat} (h : l.length ≤ j) : (l ++ k).getD j undef = k.getD (j - l.length) undef := by
  simp [List.getD_eq_getElem?_getD, List.getElem?_append_right h]
/-- append(v, x...), whatever v's place; x a slice (nil too) or a string. -/
theorem run_append_buf {P : Program} {w : World} (t tx ty e : TypeId) (i : TypeInfo) (z : Value) (sz bytes : Nat) (ht : P.underlying t = some (.slice e)) (hi : P.info? e = some i) (hz : i.zero = some z) (hsize : i.size = sz) (hby : i.bytes = bytes) (hzs : z.cells.size = sz) (hsz : 0 < sz)
    (g : Option Nat) (a : Option Addr) (n c : Nat) (cs : List Value) (h : Buf w e sz g a n c cs) (x : Value) (m : Nat) (news : List Value) (hs : Src P sz tx x m news w)
    (h63 : n + m ≤ maxLen) (hbytes : (n + m) * bytes ≤ 140737488355328) :
    ∃ g' a' c' w', (Builtin.append_ #[t, tx] ty #[.slice a n c, x]).run P w = .ok (.slice a' (n + m) c') w' ∧ Buf w' e sz g' a' (n + m) c' (cs ++ news) ∧ Exc (fun k => g = some k) w w' ∧ (∀ k, g' = some k → g = some k ∨ w.heap.size ≤ k) := by
  have hle := h.le
  have hnl : (cs ++ news).length = (n + m) * sz := by rw [List.length_append, h.len, hs.newsLen, Nat.add_mul]
  have hroom2 : n * sz + m * sz = (n + m) * sz := (Nat.add_mul _ _ _).symm
  by_cases hroom : n + m ≤ c
  · have hm2 : (n + m) * sz ≤ c * sz := Nat.mul_le_mul_right sz hroom
    rcases h.lies with ⟨h1, h2, h3⟩ | ⟨k, o, rs, h1, h2, h3, h4, h5⟩
    · obtain rfl : m = 0 := by omega
      have hn0 : n = 0 := by omega
      subst h1
      subst hsize
      have hnews : news = [] := List.eq_nil_of_length_eq_zero (by rw [hs.newsLen]; simp)
      refine ⟨g, none, c, w, ?_, ?_, Exc.refl _ _, fun k hk => .inl hk⟩
      · rcases hs.kind with ⟨e', hk⟩ | hk <;> simp [Builtin.append_, run_underlying ht, run_underlying hk, sizeOf, typeInfo, hi, hs.len, hle, hs.cells]
      · rw [hnews, List.append_nil]; exact h
    · subst h1
      have hrun := run_append_room_src (P := P) (w := w) t tx ty e i ht hi k o n c x m news (by rw [hsize]; exact hs) hroom
        (fun j hj => by rw [hsize, h3.cell _ (by rw [hs.newsLen] at hj; omega)]; rfl) (fun j _ => h3.frozen _)
      rw [hsize] at hrun
      have hown := Own.setCells news (o + n * sz) h3
      refine ⟨g, _, c, _, hrun, ⟨hnl, hroom, h.max, .inr ⟨k, o, _, rfl, h2, hown, by rw [setL_length]; exact h4, fun j hj => ?_⟩⟩, exc_setCells h2 _ _ (Exc.refl _ _), fun k hk => .inl hk⟩
      rw [setL_getD _ _ _ _ (by rw [hs.newsLen]; omega)]
      by_cases hj2 : j < n * sz
      · rw [if_neg (by omega), h5 j hj2, getD_append_left (by rw [h.len]; exact hj2)]
      · rw [if_pos (by rw [hs.newsLen]; omega), getD_append_right (by rw [h.len]; omega), h.len]
        congr 1; omega
  · have hold : (Builtin.firstCells i.size n (.slice a n c)).run P w.drew = .ok cs.toArray w.drew := by
      rw [hsize]
      rcases h.lies with ⟨h1, h2, h3⟩ | ⟨k, o, rs, h1, h2, h3, h4, h5⟩
      · have hn0 : n = 0 := by omega
        subst hn0
        subst h1
        have : cs = [] := List.eq_nil_of_length_eq_zero (by rw [h.len]; simp)
        rw [this]; rfl
      · subst h1
        refine run_firstCells_some (P := P) w.drew sz n ⟨k, o, none⟩ n c cs h.len (fun j u hu => ?_)
        have hj : j < n * sz := by have := (List.getElem?_eq_some_iff.1 hu).1; rwa [h.len] at this
        rw [Addr.add_lit]
        show w.cell? _ = _
        have hle2 : n * sz ≤ c * sz := Nat.mul_le_mul_right sz hle
        rw [h3.cell (o + j) (by omega), h5 j hj]
        simp [List.getD_eq_getElem?_getD, hu]
    have hmx : n + m ≤ 9223372036854775807 := by unfold maxLen at h63; omega
    have hrun := run_append_grow_src (P := P) (w := w) t tx ty e i z ht hi hz a n c cs hold x m news (by rw [hsize]; exact hs) (by omega) (by omega) (by rw [hby]; exact growslice_fits (by omega) hbytes)
    have hge := grownCap_ge w (n + m) c e
    have hcm := grownCap_le_maxLen w (n + m) c e h63
    refine ⟨some w.heap.size, _, _, _, hrun, ⟨hnl, hge, hcm, .inr ⟨w.heap.size, 0, cs ++ news ++ (Builtin.zeroCells z.cells (grownCap w (n + m) c e - (n + m))).toList, rfl, rfl, ?_, ?_, ?_⟩⟩, ?_, fun k hk => .inr (by cases hk; exact Nat.le_refl _)⟩
    · unfold Own
      have := heap_alloc_new w.drew (.cells ((cs ++ news).toArray ++ Builtin.zeroCells z.cells (grownCap w (n + m) c e - (n + m))) e)
      refine Eq.trans this ?_
      congr 2
      apply Array.ext'
      simp
    · rw [List.length_append, hnl, Array.length_toList, size_zeroCells, hzs, Nat.zero_add, ← Nat.add_mul]
      exact Nat.le_of_eq (by congr 1; omega)
    · intro j hj
      rw [Nat.zero_add, getD_append_left (by rw [hnl]; exact hj)]
    · exact Exc.alloc (Exc.drawN (Exc.refl _ w) 1) _
/-- The same at an operation of a plain region. -/
theorem wpList_append_buf {P : Program} {w : World} {ops : Array Oper} {rest : List Oper} {o : Oper} {a : Act} {Q : Exit → Act → World → Prop} (hgd : Region.wanted o (yielded ops a.tmps) = true) (s x : Operand) (t tx : TypeId)
    (ho : o.op = .call { callee := .builtin .append, args := #[s, x], argTypes := #[t, tx] })
    (e : TypeId) (i : TypeInfo) (z : Value) (sz bytes : Nat) (ht : P.underlying t = some (.slice e)) (hi : P.info? e = some i) (hz : i.zero = some z) (hsize : i.size = sz) (hby : i.bytes = bytes) (hzs : z.cells.size = sz) (hsz : 0 < sz)
    (g : Option Nat) (ad : Option Addr) (n c : Nat) (cs : List Value) (hs : a.eval s = .slice ad n c) (h : Buf w e sz g ad n c cs) (xv : Value) (m : Nat) (news : List Value) (hx : a.eval x = xv) (hsrc : Src P sz tx xv m news w)
    (h63 : n + m ≤ maxLen) (hbytes : (n + m) * bytes ≤ 140737488355328)
    (hK : ∀ g' a' c' w', Buf w' e sz g' a' (n + m) c' (cs ++ news) → Exc (fun k => g = some k) w w' → (∀ k, g' = some k → g = some k ∨ w.heap.size ≤ k) → wpList P ops Q rest (a.put o.dst (.slice a' (n + m) c')) w') :
    wpList P ops Q (o :: rest) a w := by
  refine wpList_step fun K hK' => ?_
  rw [if_pos hgd]
  obtain ⟨g', a', c', w', hrun, h1, h2, h3⟩ := run_append_buf (P := P) (w := w) t tx o.type e i z sz bytes ht hi hz hsize hby hzs hsz g ad n c cs h xv m news hsrc h63 hbytes
  unfold Oper.wp
  simp [execOp, ho, resolve, invoke, builtin, hs, hx, hrun, Result.andThen]
  exact hK' _ _ (hK g' a' c' w' h1 h2 h3)
/-- The same at a step of a region that draws its order. -/
theorem step_append_buf {P : Program} {w : World} {ops : Array Oper} {o : Oper} {a : Act} {K : Act → World → Prop} {Q : Exit → Act → World → Prop} {E : Prop} (hgd : o.guard = none) (s x : Operand) (t tx : TypeId)
    (ho : o.op = .call { callee := .builtin .append, args := #[s, x], argTypes := #[t, tx] })
    (e : TypeId) (i : TypeInfo) (z : Value) (sz bytes : Nat) (ht : P.underlying t = some (.slice e)) (hi : P.info? e = some i) (hz : i.zero = some z) (hsize : i.size = sz) (hby : i.bytes = bytes) (hzs : z.cells.size = sz) (hsz : 0 < sz)
    (g : Option Nat) (ad : Option Addr) (n c : Nat) (cs : List Value) (hs : a.eval s = .slice ad n c) (h : Buf w e sz g ad n c cs) (xv : Value) (m : Nat) (news : List Value) (hx : a.eval x = xv) (hsrc : Src P sz tx xv m news w)
    (h63 : n + m ≤ maxLen) (hbytes : (n + m) * bytes ≤ 140737488355328)
    (hK : ∀ g' a' c' w', Buf w' e sz g' a' (n + m) c' (cs ++ news) → Exc (fun k => g = some k) w w' → (∀ k, g' = some k → g = some k ∨ w.heap.size ≤ k) → K (a.put o.dst (.slice a' (n + m) c')) w') :
    if Region.wanted o (yielded ops a.tmps) = true then Oper.wp P o a w K Q else E := by
  rw [if_pos (by simp [Region.wanted, hgd])]
  obtain ⟨g', a', c', w', hrun, h1, h2, h3⟩ := run_append_buf (P := P) (w := w) t tx o.type e i z sz bytes ht hi hz hsize hby hzs hsz g ad n c cs h xv m news hsrc h63 hbytes
  unfold Oper.wp execOp
  simp only [ho, resolve, invoke, builtin, Sem.run_bind, Sem.run_pure, Result.andThen_ok, List.map_toArray, List.map_cons, List.map_nil, hs, hx, hrun]
  exact hK g' a' c' w' h1 h2 h3
/-- A row of numbers as a source. -/
theorem Row.src {P : Program} {w : World} {k : IntKind} {a : Option Addr} {n c : Nat} {l : List Int} (h : Row k w a n c l) {tx e' : TypeId} (hk : P.underlying tx = some (.slice e')) : Src P 1 tx (.slice a n c) n (nums k l) w := by
  rcases a with _ | ad
  · have := h.isNil rfl
    have hle := h.le
    obtain rfl : n = 0 := by omega
    have : l = [] := List.eq_nil_of_length_eq_zero h.len
    subst this
    exact Src.ofNil w hk c
  · refine Src.ofSlice w hk ad n c (nums k l) (by rw [nums_length, h.len, Nat.mul_one]) (fun j u hu => ?_) (fun u hu => ?_)
    · have hj : j < n := by have := (List.getElem?_eq_some_iff.1 hu).1; rwa [nums_length, h.len] at this
      rcases h.cells with h0 | ⟨b, o, ha, hc⟩
      · omega
      · cases ha
        rw [Addr.add_lit, hc j hj]
        have := nums_getD k l j (by rw [h.len]; exact hj)
        rw [List.getD_eq_getElem?_getD, hu] at this
        simpa using this.symm
    · obtain ⟨y, _, rfl⟩ := List.mem_map.1 hu
      rfl
/-- A slice of numbers with its own memory reads as a list. -/
theorem Buf.row {k : IntKind} {w : World} {t : Nat} {g : Option Nat} {a : Option Addr} {n c : Nat} {l : List Int} (h : Buf w t 1 g a n c (nums k l)) (hw : ∀ x ∈ l, (Lit.int k x).wf = true) : Row k w a n c l := by
  have hl : l.length = n := by have := h.len; rw [nums_length] at this; omega
  refine ⟨hl, h.le, h.max, hw, ?_, ?_⟩
  · by_cases h0 : n = 0
    · exact .inl h0
    · obtain ⟨b, o, ha, hg, hc⟩ := h.cell (by omega)
      exact .inr ⟨b, o, ha, fun i hi => by rw [hc i (by omega), nums_getD k l i (by omega)]⟩
  · intro hn
    rcases h.lies with ⟨_, _, h3⟩ | ⟨k', o, rs, h1, _⟩
    · exact h3
    · rw [h1] at hn; cases hn
end Go.Proofs.Ytnkpmjkbkdnfjaa
