/- Two ends with the units under way: what lies where. -/
import Derived.Test.YtdjnflfcolpccaaBaFace
namespace Go.Proofs.Ytdjnflfcolpccaa
open Go.RowKit

/-- A pair's state: the ends, the units to each of them, what each was given and has taken. -/
structure PSt where
  x0 : En
  x1 : En
  f0 : List Un
  f1 : List Un
  n0 : Nat
  n1 : Nat
  t0 : List (List Int)
  t1 : List (List Int)
/-- Where it lies; col: what each block is for (0 the pair, 1 and 2 the ends, 3 and 4 the ways, 5 and 6 the taken ones, 7 loads, 8 what was there before: all below B). -/
structure PLay where
  b0 : Nat
  b1 : Nat
  S0 : Nat → Prop
  S1 : Nat → Prop
  g0 : Option Nat
  g1 : Option Nat
  h0 : Option Nat
  h1 : Option Nat
  a0 : Option Addr
  a1 : Option Addr
  d0 : Option Addr
  d1 : Option Addr
  c0 : Nat
  c1 : Nat
  q0 : Nat
  q1 : Nat
  B : Nat
  col : Nat → Nat
def pairCells (st : PSt) (L : PLay) : List Value :=
  [.pointer (some ⟨L.b0, 0, none⟩), .pointer (some ⟨L.b1, 0, none⟩), .slice L.a0 st.f0.length L.c0, .slice L.a1 st.f1.length L.c1, .int .i64 (st.n0 : Int), .int .i64 (st.n1 : Int), .slice L.d0 st.t0.length L.q0, .slice L.d1 st.t1.length L.q1, .bool false]
def Load (w : World) (col : Nat → Nat) (k : Nat) : Prop := col k = 7 ∧ k < w.heap.size
def WayAt (w : World) (col : Nat → Nat) (g : Option Nat) (a : Option Addr) (c : Nat) (us : List Un) : Prop :=
  ∃ cs, Buf w 45 7 g a us.length c cs ∧ ∀ i u, us[i]? = some u → ∃ s, (∀ j, j < 7 → cs.getD (i * 7 + j) undef = (unCells u s u.load.length u.load.length).getD j undef) ∧ Row .u8 w s u.load.length u.load.length u.load ∧ ∀ z, s = some z → Load w col z.block
def TakAt (w : World) (col : Nat → Nat) (g : Option Nat) (a : Option Addr) (c : Nat) (ls : List (List Int)) : Prop :=
  ∃ vs, Buf w 36 1 g a ls.length c vs ∧ ∀ i l, ls[i]? = some l → RowV w (Load w col) true (vs.getD i undef) l
theorem WayAt.nil (w : World) (col : Nat → Nat) : WayAt w col none none 0 [] := ⟨[], Buf.nil _ _ _, fun i u h => by simp at h⟩
theorem TakAt.nil (w : World) (col : Nat → Nat) : TakAt w col none none 0 [] := ⟨[], Buf.nil _ _ _, fun i u h => by simp at h⟩
theorem WayAt.move {T : Nat → Prop} {w w' : World} {col col' : Nat → Nat} {g : Option Nat} {a : Option Addr} {c : Nat} {us : List Un} (h : WayAt w col g a c us) (hx : Exc T w w') (hg : ∀ k, g = some k → ¬ T k)
    (hl : ∀ k, k < w.heap.size → col k = 7 → ¬ T k) (hc : ∀ k, k < w.heap.size → col' k = col k) : WayAt w' col' g a c us := by
  obtain ⟨cs, hb, hu⟩ := h
  refine ⟨cs, hb.exc hx hg, fun i u hi => ?_⟩
  obtain ⟨s, h1, h2, h3⟩ := hu i u hi
  exact ⟨s, h1, h2.exc hx (fun z hz => hl _ (h3 z hz).2 (h3 z hz).1), fun z hz => ⟨by rw [hc _ (h3 z hz).2]; exact (h3 z hz).1, Nat.lt_of_lt_of_le (h3 z hz).2 hx.size⟩⟩
theorem TakAt.move {T : Nat → Prop} {w w' : World} {col col' : Nat → Nat} {g : Option Nat} {a : Option Addr} {c : Nat} {ls : List (List Int)} (h : TakAt w col g a c ls) (hx : Exc T w w') (hg : ∀ k, g = some k → ¬ T k)
    (hl : ∀ k, k < w.heap.size → col k = 7 → ¬ T k) (hc : ∀ k, k < w.heap.size → col' k = col k) : TakAt w' col' g a c ls := by
  obtain ⟨vs, hb, hu⟩ := h
  refine ⟨vs, hb.exc hx hg, fun i l hi => ?_⟩
  exact ((hu i l hi).exc hx (fun k hk => hl _ hk.2 hk.1)).mono (fun _ _ hk => ⟨by rw [hc _ hk.2]; exact hk.1, Nat.lt_of_lt_of_le hk.2 hx.size⟩) (.inr fun _ hk => ⟨by rw [hc _ hk.2]; exact hk.1, Nat.lt_of_lt_of_le hk.2 hx.size⟩)
structure PairAt (I : EndFace) (w : World) (p : Nat) (st : PSt) (L : PLay) : Prop where
  own : Own w p 69 (pairCells st L)
  e0 : I.At w L.b0 L.S0 st.x0
  e1 : I.At w L.b1 L.S1 st.x1
  w0 : WayAt w L.col L.g0 L.a0 L.c0 st.f0
  w1 : WayAt w L.col L.g1 L.a1 L.c1 st.f1
  k0 : TakAt w L.col L.h0 L.d0 L.q0 st.t0
  k1 : TakAt w L.col L.h1 L.d1 L.q1 st.t1
  cp : L.col p = 0
  s0 : ∀ k, L.S0 k → L.col k = 1
  s1 : ∀ k, L.S1 k → L.col k = 2
  cg0 : ∀ k, L.g0 = some k → L.col k = 3
  cg1 : ∀ k, L.g1 = some k → L.col k = 4
  ch0 : ∀ k, L.h0 = some k → L.col k = 5
  ch1 : ∀ k, L.h1 = some k → L.col k = 6
  low : ∀ k, k < L.B → L.col k = 8
  lowB : L.B ≤ w.heap.size
/-- The old blocks keep their colours; of the new ones those of S get c. -/
noncomputable def recol (col : Nat → Nat) (n : Nat) (S : Nat → Prop) (c : Nat) (k : Nat) : Nat := open Classical in if k < n then col k else if S k then c else 7
theorem recol_old {col : Nat → Nat} {n : Nat} {S : Nat → Prop} {c k : Nat} (h : k < n) : recol col n S c k = col k := by unfold recol; rw [if_pos h]
theorem recol_in {col : Nat → Nat} {n : Nat} {S : Nat → Prop} {c k : Nat} (h : ¬ k < n) (hs : S k) : recol col n S c k = c := by unfold recol; rw [if_neg h, if_pos hs]
theorem recol_out {col : Nat → Nat} {n : Nat} {S : Nat → Prop} {c k : Nat} (h : ¬ k < n) (hs : ¬ S k) : recol col n S c k = 7 := by unfold recol; rw [if_neg h, if_neg hs]
/-- Whatever turned but one part, the others are as they were. -/
theorem PairAt.w0_lt {I : EndFace} {w : World} {p : Nat} {st : PSt} {L : PLay} (h : PairAt I w p st L) {k : Nat} (hk : L.g0 = some k) : k < w.heap.size := by obtain ⟨cs, hb, _⟩ := h.w0; exact hb.lt hk
theorem PairAt.w1_lt {I : EndFace} {w : World} {p : Nat} {st : PSt} {L : PLay} (h : PairAt I w p st L) {k : Nat} (hk : L.g1 = some k) : k < w.heap.size := by obtain ⟨cs, hb, _⟩ := h.w1; exact hb.lt hk
theorem PairAt.k0_lt {I : EndFace} {w : World} {p : Nat} {st : PSt} {L : PLay} (h : PairAt I w p st L) {k : Nat} (hk : L.h0 = some k) : k < w.heap.size := by obtain ⟨cs, hb, _⟩ := h.k0; exact hb.lt hk
theorem PairAt.k1_lt {I : EndFace} {w : World} {p : Nat} {st : PSt} {L : PLay} (h : PairAt I w p st L) {k : Nat} (hk : L.h1 = some k) : k < w.heap.size := by obtain ⟨cs, hb, _⟩ := h.k1; exact hb.lt hk
/-- End 0 has turned. -/
theorem PairAt.turn0 {I : EndFace} {w w' : World} {p : Nat} {st : PSt} {L : PLay} {S' : Nat → Prop} {x' : En} (h : PairAt I w p st L) (ha : I.At w' L.b0 S' x') (ht : Turn L.S0 w S' w') :
    PairAt I w' p { st with x0 := x' } { L with S0 := S', col := recol L.col w.heap.size S' 1 } := by
  have hp := h.own.lt
  have hold : ∀ k, k < w.heap.size → recol L.col w.heap.size S' 1 k = L.col k := fun k hk => recol_old hk
  have h7 : ∀ k, k < w.heap.size → L.col k = 7 → ¬ L.S0 k := fun k _ hc hs => by rw [h.s0 k hs] at hc; omega
  refine ⟨?_, ha, I.exc h.e1 ht.exc (fun k hk hs => ?_), h.w0.move ht.exc (fun k hk hs => ?_) h7 hold, h.w1.move ht.exc (fun k hk hs => ?_) h7 hold, h.k0.move ht.exc (fun k hk hs => ?_) h7 hold, h.k1.move ht.exc (fun k hk hs => ?_) h7 hold, ?_, fun k hk => ?_, fun k hk => ?_, fun k hk => ?_, fun k hk => ?_, fun k hk => ?_, fun k hk => ?_, fun k hk => (hold k (Nat.lt_of_lt_of_le hk h.lowB)).trans (h.low k hk), Nat.le_trans h.lowB ht.exc.size⟩
  · exact h.own.exc ht.exc (fun hs => by have := h.s0 p hs; rw [h.cp] at this; omega)
  · have := h.s0 k hs; rw [h.s1 k hk] at this; omega
  · have := h.s0 k hs; rw [h.cg0 k hk] at this; omega
  · have := h.s0 k hs; rw [h.cg1 k hk] at this; omega
  · have := h.s0 k hs; rw [h.ch0 k hk] at this; omega
  · have := h.s0 k hs; rw [h.ch1 k hk] at this; omega
  · exact (hold p hp).trans h.cp
  · rcases ht.lies k hk with h1 | h1
    · exact (hold k (I.lt h.e0 k h1)).trans (h.s0 k h1)
    · exact recol_in (by omega) hk
  · exact (hold k (I.lt h.e1 k hk)).trans (h.s1 k hk)
  · exact (hold k (h.w0_lt hk)).trans (h.cg0 k hk)
  · exact (hold k (h.w1_lt hk)).trans (h.cg1 k hk)
  · exact (hold k (h.k0_lt hk)).trans (h.ch0 k hk)
  · exact (hold k (h.k1_lt hk)).trans (h.ch1 k hk)
/-- End 1 has turned. -/
theorem PairAt.turn1 {I : EndFace} {w w' : World} {p : Nat} {st : PSt} {L : PLay} {S' : Nat → Prop} {x' : En} (h : PairAt I w p st L) (ha : I.At w' L.b1 S' x') (ht : Turn L.S1 w S' w') :
    PairAt I w' p { st with x1 := x' } { L with S1 := S', col := recol L.col w.heap.size S' 2 } := by
  have hp := h.own.lt
  have hold : ∀ k, k < w.heap.size → recol L.col w.heap.size S' 2 k = L.col k := fun k hk => recol_old hk
  have h7 : ∀ k, k < w.heap.size → L.col k = 7 → ¬ L.S1 k := fun k _ hc hs => by rw [h.s1 k hs] at hc; omega
  refine ⟨?_, I.exc h.e0 ht.exc (fun k hk hs => ?_), ha, h.w0.move ht.exc (fun k hk hs => ?_) h7 hold, h.w1.move ht.exc (fun k hk hs => ?_) h7 hold, h.k0.move ht.exc (fun k hk hs => ?_) h7 hold, h.k1.move ht.exc (fun k hk hs => ?_) h7 hold, ?_, fun k hk => ?_, fun k hk => ?_, fun k hk => ?_, fun k hk => ?_, fun k hk => ?_, fun k hk => ?_, fun k hk => (hold k (Nat.lt_of_lt_of_le hk h.lowB)).trans (h.low k hk), Nat.le_trans h.lowB ht.exc.size⟩
  · exact h.own.exc ht.exc (fun hs => by have := h.s1 p hs; rw [h.cp] at this; omega)
  · have := h.s1 k hs; rw [h.s0 k hk] at this; omega
  · have := h.s1 k hs; rw [h.cg0 k hk] at this; omega
  · have := h.s1 k hs; rw [h.cg1 k hk] at this; omega
  · have := h.s1 k hs; rw [h.ch0 k hk] at this; omega
  · have := h.s1 k hs; rw [h.ch1 k hk] at this; omega
  · exact (hold p hp).trans h.cp
  · exact (hold k (I.lt h.e0 k hk)).trans (h.s0 k hk)
  · rcases ht.lies k hk with h1 | h1
    · exact (hold k (I.lt h.e1 k h1)).trans (h.s1 k h1)
    · exact recol_in (by omega) hk
  · exact (hold k (h.w0_lt hk)).trans (h.cg0 k hk)
  · exact (hold k (h.w1_lt hk)).trans (h.cg1 k hk)
  · exact (hold k (h.k0_lt hk)).trans (h.ch0 k hk)
  · exact (hold k (h.k1_lt hk)).trans (h.ch1 k hk)
/-- Nothing that was there has turned. -/
theorem PairAt.later {I : EndFace} {w w' : World} {p : Nat} {st : PSt} {L : PLay} (h : PairAt I w p st L) (hb : Below w.heap.size w w') : PairAt I w' p st L := by
  have hx : Exc (fun _ => False) w w' := Exc.of_below hb
  exact ⟨h.own.below hb h.own.lt, I.exc h.e0 hx (fun _ _ hh => hh), I.exc h.e1 hx (fun _ _ hh => hh), h.w0.move hx (fun _ _ hh => hh) (fun _ _ _ hh => hh) (fun _ _ => rfl), h.w1.move hx (fun _ _ hh => hh) (fun _ _ _ hh => hh) (fun _ _ => rfl), h.k0.move hx (fun _ _ hh => hh) (fun _ _ _ hh => hh) (fun _ _ => rfl), h.k1.move hx (fun _ _ hh => hh) (fun _ _ _ hh => hh) (fun _ _ => rfl), h.cp, h.s0, h.s1, h.cg0, h.cg1, h.ch0, h.ch1, h.low, Nat.le_trans h.lowB hb.size⟩
/-- The pair's own block has turned. -/
theorem PairAt.redo {I : EndFace} {w w' : World} {p : Nat} {st st' : PSt} {L L' : PLay} (h : PairAt I w p st L) (hx : Exc (fun k => k = p) w w') (ho : Own w' p 69 (pairCells st' L'))
    (hx0 : st'.x0 = st.x0) (hx1 : st'.x1 = st.x1) (hf0 : st'.f0 = st.f0) (hf1 : st'.f1 = st.f1) (ht0 : st'.t0 = st.t0) (ht1 : st'.t1 = st.t1) (hL : L' = L) : PairAt I w' p st' L' := by
  subst hL
  have h7 : ∀ k, k < w.heap.size → L'.col k = 7 → ¬ (k = p) := fun k _ hc hs => by rw [hs, h.cp] at hc; omega
  have hne : ∀ k c, L'.col k = c → c ≠ 0 → ¬ (k = p) := fun k c hk hc hs => by rw [hs, h.cp] at hk; omega
  exact ⟨ho, by rw [hx0]; exact I.exc h.e0 hx (fun k hk => hne k 1 (h.s0 k hk) (by decide)), by rw [hx1]; exact I.exc h.e1 hx (fun k hk => hne k 2 (h.s1 k hk) (by decide)),
    by rw [hf0]; exact h.w0.move hx (fun k hk => hne k 3 (h.cg0 k hk) (by decide)) h7 (fun _ _ => rfl), by rw [hf1]; exact h.w1.move hx (fun k hk => hne k 4 (h.cg1 k hk) (by decide)) h7 (fun _ _ => rfl),
    by rw [ht0]; exact h.k0.move hx (fun k hk => hne k 5 (h.ch0 k hk) (by decide)) h7 (fun _ _ => rfl), by rw [ht1]; exact h.k1.move hx (fun k hk => hne k 6 (h.ch1 k hk) (by decide)) h7 (fun _ _ => rfl),
    h.cp, h.s0, h.s1, h.cg0, h.cg1, h.ch0, h.ch1, h.low, Nat.le_trans h.lowB hx.size⟩
theorem infoUnit : (Try.prog.info? 45).map (fun i => (i.zero, i.size, i.bytes)) = some (some (.agg #[.int .u8 0, .bool false, .int .u8 0, .bool false, .int .u8 0, .int .u8 0, .slice none 0 0]), 7, 32) := by kernel_rfl
end Go.Proofs.Ytdjnflfcolpccaa
