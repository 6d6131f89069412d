/- Joined: TgLinks TgKt TgSt. -/
import Derived.Test.YtdjmopipmeonlaaTgRow
import Derived.Test.YtdjmopipmeonlaaPcApi2
import Derived.Test.YtdjmopipmeonlaaTgMath
/- Links between two places of a small plan: there are some exactly for neighbors. -/
namespace Go.Proofs.Ytdjmopipmeonlaa
set_option linter.unusedVariables false
set_option linter.unusedVariables false
open Go.RowKit Go.Maps

theorem linksL_pos {p : Pn} (hv : ValidPl p) {a b : Int} (hab : a < b) : 0 < (linksL p a b).length ↔ 0 < nearN p.L a b := by
  unfold linksL nearN
  rw [List.length_map, List.length_pos_iff_exists_mem, List.countP_pos_iff]
  constructor
  · rintro ⟨l, hl⟩
    obtain ⟨h1, h2⟩ := List.mem_filter.1 hl
    refine ⟨l, h1, ?_⟩
    simp only [pairB, joins, Bool.or_eq_true, Bool.and_eq_true, decide_eq_true_eq] at h2 ⊢
    exact .inl h2
  · rintro ⟨l, h1, h2⟩
    refine ⟨l, List.mem_filter.2 ⟨h1, ?_⟩⟩
    have h3 := (line_of_valid hv h1).1
    simp only [pairB, joins, Bool.or_eq_true, Bool.and_eq_true, decide_eq_true_eq] at h2 ⊢
    omega
def LinkOut (p : Pn) (i j : Nat) (w : World) (e : Ending) (w' : World) : Prop := ∃ a L E, e = .returned (.tuple #[.slice a L L, .int .i64 E]) ∧ (0 < L ↔ pc p.P j ∈ nbrs p (pc p.P i)) ∧ L ≤ 4096 ∧ Below w.heap.size w w'
theorem links_q {x : Nn} {p : Pn} {n m i j : Nat} (hp : PF x p n m) (hi : i < n) (hj : j < n) (a : Option Addr) (c : Nat) (a' : Option Addr) (c' : Nat) (w : World) (hP : PRow w a n c p.P) (hL : LRow w a' m c' p.L) :
    Calls Try.prog 17 #[planV a n c a' m c' p, .int .u16 (pc p.P i), .int .u16 (pc p.P j)] w (LinkOut p i j w) := by
  have hlen := hp.len
  have hm := hp.m11
  have hlm : ∀ x y, (linksL p x y).length ≤ 4096 := fun x y => by
    unfold linksL
    rw [List.length_map]
    have := List.length_filter_le (pairB x y) p.L
    rw [hp.llen] at this
    omega
  rcases Nat.lt_trichotomy i j with h | h | h
  · have hlt := hp.asc i j h (by omega)
    refine (links_lt p a n c a' m c' _ _ w hP hL (hp.two hi hj) (by omega) hlt).mono fun e w' ⟨b, h1, _, h3⟩ => ⟨b, _, 0, h1, ?_, hlm _ _, h3⟩
    rw [linksL_pos hp.valid hlt, mem_nbrs hp.valid]
  · subst h
    refine (links_same p a n c a' m c' _ w hP hL (hp.two hi hi)).mono fun e w' ⟨h1, h3⟩ => ⟨none, 0, 1, h1, ?_, by omega, h3⟩
    rw [mem_nbrs hp.valid]
    have h9 := near_self hp.valid (pc p.P i)
    unfold nearB at h9
    have h8 := of_decide_eq_false h9
    exact ⟨fun h => absurd h (by omega), fun h => absurd h h8⟩
  · have hlt := hp.asc j i h (by omega)
    refine (links_gt p a n c a' m c' _ _ w hP hL (hp.two hi hj) (by omega) hlt).mono fun e w' ⟨b, h1, _, h3⟩ => ⟨b, _, 0, h1, ?_, hlm _ _, h3⟩
    rw [linksL_pos hp.valid hlt, mem_nbrs hp.valid, nearN_comm]
end Go.Proofs.Ytdjmopipmeonlaa
/- Cuts: pairs of places with a flag, as a row. -/
namespace Go.Proofs.Ytdjmopipmeonlaa
set_option linter.unusedVariables false
set_option linter.unusedVariables false
open Go.RowKit Go.Maps

structure KtRow (w : World) (a : Option Addr) (n c : Nat) (l : List (Nat × Nat × Bool)) : Prop where
  len : l.length = n
  le : n ≤ c
  max : c ≤ maxLen
  wf : ∀ x ∈ l, x.1 ≤ 255 ∧ x.2.1 ≤ 255
  cells : n = 0 ∨ ∃ b off, a = some ⟨b, off, none⟩ ∧ ∀ i, i < n → w.cell? ⟨b, off + i * 3, none⟩ = some (.int .u8 ((l.getD i (0, 0, false)).1 : Int)) ∧ w.cell? ⟨b, off + i * 3 + 1, none⟩ = some (.int .u8 ((l.getD i (0, 0, false)).2.1 : Int)) ∧ w.cell? ⟨b, off + i * 3 + 2, none⟩ = some (.bool (l.getD i (0, 0, false)).2.2)
theorem KtRow.of_nil (w : World) : KtRow w none 0 0 [] := ⟨rfl, Nat.le_refl _, Nat.zero_le _, by simp, .inl rfl⟩
theorem KtRow.exc {S : Nat → Prop} {w w' : World} {a : Option Addr} {n c : Nat} {l : List (Nat × Nat × Bool)} (h : KtRow w a n c l) (hx : Exc S w w') (hn : 0 < n → ∀ x, a = some x → ¬ S x.block) : KtRow w' a n c l := by
  refine ⟨h.len, h.le, h.max, h.wf, ?_⟩
  rcases Nat.eq_zero_or_pos n with h0 | h0
  · exact .inl h0
  · obtain ⟨b, off, ha, hc⟩ := h.cells.resolve_left (by omega)
    have hb : ¬ S b := hn h0 _ ha
    exact .inr ⟨b, off, ha, fun i hi => ⟨hx.cell (hc i hi).1 hb, hx.cell (hc i hi).2.1 hb, hx.cell (hc i hi).2.2 hb⟩⟩
theorem KtRow.later {w w' : World} {a : Option Addr} {n c : Nat} {l : List (Nat × Nat × Bool)} (h : KtRow w a n c l) (hb : Below w.heap.size w w') : KtRow w' a n c l :=
  h.exc (S := fun _ => False) (Exc.of_below hb) (fun _ _ _ h => h)
end Go.Proofs.Ytdjmopipmeonlaa
/- Status at any place of a small plan. -/
namespace Go.Proofs.Ytdjmopipmeonlaa
set_option linter.unusedVariables false
set_option linter.unusedVariables false
open Go.RowKit Go.Maps

def stP (T : Tb) (p : Pn) (q k : Nat) : Int := if k = q then 0 else T.st (pc p.P k)
theorem status_p {x : Nn} {p : Pn} {n m q : Nat} {T : Tb} {y : Tl} (hp : PF x p n m) (hI : Inv p q T) (hq : q < n) (k : Nat) (hk : k < n) (w : World) (h : TbAt w y T) :
    Calls Try.prog 13 #[.pointer (some ⟨y.tb, 0, none⟩), .int .u16 (pc p.P k)] w fun e w' => e = .returned (.tuple #[.int .u8 (stP T p q k), .int .i64 0]) ∧ Below w.heap.size w w' := by
  unfold stP
  by_cases hkq : k = q
  · subst hkq
    rw [if_pos rfl, ← hI.me]
    exact status_me w h
  · rw [if_neg hkq]
    obtain ⟨h1, h2⟩ := hI.memP hp hq hk hkq
    exact status_ok _ w h h1 h2
end Go.Proofs.Ytdjmopipmeonlaa
