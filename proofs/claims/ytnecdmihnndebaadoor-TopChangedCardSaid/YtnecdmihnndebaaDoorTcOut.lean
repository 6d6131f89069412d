/- A slice of units that the call owns: append. -/
import Derived.Test.YtnecdmihnndebaaDoorUnBk
import Derived.Deep.AppendLies
namespace Go.Proofs.YtnecdmihnndebaaDoor
open Go.RowKit

theorem ownsRow_excN {S : Nat → Prop} {w w' : World} {B e d n : Nat} {v : Value} {xs : List Value} (h : w.ownsRow B e d v n xs) (hx : Exc S w w') (hn : ∀ k, v.ownBlock = some k → ¬ S k) : w'.ownsRow B e d v n xs := by
  obtain ⟨h1, h2⟩ := h
  refine ⟨h1, ?_⟩
  rcases h2 with h2 | ⟨g, cap, cur, rfl, hg, hh, r⟩
  · exact .inl h2
  · refine .inr ⟨g, cap, cur, rfl, hg, ?_, r⟩
    rw [hx.block g (Array.getElem?_eq_some_iff.1 hh).1 (hn g rfl)]; exact hh
theorem LoadAt.exc {S : Nat → Prop} {w w' : World} {B : Nat} {s : Option Addr} {l : List Int} (h : LoadAt w B s l) (hx : Exc S w w') (hn : ∀ z, s = some z → ¬ S z.block) : LoadAt w' B s l := by
  rcases h with h | ⟨g, h1, h2, h3⟩
  · exact .inl h
  · exact .inr ⟨g, h1, h2, h3.exc hx (hn _ h1)⟩
theorem LoadAt.lt {w : World} {B : Nat} {s : Option Addr} {l : List Int} (h : LoadAt w B s l) : ∀ z, s = some z → B ≤ z.block ∧ z.block < w.heap.size := by
  intro z hz
  rcases h with ⟨h1, _⟩ | ⟨g, h1, h2, h3⟩
  · rw [h1] at hz; cases hz
  · rw [h1] at hz; cases hz; exact ⟨h2, h3.lt⟩
theorem LoadAt.low {w : World} {B B' : Nat} {s : Option Addr} {l : List Int} (h : LoadAt w B s l) (hB : B' ≤ B) : LoadAt w B' s l := by
  rcases h with h | ⟨g, h1, h2, h3⟩
  · exact .inl h
  · exact .inr ⟨g, h1, by omega, h3⟩
/-- A unit's cells. -/
def uV (p0 : Int) (B0 : Bool) (p1 : Int) (B1 : Bool) (K T : Int) (m : Nat) (s : Option Addr) : List Value := [.int .u8 p0, .bool B0, .int .u8 p1, .bool B1, .int .u8 K, .int .u8 T, .slice s m m]
/-- A slice of units that the call owns, and their loads. -/
structure UOut (f : Option Addr → List Value) (L : List Int) (B : Nat) (v : Value) (ss : List (Option Addr)) (w : World) : Prop where
  own : w.ownsRow B 29 7 v ss.length (ss.flatMap f)
  rows : ∀ s ∈ ss, LoadAt w B s L ∧ ∀ z, s = some z → v.ownBlock ≠ some z.block
theorem UOut.nil (f : Option Addr → List Value) (L : List Int) (B : Nat) (w : World) : UOut f L B (.slice none 0 0) [] w := ⟨World.ownsRow_nil _ _ _ _, by simp⟩
theorem UOut.later {f : Option Addr → List Value} {L : List Int} {B : Nat} {v : Value} {ss : List (Option Addr)} {w w' : World} (h : UOut f L B v ss w) (hb : Below w.heap.size w w') : UOut f L B v ss w' :=
  ⟨ownsRow_excN (S := fun _ => False) h.own (Exc.of_below hb) (fun _ _ h => h), fun s hs => ⟨(h.rows s hs).1.later hb, (h.rows s hs).2⟩⟩
theorem UOut.block {f : Option Addr → List Value} {L : List Int} {B : Nat} {v : Value} {ss : List (Option Addr)} {w : World} (h : UOut f L B v ss w) : ∀ k, v.ownBlock = some k → B ≤ k ∧ k < w.heap.size := fun k hk => World.ownsRow.lt h.own k hk
theorem infoUnit : (Tryd.prog.info? 29).map (fun i => (i.zero, i.size, i.bytes)) = some (some (.agg #[.int .u8 0, .bool false, .int .u8 0, .bool false, .int .u8 0, .int .u8 0, .slice none 0 0]), 7, 32) := by kernel_rfl
/-- append(v, u). -/
theorem wpList_append_unit {ops : Array Oper} {rest : List Oper} {o : Oper} {a : Act} {Q : Exit → Act → World → Prop} {w0 : World} (hgd : o.guard = none) (s x : Operand)
    (ho : o.op = .call { callee := .builtin .append, args := #[s, x], argTypes := #[36, 36] })
    (B : Nat) (f : Option Addr → List Value) (L : List Int) (v : Value) (ss : List (Option Addr)) (u : Option Addr) (cs : Array Value) (hcs : cs.toList = f u) (hs : a.eval s = v) (hown : UOut f L B v ss w0) (hu : LoadAt w0 B u L) (hvu : ∀ z, u = some z → v.ownBlock ≠ some z.block)
    (hf : (f u).length = 7) (hone : ∀ y ∈ f u, y.oneCell' = true) (hx : a.eval x = .slice (some ⟨w0.heap.size, 0, none⟩) 1 1) (hn : ss.length + 1 ≤ 1000) (hB : B ≤ w0.heap.size)
    (h : ∀ v' w', UOut f L B v' (ss ++ [u]) w' → Below B w0 w' → wpList Tryd.prog ops Q rest (a.put o.dst v') w') :
    wpList Tryd.prog ops Q (o :: rest) a (w0.alloc (.cells cs 29)) := by
  obtain ⟨i0, hi, hz0, hz1, hz2⟩ := info_parts infoUnit
  have ho0 := ownsRow_excN (S := fun _ => False) hown.own (Exc.of_below (below_alloc w0 (.cells cs 29))) (fun _ _ h => h)
  have hblk : (w0.alloc (.cells cs 29)).heap[w0.heap.size]? = some (.cells cs 29 (0, 0)) := heap_alloc_new w0 _
  refine wpList_append_lies _ hgd s x _ ho B _ i0 _ 7 32 Tryd.underlying36 hi hz0 hz1 hz2 rfl (by decide) v ss.length _ hs ho0 ⟨w0.heap.size, 0, none⟩ 1 1 (f u) hx (by rw [hf]) (fun j y hy => World.news_of_block hblk j y (by rw [hcs]; exact hy)) hone (by decide) (by unfold maxLen; omega) (by omega) (by simp; omega) (w0.heap.size + 1) (by simp) ?_
  intro g cap w' h1 h2 h3 h4
  have hexc : Exc (fun k => v.ownBlock = some k) w0 w' := ((Exc.refl _ w0).alloc _).trans (Exc.of_grown h2) (fun _ _ hh => hh)
  refine h _ w' ⟨by simpa [List.flatMap_append] using h1, fun z hz => ?_⟩ (hexc.below hB fun i _ hi => (hown.block i hi).1)
  rcases List.mem_append.1 hz with hz | hz
  · obtain ⟨r1, r2⟩ := hown.rows z hz
    refine ⟨r1.exc hexc (fun y hy hh => r2 y hy hh), fun y hy hh => ?_⟩
    simp only [Value.ownBlock, Option.some.injEq] at hh
    have := (r1.lt y hy).2
    rcases h3 with h3 | h3
    · exact r2 y hy (by rw [h3, hh])
    · omega
  · simp only [List.mem_singleton] at hz
    subst hz
    refine ⟨hu.exc hexc (fun y hy hh => hvu y hy hh), fun y hy hh => ?_⟩
    simp only [Value.ownBlock, Option.some.injEq] at hh
    have := (hu.lt y hy).2
    rcases h3 with h3 | h3
    · exact hvu y hy (by rw [h3, hh])
    · omega
/-- A cell of a unit in the slice. -/
theorem UOut.cell {f : Option Addr → List Value} {L : List Int} {B : Nat} {v : Value} {ss : List (Option Addr)} {w : World} (h : UOut f L B v ss w) (h0 : 0 < ss.length) :
    ∃ g c, v = .slice (some ⟨g, 0, none⟩) ss.length c ∧ ss.length ≤ c ∧ c ≤ maxLen ∧ ∀ j, j < ss.length * 7 → w.cell? ⟨g, j, none⟩ = some ((ss.flatMap f).getD j undef) := by
  obtain ⟨hl, h2⟩ := h.own
  rcases h2 with ⟨_, h2⟩ | ⟨g, cap, cur, rfl, hg, hh, hn, hc, hs, ht⟩
  · omega
  · refine ⟨g, cap, rfl, hn, hc, fun j hj => ?_⟩
    rw [cell_of_row w g j cur _ _ hh, ← ht]
    have hjs : j < cur.size := by rw [hs]; exact Nat.lt_of_lt_of_le hj (Nat.mul_le_mul_right _ hn)
    rw [List.getD_eq_getElem?_getD, List.getElem?_take, if_pos hj, Array.getElem?_toList, Array.getElem?_eq_getElem hjs]
    rfl
end Go.Proofs.YtnecdmihnndebaaDoor
