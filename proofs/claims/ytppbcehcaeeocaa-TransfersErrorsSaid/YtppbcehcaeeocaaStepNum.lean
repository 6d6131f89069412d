/- append of a number inside a region that draws its order; three rows of the call's own that grow side by side. -/
import Derived.Test.YtppbcehcaeeocaaBaseEx
import Derived.Deep.RegionHeld3
namespace Go.Proofs.Ytppbcehcaeeocaa
open Go.RowKit

theorem step_append_num {k : IntKind} {t e : TypeId} {bytes : Nat} (ht : Try.prog.underlying t = some (.slice e)) (hin : (Try.prog.info? e).map (fun i => (i.zero, i.size, i.bytes)) = some (some (.int k 0), 1, bytes)) (hby8 : bytes ≤ 8)
    {ops : Array Oper} {o : Oper} {a : Act} {K : Act → World → Prop} {Q : Exit → Act → World → Prop} {E : Prop} {wx : World} (hgd : o.guard = none) (s x : Operand)
    (ho : o.op = .call { callee := .builtin .append, args := #[s, x], argTypes := #[t, t] })
    (B : Nat) (v : Value) (n : Nat) (xs : List Int) (y : Int) (hs : a.eval s = v) (hown : wx.ownsRow B e 1 v n (nums k xs))
    (e0 : Nat) (hx : a.eval x = .slice (some ⟨e0, 0, none⟩) 1 1) (hc : wx.cell? ⟨e0, 0, none⟩ = some (.int k y))
    (hn : n + 1 ≤ 2199023255552) (hB : B ≤ wx.heap.size)
    (h : ∀ v' w', w'.ownsRow B e 1 v' (n + 1) (nums k (xs ++ [y])) → Grow v wx v' w' → K (a.put o.dst v') w') :
    if Region.wanted o (yielded ops a.tmps) = true then Oper.wp Try.prog o a wx K Q else E := by
  obtain ⟨i0, hi, hz0, hz1, hz2⟩ := info_parts hin
  have hbb : (n + 1) * bytes ≤ 140737488355328 := by
    have : (n + 1) * bytes ≤ 2199023255552 * 8 := Nat.mul_le_mul hn hby8
    omega
  refine step_append_lies wx hgd s x _ ho B _ i0 (.int k 0) 1 bytes ht hi hz0 hz1 hz2 rfl (by decide) v n (nums k xs) hs hown ⟨e0, 0, none⟩ 1 1 [.int k y] hx rfl ?_ (fun u' hu' => by simp at hu'; subst hu'; rfl) (by decide) (by unfold maxLen; omega) hbb hB wx.heap.size rfl ?_
  · intro j u' hj
    have hj0 : j = 0 := by
      have := (List.getElem?_eq_some_iff.1 hj).1
      simp at this
      exact this
    subst hj0
    simp at hj
    subst hj
    exact hc
  intro g cap w' h1 h2 h3 h4
  have e1 : nums k (xs ++ [y]) = nums k xs ++ [.int k y] := by simp [nums]
  refine h _ w' (by rw [e1]; exact h1) ⟨Exc.of_grown h2, ?_⟩
  intro j hj
  simp only [Value.ownBlock, Option.some.injEq] at hj
  subst hj
  rcases h3 with h3 | h3
  · exact .inl h3
  · exact .inr (by omega)
/-- Three rows of octets of the call's own, apart. -/
structure Trio (B : Nat) (w : World) (n : Nat) (u v z : Value) (X Y Z : List Int) : Prop where
  a : w.ownsRow B 5 1 u n (nums .u8 X)
  b : ∃ m, w.ownsRow B 5 1 v m (nums .u8 Y)
  c : ∃ m, w.ownsRow B 5 1 z m (nums .u8 Z)
  ab : ∀ k, u.ownBlock = some k → v.ownBlock ≠ some k
  ac : ∀ k, u.ownBlock = some k → z.ownBlock ≠ some k
  bc : ∀ k, v.ownBlock = some k → z.ownBlock ≠ some k
theorem Trio.later {B n : Nat} {w w' : World} {u v z : Value} {X Y Z : List Int} (h : Trio B w n u v z X Y Z) (hb : Below w.heap.size w w') : Trio B w' n u v z X Y Z :=
  ⟨ownsRow_below h.a hb, h.b.imp fun _ hh => ownsRow_below hh hb, h.c.imp fun _ hh => ownsRow_below hh hb, h.ab, h.ac, h.bc⟩
theorem ownsRow_num {w : World} {B e m : Nat} {v : Value} {k : IntKind} {l : List Int} (h : w.ownsRow B e 1 v m (nums k l)) : m = l.length := by
  have := h.1; rw [nums_length] at this; omega
theorem Trio.rot {B n : Nat} {w : World} {u v z : Value} {X Y Z : List Int} (h : Trio B w n u v z X Y Z) (m : Nat) (hm : Y.length = m) : Trio B w m v z u Y Z X := by
  obtain ⟨m', hb⟩ := h.b
  have := ownsRow_num hb
  obtain rfl : m = m' := by omega
  exact ⟨hb, h.c, ⟨n, h.a⟩, h.bc, fun k hk hh => h.ab k hh hk, fun k hk hh => h.ac k hh hk⟩
theorem Trio.add {B n n' : Nat} {w wx w' : World} {u u' v z : Value} {X X' Y Z : List Int} (h : Trio B w n u v z X Y Z) (hb : Below w.heap.size w wx) (ho : w'.ownsRow B 5 1 u' n' (nums .u8 X')) (hg : Grow u wx u' w') : Trio B w' n' u' v z X' Y Z := by
  have hx := h.later hb
  have hlt : ∀ (s : Value) (m : Nat) (l : List Int), w.ownsRow B 5 1 s m (nums .u8 l) → ∀ k, s.ownBlock = some k → k < wx.heap.size := fun s m l hs k hk => by
    have := (World.ownsRow.lt hs k hk).2
    have := hb.size
    omega
  have hne : ∀ (s : Value), (∃ m l, w.ownsRow B 5 1 s m (nums .u8 l)) → (∀ k, u.ownBlock = some k → s.ownBlock ≠ some k) → ∀ k, u'.ownBlock = some k → s.ownBlock ≠ some k := fun s ⟨m, l, hs⟩ hd k hk hh => by
    rcases hg.lies k hk with h1 | h1
    · exact hd k h1 hh
    · have := hlt s m l hs k hh; omega
  obtain ⟨mb, hxb⟩ := hx.b
  obtain ⟨mc, hxc⟩ := hx.c
  refine ⟨ho, ⟨mb, ownsRow_exc hxb hg.exc fun k hk hh => h.ab k hh hk⟩, ⟨mc, ownsRow_exc hxc hg.exc fun k hk hh => h.ac k hh hk⟩, ?_, ?_, h.bc⟩
  · exact hne v (h.b.imp fun _ hh => ⟨_, hh⟩) h.ab
  · exact hne z (h.c.imp fun _ hh => ⟨_, hh⟩) h.ac
theorem Trio.nil (B : Nat) (w : World) : Trio B w 0 (.slice none 0 0) (.slice none 0 0) (.slice none 0 0) [] [] [] := by
  have h0 : w.ownsRow B 5 1 (.slice none 0 0) 0 (nums .u8 []) := by simpa [nums] using World.ownsRow_nil w B 5 1
  exact ⟨h0, ⟨0, h0⟩, ⟨0, h0⟩, by simp [Value.ownBlock], by simp [Value.ownBlock], by simp [Value.ownBlock]⟩
theorem Trio.below {B n : Nat} {w wx w' : World} {u u' v z : Value} {X Y Z : List Int} (h : Trio B w n u v z X Y Z) (hb : Below w.heap.size w wx) (hg : Grow u wx u' w') (hB : B ≤ w.heap.size) : Below B wx w' :=
  hg.below (by have := hb.size; omega) fun k hk => (World.ownsRow.lt h.a k hk).1
end Go.Proofs.Ytppbcehcaeeocaa
