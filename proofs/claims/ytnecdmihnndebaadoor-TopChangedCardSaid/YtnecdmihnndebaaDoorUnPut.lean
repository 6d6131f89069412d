/- Contracts of package units: the closure of Encode. -/
import Derived.Test.YtnecdmihnndebaaDoorUnEncode
import Derived.Test.YtnecdmihnndebaaDoorUnBase
import Derived.OwnWalk
namespace Go.Proofs.YtnecdmihnndebaaDoor
open Go.RowKit

/-- append(v, y) within the capacity, v of the call's own. -/
theorem wpList_append_one_fits {k : IntKind} {t e : TypeId} {bytes : Nat} (ht : Tryd.prog.underlying t = some (.slice e)) (hin : (Tryd.prog.info? e).map (fun i => (i.zero, i.size, i.bytes)) = some (some (.int k 0), 1, bytes))
    {ops : Array Oper} {rest : List Oper} {o : Oper} {a : Act} {Q : Exit → Act → World → Prop} {w0 : World} (hgd : o.guard = none) (s x : Operand)
    (ho : o.op = .call { callee := .builtin .append, args := #[s, x], argTypes := #[t, t] })
    (B d n C : Nat) (xs : List Int) (y : Int) (hs : a.eval s = .slice (some ⟨d, 0, none⟩) n C) (hown : w0.ownsRow B e 1 (.slice (some ⟨d, 0, none⟩) n C) n (nums k xs)) (hx : a.eval x = .slice (some ⟨w0.heap.size, 0, none⟩) 1 1)
    (hroom : n + 1 ≤ C)
    (h : ∀ w', w'.ownsRow B e 1 (.slice (some ⟨d, 0, none⟩) (n + 1) C) (n + 1) (nums k (xs ++ [y])) → Exc (fun j => j = d) w0 w' → wpList Tryd.prog ops Q rest (a.put o.dst (.slice (some ⟨d, 0, none⟩) (n + 1) C)) w') :
    wpList Tryd.prog ops Q (o :: rest) a (w0.alloc (.cells #[.int k y] e)) := by
  obtain ⟨i0, hi, hz0, hz1, hz2⟩ := info_parts hin
  refine wpList_append_fits _ hgd s x t ho B e i0 1 ht hi hz1 d n C (nums k xs) hs (hown.alloc _) ⟨w0.heap.size, 0, none⟩ 1 1 [.int k y] hx rfl ?_ (fun u hu => by simp at hu; subst hu; rfl) hroom ?_
  · exact cell_one_new w0 _ _
  · intro w' h1 h2
    have e1 : nums k (xs ++ [y]) = nums k xs ++ [.int k y] := by simp [nums]
    refine h w' (by rw [e1]; exact h1) ?_
    exact ((Exc.refl (fun j => j = d) w0).alloc _).trans (Exc.of_grown h2) (fun i _ hh => (Option.some.inj hh).symm)
/-- What the closure's variable holds: a row of the call's own, at block d, of capacity C. -/
structure OutAt (w : World) (g d B n C : Nat) (xs : List Int) : Prop where
  var : Own w g 23 [.slice (some ⟨d, 0, none⟩) n C]
  row : w.ownsRow B 5 1 (.slice (some ⟨d, 0, none⟩) n C) n (nums .u8 xs)
  ne : d ≠ g
set_option maxHeartbeats 1000000 in
theorem put_any (x : Int) (b : Bool) (g d B n C : Nat) (xs : List Int) (w : World) (h0 : 0 ≤ x) (h1 : x ≤ 127) (h : OutAt w g d B n C xs) (hn : n + 1 ≤ C) (hB : B ≤ w.heap.size) (hg : B ≤ g) :
    Calls Tryd.prog 16 #[.int .u8 x, .bool b, .pointer (some ⟨g, 0, none⟩)] w fun e w' => e = .returned (.tuple #[]) ∧ OutAt w' g d B (n + 1) C (xs ++ [low x b]) ∧ Below B w w' := by
  obtain ⟨ho, hown, hne⟩ := h
  have hc := ho.cell 0 (by simp)
  simp only [List.getD_cons_zero] at hc
  have hor := or_mark h0 h1
  have hdB := (ownBlock_lt hown (k := d) rfl).1
  have HO := Lib.hid ho
  have HW := Lib.hid hown
  have HN := Lib.hid hne
  clear ho hown hne
  cases b
  all_goals
    go_enter Tryd.func16, Tryd.ntmps16
    go_wp2_with (at_builtin; refine wpList_append_one_fits Tryd.underlying23 info8 rfl _ _ rfl B d n C _ _ rfl (by exact HW.out) rfl hn ?_)
    intro w1 h2 h3
    have ho1 := HO.out.exc h3 (fun hh => HN.out hh.symm)
    have hc1 := ho1.cell 0 (by simp)
    simp only [List.getD_cons_zero] at hc1
    have hf1 := ho1.frozen 0
    have hb1 := h3.below hB (fun k _ hk => by omega)
    have HO1 := Lib.hid ho1
    have HW1 := Lib.hid h2
    have HB1 := Lib.hid hb1
    clear h2 h3 ho1 hb1 hc
    go_wp2
    go_end0
    refine ⟨rfl, ⟨HO1.out.set 0 _, ?_, HN.out⟩, HB1.out.setCell hg _⟩
    refine ownsRow_exc HW1.out ((Exc.refl (fun k => k = g) _).setCell ⟨g, 0, none⟩ (.inl rfl) _) (fun k hk hh => ?_)
    exact HN.out ((Option.some.inj hk).trans hh)
end Go.Proofs.YtnecdmihnndebaaDoor
