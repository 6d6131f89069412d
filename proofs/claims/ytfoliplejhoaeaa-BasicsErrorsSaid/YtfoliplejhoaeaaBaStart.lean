/- Contracts: a pair of ends: start. -/
import Derived.Test.YtfoliplejhoaeaaBaPairL
namespace Go.Proofs.Ytfoliplejhoaeaa
open Go.RowKit

def PSt.zero : PSt := ⟨En.zero, En.zero, [], [], 0, 0, [], []⟩
/-- The colours of a new pair. -/
noncomputable def newCol (n p : Nat) (S0 S1 : Nat → Prop) (k : Nat) : Nat := open Classical in if k < n then 8 else if k = p then 0 else if S0 k then 1 else if S1 k then 2 else 7
theorem newCol_low {n p : Nat} {S0 S1 : Nat → Prop} {k : Nat} (h : k < n) : newCol n p S0 S1 k = 8 := by unfold newCol; rw [if_pos h]
theorem newCol_p {n p : Nat} {S0 S1 : Nat → Prop} (h : n ≤ p) : newCol n p S0 S1 p = 0 := by unfold newCol; rw [if_neg (by omega), if_pos rfl]
theorem newCol_0 {n p : Nat} {S0 S1 : Nat → Prop} {k : Nat} (h : n ≤ p) (hk : p < k) (hs : S0 k) : newCol n p S0 S1 k = 1 := by unfold newCol; rw [if_neg (by omega), if_neg (by omega), if_pos hs]
theorem newCol_1 {n p : Nat} {S0 S1 : Nat → Prop} {k : Nat} (h : n ≤ p) (hk : p < k) (hn : ¬ S0 k) (hs : S1 k) : newCol n p S0 S1 k = 2 := by unfold newCol; rw [if_neg (by omega), if_neg (by omega), if_neg hn, if_pos hs]
theorem start_any (I : EndFace) (w : World) :
    Calls Try.prog 27 #[] w fun e w' => (∃ p L, L.B = w.heap.size ∧ e = .returned (.pointer (some ⟨p, 0, none⟩)) ∧ PairAt I w' p PSt.zero L) ∧ Below w.heap.size w w' := by
  have HN := Lib.hid I.new
  go_enter Try.func27, Try.ntmps27
  go_wp2_with fail
  obtain ⟨w0, hw0⟩ : ∃ X, X = w.alloc (.cells #[.pointer none, .pointer none, .slice none 0 0, .slice none 0 0, .int .i64 0, .int .i64 0, .slice none 0 0, .slice none 0 0, .bool false] 68) := ⟨_, rfl⟩
  have ou0 : Own w0 w.heap.size 68 [.pointer none, .pointer none, .slice none 0 0, .slice none 0 0, .int .i64 0, .int .i64 0, .slice none 0 0, .slice none 0 0, .bool false] := by rw [hw0]; exact own_lit w _ _ _ rfl
  have hb0 : Below w.heap.size w w0 := by rw [hw0]; exact below_alloc _ _
  have hl0 := ou0.lt
  rw [← hw0]
  refine (HN.out w0).mono ?_
  rintro e w1 ⟨⟨b0, S0, rfl, ha0, hs0⟩, hb1⟩
  have ou1 := ou0.below hb1 hl0
  have hl1 := ou1.lt
  have k0 := ou1.cell 0 (by simp)
  have f0 := ou1.frozen 0
  simp only [List.getD_cons_zero] at k0
  have HA0 := Lib.hid ha0
  have HS0 := Lib.hid hs0
  have HB1 := Lib.hid hb1
  have HW0 := Lib.hid hw0
  have HB0 := Lib.hid hb0
  have HO1 := Lib.hid ou1
  clear ha0 hs0 hb1 hw0 hb0 ou1 ou0
  go_wp2_with fail
  have ho2 := HO1.out.set 0 (.pointer (some ⟨b0, 0, none⟩))
  have hx2 : Exc (fun k => k = w.heap.size) w1 (w1.setCell ⟨w.heap.size, 0, none⟩ (.pointer (some ⟨b0, 0, none⟩))) := (Exc.refl (fun k => k = w.heap.size) w1).setCell ⟨w.heap.size, 0, none⟩ (.inl rfl) _
  obtain ⟨w2, hw2⟩ : ∃ X, X = w1.setCell ⟨w.heap.size, 0, none⟩ (.pointer (some ⟨b0, 0, none⟩)) := ⟨_, rfl⟩
  rw [← hw2] at ho2 hx2 ⊢
  have ha2 := I.exc HA0.out hx2 (fun k hk hh => by have := HS0.out k hk; omega)
  have hl2 := ho2.lt
  refine (HN.out w2).mono ?_
  rintro e w3 ⟨⟨b1, S1, rfl, ha1, hs1⟩, hb3⟩
  have ou3 := ho2.below hb3 hl2
  have ha3 := I.exc (S := S0) (T := fun _ => False) ha2 (Exc.of_below hb3) (fun _ _ hh => hh)
  have hlt2 := I.lt ha2
  have hl3 := ou3.lt
  have k1 := ou3.cell 1 (by simp)
  have f1 := ou3.frozen 1
  simp only [List.set_cons_zero, List.getD_cons_succ, List.getD_cons_zero] at k1
  have HA3 := Lib.hid ha3
  have HA1 := Lib.hid ha1
  have HS1 := Lib.hid hs1
  have HL2 := Lib.hid hlt2
  have HB3 := Lib.hid hb3
  have HX2 := Lib.hid hx2
  have HO3 := Lib.hid ou3
  clear ha1 ha3 hs1 hlt2 hb3 hx2 ou3 ha2 ho2 hw2 k0 f0
  go_wp2_with fail
  go_ret
  have ho4 := HO3.out.set 1 (.pointer (some ⟨b1, 0, none⟩))
  have hx4 : Exc (fun k => k = w.heap.size) w3 (w3.setCell ⟨w.heap.size, 1, none⟩ (.pointer (some ⟨b1, 0, none⟩))) := (Exc.refl (fun k => k = w.heap.size) w3).setCell ⟨w.heap.size, 1, none⟩ (.inl rfl) _
  obtain ⟨w4, hw4⟩ : ∃ X, X = w3.setCell ⟨w.heap.size, 1, none⟩ (.pointer (some ⟨b1, 0, none⟩)) := ⟨_, rfl⟩
  rw [← hw4] at ho4 hx4 ⊢
  have hs02 : w0.heap.size ≤ w1.heap.size := HB1.out.size
  have hs12 : w1.heap.size ≤ w2.heap.size := HX2.out.size
  have hs23 : w2.heap.size ≤ w3.heap.size := HB3.out.size
  have hp0 : ∀ k, S0 k → w.heap.size < k := fun k hk => Nat.lt_of_lt_of_le hl0 (HS0.out k hk)
  have hp1 : ∀ k, S1 k → w.heap.size < k := fun k hk => by have := HS1.out k hk; omega
  have hd : ∀ k, S1 k → ¬ S0 k := fun k hk h0 => by have := HS1.out k hk; have := HL2.out k h0; omega
  refine ⟨⟨w.heap.size, ⟨b0, b1, S0, S1, none, none, none, none, none, none, none, none, 0, 0, 0, 0, w.heap.size, newCol w.heap.size w.heap.size S0 S1⟩, rfl, rfl, ?_⟩, ?_⟩
  · refine ⟨ho4, I.exc HA3.out hx4 (fun k hk hh => ?_), I.exc HA1.out hx4 (fun k hk hh => ?_), WayAt.nil _ _, WayAt.nil _ _, TakAt.nil _ _, TakAt.nil _ _, newCol_p (Nat.le_refl _), fun k hk => newCol_0 (Nat.le_refl _) (hp0 k hk) hk, fun k hk => newCol_1 (Nat.le_refl _) (hp1 k hk) (hd k hk) hk, nofun, nofun, nofun, nofun, fun k hk => newCol_low hk, ?_⟩
    · have := hp0 k hk; omega
    · have := hp1 k hk; omega
    · show w.heap.size ≤ w4.heap.size
      have := hx4.size; omega
  · have q1 := Below.mono HB1.out (Nat.le_of_lt hl0)
    have q2 : Below w.heap.size w1 w2 := HX2.out.below (by omega) (fun i _ hi => Nat.le_of_eq hi.symm)
    have q3 := Below.mono HB3.out (Nat.le_of_lt hl2)
    have q4 : Below w.heap.size w3 w4 := hx4.below (by omega) (fun i _ hi => Nat.le_of_eq hi.symm)
    exact HB0.out.trans (q1.trans (q2.trans (q3.trans q4)))
end Go.Proofs.Ytfoliplejhoaeaa
