/- The code's end of a link: what it does with the load of a unit. -/
import Derived.Test.YtdjnflfcolpccaaEaAck
namespace Go.Proofs.Ytdjnflfcolpccaa
open Go.RowKit

def En.recv (x : En) (u : Un) : Option (List Int) × En := if x.takes u then (some u.load, { x with acc := u.fore }) else (none, x)
/-- What receive hands back. -/
def Brings1 (w w' : World) (S : Nat → Prop) (o : Option (List Int)) (e : Ending) : Prop :=
  ∃ a c, e = .returned (.slice a o.toList.length c) ∧ Mat w' (fun k => w.heap.size ≤ k ∧ k < w'.heap.size ∧ ¬ S k) true a o.toList.length c o.toList ∧ (o ≠ none → c = 1)
theorem Brings1.none (w w' : World) (S : Nat → Prop) : Brings1 w w' S none (.returned (.slice none 0 0)) := ⟨_, _, rfl, Mat.nil _ _ _, fun h => absurd rfl h⟩
set_option maxHeartbeats 4000000 in
set_option maxRecDepth 100000 in
theorem receive_ok (b : Nat) (x : En) (L : ELay) (w : World) (u : Un) (s : Option Addr) (n c : Nat) (h : EndL w b x L) (hf : u.fore < 128) (hk : u.kind ≤ 2) (hr : Row .u8 w s n c u.load) (hn : n ≤ 273) (hsb : ∀ z, s = some z → z.block ≠ b) :
    Calls Try.prog 37 #[.pointer (some ⟨b, 0, none⟩), .agg (unCells u s n c).toArray] w fun e w' => Brings1 w w' (L.S b) (x.recv u).1 e ∧ EndL w' b (x.recv u).2 L ∧ Exc (fun k => k = b) w w' := by
  obtain ⟨ub, bb, uf, fb, uk, us, ul⟩ := u
  simp only at hf hk hr
  obtain ⟨W0, hW0⟩ : ∃ X, X = w.alloc (.cells (unCells ⟨ub, bb, uf, fb, uk, us, ul⟩ s n c).toArray 45) := ⟨_, rfl⟩
  have hb0 : Below w.heap.size w W0 := by rw [hW0]; exact below_alloc _ _
  have ou : Own W0 w.heap.size 45 (unCells ⟨ub, bb, uf, fb, uk, us, ul⟩ s n c) := by rw [hW0]; exact own_lit w _ _ _ rfl
  have h0 := h.later hb0
  have hr0 := hr.later hb0
  obtain ⟨v0, v1, v2, v3, v4, v5, v6⟩ := unit_cells ou
  have c5 := h0.cells.2.2.2.2.2.2.2.1
  have f5 := h0.own.frozen 7
  simp only at v2 v4 v6
  have hbs : b < w.heap.size := h.own.lt
  have hfit := h.fit
  have HSb := Lib.hid hsb
  have hSlt := h.s_lt
  have HSl := Lib.hid hSlt
  clear hsb hSlt
  have hbu : b ≠ w.heap.size := by omega
  obtain ⟨N, hN⟩ : ∃ N, N = (x.acc + 1) % 128 := ⟨_, rfl⟩
  have hsi : ((x.acc : Int) + 1) % 128 = (N : Int) := by omega
  have haf : ∀ W, Calls Try.prog 48 #[.int .u8 (x.acc : Int), .int .i64 1] W fun e w' => e = .returned (.int .u8 (N : Int)) ∧ w' = W := fun W => by
    have hh := after_any (x.acc : Int) 1 W (by have := hfit.acc; omega) (by have := hfit.acc; omega)
    rw [hsi] at hh
    exact hh.mono fun _ _ ⟨h1, h2⟩ => ⟨h1, h2.symm⟩
  have H := Lib.hid h
  have H0 := Lib.hid h0
  have HW0 := Lib.hid hW0
  have HB0 := Lib.hid hb0
  have HR0 := Lib.hid hr0
  have HAf := Lib.hid haf
  have HFit := Lib.hid hfit
  have HN := Lib.hid hN
  have HNl := Lib.hid hn
  have hU0 : w.heap.size < W0.heap.size := ou.lt
  have HU0 := Lib.hid ou
  have hbW : b < W0.heap.size := by omega
  clear h h0 hb0 hr hr0 haf hsi hfit ou v0 v1 v5 hn hf hk hW0
  clear hN
  simp only [unCells] at HW0 ⊢
  go_enter Try.func37, Try.ntmps37
  go_wp2_with fail
  rw [← HW0.out]
  by_cases hk2 : uk = 2
  · have hke : ((uk : Int) != 2) = false := by simp; omega
    have HK2 := Lib.hid hk2
    clear hk2
    by_cases hnx : uf = N
    · have hne : ((uf : Int) != (N : Int)) = false := by simp; omega
      have HNX := Lib.hid hnx
      clear hnx
      go_quiet ((go_at_call 48; exact Calls.quiet_of_same (HAf.out _)))
      generalize hW2 : W0.drewN nq = W2
      have hb2 : Below W0.heap.size W0 W2 := by rw [← hW2]; exact below_draw _ _
      have ou2 := HU0.out.below hb2 hU0
      have h2 := H0.out.later hb2
      have hr2 := HR0.out.later hb2
      have hbx2 : Below w.heap.size w W2 := HB0.out.trans (hb2.mono HB0.out.size)
      clear v2 v4 v6 c5 f5 hW2
      obtain ⟨v0, v1, v2, v3, v4, v5, v6⟩ := unit_cells ou2
      have c5 := h2.cells.2.2.2.2.2.2.2.1
      have f5 := h2.own.frozen 7
      simp only at v2 v6
      have hbW2 : b < W2.heap.size := h2.own.lt
      have hx23 : Exc (fun k => k = b) W2 (W2.setCell ⟨b, 7, none⟩ (.int .u8 (uf : Int))) := (Exc.refl (fun k => k = b) W2).setCell ⟨b, 7, none⟩ (.inl rfl) _
      have h3 := h2.redo (x' := { x with acc := uf }) hx23 (by
        have e2 : endCells { x with acc := uf } L = (endCells x L).set 7 (.int .u8 (uf : Int)) := by simp [endCells]
        rw [e2]; exact h2.own.set 7 _) rfl rfl ⟨HFit.out.que, HFit.out.una, HFit.out.plc, HFit.out.lm1, HFit.out.lm2, HFit.out.lo1, HFit.out.lo2, HFit.out.sent, by show uf < 128; rw [HNX.out, HN.out]; omega⟩
      have hz3 : (W2.setCell ⟨b, 7, none⟩ (.int .u8 (uf : Int))).heap.size = W2.heap.size := by simp
      have hcl := bclone_any s n c ul _ (hr2.exc hx23 (fun z hz => HSb.out z hz)) (by have := HNl.out; omega)
      rw [hz3] at hcl
      have H3 := Lib.hid h3
      have HX3 := Lib.hid ((Exc.of_below hbx2).trans hx23 (fun k _ hk => hk))
      have HCl := Lib.hid hcl
      have HZ3 := Lib.hid hz3
      have hw2 : w.heap.size ≤ W2.heap.size := hbx2.size
      have HR2 := Lib.hid hr2
      clear hb2 ou2 h2 hr2 hbx2 hx23 h3 hz3 hcl v0 v1 v3 v4 v5
      go_wp2_with fail
      refine HCl.out.mono ?_
      rintro e w4 ⟨rfl, hb4, ho4⟩
      have h4 := H3.out.later (by rw [HZ3.out]; exact hb4)
      have hx4 : Exc (fun k => k = b) w w4 := HX3.out.trans (Exc.of_below (S := fun _ => False) (by rw [HZ3.out]; exact hb4)) (fun _ _ hh => hh.elim)
      have h4s := ho4.lt
      have H4 := Lib.hid h4
      have HX4 := Lib.hid hx4
      have HO4 := Lib.hid ho4
      clear h4 hx4 ho4 hb4 v2 v6 c5 f5
      go_wp2
      go_ret
      have hlen : n = ul.length := HR2.out.len.symm
      have e : x.recv ⟨ub, bb, uf, fb, uk, us, ul⟩ = (some ul, { x with acc := uf }) := by
        have hnx : uf = (x.acc + 1) % 128 := by rw [← HN.out]; exact HNX.out
        have hk2 := HK2.out
        unfold En.recv En.takes
        simp [hnx, hk2]
      rw [e]
      have hba := below_alloc w4 (.cells #[.slice (some ⟨W2.heap.size, 0, none⟩) n n] 36)
      have ho5 := HO4.out.below hba h4s
      have hsz : (w4.alloc (.cells #[.slice (some ⟨W2.heap.size, 0, none⟩) n n] 36)).heap.size = w4.heap.size + 1 := by simp
      refine ⟨⟨some ⟨w4.heap.size, 0, none⟩, 1, rfl, ⟨rfl, Nat.le_refl _, by unfold maxLen; decide, .inr ⟨_, 0, rfl, ⟨by omega, by rw [hsz]; omega, fun hs => by have := HSl.out _ hs; omega⟩, fun i hi => ?_⟩, by simp⟩, fun _ => rfl⟩, H4.out.later hba, HX4.out.trans (Exc.of_below (S := fun _ => False) hba) (fun _ _ hh => hh.elim)⟩
      have hi0 : i = 0 := by
        have : i < 1 := hi
        omega
      subst hi0
      refine ⟨_, (own_lit w4 _ _ [.slice (some ⟨W2.heap.size, 0, none⟩) n n] rfl).cell 0 (by simp), ⟨_, n, by rw [hlen]; rfl, ?_, fun _ => hlen, fun z hz => ?_⟩⟩
      · show Row .u8 _ _ ul.length n ul
        rw [← hlen]
        exact ho5.row0 n n hlen (Nat.le_refl _) (by have := HNl.out; unfold maxLen; omega) HR2.out.wf
      · cases hz
        exact ⟨by show w.heap.size ≤ W2.heap.size; omega, by rw [hsz]; show W2.heap.size < _; omega, fun hs => by have := HSl.out _ hs; simp only at this; omega⟩
    · have hne : ((uf : Int) != (N : Int)) = true := by simp; omega
      have HNX := Lib.hid hnx
      clear hnx
      go_quiet ((go_at_call 48; exact Calls.quiet_of_same (HAf.out _)))
      go_wp2
      go_ret
      have e : x.recv ⟨ub, bb, uf, fb, uk, us, ul⟩ = (none, x) := by
        have hnx := HNX.out
        rw [HN.out] at hnx
        unfold En.recv En.takes
        simp [hnx]
      rw [e]
      exact ⟨Brings1.none _ _ _, H0.out.later (below_draw W0 nq), Exc.of_below (HB0.out.trans (Below.mono (below_draw W0 nq) HB0.out.size))⟩
  · have hke : ((uk : Int) != 2) = true := by simp; omega
    have HK2 := Lib.hid hk2
    clear hk2
    go_quiet (fail)
    go_wp2
    go_ret
    have e : x.recv ⟨ub, bb, uf, fb, uk, us, ul⟩ = (none, x) := by
      have hk2 := HK2.out
      unfold En.recv En.takes
      simp [hk2]
    rw [e]
    exact ⟨Brings1.none _ _ _, H0.out.later (below_draw W0 nq), Exc.of_below (HB0.out.trans (Below.mono (below_draw W0 nq) HB0.out.size))⟩
end Go.Proofs.Ytdjnflfcolpccaa
