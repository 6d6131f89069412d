/- The code's end of a link: the unit with an open load. -/
import Derived.Test.YtpggiajpjnegkaaCyForce
import Derived.Deep.RegionLaw
namespace Go.Proofs.Ytpggiajpjnegkaa
open Go.RowKit

set_option maxHeartbeats 4000000 in
set_option maxRecDepth 100000 in
theorem unit_any (b : Nat) (x : En) (L : ELay) (w : World) (I : Nat) (h : EndL w b x L) (hI : I < x.una.length) :
    Calls Try.prog 56 #[.pointer (some ⟨b, 0, none⟩), .int .i64 (I : Int)] w fun e w' => ∃ g : Nat,
      e = .returned (.agg (unCells ⟨0, false, (x.sent + 129 + I - x.una.length) % 128, false, 2, 0, x.una.getD I []⟩ (some ⟨g, 0, none⟩) (x.una.getD I []).length (x.una.getD I []).length).toArray) ∧ w.heap.size ≤ g ∧ Own w' g 5 (nums .u8 (x.una.getD I [])) ∧ Below w.heap.size w w' := by
  have hfit := h.fit
  have hul := hfit.una
  have hse := hfit.sent
  obtain ⟨F, hF⟩ : ∃ F, F = (x.sent + 129 + I - x.una.length) % 128 := ⟨_, rfl⟩
  obtain ⟨k, o, s, ha, hg, hcl, hrr, hz⟩ := h.o.at hI
  obtain ⟨l, hl⟩ : ∃ l, l = x.una.getD I [] := ⟨_, rfl⟩
  have hwl : l.length ≤ 273 := by
    rw [hl]
    refine (h.wide _ (.inr ?_)).2
    rw [List.getD_eq_getElem?_getD, List.getElem?_eq_getElem hI]
    exact List.getElem_mem hI
  rw [← hl] at hcl hrr ⊢
  have hn1 : ((x.sent : Int) + ((I : Int) + 1 - (x.una.length : Int))) % 128 = (F : Int) := by omega
  rw [← hF]
  obtain ⟨n, hn⟩ : ∃ n, n = x.una.length := ⟨_, rfl⟩
  rw [← hn] at hn1 hul hI
  obtain ⟨N, hN⟩ : ∃ N, N = l.length := ⟨_, rfl⟩
  rw [← hN] at hcl hrr hwl ⊢
  have haf : ∀ W, Calls Try.prog 53 #[.int .u8 (x.sent : Int), .int .i64 ((I : Int) + 1 - (n : Int))] W fun e w' => e = .returned (.int .u8 (F : Int)) ∧ W = w' := fun W => by
    have hh := after_any (x.sent : Int) ((I : Int) + 1 - (n : Int)) W (by omega) (by omega)
    rw [hn1] at hh
    exact hh
  obtain ⟨W1, hW1⟩ : ∃ W, W = w.alloc (.cells zeroUnit.toArray 45) := ⟨_, rfl⟩
  have hb1 : Below w.heap.size w W1 := by rw [hW1]; exact below_alloc _ _
  have ou : Own W1 w.heap.size 45 zeroUnit := by rw [hW1]; exact own_lit w _ _ _ rfl
  have h1 := h.later hb1
  have c3 := h1.cells.2.2.2.1
  have c6 := h1.cells.2.2.2.2.2.2.1
  rw [ha, ← hn] at c3
  have hks : k < w.heap.size := h.o.lt hg
  replace hcl := (hb1.cell (p := ⟨k, o + I, none⟩) hks).trans hcl
  have hcn : Calls Try.prog 37 #[.slice s N N] W1.drew fun e w' => e = .returned (.slice (some ⟨W1.heap.size, 0, none⟩) N N) ∧ Below W1.heap.size W1.drew w' ∧ Own w' W1.heap.size 5 (nums .u8 l) := bclone_any s N N l W1.drew ((hrr.later hb1).later (below_draw W1 1)) (by omega)
  obtain ⟨u0, u1, u2, u3, u4, u5, u6⟩ := unit_cells ou
  obtain ⟨t0, t1, t2, t3, t4, t5, t6⟩ := unit_frozen ou
  have hbs : b < W1.heap.size := h1.own.lt
  have hus : w.heap.size < W1.heap.size := ou.lt
  have hks1 : k < W1.heap.size := by omega
  have hw1 : IntKind.i64.wrap ((I : Int) + 1) = (I : Int) + 1 := IntWalk.i64_in _ (by omega)
  have hw2 : IntKind.i64.wrap ((I : Int) + 1 - (n : Int)) = (I : Int) + 1 - (n : Int) := IntWalk.i64_in _ (by omega)
  have hi0 : (0 : Int) ≤ (I : Int) := by omega
  have hi1 : (I : Int) < (n : Int) := by omega
  have HAf := Lib.hid haf
  have HCn := Lib.hid hcn
  have HW := Lib.hid hW1
  have HB := Lib.hid hb1
  have HU := Lib.hid ou
  clear haf hcn hW1 hb1 ou h1 h hfit hF hl hrr hz hg ha hn1 hn hN hul hse hks hI
  go_enter Try.func56, Try.ntmps56
  go_wp2_with fail
  rw [← HW.out]
  go_region_law
    (first
      | (go_simp; go_at_call 53; ((with_reducible refine (HAf.out _).mono ?_); rintro e w2 ⟨rfl, rfl⟩; dsimp only))
      | (go_simp; go_at_call 37; ((with_reducible refine (HCn.out).mono ?_); rintro e w3 ⟨rfl, hb3, ho3⟩; have hs3 := ho3.lt; have kc3 := (hb3.cell (p := ⟨b, 3, none⟩) hbs).trans c3; have kc6 := (hb3.cell (p := ⟨b, 6, none⟩) hbs).trans c6; have ou3 := HU.out.below ((below_draw W1 1).trans hb3) hus; obtain ⟨v0, v1, v2, v3, v4, v5, v6⟩ := unit_cells ou3; obtain ⟨g0, g1, g2, g3, g4, g5, g6⟩ := unit_frozen ou3; have HU3 := Lib.hid ou3; have HQ := Lib.hid (And.intro hb3 ho3); clear hb3 ho3 ou3; dsimp only))
      | fail)
  all_goals
    clear c3 c6 hcl u0 u1 u2 u3 u4 u5 u6 t0 t1 t2 t3 t4 t5 t6 kc3 kc6 v0 v1 v2 v3 v4 v5 v6 g0 g1 g2 g3 g4 g5 g6 hw1 hw2
    generalize hW4 : (((((((w3.setCell ⟨w.heap.size, 0, none⟩ (.int .u8 0)).setCell ⟨w.heap.size, 1, none⟩ (.bool false)).setCell ⟨w.heap.size, 2, none⟩ (.int .u8 (F : Int))).setCell ⟨w.heap.size, 3, none⟩ (.bool false)).setCell ⟨w.heap.size, 4, none⟩ (.int .u8 2)).setCell ⟨w.heap.size, 5, none⟩ (.int .u8 0)).setCell ⟨w.heap.size, 6, none⟩ (.slice (some ⟨W1.heap.size, 0, none⟩) N N)) = W4
    have hx4 : Exc (fun j => j = w.heap.size) w3 W4 := by rw [← hW4]; exact (((((((Exc.refl (fun j => j = w.heap.size) w3).setCell ⟨w.heap.size, 0, none⟩ (.inl rfl) _).setCell ⟨w.heap.size, 1, none⟩ (.inl rfl) _).setCell ⟨w.heap.size, 2, none⟩ (.inl rfl) _).setCell ⟨w.heap.size, 3, none⟩ (.inl rfl) _).setCell ⟨w.heap.size, 4, none⟩ (.inl rfl) _).setCell ⟨w.heap.size, 5, none⟩ (.inl rfl) _).setCell ⟨w.heap.size, 6, none⟩ (.inl rfl) _
    have ou4 : Own W4 w.heap.size 45 [.int .u8 0, .bool false, .int .u8 (F : Int), .bool false, .int .u8 2, .int .u8 0, .slice (some ⟨W1.heap.size, 0, none⟩) N N] := by rw [← hW4]; exact ((((((HU3.out.set 0 (.int .u8 0)).set 1 (.bool false)).set 2 (.int .u8 (F : Int))).set 3 (.bool false)).set 4 (.int .u8 2)).set 5 (.int .u8 0)).set 6 (.slice (some ⟨W1.heap.size, 0, none⟩) N N)
    have hb13 : Below W1.heap.size W1 w3 := (below_draw W1 1).trans HQ.out.1
    have HE := Lib.hid (And.intro (HQ.out.2.exc hx4 (by omega)) ((HB.out.trans (Below.mono hb13 HB.out.size)).trans (hx4.below (Nat.le_trans HB.out.size hb13.size) (fun i _ hi => Nat.le_of_eq hi.symm))))
    obtain ⟨y0, y1, y2, y3, y4, y5, y6⟩ := unit_cells ou4
    clear hW4 hx4 ou4 hb13
    go_wp2
    refine bodyPost_ret (v := .agg (unCells ⟨0, false, F, false, 2, 0, l⟩ (some ⟨W1.heap.size, 0, none⟩) N N).toArray) (by simp [results, Try.results56, go_sem, y0, y1, y2, y3, y4, y5, y6, unCells]) rfl ?_
    exact ⟨W1.heap.size, rfl, HB.out.size, HE.out.1, HE.out.2⟩
end Go.Proofs.Ytpggiajpjnegkaa
