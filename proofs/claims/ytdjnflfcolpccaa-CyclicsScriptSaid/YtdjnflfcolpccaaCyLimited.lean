/- The code's end of a link: whether it is limited. -/
import Derived.Test.YtdjnflfcolpccaaCyLim
namespace Go.Proofs.Ytdjnflfcolpccaa
open Go.RowKit

set_option maxHeartbeats 1000000 in
theorem contains_any (b o xb : Nat) (x : En) (L : ELay) (w : World) (h : EndL w b x L) (ho : Own w o 3 [.int .i64 0]) (hx : w.cell? ⟨xb, 0, none⟩ = some (.pointer (some ⟨b, 0, none⟩))) (hno : ¬ L.S b o) (hox : o ≠ xb) :
    Calls Try.prog 54 #[.slice L.ao x.una.length L.co, .func (.func 53) #[] #[.pointer (some ⟨o, 0, none⟩), .pointer (some ⟨xb, 0, none⟩)]] w fun e w' =>
      e = .returned (.bool (decide (x.lo ≤ tot x.una))) ∧ Exc (fun k => k = o) w w' := by
  have hcon : Calls Try.prog 55 #[.slice L.ao x.una.length L.co, .func (.func 53) #[] #[.pointer (some ⟨o, 0, none⟩), .pointer (some ⟨xb, 0, none⟩)]] w fun e w' =>
      (∃ r : Int, e = .returned (.int .i64 r) ∧ (0 ≤ r ↔ x.lo ≤ tot x.una)) ∧ Exc (fun k => k = o) w w' := by
    have hfit := h.fit
    have hun := hfit.una
    have hwd : ∀ l, l ∈ x.una → l.length ≤ 273 := fun l hl => (h.wide l (.inr hl)).2
    by_cases h0 : x.una.length = 0
    · have he : x.una = [] := List.eq_nil_of_length_eq_zero h0
      rw [he]
      refine (index_none L.ao L.co _ w).mono ?_
      rintro e w' ⟨rfl, rfl⟩
      refine ⟨⟨-1, rfl, ?_⟩, Exc.refl _ _⟩
      have := hfit.lo1
      have e0 : tot ([] : List (List Int)) = 0 := rfl
      rw [e0]
      constructor <;> intro <;> omega
    · obtain ⟨kb, ko, s, ha, hgo, _, _, _⟩ := h.o.at (i := 0) (by omega)
      have hk : L.S b kb := .inr (.inr (.inl hgo))
      rw [ha]
      refine index_some b o xb x.lo kb ko L.co x.una w hfit.lo1 (by omega) (fun k hk => ?_) (fun hh => hno (.inl hh)) hox (fun hh => hno (hh ▸ hk)) ho hx h.cells.2.1 (fun k hk => ?_) ?_
      · rw [List.getD_eq_getElem?_getD, List.getElem?_eq_getElem hk]
        exact hwd _ (List.getElem_mem _)
      · obtain ⟨kb', ko', s', ha', _, hc, _, _⟩ := h.o.at hk
        rw [ha] at ha'
        cases ha'
        exact ⟨s', hc⟩
      · have := tot_le hwd
        have : x.una.length * 273 ≤ 127 * 273 := Nat.mul_le_mul_right _ hun
        omega
  have HC := Lib.hid hcon
  clear hcon h ho hx hno hox
  go_enter Try.func54, Try.ntmps54
  go_wp2_with fail
  with_reducible refine HC.out.mono ?_
  rintro e w' ⟨⟨r, rfl, hr⟩, hx⟩
  have HX := Lib.hid hx
  have HR := Lib.hid hr
  clear hx hr HC
  go_wp2
  go_ret
  exact ⟨congrArg (fun z => Ending.returned (Value.bool z)) (decide_eq_decide.2 HR.out), HX.out⟩
set_option maxHeartbeats 4000000 in
set_option maxRecDepth 100000 in
theorem limited_any (b : Nat) (x : En) (L : ELay) (w : World) (h : EndL w b x L) :
    Calls Try.prog 51 #[.pointer (some ⟨b, 0, none⟩)] w fun e w' => e = .returned (.bool x.lim) ∧ Below w.heap.size w w' := by
  obtain ⟨xb, hxb⟩ : ∃ k, k = w.heap.size := ⟨_, rfl⟩
  obtain ⟨o, hob⟩ : ∃ k, k = w.heap.size + 1 := ⟨_, rfl⟩
  obtain ⟨W0, hW0⟩ : ∃ X, X = (w.alloc (.cells #[.pointer (some ⟨b, 0, none⟩)] 96)).alloc (.cells #[.int .i64 0] 3) := ⟨_, rfl⟩
  have hb0 : Below w.heap.size w W0 := by rw [hW0]; exact (below_alloc _ _).alloc (by simp) _
  have ox0 : Own W0 xb 96 [.pointer (some ⟨b, 0, none⟩)] := by
    rw [hW0, hxb]
    exact (own_lit w _ _ _ rfl).below (below_alloc _ _) (by simp)
  have oo0 : Own W0 o 3 [.int .i64 0] := by
    have hh := own_lit (w.alloc (.cells #[.pointer (some ⟨b, 0, none⟩)] 96)) 3 #[.int .i64 0] _ rfl
    rw [World.size_alloc] at hh
    rw [hW0, hob]; exact hh
  have h0 := h.later hb0
  have hbs := h.own.lt
  have hslt := h.s_lt
  have hno : ¬ L.S b o := fun hh => by have := hslt o hh; omega
  have hlm := h.fit.lm1
  have hun := h.fit.una
  have hl2 := h.fit.lm2
  have HW0 := Lib.hid hW0
  have HB0 := Lib.hid hb0
  have HX0 := Lib.hid ox0
  have HO0 := Lib.hid oo0
  have H0 := Lib.hid h0
  have HN := Lib.hid hno
  have HXb := Lib.hid hxb
  have HOb := Lib.hid hob
  clear hW0 hb0 ox0 oo0 h0 hno hslt h hxb hob
  obtain ⟨B, hB⟩ : ∃ B, B = decide ((x.lm : Int) ≤ (x.una.length : Int)) := ⟨_, rfl⟩
  have hlim : x.lim = (B || decide (x.lo ≤ tot x.una)) := by
    unfold En.lim
    rw [hB]
    congr 1
    exact decide_eq_decide.2 (by omega)
  have HLim := Lib.hid hlim
  clear hlim
  go_enter Try.func51, Try.ntmps51
  go_wp2_with fail
  rw [← HW0.out, ← HOb.out, ← HXb.out]
  have cx0 := HX0.out.cell 0 (by simp)
  simp only [List.getD_cons_zero] at cx0
  have c0 := H0.out.cells.1
  have c3 := H0.out.cells.2.2.2.1
  have hox : o ≠ xb := by have := HXb.out; have := HOb.out; omega
  cases B
  · have hb1 : ¬ (x.lm : Int) ≤ (x.una.length : Int) := of_decide_eq_false hB.symm
    have hb2 : decide ((x.lm : Int) ≤ (x.una.length : Int)) = false := hB.symm
    have hb3 : ¬ x.lm ≤ x.una.length := by omega
    have hb4 : decide (x.lm ≤ x.una.length) = false := decide_eq_false hb3
    clear hB
    have hS : ∀ W, Exc (fun k => k = o) W0 W → Exc (fun k => k = o) W0 W ∧ W.cell? ⟨xb, 0, none⟩ = some (.pointer (some ⟨b, 0, none⟩)) ∧ W.cell? ⟨b, 0, none⟩ = some (.int .i64 (x.lm : Int)) ∧ W.cell? ⟨b, 3, none⟩ = some (.slice L.ao x.una.length L.co) := fun W hx =>
      ⟨hx, hx.cell cx0 (fun h => hox h.symm), hx.cell c0 (fun h => HN.out (.inl h.symm)), hx.cell c3 (fun h => HN.out (.inl h.symm))⟩
    have hcon : ∀ W, Below W0.heap.size W0 W → Calls Try.prog 54 #[.slice L.ao x.una.length L.co, .func (.func 53) #[] #[.pointer (some ⟨o, 0, none⟩), .pointer (some ⟨xb, 0, none⟩)]] W fun e w' =>
      e = .returned (.bool (decide (x.lo ≤ tot x.una))) ∧ Exc (fun k => k = o) W w' := fun W hb =>
      contains_any b o xb x L W (H0.out.later hb) (HO0.out.below hb HO0.out.lt) ((hb.cell (World.block_lt_of_cell? W0 _ cx0)).trans cx0) HN.out hox
    have HS := Lib.hid hS
    have HC := Lib.hid hcon
    have hbw : Below W0.heap.size W0 W0.drew := below_draw W0 1
    have hS0 := hS W0 (Exc.refl _ _)
    have hSw := hS W0.drew (Exc.of_below (below_draw W0 1))
    clear hS hcon
    first | go_region_held3 (fun W => Exc (fun k => k = o) W0 W ∧ W.cell? ⟨xb, 0, none⟩ = some (.pointer (some ⟨b, 0, none⟩)) ∧ W.cell? ⟨b, 0, none⟩ = some (.int .i64 (x.lm : Int)) ∧ W.cell? ⟨b, 3, none⟩ = some (.slice L.ao x.una.length L.co)) (first | assumption | exact HS.out _ (Exc.refl _ _) | exact HS.out _ (Exc.of_below (below_draw _ _)))
      (first
        | (go_at_call 54; ((with_reducible refine (HC.out _ (by first | exact hbw | exact Below.refl _ _)).mono ?_); rintro e w2 ⟨rfl, hx2⟩); have hS2 := HS.out w2 (by first | exact Exc.trans (S' := fun k => k = o) (Exc.of_below hbw) hx2 (fun _ _ h => h) | exact hx2); clear hx2)
        | fail) | fail
    all_goals (
      have HX2 := Lib.hid hS2.1
      clear hS0 hSw hS2 cx0 c0 c3
      go_wp2
      go_ret
      exact ⟨by rw [HLim.out]; rfl, HB0.out.trans (HX2.out.below HB0.out.size (fun i _ hi => by have := HOb.out; omega))⟩)
  · have hb1 : (x.lm : Int) ≤ (x.una.length : Int) := of_decide_eq_true hB.symm
    clear hB
    go_quiet (fail)
    go_wp2
    go_ret
    exact ⟨by rw [HLim.out]; rfl, HB0.out.trans (Below.mono (below_draw _ _) HB0.out.size)⟩
end Go.Proofs.Ytdjnflfcolpccaa
