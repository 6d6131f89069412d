/- The walk of TransfersErrors. -/
import Derived.Test.YtppbcehcaeeocaaTeOk2
import Derived.Test.YtppbcehcaeeocaaTeOk5
import Derived.Test.YtppbcehcaeeocaaTeOk8
import Derived.Test.YtppbcehcaeeocaaPlOpen
namespace Go.Proofs.Ytppbcehcaeeocaa
open Go.RowKit Go.Maps

set_option maxRecDepth 100000 in
set_option maxHeartbeats 4000000 in
theorem errors_big (p : Pn) (a : Option Addr) (n c : Nat) (a' : Option Addr) (n' c' : Nat) (t x d s : Int) (w : World) (_hP : PRow w a n c p.P) (_hL : LRow w a' n' c' p.L) (hbig : 80 < n ∨ 40 < n') :
    Calls Try.prog 5 #[planV a n c a' n' c' p, .int .u16 t, noteV x d s] w fun e w' => e = .returned (.bool true) ∧ Below w.heap.size w w' := by
  obtain ⟨W, hW⟩ : ∃ W, W = (w.alloc (.cells (planCells a n c a' n' c' p).toArray 33)).alloc (.cells #[.int .u16 x, .int .u16 d, .int .u8 s] 54) := ⟨_, rfl⟩
  have hB : Below w.heap.size w W := by rw [hW]; exact (below_alloc w _).alloc (by simp) _
  have hA : PlanAt W w.heap.size a n c a' n' c' p := by rw [hW]; exact (PlanAt.new w _ _ _ _ _ _ p).later (below_alloc _ _)
  have hd : decide ((80 : Int) < (n : Int)) = true ∨ (decide ((80 : Int) < (n : Int)) = false ∧ decide ((40 : Int) < (n' : Int)) = true) := by
    simp only [decide_eq_true_eq, decide_eq_false_iff_not]; omega
  have HL := Lib.hid (fun (V : World) => lives_any V)
  have HB := Lib.hid hB
  have HW := Lib.hid hW
  have HA := Lib.hid hA
  unfold planV noteV at *
  clear _hP _hL hA hB hW hbig
  rcases hd with h1 | ⟨h1, h2⟩
  all_goals go_enter Try.func5, Try.ntmps5
  all_goals go_upto_region 1 with fail
  all_goals show Code.wp _ _ _ _ ((w.alloc (.cells (planCells a n c a' n' c' p).toArray 33)).alloc (.cells #[.int .u16 x, .int .u16 d, .int .u8 s] 54))
  all_goals rw [← HW.out]
  all_goals obtain ⟨g0, g1, g2, g3, g4, g5, g6⟩ := HA.out.cells
  all_goals go_wp2_with fail
  all_goals with_reducible refine (HL.out _).mono ?_
  all_goals rintro e wz ⟨rfl, hb⟩
  all_goals have HZ := Lib.hid (HB.out.trans (hb.mono HB.out.size))
  all_goals clear hb
  all_goals go_wp2
  all_goals go_ret
  all_goals exact ⟨rfl, HZ.out⟩
theorem errors_walk (a : Option Addr) (n c : Nat) (a' : Option Addr) (n' c' : Nat) (p : Pn) (t x d s : Int) (w : World) (hP : PRow w a n c p.P) (hL : LRow w a' n' c' p.L) (_hN : NumOk p) (ht : (Lit.int .u16 t).wf = true) (hx : (Lit.int .u16 x).wf = true) (hd : (Lit.int .u16 d).wf = true) (hs : (Lit.int .u8 s).wf = true) :
    Calls Try.prog 5 #[planV a n c a' n' c' p, .int .u16 t, noteV x d s] w fun e w' => e = .returned (.bool true) ∧ Below w.heap.size w w' := by
  by_cases hbig : 80 < n ∨ 40 < n'
  · exact errors_big p a n c a' n' c' t x d s w hP hL hbig
  · have hn1 : n ≤ 80 := by omega
    have hn2 : n' ≤ 40 := by omega
    have hs0 : 0 ≤ s := (wf_u8.1 hs).1
    by_cases hE : chkPts p [t] = 0
    · obtain ⟨hv, hb⟩ := chkPts_ok.1 hE
      have hi : ∃ i, fnd p.P t = some i := by
        cases hf : fnd p.P t with
        | some i => exact ⟨i, rfl⟩
        | none => simp [badI, (idN_none hf).2] at hb
      obtain ⟨i, hi⟩ := hi
      by_cases hm : x ∈ nbrs p t
      · by_cases hpl : d ∈ codesP p.P
        · by_cases hdt : d = t
          · subst hdt
            by_cases h2 : s ≤ 2
            · exact err_m_melo p a n c a' n' c' d x d s w hP hL hn1 hn2 ht hx hd hs0 i hi hv hm rfl h2
            · exact err_m_mehi p a n c a' n' c' d x d s w hP hL hn1 hn2 ht hx hd hs0 i hi hv hm rfl (by omega)
          · by_cases h2 : s ≤ 2
            · by_cases he : d = x
              · exact err_m_self p a n c a' n' c' t x d s w hP hL hn1 hn2 ht hx hd hs0 i hi hv hm hpl hdt h2 he
              · exact err_m_ok p a n c a' n' c' t x d s w hP hL hn1 hn2 ht hx hd hs0 i hi hv hm hpl hdt h2 he
            · exact err_m_hi p a n c a' n' c' t x d s w hP hL hn1 hn2 ht hx hd hs0 i hi hv hm hpl hdt (by omega)
        · exact err_m_no p a n c a' n' c' t x d s w hP hL hn1 hn2 ht hx hd hs0 i hi hv hm hpl
      · by_cases hpl : d ∈ codesP p.P
        · by_cases hdt : d = t
          · subst hdt
            exact err_x_me p a n c a' n' c' d x d s w hP hL hn1 hn2 ht hx hd hs0 i hi hv hm rfl
          · exact err_x_ot p a n c a' n' c' t x d s w hP hL hn1 hn2 ht hx hd hs0 i hi hv hm hpl hdt
        · exact err_x_no p a n c a' n' c' t x d s w hP hL hn1 hn2 ht hx hd hs0 i hi hv hm hpl
    · exact errors_err p a n c a' n' c' t x d s w hP hL hn1 hn2 ht hx hd hs0 _ rfl hE
end Go.Proofs.Ytppbcehcaeeocaa
