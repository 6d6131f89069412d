/- Contracts: cmp.Compare at point codes and octets, cmp.Or of three integers, labels.Compare. -/
import Derived.Test.YtppbcehcaeeocaaBaseEx
import Derived.StillTailTactics
import Derived.Test.YtppbcehcaeeocaaUnBase
namespace Go.Proofs.Ytppbcehcaeeocaa
open Go.RowKit

def cmpL (a b : Int) : Int := if a < b then -1 else if b < a then 1 else 0
theorem cmpL_cases (a b : Int) : cmpL a b = -1 ∧ a < b ∨ cmpL a b = 1 ∧ b < a ∨ cmpL a b = 0 ∧ a = b := by
  unfold cmpL; split; · omega
  split <;> omega
theorem cmp16_any (a b : Int) (w : World) :
    Calls Try.prog 53 #[.int .u16 a, .int .u16 b] w fun e w' => e = .returned (.int .i64 (cmpL a b)) ∧ w = w' := by
  rcases cmpL_cases a b with ⟨e, h⟩ | ⟨e, h⟩ | ⟨e, rfl⟩ <;> rw [e] <;> clear e
  · go_enter Try.func53, Try.ntmps53
    go_wp2
    go_ret
    exact ⟨rfl, rfl⟩
  · have h' : ¬ a < b := by omega
    go_enter Try.func53, Try.ntmps53
    go_wp2
    go_ret
    exact ⟨rfl, rfl⟩
  · go_enter Try.func53, Try.ntmps53
    go_wp2
    go_ret
    exact ⟨rfl, rfl⟩
theorem cmp8_any (a b : Int) (w : World) :
    Calls Try.prog 99 #[.int .u8 a, .int .u8 b] w fun e w' => e = .returned (.int .i64 (cmpL a b)) ∧ w = w' := by
  rcases cmpL_cases a b with ⟨e, h⟩ | ⟨e, h⟩ | ⟨e, rfl⟩ <;> rw [e] <;> clear e
  · go_enter Try.func99, Try.ntmps99
    go_wp2
    go_ret
    exact ⟨rfl, rfl⟩
  · have h' : ¬ a < b := by omega
    go_enter Try.func99, Try.ntmps99
    go_wp2
    go_ret
    exact ⟨rfl, rfl⟩
  · go_enter Try.func99, Try.ntmps99
    go_wp2
    go_ret
    exact ⟨rfl, rfl⟩
def orL (x y z : Int) : Int := if x ≠ 0 then x else if y ≠ 0 then y else z
theorem or_any (g : Nat) (x y z : Int) (w : World) (h : Own w g 3 [.int .i64 x, .int .i64 y, .int .i64 z]) :
    Calls Try.prog 51 #[.slice (some ⟨g, 0, none⟩) 3 3] w fun e w' => e = .returned (.int .i64 (orL x y z)) ∧ w = w' := by
  have c0 := h.cell 0 (by simp)
  have c1 := h.cell 1 (by simp)
  have c2 := h.cell 2 (by simp)
  simp at c0 c1 c2
  clear h
  go_enter Try.func51, Try.ntmps51
  go_wp2
  go_loop [8] (fun i => i = .int .i64 0 ∨ (i = .int .i64 1 ∧ x = 0) ∨ (i = .int .i64 2 ∧ x = 0 ∧ y = 0) ∨ (i = .int .i64 3 ∧ x = 0 ∧ y = 0 ∧ z = 0)) (fun i => 3 - (intOf i).toNat)
  case atStart => exact .inl rfl
  case round =>
    rcases hrel with rfl | ⟨rfl, rfl⟩ | ⟨rfl, rfl, rfl⟩ | ⟨rfl, rfl, rfl, rfl⟩
    · by_cases hx : x = 0
      · subst hx
        go_wp2
        go_round
        case rel => simp
        case measure => simp [intOf]
      · have hb : (x != 0) = true := by simpa using hx
        have HE := Lib.hid (show orL x y z = x from by simp [orL, hx])
        go_wp2
        go_ret
        exact ⟨ret_int HE.out.symm, rfl⟩
    · by_cases hx : y = 0
      · subst hx
        go_wp2
        go_round
        case rel => simp
        case measure => simp [intOf]
      · have hb : (y != 0) = true := by simpa using hx
        have HE := Lib.hid (show orL 0 y z = y from by simp [orL, hx])
        go_wp2
        go_ret
        exact ⟨ret_int HE.out.symm, rfl⟩
    · by_cases hx : z = 0
      · subst hx
        go_wp2
        go_round
        case rel => simp
        case measure => simp [intOf]
      · have hb : (z != 0) = true := by simpa using hx
        have HE := Lib.hid (show orL 0 0 z = z from by simp [orL])
        go_wp2
        go_ret
        exact ⟨ret_int HE.out.symm, rfl⟩
    · go_wp2
      go_ret
      exact ⟨rfl, rfl⟩
/-- The order of two links: A, then B, then Code. -/
def ordL (a1 a2 a3 b1 b2 b3 : Int) : Int := orL (cmpL a1 b1) (cmpL a2 b2) (cmpL a3 b3)
theorem below_two (w : World) (o o' : Obj) : Below w.heap.size w ((w.alloc o).alloc o') := (below_alloc w o).trans ((below_alloc _ o').mono (by simp))
theorem link_own {W : World} {g t : Nat} {A B C : Int} (h : Own W g t [.int .u16 A, .int .u16 B, .int .u8 C]) : W.cell? ⟨g, 0, none⟩ = some (.int .u16 A) ∧ W.cell? ⟨g, 1, none⟩ = some (.int .u16 B) ∧ W.cell? ⟨g, 2, none⟩ = some (.int .u8 C) := by
  have c0 := h.cell 0 (by simp)
  have c1 := h.cell 1 (by simp)
  have c2 := h.cell 2 (by simp)
  simp at c0 c1 c2
  exact ⟨c0, c1, c2⟩
set_option maxRecDepth 100000 in
theorem compare_any (a1 a2 a3 b1 b2 b3 : Int) (w : World) :
    Calls Try.prog 88 #[.agg #[.int .u16 a1, .int .u16 a2, .int .u8 a3], .agg #[.int .u16 b1, .int .u16 b2, .int .u8 b3]] w fun e w' => e = .returned (.int .i64 (ordL a1 a2 a3 b1 b2 b3)) ∧ Below w.heap.size w w' := by
  have H1 := Lib.hid (fun W => show Calls Try.prog 53 #[.int .u16 a1, .int .u16 b1] W fun e w' => e = .returned (.int .i64 (cmpL a1 b1)) ∧ w' = W from (cmp16_any a1 b1 W).mono fun _ _ h => ⟨h.1, h.2.symm⟩)
  have H2 := Lib.hid (fun W => show Calls Try.prog 53 #[.int .u16 a2, .int .u16 b2] W fun e w' => e = .returned (.int .i64 (cmpL a2 b2)) ∧ w' = W from (cmp16_any a2 b2 W).mono fun _ _ h => ⟨h.1, h.2.symm⟩)
  have H3 := Lib.hid (fun W => show Calls Try.prog 99 #[.int .u8 a3, .int .u8 b3] W fun e w' => e = .returned (.int .i64 (cmpL a3 b3)) ∧ w' = W from (cmp8_any a3 b3 W).mono fun _ _ h => ⟨h.1, h.2.symm⟩)
  have HO := Lib.hid (fun g W => or_any g (cmpL a1 b1) (cmpL a2 b2) (cmpL a3 b3) W)
  go_enter Try.func88, Try.ntmps88
  go_wp2_with fail
  have hb := below_two w (.cells #[.int .u16 a1, .int .u16 a2, .int .u8 a3] 97) (.cells #[.int .u16 b1, .int .u16 b2, .int .u8 b3] 97)
  obtain ⟨c0, c1, c2⟩ := link_own ((own_lit w 97 #[.int .u16 a1, .int .u16 a2, .int .u8 a3] _ rfl).below (below_alloc _ (.cells #[.int .u16 b1, .int .u16 b2, .int .u8 b3] 97)) (by simp))
  obtain ⟨d0, d1, d2⟩ := link_own (own_lit (w.alloc (.cells #[.int .u16 a1, .int .u16 a2, .int .u8 a3] 97)) 97 #[.int .u16 b1, .int .u16 b2, .int .u8 b3] _ rfl)
  rw [World.size_alloc] at d0 d1 d2
  generalize (w.alloc (.cells #[.int .u16 a1, .int .u16 a2, .int .u8 a3] 97)).alloc (.cells #[.int .u16 b1, .int .u16 b2, .int .u8 b3] 97) = W at *
  go_still_tail 15, (by kernel_rfl)
  repeat still_step
  still_call (H1.out _)
  repeat still_step
  still_call (H2.out _)
  repeat still_step
  still_call (H3.out _)
  repeat still_step
  refine wpStill_nil ?_
  change wpList _ _ _ _ _ W.drew
  go_wp2_with fail
  refine (HO.out _ _ (own_lit W.drew 3 _ _ rfl)).mono ?_
  rintro e w' ⟨rfl, rfl⟩
  have HB := Lib.hid ((hb.trans ((Below.refl W.heap.size W).drew.mono hb.size)).trans ((below_alloc W.drew (.cells #[.int .i64 (cmpL a1 b1), .int .i64 (cmpL a2 b2), .int .i64 (cmpL a3 b3)] 3)).mono hb.size))
  clear hb c0 c1 c2 d0 d1 d2
  go_wp2
  go_ret
  exact ⟨rfl, HB.out⟩
end Go.Proofs.Ytppbcehcaeeocaa
