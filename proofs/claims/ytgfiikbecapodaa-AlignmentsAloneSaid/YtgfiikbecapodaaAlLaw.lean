/- Statements of layer 9: times of octets. -/
import Derived.Test.YtgfiikbecapodaaAlGet
namespace Go.Proofs.Ytgfiikbecapodaa
open Go.RowKit

/-- The times of seven octets. -/
def tiOf (a0 a1 a2 a3 a4 a5 a6 : Nat) : Ti := ⟨1 + a0 % 12, 1 + a1 % 12, 1 + a2 % 12, 1 + a3 % 12, 1 + a4 % 12, 1 + a5 % 12, 1 + a6 % 12⟩
/-- All times are from 1 to 12. -/
structure Ti.Low (t : Ti) : Prop where
  seek : 1 ≤ t.seek ∧ t.seek ≤ 12
  hold : 1 ≤ t.hold ∧ t.hold ≤ 12
  normal : 1 ≤ t.normal ∧ t.normal ≤ 12
  emer : 1 ≤ t.emer ∧ t.emer ≤ 12
  few : 1 ≤ t.few ∧ t.few ≤ 12
  fewer : 1 ≤ t.fewer ∧ t.fewer ≤ 12
  most : 1 ≤ t.most ∧ t.most ≤ 12
theorem tiOf_low (a0 a1 a2 a3 a4 a5 a6 : Nat) : (tiOf a0 a1 a2 a3 a4 a5 a6).Low := by
  constructor <;> (simp only [tiOf]; omega)
theorem Ti.Low.fit {t : Ti} (h : t.Low) : t.Fit := by
  obtain ⟨a, b, c, d, e, f, g⟩ := h
  constructor <;> omega
set_option maxHeartbeats 1000000 in
set_option maxRecDepth 100000 in
theorem one_any (a : Nat) (w : World) (h : a ≤ 255) :
    Calls Try.prog 28 #[.int .u8 (a : Int)] w fun e w' => e = .returned (.int .i64 ((1 + a % 12 : Nat) : Int)) ∧ w' = w := by
  obtain ⟨A, hA⟩ : ∃ A, A = 1 + a % 12 := ⟨_, rfl⟩
  rw [← hA]
  have e1 : (a : Int) % 12 = ((A - 1 : Nat) : Int) := by omega
  have e2 : IntKind.i64.wrap (1 + ((A - 1 : Nat) : Int)) = (A : Int) := by rw [IntWalk.i64_in _ (by omega)]; omega
  have e3 : ((A - 1 : Nat) : Int) ≤ 11 := by omega
  generalize A - 1 = A1 at e1 e2 e3
  have h0 : (0 : Int) ≤ a := by omega
  have h1 : (a : Int) ≤ 255 := by omega
  clear hA h
  go_enter Try.func28, Try.ntmps28
  go_wp2
  go_ret
  exact ⟨rfl, rfl⟩
set_option maxHeartbeats 4000000 in
set_option maxRecDepth 100000 in
theorem of_any (a0 a1 a2 a3 a4 a5 a6 : Nat) (w : World) (h0 : a0 ≤ 255) (h1 : a1 ≤ 255) (h2 : a2 ≤ 255) (h3 : a3 ≤ 255) (h4 : a4 ≤ 255) (h5 : a5 ≤ 255) (h6 : a6 ≤ 255) :
    Calls Try.prog 11 #[.agg #[.int .u8 (a0 : Int), .int .u8 (a1 : Int), .int .u8 (a2 : Int), .int .u8 (a3 : Int), .int .u8 (a4 : Int), .int .u8 (a5 : Int), .int .u8 (a6 : Int)]] w fun e w' => e = .returned (.agg #[int (tiOf a0 a1 a2 a3 a4 a5 a6).seek, int (tiOf a0 a1 a2 a3 a4 a5 a6).hold, int (tiOf a0 a1 a2 a3 a4 a5 a6).normal, int (tiOf a0 a1 a2 a3 a4 a5 a6).emer, int (tiOf a0 a1 a2 a3 a4 a5 a6).few, int (tiOf a0 a1 a2 a3 a4 a5 a6).fewer, int (tiOf a0 a1 a2 a3 a4 a5 a6).most]) ∧ Below w.heap.size w w' := by
  obtain ⟨W, hW⟩ : ∃ X, X = (w.alloc (.cells #[.int .u8 (a0 : Int), .int .u8 (a1 : Int), .int .u8 (a2 : Int), .int .u8 (a3 : Int), .int .u8 (a4 : Int), .int .u8 (a5 : Int), .int .u8 (a6 : Int)] 23)).alloc (.cells #[.int .i64 0, .int .i64 0, .int .i64 0, .int .i64 0, .int .i64 0, .int .i64 0, .int .i64 0] 31) := ⟨_, rfl⟩
  have hbW : Below w.heap.size w W := by rw [hW]; exact (below_alloc _ _).alloc (by simp) _
  have oT : Own W w.heap.size 23 [.int .u8 (a0 : Int), .int .u8 (a1 : Int), .int .u8 (a2 : Int), .int .u8 (a3 : Int), .int .u8 (a4 : Int), .int .u8 (a5 : Int), .int .u8 (a6 : Int)] := by rw [hW]; exact (own_new w _ _ _ rfl).below (below_alloc _ _) (by simp)
  have c0 := oT.cell 0 (by simp)
  have c1 := oT.cell 1 (by simp)
  have c2 := oT.cell 2 (by simp)
  have c3 := oT.cell 3 (by simp)
  have c4 := oT.cell 4 (by simp)
  have c5 := oT.cell 5 (by simp)
  have c6 := oT.cell 6 (by simp)
  simp only [List.getD_cons_succ, List.getD_cons_zero] at c0 c1 c2 c3 c4 c5 c6
  have HC0 := Lib.hid (fun W => one_any a0 W h0)
  have HC1 := Lib.hid (fun W => one_any a1 W h1)
  have HC2 := Lib.hid (fun W => one_any a2 W h2)
  have HC3 := Lib.hid (fun W => one_any a3 W h3)
  have HC4 := Lib.hid (fun W => one_any a4 W h4)
  have HC5 := Lib.hid (fun W => one_any a5 W h5)
  have HC6 := Lib.hid (fun W => one_any a6 W h6)
  obtain ⟨A0, hA0⟩ : ∃ A, A = 1 + a0 % 12 := ⟨_, rfl⟩
  obtain ⟨A1, hA1⟩ : ∃ A, A = 1 + a1 % 12 := ⟨_, rfl⟩
  obtain ⟨A2, hA2⟩ : ∃ A, A = 1 + a2 % 12 := ⟨_, rfl⟩
  obtain ⟨A3, hA3⟩ : ∃ A, A = 1 + a3 % 12 := ⟨_, rfl⟩
  obtain ⟨A4, hA4⟩ : ∃ A, A = 1 + a4 % 12 := ⟨_, rfl⟩
  obtain ⟨A5, hA5⟩ : ∃ A, A = 1 + a5 % 12 := ⟨_, rfl⟩
  obtain ⟨A6, hA6⟩ : ∃ A, A = 1 + a6 % 12 := ⟨_, rfl⟩
  have et : tiOf a0 a1 a2 a3 a4 a5 a6 = ⟨A0, A1, A2, A3, A4, A5, A6⟩ := by unfold tiOf; rw [hA0, hA1, hA2, hA3, hA4, hA5, hA6]
  rw [et]
  rw [← hA0] at HC0
  rw [← hA1] at HC1
  rw [← hA2] at HC2
  rw [← hA3] at HC3
  rw [← hA4] at HC4
  rw [← hA5] at HC5
  rw [← hA6] at HC6
  have HW := Lib.hid hW
  have HB := Lib.hid hbW
  have hlt := oT.lt
  have oR : Own W (w.heap.size + 1) 31 [.int .i64 0, .int .i64 0, .int .i64 0, .int .i64 0, .int .i64 0, .int .i64 0, .int .i64 0] := by
    rw [hW]
    have := own_new (w.alloc (.cells #[.int .u8 (a0 : Int), .int .u8 (a1 : Int), .int .u8 (a2 : Int), .int .u8 (a3 : Int), .int .u8 (a4 : Int), .int .u8 (a5 : Int), .int .u8 (a6 : Int)] 23)) 31 #[.int .i64 0, .int .i64 0, .int .i64 0, .int .i64 0, .int .i64 0, .int .i64 0, .int .i64 0] _ rfl
    rw [World.size_alloc] at this
    exact this
  have o2 : Own W.drew (w.heap.size + 1) 31 [.int .i64 0, .int .i64 0, .int .i64 0, .int .i64 0, .int .i64 0, .int .i64 0, .int .i64 0] := Own.drewK oR 1
  have hth : W.drew.there (w.heap.size + 1) 0 7 := own_there o2
  have o3 : Own (W.drew.setCells (w.heap.size + 1) 0 (#[int A0, int A1, int A2, int A3, int A4, int A5, int A6] : Array Value).toList) (w.heap.size + 1) 31 [int A0, int A1, int A2, int A3, int A4, int A5, int A6] := own_setCells _ 0 _ _ o2
  have x3 : Below w.heap.size w (W.drew.setCells (w.heap.size + 1) 0 (#[int A0, int A1, int A2, int A3, int A4, int A5, int A6] : Array Value).toList) := hbW.trans ((exc_setCells _ 0 W.drew (show Exc (fun k => k = w.heap.size + 1) W W.drew from (Exc.refl _ W).drawN 1)).below hbW.size (fun i _ h => by omega))
  have HR := Lib.hid (And.intro hth (And.intro o3 x3))
  clear oR o2 hth o3 x3
  clear hA0 hA1 hA2 hA3 hA4 hA5 hA6 et oT hbW hW h0 h1 h2 h3 h4 h5 h6
  go_enter Try.func11, Try.ntmps11
  go_upto_region 1 with fail
  rw [← HW.out]
  go_upto_region 2 with fail
  go_still_tail 29, (by kernel_rfl)
  still_call (HC0.out _)
  repeat still_step
  still_call (HC1.out _)
  repeat still_step
  still_call (HC2.out _)
  repeat still_step
  still_call (HC3.out _)
  repeat still_step
  still_call (HC4.out _)
  repeat still_step
  still_call (HC5.out _)
  repeat still_step
  still_call (HC6.out _)
  repeat still_step
  refine wpStill_nil ?_
  change wpList _ _ _ _ _ W.drew
  clear HC0 HC1 HC2 HC3 HC4 HC5 HC6 c0 c1 c2 c3 c4 c5 c6 HW
  go_step
  with_reducible refine wp_store_mid 31 (Operand.tmp 2) (Operand.tmp 32) ?ho (w.heap.size + 1) 0 #[int A0, int A1, int A2, int A3, int A4, int A5, int A6] ?hx ?hy ?ht ?hi ?h1 ?_
  case ho => rfl
  case hx => rfl
  case hy => rfl
  case ht => exact HR.out.1
  case hi => kernel_rfl
  case h1 => simp [int, Value.oneCell']
  have r2 := HR.out.2
  obtain ⟨W2, hW2⟩ : ∃ X, X = W.drew.setCells (w.heap.size + 1) 0 (#[int A0, int A1, int A2, int A3, int A4, int A5, int A6] : Array Value).toList := ⟨_, rfl⟩
  rw [← hW2] at r2 ⊢
  clear hW2 HR
  obtain ⟨r2, hb2⟩ := r2
  have d0 := r2.cell 0 (by simp)
  have d1 := r2.cell 1 (by simp)
  have d2 := r2.cell 2 (by simp)
  have d3 := r2.cell 3 (by simp)
  have d4 := r2.cell 4 (by simp)
  have d5 := r2.cell 5 (by simp)
  have d6 := r2.cell 6 (by simp)
  simp only [List.getD_cons_succ, List.getD_cons_zero, int] at d0 d1 d2 d3 d4 d5 d6
  have HB2 := Lib.hid hb2
  clear r2 hb2 HB
  go_wp2
  refine bodyPost_ret (v := .agg #[int A0, int A1, int A2, int A3, int A4, int A5, int A6]) (by simp [results, Try.results11, go_sem, d0, d1, d2, d3, d4, d5, d6, int]) rfl ?_
  exact ⟨rfl, HB2.out⟩
end Go.Proofs.Ytgfiikbecapodaa
