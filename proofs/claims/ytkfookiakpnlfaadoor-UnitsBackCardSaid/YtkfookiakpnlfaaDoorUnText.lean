/- Contracts of package units: contentText, Text. -/
import Derived.Test.YtkfookiakpnlfaaDoorUnHex
namespace Go.Proofs.YtkfookiakpnlfaaDoor
open Go.RowKit

set_option maxHeartbeats 1000000 in
set_option maxRecDepth 100000 in
theorem contentText_any (a0 : Int) (b1 : Bool) (a2 : Int) (b3 : Bool) (a4 a5 : Int) (s : Option Addr) (n c : Nat) (l : List Int) (w : World) (h4 : 0 ≤ a4) (h4' : a4 ≤ 2) (h5 : 0 ≤ a5) (h5' : a5 ≤ 5) (h : Row .u8 w s n c l) (hn : a4 = 2 → 2 ≤ n ∧ n ≤ 273) (hp : PowOk w) :
    Calls Tryd.prog 36 #[.agg #[.int .u8 a0, .bool b1, .int .u8 a2, .bool b3, .int .u8 a4, .int .u8 a5, .slice s n c]] w
      fun e w' => e = .returned (.string (bs (contT a4 a5 l))) ∧ Below w.heap.size w w' := by
  have hbz := below_alloc w (.cells #[.int .u8 a0, .bool b1, .int .u8 a2, .bool b3, .int .u8 a4, .int .u8 a5, .slice s n c] 25)
  rcases (by omega : a4 = 0 ∨ a4 = 1 ∨ a4 = 2) with rfl | rfl | rfl
  · clear h hp hn hbz
    go_enter Tryd.func36, Tryd.ntmps36
    go_wp2
    go_ret
    exact ⟨rfl, below_alloc _ _⟩
  · obtain ⟨m, rfl⟩ : ∃ m : Nat, a5 = m := ⟨a5.toNat, by omega⟩
    have HI := Lib.hid (itoa_any m _ (by omega) (hp.later hbz))
    have hsz : (bs (numL m)).size ≤ 3 := by rw [bs_size]; exact numL_len m
    have HC := Lib.hid (bs_append [115, 116, 97, 116, 101, 32] (numL m))
    clear h hp hn hbz
    go_enter Tryd.func36, Tryd.ntmps36
    go_wp2_with fail
    refine (HI.out).mono ?_
    rintro e w1 ⟨rfl, hb⟩
    have HB := Lib.hid (below_call hb)
    clear hb
    go_wp2
    go_ret
    exact ⟨congrArg (fun z => Ending.returned (Value.string z)) HC.out, HB.out⟩
  · obtain ⟨hn1, hn2⟩ := hn rfl
    have HI := Lib.hid (hexText_any s n c l _ (h.later hbz) (by omega) (by omega))
    have hsz : (bs (hexL l)).size ≤ 546 := by rw [bs_size, hexL_length, h.len]; omega
    have HC := Lib.hid (bs_append [108, 111, 97, 100, 32] (hexL l))
    clear h hp hn hbz
    go_enter Tryd.func36, Tryd.ntmps36
    go_wp2_with fail
    refine (HI.out).mono ?_
    rintro e w1 ⟨rfl, hb⟩
    have HB := Lib.hid (below_call hb)
    clear hb
    go_wp2
    go_ret
    exact ⟨congrArg (fun z => Ending.returned (Value.string z)) HC.out, HB.out⟩
theorem contT_len {a4 a5 : Int} {l : List Int} (h : l.length ≤ 273) : (contT a4 a5 l).length ≤ 551 := by
  unfold contT
  split
  · have := numL_len a5.toNat; simp; omega
  · split
    · rw [List.length_append, hexL_length]; simp; omega
    · simp
theorem numT_len (x : Int) (b : Bool) : (numT x b).length ≤ 4 := by
  have := numL_len x.toNat; simp [numT]; omega
set_option maxHeartbeats 1000000 in
set_option maxRecDepth 100000 in
theorem text_err (a0 : Int) (b1 : Bool) (a2 : Int) (b3 : Bool) (a4 a5 : Int) (s : Option Addr) (n c : Nat) (E : Int) (w : World) (h0 : 0 ≤ a0) (h0' : a0 ≤ 255) (h2 : 0 ≤ a2) (h2' : a2 ≤ 255) (h4 : 0 ≤ a4) (h4' : a4 ≤ 255) (h5 : 0 ≤ a5) (h5' : a5 ≤ 255) (hn : n ≤ 9223372036854775807)
    (hE : chk a0 a2 a4 a5 n = E) (hne : E ≠ 0) :
    Calls Tryd.prog 13 #[.agg #[.int .u8 a0, .bool b1, .int .u8 a2, .bool b3, .int .u8 a4, .int .u8 a5, .slice s n c]] w
      fun e w' => e = .returned (.string (bs [])) ∧ Below w.heap.size w w' := by
  have hck := fun w => ucheck_any a0 b1 a2 b3 a4 a5 s n c w h0 h0' h2 h2' h4 h4' h5 h5' hn
  rw [hE] at hck
  have HC := Lib.hid hck
  have hb : (E != 0) = true := by simpa using hne
  clear hck hE hne
  go_enter Tryd.func13, Tryd.ntmps13
  go_wp2_with fail
  refine (HC.out _).mono ?_
  rintro e w1 ⟨rfl, hb1⟩
  have HB := Lib.hid (below_call hb1)
  clear hb1
  go_wp2
  go_ret
  exact ⟨rfl, HB.out⟩
theorem text_glue (a0 : Int) (b1 : Bool) (a2 : Int) (b3 : Bool) (a4 a5 : Int) (l : List Int) :
    (⟨#[98, 97, 99, 107, 32]⟩ ++ bs (numT a0 b1) ++ ⟨#[32, 102, 111, 114, 101, 32]⟩ ++ bs (numT a2 b3) ++ ⟨#[32]⟩ ++ bs (contT a4 a5 l) : ByteArray) = bs (textL a0 b1 a2 b3 a4 a5 l) := by
  show bs [98, 97, 99, 107, 32] ++ bs (numT a0 b1) ++ bs [32, 102, 111, 114, 101, 32] ++ bs (numT a2 b3) ++ bs [32] ++ bs (contT a4 a5 l) = _
  simp only [bs_append]
  congr 1
  simp [textL]
set_option maxHeartbeats 2000000 in
set_option maxRecDepth 100000 in
theorem text_ok (a0 : Int) (b1 : Bool) (a2 : Int) (b3 : Bool) (a4 a5 : Int) (s : Option Addr) (n c : Nat) (l : List Int) (w : World) (h0 : 0 ≤ a0) (h2 : 0 ≤ a2) (h4 : 0 ≤ a4) (h5 : 0 ≤ a5) (h : Row .u8 w s n c l)
    (hE : chk a0 a2 a4 a5 n = 0) (hp : PowOk w) :
    Calls Tryd.prog 13 #[.agg #[.int .u8 a0, .bool b1, .int .u8 a2, .bool b3, .int .u8 a4, .int .u8 a5, .slice s n c]] w
      fun e w' => e = .returned (.string (bs (textL a0 b1 a2 b3 a4 a5 l))) ∧ Below w.heap.size w w' := by
  obtain ⟨g0, g2, g4, g5, _, g6, g7⟩ := chk_ok.1 hE
  have hcm := h.max
  unfold maxLen at hcm
  have hle := h.le
  have hn273 : l.length ≤ 273 := by rw [h.len]; omega
  have hck := fun w => ucheck_any a0 b1 a2 b3 a4 a5 s n c w h0 (by omega) h2 (by omega) h4 (by omega) h5 (by omega) (by omega)
  rw [hE] at hck
  have HCk := Lib.hid hck
  have HN0 := Lib.hid (fun w => numberText_any a0 b1 w h0 g0)
  have HN2 := Lib.hid (fun w => numberText_any a2 b3 w h2 g2)
  have HCt := Lib.hid (fun w hr => contentText_any a0 b1 a2 b3 a4 a5 s n c l w h4 g4 h5 g5 hr g6)
  have z0 : (bs (numT a0 b1)).size ≤ 4 := by rw [bs_size]; exact numT_len _ _
  have z2 : (bs (numT a2 b3)).size ≤ 4 := by rw [bs_size]; exact numT_len _ _
  have zc : (bs (contT a4 a5 l)).size ≤ 551 := by rw [bs_size]; exact contT_len hn273
  have cat : ∀ (x y : ByteArray), x.size + y.size ≤ 9223372036854775807 → ∀ W, (Op.stringOp .add x y).run Tryd.prog W = .ok (.string (x ++ y)) W := fun x y hxy W => run_string_add_sum W x y hxy
  obtain ⟨S1, e1⟩ : ∃ S : ByteArray, S = ⟨#[98, 97, 99, 107, 32]⟩ ++ bs (numT a0 b1) := ⟨_, rfl⟩
  obtain ⟨S2, e2⟩ : ∃ S : ByteArray, S = S1 ++ ⟨#[32, 102, 111, 114, 101, 32]⟩ := ⟨_, rfl⟩
  obtain ⟨S3, e3⟩ : ∃ S : ByteArray, S = S2 ++ bs (numT a2 b3) := ⟨_, rfl⟩
  obtain ⟨S4, e4⟩ : ∃ S : ByteArray, S = S3 ++ ⟨#[32]⟩ := ⟨_, rfl⟩
  obtain ⟨S5, e5⟩ : ∃ S : ByteArray, S = S4 ++ bs (contT a4 a5 l) := ⟨_, rfl⟩
  have y0 : (⟨#[98, 97, 99, 107, 32]⟩ : ByteArray).size = 5 := rfl
  have y1 : (⟨#[32, 102, 111, 114, 101, 32]⟩ : ByteArray).size = 6 := rfl
  have y2 : (⟨#[32]⟩ : ByteArray).size = 1 := rfl
  have q1 : S1.size ≤ 9 := by rw [e1, ByteArray.size_append]; omega
  have q2 : S2.size ≤ 15 := by rw [e2, ByteArray.size_append]; omega
  have q3 : S3.size ≤ 19 := by rw [e3, ByteArray.size_append]; omega
  have q4 : S4.size ≤ 20 := by rw [e4, ByteArray.size_append]; omega
  have r1 : ∀ W, (binOp .add 9 (.string ⟨#[98, 97, 99, 107, 32]⟩) (.string (bs (numT a0 b1)))).run Tryd.prog W = .ok (.string S1) W := fun W => by rw [binOp_string_add, cat _ _ (by omega) W, ← e1]
  have r2 : ∀ W, (binOp .add 9 (.string S1) (.string ⟨#[32, 102, 111, 114, 101, 32]⟩)).run Tryd.prog W = .ok (.string S2) W := fun W => by rw [binOp_string_add, cat _ _ (by omega) W, ← e2]
  have r3 : ∀ W, (binOp .add 9 (.string S2) (.string (bs (numT a2 b3)))).run Tryd.prog W = .ok (.string S3) W := fun W => by rw [binOp_string_add, cat _ _ (by omega) W, ← e3]
  have r4 : ∀ W, (binOp .add 9 (.string S3) (.string ⟨#[32]⟩)).run Tryd.prog W = .ok (.string S4) W := fun W => by rw [binOp_string_add, cat _ _ (by omega) W, ← e4]
  have r5 : ∀ W, (binOp .add 9 (.string S4) (.string (bs (contT a4 a5 l)))).run Tryd.prog W = .ok (.string S5) W := fun W => by rw [binOp_string_add, cat _ _ (by omega) W, ← e5]
  have o1 : ∀ W, (Op.stringOp .add ⟨#[98, 97, 99, 107, 32]⟩ (bs (numT a0 b1))).run Tryd.prog W = .ok (.string S1) W := fun W => by rw [cat _ _ (by omega) W, ← e1]
  have o2 : ∀ W, (Op.stringOp .add S1 ⟨#[32, 102, 111, 114, 101, 32]⟩).run Tryd.prog W = .ok (.string S2) W := fun W => by rw [cat _ _ (by omega) W, ← e2]
  have o3 : ∀ W, (Op.stringOp .add S2 (bs (numT a2 b3))).run Tryd.prog W = .ok (.string S3) W := fun W => by rw [cat _ _ (by omega) W, ← e3]
  have o4 : ∀ W, (Op.stringOp .add S3 ⟨#[32]⟩).run Tryd.prog W = .ok (.string S4) W := fun W => by rw [cat _ _ (by omega) W, ← e4]
  have o5 : ∀ W, (Op.stringOp .add S4 (bs (contT a4 a5 l))).run Tryd.prog W = .ok (.string S5) W := fun W => by rw [cat _ _ (by omega) W, ← e5]
  have e6 : S5 = bs (textL a0 b1 a2 b3 a4 a5 l) := by rw [e5, e4, e3, e2, e1]; exact text_glue a0 b1 a2 b3 a4 a5 l
  have HE := Lib.hid e6
  clear cat e1 e2 e3 e4 e5 e6 y0 y1 y2 q1 q2 q3 q4 z0 z2 zc
  have HR := Lib.hid h
  have HP := Lib.hid hp
  clear h hE hck hp g6 g7 hn273
  go_enter Tryd.func13, Tryd.ntmps13
  go_wp2_with fail
  refine (HCk.out _).mono ?_
  rintro e w1 ⟨rfl, hb1⟩
  have ob1 := (own_lit w 25 #[.int .u8 a0, .bool b1, .int .u8 a2, .bool b3, .int .u8 a4, .int .u8 a5, .slice s n c] _ rfl).below hb1 (by simp)
  have bb1 := below_call hb1
  have s1 := hb1.size
  simp at s1
  have HO1 := Lib.hid ob1
  have HB1 := Lib.hid bb1
  clear hb1 bb1 ob1
  have hS : ∀ W, Below w1.heap.size w1 W → Below w1.heap.size w1 W ∧ W.cell? ⟨w.heap.size, 0, none⟩ = some (.int .u8 a0) ∧ W.cell? ⟨w.heap.size, 1, none⟩ = some (.bool b1) ∧ W.cell? ⟨w.heap.size, 2, none⟩ = some (.int .u8 a2) ∧ W.cell? ⟨w.heap.size, 3, none⟩ = some (.bool b3) ∧ W.cell? ⟨w.heap.size, 4, none⟩ = some (.int .u8 a4) ∧ W.cell? ⟨w.heap.size, 5, none⟩ = some (.int .u8 a5) ∧ W.cell? ⟨w.heap.size, 6, none⟩ = some (.slice s n c) := fun W hb => ⟨hb, unit_cells (HO1.out.below hb (by omega))⟩
  have hPw : ∀ W, Below w1.heap.size w1 W → PowOk W := fun W hb => HP.out.later (HB1.out.trans (hb.mono HB1.out.size))
  have hRw : ∀ W, Below w1.heap.size w1 W → Row .u8 W s n c l := fun W hb => HR.out.later (HB1.out.trans (hb.mono HB1.out.size))
  have hSn : ∀ W W', Below w1.heap.size w1 W → Below W.heap.size W W' → Below w1.heap.size w1 W' ∧ W'.cell? ⟨w.heap.size, 0, none⟩ = some (.int .u8 a0) ∧ W'.cell? ⟨w.heap.size, 1, none⟩ = some (.bool b1) ∧ W'.cell? ⟨w.heap.size, 2, none⟩ = some (.int .u8 a2) ∧ W'.cell? ⟨w.heap.size, 3, none⟩ = some (.bool b3) ∧ W'.cell? ⟨w.heap.size, 4, none⟩ = some (.int .u8 a4) ∧ W'.cell? ⟨w.heap.size, 5, none⟩ = some (.int .u8 a5) ∧ W'.cell? ⟨w.heap.size, 6, none⟩ = some (.slice s n c) := fun W W' hb hb' => ⟨hb.trans (hb'.mono hb.size), unit_cells (HO1.out.below (hb.trans (hb'.mono hb.size)) (by omega))⟩
  have hS1 := hS w1 (Below.refl _ _)
  have hSd := hS w1.drew (Below.refl _ _).drew
  have HS := Lib.hid hSn
  have HPw := Lib.hid hPw
  have HRw := Lib.hid hRw
  clear hS hSn hPw hRw
  go_wp2_with fail
  go_region_held3 (fun W => Below w1.heap.size w1 W ∧ W.cell? ⟨w.heap.size, 0, none⟩ = some (.int .u8 a0) ∧ W.cell? ⟨w.heap.size, 1, none⟩ = some (.bool b1) ∧ W.cell? ⟨w.heap.size, 2, none⟩ = some (.int .u8 a2) ∧ W.cell? ⟨w.heap.size, 3, none⟩ = some (.bool b3) ∧ W.cell? ⟨w.heap.size, 4, none⟩ = some (.int .u8 a4) ∧ W.cell? ⟨w.heap.size, 5, none⟩ = some (.int .u8 a5) ∧ W.cell? ⟨w.heap.size, 6, none⟩ = some (.slice s n c)) (first | assumption | go_keep)
    (first
      | (go_at_call 35; ((with_reducible refine (HN0.out _ (HPw.out _ (And.left (by assumption)))).mono ?_); rintro e w2 ⟨rfl, hb2⟩; have hS2 := HS.out _ _ (And.left (by assumption)) hb2; clear hb2))
      | (go_at_call 35; ((with_reducible refine (HN2.out _ (HPw.out _ (And.left (by assumption)))).mono ?_); rintro e w3 ⟨rfl, hb3⟩; have hS3 := HS.out _ _ (And.left (by assumption)) hb3; clear hb3))
      | (go_at_call 36; ((with_reducible refine (HCt.out _ (HRw.out _ (And.left (by assumption))) (HPw.out _ (And.left (by assumption)))).mono ?_); rintro e w4 ⟨rfl, hb4⟩; have hS4 := HS.out _ _ (And.left (by assumption)) hb4; clear hb4))
      | fail)
  all_goals
    go_wp2
    go_ret
    exact ⟨congrArg (fun z => Ending.returned (Value.string z)) HE.out, HB1.out.trans (Below.mono (And.left (by assumption)) HB1.out.size)⟩
end Go.Proofs.YtkfookiakpnlfaaDoor
