/- The statement LabelsBack: the walk. -/
import Derived.Test.YtcojjhokcebogaaDoorLsLives
import Derived.Test.YtcojjhokcebogaaDoorLsSame
import Derived.Test.YtcojjhokcebogaaDoorLsOf
import Derived.Test.YtcojjhokcebogaaDoorLsOctets
import Derived.Test.YtcojjhokcebogaaDoorLsBack
import Derived.Deep.RegionHeld3
namespace Go.Proofs.YtcojjhokcebogaaDoor
open Go.RowKit

set_option maxHeartbeats 16000000 in
set_option maxRecDepth 100000 in
theorem back_walk (sv nw pr to fr sl : Int) (a : Option Addr) (n c : Nat) (l : List Int) (a' : Option Addr) (n' c' : Nat) (l' : List Int) (w : World) (hp : PowOk w) (w0 : (Lit.int .u8 sv).wf = true) (w1 : (Lit.int .u8 nw).wf = true) (w2 : (Lit.int .u8 pr).wf = true) (w3 : (Lit.int .u16 to).wf = true) (w4 : (Lit.int .u16 fr).wf = true) (w5 : (Lit.int .u8 sl).wf = true) (wr : Row .u8 w a n c l) (wb : Row .u8 w a' n' c' l') :
    Calls Tryd.prog 6 #[.agg #[.int .u8 sv, .int .u8 nw, .int .u8 pr, .int .u16 to, .int .u16 fr, .int .u8 sl, .slice a n c], .slice a' n' c'] w fun e w' => e = .returned (.bool true) ∧ Below w.heap.size w w' := by
  have k0 := (wf_u8.1 w0).1
  have k1 := (wf_u8.1 w1).1
  have k2 := (wf_u8.1 w2).1
  have k3 := (wf_u16.1 w3).1
  have k4 := (wf_u16.1 w4).1
  have k5 := (wf_u8.1 w5).1
  have hof := fun W hW => of_any sv nw pr to fr sl a n c l W hW k0 k1 k2 k3 k4 k5
  unfold OfOut at hof
  have r0 : 0 ≤ sv % 16 ∧ sv % 16 ≤ 15 := by omega
  have r1 : 0 ≤ nw % 4 ∧ nw % 4 ≤ 3 := by omega
  have r2 : 0 ≤ pr % 4 ∧ pr % 4 ≤ 3 := by omega
  have r3 : 0 ≤ to % 16384 ∧ to % 16384 ≤ 16383 := by omega
  have r4 : 0 ≤ fr % 16384 ∧ fr % 16384 ≤ 16383 := by omega
  have r5 : 0 ≤ sl % 16 ∧ sl % 16 ≤ 15 := by omega
  generalize sv % 16 = A0 at hof r0
  generalize nw % 4 = A1 at hof r1
  generalize pr % 4 = A2 at hof r2
  generalize to % 16384 = A3 at hof r3
  generalize fr % 16384 = A4 at hof r4
  generalize sl % 16 = A5 at hof r5
  generalize l.take 40 = D at hof
  have hlb := wb.le
  have hmb := wb.max
  unfold maxLen at hmb
  have hb0 := below_alloc w (.cells #[.int .u8 sv, .int .u8 nw, .int .u8 pr, .int .u16 to, .int .u16 fr, .int .u8 sl, .slice a n c] 44)
  have ox := own_lit w 44 #[.int .u8 sv, .int .u8 nw, .int .u8 pr, .int .u16 to, .int .u16 fr, .int .u8 sl, .slice a n c] _ rfl
  have HOf := Lib.hid hof
  have HX := Lib.hid (wr.later hb0)
  have HWB := Lib.hid wb
  have HL := Lib.hid (fun W hW => lives_any W hW)
  have HP := Lib.hid hp
  have HR := Lib.hid (And.intro r0 (And.intro r1 (And.intro r2 (And.intro r3 (And.intro r4 r5)))))
  clear hof wr wb hp w0 w1 w2 w3 w4 w5 k0 k1 k2 k3 k4 k5 r0 r1 r2 r3 r4 r5
  go_enter Tryd.func6, Tryd.ntmps6
  go_upto_region 1 with fail
  generalize w.alloc (.cells #[.int .u8 sv, .int .u8 nw, .int .u8 pr, .int .u16 to, .int .u16 fr, .int .u8 sl, .slice a n c] 44) = W0 at *
  obtain ⟨x0, x1, x2, x3, x4, x5, x6⟩ := unit_cells ox
  have B0 := Lib.hid hb0
  clear hb0 ox
  go_wp2_with fail
  refine (HOf.out _ HX.out).mono ?_
  rintro e y1 ⟨s, m, q, rfl, hrow, hm40, hb⟩
  clear x0 x1 x2 x3 x4 x5 x6
  go_upto_region 2 with fail
  have hq := below_alloc y1 (.cells #[.int .u8 A0, .int .u8 A1, .int .u8 A2, .int .u16 A3, .int .u16 A4, .int .u8 A5, .slice s m q] 38)
  have om := own_lit y1 38 #[.int .u8 A0, .int .u8 A1, .int .u8 A2, .int .u16 A3, .int .u16 A4, .int .u8 A5, .slice s m q] _ rfl
  have hb1 := (B0.out.trans (hb.mono B0.out.size)).trans (hq.mono (by have := hb.size; have := B0.out.size; omega))
  have hr1 := hrow.later hq
  generalize y1.alloc (.cells #[.int .u8 A0, .int .u8 A1, .int .u8 A2, .int .u16 A3, .int .u16 A4, .int .u8 A5, .slice s m q] 38) = W1 at *
  generalize y1.heap.size = pm at *
  have hlm := om.lt
  obtain ⟨m0, m1, m2, m3, m4, m5, m6⟩ := unit_cells om
  have B1 := Lib.hid hb1
  have OM1 := Lib.hid om
  have R1 := Lib.hid hr1
  clear hb hq om hb1 hr1 hrow
  go_wp2_with fail
  refine (encode_ok A0 A1 A2 A3 A4 A5 s m q D _ R1.out (by obtain ⟨r0, r1, r2, r3, r4, r5⟩ := HR.out; exact chkM_ok r0.2 r1.2 r2.2 r3.2 r4.2 r5.2 (by omega)) HR.out.1.1 HR.out.2.1.1 HR.out.2.2.1.1 HR.out.2.2.2.1.1 HR.out.2.2.2.2.1.1 HR.out.2.2.2.2.2.1).mono ?_
  rintro e W2 ⟨g1, rfl, hg1, og1, hb⟩
  have om2 := OM1.out.below hb hlm
  clear m0 m1 m2 m3 m4 m5 m6
  obtain ⟨m0, m1, m2, m3, m4, m5, m6⟩ := unit_cells om2
  have hlm2 := om2.lt
  have hlg1 := og1.lt
  have B2 := Lib.hid (B1.out.trans (hb.mono B1.out.size))
  have OM2 := Lib.hid om2
  have OG1 := Lib.hid og1
  have R2 := Lib.hid (R1.out.later hb)
  have hpg : pm < g1 := by omega
  obtain ⟨EL, hEL⟩ : ∃ EL, EL = encM A0 A1 A2 A3 A4 A5 D := ⟨_, rfl⟩
  have HEL := Lib.hid hEL
  have hDl := R1.out.len
  have HDw := Lib.hid R1.out.wf
  have hELl : EL.length = 5 + m := by rw [hEL, encM_length, hDl]
  have HELl := Lib.hid hELl
  have HELw := Lib.hid (show ∀ x ∈ EL, (Lit.int .u8 x).wf = true by
    obtain ⟨r0, r1, r2, r3, r4, r5⟩ := HR.out
    rw [hEL]
    exact enc_wf r0.1 r0.2 r1.1 r1.2 r2.1 r2.2 HDw.out)
  have hRO : ∀ W, Below W2.heap.size W2 W → Row .u8 W (some ⟨g1, 0, none⟩) (5 + m) (5 + m) EL := fun W hbw => by
    have ho := OG1.out.below hbw hlg1
    rw [← hEL] at ho
    exact Own.row0 ho (5 + m) (5 + m) hELl.symm (Nat.le_refl _) (by unfold maxLen; omega) HELw.out
  have HRO := Lib.hid hRO
  have hcv : ∀ W, Below W2.heap.size W2 W → (convert 36 9 (.slice (some ⟨g1, 0, none⟩) (5 + m) (5 + m))).run Tryd.prog W = .ok (.string (bs (ofI EL))) W := fun W hbw => row_string _ _ _ _ W (hRO W hbw)
  have HCv := Lib.hid hcv
  have KO := Lib.hid (fun W (hbw : Below W2.heap.size W2 W) => show Calls Tryd.prog 20 #[.agg #[.int .u8 A0, .int .u8 A1, .int .u8 A2, .int .u16 A3, .int .u16 A4, .int .u8 A5, .slice s m q]] W fun e w' => OctOut W A0 A1 A2 A3 A4 A5 m D e w' from by
    obtain ⟨r0, r1, r2, r3, r4, r5⟩ := HR.out
    exact octets_any A0 A1 A2 A3 A4 A5 s m q D W (R2.out.later hbw) (by omega) r0.1 r0.2 r1.1 r1.2 r2.1 r2.2 r3.1 r3.2 r4.1 r4.2 r5.1 r5.2)
  have hS : ∀ W W', Below W2.heap.size W2 W → Below W.heap.size W W' → Below W2.heap.size W2 W' ∧ (convert 36 9 (.slice (some ⟨g1, 0, none⟩) (5 + m) (5 + m))).run Tryd.prog W' = .ok (.string (bs (ofI EL))) W' ∧ W'.cell? ⟨pm, 0, none⟩ = some (.int .u8 A0) ∧ W'.cell? ⟨pm, 1, none⟩ = some (.int .u8 A1) ∧ W'.cell? ⟨pm, 2, none⟩ = some (.int .u8 A2) ∧ W'.cell? ⟨pm, 3, none⟩ = some (.int .u16 A3) ∧ W'.cell? ⟨pm, 4, none⟩ = some (.int .u16 A4) ∧ W'.cell? ⟨pm, 5, none⟩ = some (.int .u8 A5) ∧ W'.cell? ⟨pm, 6, none⟩ = some (.slice s m q) := by
    intro W W' h h'
    have hh := h.trans (h'.mono h.size)
    exact ⟨hh, HCv.out _ hh, unit_cells (OM2.out.below hh hlm2)⟩
  have hS0 := hS _ _ (Below.refl _ _) (Below.refl _ _)
  have hSd := hS _ _ (Below.refl _ W2) (Below.refl _ W2).drew
  have HS := Lib.hid hS
  have hDm := hDl
  clear hb om2 og1 hEL hDl hELl hRO hcv hS m0 m1 m2 m3 m4 m5 m6
  go_upto_region 3 with fail
  refine wp_region_held_drew (S := fun W => Below W2.heap.size W2 W ∧ (convert 36 9 (.slice (some ⟨g1, 0, none⟩) (5 + m) (5 + m))).run Tryd.prog W = .ok (.string (bs (ofI EL))) W ∧ W.cell? ⟨pm, 0, none⟩ = some (.int .u8 A0) ∧ W.cell? ⟨pm, 1, none⟩ = some (.int .u8 A1) ∧ W.cell? ⟨pm, 2, none⟩ = some (.int .u8 A2) ∧ W.cell? ⟨pm, 3, none⟩ = some (.int .u16 A3) ∧ W.cell? ⟨pm, 4, none⟩ = some (.int .u16 A4) ∧ W.cell? ⟨pm, 5, none⟩ = some (.int .u8 A5) ∧ W.cell? ⟨pm, 6, none⟩ = some (.slice s m q)) (by kernel_rfl) ?_ (fun hHeld => ?_)
  · exact hSd
  refine wpAnyH_take (i := 0) (oi := { dst := some 22, op := Op.move (Operand.tmp 7), type := 26, pos := "law.go:133", after := #[], guard := none }) (v := ?_) rfl (by kernel_rfl) (by kernel_rfl) (by kernel_rfl) (fun _ _ _ h => h) (Or.inl ⟨by rfl, ?_⟩) (by assumption) ?_
  rotate_left 1
  · intro w hSw
    (try dsimp only at hSw)
    go_simp
    try with_reducible rfl
  try simp only [Act.put, List.setIfInBounds_toArray, List.set_cons_zero, List.set_cons_succ]
  refine wpAnyH_take (i := 1) (oi := { dst := some 23, op := Op.binOp BinOp.neq 26 (Operand.tmp 22) (Operand.const (Value.int IntKind.i64 0)) 26, type := 4, pos := "law.go:133", after := #[{ on := 0, ground := Ground.data }], guard := none }) (v := ?_) rfl (by kernel_rfl) (by kernel_rfl) (by kernel_rfl) (fun _ _ _ h => h) (Or.inl ⟨by rfl, ?_⟩) (by assumption) ?_
  rotate_left 1
  · intro w hSw
    (try dsimp only at hSw)
    go_simp
    try with_reducible rfl
  try simp only [Act.put, List.setIfInBounds_toArray, List.set_cons_zero, List.set_cons_succ]
  refine wpAnyH_take (i := 2) (oi := { dst := some 24, op := Op.move (Operand.tmp 23), type := 4, pos := "law.go:133", after := #[{ on := 1, ground := Ground.data }], guard := none }) (v := ?_) rfl (by kernel_rfl) (by kernel_rfl) (by kernel_rfl) (fun _ _ _ h => h) (Or.inl ⟨by rfl, ?_⟩) (by assumption) ?_
  rotate_left 1
  · intro w hSw
    (try dsimp only at hSw)
    go_simp
    try with_reducible rfl
  try simp only [Act.put, List.setIfInBounds_toArray, List.set_cons_zero, List.set_cons_succ]
  refine wpAnyH_take (i := 3) (oi := { dst := some 25, op := Op.move (Operand.tmp 6), type := 36, pos := "law.go:133", after := #[{ on := 2, ground := Ground.guard }], guard := some (2, false) }) (v := ?_) rfl (by kernel_rfl) (by kernel_rfl) (by kernel_rfl) (fun _ _ _ h => h) (Or.inl ⟨by rfl, ?_⟩) (by assumption) ?_
  rotate_left 1
  · intro w hSw
    (try dsimp only at hSw)
    go_simp
    try with_reducible rfl
  try simp only [Act.put, List.setIfInBounds_toArray, List.set_cons_zero, List.set_cons_succ]
  refine wpAnyH_take (i := 4) (oi := { dst := some 26, op := Op.call { callee := Callee.builtin Builtin.cap, args := #[Operand.tmp 25], argTypes := #[36] }, type := 3, pos := "law.go:133", after := #[{ on := 3, ground := Ground.data }, { on := 2, ground := Ground.guard }], guard := some (2, false) }) (v := ?_) rfl (by kernel_rfl) (by kernel_rfl) (by kernel_rfl) (fun _ _ _ h => h) (Or.inl ⟨by rfl, ?_⟩) (by assumption) ?_
  rotate_left 1
  · intro w hSw
    (try dsimp only at hSw)
    go_simp
    try with_reducible rfl
  try simp only [Act.put, List.setIfInBounds_toArray, List.set_cons_zero, List.set_cons_succ]
  refine wpAnyH_take (i := 5) (oi := { dst := some 27, op := Op.move (Operand.tmp 6), type := 36, pos := "law.go:133", after := #[{ on := 2, ground := Ground.guard }], guard := some (2, false) }) (v := ?_) rfl (by kernel_rfl) (by kernel_rfl) (by kernel_rfl) (fun _ _ _ h => h) (Or.inl ⟨by rfl, ?_⟩) (by assumption) ?_
  rotate_left 1
  · intro w hSw
    (try dsimp only at hSw)
    go_simp
    try with_reducible rfl
  try simp only [Act.put, List.setIfInBounds_toArray, List.set_cons_zero, List.set_cons_succ]
  refine wpAnyH_take (i := 6) (oi := { dst := some 28, op := Op.call { callee := Callee.builtin Builtin.len, args := #[Operand.tmp 27], argTypes := #[36] }, type := 3, pos := "law.go:133", after := #[{ on := 5, ground := Ground.data }, { on := 2, ground := Ground.guard }], guard := some (2, false) }) (v := ?_) rfl (by kernel_rfl) (by kernel_rfl) (by kernel_rfl) (fun _ _ _ h => h) (Or.inl ⟨by rfl, ?_⟩) (by assumption) ?_
  rotate_left 1
  · intro w hSw
    (try dsimp only at hSw)
    go_simp
    try with_reducible rfl
  try simp only [Act.put, List.setIfInBounds_toArray, List.set_cons_zero, List.set_cons_succ]
  refine wpAnyH_take (i := 7) (oi := { dst := some 29, op := Op.binOp BinOp.neq 3 (Operand.tmp 26) (Operand.tmp 28) 3, type := 4, pos := "law.go:133", after := #[{ on := 4, ground := Ground.data }, { on := 6, ground := Ground.data }, { on := 2, ground := Ground.guard }], guard := some (2, false) }) (v := ?_) rfl (by kernel_rfl) (by kernel_rfl) (by kernel_rfl) (fun _ _ _ h => h) (Or.inl ⟨by rfl, ?_⟩) (by assumption) ?_
  rotate_left 1
  · intro w hSw
    (try dsimp only at hSw)
    go_simp
    try with_reducible rfl
  try simp only [Act.put, List.setIfInBounds_toArray, List.set_cons_zero, List.set_cons_succ]
  refine wpAnyH_take (i := 8) (oi := { dst := some 30, op := Op.pick (Operand.tmp 24) (Operand.const (Value.bool true)) (Operand.tmp 29), type := 4, pos := "law.go:133", after := #[{ on := 2, ground := Ground.data }, { on := 7, ground := Ground.data }], guard := none }) (v := ?_) rfl (by kernel_rfl) (by kernel_rfl) (by kernel_rfl) (fun _ _ _ h => h) (Or.inl ⟨by rfl, ?_⟩) (by assumption) ?_
  rotate_left 1
  · intro w hSw
    (try dsimp only at hSw)
    go_simp
    try with_reducible rfl
  try simp only [Act.put, List.setIfInBounds_toArray, List.set_cons_zero, List.set_cons_succ]
  refine wpAnyH_take (i := 9) (oi := { dst := some 31, op := Op.move (Operand.tmp 30), type := 4, pos := "law.go:133", after := #[{ on := 8, ground := Ground.data }, { on := 2, ground := Ground.chain }], guard := none }) (v := ?_) rfl (by kernel_rfl) (by kernel_rfl) (by kernel_rfl) (fun _ _ _ h => h) (Or.inl ⟨by rfl, ?_⟩) (by assumption) ?_
  rotate_left 1
  · intro w hSw
    (try dsimp only at hSw)
    go_simp
    try with_reducible rfl
  try simp only [Act.put, List.setIfInBounds_toArray, List.set_cons_zero, List.set_cons_succ]
  refine wpAnyH_take (i := 10) (oi := { dst := some 32, op := Op.move (Operand.tmp 6), type := 36, pos := "law.go:133", after := #[{ on := 9, ground := Ground.guard }], guard := some (9, false) }) (v := ?_) rfl (by kernel_rfl) (by kernel_rfl) (by kernel_rfl) (fun _ _ _ h => h) (Or.inl ⟨by rfl, ?_⟩) (by assumption) ?_
  rotate_left 1
  · intro w hSw
    (try dsimp only at hSw)
    go_simp
    try with_reducible rfl
  try simp only [Act.put, List.setIfInBounds_toArray, List.set_cons_zero, List.set_cons_succ]
  refine wpAnyH_take (i := 11) (oi := { dst := some 33, op := Op.convert 36 9 (Operand.tmp 32), type := 9, pos := "law.go:133", after := #[{ on := 10, ground := Ground.data }, { on := 9, ground := Ground.guard }], guard := some (9, false) }) (v := ?_) rfl (by kernel_rfl) (by kernel_rfl) (by kernel_rfl) (fun _ _ _ h => h) (Or.inl ⟨by rfl, ?_⟩) (by assumption) ?_
  rotate_left 1
  · intro w hSw
    (try dsimp only at hSw)
    go_simp
    try with_reducible rfl
  try simp only [Act.put, List.setIfInBounds_toArray, List.set_cons_zero, List.set_cons_succ]
  refine wpAnyH_take (i := 12) (oi := { dst := some 34, op := Op.load 38 (Operand.tmp 5), type := 38, pos := "law.go:133", after := #[{ on := 9, ground := Ground.guard }], guard := some (9, false) }) (v := ?_) rfl (by kernel_rfl) (by kernel_rfl) (by kernel_rfl) (fun _ _ _ h => h) (Or.inl ⟨by rfl, ?_⟩) (by assumption) ?_
  rotate_left 1
  · intro w hSw
    (try dsimp only at hSw)
    go_simp
    try with_reducible rfl
  try simp only [Act.put, List.setIfInBounds_toArray, List.set_cons_zero, List.set_cons_succ]
  refine wpAnyH_ready (rs := [13]) (by kernel_rfl) (by simp) ?_
  refine AllReadyH.cons (o := { dst := some 35, op := Op.call { callee := Callee.value (Operand.func 20), args := #[Operand.tmp 34], argTypes := #[38] }, type := 36, pos := "law.go:133", after := #[{ on := 12, ground := Ground.data }, { on := 9, ground := Ground.chain }, { on := 9, ground := Ground.guard }], guard := some (9, false) }) rfl (fun K hK => ?_) AllReadyH.nil
  go_simp
  with_reducible refine (KO.out _ hHeld.1).mono ?_
  rintro e y5 ⟨s5, q5, rfl, hr5, hb5⟩
  go_wp2_with fail
  have hy := HS.out _ _ hHeld.1 hb5
  have hcw5 := row_string _ _ _ _ _ hr5
  rw [← HEL.out] at hcw5
  refine hK.out _ _ hy (fun hHeld => ?_)
  clear hK K hb5 hr5 hy
  try simp only [Act.put, List.setIfInBounds_toArray, List.set_cons_zero, List.set_cons_succ]
  refine wpAnyH_ready (rs := [14]) (by kernel_rfl) (by simp) ?_
  refine AllReadyH.cons (o := { dst := some 36, op := Op.convert 36 9 (Operand.tmp 35), type := 9, pos := "law.go:133", after := #[{ on := 13, ground := Ground.data }, { on := 9, ground := Ground.guard }], guard := some (9, false) }) rfl (fun K hK => ?_) AllReadyH.nil
  go_simp
  refine hK.out _ _ (by assumption) (fun hHeld => ?_)
  clear hK K
  try simp only [Act.put, List.setIfInBounds_toArray, List.set_cons_zero, List.set_cons_succ]
  refine wpAnyH_take (i := 15) (oi := { dst := some 37, op := Op.binOp BinOp.neq 9 (Operand.tmp 33) (Operand.tmp 36) 9, type := 4, pos := "law.go:133", after := #[{ on := 11, ground := Ground.data }, { on := 14, ground := Ground.data }, { on := 9, ground := Ground.guard }], guard := some (9, false) }) (v := ?_) rfl (by kernel_rfl) (by kernel_rfl) (by kernel_rfl) (fun _ _ _ h => h) (Or.inl ⟨by rfl, ?_⟩) (by assumption) ?_
  rotate_left 1
  · intro w hSw
    (try dsimp only at hSw)
    go_simp
    try with_reducible rfl
  try simp only [Act.put, List.setIfInBounds_toArray, List.set_cons_zero, List.set_cons_succ]
  refine wpAnyH_take (i := 16) (oi := { dst := some 38, op := Op.pick (Operand.tmp 31) (Operand.const (Value.bool true)) (Operand.tmp 37), type := 4, pos := "law.go:133", after := #[{ on := 9, ground := Ground.data }, { on := 15, ground := Ground.data }], guard := none }) (v := ?_) rfl (by kernel_rfl) (by kernel_rfl) (by kernel_rfl) (fun _ _ _ h => h) (Or.inl ⟨by rfl, ?_⟩) (by assumption) ?_
  rotate_left 1
  · intro w hSw
    (try dsimp only at hSw)
    go_simp
    try with_reducible rfl
  try simp only [Act.put, List.setIfInBounds_toArray, List.set_cons_zero, List.set_cons_succ]
  refine wpAnyH_done (by kernel_rfl) ?_ _
  have hb := hHeld.1
  have om5 := OM2.out.below hb hlm2
  have hlm5 := om5.lt
  obtain ⟨m0, m1, m2, m3, m4, m5, m6⟩ := unit_cells om5
  have HB25 := Lib.hid hb
  have B5 := Lib.hid (B2.out.trans (hb.mono B2.out.size))
  have OM5 := Lib.hid om5
  have hd := fun W hW => decode_ok (some ⟨g1, 0, none⟩) (5 + m) (5 + m) EL W hW (by omega) (by omega)
  have hde := dec_enc D HR.out.1.1 HR.out.1.2 HR.out.2.1.1 HR.out.2.1.2 HR.out.2.2.1.1 HR.out.2.2.1.2 HR.out.2.2.2.1.1 HR.out.2.2.2.1.2 HR.out.2.2.2.2.1.1 HR.out.2.2.2.2.1.2 HR.out.2.2.2.2.2.1 HR.out.2.2.2.2.2.2
  rw [← HEL.out] at hde
  obtain ⟨d0, d1, d2, d3, d4, d5, d6⟩ := hde
  rw [d0, d1, d2, d3, d4, d5, d6, Nat.add_sub_cancel_left] at hd
  have KD := Lib.hid hd
  clear hHeld hb om5 hd d0 d1 d2 d3 d4 d5 d6 hcw5 hS0 hSd HS
  go_wp2_with fail
  refine (KD.out _ (HRO.out _ HB25.out)).mono ?_
  rintro e y6 ⟨g2, rfl, hg2, og2, hb⟩
  go_upto_region 6 with fail
  have hq := below_alloc y6 (.cells #[.int .u8 A0, .int .u8 A1, .int .u8 A2, .int .u16 A3, .int .u16 A4, .int .u8 A5, .slice (some ⟨g2, 0, none⟩) m m] 38)
  have ok := own_lit y6 38 #[.int .u8 A0, .int .u8 A1, .int .u8 A2, .int .u16 A3, .int .u16 A4, .int .u8 A5, .slice (some ⟨g2, 0, none⟩) m m] _ rfl
  have hbq := hb.trans (hq.mono hb.size)
  have om6 := OM5.out.below hbq hlm5
  have og6 := og2.below hq og2.lt
  generalize y6.alloc (.cells #[.int .u8 A0, .int .u8 A1, .int .u8 A2, .int .u16 A3, .int .u16 A4, .int .u8 A5, .slice (some ⟨g2, 0, none⟩) m m] 38) = W6 at *
  generalize y6.heap.size = pk at *
  clear m0 m1 m2 m3 m4 m5 m6
  obtain ⟨m0, m1, m2, m3, m4, m5, m6⟩ := unit_cells om6
  obtain ⟨b0, b1, b2, b3, b4, b5, b6⟩ := unit_cells ok
  have hlm6 := om6.lt
  have hlk6 := ok.lt
  have B6 := Lib.hid (B5.out.trans (hbq.mono B5.out.size))
  have OM6 := Lib.hid om6
  have OK6 := Lib.hid ok
  have hRD : Row .u8 W6 (some ⟨g2, 0, none⟩) m m D := Own.row0 og6 m m hDm.symm (Nat.le_refl _) (by unfold maxLen; omega) HDw.out
  have hyy : decide (SameM A0 A1 A2 A3 A4 A5 D A0 A1 A2 A3 A4 A5 D) = true := by simp [SameM]
  have ks := lsame_any A0 A1 A2 A3 A4 A5 (some ⟨g2, 0, none⟩) m m D A0 A1 A2 A3 A4 A5 s m q D W6 hRD (R2.out.later (HB25.out.trans (hbq.mono HB25.out.size)))
  rw [hyy] at ks
  have KS := Lib.hid ks
  clear hb hq ok hbq om6 og6 hRD hyy ks og2
  go_wp2_with fail
  refine (KS.out).mono ?_
  rintro e W7 ⟨rfl, hb⟩
  have om7 := OM6.out.below hb hlm6
  have ok7 := OK6.out.below hb hlk6
  clear m0 m1 m2 m3 m4 m5 m6 b0 b1 b2 b3 b4 b5 b6
  obtain ⟨m0, m1, m2, m3, m4, m5, m6⟩ := unit_cells om7
  obtain ⟨b0, b1, b2, b3, b4, b5, b6⟩ := unit_cells ok7
  have B7 := Lib.hid (B6.out.trans (hb.mono B6.out.size))
  clear hb om7 ok7
  go_upto_region 8 with fail
  clear m0 m1 m2 m3 m4 m5 m6 b0 b1 b2 b3 b4 b5 b6
  by_cases hbig : 600 < n'
  · skip
    have g6 : decide ((600 : Int) < (n' : Int)) = true := by simp; omega
    clear hbig
    go_wp2_with fail
    refine (HL.out _ (HP.out.later B7.out)).mono ?_
    rintro e v9 ⟨rfl, hb⟩
    have B99 := Lib.hid (B7.out.trans (hb.mono B7.out.size))
    clear hb
    go_wp2
    go_ret
    exact ⟨rfl, B99.out⟩
  · have g6 : decide ((600 : Int) < (n' : Int)) = false := by simp; omega
    by_cases hfew : n' < 5
    · skip
      have h1 := fun W => decode_few a' n' c' W hfew
      have K1 := Lib.hid h1
      have f5 : decide ((n' : Int) < 5) = true := by simp; omega
      have f6 : decide ((5 : Int) < (n' : Int)) = false := by simp; omega
      clear hbig hfew h1
      go_wp2_with fail
      refine (K1.out _).mono ?_
      rintro e y8 ⟨rfl, hb⟩
      go_upto_region 11 with fail
      have hq := below_alloc y8 (.cells #[.int .u8 0, .int .u8 0, .int .u8 0, .int .u16 0, .int .u16 0, .int .u8 0, .slice none 0 0] 38)
      have oy := own_lit y8 38 #[.int .u8 0, .int .u8 0, .int .u8 0, .int .u16 0, .int .u16 0, .int .u8 0, .slice none 0 0] _ rfl
      have hbq := B7.out.trans ((hb.trans (hq.mono hb.size)).mono B7.out.size)
      generalize y8.alloc (.cells #[.int .u8 0, .int .u8 0, .int .u8 0, .int .u16 0, .int .u16 0, .int .u8 0, .slice none 0 0] 38) = W8 at *
      generalize y8.heap.size = py at *
      obtain ⟨b0, b1, b2, b3, b4, b5, b6⟩ := unit_cells oy
      have B8 := Lib.hid hbq
      have ks := lsame_any 0 0 0 0 0 0 none 0 0 [] 0 0 0 0 0 0 none 0 0 [] W8 (Row.of_nil _ _) (Row.of_nil _ _)
      rw [show decide (SameM 0 0 0 0 0 0 [] 0 0 0 0 0 0 []) = true by simp [SameM]] at ks
      have KZ := Lib.hid ks
      clear hb hq oy hbq ks
      go_wp2_with fail
      refine (KZ.out).mono ?_
      rintro e W9 ⟨rfl, hb⟩
      have B9 := Lib.hid (B8.out.trans (hb.mono B8.out.size))
      clear hb b0 b1 b2 b3 b4 b5 b6
      go_wp2_with fail
      refine (HL.out _ (HP.out.later B9.out)).mono ?_
      rintro e v9 ⟨rfl, hb⟩
      have B99 := Lib.hid (B9.out.trans (hb.mono B9.out.size))
      clear hb
      go_wp2
      go_ret
      exact ⟨rfl, B99.out⟩
    · have f5 : decide ((n' : Int) < 5) = false := by simp; omega
      by_cases hmany : 273 < n'
      · skip
        have h1 := fun W => decode_many a' n' c' W hmany (by omega)
        have K1 := Lib.hid h1
        have f6 : decide ((5 : Int) < (n' : Int)) = true := by simp; omega
        have f7 : decide ((273 : Int) < (n' : Int)) = true := by simp; omega
        clear hbig hfew hmany h1
        go_wp2_with fail
        refine (K1.out _).mono ?_
        rintro e y8 ⟨rfl, hb⟩
        go_upto_region 11 with fail
        have hq := below_alloc y8 (.cells #[.int .u8 0, .int .u8 0, .int .u8 0, .int .u16 0, .int .u16 0, .int .u8 0, .slice none 0 0] 38)
        have oy := own_lit y8 38 #[.int .u8 0, .int .u8 0, .int .u8 0, .int .u16 0, .int .u16 0, .int .u8 0, .slice none 0 0] _ rfl
        have hbq := B7.out.trans ((hb.trans (hq.mono hb.size)).mono B7.out.size)
        generalize y8.alloc (.cells #[.int .u8 0, .int .u8 0, .int .u8 0, .int .u16 0, .int .u16 0, .int .u8 0, .slice none 0 0] 38) = W8 at *
        generalize y8.heap.size = py at *
        obtain ⟨b0, b1, b2, b3, b4, b5, b6⟩ := unit_cells oy
        have B8 := Lib.hid hbq
        have ks := lsame_any 0 0 0 0 0 0 none 0 0 [] 0 0 0 0 0 0 none 0 0 [] W8 (Row.of_nil _ _) (Row.of_nil _ _)
        rw [show decide (SameM 0 0 0 0 0 0 [] 0 0 0 0 0 0 []) = true by simp [SameM]] at ks
        have KZ := Lib.hid ks
        clear hb hq oy hbq ks
        go_wp2_with fail
        refine (KZ.out).mono ?_
        rintro e W9 ⟨rfl, hb⟩
        have B9 := Lib.hid (B8.out.trans (hb.mono B8.out.size))
        clear hb b0 b1 b2 b3 b4 b5 b6
        go_wp2_with fail
        refine (HL.out _ (HP.out.later B9.out)).mono ?_
        rintro e v9 ⟨rfl, hb⟩
        have B99 := Lib.hid (B9.out.trans (hb.mono B9.out.size))
        clear hb
        go_wp2
        go_ret
        exact ⟨rfl, B99.out⟩
      · skip
        have f7 : decide ((273 : Int) < (n' : Int)) = false := by simp; omega
        have hlb2 := HWB.out.len
        have hoct : ∀ j, 0 ≤ l'.getD j 0 ∧ l'.getD j 0 ≤ 255 := by
          intro j
          by_cases hj : j < l'.length
          · rw [List.getD_eq_getElem?_getD, List.getElem?_eq_getElem hj]
            exact wf_u8.1 (HWB.out.wf _ (List.getElem_mem hj))
          · rw [List.getD_eq_getElem?_getD, List.getElem?_eq_none (by omega)]
            exact ⟨Int.le_refl _, by decide⟩
        have hx0 := hoct 0
        have hN := lab4_range hoct
        have hed := enc_dec (l := l') (by omega) hoct
        have q0 : 0 ≤ l'.getD 0 0 % 16 ∧ l'.getD 0 0 % 16 ≤ 15 := by omega
        have q1 : 0 ≤ l'.getD 0 0 / 64 ∧ l'.getD 0 0 / 64 ≤ 3 := by omega
        have q2 : 0 ≤ l'.getD 0 0 / 16 % 4 ∧ l'.getD 0 0 / 16 % 4 ≤ 3 := by omega
        have q3 : 0 ≤ lab4 l' % 16384 ∧ lab4 l' % 16384 ≤ 16383 := by omega
        have q4 : 0 ≤ lab4 l' / 16384 % 16384 ∧ lab4 l' / 16384 % 16384 ≤ 16383 := by omega
        have q5 : 0 ≤ lab4 l' / 268435456 ∧ lab4 l' / 268435456 ≤ 15 := by omega
        have hd := fun W hW => decode_ok a' n' c' l' W hW (by omega) (by omega)
        generalize l'.getD 0 0 % 16 = F0 at hd hed q0
        generalize l'.getD 0 0 / 64 = F1 at hd hed q1
        generalize l'.getD 0 0 / 16 % 4 = F2 at hd hed q2
        generalize lab4 l' % 16384 = F3 at hd hed q3
        generalize lab4 l' / 16384 % 16384 = F4 at hd hed q4
        generalize lab4 l' / 268435456 = F5 at hd hed q5
        have hdl : (l'.drop 5).length = n' - 5 := by rw [List.length_drop, hlb2]
        have hdw : ∀ x ∈ l'.drop 5, (Lit.int .u8 x).wf = true := fun x hx => HWB.out.wf x (List.mem_of_mem_drop hx)
        have hen : ∀ (g : Nat) (W : World), Own W g 5 (nums .u8 (l'.drop 5)) → Calls Tryd.prog 17 #[.agg #[.int .u8 F0, .int .u8 F1, .int .u8 F2, .int .u16 F3, .int .u16 F4, .int .u8 F5, .slice (some ⟨g, 0, none⟩) (n' - 5) (n' - 5)]] W fun e w' =>
            ∃ g4, e = .returned (.tuple #[.slice (some ⟨g4, 0, none⟩) n' n', .int .i64 0]) ∧ W.heap.size ≤ g4 ∧ Own w' g4 5 (nums .u8 l') ∧ Below W.heap.size W w' := by
          intro g W hW
          have := encode_ok F0 F1 F2 F3 F4 F5 (some ⟨g, 0, none⟩) (n' - 5) (n' - 5) (l'.drop 5) W (Own.row0 hW (n' - 5) (n' - 5) hdl.symm (Nat.le_refl _) (by unfold maxLen; omega) hdw) (chkM_ok q0.2 q1.2 q2.2 q3.2 q4.2 q5.2 (by omega)) q0.1 q1.1 q2.1 q3.1 q4.1 q5.1
          rw [hed, show 5 + (n' - 5) = n' by omega] at this
          exact this
        have KD2 := Lib.hid hd
        have KE2 := Lib.hid hen
        have HLn := Lib.hid hlb2
        clear hbig hfew hmany hlb2 hoct hx0 hN hed q0 q1 q2 q3 q4 q5 hd hdl hdw hen
        go_wp2_with fail
        refine (KD2.out _ (HWB.out.later B7.out)).mono ?_
        rintro e y8 ⟨g3, rfl, hg3, og3, hb⟩
        go_upto_region 11 with fail
        have hq := below_alloc y8 (.cells #[.int .u8 F0, .int .u8 F1, .int .u8 F2, .int .u16 F3, .int .u16 F4, .int .u8 F5, .slice (some ⟨g3, 0, none⟩) (n' - 5) (n' - 5)] 38)
        have oy := own_lit y8 38 #[.int .u8 F0, .int .u8 F1, .int .u8 F2, .int .u16 F3, .int .u16 F4, .int .u8 F5, .slice (some ⟨g3, 0, none⟩) (n' - 5) (n' - 5)] _ rfl
        have hbq := B7.out.trans ((hb.trans (hq.mono hb.size)).mono B7.out.size)
        have og8 := og3.below hq og3.lt
        generalize y8.alloc (.cells #[.int .u8 F0, .int .u8 F1, .int .u8 F2, .int .u16 F3, .int .u16 F4, .int .u8 F5, .slice (some ⟨g3, 0, none⟩) (n' - 5) (n' - 5)] 38) = W8 at *
        generalize y8.heap.size = py at *
        obtain ⟨b0, b1, b2, b3, b4, b5, b6⟩ := unit_cells oy
        have B8 := Lib.hid hbq
        have OG8 := Lib.hid og8
        clear hb hq oy hbq og8 og3
        go_wp2_with fail
        refine (KE2.out _ _ OG8.out).mono ?_
        rintro e y9 ⟨g4, rfl, hg4, og4, hb⟩
        have B9 := Lib.hid (B8.out.trans (hb.mono B8.out.size))
        have hra : Row .u8 y9 (some ⟨g4, 0, none⟩) n' n' l' := Own.row0 og4 n' n' HLn.out.symm (Nat.le_refl _) (by unfold maxLen; omega) HWB.out.wf
        have hc1 := row_string _ _ _ _ _ hra
        have hc2 := row_string _ _ _ _ _ (HWB.out.later B9.out)
        clear hb b0 b1 b2 b3 b4 b5 b6 og4 hra
        go_wp2_with fail
        refine (HL.out _ (HP.out.later B9.out)).mono ?_
        rintro e v9 ⟨rfl, hb⟩
        have B99 := Lib.hid (B9.out.trans (hb.mono B9.out.size))
        clear hb
        go_wp2
        go_ret
        exact ⟨rfl, B99.out⟩
end Go.Proofs.YtcojjhokcebogaaDoor
