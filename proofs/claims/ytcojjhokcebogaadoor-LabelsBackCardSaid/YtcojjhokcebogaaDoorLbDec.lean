/- Contract of package labels: Decode. -/
import Derived.Test.YtcojjhokcebogaaDoorLbCopy
import Derived.Deep.RegionHeld3
import Derived.Deep.MidRow
import Derived.WalkSpells
namespace Go.Proofs.YtcojjhokcebogaaDoor
open Go.RowKit

/-- A list with the values put in from o on. -/
def putL (cs : List Value) : Nat → List Value → List Value
  | _, [] => cs
  | o, v :: r => putL (cs.set o v) (o + 1) r
theorem own_puts {b t : Nat} : ∀ (vs : List Value) (o : Nat) (cs : List Value) (w : World), Own w b t cs → Own (w.setCells b o vs) b t (putL cs o vs)
  | [], _, _, _, h => h
  | v :: r, o, _, _, h => own_puts r (o + 1) _ _ (h.set o v)
theorem exc_puts {b : Nat} {a : World} : ∀ (vs : List Value) (o : Nat) (w : World), Exc (fun k => k = b) a w → Exc (fun k => k = b) a (w.setCells b o vs)
  | [], _, _, h => h
  | v :: r, o, _, h => exc_puts r (o + 1) _ (Exc.setCell (S := fun k => k = b) h ⟨b, o, none⟩ (.inl rfl) v)
theorem own_room {w : World} {b t : Nat} {cs : List Value} (h : Own w b t cs) : w.there b 0 cs.length := fun j hj => by
  rw [Nat.zero_add]
  exact ⟨by rw [h.cell j hj]; rfl, h.frozen j⟩
/-- The number of four octets. -/
def lab4 (l : List Int) : Int := l.getD 1 0 + 256 * l.getD 2 0 + 65536 * l.getD 3 0 + 16777216 * l.getD 4 0
def labK (l : List Int) : Nat → Int
  | 0 => 0
  | 1 => l.getD 1 0
  | 2 => l.getD 1 0 + 256 * l.getD 2 0
  | 3 => l.getD 1 0 + 256 * l.getD 2 0 + 65536 * l.getD 3 0
  | _ => lab4 l
theorem decode_few (a : Option Addr) (n c : Nat) (w : World) (h : n < 5) :
    Calls Tryd.prog 21 #[.slice a n c] w fun e w' => e = .returned (.tuple #[.agg #[.int .u8 0, .int .u8 0, .int .u8 0, .int .u16 0, .int .u16 0, .int .u8 0, .slice none 0 0], .int .i64 4]) ∧ Below w.heap.size w w' := by
  have hd : decide ((n : Int) < 5) = true := by simp; omega
  go_enter Tryd.func21, Tryd.ntmps21
  go_wp2
  exact bodyPost_ret (v := .tuple #[.agg #[.int .u8 0, .int .u8 0, .int .u8 0, .int .u16 0, .int .u16 0, .int .u8 0, .slice none 0 0], .int .i64 4]) (by simp [results, Tryd.results21, go_sem]) rfl ⟨rfl, below_alloc _ _⟩
theorem decode_many (a : Option Addr) (n c : Nat) (w : World) (h : 273 < n) (hn : n ≤ 9223372036854775807) :
    Calls Tryd.prog 21 #[.slice a n c] w fun e w' => e = .returned (.tuple #[.agg #[.int .u8 0, .int .u8 0, .int .u8 0, .int .u16 0, .int .u16 0, .int .u8 0, .slice none 0 0], .int .i64 3]) ∧ Below w.heap.size w w' := by
  have h5 : decide ((n : Int) < 5) = false := by simp; omega
  have hd : decide ((273 : Int) < (n : Int)) = true := by simp; omega
  go_enter Tryd.func21, Tryd.ntmps21
  go_wp2
  exact bodyPost_ret (v := .tuple #[.agg #[.int .u8 0, .int .u8 0, .int .u8 0, .int .u16 0, .int .u16 0, .int .u8 0, .slice none 0 0], .int .i64 3]) (by simp [results, Tryd.results21, go_sem]) rfl ⟨rfl, below_alloc _ _⟩
set_option maxHeartbeats 2000000 in
set_option maxRecDepth 100000 in
theorem decode_ok (a : Option Addr) (n c : Nat) (l : List Int) (w : World) (h : Row .u8 w a n c l) (h5 : 5 ≤ n) (hn : n ≤ 273) :
    Calls Tryd.prog 21 #[.slice a n c] w fun e w' =>
      ∃ g, e = .returned (.tuple #[.agg #[.int .u8 (l.getD 0 0 % 16), .int .u8 (l.getD 0 0 / 64), .int .u8 (l.getD 0 0 / 16 % 4), .int .u16 (lab4 l % 16384), .int .u16 (lab4 l / 16384 % 16384), .int .u8 (lab4 l / 268435456), .slice (some ⟨g, 0, none⟩) (n - 5) (n - 5)], .int .i64 0]) ∧
        w.heap.size ≤ g ∧ Own w' g 5 (nums .u8 (l.drop 5)) ∧ Below w.heap.size w w' := by
  obtain ⟨hl, hle, hmx, hw, hcc, _⟩ := id h
  unfold maxLen at hmx
  have hoct : ∀ j, 0 ≤ l.getD j 0 ∧ l.getD j 0 ≤ 255 := by
    intro j
    by_cases hj : j < l.length
    · rw [List.getD_eq_getElem?_getD, List.getElem?_eq_getElem hj]
      exact wf_u8.1 (hw _ (List.getElem_mem hj))
    · rw [List.getD_eq_getElem?_getD, List.getElem?_eq_none (by omega)]
      exact ⟨Int.le_refl _, by decide⟩
  obtain ⟨b, o, rfl, hc⟩ : ∃ b o, a = some ⟨b, o, none⟩ ∧ ∀ i, i < n → w.cell? ⟨b, o + i, none⟩ = some (.int .u8 (l.getD i 0)) := by
    rcases hcc with h0 | h0
    · omega
    · exact h0
  have hblt : b < w.heap.size := World.block_lt_of_cell? w _ (hc 0 (by omega))
  have g0 := hc 0 (by omega)
  have g1 := hc 1 (by omega)
  have g2 := hc 2 (by omega)
  have g3 := hc 3 (by omega)
  have g4 := hc 4 (by omega)
  have o0 := hoct 0
  have o1 := hoct 1
  have o2 := hoct 2
  have o3 := hoct 3
  have o4 := hoct 4
  obtain ⟨x0, q0⟩ : ∃ x, x = l.getD 0 0 := ⟨_, rfl⟩
  obtain ⟨x1, q1⟩ : ∃ x, x = l.getD 1 0 := ⟨_, rfl⟩
  obtain ⟨x2, q2⟩ : ∃ x, x = l.getD 2 0 := ⟨_, rfl⟩
  obtain ⟨x3, q3⟩ : ∃ x, x = l.getD 3 0 := ⟨_, rfl⟩
  obtain ⟨x4, q4⟩ : ∃ x, x = l.getD 4 0 := ⟨_, rfl⟩
  obtain ⟨N, hN⟩ : ∃ N, N = lab4 l := ⟨_, rfl⟩
  rw [← q0, ← hN]
  have hN2 : N = x1 + 256 * x2 + 65536 * x3 + 16777216 * x4 := by rw [hN, q1, q2, q3, q4]; rfl
  rw [← q0] at g0 o0
  rw [← q1] at g1 o1
  rw [← q2] at g2 o2
  rw [← q3] at g3 o3
  rw [← q4] at g4 o4
  have HR := Lib.hid h
  have HN := Lib.hid hN2
  clear h q0 q1 q2 q3 q4 hN hN2 hc hcc hw hoct
  have d5 : decide ((n : Int) < 5) = false := by simp; omega
  have d273 : decide ((273 : Int) < (n : Int)) = false := by simp; omega
  obtain ⟨S2, hS2⟩ : ∃ S, S = x1 + 256 * x2 := ⟨_, rfl⟩
  obtain ⟨S3, hS3⟩ : ∃ S, S = x1 + 256 * x2 + 65536 * x3 := ⟨_, rfl⟩
  have e1 : bits .or .u32 0 x1 = x1 := by
    rw [u32_or 0 x1 (by decide) (by decide) (by omega) (by omega), show (0 : Int).toNat = 0 from rfl, Nat.zero_or]; omega
  have e2 : bits .or .u32 x1 (x2 * 256) = S2 := by
    rw [u32_add (a := x1) x2.toNat 8 (by omega) (by show x1 < ((256 : Nat) : Int); omega) (by show x2 * 256 = ((x2.toNat * 256 : Nat) : Int); omega) (by omega) (by omega)]; omega
  have e3 : bits .or .u32 S2 (x3 * 65536) = S3 := by
    rw [u32_add (a := S2) x3.toNat 16 (by omega) (by show S2 < ((65536 : Nat) : Int); omega) (by show x3 * 65536 = ((x3.toNat * 65536 : Nat) : Int); omega) (by omega) (by omega)]; omega
  have e4 : bits .or .u32 S3 (x4 * 16777216) = N := by
    rw [u32_add (a := S3) x4.toNat 24 (by omega) (by show S3 < ((16777216 : Nat) : Int); omega) (by show x4 * 16777216 = ((x4.toNat * 16777216 : Nat) : Int); omega) (by omega) (by omega), HN.out]; omega
  have b2 : 0 ≤ S2 ∧ S2 ≤ 65535 := by omega
  have b3 : 0 ≤ S3 ∧ S3 ≤ 16777215 := by omega
  have bN : 0 ≤ N ∧ N ≤ 4294967295 := by have := HN.out; omega
  clear hS2 hS3
  go_enter Tryd.func21, Tryd.ntmps21
  go_wp2_with fail
  clear d5 d273
  have hb1 := below_alloc w (.cells #[.int .u8 0, .int .u8 0, .int .u8 0, .int .u16 0, .int .u16 0, .int .u8 0, .slice none 0 0] 38)
  have oz := own_lit w 38 #[.int .u8 0, .int .u8 0, .int .u8 0, .int .u16 0, .int .u16 0, .int .u8 0, .slice none 0 0] _ rfl
  have y0 := (hb1.cell (p := ⟨b, o + 0, none⟩) hblt).trans g0
  have y1 := (hb1.cell (p := ⟨b, o + 1, none⟩) hblt).trans g1
  have y2 := (hb1.cell (p := ⟨b, o + 2, none⟩) hblt).trans g2
  have y3 := (hb1.cell (p := ⟨b, o + 3, none⟩) hblt).trans g3
  have y4 := (hb1.cell (p := ⟨b, o + 4, none⟩) hblt).trans g4
  have HR1 := Lib.hid (HR.out.later hb1)
  have HB1 := Lib.hid hb1
  have HZ := Lib.hid oz
  have s1 : (w.alloc (.cells #[.int .u8 0, .int .u8 0, .int .u8 0, .int .u16 0, .int .u16 0, .int .u8 0, .slice none 0 0] 38)).heap.size = w.heap.size + 1 := by simp
  generalize (w.alloc (.cells #[.int .u8 0, .int .u8 0, .int .u8 0, .int .u16 0, .int .u16 0, .int .u8 0, .slice none 0 0] 38)) = W1 at *
  clear hb1 oz g0 g1 g2 g3 g4
  simp only [Nat.add_zero] at y0
  go_loop [4, 15] (fun v i => (i = .int .i64 0 ∧ v = .int .u32 0) ∨ (i = .int .i64 1 ∧ v = .int .u32 x1) ∨ (i = .int .i64 2 ∧ v = .int .u32 S2) ∨ (i = .int .i64 3 ∧ v = .int .u32 S3) ∨ (i = .int .i64 4 ∧ v = .int .u32 N)) (fun _ i => 4 - (intOf i).toNat)
  case atStart => exact .inl ⟨rfl, rfl⟩
  case round =>
    rcases hrel with ⟨rfl, rfl⟩ | ⟨rfl, rfl⟩ | ⟨rfl, rfl⟩ | ⟨rfl, rfl⟩ | ⟨rfl, rfl⟩
    · go_wp2
      go_round
      case rel => simp
      case measure => simp [intOf]
    · go_wp2
      go_round
      case rel => simp
      case measure => simp [intOf]
    · go_wp2
      go_round
      case rel => simp
      case measure => simp [intOf]
    · go_wp2
      go_round
      case rel => simp
      case measure => simp [intOf]
    · clear e1 e2 e3 e4
      obtain ⟨A, r1, r2, hA, hRd⟩ := cut_low (some ⟨b, o, none⟩) n c 5 h5 hle
      simp only [show ((5 : Nat) : Int) = 5 from rfl] at r1 r2
      have HA := Lib.hid hRd
      have HLo := Lib.hid (fun W => labelOf_any N W bN.1 bN.2)
      have m1 : bits .and .u8 x0 15 = x0 % 16 := by
        rw [u8_and x0 15 (by omega) (by omega) (by decide) (by decide)]
        have e : x0.toNat &&& (15 : Int).toNat = x0.toNat % 16 := Nat.and_two_pow_sub_one_eq_mod x0.toNat 4
        rw [e]; omega
      have m2 : bits .and .u8 (x0 / 16) 3 = x0 / 16 % 4 := by
        rw [u8_and (x0 / 16) 3 (by omega) (by omega) (by decide) (by decide)]
        have e : (x0 / 16).toNat &&& (3 : Int).toNat = (x0 / 16).toNat % 4 := Nat.and_two_pow_sub_one_eq_mod (x0 / 16).toNat 2
        rw [e]; omega
      have hS : ∀ W W', Below W1.heap.size W1 W → Below W.heap.size W W' → Below W1.heap.size W1 W' ∧ W'.cell? ⟨b, o, none⟩ = some (.int .u8 x0) := by
        intro W W' h h'
        have hh := h.trans (h'.mono h.size)
        exact ⟨hh, (hh.cell (p := ⟨b, o, none⟩) (by show b < W1.heap.size; omega)).trans y0⟩
      have hS0 := hS W1 W1 (Below.refl _ _) (Below.refl _ _)
      have hSd := hS W1 W1.drew (Below.refl _ _) (Below.refl _ _).drew
      have HS := Lib.hid hS
      have HS1 := Lib.hid s1
      have hn0 : 0 < n := by omega
      clear hRd y1 y2 y3 y4 hS s1
      go_upto_region 11 with fail
      refine wp_region_held_drew (S := fun W => Below W1.heap.size W1 W ∧ W.cell? ⟨b, o, none⟩ = some (.int .u8 x0)) (by kernel_rfl) ?_ (fun hHeld => ?_)
      · exact hSd
      refine wpAnyH_take (i := 0) (oi := { dst := some 30, op := Op.move (Operand.tmp 0), type := 36, pos := "octets.go:75", after := #[], guard := none }) (v := ?_) rfl (by kernel_rfl) (by kernel_rfl) (by kernel_rfl) (fun _ _ _ h => h) (Or.inl ⟨by rfl, ?_⟩) (by assumption) ?_
      rotate_left 1
      · intro w hSw
        (try dsimp only at hSw)
        go_simp
        try with_reducible rfl
      try simp only [Act.put, List.setIfInBounds_toArray, List.set_cons_zero, List.set_cons_succ]
      refine wpAnyH_take (i := 1) (oi := { dst := some 31, op := Op.indexAddr 36 (Operand.tmp 30) (Operand.const (Value.int IntKind.i64 0)), type := 0, pos := "octets.go:75", after := #[{ on := 0, ground := Ground.data }], guard := none }) (v := ?_) rfl (by kernel_rfl) (by kernel_rfl) (by kernel_rfl) (fun _ _ _ h => h) (Or.inl ⟨by rfl, ?_⟩) (by assumption) ?_
      rotate_left 1
      · intro w hSw
        (try dsimp only at hSw)
        go_simp
        try with_reducible rfl
      try simp only [Act.put, List.setIfInBounds_toArray, List.set_cons_zero, List.set_cons_succ]
      refine wpAnyH_take (i := 2) (oi := { dst := some 32, op := Op.load 5 (Operand.tmp 31), type := 5, pos := "octets.go:75", after := #[{ on := 1, ground := Ground.data }], guard := none }) (v := ?_) rfl (by kernel_rfl) (by kernel_rfl) (by kernel_rfl) (fun _ _ _ h => h) (Or.inl ⟨by rfl, ?_⟩) (by assumption) ?_
      rotate_left 1
      · intro w hSw
        (try dsimp only at hSw)
        go_simp
        try with_reducible rfl
      try simp only [Act.put, List.setIfInBounds_toArray, List.set_cons_zero, List.set_cons_succ]
      refine wpAnyH_take (i := 3) (oi := { dst := some 33, op := Op.binOp BinOp.and 5 (Operand.tmp 32) (Operand.const (Value.int IntKind.u8 15)) 5, type := 5, pos := "octets.go:75", after := #[{ on := 2, ground := Ground.data }], guard := none }) (v := ?_) rfl (by kernel_rfl) (by kernel_rfl) (by kernel_rfl) (fun _ _ _ h => h) (Or.inl ⟨by rfl, ?_⟩) (by assumption) ?_
      rotate_left 1
      · intro w hSw
        (try dsimp only at hSw)
        go_simp
        try with_reducible rfl
      try simp only [Act.put, List.setIfInBounds_toArray, List.set_cons_zero, List.set_cons_succ]
      refine wpAnyH_take (i := 4) (oi := { dst := some 34, op := Op.move (Operand.tmp 0), type := 36, pos := "octets.go:75", after := #[], guard := none }) (v := ?_) rfl (by kernel_rfl) (by kernel_rfl) (by kernel_rfl) (fun _ _ _ h => h) (Or.inl ⟨by rfl, ?_⟩) (by assumption) ?_
      rotate_left 1
      · intro w hSw
        (try dsimp only at hSw)
        go_simp
        try with_reducible rfl
      try simp only [Act.put, List.setIfInBounds_toArray, List.set_cons_zero, List.set_cons_succ]
      refine wpAnyH_take (i := 5) (oi := { dst := some 35, op := Op.indexAddr 36 (Operand.tmp 34) (Operand.const (Value.int IntKind.i64 0)), type := 0, pos := "octets.go:75", after := #[{ on := 4, ground := Ground.data }], guard := none }) (v := ?_) rfl (by kernel_rfl) (by kernel_rfl) (by kernel_rfl) (fun _ _ _ h => h) (Or.inl ⟨by rfl, ?_⟩) (by assumption) ?_
      rotate_left 1
      · intro w hSw
        (try dsimp only at hSw)
        go_simp
        try with_reducible rfl
      try simp only [Act.put, List.setIfInBounds_toArray, List.set_cons_zero, List.set_cons_succ]
      refine wpAnyH_take (i := 6) (oi := { dst := some 36, op := Op.load 5 (Operand.tmp 35), type := 5, pos := "octets.go:75", after := #[{ on := 5, ground := Ground.data }], guard := none }) (v := ?_) rfl (by kernel_rfl) (by kernel_rfl) (by kernel_rfl) (fun _ _ _ h => h) (Or.inl ⟨by rfl, ?_⟩) (by assumption) ?_
      rotate_left 1
      · intro w hSw
        (try dsimp only at hSw)
        go_simp
        try with_reducible rfl
      try simp only [Act.put, List.setIfInBounds_toArray, List.set_cons_zero, List.set_cons_succ]
      refine wpAnyH_take (i := 7) (oi := { dst := some 37, op := Op.binOp BinOp.shr 5 (Operand.tmp 36) (Operand.const (Value.int IntKind.u64 6)) 66, type := 5, pos := "octets.go:75", after := #[{ on := 6, ground := Ground.data }], guard := none }) (v := ?_) rfl (by kernel_rfl) (by kernel_rfl) (by kernel_rfl) (fun _ _ _ h => h) (Or.inl ⟨by rfl, ?_⟩) (by assumption) ?_
      rotate_left 1
      · intro w hSw
        (try dsimp only at hSw)
        go_simp
        try with_reducible rfl
      try simp only [Act.put, List.setIfInBounds_toArray, List.set_cons_zero, List.set_cons_succ]
      refine wpAnyH_take (i := 8) (oi := { dst := some 38, op := Op.move (Operand.tmp 0), type := 36, pos := "octets.go:75", after := #[], guard := none }) (v := ?_) rfl (by kernel_rfl) (by kernel_rfl) (by kernel_rfl) (fun _ _ _ h => h) (Or.inl ⟨by rfl, ?_⟩) (by assumption) ?_
      rotate_left 1
      · intro w hSw
        (try dsimp only at hSw)
        go_simp
        try with_reducible rfl
      try simp only [Act.put, List.setIfInBounds_toArray, List.set_cons_zero, List.set_cons_succ]
      refine wpAnyH_take (i := 9) (oi := { dst := some 39, op := Op.indexAddr 36 (Operand.tmp 38) (Operand.const (Value.int IntKind.i64 0)), type := 0, pos := "octets.go:75", after := #[{ on := 8, ground := Ground.data }], guard := none }) (v := ?_) rfl (by kernel_rfl) (by kernel_rfl) (by kernel_rfl) (fun _ _ _ h => h) (Or.inl ⟨by rfl, ?_⟩) (by assumption) ?_
      rotate_left 1
      · intro w hSw
        (try dsimp only at hSw)
        go_simp
        try with_reducible rfl
      try simp only [Act.put, List.setIfInBounds_toArray, List.set_cons_zero, List.set_cons_succ]
      refine wpAnyH_take (i := 10) (oi := { dst := some 40, op := Op.load 5 (Operand.tmp 39), type := 5, pos := "octets.go:75", after := #[{ on := 9, ground := Ground.data }], guard := none }) (v := ?_) rfl (by kernel_rfl) (by kernel_rfl) (by kernel_rfl) (fun _ _ _ h => h) (Or.inl ⟨by rfl, ?_⟩) (by assumption) ?_
      rotate_left 1
      · intro w hSw
        (try dsimp only at hSw)
        go_simp
        try with_reducible rfl
      try simp only [Act.put, List.setIfInBounds_toArray, List.set_cons_zero, List.set_cons_succ]
      refine wpAnyH_take (i := 11) (oi := { dst := some 41, op := Op.binOp BinOp.shr 5 (Operand.tmp 40) (Operand.const (Value.int IntKind.u64 4)) 66, type := 5, pos := "octets.go:75", after := #[{ on := 10, ground := Ground.data }], guard := none }) (v := ?_) rfl (by kernel_rfl) (by kernel_rfl) (by kernel_rfl) (fun _ _ _ h => h) (Or.inl ⟨by rfl, ?_⟩) (by assumption) ?_
      rotate_left 1
      · intro w hSw
        (try dsimp only at hSw)
        go_simp
        try with_reducible rfl
      try simp only [Act.put, List.setIfInBounds_toArray, List.set_cons_zero, List.set_cons_succ]
      refine wpAnyH_take (i := 12) (oi := { dst := some 42, op := Op.binOp BinOp.and 5 (Operand.tmp 41) (Operand.const (Value.int IntKind.u8 3)) 5, type := 5, pos := "octets.go:75", after := #[{ on := 11, ground := Ground.data }], guard := none }) (v := ?_) rfl (by kernel_rfl) (by kernel_rfl) (by kernel_rfl) (fun _ _ _ h => h) (Or.inl ⟨by rfl, ?_⟩) (by assumption) ?_
      rotate_left 1
      · intro w hSw
        (try dsimp only at hSw)
        go_simp
        try with_reducible rfl
      try simp only [Act.put, List.setIfInBounds_toArray, List.set_cons_zero, List.set_cons_succ]
      refine wpAnyH_take (i := 13) (oi := { dst := some 43, op := Op.move (Operand.tmp 4), type := 72, pos := "octets.go:75", after := #[], guard := none }) (v := ?_) rfl (by kernel_rfl) (by kernel_rfl) (by kernel_rfl) (fun _ _ _ h => h) (Or.inl ⟨by rfl, ?_⟩) (by assumption) ?_
      rotate_left 1
      · intro w hSw
        (try dsimp only at hSw)
        go_simp
        try with_reducible rfl
      try simp only [Act.put, List.setIfInBounds_toArray, List.set_cons_zero, List.set_cons_succ]
      refine wpAnyH_take (i := 15) (oi := { dst := some 45, op := Op.move (Operand.tmp 0), type := 36, pos := "octets.go:75", after := #[], guard := none }) (v := ?_) rfl (by kernel_rfl) (by kernel_rfl) (by kernel_rfl) (fun _ _ _ h => h) (Or.inl ⟨by rfl, ?_⟩) (by assumption) ?_
      rotate_left 1
      · intro w hSw
        (try dsimp only at hSw)
        go_simp
        try with_reducible rfl
      try simp only [Act.put, List.setIfInBounds_toArray, List.set_cons_zero, List.set_cons_succ]
      refine wpAnyH_take (i := 16) (oi := { dst := some 46, op := Op.slice 36 (Operand.tmp 45) (some (Operand.const (Value.int IntKind.i64 5))) none none, type := 36, pos := "octets.go:75", after := #[{ on := 15, ground := Ground.data }], guard := none }) (v := ?_) rfl (by kernel_rfl) (by kernel_rfl) (by kernel_rfl) (fun _ _ _ h => h) (Or.inl ⟨by rfl, ?_⟩) (by assumption) ?_
      rotate_left 1
      · intro w hSw
        (try dsimp only at hSw)
        go_simp
        try with_reducible rfl
      try simp only [Act.put, List.setIfInBounds_toArray, List.set_cons_zero, List.set_cons_succ]
      obtain ⟨X0, hX0⟩ : ∃ X, X = W1.drew := ⟨_, rfl⟩
      rw [← hX0] at hHeld ⊢
      clear hX0
      refine wpAnyH_ready (rs := [14, 18]) (by kernel_rfl) (by simp) ?_
      refine AllReadyH.cons (o := { dst := some 44, op := Op.call { callee := Callee.value (Operand.func 35), args := #[Operand.tmp 43], argTypes := #[72] }, type := 35, pos := "octets.go:79", after := #[{ on := 13, ground := Ground.data }], guard := none }) rfl (fun K hK => ?_) ?_
      · skip
        go_simp
        with_reducible refine (HLo.out _).mono ?_
        rintro e X1 ⟨rfl, hb⟩
        go_wp2_with fail
        have hy := HS.out _ _ hHeld.1 hb
        refine hK.out _ _ hy (fun hHeld => ?_)
        clear hK K hb hy
        try simp only [Act.put, List.setIfInBounds_toArray, List.set_cons_zero, List.set_cons_succ]
        refine wpAnyH_take (i := 17) (oi := { dst := some 47, op := Op.build 38 #[(0, Operand.tmp 33), (1, Operand.tmp 37), (2, Operand.tmp 42), (3, Operand.tmp 44), (4, Operand.tmp 46)], type := 38, pos := "octets.go:75", after := #[{ on := 3, ground := Ground.data }, { on := 7, ground := Ground.data }, { on := 12, ground := Ground.data }, { on := 14, ground := Ground.data }, { on := 16, ground := Ground.data }], guard := none }) (v := ?_) rfl (by kernel_rfl) (by kernel_rfl) (by kernel_rfl) (fun _ _ _ h => h) (Or.inl ⟨by rfl, ?_⟩) (by assumption) ?_
        rotate_left 1
        · intro w hSw
          (try dsimp only at hSw)
          go_simp
          try with_reducible rfl
        try simp only [Act.put, List.setIfInBounds_toArray, List.set_cons_zero, List.set_cons_succ]
        refine wpAnyH_ready (rs := [18]) (by kernel_rfl) (by simp) ?_
        refine AllReadyH.cons (o := { dst := some 6, op := Op.alloc 38, type := 0, pos := "octets.go:75", after := #[], guard := none }) rfl (fun K hK => ?_) AllReadyH.nil
        go_simp
        obtain ⟨p, hpe⟩ : ∃ p, p = X1.heap.size := ⟨_, rfl⟩
        obtain ⟨X2, hn⟩ : ∃ Y, Y = X1.alloc (.cells #[.int .u8 0, .int .u8 0, .int .u8 0, .int .u16 0, .int .u16 0, .int .u8 0, .slice none 0 0] 38) := ⟨_, rfl⟩
        have hnb : Below X1.heap.size X1 X2 := by rw [hn]; exact below_alloc _ _
        have hp1 : Own X2 p 38 [.int .u8 0, .int .u8 0, .int .u8 0, .int .u16 0, .int .u16 0, .int .u8 0, .slice none 0 0] := by rw [hn, hpe]; exact own_lit _ _ _ _ rfl
        have hpl : W1.heap.size ≤ p := by have := hHeld.1.size; omega
        have hy := HS.out _ _ hHeld.1 hnb
        rw [← hn, ← hpe]
        clear hn hpe hnb
        refine hK.out _ _ hy (fun hHeld => ?_)
        clear hK K hy
        try simp only [Act.put, List.setIfInBounds_toArray, List.set_cons_zero, List.set_cons_succ]
        refine wpAnyH_ready (rs := [19]) (by kernel_rfl) (by simp) ?_
        refine AllReadyH.cons (o := { dst := none, op := Op.store 38 (Operand.tmp 6) (Operand.tmp 47), type := 0, pos := "octets.go:75", after := #[{ on := 18, ground := Ground.data }, { on := 17, ground := Ground.data }, { on := 14, ground := Ground.chain }, { on := 0, ground := Ground.phase }, { on := 1, ground := Ground.phase }, { on := 2, ground := Ground.phase }, { on := 3, ground := Ground.phase }, { on := 4, ground := Ground.phase }, { on := 5, ground := Ground.phase }, { on := 6, ground := Ground.phase }, { on := 7, ground := Ground.phase }, { on := 8, ground := Ground.phase }, { on := 9, ground := Ground.phase }, { on := 10, ground := Ground.phase }, { on := 11, ground := Ground.phase }, { on := 12, ground := Ground.phase }, { on := 13, ground := Ground.phase }, { on := 14, ground := Ground.phase }, { on := 15, ground := Ground.phase }, { on := 16, ground := Ground.phase }, { on := 17, ground := Ground.phase }, { on := 18, ground := Ground.phase }], guard := none }) rfl (fun K hK => ?_) AllReadyH.nil
        rw [if_pos (by rfl)]
        with_reducible refine wp_store_mid 38 (Operand.tmp 6) (Operand.tmp 47) ?ho p 0 #[.int .u8 (x0 % 16), .int .u8 (x0 / 64), .int .u8 (x0 / 16 % 4), .int .u16 (N % 16384), .int .u16 (N / 16384 % 16384), .int .u8 (N / 268435456), .slice A (n - 5) (c - 5)] ?hx ?hy ?ht ?hi ?h1 ?_
        case ho => rfl
        case hx => rfl
        case hy => rfl
        case ht => exact (show World.there X2 p 0 7 from own_room hp1)
        case hi => kernel_rfl
        case h1 => simp [Value.oneCell']
        have s1 : Own (X2.setCells p 0 (#[.int .u8 (x0 % 16), .int .u8 (x0 / 64), .int .u8 (x0 / 16 % 4), .int .u16 (N % 16384), .int .u16 (N / 16384 % 16384), .int .u8 (N / 268435456), .slice A (n - 5) (c - 5)] : Array Value).toList) p 38 [.int .u8 (x0 % 16), .int .u8 (x0 / 64), .int .u8 (x0 / 16 % 4), .int .u16 (N % 16384), .int .u16 (N / 16384 % 16384), .int .u8 (N / 268435456), .slice A (n - 5) (c - 5)] := own_puts _ 0 _ _ hp1
        have x1 : Exc (fun k => k = p) X2 (X2.setCells p 0 (#[.int .u8 (x0 % 16), .int .u8 (x0 / 64), .int .u8 (x0 / 16 % 4), .int .u16 (N % 16384), .int .u16 (N / 16384 % 16384), .int .u8 (N / 268435456), .slice A (n - 5) (c - 5)] : Array Value).toList) := exc_puts _ 0 _ (Exc.refl _ _)
        obtain ⟨Y1, hY1⟩ : ∃ Y, Y = X2.setCells p 0 (#[.int .u8 (x0 % 16), .int .u8 (x0 / 64), .int .u8 (x0 / 16 % 4), .int .u16 (N % 16384), .int .u16 (N / 16384 % 16384), .int .u8 (N / 268435456), .slice A (n - 5) (c - 5)] : Array Value).toList := ⟨_, rfl⟩
        rw [← hY1] at s1 x1 ⊢
        clear hY1
        have y1 : Below W1.heap.size W1 Y1 := hHeld.1.trans (x1.below hHeld.1.size (fun i _ e => by omega))
        have hy := HS.out _ _ y1 (Below.refl _ _)
        refine hK.out _ _ hy (fun hHeld => ?_)
        clear hK K x1 hy
        try simp only [Act.put]
        refine wpAnyH_done (by kernel_rfl) ?_ _
        obtain ⟨c0, c1, c2, c3, c4, c5, c6⟩ := unit_cells s1
        have HRY := Lib.hid (HA.out _ l (HR1.out.later y1))
        have HY := Lib.hid y1
        clear y1 hHeld
        go_wp2_with fail
        refine (copy_any _ _ _ _ _ _ A (n - 5) (c - 5) (l.drop 5) _ HRY.out (by omega)).mono ?_
        rintro e w6 ⟨g, rfl, hgl, hown, hb6⟩
        have z6 := (HZ.out.below HY.out (by have := HS1.out; omega)).below hb6 (by have := HS1.out; have := HY.out.size; omega)
        obtain ⟨k0, k1, k2, k3, k4, k5, k6⟩ := unit_cells z6
        obtain ⟨u0, u1, u2, u3, u4, u6', u7'⟩ := unit_frozen z6
        have hg1 : w.heap.size < g := by have := HS1.out; have := HY.out.size; omega
        have HOw := Lib.hid hown
        have HB6 := Lib.hid (HB1.out.trans ((HY.out.trans (hb6.mono HY.out.size)).mono HB1.out.size))
        clear hown hb6 z6 c0 c1 c2 c3 c4 c5 c6 s1
        go_wp2
        have HX := Lib.hid ((((((((Exc.refl (fun k => k = w.heap.size) w6).setCell ⟨w.heap.size, 0, none⟩ (.inl rfl) (.int .u8 (x0 % 16))).setCell ⟨w.heap.size, 1, none⟩ (.inl rfl) (.int .u8 (x0 / 64))).setCell ⟨w.heap.size, 2, none⟩ (.inl rfl) (.int .u8 (x0 / 16 % 4))).setCell ⟨w.heap.size, 3, none⟩ (.inl rfl) (.int .u16 (N % 16384))).setCell ⟨w.heap.size, 4, none⟩ (.inl rfl) (.int .u16 (N / 16384 % 16384))).setCell ⟨w.heap.size, 5, none⟩ (.inl rfl) (.int .u8 (N / 268435456))).setCell ⟨w.heap.size, 6, none⟩ (.inl rfl) (.slice (some ⟨g, 0, none⟩) (n - 5) (n - 5)))
        refine bodyPost_ret (v := .tuple #[.agg #[.int .u8 (x0 % 16), .int .u8 (x0 / 64), .int .u8 (x0 / 16 % 4), .int .u16 (N % 16384), .int .u16 (N / 16384 % 16384), .int .u8 (N / 268435456), .slice (some ⟨g, 0, none⟩) (n - 5) (n - 5)], .int .i64 0]) (by simp [results, Tryd.results21, go_sem, k0, k1, k2, k3, k4, k5, k6]) rfl ?_
        have hs6 := HB6.out.size
        exact ⟨g, rfl, by omega, HOw.out.exc HX.out (by omega), HB6.out.trans (HX.out.below hs6 (fun i _ hi => by omega))⟩
      refine AllReadyH.cons (o := { dst := some 6, op := Op.alloc 38, type := 0, pos := "octets.go:75", after := #[], guard := none }) rfl (fun K hK => ?_) AllReadyH.nil
      go_simp
      obtain ⟨p, hpe⟩ : ∃ p, p = X0.heap.size := ⟨_, rfl⟩
      obtain ⟨X1, hn⟩ : ∃ Y, Y = X0.alloc (.cells #[.int .u8 0, .int .u8 0, .int .u8 0, .int .u16 0, .int .u16 0, .int .u8 0, .slice none 0 0] 38) := ⟨_, rfl⟩
      have hnb : Below X0.heap.size X0 X1 := by rw [hn]; exact below_alloc _ _
      have hp1 : Own X1 p 38 [.int .u8 0, .int .u8 0, .int .u8 0, .int .u16 0, .int .u16 0, .int .u8 0, .slice none 0 0] := by rw [hn, hpe]; exact own_lit _ _ _ _ rfl
      have hpl : W1.heap.size ≤ p := by have := hHeld.1.size; omega
      have hy := HS.out _ _ hHeld.1 hnb
      rw [← hn, ← hpe]
      clear hn hpe hnb
      refine hK.out _ _ hy (fun hHeld => ?_)
      clear hK K hy
      try simp only [Act.put, List.setIfInBounds_toArray, List.set_cons_zero, List.set_cons_succ]
      refine wpAnyH_ready (rs := [14]) (by kernel_rfl) (by simp) ?_
      refine AllReadyH.cons (o := { dst := some 44, op := Op.call { callee := Callee.value (Operand.func 35), args := #[Operand.tmp 43], argTypes := #[72] }, type := 35, pos := "octets.go:79", after := #[{ on := 13, ground := Ground.data }], guard := none }) rfl (fun K hK => ?_) AllReadyH.nil
      go_simp
      with_reducible refine (HLo.out _).mono ?_
      rintro e X2 ⟨rfl, hb⟩
      go_wp2_with fail
      have hp2 := hp1.below hb hp1.lt
      have hy := HS.out _ _ hHeld.1 hb
      refine hK.out _ _ hy (fun hHeld => ?_)
      clear hK K hb hy
      try simp only [Act.put, List.setIfInBounds_toArray, List.set_cons_zero, List.set_cons_succ]
      refine wpAnyH_take (i := 17) (oi := { dst := some 47, op := Op.build 38 #[(0, Operand.tmp 33), (1, Operand.tmp 37), (2, Operand.tmp 42), (3, Operand.tmp 44), (4, Operand.tmp 46)], type := 38, pos := "octets.go:75", after := #[{ on := 3, ground := Ground.data }, { on := 7, ground := Ground.data }, { on := 12, ground := Ground.data }, { on := 14, ground := Ground.data }, { on := 16, ground := Ground.data }], guard := none }) (v := ?_) rfl (by kernel_rfl) (by kernel_rfl) (by kernel_rfl) (fun _ _ _ h => h) (Or.inl ⟨by rfl, ?_⟩) (by assumption) ?_
      rotate_left 1
      · intro w hSw
        (try dsimp only at hSw)
        go_simp
        try with_reducible rfl
      try simp only [Act.put, List.setIfInBounds_toArray, List.set_cons_zero, List.set_cons_succ]
      refine wpAnyH_ready (rs := [19]) (by kernel_rfl) (by simp) ?_
      refine AllReadyH.cons (o := { dst := none, op := Op.store 38 (Operand.tmp 6) (Operand.tmp 47), type := 0, pos := "octets.go:75", after := #[{ on := 18, ground := Ground.data }, { on := 17, ground := Ground.data }, { on := 14, ground := Ground.chain }, { on := 0, ground := Ground.phase }, { on := 1, ground := Ground.phase }, { on := 2, ground := Ground.phase }, { on := 3, ground := Ground.phase }, { on := 4, ground := Ground.phase }, { on := 5, ground := Ground.phase }, { on := 6, ground := Ground.phase }, { on := 7, ground := Ground.phase }, { on := 8, ground := Ground.phase }, { on := 9, ground := Ground.phase }, { on := 10, ground := Ground.phase }, { on := 11, ground := Ground.phase }, { on := 12, ground := Ground.phase }, { on := 13, ground := Ground.phase }, { on := 14, ground := Ground.phase }, { on := 15, ground := Ground.phase }, { on := 16, ground := Ground.phase }, { on := 17, ground := Ground.phase }, { on := 18, ground := Ground.phase }], guard := none }) rfl (fun K hK => ?_) AllReadyH.nil
      rw [if_pos (by rfl)]
      with_reducible refine wp_store_mid 38 (Operand.tmp 6) (Operand.tmp 47) ?ho p 0 #[.int .u8 (x0 % 16), .int .u8 (x0 / 64), .int .u8 (x0 / 16 % 4), .int .u16 (N % 16384), .int .u16 (N / 16384 % 16384), .int .u8 (N / 268435456), .slice A (n - 5) (c - 5)] ?hx ?hy ?ht ?hi ?h1 ?_
      case ho => rfl
      case hx => rfl
      case hy => rfl
      case ht => exact (show World.there X2 p 0 7 from own_room hp2)
      case hi => kernel_rfl
      case h1 => simp [Value.oneCell']
      have s1 : Own (X2.setCells p 0 (#[.int .u8 (x0 % 16), .int .u8 (x0 / 64), .int .u8 (x0 / 16 % 4), .int .u16 (N % 16384), .int .u16 (N / 16384 % 16384), .int .u8 (N / 268435456), .slice A (n - 5) (c - 5)] : Array Value).toList) p 38 [.int .u8 (x0 % 16), .int .u8 (x0 / 64), .int .u8 (x0 / 16 % 4), .int .u16 (N % 16384), .int .u16 (N / 16384 % 16384), .int .u8 (N / 268435456), .slice A (n - 5) (c - 5)] := own_puts _ 0 _ _ hp2
      have x1 : Exc (fun k => k = p) X2 (X2.setCells p 0 (#[.int .u8 (x0 % 16), .int .u8 (x0 / 64), .int .u8 (x0 / 16 % 4), .int .u16 (N % 16384), .int .u16 (N / 16384 % 16384), .int .u8 (N / 268435456), .slice A (n - 5) (c - 5)] : Array Value).toList) := exc_puts _ 0 _ (Exc.refl _ _)
      obtain ⟨Y1, hY1⟩ : ∃ Y, Y = X2.setCells p 0 (#[.int .u8 (x0 % 16), .int .u8 (x0 / 64), .int .u8 (x0 / 16 % 4), .int .u16 (N % 16384), .int .u16 (N / 16384 % 16384), .int .u8 (N / 268435456), .slice A (n - 5) (c - 5)] : Array Value).toList := ⟨_, rfl⟩
      rw [← hY1] at s1 x1 ⊢
      clear hY1
      have y1 : Below W1.heap.size W1 Y1 := hHeld.1.trans (x1.below hHeld.1.size (fun i _ e => by omega))
      have hy := HS.out _ _ y1 (Below.refl _ _)
      refine hK.out _ _ hy (fun hHeld => ?_)
      clear hK K x1 hy
      try simp only [Act.put]
      refine wpAnyH_done (by kernel_rfl) ?_ _
      obtain ⟨c0, c1, c2, c3, c4, c5, c6⟩ := unit_cells s1
      have HRY := Lib.hid (HA.out _ l (HR1.out.later y1))
      have HY := Lib.hid y1
      clear y1 hHeld
      go_wp2_with fail
      refine (copy_any _ _ _ _ _ _ A (n - 5) (c - 5) (l.drop 5) _ HRY.out (by omega)).mono ?_
      rintro e w6 ⟨g, rfl, hgl, hown, hb6⟩
      have z6 := (HZ.out.below HY.out (by have := HS1.out; omega)).below hb6 (by have := HS1.out; have := HY.out.size; omega)
      obtain ⟨k0, k1, k2, k3, k4, k5, k6⟩ := unit_cells z6
      obtain ⟨u0, u1, u2, u3, u4, u6', u7'⟩ := unit_frozen z6
      have hg1 : w.heap.size < g := by have := HS1.out; have := HY.out.size; omega
      have HOw := Lib.hid hown
      have HB6 := Lib.hid (HB1.out.trans ((HY.out.trans (hb6.mono HY.out.size)).mono HB1.out.size))
      clear hown hb6 z6 c0 c1 c2 c3 c4 c5 c6 s1
      go_wp2
      have HX := Lib.hid ((((((((Exc.refl (fun k => k = w.heap.size) w6).setCell ⟨w.heap.size, 0, none⟩ (.inl rfl) (.int .u8 (x0 % 16))).setCell ⟨w.heap.size, 1, none⟩ (.inl rfl) (.int .u8 (x0 / 64))).setCell ⟨w.heap.size, 2, none⟩ (.inl rfl) (.int .u8 (x0 / 16 % 4))).setCell ⟨w.heap.size, 3, none⟩ (.inl rfl) (.int .u16 (N % 16384))).setCell ⟨w.heap.size, 4, none⟩ (.inl rfl) (.int .u16 (N / 16384 % 16384))).setCell ⟨w.heap.size, 5, none⟩ (.inl rfl) (.int .u8 (N / 268435456))).setCell ⟨w.heap.size, 6, none⟩ (.inl rfl) (.slice (some ⟨g, 0, none⟩) (n - 5) (n - 5)))
      refine bodyPost_ret (v := .tuple #[.agg #[.int .u8 (x0 % 16), .int .u8 (x0 / 64), .int .u8 (x0 / 16 % 4), .int .u16 (N % 16384), .int .u16 (N / 16384 % 16384), .int .u8 (N / 268435456), .slice (some ⟨g, 0, none⟩) (n - 5) (n - 5)], .int .i64 0]) (by simp [results, Tryd.results21, go_sem, k0, k1, k2, k3, k4, k5, k6]) rfl ?_
      have hs6 := HB6.out.size
      exact ⟨g, rfl, by omega, HOw.out.exc HX.out (by omega), HB6.out.trans (HX.out.below hs6 (fun i _ hi => by omega))⟩
end Go.Proofs.YtcojjhokcebogaaDoor
