/- Joined: PrEq PrSame. -/
import Derived.Test.YthlckipcgogogaaGreatDoorPlCells
import Derived.Laws.StructEq
import Derived.ChangeKeysEq
import Derived.Test.YthlckipcgogogaaGreatDoorPcCheck
import Derived.BigQuiet
import Derived.Deep.Cut
/- Places, lines, marks and faults compared with == and !=. -/
namespace Go.Proofs.YthlckipcgogogaaGreatDoor
set_option linter.unusedVariables false
open Go.RowKit

theorem eqPlN (n : Nat) (u v : Int) (s t : Bool) (w : World) : (Op.equalIn (n + 1 + 1) 72 (.agg #[.int .u16 u, .bool s]) (.agg #[.int .u16 v, .bool t])).run Tryz.prog w = .ok (u == v && s == t) w := by
  rw [run_equalIn_struct w (n + 1) 72 _ _ (by kernel_rfl) (by kernel_rfl)]
  simp only [Program.fieldsOf, Tryz.underlying72]
  simp only [Op.eqFields]
  go_simp
  by_cases h1 : u = v <;> cases s <;> cases t <;> simp [h1]
theorem neqPl (u : Int) (s : Bool) (w : World) : (binOp .neq 72 (.agg #[.int .u16 u, .bool s]) (.agg #[.int .u16 u, .bool s])).run Tryz.prog w = .ok (.bool false) w := by
  rw [run_neq_struct, show (10000 : Nat) = 9998 + 1 + 1 from rfl, eqPlN]
  simp
theorem eqlPl (u : Int) (s : Bool) (w : World) : (binOp .eql 72 (.agg #[.int .u16 u, .bool s]) (.agg #[.int .u16 u, .bool s])).run Tryz.prog w = .ok (.bool true) w := by
  rw [run_eql_struct, show (10000 : Nat) = 9998 + 1 + 1 from rfl, eqPlN]
  simp
theorem eqLkN (n : Nat) (b c d f g h : Int) (w : World) : (Op.equalIn (n + 1 + 1) 74 (.agg #[.int .u16 b, .int .u16 c, .int .u8 d]) (.agg #[.int .u16 f, .int .u16 g, .int .u8 h])).run Tryz.prog w = .ok (b == f && (c == g && d == h)) w := by
  rw [run_equalIn_struct w (n + 1) 74 _ _ (by kernel_rfl) (by kernel_rfl)]
  simp only [Program.fieldsOf, Tryz.underlying74]
  simp only [Op.eqFields]
  go_simp
  by_cases h1 : b = f <;> by_cases h2 : c = g <;> by_cases h3 : d = h <;> simp [h1, h2, h3]
theorem eqLnN (n : Nat) (a b c d : Int) (w : World) : (Op.equalIn (n + 1 + 1 + 1) 76 (.agg #[.int .u16 a, .int .u16 b, .int .u8 c, .int .i64 d]) (.agg #[.int .u16 a, .int .u16 b, .int .u8 c, .int .i64 d])).run Tryz.prog w = .ok true w := by
  have HL := eqLkN n
  rw [run_equalIn_struct w (n + 1 + 1) 76 _ _ (by kernel_rfl) (by kernel_rfl)]
  simp only [Program.fieldsOf, Tryz.underlying76]
  simp only [Op.eqFields]
  go_simp
theorem neqLn (a b c d : Int) (w : World) : (binOp .neq 76 (.agg #[.int .u16 a, .int .u16 b, .int .u8 c, .int .i64 d]) (.agg #[.int .u16 a, .int .u16 b, .int .u8 c, .int .i64 d])).run Tryz.prog w = .ok (.bool false) w := by
  rw [run_neq_struct, show (10000 : Nat) = 9997 + 1 + 1 + 1 from rfl, eqLnN]
  simp
theorem eqlLn (a b c d : Int) (w : World) : (binOp .eql 76 (.agg #[.int .u16 a, .int .u16 b, .int .u8 c, .int .i64 d]) (.agg #[.int .u16 a, .int .u16 b, .int .u8 c, .int .i64 d])).run Tryz.prog w = .ok (.bool true) w := by
  rw [run_eql_struct, show (10000 : Nat) = 9997 + 1 + 1 + 1 from rfl, eqLnN]
  simp
theorem eqMkN (n : Nat) (a b c : Int) (w : World) : (Op.equalIn (n + 1 + 1) 29 (.agg #[.int .i64 a, .int .i64 b, .int .i64 c]) (.agg #[.int .i64 a, .int .i64 b, .int .i64 c])).run Tryz.prog w = .ok true w := by
  have c1 : Tryz.prog.cellsOf 3 = 1 := by kernel_rfl
  have p0 : ∀ W, (part 3 #[.int .i64 a, .int .i64 b, .int .i64 c] 0).run Tryz.prog W = .ok (.int .i64 a) W := fun _ => by kernel_rfl
  have p1 : ∀ W, (part 3 #[.int .i64 a, .int .i64 b, .int .i64 c] 1).run Tryz.prog W = .ok (.int .i64 b) W := fun _ => by kernel_rfl
  have p2 : ∀ W, (part 3 #[.int .i64 a, .int .i64 b, .int .i64 c] 2).run Tryz.prog W = .ok (.int .i64 c) W := fun _ => by kernel_rfl
  have q : ∀ (x : Int) W, (Op.equalIn (n + 1) 3 (.int .i64 x) (.int .i64 x)).run Tryz.prog W = .ok true W := fun x W => by
    rw [run_equalIn_int W n 3 .i64 .i64 x x Tryz.underlying3]; simp
  obtain ⟨i, hi⟩ : ∃ i, Tryz.prog.info? 3 = some i := info_of_underlying Tryz.underlying3
  rw [run_equalIn_array w (n + 1) _ _ Tryz.underlying29 hi, c1, show List.range 3 = [0, 1, 2] from rfl]
  simp [Op.eqItems, p0, p1, p2, q, Result.andThen]
theorem neqMk (a b c : Int) (w : World) : (binOp .neq 29 (.agg #[.int .i64 a, .int .i64 b, .int .i64 c]) (.agg #[.int .i64 a, .int .i64 b, .int .i64 c])).run Tryz.prog w = .ok (.bool false) w := by
  rw [run_neq_struct, show (10000 : Nat) = 9998 + 1 + 1 from rfl, eqMkN]
  simp
theorem eqlMk (a b c : Int) (w : World) : (binOp .eql 29 (.agg #[.int .i64 a, .int .i64 b, .int .i64 c]) (.agg #[.int .i64 a, .int .i64 b, .int .i64 c])).run Tryz.prog w = .ok (.bool true) w := by
  rw [run_eql_struct, show (10000 : Nat) = 9998 + 1 + 1 from rfl, eqMkN]
  simp
theorem eqFtN (n : Nat) (a b c d : Int) (w : World) : (Op.equalIn (n + 1 + 1) 37 (.agg #[.int .i64 a, .int .i64 b]) (.agg #[.int .i64 c, .int .i64 d])).run Tryz.prog w = .ok (a == c && b == d) w := by
  rw [run_equalIn_struct w (n + 1) 37 _ _ (by kernel_rfl) (by kernel_rfl)]
  simp only [Program.fieldsOf, Tryz.underlying37]
  simp only [Op.eqFields]
  go_simp
  by_cases h1 : a = c <;> by_cases h2 : b = d <;> simp [h1, h2]
theorem neqFt (a b c d : Int) (w : World) : (binOp .neq 37 (.agg #[.int .i64 a, .int .i64 b]) (.agg #[.int .i64 c, .int .i64 d])).run Tryz.prog w = .ok (.bool (!(a == c && b == d))) w := by
  rw [run_neq_struct, show (10000 : Nat) = 9998 + 1 + 1 from rfl, eqFtN]
  simp
theorem eqlFt (a b c d : Int) (w : World) : (binOp .eql 37 (.agg #[.int .i64 a, .int .i64 b]) (.agg #[.int .i64 c, .int .i64 d])).run Tryz.prog w = .ok (.bool (a == c && b == d)) w := by
  rw [run_eql_struct, show (10000 : Nat) = 9998 + 1 + 1 from rfl, eqFtN]
  simp
end Go.Proofs.YthlckipcgogogaaGreatDoor
/- The statements' own function same, and plans.Same, of two plans that say the same. -/
namespace Go.Proofs.YthlckipcgogogaaGreatDoor
set_option linter.unusedVariables false
open Go.RowKit

set_option maxRecDepth 100000 in
set_option maxHeartbeats 4000000 in
theorem same_yes (p : Pn) (a : Option Addr) (n c : Nat) (a' : Option Addr) (n' c' : Nat) (b : Option Addr) (c2 : Nat) (b' : Option Addr) (c2' : Nat) (w : World) (hP : PRow w a n c p.P) (hL : LRow w a' n' c' p.L) (hP2 : PRow w b n c2 p.P) (hL2 : LRow w b' n' c2' p.L) :
    Calls Tryz.prog 10 #[planV a n c a' n' c' p, planV b n c2 b' n' c2' p] w fun e w' => e = .returned (.bool true) ∧ Below w.heap.size w w' := by
  obtain ⟨W, hW⟩ : ∃ W, W = w.alloc (.cells (planCells a n c a' n' c' p).toArray 31) := ⟨_, rfl⟩
  have hB : Below w.heap.size w W := by rw [hW]; exact below_alloc _ _
  have hA : PlanAt W w.heap.size a n c a' n' c' p := by rw [hW]; exact PlanAt.new _ _ _ _ _ _ _ _
  have hs : W.heap.size = w.heap.size + 1 := by rw [hW]; exact World.size_alloc w _
  obtain ⟨V, hV⟩ : ∃ V, V = W.alloc (.cells (planCells b n c2 b' n' c2' p).toArray 31) := ⟨_, rfl⟩
  have hBV : Below W.heap.size W V := by rw [hV]; exact below_alloc _ _
  have hA2 : PlanAt V W.heap.size b n c2 b' n' c2' p := by rw [hV]; exact PlanAt.new _ _ _ _ _ _ _ _
  have hA1 := hA.later hBV
  rw [hs] at hA2
  unfold planV
  have hBw := hB.trans (hBV.mono hB.size)
  have HBw := Lib.hid hBw
  have HP := Lib.hid (hP.later hBw)
  have HL := Lib.hid (hL.later hBw)
  have HP2 := Lib.hid (hP2.later hBw)
  have HL2 := Lib.hid (hL2.later hBw)
  have hcap := hP.le
  have hmx := hP.max
  unfold maxLen at hmx
  have hcap' := hL.le
  have hmx' := hL.max
  unfold maxLen at hmx'
  have HN := Lib.hid (show n ≤ 9223372036854775807 ∧ n' ≤ 9223372036854775807 by omega)
  obtain ⟨pa, hpa⟩ : ∃ x, x = w.heap.size := ⟨_, rfl⟩
  obtain ⟨pb, hpb⟩ : ∃ x, x = w.heap.size + 1 := ⟨_, rfl⟩
  rw [← hpb] at hA2
  rw [← hpa] at hA1
  have HA1 := Lib.hid hA1
  have HA2 := Lib.hid hA2
  clear hB hA hBV hA1 hA2 hP hL hP2 hL2 hBw
  go_enter Tryz.func10, Tryz.ntmps10
  go_upto_region 1 with (fail)
  show Code.wp _ _ _ _ ((w.alloc (.cells (planCells a n c a' n' c' p).toArray 31)).alloc (.cells (planCells b n c2 b' n' c2' p).toArray 31))
  rw [← hW, ← hV, ← hpb, ← hpa]
  clear hW hV hs hpa hpb
  obtain ⟨g0, g1, g2, g3, g4, g5, g6⟩ := HA1.out.cells
  obtain ⟨e0, e1, e2, e3, e4, e5, e6⟩ := HA2.out.cells
  have hN := HN.out
  have hmk := neqMk p.m0 p.m1 p.m2
  go_wp2_with fail
  clear g0 g1 g2 g3 g4 g5 g6 e0 e1 e2 e3 e4 e5 e6 hmk
  go_loopw [5] (fun iv wr => ∃ k : Nat, k ≤ n ∧ iv = .int .i64 k ∧ Below V.heap.size V wr) (fun iv _ => n - (RowKit.intOf iv).toNat)
  case atStart => exact ⟨0, Nat.zero_le _, rfl, Below.refl _ _⟩
  case round =>
    obtain ⟨k, hk, rfl, hb⟩ := hrel
    have HB := Lib.hid hb
    obtain ⟨g0, g1, g2, g3, g4, g5, g6⟩ := (HA1.out.later hb).cells
    obtain ⟨e0, e1, e2, e3, e4, e5, e6⟩ := (HA2.out.later hb).cells
    by_cases hkn : k < n
    · obtain ⟨bp, off, rfl, hcs⟩ := (HP.out.later hb).cells.resolve_left (by omega)
      obtain ⟨bq, offq, rfl, hcq⟩ := (HP2.out.later hb).cells.resolve_left (by omega)
      obtain ⟨v1, v2⟩ := hcs k hkn
      obtain ⟨u1, u2⟩ := hcq k hkn
      have hne := neqPl (pc p.P k) (pt p.P k)
      obtain ⟨x, hx⟩ : ∃ x, x = pc p.P k := ⟨_, rfl⟩
      obtain ⟨t, ht⟩ : ∃ x, x = pt p.P k := ⟨_, rfl⟩
      rw [← hx, ← ht] at hne
      rw [← hx] at v1 u1
      rw [← ht] at v2 u2
      have d1 : (k : Int) < n := by omega
      have d2 : (0 : Int) ≤ k := by omega
      have wk : IntKind.i64.wrap ((k : Int) + 1) = (k : Int) + 1 := IntWalk.i64_in _ (by omega)
      have HK := Lib.hid hkn
      have HD : Hid (∀ q, Below V.heap.size V (wr.drewN q)) := Lib.hid (fun q => below_drewN hb q)
      clear hcs hcq hx ht hb hk
      go_wp2_with go_quiet (fail)
      refine ⟨⟨k + 1, by have := HK.out; omega, by go_num, HD.out _⟩, by simp [RowKit.intOf]; have := HK.out; omega⟩
    · obtain rfl : k = n := by omega
      obtain ⟨V1, hV1⟩ : ∃ x, x = wr := ⟨_, rfl⟩
      subst hV1
      clear hb hk hkn
      go_wp2_with fail
      clear g0 g1 g2 g3 g4 g5 g6 e0 e1 e2 e3 e4 e5 e6
      go_loopw [6] (fun iv wr => ∃ j : Nat, j ≤ n' ∧ iv = .int .i64 j ∧ Below V.heap.size V wr) (fun iv _ => n' - (RowKit.intOf iv).toNat)
      case atStart => exact ⟨0, Nat.zero_le _, rfl, HB.out⟩
      case round =>
        obtain ⟨j, hj, rfl, hb⟩ := hrel
        have HB2 := Lib.hid hb
        obtain ⟨g0, g1, g2, g3, g4, g5, g6⟩ := (HA1.out.later hb).cells
        obtain ⟨e0, e1, e2, e3, e4, e5, e6⟩ := (HA2.out.later hb).cells
        by_cases hjn : j < n'
        · obtain ⟨bp, off, rfl, hcs⟩ := (HL.out.later hb).cells.resolve_left (by omega)
          obtain ⟨bq, offq, rfl, hcq⟩ := (HL2.out.later hb).cells.resolve_left (by omega)
          obtain ⟨v1, v2, v3, v4⟩ := hcs j hjn
          obtain ⟨u1, u2, u3, u4⟩ := hcq j hjn
          obtain ⟨x, hx⟩ : ∃ x, x = lnAt p.L j := ⟨_, rfl⟩
          rw [← hx] at v1 v2 v3 v4 u1 u2 u3 u4
          obtain ⟨xA, xB, xC, xD⟩ := x
          simp only at v1 v2 v3 v4 u1 u2 u3 u4
          have hne := neqLn xA xB xC xD
          have d1 : (j : Int) < n' := by omega
          have d2 : (0 : Int) ≤ j := by omega
          have wk : IntKind.i64.wrap ((j : Int) + 1) = (j : Int) + 1 := IntWalk.i64_in _ (by omega)
          have HJ := Lib.hid hjn
          have HD : Hid (∀ q, Below V.heap.size V (wr.drewN q)) := Lib.hid (fun q => below_drewN hb q)
          clear hcs hcq hx hb hj
          go_wp2_with go_quiet (fail)
          refine ⟨⟨j + 1, by have := HJ.out; omega, by go_num, HD.out _⟩, by simp [RowKit.intOf]; have := HJ.out; omega⟩
        · obtain rfl : j = n' := by omega
          clear hb hj hjn
          go_wp2
          go_ret
          exact ⟨rfl, HBw.out.trans (HB2.out.mono HBw.out.size)⟩
/-- The code's closures over two plans in memory. -/
theorem allP_one (p : Pn) (a : Option Addr) (n c : Nat) (a' : Option Addr) (n' c' : Nat) (b : Option Addr) (c2 : Nat) (b' : Option Addr) (c2' : Nat) (pa pb : Nat) (k : Nat) (w : World) (hA : PlanAt w pa a n c a' n' c' p) (hA2 : PlanAt w pb b n c2 b' n' c2' p) (hX : PRow w a n c p.P) (hX2 : PRow w b n c2 p.P) (hk : k < n) (_hmx : n ≤ 9223372036854775807) :
    Calls Tryz.prog 42 #[.int .i64 (k : Int), .pointer (some ⟨pa, 0, none⟩), .pointer (some ⟨pb, 0, none⟩)] w fun e w' => e = .returned (.bool true) ∧ Below w.heap.size w w' := by
  obtain ⟨g0, g1, g2, g3, g4, g5, g6⟩ := hA.cells
  obtain ⟨e0, e1, e2, e3, e4, e5, e6⟩ := hA2.cells
  obtain ⟨bp, off, rfl, hcs⟩ := hX.cells.resolve_left (by omega)
  obtain ⟨bq, offq, rfl, hcq⟩ := hX2.cells.resolve_left (by omega)
  obtain ⟨v1, v2⟩ := hcs k hk
  obtain ⟨u1, u2⟩ := hcq k hk
  have hne := eqlPl (pc p.P k) (pt p.P k)
  obtain ⟨x, hx⟩ : ∃ x, x = pc p.P k := ⟨_, rfl⟩
  obtain ⟨t, ht⟩ : ∃ x, x = pt p.P k := ⟨_, rfl⟩
  rw [← hx, ← ht] at hne
  rw [← hx] at v1 u1
  rw [← ht] at v2 u2
  clear ht
  have d1 : (k : Int) < n := by omega
  have d2 : (0 : Int) ≤ k := by omega
  have HD : Hid (∀ q, Below w.heap.size w (w.drewN q)) := Lib.hid (fun q => below_drewN (Below.refl _ w) q)
  clear hcs hcq hx hA hA2 hX hX2 hk
  go_enter Tryz.func42, Tryz.ntmps42
  go_wp2_with go_quiet (fail)
  go_ret
  exact ⟨rfl, HD.out _⟩
set_option maxHeartbeats 1000000 in
theorem allP_any (p : Pn) (a : Option Addr) (n c : Nat) (a' : Option Addr) (n' c' : Nat) (b : Option Addr) (c2 : Nat) (b' : Option Addr) (c2' : Nat) (pa pb : Nat) (w : World) (hA : PlanAt w pa a n c a' n' c' p) (hA2 : PlanAt w pb b n c2 b' n' c2' p) (hX : PRow w a n c p.P) (hX2 : PRow w b n c2 p.P) (hmx : n ≤ 9223372036854775807) :
    Calls Tryz.prog 44 #[.int .i64 (n : Int), .func (.func 42) #[] #[.pointer (some ⟨pa, 0, none⟩), .pointer (some ⟨pb, 0, none⟩)]] w fun e w' => e = .returned (.bool true) ∧ Below w.heap.size w w' := by
  have HO := Lib.hid (fun (W : World) (hW : Below w.heap.size w W) (k : Nat) (hk : k < n) => allP_one p a n c a' n' c' b c2 b' c2' pa pb k W (hA.later hW) (hA2.later hW) (hX.later hW) (hX2.later hW) hk hmx)
  clear hA hA2 hX hX2
  go_enter Tryz.func44, Tryz.ntmps44
  go_wp2_with fail
  go_loopw [7] (fun iv wr => ∃ k : Nat, k ≤ n ∧ iv = .int .i64 k ∧ Below w.heap.size w wr) (fun iv _ => n - (RowKit.intOf iv).toNat)
  case atStart => exact ⟨0, Nat.zero_le _, rfl, Below.refl _ _⟩
  case round =>
    obtain ⟨k, hk, rfl, hb⟩ := hrel
    have HB := Lib.hid hb
    by_cases hkn : k < n
    · have HC := Lib.hid (HO.out wr hb k hkn)
      have HK := Lib.hid hkn
      have d1 : (k : Int) < n := by omega
      have d2 : (0 : Int) ≤ k := by omega
      have wk : IntKind.i64.wrap ((k : Int) + 1) = (k : Int) + 1 := IntWalk.i64_in _ (by omega)
      clear hb hk
      go_wp2_with fail
      refine HC.out.mono ?_
      rintro e w5 ⟨rfl, hb5⟩
      have HB5 := Lib.hid (HB.out.trans (hb5.mono HB.out.size))
      clear hb5
      go_wp2
      exact ⟨⟨k + 1, by have := HK.out; omega, by go_num, HB5.out⟩, by simp [RowKit.intOf]; have := HK.out; omega⟩
    · obtain rfl : k = n := by omega
      clear hb hk hkn
      go_wp2
      go_ret
      exact ⟨rfl, HB.out⟩
/-- The code's closures over two plans in memory. -/
theorem allL_one (p : Pn) (a : Option Addr) (n c : Nat) (a' : Option Addr) (n' c' : Nat) (b : Option Addr) (c2 : Nat) (b' : Option Addr) (c2' : Nat) (pa pb : Nat) (k : Nat) (w : World) (hA : PlanAt w pa a n c a' n' c' p) (hA2 : PlanAt w pb b n c2 b' n' c2' p) (hX : LRow w a' n' c' p.L) (hX2 : LRow w b' n' c2' p.L) (hk : k < n') (_hmx : n' ≤ 9223372036854775807) :
    Calls Tryz.prog 43 #[.int .i64 (k : Int), .pointer (some ⟨pa, 0, none⟩), .pointer (some ⟨pb, 0, none⟩)] w fun e w' => e = .returned (.bool true) ∧ Below w.heap.size w w' := by
  obtain ⟨g0, g1, g2, g3, g4, g5, g6⟩ := hA.cells
  obtain ⟨e0, e1, e2, e3, e4, e5, e6⟩ := hA2.cells
  obtain ⟨bp, off, rfl, hcs⟩ := hX.cells.resolve_left (by omega)
  obtain ⟨bq, offq, rfl, hcq⟩ := hX2.cells.resolve_left (by omega)
  obtain ⟨v1, v2, v3, v4⟩ := hcs k hk
  obtain ⟨u1, u2, u3, u4⟩ := hcq k hk
  obtain ⟨x, hx⟩ : ∃ x, x = lnAt p.L k := ⟨_, rfl⟩
  rw [← hx] at v1 v2 v3 v4 u1 u2 u3 u4
  obtain ⟨xA, xB, xC, xD⟩ := x
  simp only at v1 v2 v3 v4 u1 u2 u3 u4
  have hne := eqlLn xA xB xC xD
  have d1 : (k : Int) < n' := by omega
  have d2 : (0 : Int) ≤ k := by omega
  have HD : Hid (∀ q, Below w.heap.size w (w.drewN q)) := Lib.hid (fun q => below_drewN (Below.refl _ w) q)
  clear hcs hcq hx hA hA2 hX hX2 hk
  go_enter Tryz.func43, Tryz.ntmps43
  go_wp2_with go_quiet (fail)
  go_ret
  exact ⟨rfl, HD.out _⟩
set_option maxHeartbeats 1000000 in
theorem allL_any (p : Pn) (a : Option Addr) (n c : Nat) (a' : Option Addr) (n' c' : Nat) (b : Option Addr) (c2 : Nat) (b' : Option Addr) (c2' : Nat) (pa pb : Nat) (w : World) (hA : PlanAt w pa a n c a' n' c' p) (hA2 : PlanAt w pb b n c2 b' n' c2' p) (hX : LRow w a' n' c' p.L) (hX2 : LRow w b' n' c2' p.L) (hmx : n' ≤ 9223372036854775807) :
    Calls Tryz.prog 44 #[.int .i64 (n' : Int), .func (.func 43) #[] #[.pointer (some ⟨pa, 0, none⟩), .pointer (some ⟨pb, 0, none⟩)]] w fun e w' => e = .returned (.bool true) ∧ Below w.heap.size w w' := by
  have HO := Lib.hid (fun (W : World) (hW : Below w.heap.size w W) (k : Nat) (hk : k < n') => allL_one p a n c a' n' c' b c2 b' c2' pa pb k W (hA.later hW) (hA2.later hW) (hX.later hW) (hX2.later hW) hk hmx)
  clear hA hA2 hX hX2
  go_enter Tryz.func44, Tryz.ntmps44
  go_wp2_with fail
  go_loopw [7] (fun iv wr => ∃ k : Nat, k ≤ n' ∧ iv = .int .i64 k ∧ Below w.heap.size w wr) (fun iv _ => n' - (RowKit.intOf iv).toNat)
  case atStart => exact ⟨0, Nat.zero_le _, rfl, Below.refl _ _⟩
  case round =>
    obtain ⟨k, hk, rfl, hb⟩ := hrel
    have HB := Lib.hid hb
    by_cases hkn : k < n'
    · have HC := Lib.hid (HO.out wr hb k hkn)
      have HK := Lib.hid hkn
      have d1 : (k : Int) < n' := by omega
      have d2 : (0 : Int) ≤ k := by omega
      have wk : IntKind.i64.wrap ((k : Int) + 1) = (k : Int) + 1 := IntWalk.i64_in _ (by omega)
      clear hb hk
      go_wp2_with fail
      refine HC.out.mono ?_
      rintro e w5 ⟨rfl, hb5⟩
      have HB5 := Lib.hid (HB.out.trans (hb5.mono HB.out.size))
      clear hb5
      go_wp2
      exact ⟨⟨k + 1, by have := HK.out; omega, by go_num, HB5.out⟩, by simp [RowKit.intOf]; have := HK.out; omega⟩
    · obtain rfl : k = n' := by omega
      clear hb hk hkn
      go_wp2
      go_ret
      exact ⟨rfl, HB.out⟩
set_option maxRecDepth 100000 in
set_option maxHeartbeats 4000000 in
theorem Same_yes (p : Pn) (a : Option Addr) (n c : Nat) (a' : Option Addr) (n' c' : Nat) (b : Option Addr) (c2 : Nat) (b' : Option Addr) (c2' : Nat) (w : World) (hP : PRow w a n c p.P) (hL : LRow w a' n' c' p.L) (hP2 : PRow w b n c2 p.P) (hL2 : LRow w b' n' c2' p.L) :
    Calls Tryz.prog 11 #[planV a n c a' n' c' p, planV b n c2 b' n' c2' p] w fun e w' => e = .returned (.bool true) ∧ Below w.heap.size w w' := by
  obtain ⟨W, hW⟩ : ∃ W, W = w.alloc (.cells (planCells a n c a' n' c' p).toArray 31) := ⟨_, rfl⟩
  have hB : Below w.heap.size w W := by rw [hW]; exact below_alloc _ _
  have hA : PlanAt W w.heap.size a n c a' n' c' p := by rw [hW]; exact PlanAt.new _ _ _ _ _ _ _ _
  have hs : W.heap.size = w.heap.size + 1 := by rw [hW]; exact World.size_alloc w _
  obtain ⟨V, hV⟩ : ∃ V, V = W.alloc (.cells (planCells b n c2 b' n' c2' p).toArray 31) := ⟨_, rfl⟩
  have hBV : Below W.heap.size W V := by rw [hV]; exact below_alloc _ _
  have hA2 : PlanAt V W.heap.size b n c2 b' n' c2' p := by rw [hV]; exact PlanAt.new _ _ _ _ _ _ _ _
  have hA1 := hA.later hBV
  rw [hs] at hA2
  unfold planV
  have hBw := hB.trans (hBV.mono hB.size)
  have HBw := Lib.hid hBw
  have HP := Lib.hid (hP.later hBw)
  have HL := Lib.hid (hL.later hBw)
  have HP2 := Lib.hid (hP2.later hBw)
  have HL2 := Lib.hid (hL2.later hBw)
  have hcap := hP.le
  have hmx := hP.max
  unfold maxLen at hmx
  have hcap' := hL.le
  have hmx' := hL.max
  unfold maxLen at hmx'
  have HN := Lib.hid (show n ≤ 9223372036854775807 ∧ n' ≤ 9223372036854775807 by omega)
  obtain ⟨pa, hpa⟩ : ∃ x, x = w.heap.size := ⟨_, rfl⟩
  obtain ⟨pb, hpb⟩ : ∃ x, x = w.heap.size + 1 := ⟨_, rfl⟩
  rw [← hpb] at hA2
  rw [← hpa] at hA1
  have HA1 := Lib.hid hA1
  have HA2 := Lib.hid hA2
  clear hB hA hBV hA1 hA2 hP hL hP2 hL2 hBw
  go_enter Tryz.func11, Tryz.ntmps11
  go_upto_region 1 with (fail)
  show Code.wp _ _ _ _ ((w.alloc (.cells (planCells a n c a' n' c' p).toArray 31)).alloc (.cells (planCells b n c2 b' n' c2' p).toArray 31))
  rw [← hW, ← hV, ← hpb, ← hpa]
  clear hW hV hs hpa hpb
  obtain ⟨g0, g1, g2, g3, g4, g5, g6⟩ := HA1.out.cells
  obtain ⟨e0, e1, e2, e3, e4, e5, e6⟩ := HA2.out.cells
  have hN := HN.out
  have hmk := eqlMk p.m0 p.m1 p.m2
  have HC := Lib.hid (allP_any p a n c a' n' c' b c2 b' c2' pa pb V HA1.out HA2.out HP.out HP2.out hN.1)
  go_wp2_with fail
  refine HC.out.mono ?_
  rintro e w5 ⟨rfl, hb⟩
  have HB := Lib.hid (HBw.out.trans (hb.mono HBw.out.size))
  have HC2 := Lib.hid (allL_any p a n c a' n' c' b c2 b' c2' pa pb w5 (HA1.out.later hb) (HA2.out.later hb) (HL.out.later hb) (HL2.out.later hb) hN.2)
  clear g0 g1 g2 g3 g4 g5 g6 e0 e1 e2 e3 e4 e5 e6
  obtain ⟨g0, g1, g2, g3, g4, g5, g6⟩ := (HA1.out.later hb).cells
  obtain ⟨e0, e1, e2, e3, e4, e5, e6⟩ := (HA2.out.later hb).cells
  clear hb
  go_wp2_with fail
  refine HC2.out.mono ?_
  rintro e w6 ⟨rfl, hb⟩
  have HB6 := Lib.hid (HB.out.trans (hb.mono HB.out.size))
  clear hb
  go_wp2
  go_ret
  exact ⟨rfl, HB6.out⟩
end Go.Proofs.YthlckipcgogogaaGreatDoor
