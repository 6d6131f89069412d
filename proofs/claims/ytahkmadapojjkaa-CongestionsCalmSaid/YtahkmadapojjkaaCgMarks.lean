/- The statements' marks; the reached and the kept level, mark by mark. -/
import Derived.Test.YtahkmadapojjkaaCgLives
namespace Go.Proofs.Ytahkmadapojjkaa
open Go.RowKit Go.Maps

theorem wf8 {x : Int} : (Lit.int .u8 x).wf = true ↔ 0 ≤ x ∧ x ≤ 255 := by
  simp [Lit.wf, IntKind.min, IntKind.max, IntKind.bits, IntKind.signed]
def mkA (x0 : Int) : Int := 1 + x0 % 20
def mkB (x0 x1 : Int) : Int := mkA x0 + 1 + x1 % 20
def mkC (x0 x1 x2 : Int) : Int := mkB x0 x1 + 1 + x2 % 20
theorem mk_ok (x0 x1 x2 : Int) : 1 ≤ mkA x0 ∧ mkA x0 ≤ 20 ∧ mkA x0 < mkB x0 x1 ∧ mkB x0 x1 < mkC x0 x1 x2 ∧ mkC x0 x1 x2 ≤ 60 := by
  unfold mkC mkB mkA; omega
set_option maxHeartbeats 4000000 in
set_option maxRecDepth 100000 in
theorem of_any (x0 x1 x2 : Int) (w : World) (h0 : 0 ≤ x0 ∧ x0 ≤ 255) (h1 : 0 ≤ x1 ∧ x1 ≤ 255) (h2 : 0 ≤ x2 ∧ x2 ≤ 255) :
    Calls Try.prog 10 #[.agg #[.int .u8 x0, .int .u8 x1, .int .u8 x2]] w fun e w' => e = .returned (.agg #[.int .i64 (mkA x0), .int .i64 (mkB x0 x1), .int .i64 (mkC x0 x1 x2)]) ∧ Below w.heap.size w w' := by
  have hm := mk_ok x0 x1 x2
  have hA : mkA x0 = 1 + x0 % 20 := rfl
  have hB : mkB x0 x1 = mkA x0 + 1 + x1 % 20 := rfl
  have hC : mkC x0 x1 x2 = mkB x0 x1 + 1 + x2 % 20 := rfl
  obtain ⟨A, hA0⟩ : ∃ a, a = mkA x0 := ⟨_, rfl⟩
  obtain ⟨B, hB0⟩ : ∃ a, a = mkB x0 x1 := ⟨_, rfl⟩
  obtain ⟨C, hC0⟩ : ∃ a, a = mkC x0 x1 x2 := ⟨_, rfl⟩
  rw [← hA0] at hA hB hm ⊢
  rw [← hB0] at hB hC hm ⊢
  rw [← hC0] at hC hm ⊢
  have t0 : x0.tmod 20 = x0 % 20 := Int.tmod_eq_emod_of_nonneg h0.1
  have t1 : x1.tmod 20 = x1 % 20 := Int.tmod_eq_emod_of_nonneg h1.1
  have t2 : x2.tmod 20 = x2 % 20 := Int.tmod_eq_emod_of_nonneg h2.1
  obtain ⟨r0, hr0⟩ : ∃ r, r = x0 % 20 := ⟨_, rfl⟩
  obtain ⟨r1, hr1⟩ : ∃ r, r = x1 % 20 := ⟨_, rfl⟩
  obtain ⟨r2, hr2⟩ : ∃ r, r = x2 % 20 := ⟨_, rfl⟩
  have b0 : 0 ≤ r0 ∧ r0 < 20 := by omega
  have b1 : 0 ≤ r1 ∧ r1 < 20 := by omega
  have b2 : 0 ≤ r2 ∧ r2 < 20 := by omega
  rw [← hr0] at t0 hA
  rw [← hr1] at t1 hB
  rw [← hr2] at t2 hC
  have u0 : IntKind.u8.wrap r0 = r0 := by simp only [IntKind.wrap_u8]; omega
  have u1 : IntKind.u8.wrap r1 = r1 := by simp only [IntKind.wrap_u8]; omega
  have u2 : IntKind.u8.wrap r2 = r2 := by simp only [IntKind.wrap_u8]; omega
  have i0 : IntKind.i64.wrap r0 = r0 := IntWalk.i64_in _ (by omega)
  have i1 : IntKind.i64.wrap r1 = r1 := IntWalk.i64_in _ (by omega)
  have i2 : IntKind.i64.wrap r2 = r2 := IntWalk.i64_in _ (by omega)
  have j0 : IntKind.i64.wrap (1 + r0) = A := by rw [IntWalk.i64_in _ (by omega), hA]
  have j1 : IntKind.i64.wrap (A + 1) = A + 1 := IntWalk.i64_in _ (by omega)
  have j2 : IntKind.i64.wrap (A + 1 + r1) = B := by rw [IntWalk.i64_in _ (by omega), hB]
  have j3 : IntKind.i64.wrap (B + 1) = B + 1 := IntWalk.i64_in _ (by omega)
  have j4 : IntKind.i64.wrap (B + 1 + r2) = C := by rw [IntWalk.i64_in _ (by omega), hC]
  have HX : Hid (∀ v : World, v = (w.alloc (.cells #[.int .u8 x0, .int .u8 x1, .int .u8 x2] 23)).alloc (.cells #[.int .i64 A, .int .i64 B, .int .i64 C] 26) → Below w.heap.size w v) := Lib.hid (fun v hv => by
    have hx1 := below_alloc w (.cells #[.int .u8 x0, .int .u8 x1, .int .u8 x2] 23)
    rw [hv]; exact hx1.trans ((below_alloc _ _).mono hx1.size))
  clear hm hA hB hC hA0 hB0 hC0 hr0 hr1 hr2 b0 b1 b2 h0 h1 h2
  go_enter Try.func10, Try.ntmps10
  go_wp2
  have hx := HX.out _ rfl
  have ho := heap_alloc_new (w.alloc (.cells #[.int .u8 x0, .int .u8 x1, .int .u8 x2] 23)) (.cells #[.int .i64 A, .int .i64 B, .int .i64 C] 26)
  have hs : (w.alloc (.cells #[.int .u8 x0, .int .u8 x1, .int .u8 x2] 23)).heap.size = w.heap.size + 1 := by simp
  rw [hs] at ho
  generalize (w.alloc (.cells #[.int .u8 x0, .int .u8 x1, .int .u8 x2] 23)).alloc (.cells #[.int .i64 A, .int .i64 B, .int .i64 C] 26) = W at hx ho ⊢
  have hO : Own W (w.heap.size + 1) 26 [.int .i64 A, .int .i64 B, .int .i64 C] := ho
  obtain ⟨c0, c1, c2⟩ : _ ∧ _ ∧ _ := ⟨hO.cell 0 (by simp), hO.cell 1 (by simp), hO.cell 2 (by simp)⟩
  simp only [List.getD_cons_zero, List.getD_cons_succ] at c0 c1 c2
  refine bodyPost_ret (v := .agg #[.int .i64 A, .int .i64 B, .int .i64 C]) (by simp [results, Try.results10, go_sem, c0, c1, c2]) rfl ⟨rfl, hx⟩
/-- The k-th mark. -/
def mk (m : Mt) (k : Nat) : Int := [m.a, m.b, m.c].getD k 0
def rchK (m : Mt) (n : Int) : Nat → Int
  | 0 => 0
  | k + 1 => rchK m n k + bt (decide (mk m k ≤ n))
def keptK (m : Mt) (n : Int) : Nat → Int
  | 0 => 0
  | k + 1 => keptK m n k + bt (decide (mk m k / 2 < n))
theorem rchK_three (m : Mt) (n : Int) : rchK m n 3 = rchd m n := by simp [rchK, rchd, mk]
theorem keptK_three (m : Mt) (n : Int) : keptK m n 3 = kept m n := by simp [keptK, kept, mk]
theorem rchK_bounds (m : Mt) (n : Int) : ∀ k, 0 ≤ rchK m n k ∧ rchK m n k ≤ k
  | 0 => by simp [rchK]
  | k + 1 => by have h1 := rchK_bounds m n k; have h2 := bt_bounds (decide (mk m k ≤ n)); unfold rchK; omega
theorem keptK_bounds (m : Mt) (n : Int) : ∀ k, 0 ≤ keptK m n k ∧ keptK m n k ≤ k
  | 0 => by simp [keptK]
  | k + 1 => by have h1 := keptK_bounds m n k; have h2 := bt_bounds (decide (mk m k / 2 < n)); unfold keptK; omega
theorem bt_le {p q : Prop} [Decidable p] [Decidable q] (h : p → q) : bt (decide p) ≤ bt (decide q) := by
  by_cases hp : p
  · rw [decide_eq_true hp, decide_eq_true (h hp)]; exact Int.le_refl _
  · rw [decide_eq_false hp]; exact (bt_bounds _).1
theorem rchd_kept (m : Mt) (n : Int) (h : 1 ≤ m.a ∧ m.a < m.b ∧ m.b < m.c) : rchd m n ≤ kept m n := by
  have h1 := bt_le (p := m.a ≤ n) (q := m.a / 2 < n) (by omega)
  have h2 := bt_le (p := m.b ≤ n) (q := m.b / 2 < n) (by omega)
  have h3 := bt_le (p := m.c ≤ n) (q := m.c / 2 < n) (by omega)
  unfold rchd kept; omega
theorem next_max (m : Mt) (y : Int) (h : 1 ≤ m.a ∧ m.a < m.b ∧ m.b < m.c) : rchd m (max y 0) = rchd m y ∧ kept m (max y 0) = kept m y := by
  have e : ∀ (p q : Prop) [Decidable p] [Decidable q], (p ↔ q) → bt (decide p) = bt (decide q) := fun p q _ _ h => by rw [decide_eq_decide.2 h]
  constructor
  · unfold rchd
    rw [e (m.a ≤ max y 0) (m.a ≤ y) (by omega), e (m.b ≤ max y 0) (m.b ≤ y) (by omega), e (m.c ≤ max y 0) (m.c ≤ y) (by omega)]
  · unfold kept
    rw [e (m.a / 2 < max y 0) (m.a / 2 < y) (by omega), e (m.b / 2 < max y 0) (m.b / 2 < y) (by omega), e (m.c / 2 < max y 0) (m.c / 2 < y) (by omega)]
theorem next_is (m : Mt) (y n r kk : Int) (h : 1 ≤ m.a ∧ m.a < m.b ∧ m.b < m.c) (hn : n = max y 0) (hr : r = rchd m n) (hk : kk = kept m n) : m.next y = (if m.lev < r then r else if kk < m.lev then kk else m.lev) ∧ r ≤ kk := by
  have h1 := next_max m y h
  have h2 := rchd_kept m y h
  rw [← hn, ← hr, ← hk] at h1
  rw [← h1.1, ← h1.2] at h2
  refine ⟨?_, h2⟩
  unfold Mt.next
  rw [← h1.1, ← h1.2]
  split
  · omega
  · split <;> omega
end Go.Proofs.Ytahkmadapojjkaa
