/- For any bytes as a stream, and any integer with its width and position, the law BitsFields returns true and leaves its arguments as they are. No condition. -/
import Derived.Test.YtjadmhmfjjjcfaaMore
import Derived.ProofKit
import Derived.OpenShut
import Derived.ShutString
import Derived.ChangeOld
import Derived.Lib.SmallJoins
namespace Go.Proofs.Ytjadmhmfjjjcfaa
open Go.RowKit

theorem Row.cut2 {k : IntKind} {w : World} {a : Option Addr} {n c : Nat} {l : List Int} (h : Row k w a n c l) (p m : Nat) (hp : p + m ≤ n) (a' : Option Addr)
    (ha : 0 < m → ∀ b o, a = some ⟨b, o, none⟩ → a' = some ⟨b, o + p, none⟩) (hn' : a' = none → c = p) : Row k w a' m (c - p) ((l.drop p).take m) := by
  obtain ⟨hl, hle, hmx, hw, hc, _⟩ := h
  refine ⟨by rw [List.length_take, List.length_drop]; omega, by omega, by omega, fun x hx => hw x (List.mem_of_mem_drop (List.mem_of_mem_take hx)), ?_, fun h => by have := hn' h; omega⟩
  by_cases hm : 0 < m
  · rcases hc with h0 | ⟨b, o, rfl, hc⟩
    · exact .inl (by omega)
    · refine .inr ⟨b, o + p, ha hm b o rfl, fun i hi => ?_⟩
      rw [Nat.add_assoc, hc (p + i) (by omega)]
      simp [List.getD_eq_getElem?_getD, hi]
  · exact .inl (by omega)
theorem putErr_1 {l : List Int} {v : Int} {m : Nat} (h : errOf l = 0) (hm : m ≤ 64) (hv : v / 2 ^ m ≠ 0) : putErr l v m = 1 := by
  unfold putErr; rw [if_neg (by simp [h]), if_neg (by omega), if_pos (by rw [Int.toNat_natCast]; exact hv)]
theorem putErr_0 {l : List Int} {v : Int} {m : Nat} (h : errOf l = 0) (hm : m ≤ 64) (hv : v / 2 ^ m = 0) (hl : l.length + m ≤ 1048576) : putErr l v m = 0 := by
  unfold putErr; rw [if_neg (by simp [h]), if_neg (by omega), if_neg (by rw [Int.toNat_natCast]; simp [hv]), if_neg (by omega)]
theorem putErr_x {l : List Int} {v m x : Int} (h : errOf l = x) (hx : x ≠ 0) : putErr l v m = x := by unfold putErr; rw [if_pos (by rw [h]; exact hx), h]
theorem putErr_w {l : List Int} {v m : Int} (h : errOf l = 0) (hm : ¬ (0 ≤ m ∧ m ≤ 64)) : putErr l v m = 1 := by unfold putErr; rw [if_neg (by simp [h]), if_pos hm]
theorem getErr_x {l : List Int} {p m x : Int} (h : errOf l = x) (hx : x ≠ 0) : getErr l p m = x := by unfold getErr; rw [if_pos (by rw [h]; exact hx), h]
theorem getErr_w {l : List Int} {p m : Int} (h : errOf l = 0) (hm : ¬ (0 ≤ m ∧ m ≤ 64)) : getErr l p m = 1 := by unfold getErr; rw [if_neg (by simp [h]), if_pos hm]
theorem getErr_1 {l : List Int} {p : Int} {m : Nat} (h : errOf l = 0) (hm : m ≤ 64) (hp : p < 0) : getErr l p m = 1 := by unfold getErr; rw [if_neg (by simp [h]), if_neg (by omega), if_pos hp]
theorem getErr_5 {l : List Int} {p : Int} {m : Nat} (h : errOf l = 0) (hm : m ≤ 64) (hp : 0 ≤ p) (hl : (l.length : Int) - m < p) : getErr l p m = 5 := by
  unfold getErr; rw [if_neg (by simp [h]), if_neg (by omega), if_neg (by omega), if_pos hl]
theorem getErr_0 {l : List Int} {p : Int} {m : Nat} (h : errOf l = 0) (hm : m ≤ 64) (hp : 0 ≤ p) (hl : p + m ≤ l.length) : getErr l p m = 0 := by
  unfold getErr; rw [if_neg (by simp [h]), if_neg (by omega), if_neg (by omega), if_neg (by omega)]

theorem box_cells {w : World} {b t : Nat} {V P M : Int} (h : Own w b t [.int .u64 V, .int .i64 P, .int .i64 M]) :
    w.cell? ⟨b, 0, none⟩ = some (.int .u64 V) ∧ w.cell? ⟨b, 1, none⟩ = some (.int .i64 P) ∧ w.cell? ⟨b, 2, none⟩ = some (.int .i64 M) :=
  ⟨h.cell 0 (by simp), h.cell 1 (by simp), h.cell 2 (by simp)⟩

set_option maxHeartbeats 2000000 in
set_option maxRecDepth 100000 in
theorem fields_a (a : Option Addr) (n c : Nat) (l : List Int) (V P M : Int) (w : World) (h0 : Row .u8 w a n c l) (hV : (Lit.int .u64 V).wf = true) (hP : (Lit.int .i64 P).wf = true) (hM : (Lit.int .i64 M).wf = true) (hn : n ≤ 400) (x : Int) (he : errOf l = x) (hx : x ≠ 0) :
    Calls Try.prog 5 #[.slice a n c, .agg #[.int .u64 V, .int .i64 P, .int .i64 M]] w fun e w' => e = .returned (.bool true) ∧ Below w.heap.size w w' := by
  have hle := h0.le
  have hmx := h0.max
  unfold maxLen at hmx
  have HR := Lib.hid h0
  have hb0 : ¬ (400 : Int) < (n : Int) := by omega
  obtain ⟨w1, hw1⟩ : ∃ x, x = w.alloc (.cells #[.int .u64 V, .int .i64 P, .int .i64 M] 41) := ⟨_, rfl⟩
  have hbw : Below w.heap.size w w1 := by rw [hw1]; exact below_alloc _ _
  have hgs : w.heap.size < w1.heap.size := by rw [hw1, World.size_alloc]; omega
  have ho : Own w1 w.heap.size 41 [.int .u64 V, .int .i64 P, .int .i64 M] := by rw [hw1]; exact heap_alloc_new w _
  obtain ⟨hcV, hcP, hcM⟩ := box_cells ho
  have HBox := Lib.hid ho
  have HBW := Lib.hid hbw
  have H1 := Lib.hid hw1
  obtain ⟨hV0, hV1⟩ := wf_u64.1 hV
  obtain ⟨hP0, hP1⟩ := wf_i64.1 hP
  have HR1 := Lib.hid (h0.later hbw)
  clear h0 hbw ho hw1
  have hxb : (x != 0) = true := by rw [bne_iff_ne]; exact hx
  have hxe : (x == 0) = false := by simpa using hx
  have hxx : (x != x) = false := by simp
  have HX := Lib.hid hx
  have HE := Lib.hid he
  clear hx he
  go_enter Try.func5, Try.ntmps5
  go_wp2_with fail
  rw [← H1.out]
  have hck := refCheck_any a n c l w1 HR1.out
  rw [HE.out] at hck
  refine hck.mono ?_
  rintro e w' ⟨rfl, rfl⟩
  clear hck
  go_wp2_with fail
  refine (put_e a n c l V M x w1 HR1.out hV0 hV1 (putErr_x HE.out HX.out) HX.out).mono ?_
  rintro e w' ⟨rfl, rfl⟩
  go_wp2_with fail
  refine (get_e a n c l P M x w1 HR1.out hP0 hP1 (getErr_x HE.out HX.out) HX.out).mono ?_
  rintro e w' ⟨rfl, rfl⟩
  go_wp2_with fail
  have BL := Lib.hid (Below.refl w1.heap.size w1)
  refine (lives_any _).mono ?_
  rintro e w9 ⟨rfl, hb⟩
  have B9 := Lib.hid (HBW.out.trans ((BL.out.trans (hb.mono BL.out.size)).mono (Nat.le_of_lt hgs)))
  clear hb
  go_wp2
  go_ret
  exact ⟨rfl, B9.out⟩

set_option maxHeartbeats 2000000 in
set_option maxRecDepth 100000 in
theorem fields_b1 (a : Option Addr) (n c : Nat) (l : List Int) (V P M : Int) (w : World) (h0 : Row .u8 w a n c l) (hV : (Lit.int .u64 V).wf = true) (hP : (Lit.int .i64 P).wf = true) (hM : (Lit.int .i64 M).wf = true) (hn : n ≤ 400) (he : errOf l = 0) (hm : M < 0) :
    Calls Try.prog 5 #[.slice a n c, .agg #[.int .u64 V, .int .i64 P, .int .i64 M]] w fun e w' => e = .returned (.bool true) ∧ Below w.heap.size w w' := by
  have hle := h0.le
  have hmx := h0.max
  unfold maxLen at hmx
  have HR := Lib.hid h0
  have hb0 : ¬ (400 : Int) < (n : Int) := by omega
  obtain ⟨w1, hw1⟩ : ∃ x, x = w.alloc (.cells #[.int .u64 V, .int .i64 P, .int .i64 M] 41) := ⟨_, rfl⟩
  have hbw : Below w.heap.size w w1 := by rw [hw1]; exact below_alloc _ _
  have hgs : w.heap.size < w1.heap.size := by rw [hw1, World.size_alloc]; omega
  have ho : Own w1 w.heap.size 41 [.int .u64 V, .int .i64 P, .int .i64 M] := by rw [hw1]; exact heap_alloc_new w _
  obtain ⟨hcV, hcP, hcM⟩ := box_cells ho
  have HBox := Lib.hid ho
  have HBW := Lib.hid hbw
  have H1 := Lib.hid hw1
  obtain ⟨hV0, hV1⟩ := wf_u64.1 hV
  obtain ⟨hP0, hP1⟩ := wf_i64.1 hP
  have HR1 := Lib.hid (h0.later hbw)
  clear h0 hbw ho hw1
  have hbad : ¬ (0 ≤ M ∧ M ≤ 64) := by omega
  have HBad := Lib.hid hbad
  have HE := Lib.hid he
  clear he hbad
  go_enter Try.func5, Try.ntmps5
  go_wp2_with fail
  rw [← H1.out]
  have hck := refCheck_any a n c l w1 HR1.out
  rw [HE.out] at hck
  refine hck.mono ?_
  rintro e w' ⟨rfl, rfl⟩
  clear hck
  go_wp2_with fail
  refine (put_e a n c l V M 1 w1 HR1.out hV0 hV1 (putErr_w HE.out HBad.out) (by decide)).mono ?_
  rintro e w' ⟨rfl, rfl⟩
  go_wp2_with fail
  refine (get_e a n c l P M 1 w1 HR1.out hP0 hP1 (getErr_w HE.out HBad.out) (by decide)).mono ?_
  rintro e w' ⟨rfl, rfl⟩
  go_wp2_with fail
  have BL := Lib.hid (Below.refl w1.heap.size w1)
  refine (lives_any _).mono ?_
  rintro e w9 ⟨rfl, hb⟩
  have B9 := Lib.hid (HBW.out.trans ((BL.out.trans (hb.mono BL.out.size)).mono (Nat.le_of_lt hgs)))
  clear hb
  go_wp2
  go_ret
  exact ⟨rfl, B9.out⟩

set_option maxHeartbeats 2000000 in
set_option maxRecDepth 100000 in
theorem fields_b2 (a : Option Addr) (n c : Nat) (l : List Int) (V P M : Int) (w : World) (h0 : Row .u8 w a n c l) (hV : (Lit.int .u64 V).wf = true) (hP : (Lit.int .i64 P).wf = true) (hM : (Lit.int .i64 M).wf = true) (hn : n ≤ 400) (he : errOf l = 0) (hm : 64 < M) (hm0 : 0 ≤ M) :
    Calls Try.prog 5 #[.slice a n c, .agg #[.int .u64 V, .int .i64 P, .int .i64 M]] w fun e w' => e = .returned (.bool true) ∧ Below w.heap.size w w' := by
  have hle := h0.le
  have hmx := h0.max
  unfold maxLen at hmx
  have HR := Lib.hid h0
  have hb0 : ¬ (400 : Int) < (n : Int) := by omega
  obtain ⟨w1, hw1⟩ : ∃ x, x = w.alloc (.cells #[.int .u64 V, .int .i64 P, .int .i64 M] 41) := ⟨_, rfl⟩
  have hbw : Below w.heap.size w w1 := by rw [hw1]; exact below_alloc _ _
  have hgs : w.heap.size < w1.heap.size := by rw [hw1, World.size_alloc]; omega
  have ho : Own w1 w.heap.size 41 [.int .u64 V, .int .i64 P, .int .i64 M] := by rw [hw1]; exact heap_alloc_new w _
  obtain ⟨hcV, hcP, hcM⟩ := box_cells ho
  have HBox := Lib.hid ho
  have HBW := Lib.hid hbw
  have H1 := Lib.hid hw1
  obtain ⟨hV0, hV1⟩ := wf_u64.1 hV
  obtain ⟨hP0, hP1⟩ := wf_i64.1 hP
  have HR1 := Lib.hid (h0.later hbw)
  clear h0 hbw ho hw1
  have hbad : ¬ (0 ≤ M ∧ M ≤ 64) := by omega
  have HBad := Lib.hid hbad
  have HE := Lib.hid he
  clear he hbad
  go_enter Try.func5, Try.ntmps5
  go_wp2_with fail
  rw [← H1.out]
  have hck := refCheck_any a n c l w1 HR1.out
  rw [HE.out] at hck
  refine hck.mono ?_
  rintro e w' ⟨rfl, rfl⟩
  clear hck
  go_wp2_with fail
  refine (put_e a n c l V M 1 w1 HR1.out hV0 hV1 (putErr_w HE.out HBad.out) (by decide)).mono ?_
  rintro e w' ⟨rfl, rfl⟩
  go_wp2_with fail
  refine (get_e a n c l P M 1 w1 HR1.out hP0 hP1 (getErr_w HE.out HBad.out) (by decide)).mono ?_
  rintro e w' ⟨rfl, rfl⟩
  go_wp2_with fail
  have BL := Lib.hid (Below.refl w1.heap.size w1)
  refine (lives_any _).mono ?_
  rintro e w9 ⟨rfl, hb⟩
  have B9 := Lib.hid (HBW.out.trans ((BL.out.trans (hb.mono BL.out.size)).mono (Nat.le_of_lt hgs)))
  clear hb
  go_wp2
  go_ret
  exact ⟨rfl, B9.out⟩

set_option maxHeartbeats 2000000 in
set_option maxRecDepth 100000 in
theorem fields_c1a (a : Option Addr) (n c : Nat) (l : List Int) (V P M : Int) (w : World) (h0 : Row .u8 w a n c l) (hV : (Lit.int .u64 V).wf = true) (hP : (Lit.int .i64 P).wf = true) (hM : (Lit.int .i64 M).wf = true) (hn : n ≤ 400) (m : Nat) (hm64 : m ≤ 64) (hp : P < 0) (he : errOf l = 0) (hv : V / 2 ^ m ≠ 0) :
    Calls Try.prog 5 #[.slice a n c, .agg #[.int .u64 V, .int .i64 P, .int .i64 (m : Int)]] w fun e w' => e = .returned (.bool true) ∧ Below w.heap.size w w' := by
  have hle := h0.le
  have hmx := h0.max
  unfold maxLen at hmx
  have HR := Lib.hid h0
  have hb0 : ¬ (400 : Int) < (n : Int) := by omega
  obtain ⟨w1, hw1⟩ : ∃ x, x = w.alloc (.cells #[.int .u64 V, .int .i64 P, .int .i64 (m : Int)] 41) := ⟨_, rfl⟩
  have hbw : Below w.heap.size w w1 := by rw [hw1]; exact below_alloc _ _
  have hgs : w.heap.size < w1.heap.size := by rw [hw1, World.size_alloc]; omega
  have ho : Own w1 w.heap.size 41 [.int .u64 V, .int .i64 P, .int .i64 (m : Int)] := by rw [hw1]; exact heap_alloc_new w _
  obtain ⟨hcV, hcP, hcM⟩ := box_cells ho
  have HBox := Lib.hid ho
  have HBW := Lib.hid hbw
  have H1 := Lib.hid hw1
  obtain ⟨hV0, hV1⟩ := wf_u64.1 hV
  obtain ⟨hP0, hP1⟩ := wf_i64.1 hP
  have HR1 := Lib.hid (h0.later hbw)
  clear h0 hbw ho hw1
  have HBits := Lib.hid (errOf_zero he).2
  have HE := Lib.hid he
  have HV := Lib.hid hv
  obtain ⟨i0, hi, hz0, hz1, hz2⟩ := info_parts info8
  have HI := Lib.hid hi
  have HZ0 := Lib.hid hz0
  have HZ1 := Lib.hid hz1
  have HZ2 := Lib.hid hz2
  clear he hv hi hz0 hz1 hz2
  go_enter Try.func5, Try.ntmps5
  go_wp2_with fail
  rw [← H1.out]
  have hck := refCheck_any a n c l w1 HR1.out
  rw [HE.out] at hck
  refine hck.mono ?_
  rintro e w' ⟨rfl, rfl⟩
  clear hck
  go_wp2_with fail
  go_loop [8, 9] (fun v i => ∃ k : Nat, ∃ y : Int, k ≤ m ∧ i = .int .i64 k ∧ v = .int .u64 y ∧ 0 ≤ y ∧ y ≤ 18446744073709551615 ∧ y = V / 2 ^ k) (fun _ i => m - (intOf i).toNat)
  case atStart => exact ⟨0, V, Nat.zero_le _, rfl, rfl, hV0, hV1, by simp⟩
  case round =>
    obtain ⟨k, y, hk, rfl, rfl, hy0, hy1, hy⟩ := hrel
    have HY := Lib.hid hy
    clear hy
    by_cases hlt : k < m
    · go_wp2
      exact ⟨⟨k + 1, y / 2, by omega, by go_num, rfl, by omega, by omega, by rw [HY.out, Int.ediv_ediv_of_nonneg (Int.pow_nonneg (by decide)), Int.pow_succ]⟩, by simp [intOf]; omega⟩
    · obtain rfl : k = m := by omega
      have hpos : 0 < y := by
        have h1 := HY.out
        have h2 := HV.out
        omega
      go_wp2_with fail
      refine (put_e a n c l V k 1 w1 HR1.out hV0 hV1 (putErr_1 HE.out hm64 HV.out) (by decide)).mono ?_
      rintro e w' ⟨rfl, rfl⟩
      go_wp2_with fail
      refine (get_e a n c l P k 1 w1 HR1.out hP0 hP1 (getErr_1 HE.out hm64 hp) (by decide)).mono ?_
      rintro e w' ⟨rfl, rfl⟩
      have BL := Lib.hid (Below.refl w1.heap.size w1)
      go_wp2_with fail
      refine (lives_any _).mono ?_
      rintro e w9 ⟨rfl, hb⟩
      have B9 := Lib.hid (HBW.out.trans ((BL.out.trans (hb.mono BL.out.size)).mono (Nat.le_of_lt hgs)))
      clear hb
      go_wp2
      go_ret
      exact ⟨rfl, B9.out⟩

set_option maxHeartbeats 2000000 in
set_option maxRecDepth 100000 in
theorem fields_c1b1 (a : Option Addr) (n c : Nat) (l : List Int) (V P M : Int) (w : World) (h0 : Row .u8 w a n c l) (hV : (Lit.int .u64 V).wf = true) (hP : (Lit.int .i64 P).wf = true) (hM : (Lit.int .i64 M).wf = true) (hn : n ≤ 400) (m : Nat) (hm64 : m ≤ 64) (hp : 0 ≤ P) (hq : (n : Int) < P) (he : errOf l = 0) (hv : V / 2 ^ m ≠ 0) :
    Calls Try.prog 5 #[.slice a n c, .agg #[.int .u64 V, .int .i64 P, .int .i64 (m : Int)]] w fun e w' => e = .returned (.bool true) ∧ Below w.heap.size w w' := by
  have hle := h0.le
  have hmx := h0.max
  unfold maxLen at hmx
  have HR := Lib.hid h0
  have hb0 : ¬ (400 : Int) < (n : Int) := by omega
  obtain ⟨w1, hw1⟩ : ∃ x, x = w.alloc (.cells #[.int .u64 V, .int .i64 P, .int .i64 (m : Int)] 41) := ⟨_, rfl⟩
  have hbw : Below w.heap.size w w1 := by rw [hw1]; exact below_alloc _ _
  have hgs : w.heap.size < w1.heap.size := by rw [hw1, World.size_alloc]; omega
  have ho : Own w1 w.heap.size 41 [.int .u64 V, .int .i64 P, .int .i64 (m : Int)] := by rw [hw1]; exact heap_alloc_new w _
  obtain ⟨hcV, hcP, hcM⟩ := box_cells ho
  have HBox := Lib.hid ho
  have HBW := Lib.hid hbw
  have H1 := Lib.hid hw1
  obtain ⟨hV0, hV1⟩ := wf_u64.1 hV
  obtain ⟨hP0, hP1⟩ := wf_i64.1 hP
  have HR1 := Lib.hid (h0.later hbw)
  clear h0 hbw ho hw1
  have HBits := Lib.hid (errOf_zero he).2
  have HE := Lib.hid he
  have HV := Lib.hid hv
  obtain ⟨i0, hi, hz0, hz1, hz2⟩ := info_parts info8
  have HI := Lib.hid hi
  have HZ0 := Lib.hid hz0
  have HZ1 := Lib.hid hz1
  have HZ2 := Lib.hid hz2
  clear he hv hi hz0 hz1 hz2
  have hq2 : ¬ P ≤ (n : Int) - (m : Int) := by omega
  go_enter Try.func5, Try.ntmps5
  go_wp2_with fail
  rw [← H1.out]
  have hck := refCheck_any a n c l w1 HR1.out
  rw [HE.out] at hck
  refine hck.mono ?_
  rintro e w' ⟨rfl, rfl⟩
  clear hck
  go_wp2_with fail
  go_loop [8, 9] (fun v i => ∃ k : Nat, ∃ y : Int, k ≤ m ∧ i = .int .i64 k ∧ v = .int .u64 y ∧ 0 ≤ y ∧ y ≤ 18446744073709551615 ∧ y = V / 2 ^ k) (fun _ i => m - (intOf i).toNat)
  case atStart => exact ⟨0, V, Nat.zero_le _, rfl, rfl, hV0, hV1, by simp⟩
  case round =>
    obtain ⟨k, y, hk, rfl, rfl, hy0, hy1, hy⟩ := hrel
    have HY := Lib.hid hy
    clear hy
    by_cases hlt : k < m
    · go_wp2
      exact ⟨⟨k + 1, y / 2, by omega, by go_num, rfl, by omega, by omega, by rw [HY.out, Int.ediv_ediv_of_nonneg (Int.pow_nonneg (by decide)), Int.pow_succ]⟩, by simp [intOf]; omega⟩
    · obtain rfl : k = m := by omega
      have hpos : 0 < y := by
        have h1 := HY.out
        have h2 := HV.out
        omega
      go_wp2_with fail
      refine (put_e a n c l V k 1 w1 HR1.out hV0 hV1 (putErr_1 HE.out hm64 HV.out) (by decide)).mono ?_
      rintro e w' ⟨rfl, rfl⟩
      go_wp2_with fail
      refine (get_e a n c l P k 5 w1 HR1.out hP0 hP1 (getErr_5 HE.out hm64 hp (by rw [HR1.out.len]; omega)) (by decide)).mono ?_
      rintro e w' ⟨rfl, rfl⟩
      have BL := Lib.hid (Below.refl w1.heap.size w1)
      go_wp2_with fail
      refine (lives_any _).mono ?_
      rintro e w9 ⟨rfl, hb⟩
      have B9 := Lib.hid (HBW.out.trans ((BL.out.trans (hb.mono BL.out.size)).mono (Nat.le_of_lt hgs)))
      clear hb
      go_wp2
      go_ret
      exact ⟨rfl, B9.out⟩

set_option maxHeartbeats 2000000 in
set_option maxRecDepth 100000 in
theorem fields_c1b2 (a : Option Addr) (n c : Nat) (l : List Int) (V P M : Int) (w : World) (h0 : Row .u8 w a n c l) (hV : (Lit.int .u64 V).wf = true) (hP : (Lit.int .i64 P).wf = true) (hM : (Lit.int .i64 M).wf = true) (hn : n ≤ 400) (m : Nat) (hm64 : m ≤ 64) (hp : 0 ≤ P) (hq : ¬ (n : Int) < P) (hq2 : (n : Int) - (m : Int) < P) (he : errOf l = 0) (hv : V / 2 ^ m ≠ 0) :
    Calls Try.prog 5 #[.slice a n c, .agg #[.int .u64 V, .int .i64 P, .int .i64 (m : Int)]] w fun e w' => e = .returned (.bool true) ∧ Below w.heap.size w w' := by
  have hle := h0.le
  have hmx := h0.max
  unfold maxLen at hmx
  have HR := Lib.hid h0
  have hb0 : ¬ (400 : Int) < (n : Int) := by omega
  obtain ⟨w1, hw1⟩ : ∃ x, x = w.alloc (.cells #[.int .u64 V, .int .i64 P, .int .i64 (m : Int)] 41) := ⟨_, rfl⟩
  have hbw : Below w.heap.size w w1 := by rw [hw1]; exact below_alloc _ _
  have hgs : w.heap.size < w1.heap.size := by rw [hw1, World.size_alloc]; omega
  have ho : Own w1 w.heap.size 41 [.int .u64 V, .int .i64 P, .int .i64 (m : Int)] := by rw [hw1]; exact heap_alloc_new w _
  obtain ⟨hcV, hcP, hcM⟩ := box_cells ho
  have HBox := Lib.hid ho
  have HBW := Lib.hid hbw
  have H1 := Lib.hid hw1
  obtain ⟨hV0, hV1⟩ := wf_u64.1 hV
  obtain ⟨hP0, hP1⟩ := wf_i64.1 hP
  have HR1 := Lib.hid (h0.later hbw)
  clear h0 hbw ho hw1
  have HBits := Lib.hid (errOf_zero he).2
  have HE := Lib.hid he
  have HV := Lib.hid hv
  obtain ⟨i0, hi, hz0, hz1, hz2⟩ := info_parts info8
  have HI := Lib.hid hi
  have HZ0 := Lib.hid hz0
  have HZ1 := Lib.hid hz1
  have HZ2 := Lib.hid hz2
  clear he hv hi hz0 hz1 hz2
  go_enter Try.func5, Try.ntmps5
  go_wp2_with fail
  rw [← H1.out]
  have hck := refCheck_any a n c l w1 HR1.out
  rw [HE.out] at hck
  refine hck.mono ?_
  rintro e w' ⟨rfl, rfl⟩
  clear hck
  go_wp2_with fail
  go_loop [8, 9] (fun v i => ∃ k : Nat, ∃ y : Int, k ≤ m ∧ i = .int .i64 k ∧ v = .int .u64 y ∧ 0 ≤ y ∧ y ≤ 18446744073709551615 ∧ y = V / 2 ^ k) (fun _ i => m - (intOf i).toNat)
  case atStart => exact ⟨0, V, Nat.zero_le _, rfl, rfl, hV0, hV1, by simp⟩
  case round =>
    obtain ⟨k, y, hk, rfl, rfl, hy0, hy1, hy⟩ := hrel
    have HY := Lib.hid hy
    clear hy
    by_cases hlt : k < m
    · go_wp2
      exact ⟨⟨k + 1, y / 2, by omega, by go_num, rfl, by omega, by omega, by rw [HY.out, Int.ediv_ediv_of_nonneg (Int.pow_nonneg (by decide)), Int.pow_succ]⟩, by simp [intOf]; omega⟩
    · obtain rfl : k = m := by omega
      have hpos : 0 < y := by
        have h1 := HY.out
        have h2 := HV.out
        omega
      go_wp2_with fail
      refine (put_e a n c l V k 1 w1 HR1.out hV0 hV1 (putErr_1 HE.out hm64 HV.out) (by decide)).mono ?_
      rintro e w' ⟨rfl, rfl⟩
      go_wp2_with fail
      refine (get_e a n c l P k 5 w1 HR1.out hP0 hP1 (getErr_5 HE.out hm64 hp (by rw [HR1.out.len]; omega)) (by decide)).mono ?_
      rintro e w' ⟨rfl, rfl⟩
      have BL := Lib.hid (Below.refl w1.heap.size w1)
      go_wp2_with fail
      refine (lives_any _).mono ?_
      rintro e w9 ⟨rfl, hb⟩
      have B9 := Lib.hid (HBW.out.trans ((BL.out.trans (hb.mono BL.out.size)).mono (Nat.le_of_lt hgs)))
      clear hb
      go_wp2
      go_ret
      exact ⟨rfl, B9.out⟩

set_option maxHeartbeats 2000000 in
set_option maxRecDepth 100000 in
theorem fields_c1c (a : Option Addr) (n c : Nat) (l : List Int) (V P M : Int) (w : World) (h0 : Row .u8 w a n c l) (hV : (Lit.int .u64 V).wf = true) (hP : (Lit.int .i64 P).wf = true) (hM : (Lit.int .i64 M).wf = true) (hn : n ≤ 400) (m : Nat) (hm64 : m ≤ 64) (p : Nat) (hpm : p + m ≤ n) (he : errOf l = 0) (hv : V / 2 ^ m ≠ 0) :
    Calls Try.prog 5 #[.slice a n c, .agg #[.int .u64 V, .int .i64 (p : Int), .int .i64 (m : Int)]] w fun e w' => e = .returned (.bool true) ∧ Below w.heap.size w w' := by
  have hle := h0.le
  have hmx := h0.max
  unfold maxLen at hmx
  have HR := Lib.hid h0
  have hb0 : ¬ (400 : Int) < (n : Int) := by omega
  obtain ⟨w1, hw1⟩ : ∃ x, x = w.alloc (.cells #[.int .u64 V, .int .i64 (p : Int), .int .i64 (m : Int)] 41) := ⟨_, rfl⟩
  have hbw : Below w.heap.size w w1 := by rw [hw1]; exact below_alloc _ _
  have hgs : w.heap.size < w1.heap.size := by rw [hw1, World.size_alloc]; omega
  have ho : Own w1 w.heap.size 41 [.int .u64 V, .int .i64 (p : Int), .int .i64 (m : Int)] := by rw [hw1]; exact heap_alloc_new w _
  obtain ⟨hcV, hcP, hcM⟩ := box_cells ho
  have HBox := Lib.hid ho
  have HBW := Lib.hid hbw
  have H1 := Lib.hid hw1
  obtain ⟨hV0, hV1⟩ := wf_u64.1 hV
  obtain ⟨hP0, hP1⟩ := wf_i64.1 hP
  have HR1 := Lib.hid (h0.later hbw)
  clear h0 hbw ho hw1
  have HBits := Lib.hid (errOf_zero he).2
  have HE := Lib.hid he
  have HV := Lib.hid hv
  obtain ⟨i0, hi, hz0, hz1, hz2⟩ := info_parts info8
  have HI := Lib.hid hi
  have HZ0 := Lib.hid hz0
  have HZ1 := Lib.hid hz1
  have HZ2 := Lib.hid hz2
  clear he hv hi hz0 hz1 hz2
  go_enter Try.func5, Try.ntmps5
  go_wp2_with fail
  rw [← H1.out]
  have hck := refCheck_any a n c l w1 HR1.out
  rw [HE.out] at hck
  refine hck.mono ?_
  rintro e w' ⟨rfl, rfl⟩
  clear hck
  go_wp2_with fail
  go_loop [8, 9] (fun v i => ∃ k : Nat, ∃ y : Int, k ≤ m ∧ i = .int .i64 k ∧ v = .int .u64 y ∧ 0 ≤ y ∧ y ≤ 18446744073709551615 ∧ y = V / 2 ^ k) (fun _ i => m - (intOf i).toNat)
  case atStart => exact ⟨0, V, Nat.zero_le _, rfl, rfl, hV0, hV1, by simp⟩
  case round =>
    obtain ⟨k, y, hk, rfl, rfl, hy0, hy1, hy⟩ := hrel
    have HY := Lib.hid hy
    clear hy
    by_cases hlt : k < m
    · go_wp2
      exact ⟨⟨k + 1, y / 2, by omega, by go_num, rfl, by omega, by omega, by rw [HY.out, Int.ediv_ediv_of_nonneg (Int.pow_nonneg (by decide)), Int.pow_succ]⟩, by simp [intOf]; omega⟩
    · obtain rfl : k = m := by omega
      have hpos : 0 < y := by
        have h1 := HY.out
        have h2 := HV.out
        omega
      go_wp2_with fail
      refine (put_e a n c l V k 1 w1 HR1.out hV0 hV1 (putErr_1 HE.out hm64 HV.out) (by decide)).mono ?_
      rintro e w' ⟨rfl, rfl⟩
      go_wp2_with fail
      refine (get_n a n c p k l _ w1 HR1.out (getErr_0 HE.out hm64 (by omega) (by rw [HR1.out.len]; omega)) rfl).mono ?_
      rintro e w' ⟨rfl, rfl⟩
      have BL := Lib.hid (Below.refl w1.heap.size w1)
      rcases HR1.out.cells with h0 | ⟨b, o, rfl, _⟩
      · have hmz : k = 0 := by omega
        have hpz : p = 0 := by omega
        subst hmz hpz h0
        have hl0 : l = [] := List.eq_nil_of_length_eq_zero HR1.out.len
        subst hl0
        rcases a with _ | ⟨b, o, sp⟩
        · have hc0 : c = 0 := HR1.out.isNil rfl
          subst hc0
          go_wp2_with fail
          all_goals
            refine (value_any none 0 0 [] _ (HR1.out.later BL.out) rfl (by omega)).mono ?_
            rintro e w' ⟨rfl, rfl⟩
            have hvv : (val [] == val []) = true := by simp
            go_wp2_with fail
            refine (lives_any _).mono ?_
            rintro e w9 ⟨rfl, hb⟩
            have B9 := Lib.hid (HBW.out.trans ((BL.out.trans (hb.mono BL.out.size)).mono (Nat.le_of_lt hgs)))
            clear hb
            go_wp2
            go_ret
            exact ⟨rfl, B9.out⟩
        · go_wp2_with fail
          all_goals
            refine (value_any (some ⟨b, o, sp⟩) 0 c [] _ (HR1.out.later BL.out) rfl (by omega)).mono ?_
            rintro e w' ⟨rfl, rfl⟩
            have hvv : (val [] == val []) = true := by simp
            go_wp2_with fail
            refine (lives_any _).mono ?_
            rintro e w9 ⟨rfl, hb⟩
            have B9 := Lib.hid (HBW.out.trans ((BL.out.trans (hb.mono BL.out.size)).mono (Nat.le_of_lt hgs)))
            clear hb
            go_wp2
            go_ret
            exact ⟨rfl, B9.out⟩
      · go_wp2_with fail
        · have hcp : c = p := by assumption
          have hr := (HR1.out.later BL.out).cut2 p k (by omega) (some ⟨b, o, none⟩) (fun hh => by omega) (by simp)
          rw [show c - p = 0 by omega] at hr
          have hva := value_any _ _ _ _ _ hr (isBits_take (isBits_drop HBits.out p) k) (by omega)
          have hvv : (val ((l.drop p).take k) == val ((l.drop p).take k)) = true := by simp
          refine hva.mono ?_
          rintro e w' ⟨rfl, rfl⟩
          clear hva hr
          go_wp2_with fail
          refine (lives_any _).mono ?_
          rintro e w9 ⟨rfl, hb⟩
          have B9 := Lib.hid (HBW.out.trans ((BL.out.trans (hb.mono BL.out.size)).mono (Nat.le_of_lt hgs)))
          clear hb
          go_wp2
          go_ret
          exact ⟨rfl, B9.out⟩
        · have hr := (HR1.out.later BL.out).cut2 p k (by omega) (some ⟨b, o + p, none⟩) (fun hh b' o' h' => by simp at h'; simp [h']) (by simp)
          have hva := value_any _ _ _ _ _ hr (isBits_take (isBits_drop HBits.out p) k) (by omega)
          have hvv : (val ((l.drop p).take k) == val ((l.drop p).take k)) = true := by simp
          refine hva.mono ?_
          rintro e w' ⟨rfl, rfl⟩
          clear hva hr
          go_wp2_with fail
          refine (lives_any _).mono ?_
          rintro e w9 ⟨rfl, hb⟩
          have B9 := Lib.hid (HBW.out.trans ((BL.out.trans (hb.mono BL.out.size)).mono (Nat.le_of_lt hgs)))
          clear hb
          go_wp2
          go_ret
          exact ⟨rfl, B9.out⟩

set_option maxHeartbeats 2000000 in
set_option maxRecDepth 100000 in
theorem fields_c0a (a : Option Addr) (n c : Nat) (l : List Int) (V P M : Int) (w : World) (h0 : Row .u8 w a n c l) (hV : (Lit.int .u64 V).wf = true) (hP : (Lit.int .i64 P).wf = true) (hM : (Lit.int .i64 M).wf = true) (hn : n ≤ 400) (m : Nat) (hm64 : m ≤ 64) (hp : P < 0) (he : errOf l = 0) (hv : V / 2 ^ m = 0) :
    Calls Try.prog 5 #[.slice a n c, .agg #[.int .u64 V, .int .i64 P, .int .i64 (m : Int)]] w fun e w' => e = .returned (.bool true) ∧ Below w.heap.size w w' := by
  have hle := h0.le
  have hmx := h0.max
  unfold maxLen at hmx
  have HR := Lib.hid h0
  have hb0 : ¬ (400 : Int) < (n : Int) := by omega
  obtain ⟨w1, hw1⟩ : ∃ x, x = w.alloc (.cells #[.int .u64 V, .int .i64 P, .int .i64 (m : Int)] 41) := ⟨_, rfl⟩
  have hbw : Below w.heap.size w w1 := by rw [hw1]; exact below_alloc _ _
  have hgs : w.heap.size < w1.heap.size := by rw [hw1, World.size_alloc]; omega
  have ho : Own w1 w.heap.size 41 [.int .u64 V, .int .i64 P, .int .i64 (m : Int)] := by rw [hw1]; exact heap_alloc_new w _
  obtain ⟨hcV, hcP, hcM⟩ := box_cells ho
  have HBox := Lib.hid ho
  have HBW := Lib.hid hbw
  have H1 := Lib.hid hw1
  obtain ⟨hV0, hV1⟩ := wf_u64.1 hV
  obtain ⟨hP0, hP1⟩ := wf_i64.1 hP
  have HR1 := Lib.hid (h0.later hbw)
  clear h0 hbw ho hw1
  have HBits := Lib.hid (errOf_zero he).2
  have HE := Lib.hid he
  have HV := Lib.hid hv
  obtain ⟨i0, hi, hz0, hz1, hz2⟩ := info_parts info8
  have HI := Lib.hid hi
  have HZ0 := Lib.hid hz0
  have HZ1 := Lib.hid hz1
  have HZ2 := Lib.hid hz2
  clear he hv hi hz0 hz1 hz2
  go_enter Try.func5, Try.ntmps5
  go_wp2_with fail
  rw [← H1.out]
  have hck := refCheck_any a n c l w1 HR1.out
  rw [HE.out] at hck
  refine hck.mono ?_
  rintro e w' ⟨rfl, rfl⟩
  clear hck
  go_wp2_with fail
  go_loop [8, 9] (fun v i => ∃ k : Nat, ∃ y : Int, k ≤ m ∧ i = .int .i64 k ∧ v = .int .u64 y ∧ 0 ≤ y ∧ y ≤ 18446744073709551615 ∧ y = V / 2 ^ k) (fun _ i => m - (intOf i).toNat)
  case atStart => exact ⟨0, V, Nat.zero_le _, rfl, rfl, hV0, hV1, by simp⟩
  case round =>
    obtain ⟨k, y, hk, rfl, rfl, hy0, hy1, hy⟩ := hrel
    have HY := Lib.hid hy
    clear hy
    by_cases hlt : k < m
    · go_wp2
      exact ⟨⟨k + 1, y / 2, by omega, by go_num, rfl, by omega, by omega, by rw [HY.out, Int.ediv_ediv_of_nonneg (Int.pow_nonneg (by decide)), Int.pow_succ]⟩, by simp [intOf]; omega⟩
    · obtain rfl : k = m := by omega
      have hy00 : y = 0 := by rw [HY.out, HV.out]
      subst hy00
      go_wp2_with fail
      refine (put_n a n c k (n + k) l _ V w1 HR1.out hV0 hV1 (putErr_0 HE.out hm64 HV.out (by rw [HR1.out.len]; omega)) rfl rfl).mono ?_
      rintro e w2 ⟨⟨gp, rfl, rp, _⟩, hb⟩
      have B2 := Lib.hid hb
      have RP := Lib.hid rp
      have hg2 := Nat.lt_of_lt_of_le hgs hb.size
      have HBox2 := Lib.hid (HBox.out.below hb hgs)
      clear hb rp hcV hcP hcM
      obtain ⟨hcV, hcP, hcM⟩ := box_cells HBox2.out
      go_wp2_with fail
      refine (get_e a n c l P k 1 w2 (HR1.out.later B2.out) hP0 hP1 (getErr_1 HE.out hm64 hp) (by decide)).mono ?_
      rintro e w' ⟨rfl, rfl⟩
      have hsz2 := Nat.le_refl w2.heap.size
      go_wp2_with (at_builtin; refine wpList_append_list rfl (.const (.slice none 0 0)) (.tmp 104) 22 rfl w2.heap.size 5 i0 (.int .u8 0) 1 Try.underlying22 HI.out HZ0.out HZ1.out HZ2.out rfl .u8 _ 0 [] rfl (World.ownsRow_nil _ _ _ _) a n c l rfl (HR1.out.later B2.out) ?_ ?_ hsz2 ?_)
      · unfold maxLen; omega
      · omega
      intro v3 w3 hown3 hgrow3
      have hbel3 : Below w2.heap.size w2 w3 := (Below.refl _ _).grown hgrow3 hsz2 (by simp [Value.ownBlock])
      have B3 := Lib.hid hbel3
      have HO3 := Lib.hid hown3
      clear hown3 hgrow3 hbel3 hcV hcP hcM
      obtain ⟨hcV, hcP, hcM⟩ := box_cells (HBox2.out.below B3.out hg2)
      go_wp2_with fail
      clear hcV hcP hcM
      go_loopw [14, 15] (fun v i wr => ∃ j : Nat, j ≤ k ∧ i = .int .i64 j ∧ Below w2.heap.size w2 wr ∧ wr.ownsRow w2.heap.size 5 1 v (n + j) (nums .u8 (l ++ bitsOf V j))) (fun _ i _ => k - (intOf i).toNat)
      case atStart => exact ⟨0, Nat.zero_le _, rfl, B3.out, by simpa [bitsOf] using HO3.out⟩
      case round =>
        obtain ⟨j, hj, rfl, hbel, hown⟩ := hrel
        obtain ⟨hcV, hcP, hcM⟩ := box_cells (HBox2.out.below hbel hg2)
        by_cases hlt : j < k
        · have hbr := bitOf_range V j
          obtain ⟨y, hy⟩ : ∃ y, y = bitOf V j := ⟨_, rfl⟩
          have hbit := bit_any V j wr hV0 hV1 (by omega)
          change Calls _ _ _ _ (fun e w' => e = .returned (.int .u8 (bitOf V j)) ∧ wr = w') at hbit
          rw [← hy] at hbit hbr
          obtain ⟨hy0, hy1⟩ := hbr
          have HY := Lib.hid hy
          have HBit := Lib.hid hbit
          have HO := Lib.hid hown
          have HBel := Lib.hid hbel
          have hsz := hbel.size
          clear hbit hown hbel hy
          go_wp2_with fail
          refine HBit.out.mono ?_
          rintro e w' ⟨rfl, rfl⟩
          go_wp2_with (at_builtin; refine wpList_append_own _ rfl _ _ 22 rfl w2.heap.size 5 i0 (.int .u8 0) 1 1 Try.underlying22 HI.out HZ0.out HZ1.out HZ2.out rfl (by decide) _ _ _ rfl (HO.out.alloc _) ⟨wr.heap.size, 0, none⟩ 1 1 [.int .u8 y] rfl rfl ?c1 ?c2 ?c3 ?c4 ?c5 ?_)
          case c1 => exact cell_one_new wr _ _
          case c2 => intro u hu; simp at hu; subst hu; rfl
          case c3 => unfold maxLen; omega
          case c4 => omega
          case c5 => simp; omega
          · intro v' w4 hown' hgrow _
            have hbel' : Below w2.heap.size w2 w4 := by
              have hb0 : Below w2.heap.size w2 (wr.alloc (Obj.cells #[Value.int IntKind.u8 y] 5)) := HBel.out.alloc hsz _
              exact hb0.grown hgrow (by simp; omega) (fun g hg => (World.ownsRow.lt HO.out g hg).1)
            have HB' := Lib.hid hbel'
            have HO' := Lib.hid hown'
            clear hown' hgrow hbel' hcV hcP hcM
            go_wp2
            refine ⟨⟨j + 1, by omega, by go_num, HB'.out, ?_⟩, by simp [intOf]; omega⟩
            rw [bitsOf_succ, ← HY.out, ← List.append_assoc, nums, List.map_append]
            exact HO'.out
        · obtain rfl : j = k := by omega
          obtain ⟨a5, c5, rfl, r5, _⟩ := ownsRow_rowN .u8 hown (by
            intro z hz
            rcases List.mem_append.1 hz with h1 | h1
            · exact HR1.out.wf z h1
            · exact wf_u8.2 (by have := bitsOf_mem h1; omega))
          have B4 := Lib.hid (B2.out.trans (hbel.mono B2.out.size))
          have RP4 := Lib.hid (RP.out.later hbel)
          have R5 := Lib.hid r5
          have HBox4 := Lib.hid (HBox2.out.below hbel hg2)
          clear hown hbel r5
          go_wp2_with fail
          refine (bytes_yes _ a5 (n + j) (n + j) c5 _ wr RP4.out R5.out).mono ?_
          rintro e w' ⟨rfl, q6, rfl⟩
          have hb6 := below_draw wr q6
          obtain ⟨w6, hw6⟩ : ∃ x, x = wr.drewN q6 := ⟨_, rfl⟩
          rw [← hw6] at hb6 ⊢
          have BL := Lib.hid (B4.out.trans (hb6.mono B4.out.size))
          have HBoxL := Lib.hid (HBox4.out.below hb6 (Nat.lt_of_lt_of_le hgs B4.out.size))
          clear hb6 hw6 B4 RP4 R5 HBox4 hcV hcP hcM
          obtain ⟨hcV, hcP, hcM⟩ := box_cells HBoxL.out
          go_wp2_with fail
          refine (lives_any _).mono ?_
          rintro e w9 ⟨rfl, hb⟩
          have B9 := Lib.hid (HBW.out.trans ((BL.out.trans (hb.mono BL.out.size)).mono (Nat.le_of_lt hgs)))
          clear hb
          go_wp2
          go_ret
          exact ⟨rfl, B9.out⟩

set_option maxHeartbeats 2000000 in
set_option maxRecDepth 100000 in
theorem fields_c0b1 (a : Option Addr) (n c : Nat) (l : List Int) (V P M : Int) (w : World) (h0 : Row .u8 w a n c l) (hV : (Lit.int .u64 V).wf = true) (hP : (Lit.int .i64 P).wf = true) (hM : (Lit.int .i64 M).wf = true) (hn : n ≤ 400) (m : Nat) (hm64 : m ≤ 64) (hp : 0 ≤ P) (hq : (n : Int) < P) (he : errOf l = 0) (hv : V / 2 ^ m = 0) :
    Calls Try.prog 5 #[.slice a n c, .agg #[.int .u64 V, .int .i64 P, .int .i64 (m : Int)]] w fun e w' => e = .returned (.bool true) ∧ Below w.heap.size w w' := by
  have hle := h0.le
  have hmx := h0.max
  unfold maxLen at hmx
  have HR := Lib.hid h0
  have hb0 : ¬ (400 : Int) < (n : Int) := by omega
  obtain ⟨w1, hw1⟩ : ∃ x, x = w.alloc (.cells #[.int .u64 V, .int .i64 P, .int .i64 (m : Int)] 41) := ⟨_, rfl⟩
  have hbw : Below w.heap.size w w1 := by rw [hw1]; exact below_alloc _ _
  have hgs : w.heap.size < w1.heap.size := by rw [hw1, World.size_alloc]; omega
  have ho : Own w1 w.heap.size 41 [.int .u64 V, .int .i64 P, .int .i64 (m : Int)] := by rw [hw1]; exact heap_alloc_new w _
  obtain ⟨hcV, hcP, hcM⟩ := box_cells ho
  have HBox := Lib.hid ho
  have HBW := Lib.hid hbw
  have H1 := Lib.hid hw1
  obtain ⟨hV0, hV1⟩ := wf_u64.1 hV
  obtain ⟨hP0, hP1⟩ := wf_i64.1 hP
  have HR1 := Lib.hid (h0.later hbw)
  clear h0 hbw ho hw1
  have HBits := Lib.hid (errOf_zero he).2
  have HE := Lib.hid he
  have HV := Lib.hid hv
  obtain ⟨i0, hi, hz0, hz1, hz2⟩ := info_parts info8
  have HI := Lib.hid hi
  have HZ0 := Lib.hid hz0
  have HZ1 := Lib.hid hz1
  have HZ2 := Lib.hid hz2
  clear he hv hi hz0 hz1 hz2
  have hq2 : ¬ P ≤ (n : Int) - (m : Int) := by omega
  go_enter Try.func5, Try.ntmps5
  go_wp2_with fail
  rw [← H1.out]
  have hck := refCheck_any a n c l w1 HR1.out
  rw [HE.out] at hck
  refine hck.mono ?_
  rintro e w' ⟨rfl, rfl⟩
  clear hck
  go_wp2_with fail
  go_loop [8, 9] (fun v i => ∃ k : Nat, ∃ y : Int, k ≤ m ∧ i = .int .i64 k ∧ v = .int .u64 y ∧ 0 ≤ y ∧ y ≤ 18446744073709551615 ∧ y = V / 2 ^ k) (fun _ i => m - (intOf i).toNat)
  case atStart => exact ⟨0, V, Nat.zero_le _, rfl, rfl, hV0, hV1, by simp⟩
  case round =>
    obtain ⟨k, y, hk, rfl, rfl, hy0, hy1, hy⟩ := hrel
    have HY := Lib.hid hy
    clear hy
    by_cases hlt : k < m
    · go_wp2
      exact ⟨⟨k + 1, y / 2, by omega, by go_num, rfl, by omega, by omega, by rw [HY.out, Int.ediv_ediv_of_nonneg (Int.pow_nonneg (by decide)), Int.pow_succ]⟩, by simp [intOf]; omega⟩
    · obtain rfl : k = m := by omega
      have hy00 : y = 0 := by rw [HY.out, HV.out]
      subst hy00
      go_wp2_with fail
      refine (put_n a n c k (n + k) l _ V w1 HR1.out hV0 hV1 (putErr_0 HE.out hm64 HV.out (by rw [HR1.out.len]; omega)) rfl rfl).mono ?_
      rintro e w2 ⟨⟨gp, rfl, rp, _⟩, hb⟩
      have B2 := Lib.hid hb
      have RP := Lib.hid rp
      have hg2 := Nat.lt_of_lt_of_le hgs hb.size
      have HBox2 := Lib.hid (HBox.out.below hb hgs)
      clear hb rp hcV hcP hcM
      obtain ⟨hcV, hcP, hcM⟩ := box_cells HBox2.out
      go_wp2_with fail
      refine (get_e a n c l P k 5 w2 (HR1.out.later B2.out) hP0 hP1 (getErr_5 HE.out hm64 hp (by rw [HR1.out.len]; omega)) (by decide)).mono ?_
      rintro e w' ⟨rfl, rfl⟩
      have hsz2 := Nat.le_refl w2.heap.size
      go_wp2_with (at_builtin; refine wpList_append_list rfl (.const (.slice none 0 0)) (.tmp 104) 22 rfl w2.heap.size 5 i0 (.int .u8 0) 1 Try.underlying22 HI.out HZ0.out HZ1.out HZ2.out rfl .u8 _ 0 [] rfl (World.ownsRow_nil _ _ _ _) a n c l rfl (HR1.out.later B2.out) ?_ ?_ hsz2 ?_)
      · unfold maxLen; omega
      · omega
      intro v3 w3 hown3 hgrow3
      have hbel3 : Below w2.heap.size w2 w3 := (Below.refl _ _).grown hgrow3 hsz2 (by simp [Value.ownBlock])
      have B3 := Lib.hid hbel3
      have HO3 := Lib.hid hown3
      clear hown3 hgrow3 hbel3 hcV hcP hcM
      obtain ⟨hcV, hcP, hcM⟩ := box_cells (HBox2.out.below B3.out hg2)
      go_wp2_with fail
      clear hcV hcP hcM
      go_loopw [14, 15] (fun v i wr => ∃ j : Nat, j ≤ k ∧ i = .int .i64 j ∧ Below w2.heap.size w2 wr ∧ wr.ownsRow w2.heap.size 5 1 v (n + j) (nums .u8 (l ++ bitsOf V j))) (fun _ i _ => k - (intOf i).toNat)
      case atStart => exact ⟨0, Nat.zero_le _, rfl, B3.out, by simpa [bitsOf] using HO3.out⟩
      case round =>
        obtain ⟨j, hj, rfl, hbel, hown⟩ := hrel
        obtain ⟨hcV, hcP, hcM⟩ := box_cells (HBox2.out.below hbel hg2)
        by_cases hlt : j < k
        · have hbr := bitOf_range V j
          obtain ⟨y, hy⟩ : ∃ y, y = bitOf V j := ⟨_, rfl⟩
          have hbit := bit_any V j wr hV0 hV1 (by omega)
          change Calls _ _ _ _ (fun e w' => e = .returned (.int .u8 (bitOf V j)) ∧ wr = w') at hbit
          rw [← hy] at hbit hbr
          obtain ⟨hy0, hy1⟩ := hbr
          have HY := Lib.hid hy
          have HBit := Lib.hid hbit
          have HO := Lib.hid hown
          have HBel := Lib.hid hbel
          have hsz := hbel.size
          clear hbit hown hbel hy
          go_wp2_with fail
          refine HBit.out.mono ?_
          rintro e w' ⟨rfl, rfl⟩
          go_wp2_with (at_builtin; refine wpList_append_own _ rfl _ _ 22 rfl w2.heap.size 5 i0 (.int .u8 0) 1 1 Try.underlying22 HI.out HZ0.out HZ1.out HZ2.out rfl (by decide) _ _ _ rfl (HO.out.alloc _) ⟨wr.heap.size, 0, none⟩ 1 1 [.int .u8 y] rfl rfl ?c1 ?c2 ?c3 ?c4 ?c5 ?_)
          case c1 => exact cell_one_new wr _ _
          case c2 => intro u hu; simp at hu; subst hu; rfl
          case c3 => unfold maxLen; omega
          case c4 => omega
          case c5 => simp; omega
          · intro v' w4 hown' hgrow _
            have hbel' : Below w2.heap.size w2 w4 := by
              have hb0 : Below w2.heap.size w2 (wr.alloc (Obj.cells #[Value.int IntKind.u8 y] 5)) := HBel.out.alloc hsz _
              exact hb0.grown hgrow (by simp; omega) (fun g hg => (World.ownsRow.lt HO.out g hg).1)
            have HB' := Lib.hid hbel'
            have HO' := Lib.hid hown'
            clear hown' hgrow hbel' hcV hcP hcM
            go_wp2
            refine ⟨⟨j + 1, by omega, by go_num, HB'.out, ?_⟩, by simp [intOf]; omega⟩
            rw [bitsOf_succ, ← HY.out, ← List.append_assoc, nums, List.map_append]
            exact HO'.out
        · obtain rfl : j = k := by omega
          obtain ⟨a5, c5, rfl, r5, _⟩ := ownsRow_rowN .u8 hown (by
            intro z hz
            rcases List.mem_append.1 hz with h1 | h1
            · exact HR1.out.wf z h1
            · exact wf_u8.2 (by have := bitsOf_mem h1; omega))
          have B4 := Lib.hid (B2.out.trans (hbel.mono B2.out.size))
          have RP4 := Lib.hid (RP.out.later hbel)
          have R5 := Lib.hid r5
          have HBox4 := Lib.hid (HBox2.out.below hbel hg2)
          clear hown hbel r5
          go_wp2_with fail
          refine (bytes_yes _ a5 (n + j) (n + j) c5 _ wr RP4.out R5.out).mono ?_
          rintro e w' ⟨rfl, q6, rfl⟩
          have hb6 := below_draw wr q6
          obtain ⟨w6, hw6⟩ : ∃ x, x = wr.drewN q6 := ⟨_, rfl⟩
          rw [← hw6] at hb6 ⊢
          have BL := Lib.hid (B4.out.trans (hb6.mono B4.out.size))
          have HBoxL := Lib.hid (HBox4.out.below hb6 (Nat.lt_of_lt_of_le hgs B4.out.size))
          clear hb6 hw6 B4 RP4 R5 HBox4 hcV hcP hcM
          obtain ⟨hcV, hcP, hcM⟩ := box_cells HBoxL.out
          go_wp2_with fail
          refine (lives_any _).mono ?_
          rintro e w9 ⟨rfl, hb⟩
          have B9 := Lib.hid (HBW.out.trans ((BL.out.trans (hb.mono BL.out.size)).mono (Nat.le_of_lt hgs)))
          clear hb
          go_wp2
          go_ret
          exact ⟨rfl, B9.out⟩

set_option maxHeartbeats 2000000 in
set_option maxRecDepth 100000 in
theorem fields_c0b2 (a : Option Addr) (n c : Nat) (l : List Int) (V P M : Int) (w : World) (h0 : Row .u8 w a n c l) (hV : (Lit.int .u64 V).wf = true) (hP : (Lit.int .i64 P).wf = true) (hM : (Lit.int .i64 M).wf = true) (hn : n ≤ 400) (m : Nat) (hm64 : m ≤ 64) (hp : 0 ≤ P) (hq : ¬ (n : Int) < P) (hq2 : (n : Int) - (m : Int) < P) (he : errOf l = 0) (hv : V / 2 ^ m = 0) :
    Calls Try.prog 5 #[.slice a n c, .agg #[.int .u64 V, .int .i64 P, .int .i64 (m : Int)]] w fun e w' => e = .returned (.bool true) ∧ Below w.heap.size w w' := by
  have hle := h0.le
  have hmx := h0.max
  unfold maxLen at hmx
  have HR := Lib.hid h0
  have hb0 : ¬ (400 : Int) < (n : Int) := by omega
  obtain ⟨w1, hw1⟩ : ∃ x, x = w.alloc (.cells #[.int .u64 V, .int .i64 P, .int .i64 (m : Int)] 41) := ⟨_, rfl⟩
  have hbw : Below w.heap.size w w1 := by rw [hw1]; exact below_alloc _ _
  have hgs : w.heap.size < w1.heap.size := by rw [hw1, World.size_alloc]; omega
  have ho : Own w1 w.heap.size 41 [.int .u64 V, .int .i64 P, .int .i64 (m : Int)] := by rw [hw1]; exact heap_alloc_new w _
  obtain ⟨hcV, hcP, hcM⟩ := box_cells ho
  have HBox := Lib.hid ho
  have HBW := Lib.hid hbw
  have H1 := Lib.hid hw1
  obtain ⟨hV0, hV1⟩ := wf_u64.1 hV
  obtain ⟨hP0, hP1⟩ := wf_i64.1 hP
  have HR1 := Lib.hid (h0.later hbw)
  clear h0 hbw ho hw1
  have HBits := Lib.hid (errOf_zero he).2
  have HE := Lib.hid he
  have HV := Lib.hid hv
  obtain ⟨i0, hi, hz0, hz1, hz2⟩ := info_parts info8
  have HI := Lib.hid hi
  have HZ0 := Lib.hid hz0
  have HZ1 := Lib.hid hz1
  have HZ2 := Lib.hid hz2
  clear he hv hi hz0 hz1 hz2
  go_enter Try.func5, Try.ntmps5
  go_wp2_with fail
  rw [← H1.out]
  have hck := refCheck_any a n c l w1 HR1.out
  rw [HE.out] at hck
  refine hck.mono ?_
  rintro e w' ⟨rfl, rfl⟩
  clear hck
  go_wp2_with fail
  go_loop [8, 9] (fun v i => ∃ k : Nat, ∃ y : Int, k ≤ m ∧ i = .int .i64 k ∧ v = .int .u64 y ∧ 0 ≤ y ∧ y ≤ 18446744073709551615 ∧ y = V / 2 ^ k) (fun _ i => m - (intOf i).toNat)
  case atStart => exact ⟨0, V, Nat.zero_le _, rfl, rfl, hV0, hV1, by simp⟩
  case round =>
    obtain ⟨k, y, hk, rfl, rfl, hy0, hy1, hy⟩ := hrel
    have HY := Lib.hid hy
    clear hy
    by_cases hlt : k < m
    · go_wp2
      exact ⟨⟨k + 1, y / 2, by omega, by go_num, rfl, by omega, by omega, by rw [HY.out, Int.ediv_ediv_of_nonneg (Int.pow_nonneg (by decide)), Int.pow_succ]⟩, by simp [intOf]; omega⟩
    · obtain rfl : k = m := by omega
      have hy00 : y = 0 := by rw [HY.out, HV.out]
      subst hy00
      go_wp2_with fail
      refine (put_n a n c k (n + k) l _ V w1 HR1.out hV0 hV1 (putErr_0 HE.out hm64 HV.out (by rw [HR1.out.len]; omega)) rfl rfl).mono ?_
      rintro e w2 ⟨⟨gp, rfl, rp, _⟩, hb⟩
      have B2 := Lib.hid hb
      have RP := Lib.hid rp
      have hg2 := Nat.lt_of_lt_of_le hgs hb.size
      have HBox2 := Lib.hid (HBox.out.below hb hgs)
      clear hb rp hcV hcP hcM
      obtain ⟨hcV, hcP, hcM⟩ := box_cells HBox2.out
      go_wp2_with fail
      refine (get_e a n c l P k 5 w2 (HR1.out.later B2.out) hP0 hP1 (getErr_5 HE.out hm64 hp (by rw [HR1.out.len]; omega)) (by decide)).mono ?_
      rintro e w' ⟨rfl, rfl⟩
      have hsz2 := Nat.le_refl w2.heap.size
      go_wp2_with (at_builtin; refine wpList_append_list rfl (.const (.slice none 0 0)) (.tmp 104) 22 rfl w2.heap.size 5 i0 (.int .u8 0) 1 Try.underlying22 HI.out HZ0.out HZ1.out HZ2.out rfl .u8 _ 0 [] rfl (World.ownsRow_nil _ _ _ _) a n c l rfl (HR1.out.later B2.out) ?_ ?_ hsz2 ?_)
      · unfold maxLen; omega
      · omega
      intro v3 w3 hown3 hgrow3
      have hbel3 : Below w2.heap.size w2 w3 := (Below.refl _ _).grown hgrow3 hsz2 (by simp [Value.ownBlock])
      have B3 := Lib.hid hbel3
      have HO3 := Lib.hid hown3
      clear hown3 hgrow3 hbel3 hcV hcP hcM
      obtain ⟨hcV, hcP, hcM⟩ := box_cells (HBox2.out.below B3.out hg2)
      go_wp2_with fail
      clear hcV hcP hcM
      go_loopw [14, 15] (fun v i wr => ∃ j : Nat, j ≤ k ∧ i = .int .i64 j ∧ Below w2.heap.size w2 wr ∧ wr.ownsRow w2.heap.size 5 1 v (n + j) (nums .u8 (l ++ bitsOf V j))) (fun _ i _ => k - (intOf i).toNat)
      case atStart => exact ⟨0, Nat.zero_le _, rfl, B3.out, by simpa [bitsOf] using HO3.out⟩
      case round =>
        obtain ⟨j, hj, rfl, hbel, hown⟩ := hrel
        obtain ⟨hcV, hcP, hcM⟩ := box_cells (HBox2.out.below hbel hg2)
        by_cases hlt : j < k
        · have hbr := bitOf_range V j
          obtain ⟨y, hy⟩ : ∃ y, y = bitOf V j := ⟨_, rfl⟩
          have hbit := bit_any V j wr hV0 hV1 (by omega)
          change Calls _ _ _ _ (fun e w' => e = .returned (.int .u8 (bitOf V j)) ∧ wr = w') at hbit
          rw [← hy] at hbit hbr
          obtain ⟨hy0, hy1⟩ := hbr
          have HY := Lib.hid hy
          have HBit := Lib.hid hbit
          have HO := Lib.hid hown
          have HBel := Lib.hid hbel
          have hsz := hbel.size
          clear hbit hown hbel hy
          go_wp2_with fail
          refine HBit.out.mono ?_
          rintro e w' ⟨rfl, rfl⟩
          go_wp2_with (at_builtin; refine wpList_append_own _ rfl _ _ 22 rfl w2.heap.size 5 i0 (.int .u8 0) 1 1 Try.underlying22 HI.out HZ0.out HZ1.out HZ2.out rfl (by decide) _ _ _ rfl (HO.out.alloc _) ⟨wr.heap.size, 0, none⟩ 1 1 [.int .u8 y] rfl rfl ?c1 ?c2 ?c3 ?c4 ?c5 ?_)
          case c1 => exact cell_one_new wr _ _
          case c2 => intro u hu; simp at hu; subst hu; rfl
          case c3 => unfold maxLen; omega
          case c4 => omega
          case c5 => simp; omega
          · intro v' w4 hown' hgrow _
            have hbel' : Below w2.heap.size w2 w4 := by
              have hb0 : Below w2.heap.size w2 (wr.alloc (Obj.cells #[Value.int IntKind.u8 y] 5)) := HBel.out.alloc hsz _
              exact hb0.grown hgrow (by simp; omega) (fun g hg => (World.ownsRow.lt HO.out g hg).1)
            have HB' := Lib.hid hbel'
            have HO' := Lib.hid hown'
            clear hown' hgrow hbel' hcV hcP hcM
            go_wp2
            refine ⟨⟨j + 1, by omega, by go_num, HB'.out, ?_⟩, by simp [intOf]; omega⟩
            rw [bitsOf_succ, ← HY.out, ← List.append_assoc, nums, List.map_append]
            exact HO'.out
        · obtain rfl : j = k := by omega
          obtain ⟨a5, c5, rfl, r5, _⟩ := ownsRow_rowN .u8 hown (by
            intro z hz
            rcases List.mem_append.1 hz with h1 | h1
            · exact HR1.out.wf z h1
            · exact wf_u8.2 (by have := bitsOf_mem h1; omega))
          have B4 := Lib.hid (B2.out.trans (hbel.mono B2.out.size))
          have RP4 := Lib.hid (RP.out.later hbel)
          have R5 := Lib.hid r5
          have HBox4 := Lib.hid (HBox2.out.below hbel hg2)
          clear hown hbel r5
          go_wp2_with fail
          refine (bytes_yes _ a5 (n + j) (n + j) c5 _ wr RP4.out R5.out).mono ?_
          rintro e w' ⟨rfl, q6, rfl⟩
          have hb6 := below_draw wr q6
          obtain ⟨w6, hw6⟩ : ∃ x, x = wr.drewN q6 := ⟨_, rfl⟩
          rw [← hw6] at hb6 ⊢
          have BL := Lib.hid (B4.out.trans (hb6.mono B4.out.size))
          have HBoxL := Lib.hid (HBox4.out.below hb6 (Nat.lt_of_lt_of_le hgs B4.out.size))
          clear hb6 hw6 B4 RP4 R5 HBox4 hcV hcP hcM
          obtain ⟨hcV, hcP, hcM⟩ := box_cells HBoxL.out
          go_wp2_with fail
          refine (lives_any _).mono ?_
          rintro e w9 ⟨rfl, hb⟩
          have B9 := Lib.hid (HBW.out.trans ((BL.out.trans (hb.mono BL.out.size)).mono (Nat.le_of_lt hgs)))
          clear hb
          go_wp2
          go_ret
          exact ⟨rfl, B9.out⟩

set_option maxHeartbeats 2000000 in
set_option maxRecDepth 100000 in
theorem fields_c0c (a : Option Addr) (n c : Nat) (l : List Int) (V P M : Int) (w : World) (h0 : Row .u8 w a n c l) (hV : (Lit.int .u64 V).wf = true) (hP : (Lit.int .i64 P).wf = true) (hM : (Lit.int .i64 M).wf = true) (hn : n ≤ 400) (m : Nat) (hm64 : m ≤ 64) (p : Nat) (hpm : p + m ≤ n) (he : errOf l = 0) (hv : V / 2 ^ m = 0) :
    Calls Try.prog 5 #[.slice a n c, .agg #[.int .u64 V, .int .i64 (p : Int), .int .i64 (m : Int)]] w fun e w' => e = .returned (.bool true) ∧ Below w.heap.size w w' := by
  have hle := h0.le
  have hmx := h0.max
  unfold maxLen at hmx
  have HR := Lib.hid h0
  have hb0 : ¬ (400 : Int) < (n : Int) := by omega
  obtain ⟨w1, hw1⟩ : ∃ x, x = w.alloc (.cells #[.int .u64 V, .int .i64 (p : Int), .int .i64 (m : Int)] 41) := ⟨_, rfl⟩
  have hbw : Below w.heap.size w w1 := by rw [hw1]; exact below_alloc _ _
  have hgs : w.heap.size < w1.heap.size := by rw [hw1, World.size_alloc]; omega
  have ho : Own w1 w.heap.size 41 [.int .u64 V, .int .i64 (p : Int), .int .i64 (m : Int)] := by rw [hw1]; exact heap_alloc_new w _
  obtain ⟨hcV, hcP, hcM⟩ := box_cells ho
  have HBox := Lib.hid ho
  have HBW := Lib.hid hbw
  have H1 := Lib.hid hw1
  obtain ⟨hV0, hV1⟩ := wf_u64.1 hV
  obtain ⟨hP0, hP1⟩ := wf_i64.1 hP
  have HR1 := Lib.hid (h0.later hbw)
  clear h0 hbw ho hw1
  have HBits := Lib.hid (errOf_zero he).2
  have HE := Lib.hid he
  have HV := Lib.hid hv
  obtain ⟨i0, hi, hz0, hz1, hz2⟩ := info_parts info8
  have HI := Lib.hid hi
  have HZ0 := Lib.hid hz0
  have HZ1 := Lib.hid hz1
  have HZ2 := Lib.hid hz2
  clear he hv hi hz0 hz1 hz2
  go_enter Try.func5, Try.ntmps5
  go_wp2_with fail
  rw [← H1.out]
  have hck := refCheck_any a n c l w1 HR1.out
  rw [HE.out] at hck
  refine hck.mono ?_
  rintro e w' ⟨rfl, rfl⟩
  clear hck
  go_wp2_with fail
  go_loop [8, 9] (fun v i => ∃ k : Nat, ∃ y : Int, k ≤ m ∧ i = .int .i64 k ∧ v = .int .u64 y ∧ 0 ≤ y ∧ y ≤ 18446744073709551615 ∧ y = V / 2 ^ k) (fun _ i => m - (intOf i).toNat)
  case atStart => exact ⟨0, V, Nat.zero_le _, rfl, rfl, hV0, hV1, by simp⟩
  case round =>
    obtain ⟨k, y, hk, rfl, rfl, hy0, hy1, hy⟩ := hrel
    have HY := Lib.hid hy
    clear hy
    by_cases hlt : k < m
    · go_wp2
      exact ⟨⟨k + 1, y / 2, by omega, by go_num, rfl, by omega, by omega, by rw [HY.out, Int.ediv_ediv_of_nonneg (Int.pow_nonneg (by decide)), Int.pow_succ]⟩, by simp [intOf]; omega⟩
    · obtain rfl : k = m := by omega
      have hy00 : y = 0 := by rw [HY.out, HV.out]
      subst hy00
      go_wp2_with fail
      refine (put_n a n c k (n + k) l _ V w1 HR1.out hV0 hV1 (putErr_0 HE.out hm64 HV.out (by rw [HR1.out.len]; omega)) rfl rfl).mono ?_
      rintro e w2 ⟨⟨gp, rfl, rp, _⟩, hb⟩
      have B2 := Lib.hid hb
      have RP := Lib.hid rp
      have hg2 := Nat.lt_of_lt_of_le hgs hb.size
      have HBox2 := Lib.hid (HBox.out.below hb hgs)
      clear hb rp hcV hcP hcM
      obtain ⟨hcV, hcP, hcM⟩ := box_cells HBox2.out
      go_wp2_with fail
      refine (get_n a n c p k l _ w2 (HR1.out.later B2.out) (getErr_0 HE.out hm64 (by omega) (by rw [HR1.out.len]; omega)) rfl).mono ?_
      rintro e w' ⟨rfl, rfl⟩
      have hsz2 := Nat.le_refl w2.heap.size
      go_wp2_with (at_builtin; refine wpList_append_list rfl (.const (.slice none 0 0)) (.tmp 104) 22 rfl w2.heap.size 5 i0 (.int .u8 0) 1 Try.underlying22 HI.out HZ0.out HZ1.out HZ2.out rfl .u8 _ 0 [] rfl (World.ownsRow_nil _ _ _ _) a n c l rfl (HR1.out.later B2.out) ?_ ?_ hsz2 ?_)
      · unfold maxLen; omega
      · omega
      intro v3 w3 hown3 hgrow3
      have hbel3 : Below w2.heap.size w2 w3 := (Below.refl _ _).grown hgrow3 hsz2 (by simp [Value.ownBlock])
      have B3 := Lib.hid hbel3
      have HO3 := Lib.hid hown3
      clear hown3 hgrow3 hbel3 hcV hcP hcM
      obtain ⟨hcV, hcP, hcM⟩ := box_cells (HBox2.out.below B3.out hg2)
      go_wp2_with fail
      clear hcV hcP hcM
      go_loopw [14, 15] (fun v i wr => ∃ j : Nat, j ≤ k ∧ i = .int .i64 j ∧ Below w2.heap.size w2 wr ∧ wr.ownsRow w2.heap.size 5 1 v (n + j) (nums .u8 (l ++ bitsOf V j))) (fun _ i _ => k - (intOf i).toNat)
      case atStart => exact ⟨0, Nat.zero_le _, rfl, B3.out, by simpa [bitsOf] using HO3.out⟩
      case round =>
        obtain ⟨j, hj, rfl, hbel, hown⟩ := hrel
        obtain ⟨hcV, hcP, hcM⟩ := box_cells (HBox2.out.below hbel hg2)
        by_cases hlt : j < k
        · have hbr := bitOf_range V j
          obtain ⟨y, hy⟩ : ∃ y, y = bitOf V j := ⟨_, rfl⟩
          have hbit := bit_any V j wr hV0 hV1 (by omega)
          change Calls _ _ _ _ (fun e w' => e = .returned (.int .u8 (bitOf V j)) ∧ wr = w') at hbit
          rw [← hy] at hbit hbr
          obtain ⟨hy0, hy1⟩ := hbr
          have HY := Lib.hid hy
          have HBit := Lib.hid hbit
          have HO := Lib.hid hown
          have HBel := Lib.hid hbel
          have hsz := hbel.size
          clear hbit hown hbel hy
          go_wp2_with fail
          refine HBit.out.mono ?_
          rintro e w' ⟨rfl, rfl⟩
          go_wp2_with (at_builtin; refine wpList_append_own _ rfl _ _ 22 rfl w2.heap.size 5 i0 (.int .u8 0) 1 1 Try.underlying22 HI.out HZ0.out HZ1.out HZ2.out rfl (by decide) _ _ _ rfl (HO.out.alloc _) ⟨wr.heap.size, 0, none⟩ 1 1 [.int .u8 y] rfl rfl ?c1 ?c2 ?c3 ?c4 ?c5 ?_)
          case c1 => exact cell_one_new wr _ _
          case c2 => intro u hu; simp at hu; subst hu; rfl
          case c3 => unfold maxLen; omega
          case c4 => omega
          case c5 => simp; omega
          · intro v' w4 hown' hgrow _
            have hbel' : Below w2.heap.size w2 w4 := by
              have hb0 : Below w2.heap.size w2 (wr.alloc (Obj.cells #[Value.int IntKind.u8 y] 5)) := HBel.out.alloc hsz _
              exact hb0.grown hgrow (by simp; omega) (fun g hg => (World.ownsRow.lt HO.out g hg).1)
            have HB' := Lib.hid hbel'
            have HO' := Lib.hid hown'
            clear hown' hgrow hbel' hcV hcP hcM
            go_wp2
            refine ⟨⟨j + 1, by omega, by go_num, HB'.out, ?_⟩, by simp [intOf]; omega⟩
            rw [bitsOf_succ, ← HY.out, ← List.append_assoc, nums, List.map_append]
            exact HO'.out
        · obtain rfl : j = k := by omega
          obtain ⟨a5, c5, rfl, r5, _⟩ := ownsRow_rowN .u8 hown (by
            intro z hz
            rcases List.mem_append.1 hz with h1 | h1
            · exact HR1.out.wf z h1
            · exact wf_u8.2 (by have := bitsOf_mem h1; omega))
          have B4 := Lib.hid (B2.out.trans (hbel.mono B2.out.size))
          have RP4 := Lib.hid (RP.out.later hbel)
          have R5 := Lib.hid r5
          have HBox4 := Lib.hid (HBox2.out.below hbel hg2)
          clear hown hbel r5
          go_wp2_with fail
          refine (bytes_yes _ a5 (n + j) (n + j) c5 _ wr RP4.out R5.out).mono ?_
          rintro e w' ⟨rfl, q6, rfl⟩
          have hb6 := below_draw wr q6
          obtain ⟨w6, hw6⟩ : ∃ x, x = wr.drewN q6 := ⟨_, rfl⟩
          rw [← hw6] at hb6 ⊢
          have BL := Lib.hid (B4.out.trans (hb6.mono B4.out.size))
          have HBoxL := Lib.hid (HBox4.out.below hb6 (Nat.lt_of_lt_of_le hgs B4.out.size))
          clear hb6 hw6 B4 RP4 R5 HBox4 hcV hcP hcM
          obtain ⟨hcV, hcP, hcM⟩ := box_cells HBoxL.out
          rcases HR1.out.cells with h0 | ⟨b, o, rfl, _⟩
          · have hmz : j = 0 := by omega
            have hpz : p = 0 := by omega
            subst hmz hpz h0
            have hl0 : l = [] := List.eq_nil_of_length_eq_zero HR1.out.len
            subst hl0
            rcases a with _ | ⟨b, o, sp⟩
            · have hc0 : c = 0 := HR1.out.isNil rfl
              subst hc0
              go_wp2_with fail
              all_goals
                refine (value_any none 0 0 [] _ (HR1.out.later BL.out) rfl (by omega)).mono ?_
                rintro e w' ⟨rfl, rfl⟩
                have hvv : (val [] == val []) = true := by simp
                go_wp2_with fail
                refine (lives_any _).mono ?_
                rintro e w9 ⟨rfl, hb⟩
                have B9 := Lib.hid (HBW.out.trans ((BL.out.trans (hb.mono BL.out.size)).mono (Nat.le_of_lt hgs)))
                clear hb
                go_wp2
                go_ret
                exact ⟨rfl, B9.out⟩
            · go_wp2_with fail
              all_goals
                refine (value_any (some ⟨b, o, sp⟩) 0 c [] _ (HR1.out.later BL.out) rfl (by omega)).mono ?_
                rintro e w' ⟨rfl, rfl⟩
                have hvv : (val [] == val []) = true := by simp
                go_wp2_with fail
                refine (lives_any _).mono ?_
                rintro e w9 ⟨rfl, hb⟩
                have B9 := Lib.hid (HBW.out.trans ((BL.out.trans (hb.mono BL.out.size)).mono (Nat.le_of_lt hgs)))
                clear hb
                go_wp2
                go_ret
                exact ⟨rfl, B9.out⟩
          · go_wp2_with fail
            · have hcp : c = p := by assumption
              have hr := (HR1.out.later BL.out).cut2 p j (by omega) (some ⟨b, o, none⟩) (fun hh => by omega) (by simp)
              rw [show c - p = 0 by omega] at hr
              have hva := value_any _ _ _ _ _ hr (isBits_take (isBits_drop HBits.out p) j) (by omega)
              have hvv : (val ((l.drop p).take j) == val ((l.drop p).take j)) = true := by simp
              refine hva.mono ?_
              rintro e w' ⟨rfl, rfl⟩
              clear hva hr
              go_wp2_with fail
              refine (lives_any _).mono ?_
              rintro e w9 ⟨rfl, hb⟩
              have B9 := Lib.hid (HBW.out.trans ((BL.out.trans (hb.mono BL.out.size)).mono (Nat.le_of_lt hgs)))
              clear hb
              go_wp2
              go_ret
              exact ⟨rfl, B9.out⟩
            · have hr := (HR1.out.later BL.out).cut2 p j (by omega) (some ⟨b, o + p, none⟩) (fun hh b' o' h' => by simp at h'; simp [h']) (by simp)
              have hva := value_any _ _ _ _ _ hr (isBits_take (isBits_drop HBits.out p) j) (by omega)
              have hvv : (val ((l.drop p).take j) == val ((l.drop p).take j)) = true := by simp
              refine hva.mono ?_
              rintro e w' ⟨rfl, rfl⟩
              clear hva hr
              go_wp2_with fail
              refine (lives_any _).mono ?_
              rintro e w9 ⟨rfl, hb⟩
              have B9 := Lib.hid (HBW.out.trans ((BL.out.trans (hb.mono BL.out.size)).mono (Nat.le_of_lt hgs)))
              clear hb
              go_wp2
              go_ret
              exact ⟨rfl, B9.out⟩

set_option maxHeartbeats 1000000 in
set_option maxRecDepth 100000 in
theorem bitsFields_walk (a : Option Addr) (n c : Nat) (l : List Int) (V P M : Int) (w : World) (h0 : Row .u8 w a n c l) (hV : (Lit.int .u64 V).wf = true) (hP : (Lit.int .i64 P).wf = true) (hM : (Lit.int .i64 M).wf = true) :
    Calls Try.prog 5 #[.slice a n c, .agg #[.int .u64 V, .int .i64 P, .int .i64 M]] w fun e w' => e = .returned (.bool true) ∧ Below w.heap.size w w' := by
  by_cases hn : n ≤ 400
  · by_cases he : errOf l = 0
    · by_cases hm : 0 ≤ M ∧ M ≤ 64
      · obtain ⟨hm0, hm1⟩ := hm
        obtain ⟨m, rfl⟩ := Int.eq_ofNat_of_zero_le hm0
        have hm64 : m ≤ 64 := by omega
        by_cases hp : P < 0
        · by_cases hv : V / 2 ^ m = 0
          · exact fields_c0a a n c l V P _ w h0 hV hP hM hn m hm64 hp he hv
          · exact fields_c1a a n c l V P _ w h0 hV hP hM hn m hm64 hp he hv
        · by_cases hq : (n : Int) < P
          · by_cases hv : V / 2 ^ m = 0
            · exact fields_c0b1 a n c l V P _ w h0 hV hP hM hn m hm64 (by omega) hq he hv
            · exact fields_c1b1 a n c l V P _ w h0 hV hP hM hn m hm64 (by omega) hq he hv
          · by_cases hq2 : (n : Int) - (m : Int) < P
            · by_cases hv : V / 2 ^ m = 0
              · exact fields_c0b2 a n c l V P _ w h0 hV hP hM hn m hm64 (by omega) hq hq2 he hv
              · exact fields_c1b2 a n c l V P _ w h0 hV hP hM hn m hm64 (by omega) hq hq2 he hv
            · obtain ⟨p, rfl⟩ := Int.eq_ofNat_of_zero_le (by omega : 0 ≤ P)
              by_cases hv : V / 2 ^ m = 0
              · exact fields_c0c a n c l V _ _ w h0 hV hP hM hn m hm64 p (by omega) he hv
              · exact fields_c1c a n c l V _ _ w h0 hV hP hM hn m hm64 p (by omega) he hv
      · by_cases h64 : 64 < M
        · exact fields_b2 a n c l V P M w h0 hV hP hM hn he h64 (by omega)
        · exact fields_b1 a n c l V P M w h0 hV hP hM hn he (by omega)
    · exact fields_a a n c l V P M w h0 hV hP hM hn _ rfl he
  · have hb0 : (400 : Int) < (n : Int) := by omega
    have HL := Lib.hid (lives_any (w.alloc (.cells #[.int .u64 V, .int .i64 P, .int .i64 M] 41)))
    clear h0 hV hP hM
    go_enter Try.func5, Try.ntmps5
    go_wp2_with fail
    refine HL.out.mono ?_
    rintro e w' ⟨rfl, hb⟩
    have HB := Lib.hid (below_call hb)
    clear hb
    go_wp2
    go_ret
    exact ⟨rfl, HB.out⟩
end Go.Proofs.Ytjadmhmfjjjcfaa
