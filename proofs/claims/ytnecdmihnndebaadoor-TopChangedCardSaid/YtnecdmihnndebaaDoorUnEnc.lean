/- Contracts of package units: Encode. -/
import Derived.Test.YtnecdmihnndebaaDoorUnPut
import Derived.Laws.MakeOwn
namespace Go.Proofs.YtnecdmihnndebaaDoor
open Go.RowKit

theorem make80 (c : Nat) (hc : c ≤ 1099511627776) (w : World) :
    (Instr.makeSlice 23 (.int .i64 0) (.int .i64 (c : Int))).run Tryd.prog w = .ok (.slice (some ⟨w.heap.size, 0, none⟩) 0 c) (w.alloc (.cells (madeCells #[.int .u8 0] c) 5)) := by
  obtain ⟨i, hi, hz0, hz1, hz2⟩ := info_parts info8
  have h := run_make (P := Tryd.prog) w 23 5 i (.int .u8 0) Tryd.underlying23 hi hz0 .i64 .i64 0 c (Int.le_refl _) (by omega) (by rw [hz2]; omega) (by omega)
  rw [hz1, Nat.mul_one] at h
  simpa [Value.cells] using h
theorem owns_made80 (w : World) (B c : Nat) (hB : B ≤ w.heap.size) (hc : c ≤ 1099511627776) : (w.alloc (.cells (madeCells #[.int .u8 0] c) 5)).ownsRow B 5 1 (.slice (some ⟨w.heap.size, 0, none⟩) 0 c) 0 (nums .u8 []) := by
  have h := World.ownsRow_made (base := B) (e := 5) (size := 1) w (madeCells #[.int .u8 0] c) c hB (by unfold maxLen; omega) (by have := size_madeCells #[.int .u8 0] c; simpa using this)
  exact h
theorem row_src {k : IntKind} {w : World} {a : Option Addr} {n c : Nat} {l : List Int} (h : Row k w a n c l) : ∀ ad, a = some ad → ∀ j u, (nums k l)[j]? = some u → w.cell? (ad.add j) = some u := by
  intro ad ha j u hj
  have hjl : j < l.length := by
    have := (List.getElem?_eq_some_iff.1 hj).1
    rwa [nums_length] at this
  rcases h.cells with h0 | ⟨b, off, hb, hc⟩
  · have := h.len; omega
  · rw [ha] at hb
    simp at hb
    subst hb
    have e : (⟨b, off, none⟩ : Addr).add j = ⟨b, off + j, none⟩ := by unfold Addr.add; split <;> simp_all
    rw [e, hc j (by rw [← h.len]; exact hjl), ← hj]
    simp [nums, hjl]
set_option maxHeartbeats 2000000 in
set_option maxRecDepth 100000 in
theorem encode_ok (a0 : Int) (b1 : Bool) (a2 : Int) (b3 : Bool) (a4 a5 : Int) (s : Option Addr) (n c m : Nat) (l : List Int) (w : World) (h0 : 0 ≤ a0) (h2 : 0 ≤ a2) (h4 : 0 ≤ a4) (h5 : 0 ≤ a5) (h : Row .u8 w s n c l)
    (hE : chk a0 a2 a4 a5 n = 0) (hm : (contL a4 a5 l).length = m) :
    Calls Tryd.prog 5 #[.agg #[.int .u8 a0, .bool b1, .int .u8 a2, .bool b3, .int .u8 a4, .int .u8 a5, .slice s n c]] w
      fun e w' => (∃ d, e = .returned (.tuple #[.slice (some ⟨d, 0, none⟩) (3 + m) (3 + m), .int .i64 0]) ∧ w'.ownsRow w.heap.size 5 1 (.slice (some ⟨d, 0, none⟩) (3 + m) (3 + m)) (3 + m) (nums .u8 (encL a0 b1 a2 b3 a4 a5 l))) ∧ Below w.heap.size w w' := by
  obtain ⟨g0, g2, g4, g5, _, g6, g7⟩ := chk_ok.1 hE
  have hcm := h.max
  unfold maxLen at hcm
  have hle := h.le
  have hm2 : m ≤ 273 := by
    rw [← hm, contL]
    split
    · simp
    · rw [h.len]; omega
  have hck := fun w => ucheck_any a0 b1 a2 b3 a4 a5 s n c w h0 (by omega) h2 (by omega) h4 (by omega) h5 (by omega) (by omega)
  rw [hE] at hck
  have hct := fun w h => contentOf_any a0 b1 a2 b3 a4 a5 s n c l w h5 (by omega) h (fun hh => by omega) m hm
  obtain ⟨ct, hctt⟩ : ∃ ct, ct = contL a4 a5 l := ⟨_, rfl⟩
  have hen : encL a0 b1 a2 b3 a4 a5 l = [low a0 b1, low a2 b3, ((min m 63 : Nat) : Int)] ++ ct := by
    rw [← hm, ← hctt]
    simp [encL, restL, ← hctt]
  rw [hen]
  rw [← hctt] at hct
  have HC := Lib.hid hck
  have HT := Lib.hid hct
  have HR := Lib.hid h
  have hmk := make80 (3 + m) (by omega)
  rw [show (((3 + m : Nat)) : Int) = 3 + (m : Int) by omega] at hmk
  have hmf : ∀ (fn : Fn) (first cap : Array Value) (w : World), (Instr.makeFunc fn first cap).run Tryd.prog w = .ok (.func fn first cap) w := fun _ _ _ _ => rfl
  obtain ⟨M, hM⟩ : ∃ M : Int, M = ((min m 63 : Nat) : Int) := ⟨_, rfl⟩
  rw [← hM]
  have hM0 : 0 ≤ M := by omega
  have hM1 : M ≤ 63 := by omega
  have HM := Lib.hid hM
  clear h hE hck hct hctt hm hen g6 g7 hM
  go_enter Tryd.func5, Tryd.ntmps5
  go_wp2_with fail
  refine (HC.out _).mono ?_
  rintro e w1 ⟨rfl, hb1⟩
  have ob1 := (own_lit w 29 #[.int .u8 a0, .bool b1, .int .u8 a2, .bool b3, .int .u8 a4, .int .u8 a5, .slice s n c] _ rfl).below hb1 (by simp)
  have bb1 := below_call hb1
  have s1 := hb1.size
  simp at s1
  obtain ⟨k0, k1, k2, k3, k4, k5, k6⟩ := unit_cells ob1
  have HO1 := Lib.hid ob1
  have HB1 := Lib.hid bb1
  have HR1 := Lib.hid (HR.out.later bb1)
  clear ob1 bb1 hb1
  go_wp2_with fail
  refine (HT.out _ HR1.out).mono ?_
  clear k0 k1 k2 k3 k4 k5 k6
  rintro e w2 ⟨⟨s', c', rfl, hr⟩, hb2⟩
  have s2 := hb2.size
  have ob2 := HO1.out.below hb2 (by omega)
  have HO2 := Lib.hid ob2
  have HB2 := Lib.hid (HB1.out.trans (hb2.mono (by omega)))
  have HR2 := Lib.hid hr
  clear hr hb2 HO1 HB1 HR1
  have hsw : w.heap.size < w2.heap.size := by omega
  obtain ⟨k0, k1, k2, k3, _, _, _⟩ := unit_cells ob2
  clear ob2
  obtain ⟨W2, hW2⟩ : ∃ W, W = (w2.alloc (.cells (madeCells #[.int .u8 0] (3 + m)) 5)).alloc (.cells #[.slice (some ⟨w2.heap.size, 0, none⟩) 0 (3 + m)] 23) := ⟨_, rfl⟩
  have hout : OutAt W2 (w2.heap.size + 1) w2.heap.size w2.heap.size 0 (3 + m) [] := by
    rw [hW2]
    refine ⟨?_, (owns_made80 w2 w2.heap.size (3 + m) (Nat.le_refl _) (by omega)).alloc _, by omega⟩
    have := own_lit (w2.alloc (.cells (madeCells #[.int .u8 0] (3 + m)) 5)) 23 #[.slice (some ⟨w2.heap.size, 0, none⟩) 0 (3 + m)] _ rfl
    rwa [World.size_alloc] at this
  have hbW : Below w2.heap.size w2 W2 := by rw [hW2]; exact ((Below.refl _ _).alloc (Nat.le_refl _) _).alloc (by simp) _
  have HOut := Lib.hid hout
  have HBW := Lib.hid hbW
  have HW2 := Lib.hid hW2
  clear hout hbW hW2
  go_wp2_with fail
  rw [← HW2.out]
  refine (put_any a0 b1 _ w2.heap.size w2.heap.size 0 (3 + m) [] W2 h0 g0 HOut.out (by omega) HBW.out.size (by omega)).mono ?_
  clear k0 k1 k2 k3
  rintro e w3 ⟨rfl, ho3, hb3⟩
  have hb23 := HBW.out.trans hb3
  have hs3 := hb23.size
  obtain ⟨_, _, k2, k3, _, _, _⟩ := unit_cells (HO2.out.below hb23 hsw)
  have HB23 := Lib.hid hb23
  have HO3 := Lib.hid ho3
  clear hb23 ho3 hb3
  go_wp2_with fail
  refine (put_any a2 b3 _ w2.heap.size w2.heap.size 1 (3 + m) _ w3 h2 g2 HO3.out (by omega) hs3 (by omega)).mono ?_
  clear k2 k3
  rintro e w4 ⟨rfl, ho4, hb4⟩
  obtain ⟨o4, r4, n4⟩ := ho4
  have hb24 := HB23.out.trans hb4
  have hs4 := hb24.size
  have kv := o4.cell 0 (by simp)
  simp only [List.getD_cons_zero] at kv
  have HB24 := Lib.hid hb24
  have HO4 := Lib.hid o4
  have HR4 := Lib.hid r4
  have HN4 := Lib.hid n4
  clear hb24 hb4 o4 r4 n4
  have hif : (if (63 : Int) < (m : Int) then (63 : Int) else (m : Int)) = M := by rw [HM.out]; split <;> omega
  go_wp2_with (at_builtin; refine wpList_append_one_fits Tryd.underlying23 info8 rfl _ _ rfl w2.heap.size w2.heap.size 2 (3 + m) _ _ rfl (by exact HR4.out) rfl (by omega) ?_)
  clear hif kv
  intro w5 h5 h6
  have hb45 := h6.below hs4 (fun k _ hk => by omega)
  have o5 := HO4.out.exc h6 (fun hh => HN4.out hh.symm)
  have kv5 := o5.cell 0 (by simp)
  simp only [List.getD_cons_zero] at kv5
  have kf5 := o5.frozen 0
  have hb25 := HB24.out.trans hb45
  have hs5 := hb25.size
  have r5 := ownsRow_exc h5 ((Exc.refl (fun k => k = w2.heap.size + 1) _).setCell ⟨w2.heap.size + 1, 0, none⟩ (.inl rfl) (.slice (some ⟨w2.heap.size, 0, none⟩) (2 + 1) (3 + m))) (fun k hk hh => HN4.out ((Option.some.inj hk).trans hh))
  obtain ⟨W5, hW5⟩ : ∃ W, W = w5.setCell ⟨w2.heap.size + 1, 0, none⟩ (.slice (some ⟨w2.heap.size, 0, none⟩) (2 + 1) (3 + m)) := ⟨_, rfl⟩
  have o6 := o5.set 0 (.slice (some ⟨w2.heap.size, 0, none⟩) (2 + 1) (3 + m))
  have hb26 := hb25.setCell (p := ⟨w2.heap.size + 1, 0, none⟩) (Nat.le_succ _) (.slice (some ⟨w2.heap.size, 0, none⟩) (2 + 1) (3 + m))
  rw [← hW5] at r5 o6 hb26
  have hs6 := hb26.size
  have kv6 := o6.cell 0 (by simp)
  simp only [List.set_cons_zero, List.getD_cons_zero] at kv6
  have rc6 := HR2.out.later hb26
  obtain ⟨i0, hi, hz0, hz1, hz2⟩ := info_parts info8
  have HI := Lib.hid hi
  have HZ1 := Lib.hid hz1
  have HR6 := Lib.hid r5
  have HC6 := Lib.hid rc6
  have HB6 := Lib.hid hb26
  have HW5 := Lib.hid hW5
  have hnone : s' = none → m = 0 ∧ c' = 0 := fun hh => by have := rc6.isNil hh; have := rc6.le; omega
  have hsrc := row_src rc6
  have hlen6 := rc6.len
  have HNone := Lib.hid hnone
  have HSrc := Lib.hid hsrc
  have HLen := Lib.hid hlen6
  clear h5 h6 hb45 o5 hb25 r5 o6 hb26 rc6 hi hz0 hz1 hz2 hs4 hs3 hW5 hnone hsrc hlen6
  go_wp2_with (at_builtin; rw [← HW5.out]; refine wpList_append_fits_any W5 rfl _ _ 23 rfl w2.heap.size 5 i0 1 Tryd.underlying23 HI.out HZ1.out w2.heap.size 3 (3 + m) _ rfl (by exact HR6.out) s' m c' (nums .u8 ct) rfl (by rw [nums_length, HLen.out, Nat.mul_one]) HNone.out HSrc.out (fun u hu => by rw [nums, List.mem_map] at hu; obtain ⟨y, _, rfl⟩ := hu; rfl) (Nat.le_refl _) ?_)
  intro w7 h7 h8
  have hb7 : Below w2.heap.size w2 w7 := HB6.out.grown h8 hs6 (fun g hg => by have := Option.some.inj hg; omega)
  have HB7 := Lib.hid hb7
  have HR7 := Lib.hid h7
  clear h7 h8 hb7 kv5 kf5 kv6
  go_wp2
  go_ret2
  refine ⟨⟨w2.heap.size, rfl, ?_⟩, HB2.out.trans (HB7.out.mono (by omega))⟩
  have e7 : nums .u8 (low a0 b1 :: low a2 b3 :: M :: ct) = nums .u8 ([] ++ [low a0 b1] ++ [low a2 b3] ++ [M]) ++ nums .u8 ct := by simp [nums]
  rw [e7]
  exact ownsRow_mono HR7.out (by omega)
set_option maxHeartbeats 1000000 in
set_option maxRecDepth 100000 in
theorem encode_err (a0 : Int) (b1 : Bool) (a2 : Int) (b3 : Bool) (a4 a5 : Int) (s : Option Addr) (n c : Nat) (E : Int) (w : World) (h0 : 0 ≤ a0) (h0' : a0 ≤ 255) (h2 : 0 ≤ a2) (h2' : a2 ≤ 255) (h4 : 0 ≤ a4) (h4' : a4 ≤ 255) (h5 : 0 ≤ a5) (h5' : a5 ≤ 255) (hn : n ≤ 9223372036854775807)
    (hE : chk a0 a2 a4 a5 n = E) (hne : E ≠ 0) :
    Calls Tryd.prog 5 #[.agg #[.int .u8 a0, .bool b1, .int .u8 a2, .bool b3, .int .u8 a4, .int .u8 a5, .slice s n c]] w
      fun e w' => e = .returned (.tuple #[.slice none 0 0, .int .i64 E]) ∧ Below w.heap.size w w' := by
  have hck := fun w => ucheck_any a0 b1 a2 b3 a4 a5 s n c w h0 h0' h2 h2' h4 h4' h5 h5' hn
  rw [hE] at hck
  have HC := Lib.hid hck
  have hb : (E != 0) = true := by simpa using hne
  clear hck hE hne
  go_enter Tryd.func5, Tryd.ntmps5
  go_wp2_with fail
  refine (HC.out _).mono ?_
  rintro e w1 ⟨rfl, hb1⟩
  have HB := Lib.hid (below_call hb1)
  clear hb1
  go_wp2
  go_ret2
  exact ⟨rfl, HB.out⟩
end Go.Proofs.YtnecdmihnndebaaDoor
