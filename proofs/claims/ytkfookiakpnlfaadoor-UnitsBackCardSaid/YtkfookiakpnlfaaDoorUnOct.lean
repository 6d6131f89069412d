/- Contracts: the statements' own octets. -/
import Derived.Test.YtkfookiakpnlfaaDoorUnEnc
namespace Go.Proofs.YtkfookiakpnlfaaDoor
open Go.RowKit

theorem owns_of_own {k : IntKind} {w : World} {B g e n : Nat} {l : List Int} (h : Own w g e (nums k l)) (hl : l.length = n) (hB : B ≤ g) (hn : n ≤ 1000) : w.ownsRow B e 1 (.slice (some ⟨g, 0, none⟩) n n) n (nums k l) := by
  subst hl
  refine ⟨by rw [nums_length]; omega, .inr ⟨g, _, (nums k l).toArray, rfl, hB, h, Nat.le_refl _, by unfold maxLen; omega, by simp [nums], ?_⟩⟩
  rw [List.take_of_length_le (by simp [nums])]
theorem low_f (x : Int) : low x false = x := rfl
theorem low_t (x : Int) : low x true = x + 128 := rfl
/-- append(v, y), the new element's block named by a number. -/
theorem wpList_append_one_num {k : IntKind} {t e : TypeId} {bytes : Nat} (ht : Tryd.prog.underlying t = some (.slice e)) (hin : (Tryd.prog.info? e).map (fun i => (i.zero, i.size, i.bytes)) = some (some (.int k 0), 1, bytes)) (hby8 : bytes ≤ 8)
    {ops : Array Oper} {rest : List Oper} {o : Oper} {a : Act} {Q : Exit → Act → World → Prop} {w0 : World} (hgd : o.guard = none) (s x : Operand)
    (ho : o.op = .call { callee := .builtin .append, args := #[s, x], argTypes := #[t, t] })
    (H : Nat) (hH : w0.heap.size = H) (B : Nat) (v : Value) (n : Nat) (xs : List Int) (y : Int) (hs : a.eval s = v) (hown : w0.ownsRow B e 1 v n (nums k xs)) (hx : a.eval x = .slice (some ⟨H, 0, none⟩) 1 1)
    (hn : n + 1 ≤ 2199023255552) (hB : B ≤ w0.heap.size)
    (h : ∀ v' w', w'.ownsRow B e 1 v' (n + 1) (nums k (xs ++ [y])) → Grow v w0 v' w' → (∃ g c, v' = .slice (some ⟨g, 0, none⟩) (n + 1) c) → wpList Tryd.prog ops Q rest (a.put o.dst v') w') :
    wpList Tryd.prog ops Q (o :: rest) a (w0.alloc (.cells #[.int k y] e)) := by
  subst hH
  exact wpList_append_one ht hin hby8 hgd s x ho B v n xs y hs hown hx hn hB h
theorem ownsRow_cap {w : World} {B e n N c : Nat} {a : Option Addr} {xs : List Value} (h : w.ownsRow B e 1 (.slice a n c) N xs) : n ≤ c ∧ c ≤ maxLen := by
  rcases h.2 with ⟨h1, h0⟩ | ⟨g, cap, cur, h1, hb, hg, hn, hc, hs, ht⟩
  · simp only [Value.slice.injEq] at h1
    obtain ⟨_, rfl, rfl⟩ := h1
    exact ⟨Nat.le_refl _, Nat.zero_le _⟩
  · simp only [Value.slice.injEq] at h1
    obtain ⟨_, rfl, rfl⟩ := h1
    exact ⟨hn, hc⟩
theorem own_front {k : IntKind} {w : World} {g t n c : Nat} {l : List Int} {rest : List Value} (h : Own w g t (nums k l ++ rest)) (hl : l.length = n) (hc : n ≤ c) (hm : c ≤ maxLen) (hw : ∀ x ∈ l, (Lit.int k x).wf = true) : Row k w (some ⟨g, 0, none⟩) n c l := by
  refine ⟨hl, hc, hm, hw, .inr ⟨g, 0, rfl, fun i hi => ?_⟩, by simp⟩
  have h1 := h.cell i (by rw [List.length_append, nums_length]; omega)
  rw [Nat.zero_add, h1, List.getD_eq_getElem?_getD, List.getElem?_append_left (by rw [nums_length]; omega)]
  simp [nums, hl, hi]
set_option maxHeartbeats 4000000 in
set_option maxRecDepth 100000 in
theorem octets_0 (a0 a2 a4 a5 : Int) (s : Option Addr) (n c m : Nat) (l : List Int) (w : World) (h0 : 0 ≤ a0) (h2 : 0 ≤ a2) (h4 : 0 ≤ a4) (h5 : 0 ≤ a5) (h : Row .u8 w s n c l)
    (hE : chk a0 a2 a4 a5 n = 0) (hm : (contL a4 a5 l).length = m) :
    Calls Tryd.prog 15 #[.agg #[.int .u8 a0, .bool false, .int .u8 a2, .bool false, .int .u8 a4, .int .u8 a5, .slice s n c]] w
      fun e w' => (∃ a c', e = .returned (.slice a (3 + m) c') ∧ Row .u8 w' a (3 + m) c' (encL a0 false a2 false a4 a5 l)) ∧ Below w.heap.size w w' := by
  obtain ⟨g0, g2, g4, g5, _, g6, g7⟩ := chk_ok.1 hE
  have hcm := h.max
  unfold maxLen at hcm
  have hle := h.le
  have hn1 : a4 = 1 → n = 0 := fun hh => by omega
  have hn273 : n ≤ 273 := by omega
  obtain ⟨i0, hi, hz0, hz1, hz2⟩ := info_parts info8
  have HI := Lib.hid hi
  have HZ0 := Lib.hid hz0
  have HZ1 := Lib.hid hz1
  have HZ2 := Lib.hid hz2
  have HR := Lib.hid h
  clear h hE g6 g7 hi hz0 hz1 hz2
  have hl0 := own_lit (w.alloc (.cells #[.int .u8 a0, .bool false, .int .u8 a2, .bool false, .int .u8 a4, .int .u8 a5, .slice s n c] 25)) 5 #[.int .u8 a0, .int .u8 a2, .int .u8 0] _ rfl
  rw [World.size_alloc] at hl0
  obtain ⟨W1, hW1⟩ : ∃ W, W = ((w.alloc (.cells #[.int .u8 a0, .bool false, .int .u8 a2, .bool false, .int .u8 a4, .int .u8 a5, .slice s n c] 25)).alloc (.cells #[.int .u8 a0, .int .u8 a2, .int .u8 0] 5)) := ⟨_, rfl⟩
  have hown : Own W1 (w.heap.size + 1) 5 (nums .u8 [low a0 false, low a2 false, 0]) := by rw [hW1]; exact hl0
  have hbw : Below w.heap.size w W1 := by rw [hW1]; exact ((Below.refl _ _).alloc (Nat.le_refl _) _).alloc (by simp) _
  have hor := owns_of_own (n := 3) hown rfl (Nat.le_succ _) (by decide)
  have hbx : Own W1 w.heap.size 25 [.int .u8 a0, .bool false, .int .u8 a2, .bool false, .int .u8 a4, .int .u8 a5, .slice s n c] := by
    rw [hW1]
    exact ((own_lit w 25 #[.int .u8 a0, .bool false, .int .u8 a2, .bool false, .int .u8 a4, .int .u8 a5, .slice s n c] _ rfl).below (below_alloc _ _) (by simp))
  have hH : W1.heap.size = w.heap.size + 1 + 1 := by rw [hW1]; simp
  have hsz := hbw.size
  have hlt1 := hown.lt
  obtain ⟨k0, k1, k2, k3, k4, k5, k6⟩ := unit_cells hbx
  have HW1 := Lib.hid hW1
  have HOr := Lib.hid hor
  have HBx := Lib.hid hbx
  have HBw := Lib.hid hbw
  have HR1 := Lib.hid (HR.out.later hbw)
  have HH := Lib.hid hH
  clear hl0 hW1 hor hbx hbw hown hH
  by_cases ha : a4 = 1
  · subst ha
    obtain rfl : n = 0 := hn1 rfl
    obtain rfl : m = 1 := by rw [← hm]; simp [contL]
    clear hm
    go_enter Tryd.func15, Tryd.ntmps15
    go_wp2_with (at_builtin; rw [← HW1.out]; refine wpList_append_one_num Tryd.underlying23 info8 (by decide) rfl _ _ rfl (w.heap.size + 1 + 1) HH.out w.heap.size _ 3 _ a5 rfl (by exact HOr.out) rfl (by omega) hsz ?_)
    intro v2 W2 h2 h3 gv cv h4
    subst h4
    have hb2 := h3.below hsz (fun k hk => (ownBlock_lt HOr.out hk).1)
    have hbx2 := HBx.out.exc h3.exc (fun hh => by have h9 : w.heap.size + 1 = w.heap.size := Option.some.inj hh; omega)
    have hb02 := HBw.out.trans hb2
    have hsz2 := hb02.size
    obtain ⟨j0, j1, j2, j3, j4, j5, j6⟩ := unit_cells hbx2
    have HR2 := Lib.hid (HR.out.later hb02)
    have HB2 := Lib.hid hb02
    have HO2 := Lib.hid h2
    clear h2 h3 hb2 hbx2 hb02 k0 k1 k2 k3 k4 k5 k6
    go_wp2_with (at_builtin; (refine wpList_append_list rfl _ _ 23 rfl w.heap.size 5 i0 (.int .u8 0) 1 Tryd.underlying23 HI.out HZ0.out HZ1.out HZ2.out rfl .u8 _ _ _ rfl (by exact HO2.out) _ _ _ _ rfl (by exact HR2.out) (by unfold maxLen; omega) (by omega) hsz2 ?_))
    intro v3 W3 h5 h6
    have hl00 : l = [] := List.eq_nil_of_length_eq_zero HR.out.len
    have hb3 := HB2.out.grown h6 hsz2 (fun g hg => (ownBlock_lt HO2.out hg).1)
    obtain ⟨g3, c3, rest, rfl, hg3, ho3⟩ := ownsRow_own h5 (by omega)
    have hc2 := ho3.cell 2 (by simp [nums])
    have hf2 := ho3.frozen 2
    have hset := ho3.set 2 (.int .u8 1)
    have hbs := hb3.setCell (p := ⟨g3, 2, none⟩) hg3 (.int .u8 1)
    obtain ⟨hle3, hcm3⟩ := ownsRow_cap h5
    have HSet := Lib.hid hset
    have HBs := Lib.hid hbs
    have HL0 := Lib.hid hl00
    have HC2 := Lib.hid hc2
    have hcc := HC2.out
    simp [nums] at hcc
    clear h5 h6 hb3 ho3 hset hbs hl00 hc2
    go_wp2
    go_ret
    refine ⟨⟨_, _, rfl, ?_⟩, HBs.out⟩
    have hs := HSet.out
    rw [HL0.out] at hs
    have he : encL a0 false a2 false 1 a5 l = [low a0 false, low a2 false, 1, a5] := by rw [HL0.out]; rfl
    rw [he]
    refine own_front (l := [low a0 false, low a2 false, 1, a5]) (rest := rest) (by simpa [nums] using hs) rfl (by omega) (by omega) ?_
    simp only [List.mem_cons, List.not_mem_nil, or_false]
    rintro x (hx | hx | hx | hx)
    · rw [hx]; exact wf_u8.2 (low_oct h0 g0)
    · rw [hx]; exact wf_u8.2 (low_oct h2 g2)
    · rw [hx]; exact wf_u8.2 (by omega)
    · rw [hx]; exact wf_u8.2 (by omega)
  · have hb41 : (a4 == 1) = false := by simpa using ha
    have hct : contL a4 a5 l = l := by unfold contL; rw [if_neg ha]
    rw [hct] at hm
    obtain rfl : n = m := by rw [← hm]; exact HR.out.len.symm
    have HCt := Lib.hid hct
    clear hct ha hm
    obtain ⟨M, hM⟩ : ∃ M : Int, M = ((min n 63 : Nat) : Int) := ⟨_, rfl⟩
    have hif : (if (n : Int) < 63 then (n : Int) else 63) = M := by rw [hM]; split <;> omega
    have hsub : 3 + (n : Int) - 3 = n := by omega
    have hM0 : 0 ≤ M := by omega
    have hM1 : M ≤ 63 := by omega
    have HM := Lib.hid hM
    clear hM
    go_enter Tryd.func15, Tryd.ntmps15
    go_wp2_with (at_builtin; rw [← HW1.out]; refine wpList_append_list rfl _ _ 23 rfl w.heap.size 5 i0 (.int .u8 0) 1 Tryd.underlying23 HI.out HZ0.out HZ1.out HZ2.out rfl .u8 _ 3 _ rfl (by exact HOr.out) s n c l rfl (by exact HR1.out) (by unfold maxLen; omega) (by omega) hsz ?_)
    intro v3 W3 h5 h6
    have hb3 := HBw.out.grown h6 hsz (fun g hg => (ownBlock_lt HOr.out hg).1)
    obtain ⟨g3, c3, rest, rfl, hg3, ho3⟩ := ownsRow_own h5 (by omega)
    have hc2 := ho3.cell 2 (by simp [nums])
    have hf2 := ho3.frozen 2
    have hset := ho3.set 2 (.int .u8 M)
    have hbs := hb3.setCell (p := ⟨g3, 2, none⟩) hg3 (.int .u8 M)
    obtain ⟨hle3, hcm3⟩ := ownsRow_cap h5
    simp [nums] at hc2
    have HSet := Lib.hid hset
    have HBs := Lib.hid hbs
    clear h5 h6 hb3 ho3 hset hbs k0 k1 k2 k3 k4 k5 k6
    go_wp2
    go_ret
    refine ⟨⟨_, _, rfl, ?_⟩, HBs.out⟩
    have hs := HSet.out
    have he : encL a0 false a2 false a4 a5 l = [low a0 false, low a2 false, M] ++ l := by unfold encL; rw [HCt.out, HM.out, ← HR.out.len]; rfl
    rw [he]
    refine own_front (l := [low a0 false, low a2 false, M] ++ l) (rest := rest) (by simpa [nums] using hs) (by simp [HR.out.len]; omega) (by omega) (by omega) ?_
    simp only [List.cons_append, List.nil_append, List.mem_cons]
    rintro x (hx | hx | hx | hx)
    · rw [hx]; exact wf_u8.2 (low_oct h0 g0)
    · rw [hx]; exact wf_u8.2 (low_oct h2 g2)
    · rw [hx]; exact wf_u8.2 (by omega)
    · exact HR.out.wf x hx
set_option maxHeartbeats 4000000 in
set_option maxRecDepth 100000 in
theorem octets_1 (a0 a2 a4 a5 : Int) (s : Option Addr) (n c m : Nat) (l : List Int) (w : World) (h0 : 0 ≤ a0) (h2 : 0 ≤ a2) (h4 : 0 ≤ a4) (h5 : 0 ≤ a5) (h : Row .u8 w s n c l)
    (hE : chk a0 a2 a4 a5 n = 0) (hm : (contL a4 a5 l).length = m) :
    Calls Tryd.prog 15 #[.agg #[.int .u8 a0, .bool false, .int .u8 a2, .bool true, .int .u8 a4, .int .u8 a5, .slice s n c]] w
      fun e w' => (∃ a c', e = .returned (.slice a (3 + m) c') ∧ Row .u8 w' a (3 + m) c' (encL a0 false a2 true a4 a5 l)) ∧ Below w.heap.size w w' := by
  obtain ⟨g0, g2, g4, g5, _, g6, g7⟩ := chk_ok.1 hE
  have hcm := h.max
  unfold maxLen at hcm
  have hle := h.le
  have hn1 : a4 = 1 → n = 0 := fun hh => by omega
  have hn273 : n ≤ 273 := by omega
  obtain ⟨i0, hi, hz0, hz1, hz2⟩ := info_parts info8
  have HI := Lib.hid hi
  have HZ0 := Lib.hid hz0
  have HZ1 := Lib.hid hz1
  have HZ2 := Lib.hid hz2
  have HR := Lib.hid h
  clear h hE g6 g7 hi hz0 hz1 hz2
  have hl0 := own_lit (w.alloc (.cells #[.int .u8 a0, .bool false, .int .u8 a2, .bool true, .int .u8 a4, .int .u8 a5, .slice s n c] 25)) 5 #[.int .u8 a0, .int .u8 (a2 + 128), .int .u8 0] _ rfl
  rw [World.size_alloc] at hl0
  obtain ⟨W1, hW1⟩ : ∃ W, W = ((w.alloc (.cells #[.int .u8 a0, .bool false, .int .u8 a2, .bool true, .int .u8 a4, .int .u8 a5, .slice s n c] 25)).alloc (.cells #[.int .u8 a0, .int .u8 (a2 + 128), .int .u8 0] 5)) := ⟨_, rfl⟩
  have hown : Own W1 (w.heap.size + 1) 5 (nums .u8 [low a0 false, low a2 true, 0]) := by rw [hW1]; exact hl0
  have hbw : Below w.heap.size w W1 := by rw [hW1]; exact ((Below.refl _ _).alloc (Nat.le_refl _) _).alloc (by simp) _
  have hor := owns_of_own (n := 3) hown rfl (Nat.le_succ _) (by decide)
  have hbx : Own W1 w.heap.size 25 [.int .u8 a0, .bool false, .int .u8 a2, .bool true, .int .u8 a4, .int .u8 a5, .slice s n c] := by
    rw [hW1]
    exact ((own_lit w 25 #[.int .u8 a0, .bool false, .int .u8 a2, .bool true, .int .u8 a4, .int .u8 a5, .slice s n c] _ rfl).below (below_alloc _ _) (by simp))
  have hH : W1.heap.size = w.heap.size + 1 + 1 := by rw [hW1]; simp
  have hsz := hbw.size
  have hlt1 := hown.lt
  obtain ⟨k0, k1, k2, k3, k4, k5, k6⟩ := unit_cells hbx
  have HW1 := Lib.hid hW1
  have HOr := Lib.hid hor
  have HBx := Lib.hid hbx
  have HBw := Lib.hid hbw
  have HR1 := Lib.hid (HR.out.later hbw)
  have HH := Lib.hid hH
  clear hl0 hW1 hor hbx hbw hown hH
  by_cases ha : a4 = 1
  · subst ha
    obtain rfl : n = 0 := hn1 rfl
    obtain rfl : m = 1 := by rw [← hm]; simp [contL]
    clear hm
    go_enter Tryd.func15, Tryd.ntmps15
    go_wp2_with (at_builtin; rw [← HW1.out]; refine wpList_append_one_num Tryd.underlying23 info8 (by decide) rfl _ _ rfl (w.heap.size + 1 + 1) HH.out w.heap.size _ 3 _ a5 rfl (by exact HOr.out) rfl (by omega) hsz ?_)
    intro v2 W2 h2 h3 gv cv h4
    subst h4
    have hb2 := h3.below hsz (fun k hk => (ownBlock_lt HOr.out hk).1)
    have hbx2 := HBx.out.exc h3.exc (fun hh => by have h9 : w.heap.size + 1 = w.heap.size := Option.some.inj hh; omega)
    have hb02 := HBw.out.trans hb2
    have hsz2 := hb02.size
    obtain ⟨j0, j1, j2, j3, j4, j5, j6⟩ := unit_cells hbx2
    have HR2 := Lib.hid (HR.out.later hb02)
    have HB2 := Lib.hid hb02
    have HO2 := Lib.hid h2
    clear h2 h3 hb2 hbx2 hb02 k0 k1 k2 k3 k4 k5 k6
    go_wp2_with (at_builtin; (refine wpList_append_list rfl _ _ 23 rfl w.heap.size 5 i0 (.int .u8 0) 1 Tryd.underlying23 HI.out HZ0.out HZ1.out HZ2.out rfl .u8 _ _ _ rfl (by exact HO2.out) _ _ _ _ rfl (by exact HR2.out) (by unfold maxLen; omega) (by omega) hsz2 ?_))
    intro v3 W3 h5 h6
    have hl00 : l = [] := List.eq_nil_of_length_eq_zero HR.out.len
    have hb3 := HB2.out.grown h6 hsz2 (fun g hg => (ownBlock_lt HO2.out hg).1)
    obtain ⟨g3, c3, rest, rfl, hg3, ho3⟩ := ownsRow_own h5 (by omega)
    have hc2 := ho3.cell 2 (by simp [nums])
    have hf2 := ho3.frozen 2
    have hset := ho3.set 2 (.int .u8 1)
    have hbs := hb3.setCell (p := ⟨g3, 2, none⟩) hg3 (.int .u8 1)
    obtain ⟨hle3, hcm3⟩ := ownsRow_cap h5
    have HSet := Lib.hid hset
    have HBs := Lib.hid hbs
    have HL0 := Lib.hid hl00
    have HC2 := Lib.hid hc2
    have hcc := HC2.out
    simp [nums] at hcc
    clear h5 h6 hb3 ho3 hset hbs hl00 hc2
    go_wp2
    go_ret
    refine ⟨⟨_, _, rfl, ?_⟩, HBs.out⟩
    have hs := HSet.out
    rw [HL0.out] at hs
    have he : encL a0 false a2 true 1 a5 l = [low a0 false, low a2 true, 1, a5] := by rw [HL0.out]; rfl
    rw [he]
    refine own_front (l := [low a0 false, low a2 true, 1, a5]) (rest := rest) (by simpa [nums] using hs) rfl (by omega) (by omega) ?_
    simp only [List.mem_cons, List.not_mem_nil, or_false]
    rintro x (hx | hx | hx | hx)
    · rw [hx]; exact wf_u8.2 (low_oct h0 g0)
    · rw [hx]; exact wf_u8.2 (low_oct h2 g2)
    · rw [hx]; exact wf_u8.2 (by omega)
    · rw [hx]; exact wf_u8.2 (by omega)
  · have hb41 : (a4 == 1) = false := by simpa using ha
    have hct : contL a4 a5 l = l := by unfold contL; rw [if_neg ha]
    rw [hct] at hm
    obtain rfl : n = m := by rw [← hm]; exact HR.out.len.symm
    have HCt := Lib.hid hct
    clear hct ha hm
    obtain ⟨M, hM⟩ : ∃ M : Int, M = ((min n 63 : Nat) : Int) := ⟨_, rfl⟩
    have hif : (if (n : Int) < 63 then (n : Int) else 63) = M := by rw [hM]; split <;> omega
    have hsub : 3 + (n : Int) - 3 = n := by omega
    have hM0 : 0 ≤ M := by omega
    have hM1 : M ≤ 63 := by omega
    have HM := Lib.hid hM
    clear hM
    go_enter Tryd.func15, Tryd.ntmps15
    go_wp2_with (at_builtin; rw [← HW1.out]; refine wpList_append_list rfl _ _ 23 rfl w.heap.size 5 i0 (.int .u8 0) 1 Tryd.underlying23 HI.out HZ0.out HZ1.out HZ2.out rfl .u8 _ 3 _ rfl (by exact HOr.out) s n c l rfl (by exact HR1.out) (by unfold maxLen; omega) (by omega) hsz ?_)
    intro v3 W3 h5 h6
    have hb3 := HBw.out.grown h6 hsz (fun g hg => (ownBlock_lt HOr.out hg).1)
    obtain ⟨g3, c3, rest, rfl, hg3, ho3⟩ := ownsRow_own h5 (by omega)
    have hc2 := ho3.cell 2 (by simp [nums])
    have hf2 := ho3.frozen 2
    have hset := ho3.set 2 (.int .u8 M)
    have hbs := hb3.setCell (p := ⟨g3, 2, none⟩) hg3 (.int .u8 M)
    obtain ⟨hle3, hcm3⟩ := ownsRow_cap h5
    simp [nums] at hc2
    have HSet := Lib.hid hset
    have HBs := Lib.hid hbs
    clear h5 h6 hb3 ho3 hset hbs k0 k1 k2 k3 k4 k5 k6
    go_wp2
    go_ret
    refine ⟨⟨_, _, rfl, ?_⟩, HBs.out⟩
    have hs := HSet.out
    have he : encL a0 false a2 true a4 a5 l = [low a0 false, low a2 true, M] ++ l := by unfold encL; rw [HCt.out, HM.out, ← HR.out.len]; rfl
    rw [he]
    refine own_front (l := [low a0 false, low a2 true, M] ++ l) (rest := rest) (by simpa [nums] using hs) (by simp [HR.out.len]; omega) (by omega) (by omega) ?_
    simp only [List.cons_append, List.nil_append, List.mem_cons]
    rintro x (hx | hx | hx | hx)
    · rw [hx]; exact wf_u8.2 (low_oct h0 g0)
    · rw [hx]; exact wf_u8.2 (low_oct h2 g2)
    · rw [hx]; exact wf_u8.2 (by omega)
    · exact HR.out.wf x hx
set_option maxHeartbeats 4000000 in
set_option maxRecDepth 100000 in
theorem octets_2 (a0 a2 a4 a5 : Int) (s : Option Addr) (n c m : Nat) (l : List Int) (w : World) (h0 : 0 ≤ a0) (h2 : 0 ≤ a2) (h4 : 0 ≤ a4) (h5 : 0 ≤ a5) (h : Row .u8 w s n c l)
    (hE : chk a0 a2 a4 a5 n = 0) (hm : (contL a4 a5 l).length = m) :
    Calls Tryd.prog 15 #[.agg #[.int .u8 a0, .bool true, .int .u8 a2, .bool false, .int .u8 a4, .int .u8 a5, .slice s n c]] w
      fun e w' => (∃ a c', e = .returned (.slice a (3 + m) c') ∧ Row .u8 w' a (3 + m) c' (encL a0 true a2 false a4 a5 l)) ∧ Below w.heap.size w w' := by
  obtain ⟨g0, g2, g4, g5, _, g6, g7⟩ := chk_ok.1 hE
  have hcm := h.max
  unfold maxLen at hcm
  have hle := h.le
  have hn1 : a4 = 1 → n = 0 := fun hh => by omega
  have hn273 : n ≤ 273 := by omega
  obtain ⟨i0, hi, hz0, hz1, hz2⟩ := info_parts info8
  have HI := Lib.hid hi
  have HZ0 := Lib.hid hz0
  have HZ1 := Lib.hid hz1
  have HZ2 := Lib.hid hz2
  have HR := Lib.hid h
  clear h hE g6 g7 hi hz0 hz1 hz2
  have hl0 := own_lit (w.alloc (.cells #[.int .u8 a0, .bool true, .int .u8 a2, .bool false, .int .u8 a4, .int .u8 a5, .slice s n c] 25)) 5 #[.int .u8 (a0 + 128), .int .u8 a2, .int .u8 0] _ rfl
  rw [World.size_alloc] at hl0
  obtain ⟨W1, hW1⟩ : ∃ W, W = ((w.alloc (.cells #[.int .u8 a0, .bool true, .int .u8 a2, .bool false, .int .u8 a4, .int .u8 a5, .slice s n c] 25)).alloc (.cells #[.int .u8 (a0 + 128), .int .u8 a2, .int .u8 0] 5)) := ⟨_, rfl⟩
  have hown : Own W1 (w.heap.size + 1) 5 (nums .u8 [low a0 true, low a2 false, 0]) := by rw [hW1]; exact hl0
  have hbw : Below w.heap.size w W1 := by rw [hW1]; exact ((Below.refl _ _).alloc (Nat.le_refl _) _).alloc (by simp) _
  have hor := owns_of_own (n := 3) hown rfl (Nat.le_succ _) (by decide)
  have hbx : Own W1 w.heap.size 25 [.int .u8 a0, .bool true, .int .u8 a2, .bool false, .int .u8 a4, .int .u8 a5, .slice s n c] := by
    rw [hW1]
    exact ((own_lit w 25 #[.int .u8 a0, .bool true, .int .u8 a2, .bool false, .int .u8 a4, .int .u8 a5, .slice s n c] _ rfl).below (below_alloc _ _) (by simp))
  have hH : W1.heap.size = w.heap.size + 1 + 1 := by rw [hW1]; simp
  have hsz := hbw.size
  have hlt1 := hown.lt
  obtain ⟨k0, k1, k2, k3, k4, k5, k6⟩ := unit_cells hbx
  have HW1 := Lib.hid hW1
  have HOr := Lib.hid hor
  have HBx := Lib.hid hbx
  have HBw := Lib.hid hbw
  have HR1 := Lib.hid (HR.out.later hbw)
  have HH := Lib.hid hH
  clear hl0 hW1 hor hbx hbw hown hH
  by_cases ha : a4 = 1
  · subst ha
    obtain rfl : n = 0 := hn1 rfl
    obtain rfl : m = 1 := by rw [← hm]; simp [contL]
    clear hm
    go_enter Tryd.func15, Tryd.ntmps15
    go_wp2_with (at_builtin; rw [← HW1.out]; refine wpList_append_one_num Tryd.underlying23 info8 (by decide) rfl _ _ rfl (w.heap.size + 1 + 1) HH.out w.heap.size _ 3 _ a5 rfl (by exact HOr.out) rfl (by omega) hsz ?_)
    intro v2 W2 h2 h3 gv cv h4
    subst h4
    have hb2 := h3.below hsz (fun k hk => (ownBlock_lt HOr.out hk).1)
    have hbx2 := HBx.out.exc h3.exc (fun hh => by have h9 : w.heap.size + 1 = w.heap.size := Option.some.inj hh; omega)
    have hb02 := HBw.out.trans hb2
    have hsz2 := hb02.size
    obtain ⟨j0, j1, j2, j3, j4, j5, j6⟩ := unit_cells hbx2
    have HR2 := Lib.hid (HR.out.later hb02)
    have HB2 := Lib.hid hb02
    have HO2 := Lib.hid h2
    clear h2 h3 hb2 hbx2 hb02 k0 k1 k2 k3 k4 k5 k6
    go_wp2_with (at_builtin; (refine wpList_append_list rfl _ _ 23 rfl w.heap.size 5 i0 (.int .u8 0) 1 Tryd.underlying23 HI.out HZ0.out HZ1.out HZ2.out rfl .u8 _ _ _ rfl (by exact HO2.out) _ _ _ _ rfl (by exact HR2.out) (by unfold maxLen; omega) (by omega) hsz2 ?_))
    intro v3 W3 h5 h6
    have hl00 : l = [] := List.eq_nil_of_length_eq_zero HR.out.len
    have hb3 := HB2.out.grown h6 hsz2 (fun g hg => (ownBlock_lt HO2.out hg).1)
    obtain ⟨g3, c3, rest, rfl, hg3, ho3⟩ := ownsRow_own h5 (by omega)
    have hc2 := ho3.cell 2 (by simp [nums])
    have hf2 := ho3.frozen 2
    have hset := ho3.set 2 (.int .u8 1)
    have hbs := hb3.setCell (p := ⟨g3, 2, none⟩) hg3 (.int .u8 1)
    obtain ⟨hle3, hcm3⟩ := ownsRow_cap h5
    have HSet := Lib.hid hset
    have HBs := Lib.hid hbs
    have HL0 := Lib.hid hl00
    have HC2 := Lib.hid hc2
    have hcc := HC2.out
    simp [nums] at hcc
    clear h5 h6 hb3 ho3 hset hbs hl00 hc2
    go_wp2
    go_ret
    refine ⟨⟨_, _, rfl, ?_⟩, HBs.out⟩
    have hs := HSet.out
    rw [HL0.out] at hs
    have he : encL a0 true a2 false 1 a5 l = [low a0 true, low a2 false, 1, a5] := by rw [HL0.out]; rfl
    rw [he]
    refine own_front (l := [low a0 true, low a2 false, 1, a5]) (rest := rest) (by simpa [nums] using hs) rfl (by omega) (by omega) ?_
    simp only [List.mem_cons, List.not_mem_nil, or_false]
    rintro x (hx | hx | hx | hx)
    · rw [hx]; exact wf_u8.2 (low_oct h0 g0)
    · rw [hx]; exact wf_u8.2 (low_oct h2 g2)
    · rw [hx]; exact wf_u8.2 (by omega)
    · rw [hx]; exact wf_u8.2 (by omega)
  · have hb41 : (a4 == 1) = false := by simpa using ha
    have hct : contL a4 a5 l = l := by unfold contL; rw [if_neg ha]
    rw [hct] at hm
    obtain rfl : n = m := by rw [← hm]; exact HR.out.len.symm
    have HCt := Lib.hid hct
    clear hct ha hm
    obtain ⟨M, hM⟩ : ∃ M : Int, M = ((min n 63 : Nat) : Int) := ⟨_, rfl⟩
    have hif : (if (n : Int) < 63 then (n : Int) else 63) = M := by rw [hM]; split <;> omega
    have hsub : 3 + (n : Int) - 3 = n := by omega
    have hM0 : 0 ≤ M := by omega
    have hM1 : M ≤ 63 := by omega
    have HM := Lib.hid hM
    clear hM
    go_enter Tryd.func15, Tryd.ntmps15
    go_wp2_with (at_builtin; rw [← HW1.out]; refine wpList_append_list rfl _ _ 23 rfl w.heap.size 5 i0 (.int .u8 0) 1 Tryd.underlying23 HI.out HZ0.out HZ1.out HZ2.out rfl .u8 _ 3 _ rfl (by exact HOr.out) s n c l rfl (by exact HR1.out) (by unfold maxLen; omega) (by omega) hsz ?_)
    intro v3 W3 h5 h6
    have hb3 := HBw.out.grown h6 hsz (fun g hg => (ownBlock_lt HOr.out hg).1)
    obtain ⟨g3, c3, rest, rfl, hg3, ho3⟩ := ownsRow_own h5 (by omega)
    have hc2 := ho3.cell 2 (by simp [nums])
    have hf2 := ho3.frozen 2
    have hset := ho3.set 2 (.int .u8 M)
    have hbs := hb3.setCell (p := ⟨g3, 2, none⟩) hg3 (.int .u8 M)
    obtain ⟨hle3, hcm3⟩ := ownsRow_cap h5
    simp [nums] at hc2
    have HSet := Lib.hid hset
    have HBs := Lib.hid hbs
    clear h5 h6 hb3 ho3 hset hbs k0 k1 k2 k3 k4 k5 k6
    go_wp2
    go_ret
    refine ⟨⟨_, _, rfl, ?_⟩, HBs.out⟩
    have hs := HSet.out
    have he : encL a0 true a2 false a4 a5 l = [low a0 true, low a2 false, M] ++ l := by unfold encL; rw [HCt.out, HM.out, ← HR.out.len]; rfl
    rw [he]
    refine own_front (l := [low a0 true, low a2 false, M] ++ l) (rest := rest) (by simpa [nums] using hs) (by simp [HR.out.len]; omega) (by omega) (by omega) ?_
    simp only [List.cons_append, List.nil_append, List.mem_cons]
    rintro x (hx | hx | hx | hx)
    · rw [hx]; exact wf_u8.2 (low_oct h0 g0)
    · rw [hx]; exact wf_u8.2 (low_oct h2 g2)
    · rw [hx]; exact wf_u8.2 (by omega)
    · exact HR.out.wf x hx
set_option maxHeartbeats 4000000 in
set_option maxRecDepth 100000 in
theorem octets_3 (a0 a2 a4 a5 : Int) (s : Option Addr) (n c m : Nat) (l : List Int) (w : World) (h0 : 0 ≤ a0) (h2 : 0 ≤ a2) (h4 : 0 ≤ a4) (h5 : 0 ≤ a5) (h : Row .u8 w s n c l)
    (hE : chk a0 a2 a4 a5 n = 0) (hm : (contL a4 a5 l).length = m) :
    Calls Tryd.prog 15 #[.agg #[.int .u8 a0, .bool true, .int .u8 a2, .bool true, .int .u8 a4, .int .u8 a5, .slice s n c]] w
      fun e w' => (∃ a c', e = .returned (.slice a (3 + m) c') ∧ Row .u8 w' a (3 + m) c' (encL a0 true a2 true a4 a5 l)) ∧ Below w.heap.size w w' := by
  obtain ⟨g0, g2, g4, g5, _, g6, g7⟩ := chk_ok.1 hE
  have hcm := h.max
  unfold maxLen at hcm
  have hle := h.le
  have hn1 : a4 = 1 → n = 0 := fun hh => by omega
  have hn273 : n ≤ 273 := by omega
  obtain ⟨i0, hi, hz0, hz1, hz2⟩ := info_parts info8
  have HI := Lib.hid hi
  have HZ0 := Lib.hid hz0
  have HZ1 := Lib.hid hz1
  have HZ2 := Lib.hid hz2
  have HR := Lib.hid h
  clear h hE g6 g7 hi hz0 hz1 hz2
  have hl0 := own_lit (w.alloc (.cells #[.int .u8 a0, .bool true, .int .u8 a2, .bool true, .int .u8 a4, .int .u8 a5, .slice s n c] 25)) 5 #[.int .u8 (a0 + 128), .int .u8 (a2 + 128), .int .u8 0] _ rfl
  rw [World.size_alloc] at hl0
  obtain ⟨W1, hW1⟩ : ∃ W, W = ((w.alloc (.cells #[.int .u8 a0, .bool true, .int .u8 a2, .bool true, .int .u8 a4, .int .u8 a5, .slice s n c] 25)).alloc (.cells #[.int .u8 (a0 + 128), .int .u8 (a2 + 128), .int .u8 0] 5)) := ⟨_, rfl⟩
  have hown : Own W1 (w.heap.size + 1) 5 (nums .u8 [low a0 true, low a2 true, 0]) := by rw [hW1]; exact hl0
  have hbw : Below w.heap.size w W1 := by rw [hW1]; exact ((Below.refl _ _).alloc (Nat.le_refl _) _).alloc (by simp) _
  have hor := owns_of_own (n := 3) hown rfl (Nat.le_succ _) (by decide)
  have hbx : Own W1 w.heap.size 25 [.int .u8 a0, .bool true, .int .u8 a2, .bool true, .int .u8 a4, .int .u8 a5, .slice s n c] := by
    rw [hW1]
    exact ((own_lit w 25 #[.int .u8 a0, .bool true, .int .u8 a2, .bool true, .int .u8 a4, .int .u8 a5, .slice s n c] _ rfl).below (below_alloc _ _) (by simp))
  have hH : W1.heap.size = w.heap.size + 1 + 1 := by rw [hW1]; simp
  have hsz := hbw.size
  have hlt1 := hown.lt
  obtain ⟨k0, k1, k2, k3, k4, k5, k6⟩ := unit_cells hbx
  have HW1 := Lib.hid hW1
  have HOr := Lib.hid hor
  have HBx := Lib.hid hbx
  have HBw := Lib.hid hbw
  have HR1 := Lib.hid (HR.out.later hbw)
  have HH := Lib.hid hH
  clear hl0 hW1 hor hbx hbw hown hH
  by_cases ha : a4 = 1
  · subst ha
    obtain rfl : n = 0 := hn1 rfl
    obtain rfl : m = 1 := by rw [← hm]; simp [contL]
    clear hm
    go_enter Tryd.func15, Tryd.ntmps15
    go_wp2_with (at_builtin; rw [← HW1.out]; refine wpList_append_one_num Tryd.underlying23 info8 (by decide) rfl _ _ rfl (w.heap.size + 1 + 1) HH.out w.heap.size _ 3 _ a5 rfl (by exact HOr.out) rfl (by omega) hsz ?_)
    intro v2 W2 h2 h3 gv cv h4
    subst h4
    have hb2 := h3.below hsz (fun k hk => (ownBlock_lt HOr.out hk).1)
    have hbx2 := HBx.out.exc h3.exc (fun hh => by have h9 : w.heap.size + 1 = w.heap.size := Option.some.inj hh; omega)
    have hb02 := HBw.out.trans hb2
    have hsz2 := hb02.size
    obtain ⟨j0, j1, j2, j3, j4, j5, j6⟩ := unit_cells hbx2
    have HR2 := Lib.hid (HR.out.later hb02)
    have HB2 := Lib.hid hb02
    have HO2 := Lib.hid h2
    clear h2 h3 hb2 hbx2 hb02 k0 k1 k2 k3 k4 k5 k6
    go_wp2_with (at_builtin; (refine wpList_append_list rfl _ _ 23 rfl w.heap.size 5 i0 (.int .u8 0) 1 Tryd.underlying23 HI.out HZ0.out HZ1.out HZ2.out rfl .u8 _ _ _ rfl (by exact HO2.out) _ _ _ _ rfl (by exact HR2.out) (by unfold maxLen; omega) (by omega) hsz2 ?_))
    intro v3 W3 h5 h6
    have hl00 : l = [] := List.eq_nil_of_length_eq_zero HR.out.len
    have hb3 := HB2.out.grown h6 hsz2 (fun g hg => (ownBlock_lt HO2.out hg).1)
    obtain ⟨g3, c3, rest, rfl, hg3, ho3⟩ := ownsRow_own h5 (by omega)
    have hc2 := ho3.cell 2 (by simp [nums])
    have hf2 := ho3.frozen 2
    have hset := ho3.set 2 (.int .u8 1)
    have hbs := hb3.setCell (p := ⟨g3, 2, none⟩) hg3 (.int .u8 1)
    obtain ⟨hle3, hcm3⟩ := ownsRow_cap h5
    have HSet := Lib.hid hset
    have HBs := Lib.hid hbs
    have HL0 := Lib.hid hl00
    have HC2 := Lib.hid hc2
    have hcc := HC2.out
    simp [nums] at hcc
    clear h5 h6 hb3 ho3 hset hbs hl00 hc2
    go_wp2
    go_ret
    refine ⟨⟨_, _, rfl, ?_⟩, HBs.out⟩
    have hs := HSet.out
    rw [HL0.out] at hs
    have he : encL a0 true a2 true 1 a5 l = [low a0 true, low a2 true, 1, a5] := by rw [HL0.out]; rfl
    rw [he]
    refine own_front (l := [low a0 true, low a2 true, 1, a5]) (rest := rest) (by simpa [nums] using hs) rfl (by omega) (by omega) ?_
    simp only [List.mem_cons, List.not_mem_nil, or_false]
    rintro x (hx | hx | hx | hx)
    · rw [hx]; exact wf_u8.2 (low_oct h0 g0)
    · rw [hx]; exact wf_u8.2 (low_oct h2 g2)
    · rw [hx]; exact wf_u8.2 (by omega)
    · rw [hx]; exact wf_u8.2 (by omega)
  · have hb41 : (a4 == 1) = false := by simpa using ha
    have hct : contL a4 a5 l = l := by unfold contL; rw [if_neg ha]
    rw [hct] at hm
    obtain rfl : n = m := by rw [← hm]; exact HR.out.len.symm
    have HCt := Lib.hid hct
    clear hct ha hm
    obtain ⟨M, hM⟩ : ∃ M : Int, M = ((min n 63 : Nat) : Int) := ⟨_, rfl⟩
    have hif : (if (n : Int) < 63 then (n : Int) else 63) = M := by rw [hM]; split <;> omega
    have hsub : 3 + (n : Int) - 3 = n := by omega
    have hM0 : 0 ≤ M := by omega
    have hM1 : M ≤ 63 := by omega
    have HM := Lib.hid hM
    clear hM
    go_enter Tryd.func15, Tryd.ntmps15
    go_wp2_with (at_builtin; rw [← HW1.out]; refine wpList_append_list rfl _ _ 23 rfl w.heap.size 5 i0 (.int .u8 0) 1 Tryd.underlying23 HI.out HZ0.out HZ1.out HZ2.out rfl .u8 _ 3 _ rfl (by exact HOr.out) s n c l rfl (by exact HR1.out) (by unfold maxLen; omega) (by omega) hsz ?_)
    intro v3 W3 h5 h6
    have hb3 := HBw.out.grown h6 hsz (fun g hg => (ownBlock_lt HOr.out hg).1)
    obtain ⟨g3, c3, rest, rfl, hg3, ho3⟩ := ownsRow_own h5 (by omega)
    have hc2 := ho3.cell 2 (by simp [nums])
    have hf2 := ho3.frozen 2
    have hset := ho3.set 2 (.int .u8 M)
    have hbs := hb3.setCell (p := ⟨g3, 2, none⟩) hg3 (.int .u8 M)
    obtain ⟨hle3, hcm3⟩ := ownsRow_cap h5
    simp [nums] at hc2
    have HSet := Lib.hid hset
    have HBs := Lib.hid hbs
    clear h5 h6 hb3 ho3 hset hbs k0 k1 k2 k3 k4 k5 k6
    go_wp2
    go_ret
    refine ⟨⟨_, _, rfl, ?_⟩, HBs.out⟩
    have hs := HSet.out
    have he : encL a0 true a2 true a4 a5 l = [low a0 true, low a2 true, M] ++ l := by unfold encL; rw [HCt.out, HM.out, ← HR.out.len]; rfl
    rw [he]
    refine own_front (l := [low a0 true, low a2 true, M] ++ l) (rest := rest) (by simpa [nums] using hs) (by simp [HR.out.len]; omega) (by omega) (by omega) ?_
    simp only [List.cons_append, List.nil_append, List.mem_cons]
    rintro x (hx | hx | hx | hx)
    · rw [hx]; exact wf_u8.2 (low_oct h0 g0)
    · rw [hx]; exact wf_u8.2 (low_oct h2 g2)
    · rw [hx]; exact wf_u8.2 (by omega)
    · exact HR.out.wf x hx
theorem octets_any (a0 : Int) (b1 : Bool) (a2 : Int) (b3 : Bool) (a4 a5 : Int) (s : Option Addr) (n c m : Nat) (l : List Int) (w : World) (h0 : 0 ≤ a0) (h2 : 0 ≤ a2) (h4 : 0 ≤ a4) (h5 : 0 ≤ a5) (h : Row .u8 w s n c l)
    (hE : chk a0 a2 a4 a5 n = 0) (hm : (contL a4 a5 l).length = m) :
    Calls Tryd.prog 15 #[.agg #[.int .u8 a0, .bool b1, .int .u8 a2, .bool b3, .int .u8 a4, .int .u8 a5, .slice s n c]] w
      fun e w' => (∃ a c', e = .returned (.slice a (3 + m) c') ∧ Row .u8 w' a (3 + m) c' (encL a0 b1 a2 b3 a4 a5 l)) ∧ Below w.heap.size w w' := by
  cases b1 <;> cases b3
  · exact octets_0 a0 a2 a4 a5 s n c m l w h0 h2 h4 h5 h hE hm
  · exact octets_1 a0 a2 a4 a5 s n c m l w h0 h2 h4 h5 h hE hm
  · exact octets_2 a0 a2 a4 a5 s n c m l w h0 h2 h4 h5 h hE hm
  · exact octets_3 a0 a2 a4 a5 s n c m l w h0 h2 h4 h5 h hE hm
end Go.Proofs.YtkfookiakpnlfaaDoor
