/- Contracts of package units: Decode. -/
import Derived.Test.YtnecdmihnndebaaDoorUnOf
namespace Go.Proofs.YtnecdmihnndebaaDoor
open Go.RowKit

theorem chk_dec {x0 x1 : Int} {d : List Int} (hd : d.length ≤ 273) (_h0 : 0 ≤ x0) (_h1 : 0 ≤ x1) : chk (x0 % 128) (x1 % 128) (kindL d) (statL d) (loadL d).length = if statL d ≤ 5 then 0 else 1 := by
  have e1 : x0 % 128 ≤ 127 := by omega
  have e2 : x1 % 128 ≤ 127 := by omega
  unfold kindL statL loadL
  by_cases hd0 : d.length = 0
  · rw [if_pos hd0, if_neg (by omega), if_neg (by omega), if_pos (by omega)]
    exact chk_ok.2 (by simp; omega)
  · by_cases hd1 : d.length = 1
    · obtain ⟨s, hs⟩ : ∃ s, s = d.getD 0 0 := ⟨_, rfl⟩
      rw [if_neg hd0, if_pos hd1, if_pos hd1, if_neg (by omega), ← hs]
      split
      · exact chk_ok.2 (by simp; omega)
      · unfold chk; rw [if_pos (by omega)]
    · rw [if_neg hd0, if_neg hd1, if_neg hd1, if_pos (by omega), if_pos (by omega)]
      exact chk_ok.2 (by simp; omega)
theorem kindL_range (d : List Int) : 0 ≤ kindL d ∧ kindL d ≤ 2 := by unfold kindL; split; · omega
                                                                     split <;> omega
theorem statL_range {d : List Int} (h : ∀ x ∈ d, 0 ≤ x ∧ x ≤ 255) : 0 ≤ statL d ∧ statL d ≤ 255 := by
  unfold statL; split
  · rw [List.getD_eq_getElem?_getD, List.getElem?_eq_getElem (by omega), Option.getD_some]
    exact h _ (List.getElem_mem _)
  · omega
theorem Row.octs8 {w : World} {a : Option Addr} {n c : Nat} {l : List Int} (h : Row .u8 w a n c l) : ∀ x ∈ l, 0 ≤ x ∧ x ≤ 255 := fun x hx => wf_u8.1 (h.wf x hx)
theorem getD_octs {l : List Int} (h : ∀ x ∈ l, 0 ≤ x ∧ x ≤ 255) (i : Nat) : 0 ≤ l.getD i 0 ∧ l.getD i 0 ≤ 255 := by
  by_cases hi : i < l.length
  · rw [List.getD_eq_getElem?_getD, List.getElem?_eq_getElem hi, Option.getD_some]; exact h _ (List.getElem_mem hi)
  · rw [List.getD_eq_getElem?_getD, List.getElem?_eq_none (by omega)]; simp
theorem number_0 (g b o n c : Nat) (x : Int) (w : World) (hx0 : 0 ≤ x) (hx1 : x ≤ 255) (hi : 0 < n) (hg : w.cell? ⟨g, 0, none⟩ = some (.slice (some ⟨b, o, none⟩) n c)) (hc : w.cell? ⟨b, o, none⟩ = some (.int .u8 x)) :
    Calls Tryd.prog 38 #[.int .i64 0, .pointer (some ⟨g, 0, none⟩)] w fun e w' => e = .returned (.tuple #[.int .u8 (x % 128), .bool (decide (128 ≤ x))]) ∧ ∃ q, w' = w.drewN q := by
  have := number_any 0 g b o n c x w hx0 hx1 hi hg (by simpa using hc)
  simpa using this
theorem number_1 (g b o n c : Nat) (x : Int) (w : World) (hx0 : 0 ≤ x) (hx1 : x ≤ 255) (hi : 1 < n) (hg : w.cell? ⟨g, 0, none⟩ = some (.slice (some ⟨b, o, none⟩) n c)) (hc : w.cell? ⟨b, o + 1, none⟩ = some (.int .u8 x)) :
    Calls Tryd.prog 38 #[.int .i64 1, .pointer (some ⟨g, 0, none⟩)] w fun e w' => e = .returned (.tuple #[.int .u8 (x % 128), .bool (decide (128 ≤ x))]) ∧ ∃ q, w' = w.drewN q := by
  have := number_any 1 g b o n c x w hx0 hx1 hi hg hc
  simpa using this
set_option maxHeartbeats 1000000 in
set_option maxRecDepth 100000 in
theorem decode_width (a : Option Addr) (n c : Nat) (w : World) (h : n < 3 ∨ 276 < n) (hn : n ≤ 9223372036854775807) :
    Calls Tryd.prog 25 #[.slice a n c] w fun e w' => e = .returned (.tuple #[.agg #[.int .u8 0, .bool false, .int .u8 0, .bool false, .int .u8 0, .int .u8 0, .slice none 0 0], .int .i64 5]) ∧ Below w.heap.size w w' := by
  rcases h with h | h
  case' inr =>
    have hA : decide ((n : Int) ≤ 276) = false := decide_eq_false (by omega)
    have hB : 3 ≤ n := by omega
  all_goals
    go_enter Tryd.func25, Tryd.ntmps25
    go_wp2
    exact bodyPost_ret (v := .tuple #[.agg #[.int .u8 0, .bool false, .int .u8 0, .bool false, .int .u8 0, .int .u8 0, .slice none 0 0], .int .i64 5]) (by simp [results, Tryd.results25, go_sem]) rfl ⟨rfl, ((Below.refl _ _).alloc (Nat.le_refl _) _).alloc (by simp) _⟩
set_option maxHeartbeats 1000000 in
set_option maxRecDepth 100000 in
theorem decode_form (a : Option Addr) (n c : Nat) (l : List Int) (w : World) (h : Row .u8 w a n c l) (h3 : 3 ≤ n) (hn : n ≤ 276) (h2 : l.getD 2 0 ≠ ((min (n - 3) 63 : Nat) : Int)) :
    Calls Tryd.prog 25 #[.slice a n c] w fun e w' => e = .returned (.tuple #[.agg #[.int .u8 0, .bool false, .int .u8 0, .bool false, .int .u8 0, .int .u8 0, .slice none 0 0], .int .i64 4]) ∧ Below w.heap.size w w' := by
  obtain ⟨b, o, rfl⟩ : ∃ b o, a = some ⟨b, o, none⟩ := by
    rcases h.cells with h0 | ⟨b, o, ha, _⟩
    · omega
    · exact ⟨b, o, ha⟩
  have hoct := h.octs8
  have hl := h.len
  have hle := h.le
  have hcm := h.max
  unfold maxLen at hcm
  rcases h.cells with h0 | ⟨b', o', ha, hc⟩
  · omega
  simp at ha
  obtain ⟨rfl, rfl⟩ := ha
  obtain ⟨mn, A, N, C, hmn, hrs, hrsa, hrow⟩ := cut_min (some ⟨b, o, none⟩) n c 3 l w h
  rw [if_neg (by omega)] at hmn
  obtain rfl : mn = 3 := by omega
  have hA : decide ((n : Int) ≤ 276) = true := decide_eq_true (by omega)
  have hrs3 : ∀ W, (Instr.slice 23 (.slice (some ⟨b, o, none⟩) n c) (some (.int .i64 3)) none none).run Tryd.prog W = .ok (.slice A N C) W := hrs
  have hrsa3 : ∀ W, (Instr.sliceAt 23 (.slice (some ⟨b, o, none⟩) n c) (some (.int .i64 3)) none none).run Tryd.prog W = .ok (.slice A N C) W := hrsa
  clear hrs hrsa
  have hNl := (hrow w h).len
  have hd3 : (l.drop 3).length = n - 3 := by rw [List.length_drop, hl]
  obtain rfl : N = n - 3 := by omega
  obtain ⟨N, hN⟩ : ∃ N, N = n - 3 := ⟨_, rfl⟩
  rw [← hN] at hrs3 hrsa3 hrow hd3
  have hN1 : N ≤ 273 := by omega
  obtain ⟨d, hd⟩ : ∃ d, d = l.drop 3 := ⟨_, rfl⟩
  rw [← hd] at hrow hd3
  have hblt : b < w.heap.size := World.block_lt_of_cell? w _ (hc 0 (by omega))
  have c0 := hc 0 (by omega)
  have c1 := hc 1 (by omega)
  have c2 := hc 2 (by omega)
  obtain ⟨hx00, hx01⟩ := getD_octs hoct 0
  obtain ⟨hx10, hx11⟩ := getD_octs hoct 1
  obtain ⟨hx20, hx21⟩ := getD_octs hoct 2
  obtain ⟨M, hM⟩ : ∃ M : Int, M = ((min N 63 : Nat) : Int) := ⟨_, rfl⟩
  have hif : (if (63 : Int) < (N : Int) then (63 : Int) else (N : Int)) = M := by rw [hM]; split <;> omega
  have hdo : ∀ x ∈ d, 0 ≤ x ∧ x ≤ 255 := fun x hx => hoct x (List.mem_of_mem_drop (by rw [← hd]; exact hx))
  obtain ⟨x2, e2⟩ : ∃ x2, x2 = l.getD 2 0 := ⟨_, rfl⟩
  rw [← e2] at c2 h2 hx20 hx21
  rw [← hN, ← hM] at h2
  have hne : (x2 != M) = true := by simpa using h2
  clear h hoct hl hc hmn hrow hNl hd3 hd hN e2 hM h2 c0 c1 hdo hx00 hx01 hx10 hx11
  go_enter Tryd.func25, Tryd.ntmps25
  go_wp2
  exact bodyPost_ret (v := .tuple #[.agg #[.int .u8 0, .bool false, .int .u8 0, .bool false, .int .u8 0, .int .u8 0, .slice none 0 0], .int .i64 4]) (by simp [results, Tryd.results25, go_sem]) rfl ⟨rfl, ((Below.refl _ _).alloc (Nat.le_refl _) _).alloc (by simp) _⟩
set_option maxHeartbeats 2000000 in
set_option maxRecDepth 100000 in
theorem decode_ok (a : Option Addr) (n c m : Nat) (l : List Int) (w : World) (h : Row .u8 w a n c l) (h3 : 3 ≤ n) (hn : n ≤ 276) (h2 : l.getD 2 0 = ((min (n - 3) 63 : Nat) : Int)) (h5 : statL (l.drop 3) ≤ 5) (hm : (loadL (l.drop 3)).length = m) :
    Calls Tryd.prog 25 #[.slice a n c] w fun e w' => (∃ s, e = .returned (.tuple #[.agg #[.int .u8 (l.getD 0 0 % 128), .bool (decide (128 ≤ l.getD 0 0)), .int .u8 (l.getD 1 0 % 128), .bool (decide (128 ≤ l.getD 1 0)), .int .u8 (kindL (l.drop 3)), .int .u8 (statL (l.drop 3)), .slice s m m], .int .i64 0]) ∧ LoadAt w' w.heap.size s (loadL (l.drop 3))) ∧ Below w.heap.size w w' := by
  obtain ⟨b, o, rfl⟩ : ∃ b o, a = some ⟨b, o, none⟩ := by
    rcases h.cells with h0 | ⟨b, o, ha, _⟩
    · omega
    · exact ⟨b, o, ha⟩
  have hoct := h.octs8
  have hl := h.len
  have hle := h.le
  have hcm := h.max
  unfold maxLen at hcm
  rcases h.cells with h0 | ⟨b', o', ha, hc⟩
  · omega
  simp at ha
  obtain ⟨rfl, rfl⟩ := ha
  obtain ⟨mn, A, N, C, hmn, hrs, hrsa, hrow⟩ := cut_min (some ⟨b, o, none⟩) n c 3 l w h
  rw [if_neg (by omega)] at hmn
  obtain rfl : mn = 3 := by omega
  have hA : decide ((n : Int) ≤ 276) = true := decide_eq_true (by omega)
  have hrs3 : ∀ W, (Instr.slice 23 (.slice (some ⟨b, o, none⟩) n c) (some (.int .i64 3)) none none).run Tryd.prog W = .ok (.slice A N C) W := hrs
  have hrsa3 : ∀ W, (Instr.sliceAt 23 (.slice (some ⟨b, o, none⟩) n c) (some (.int .i64 3)) none none).run Tryd.prog W = .ok (.slice A N C) W := hrsa
  clear hrs hrsa
  have hNl := (hrow w h).len
  have hd3 : (l.drop 3).length = n - 3 := by rw [List.length_drop, hl]
  obtain rfl : N = n - 3 := by omega
  obtain ⟨N, hN⟩ : ∃ N, N = n - 3 := ⟨_, rfl⟩
  rw [← hN] at hrs3 hrsa3 hrow hd3
  have hN1 : N ≤ 273 := by omega
  obtain ⟨d, hd⟩ : ∃ d, d = l.drop 3 := ⟨_, rfl⟩
  rw [← hd] at hrow hd3
  have hblt : b < w.heap.size := World.block_lt_of_cell? w _ (hc 0 (by omega))
  have c0 := hc 0 (by omega)
  have c1 := hc 1 (by omega)
  have c2 := hc 2 (by omega)
  obtain ⟨hx00, hx01⟩ := getD_octs hoct 0
  obtain ⟨hx10, hx11⟩ := getD_octs hoct 1
  obtain ⟨hx20, hx21⟩ := getD_octs hoct 2
  obtain ⟨M, hM⟩ : ∃ M : Int, M = ((min N 63 : Nat) : Int) := ⟨_, rfl⟩
  have hif : (if (63 : Int) < (N : Int) then (63 : Int) else (N : Int)) = M := by rw [hM]; split <;> omega
  have hdo : ∀ x ∈ d, 0 ≤ x ∧ x ≤ 255 := fun x hx => hoct x (List.mem_of_mem_drop (by rw [← hd]; exact hx))
  obtain ⟨x0, e0⟩ : ∃ x, x = l.getD 0 0 := ⟨_, rfl⟩
  obtain ⟨x1, e1⟩ : ∃ x, x = l.getD 1 0 := ⟨_, rfl⟩
  rw [← e0] at c0 hx00 hx01 ⊢
  rw [← e1] at c1 hx10 hx11 ⊢
  rw [h2, ← hN, ← hM] at c2
  rw [← hd] at h5 hm ⊢
  simp only [Nat.add_zero] at c0
  have hM0 : 0 ≤ M := by omega
  have hM1 : M ≤ 63 := by omega
  have hck := chk_dec (x0 := x0) (x1 := x1) (d := d) (by omega) hx00 hx10
  rw [if_pos h5, hm] at hck
  have hun := fun w h => unitOf_any A N C d w h (by omega) m hm
  obtain ⟨hk0, hk1⟩ := kindL_range d
  obtain ⟨hs0, hs1⟩ := statL_range hdo
  have hm1 : m ≤ 273 := by
    rw [← hm]; unfold loadL; split
    · omega
    · simp
  obtain ⟨kd, hkd⟩ : ∃ k, k = kindL d := ⟨_, rfl⟩
  obtain ⟨sd, hsd⟩ : ∃ k, k = statL d := ⟨_, rfl⟩
  obtain ⟨ld, hld⟩ : ∃ k, k = loadL d := ⟨_, rfl⟩
  rw [← hkd, ← hsd] at hck
  rw [← hkd, ← hsd, ← hld] at hun
  rw [← hkd] at hk0 hk1
  rw [← hsd] at hs0 hs1
  rw [← hld] at hm
  rw [← hkd, ← hsd, ← hld]
  have hcc := fun s w => ucheck_any (x0 % 128) (decide (128 ≤ x0)) (x1 % 128) (decide (128 ≤ x1)) kd sd s m m w (by omega) (by omega) (by omega) (by omega) hk0 (by omega) hs0 hs1 (by omega)
  rw [hck] at hcc
  have hmf : ∀ (fn : Fn) (first cap : Array Value) (w : World), (Instr.makeFunc fn first cap).run Tryd.prog w = .ok (.func fn first cap) w := fun _ _ _ _ => rfl
  have HCk := Lib.hid hcc
  have HUn := Lib.hid hun
  have HRow := Lib.hid hrow
  have HR := Lib.hid h
  have g0' : ∀ W, Below w.heap.size w W → W.cell? ⟨b, o, none⟩ = some (.int .u8 x0) := fun W hW => by rw [hW.cell (p := ⟨b, o, none⟩) hblt]; exact c0
  have g1' : ∀ W, Below w.heap.size w W → W.cell? ⟨b, o + 1, none⟩ = some (.int .u8 x1) := fun W hW => by rw [hW.cell (p := ⟨b, o + 1, none⟩) hblt]; exact c1
  have HG0 := Lib.hid g0'
  have HG1 := Lib.hid g1'
  have hb2 : ∀ q : World, Below w.heap.size w q → Row .u8 q A N C d := fun q hq => HRow.out q (HR.out.later hq)
  have HD := Lib.hid hb2
  clear h hoct hl hc hmn hrow hNl hd3 hd hN e0 e1 hM h2 hdo hck hm h5 hkd hsd hld hcc hun c0 c1 g0' g1' hb2
  go_enter Tryd.func25, Tryd.ntmps25
  go_wp2_with (go_at_call 30; go_in)
  have hbz : Below w.heap.size w ((w.alloc (.cells #[.slice (some ⟨b, o, none⟩) n c] 23)).alloc (.cells #[.int .u8 0, .bool false, .int .u8 0, .bool false, .int .u8 0, .int .u8 0, .slice none 0 0] 29)) := ((Below.refl _ _).alloc (Nat.le_refl _) _).alloc (by simp) _
  refine (HUn.out _ (HD.out _ hbz)).mono ?_
  rintro e w1 ⟨⟨s, rfl, hlo⟩, hb1⟩
  have ho1 := (own_lit w 23 #[.slice (some ⟨b, o, none⟩) n c] _ rfl).below ((below_alloc _ (.cells #[.int .u8 0, .bool false, .int .u8 0, .bool false, .int .u8 0, .int .u8 0, .slice none 0 0] 29)).trans (hb1.mono (by simp))) (by simp)
  have hz1 := (own_lit (w.alloc (.cells #[.slice (some ⟨b, o, none⟩) n c] 23)) 29 #[.int .u8 0, .bool false, .int .u8 0, .bool false, .int .u8 0, .int .u8 0, .slice none 0 0] _ rfl).below hb1 (by simp)
  rw [World.size_alloc] at hz1
  have hz1s := hb1.size
  simp at hz1s
  have hbw1 := hbz.trans (hb1.mono hbz.size)
  have k1 := ho1.cell 0 (by simp)
  simp only [List.getD_cons_zero] at k1
  have r0 := HG0.out _ hbw1
  have r1 := HG1.out _ hbw1
  have HO1 := Lib.hid ho1
  have HZ1 := Lib.hid hz1
  have HB1 := Lib.hid hbw1
  have HL1 := Lib.hid hlo
  clear hbz hb1 ho1 hz1 hbw1 hlo
  go_wp2_with fail
  refine (number_0 w.heap.size b o n c x0 _ hx00 hx01 (by omega) ((HO1.out.below (below_alloc _ _) HO1.out.lt).cell 0 (by simp)) (HG0.out _ (HB1.out.trans ((below_alloc _ _).mono HB1.out.size)))).mono ?_
  rintro e w' ⟨rfl, q, rfl⟩
  obtain ⟨w2, hw2⟩ : ∃ W, W = (w1.alloc (.cells #[.int .u8 0, .bool false, .int .u8 0, .bool false, .int .u8 kd, .int .u8 sd, .slice s m m] 29)).drewN q := ⟨_, rfl⟩
  have hb2 : Below w1.heap.size w1 w2 := by rw [hw2]; exact (below_alloc _ _).trans ((below_draw _ q).mono (by simp))
  have ho2 := (own_lit w1 29 #[.int .u8 0, .bool false, .int .u8 0, .bool false, .int .u8 kd, .int .u8 sd, .slice s m m] _ rfl).below (below_draw _ q) (by simp)
  rw [← hw2] at ho2 ⊢
  obtain ⟨z0, z1, z2, z3, z4, z5, z6⟩ := unit_cells ho2
  obtain ⟨f0, f1, f2, f3, f4, f5, f6⟩ := unit_frozen ho2
  have hs2 := hb2.size
  have HX1 := Lib.hid hb2
  have HO2 := Lib.hid ho2
  have HW2 := Lib.hid hw2
  clear hb2 ho2 hw2 k1 r0 r1
  obtain ⟨w3, hw3⟩ : ∃ W, W = (w2.setCell ⟨w1.heap.size, 0, none⟩ (.int .u8 (x0 % 128))).setCell ⟨w1.heap.size, 1, none⟩ (.bool (decide (128 ≤ x0))) := ⟨_, rfl⟩
  have ho3 := (HO2.out.set 0 (.int .u8 (x0 % 128))).set 1 (.bool (decide (128 ≤ x0)))
  have hb3 := (HX1.out.setCell (p := ⟨w1.heap.size, 0, none⟩) (Nat.le_refl _) (.int .u8 (x0 % 128))).setCell (p := ⟨w1.heap.size, 1, none⟩) (Nat.le_refl _) (.bool (decide (128 ≤ x0)))
  simp only [List.set_cons_zero, List.set_cons_succ] at ho3
  rw [← hw3] at ho3 hb3
  have HW3 := Lib.hid hw3
  have HO3 := Lib.hid ho3
  have HX3 := Lib.hid hb3
  clear ho3 hb3 hw3
  go_wp2_with fail
  rw [← HW3.out]
  have hbw3 := HB1.out.trans (HX3.out.mono HB1.out.size)
  refine (number_1 w.heap.size b o n c x1 _ hx10 hx11 (by omega) ((HO1.out.below HX3.out (by omega)).cell 0 (by simp)) (HG1.out _ hbw3)).mono ?_
  rintro e w' ⟨rfl, q2, rfl⟩
  clear z0 z1 z2 z3 z4 z5 z6 f0 f1 f2 f3 f4 f5 f6
  obtain ⟨w4, hw4⟩ : ∃ W, W = w3.drewN q2 := ⟨_, rfl⟩
  have hb4 : Below w1.heap.size w1 w4 := by rw [hw4]; exact HX3.out.trans ((below_draw _ q2).mono HX3.out.size)
  have ho4 := HO3.out.below (below_draw w3 q2) HO3.out.lt
  rw [← hw4] at ho4 ⊢
  obtain ⟨z0, z1, z2, z3, z4, z5, z6⟩ := unit_cells ho4
  obtain ⟨f0, f1, f2, f3, f4, f5, f6⟩ := unit_frozen ho4
  have hs4 := hb4.size
  obtain ⟨w5, hw5⟩ : ∃ W, W = (w4.setCell ⟨w1.heap.size, 2, none⟩ (.int .u8 (x1 % 128))).setCell ⟨w1.heap.size, 3, none⟩ (.bool (decide (128 ≤ x1))) := ⟨_, rfl⟩
  have ho5 := (ho4.set 2 (.int .u8 (x1 % 128))).set 3 (.bool (decide (128 ≤ x1)))
  have hb5 := (hb4.setCell (p := ⟨w1.heap.size, 2, none⟩) (Nat.le_refl _) (.int .u8 (x1 % 128))).setCell (p := ⟨w1.heap.size, 3, none⟩) (Nat.le_refl _) (.bool (decide (128 ≤ x1)))
  simp only [List.set_cons_zero, List.set_cons_succ] at ho5
  rw [← hw5] at ho5 hb5
  have HW5 := Lib.hid hw5
  have HO5 := Lib.hid ho5
  have HX5 := Lib.hid hb5
  clear ho4 hb4 hw4 ho5 hb5 hw5
  go_wp2_with fail
  rw [← HW5.out]
  refine (HCk.out s w5).mono ?_
  rintro e w6 ⟨rfl, hb6⟩
  clear z0 z1 z2 z3 z4 z5 z6 f0 f1 f2 f3 f4 f5 f6
  have ho6 := HO5.out.below hb6 HO5.out.lt
  have hb16 := HX5.out.trans (hb6.mono HX5.out.size)
  have hlo6 := HL1.out.later hb16
  have hz6 := HZ1.out.below hb16 (by omega)
  have hbw6 := HB1.out.trans (hb16.mono HB1.out.size)
  obtain ⟨z0, z1, z2, z3, z4, z5, z6⟩ := unit_cells ho6
  obtain ⟨y0, y1, y2, y3, y4, y5, y6⟩ := unit_cells hz6
  obtain ⟨f0, f1, f2, f3, f4, f5, f6⟩ := unit_frozen hz6
  have HL6 := Lib.hid hlo6
  have HB6 := Lib.hid hbw6
  clear hb6 ho6 hb16 hlo6 hz6 hbw6
  go_wp2
  have HX := Lib.hid ((((((((Exc.refl (fun k => k = w.heap.size + 1) w6).setCell ⟨w.heap.size + 1, 0, none⟩ (.inl rfl) (.int .u8 (x0 % 128))).setCell ⟨w.heap.size + 1, 1, none⟩ (.inl rfl) (.bool (decide (128 ≤ x0)))).setCell ⟨w.heap.size + 1, 2, none⟩ (.inl rfl) (.int .u8 (x1 % 128))).setCell ⟨w.heap.size + 1, 3, none⟩ (.inl rfl) (.bool (decide (128 ≤ x1)))).setCell ⟨w.heap.size + 1, 4, none⟩ (.inl rfl) (.int .u8 kd)).setCell ⟨w.heap.size + 1, 5, none⟩ (.inl rfl) (.int .u8 sd)).setCell ⟨w.heap.size + 1, 6, none⟩ (.inl rfl) (.slice s m m))
  refine bodyPost_ret (v := .tuple #[.agg #[.int .u8 (x0 % 128), .bool (decide (128 ≤ x0)), .int .u8 (x1 % 128), .bool (decide (128 ≤ x1)), .int .u8 kd, .int .u8 sd, .slice s m m], .int .i64 0]) (by simp [results, Tryd.results25, go_sem, y0, y1, y2, y3, y4, y5, y6]) rfl ⟨⟨s, rfl, ?_⟩, ?_⟩
  · rcases HL6.out with h | ⟨g, h1, h2, h3⟩
    · exact .inl h
    · have h4 := h2
      rw [World.size_alloc, World.size_alloc] at h4
      exact .inr ⟨g, h1, by omega, h3.exc HX.out (by omega)⟩
  · exact HB6.out.trans (HX.out.below HB6.out.size (fun i _ hi => by omega))
set_option maxHeartbeats 2000000 in
set_option maxRecDepth 100000 in
theorem decode_bad (a : Option Addr) (n c m : Nat) (l : List Int) (w : World) (h : Row .u8 w a n c l) (h3 : 3 ≤ n) (hn : n ≤ 276) (h2 : l.getD 2 0 = ((min (n - 3) 63 : Nat) : Int)) (h5 : 5 < statL (l.drop 3)) (hm : (loadL (l.drop 3)).length = m) :
    Calls Tryd.prog 25 #[.slice a n c] w fun e w' => e = .returned (.tuple #[.agg #[.int .u8 0, .bool false, .int .u8 0, .bool false, .int .u8 0, .int .u8 0, .slice none 0 0], .int .i64 4]) ∧ Below w.heap.size w w' := by
  obtain ⟨b, o, rfl⟩ : ∃ b o, a = some ⟨b, o, none⟩ := by
    rcases h.cells with h0 | ⟨b, o, ha, _⟩
    · omega
    · exact ⟨b, o, ha⟩
  have hoct := h.octs8
  have hl := h.len
  have hle := h.le
  have hcm := h.max
  unfold maxLen at hcm
  rcases h.cells with h0 | ⟨b', o', ha, hc⟩
  · omega
  simp at ha
  obtain ⟨rfl, rfl⟩ := ha
  obtain ⟨mn, A, N, C, hmn, hrs, hrsa, hrow⟩ := cut_min (some ⟨b, o, none⟩) n c 3 l w h
  rw [if_neg (by omega)] at hmn
  obtain rfl : mn = 3 := by omega
  have hA : decide ((n : Int) ≤ 276) = true := decide_eq_true (by omega)
  have hrs3 : ∀ W, (Instr.slice 23 (.slice (some ⟨b, o, none⟩) n c) (some (.int .i64 3)) none none).run Tryd.prog W = .ok (.slice A N C) W := hrs
  have hrsa3 : ∀ W, (Instr.sliceAt 23 (.slice (some ⟨b, o, none⟩) n c) (some (.int .i64 3)) none none).run Tryd.prog W = .ok (.slice A N C) W := hrsa
  clear hrs hrsa
  have hNl := (hrow w h).len
  have hd3 : (l.drop 3).length = n - 3 := by rw [List.length_drop, hl]
  obtain rfl : N = n - 3 := by omega
  obtain ⟨N, hN⟩ : ∃ N, N = n - 3 := ⟨_, rfl⟩
  rw [← hN] at hrs3 hrsa3 hrow hd3
  have hN1 : N ≤ 273 := by omega
  obtain ⟨d, hd⟩ : ∃ d, d = l.drop 3 := ⟨_, rfl⟩
  rw [← hd] at hrow hd3
  have hblt : b < w.heap.size := World.block_lt_of_cell? w _ (hc 0 (by omega))
  have c0 := hc 0 (by omega)
  have c1 := hc 1 (by omega)
  have c2 := hc 2 (by omega)
  obtain ⟨hx00, hx01⟩ := getD_octs hoct 0
  obtain ⟨hx10, hx11⟩ := getD_octs hoct 1
  obtain ⟨hx20, hx21⟩ := getD_octs hoct 2
  obtain ⟨M, hM⟩ : ∃ M : Int, M = ((min N 63 : Nat) : Int) := ⟨_, rfl⟩
  have hif : (if (63 : Int) < (N : Int) then (63 : Int) else (N : Int)) = M := by rw [hM]; split <;> omega
  have hdo : ∀ x ∈ d, 0 ≤ x ∧ x ≤ 255 := fun x hx => hoct x (List.mem_of_mem_drop (by rw [← hd]; exact hx))
  obtain ⟨x0, e0⟩ : ∃ x, x = l.getD 0 0 := ⟨_, rfl⟩
  obtain ⟨x1, e1⟩ : ∃ x, x = l.getD 1 0 := ⟨_, rfl⟩
  rw [← e0] at c0 hx00 hx01 
  rw [← e1] at c1 hx10 hx11 
  rw [h2, ← hN, ← hM] at c2
  rw [← hd] at h5 hm 
  simp only [Nat.add_zero] at c0
  have hM0 : 0 ≤ M := by omega
  have hM1 : M ≤ 63 := by omega
  have hck := chk_dec (x0 := x0) (x1 := x1) (d := d) (by omega) hx00 hx10
  rw [if_neg (by omega), hm] at hck
  have hun := fun w h => unitOf_any A N C d w h (by omega) m hm
  obtain ⟨hk0, hk1⟩ := kindL_range d
  obtain ⟨hs0, hs1⟩ := statL_range hdo
  have hm1 : m ≤ 273 := by
    rw [← hm]; unfold loadL; split
    · omega
    · simp
  obtain ⟨kd, hkd⟩ : ∃ k, k = kindL d := ⟨_, rfl⟩
  obtain ⟨sd, hsd⟩ : ∃ k, k = statL d := ⟨_, rfl⟩
  obtain ⟨ld, hld⟩ : ∃ k, k = loadL d := ⟨_, rfl⟩
  rw [← hkd, ← hsd] at hck
  rw [← hkd, ← hsd, ← hld] at hun
  rw [← hkd] at hk0 hk1
  rw [← hsd] at hs0 hs1
  rw [← hld] at hm
  skip
  have hcc := fun s w => ucheck_any (x0 % 128) (decide (128 ≤ x0)) (x1 % 128) (decide (128 ≤ x1)) kd sd s m m w (by omega) (by omega) (by omega) (by omega) hk0 (by omega) hs0 hs1 (by omega)
  rw [hck] at hcc
  have hmf : ∀ (fn : Fn) (first cap : Array Value) (w : World), (Instr.makeFunc fn first cap).run Tryd.prog w = .ok (.func fn first cap) w := fun _ _ _ _ => rfl
  have HCk := Lib.hid hcc
  have HUn := Lib.hid hun
  have HRow := Lib.hid hrow
  have HR := Lib.hid h
  have g0' : ∀ W, Below w.heap.size w W → W.cell? ⟨b, o, none⟩ = some (.int .u8 x0) := fun W hW => by rw [hW.cell (p := ⟨b, o, none⟩) hblt]; exact c0
  have g1' : ∀ W, Below w.heap.size w W → W.cell? ⟨b, o + 1, none⟩ = some (.int .u8 x1) := fun W hW => by rw [hW.cell (p := ⟨b, o + 1, none⟩) hblt]; exact c1
  have HG0 := Lib.hid g0'
  have HG1 := Lib.hid g1'
  have hb2 : ∀ q : World, Below w.heap.size w q → Row .u8 q A N C d := fun q hq => HRow.out q (HR.out.later hq)
  have HD := Lib.hid hb2
  clear h hoct hl hc hmn hrow hNl hd3 hd hN e0 e1 hM h2 hdo hck hm h5 hkd hsd hld hcc hun c0 c1 g0' g1' hb2
  go_enter Tryd.func25, Tryd.ntmps25
  go_wp2_with (go_at_call 30; go_in)
  have hbz : Below w.heap.size w ((w.alloc (.cells #[.slice (some ⟨b, o, none⟩) n c] 23)).alloc (.cells #[.int .u8 0, .bool false, .int .u8 0, .bool false, .int .u8 0, .int .u8 0, .slice none 0 0] 29)) := ((Below.refl _ _).alloc (Nat.le_refl _) _).alloc (by simp) _
  refine (HUn.out _ (HD.out _ hbz)).mono ?_
  rintro e w1 ⟨⟨s, rfl, hlo⟩, hb1⟩
  have ho1 := (own_lit w 23 #[.slice (some ⟨b, o, none⟩) n c] _ rfl).below ((below_alloc _ (.cells #[.int .u8 0, .bool false, .int .u8 0, .bool false, .int .u8 0, .int .u8 0, .slice none 0 0] 29)).trans (hb1.mono (by simp))) (by simp)
  have hz1 := (own_lit (w.alloc (.cells #[.slice (some ⟨b, o, none⟩) n c] 23)) 29 #[.int .u8 0, .bool false, .int .u8 0, .bool false, .int .u8 0, .int .u8 0, .slice none 0 0] _ rfl).below hb1 (by simp)
  rw [World.size_alloc] at hz1
  have hz1s := hb1.size
  simp at hz1s
  have hbw1 := hbz.trans (hb1.mono hbz.size)
  have k1 := ho1.cell 0 (by simp)
  simp only [List.getD_cons_zero] at k1
  have r0 := HG0.out _ hbw1
  have r1 := HG1.out _ hbw1
  have HO1 := Lib.hid ho1
  have HZ1 := Lib.hid hz1
  have HB1 := Lib.hid hbw1
  have HL1 := Lib.hid hlo
  clear hbz hb1 ho1 hz1 hbw1 hlo
  go_wp2_with fail
  refine (number_0 w.heap.size b o n c x0 _ hx00 hx01 (by omega) ((HO1.out.below (below_alloc _ _) HO1.out.lt).cell 0 (by simp)) (HG0.out _ (HB1.out.trans ((below_alloc _ _).mono HB1.out.size)))).mono ?_
  rintro e w' ⟨rfl, q, rfl⟩
  obtain ⟨w2, hw2⟩ : ∃ W, W = (w1.alloc (.cells #[.int .u8 0, .bool false, .int .u8 0, .bool false, .int .u8 kd, .int .u8 sd, .slice s m m] 29)).drewN q := ⟨_, rfl⟩
  have hb2 : Below w1.heap.size w1 w2 := by rw [hw2]; exact (below_alloc _ _).trans ((below_draw _ q).mono (by simp))
  have ho2 := (own_lit w1 29 #[.int .u8 0, .bool false, .int .u8 0, .bool false, .int .u8 kd, .int .u8 sd, .slice s m m] _ rfl).below (below_draw _ q) (by simp)
  rw [← hw2] at ho2 ⊢
  obtain ⟨z0, z1, z2, z3, z4, z5, z6⟩ := unit_cells ho2
  obtain ⟨f0, f1, f2, f3, f4, f5, f6⟩ := unit_frozen ho2
  have hs2 := hb2.size
  have HX1 := Lib.hid hb2
  have HO2 := Lib.hid ho2
  have HW2 := Lib.hid hw2
  clear hb2 ho2 hw2 k1 r0 r1
  obtain ⟨w3, hw3⟩ : ∃ W, W = (w2.setCell ⟨w1.heap.size, 0, none⟩ (.int .u8 (x0 % 128))).setCell ⟨w1.heap.size, 1, none⟩ (.bool (decide (128 ≤ x0))) := ⟨_, rfl⟩
  have ho3 := (HO2.out.set 0 (.int .u8 (x0 % 128))).set 1 (.bool (decide (128 ≤ x0)))
  have hb3 := (HX1.out.setCell (p := ⟨w1.heap.size, 0, none⟩) (Nat.le_refl _) (.int .u8 (x0 % 128))).setCell (p := ⟨w1.heap.size, 1, none⟩) (Nat.le_refl _) (.bool (decide (128 ≤ x0)))
  simp only [List.set_cons_zero, List.set_cons_succ] at ho3
  rw [← hw3] at ho3 hb3
  have HW3 := Lib.hid hw3
  have HO3 := Lib.hid ho3
  have HX3 := Lib.hid hb3
  clear ho3 hb3 hw3
  go_wp2_with fail
  rw [← HW3.out]
  have hbw3 := HB1.out.trans (HX3.out.mono HB1.out.size)
  refine (number_1 w.heap.size b o n c x1 _ hx10 hx11 (by omega) ((HO1.out.below HX3.out (by omega)).cell 0 (by simp)) (HG1.out _ hbw3)).mono ?_
  rintro e w' ⟨rfl, q2, rfl⟩
  clear z0 z1 z2 z3 z4 z5 z6 f0 f1 f2 f3 f4 f5 f6
  obtain ⟨w4, hw4⟩ : ∃ W, W = w3.drewN q2 := ⟨_, rfl⟩
  have hb4 : Below w1.heap.size w1 w4 := by rw [hw4]; exact HX3.out.trans ((below_draw _ q2).mono HX3.out.size)
  have ho4 := HO3.out.below (below_draw w3 q2) HO3.out.lt
  rw [← hw4] at ho4 ⊢
  obtain ⟨z0, z1, z2, z3, z4, z5, z6⟩ := unit_cells ho4
  obtain ⟨f0, f1, f2, f3, f4, f5, f6⟩ := unit_frozen ho4
  have hs4 := hb4.size
  obtain ⟨w5, hw5⟩ : ∃ W, W = (w4.setCell ⟨w1.heap.size, 2, none⟩ (.int .u8 (x1 % 128))).setCell ⟨w1.heap.size, 3, none⟩ (.bool (decide (128 ≤ x1))) := ⟨_, rfl⟩
  have ho5 := (ho4.set 2 (.int .u8 (x1 % 128))).set 3 (.bool (decide (128 ≤ x1)))
  have hb5 := (hb4.setCell (p := ⟨w1.heap.size, 2, none⟩) (Nat.le_refl _) (.int .u8 (x1 % 128))).setCell (p := ⟨w1.heap.size, 3, none⟩) (Nat.le_refl _) (.bool (decide (128 ≤ x1)))
  simp only [List.set_cons_zero, List.set_cons_succ] at ho5
  rw [← hw5] at ho5 hb5
  have HW5 := Lib.hid hw5
  have HO5 := Lib.hid ho5
  have HX5 := Lib.hid hb5
  clear ho4 hb4 hw4 ho5 hb5 hw5
  go_wp2_with fail
  rw [← HW5.out]
  refine (HCk.out s w5).mono ?_
  rintro e w6 ⟨rfl, hb6⟩
  clear z0 z1 z2 z3 z4 z5 z6 f0 f1 f2 f3 f4 f5 f6
  have ho6 := HO5.out.below hb6 HO5.out.lt
  have hb16 := HX5.out.trans (hb6.mono HX5.out.size)
  have hlo6 := HL1.out.later hb16
  have hz6 := HZ1.out.below hb16 (by omega)
  have hbw6 := HB1.out.trans (hb16.mono HB1.out.size)
  obtain ⟨z0, z1, z2, z3, z4, z5, z6⟩ := unit_cells ho6
  obtain ⟨y0, y1, y2, y3, y4, y5, y6⟩ := unit_cells hz6
  obtain ⟨f0, f1, f2, f3, f4, f5, f6⟩ := unit_frozen hz6
  have HL6 := Lib.hid hlo6
  have HB6 := Lib.hid hbw6
  clear hb6 ho6 hb16 hlo6 hz6 hbw6
  go_wp2
  have HX := Lib.hid ((((((((Exc.refl (fun k => k = w.heap.size + 1) w6).setCell ⟨w.heap.size + 1, 0, none⟩ (.inl rfl) (.int .u8 0)).setCell ⟨w.heap.size + 1, 1, none⟩ (.inl rfl) (.bool false)).setCell ⟨w.heap.size + 1, 2, none⟩ (.inl rfl) (.int .u8 0)).setCell ⟨w.heap.size + 1, 3, none⟩ (.inl rfl) (.bool false)).setCell ⟨w.heap.size + 1, 4, none⟩ (.inl rfl) (.int .u8 0)).setCell ⟨w.heap.size + 1, 5, none⟩ (.inl rfl) (.int .u8 0)).setCell ⟨w.heap.size + 1, 6, none⟩ (.inl rfl) (.slice none 0 0))
  refine bodyPost_ret (v := .tuple #[.agg #[.int .u8 0, .bool false, .int .u8 0, .bool false, .int .u8 0, .int .u8 0, .slice none 0 0], .int .i64 4]) (by simp [results, Tryd.results25, go_sem, y0, y1, y2, y3, y4, y5, y6]) rfl ⟨rfl, ?_⟩
  exact HB6.out.trans (HX.out.below HB6.out.size (fun i _ hi => by omega))
end Go.Proofs.YtnecdmihnndebaaDoor
