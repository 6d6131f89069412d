/- Contracts of package labels: part. -/
import Derived.Test.YtcojjhokcebogaaDoorLbCut
import Derived.Test.YtcojjhokcebogaaDoorLbMsg
namespace Go.Proofs.YtcojjhokcebogaaDoor
open Go.RowKit

theorem run_index_bs (l : List UInt8) (i : Nat) (h : i < l.length) (w : World) :
    (Instr.index 9 (.string (bs l)) (.int .i64 (i : Int))).run Tryd.prog w = .ok (.int .u8 (((l.getD i 0).toNat : Nat) : Int)) w := by
  have hl := bs_len l
  have hi : 0 ≤ (i : Int) ∧ (i : Int) < ((bs l).size : Int) := by omega
  rw [run_index_string w 9 (bs l) .i64 i Tryd.underlying9, dif_pos hi]
  simp only [Int.toNat_natCast, List.getD_eq_getElem?_getD, List.getElem?_eq_getElem h, Option.getD_some]
  rfl
theorem shapeB_false {l : List UInt8} (h : shapeB l = false) : l.length = 0 ∨ 3 < l.length ∨ (1 < l.length ∧ l.getD 0 0 = 48) := by
  by_cases h0 : l.length = 0
  · exact .inl h0
  · by_cases h3 : 3 < l.length
    · exact .inr (.inl h3)
    · by_cases h1 : l.length = 1
      · simp [shapeB, h1] at h
      · refine .inr (.inr ⟨by omega, ?_⟩)
        simp [shapeB, h1] at h
        have := h (by omega) (by omega)
        simpa using this
theorem shapeB_true {l : List UInt8} (h : shapeB l = true) : 1 ≤ l.length ∧ l.length ≤ 3 ∧ (1 < l.length → l.getD 0 0 ≠ 48) := by
  simp only [shapeB, Bool.and_eq_true, Bool.or_eq_true, decide_eq_true_eq, beq_iff_eq, bne_iff_ne] at h
  obtain ⟨⟨h1, h2⟩, h3⟩ := h
  exact ⟨h1, h2, fun h4 => h3.resolve_left (by omega)⟩
theorem part_bad (l : List UInt8) (w : World) (h : shapeB l = false) (hl : l.length ≤ 9223372036854775806) :
    Calls Tryd.prog 31 #[.string (bs l)] w fun e w' => e = .returned (.tuple #[.int .u16 0, .bool false]) ∧ w = w' := by
  have hsz := bs_len l
  have hix := run_index_bs l 0
  obtain ⟨S, hS⟩ : ∃ S, S = bs l := ⟨_, rfl⟩
  obtain ⟨n, hn⟩ : ∃ n, n = l.length := ⟨_, rfl⟩
  rw [← hS] at hix
  rw [← hS, ← hn] at hsz
  rw [← hS]
  have hc := shapeB_false h
  rw [← hn] at hix hc hl
  clear hS hn h
  rcases hc with rfl | hc | ⟨h1, hc⟩
  · clear hix
    go_enter Tryd.func31, Tryd.ntmps31
    go_wp2
    go_ret2
    exact ⟨rfl, rfl⟩
  · have t0 : ((n : Int) == 0) = false := by simp; omega
    have t1 : decide ((3 : Int) < (n : Int)) = true := by simp; omega
    clear hix
    go_enter Tryd.func31, Tryd.ntmps31
    go_wp2
    go_ret2
    exact ⟨rfl, rfl⟩
  · by_cases h3 : 3 < n
    · have t0 : ((n : Int) == 0) = false := by simp; omega
      have t1 : decide ((3 : Int) < (n : Int)) = true := by simp; omega
      clear hix
      go_enter Tryd.func31, Tryd.ntmps31
      go_wp2
      go_ret2
      exact ⟨rfl, rfl⟩
    · have t0 : ((n : Int) == 0) = false := by simp; omega
      have t1 : decide ((3 : Int) < (n : Int)) = false := by simp; omega
      have t2 : decide ((1 : Int) < (n : Int)) = true := by simp; omega
      have g := fun w => hix (by omega) w
      rw [hc] at g
      simp only [show (((48 : UInt8).toNat : Nat) : Int) = 48 from rfl, show ((0 : Nat) : Int) = 0 from rfl] at g
      clear hix hc
      go_enter Tryd.func31, Tryd.ntmps31
      go_wp2
      go_ret2
      exact ⟨rfl, rfl⟩
theorem digits_le : ∀ (l : List UInt8), l.all digitB = true → l.length ≤ 2 → numV l ≤ 99
  | [], _, _ => by decide
  | [x], h, _ => by
    obtain ⟨c, hc, rfl⟩ := digit_of (by simpa using h)
    rw [(numV3 0 0 ⟨c, hc⟩).2.2]; simp; omega
  | [x, y], h, _ => by
    simp at h
    obtain ⟨b, hb, rfl⟩ := digit_of h.1
    obtain ⟨c, hc, rfl⟩ := digit_of h.2
    rw [(numV3 0 ⟨b, hb⟩ ⟨c, hc⟩).2.1]; simp; omega
  | _ :: _ :: _ :: _, _, h => by simp at h
theorem numV_snoc (l : List UInt8) (c : UInt8) : numV (l ++ [c]) = 10 * numV l + (c.toNat - 48) := by simp [numV]
theorem take_snoc (l : List UInt8) (k : Nat) (h : k < l.length) : l.take (k + 1) = l.take k ++ [l.getD k 0] := by
  rw [List.take_succ_eq_append_getElem h, List.getD_eq_getElem?_getD, List.getElem?_eq_getElem h]; rfl
theorem digitB_iff (c : UInt8) : digitB c = true ↔ 48 ≤ (c.toNat : Int) ∧ (c.toNat : Int) ≤ 57 := by
  simp only [digitB, Bool.and_eq_true, decide_eq_true_eq, UInt8.le_iff_toNat_le]
  rw [show (48 : UInt8).toNat = 48 from rfl, show (57 : UInt8).toNat = 57 from rfl]
  omega
theorem all_take_false {l : List UInt8} {k : Nat} (h : k < l.length) (hc : digitB (l.getD k 0) = false) : l.all digitB = false := by
  rw [List.all_eq_false]
  refine ⟨l.getD k 0, ?_, by rw [hc]; simp⟩
  rw [List.getD_eq_getElem?_getD, List.getElem?_eq_getElem h]
  exact List.getElem_mem h
set_option maxHeartbeats 1000000 in
theorem part_ok (l : List UInt8) (w : World) (h : shapeB l = true) :
    Calls Tryd.prog 31 #[.string (bs l)] w fun e w' => e = .returned (.tuple #[.int .u16 (if goodB l then (numV l : Int) else 0), .bool (goodB l)]) ∧ w = w' := by
  obtain ⟨h1, h3, h0⟩ := shapeB_true h
  obtain ⟨G, hG⟩ : ∃ G, G = goodB l := ⟨_, rfl⟩
  obtain ⟨V, hV⟩ : ∃ V : Int, V = if G then (numV l : Int) else 0 := ⟨_, rfl⟩
  rw [← hG, ← hV]
  have HG := Lib.hid hG
  have HV := Lib.hid hV
  have HS := Lib.hid h
  have hsz := bs_len l
  have hix := fun i hi w => run_index_bs l i hi w
  obtain ⟨S, hS⟩ : ∃ S, S = bs l := ⟨_, rfl⟩
  obtain ⟨n, hn⟩ : ∃ n, n = l.length := ⟨_, rfl⟩
  rw [← hS] at hix
  rw [← hS, ← hn] at hsz
  rw [← hS]
  rw [← hn] at hix h1 h3 h0
  have HN := Lib.hid hn
  clear hS hn h hG hV
  have t0 : ((n : Int) == 0) = false := by simp; omega
  have t1 : decide ((3 : Int) < (n : Int)) = false := by simp; omega
  obtain ⟨c0, hc0⟩ : ∃ c, c = (((l.getD 0 0).toNat : Nat) : Int) := ⟨_, rfl⟩
  have g0 := fun w => hix 0 (by omega) w
  rw [← hc0] at g0
  simp only [show ((0 : Nat) : Int) = 0 from rfl] at g0
  have t2 : decide ((1 : Int) < (n : Int)) = false ∨ (decide ((1 : Int) < (n : Int)) = true ∧ (c0 == 48) = false) := by
    by_cases hn1 : 1 < n
    · right
      refine ⟨by simp; omega, ?_⟩
      have := h0 hn1
      rw [hc0]
      simp only [beq_eq_false_iff_ne, ne_eq]
      intro e
      apply this
      apply UInt8.toNat_inj.1
      rw [show (48 : UInt8).toNat = 48 from rfl]
      omega
    · left; simp; omega
  clear hc0 h0
  have HX := Lib.hid hix
  clear hix
  rcases t2 with t2 | ⟨t2, t3⟩
  · go_enter Tryd.func31, Tryd.ntmps31
    go_wp2
    clear g0 t0 t1 t2
    go_loop [4, 26] (fun v i => ∃ k : Nat, k ≤ n ∧ i = .int .i64 (k : Int) ∧ v = .int .u16 ((numV (l.take k) : Nat) : Int) ∧ (l.take k).all digitB = true) (fun _ i => n - (intOf i).toNat)
    case atStart => exact ⟨0, Nat.zero_le _, rfl, rfl, rfl⟩
    case round =>
      obtain ⟨k, hk, rfl, rfl, hd⟩ := hrel
      by_cases hlt : k < n
      · obtain ⟨c, hc⟩ : ∃ c : Int, c = (((l.getD k 0).toNat : Nat) : Int) := ⟨_, rfl⟩
        have g := fun w => HX.out k hlt w
        rw [← hc] at g
        have hv := digits_le (l.take k) hd (by rw [List.length_take]; omega)
        obtain ⟨N, hN⟩ : ∃ N, N = numV (l.take k) := ⟨_, rfl⟩
        rw [← hN] at hv ⊢
        have hcr : 0 ≤ c ∧ c ≤ 255 := by rw [hc]; exact u8_range _
        by_cases h48 : c < 48
        · have HF : Hid (V = 0 ∧ G = false) := Lib.hid (by
            have hb : digitB (l.getD k 0) = false := by
              cases hq : digitB (l.getD k 0) with
              | false => rfl
              | true => exact absurd ((digitB_iff _).1 hq).1 (by omega)
            have e : G = false := by rw [HG.out, goodB, all_take_false (by rw [← HN.out]; exact hlt) hb, Bool.and_false]
            exact ⟨by rw [HV.out, e]; rfl, e⟩)
          clear hc hd hN hv hcr
          go_wp2
          go_ret2
          obtain ⟨e1, e2⟩ := HF.out
          exact ⟨by rw [e1, e2]; rfl, rfl⟩
        · have h48' : ¬ c < 48 := h48
          by_cases h57 : 57 < c
          · have HF : Hid (V = 0 ∧ G = false) := Lib.hid (by
              have hb : digitB (l.getD k 0) = false := by
                cases hq : digitB (l.getD k 0) with
                | false => rfl
                | true => exact absurd ((digitB_iff _).1 hq).2 (by omega)
              have e : G = false := by rw [HG.out, goodB, all_take_false (by rw [← HN.out]; exact hlt) hb, Bool.and_false]
              exact ⟨by rw [HV.out, e]; rfl, e⟩)
            clear hc hd hN hv hcr
            go_wp2
            go_ret2
            obtain ⟨e1, e2⟩ := HF.out
            exact ⟨by rw [e1, e2]; rfl, rfl⟩
          · have e1 : 0 ≤ c - 48 := by omega
            have HD : Hid ((l.take (k + 1)).all digitB = true ∧ ((numV (l.take (k + 1)) : Nat) : Int) = 10 * (N : Int) + (c - 48)) := Lib.hid (by
              have hb : digitB (l.getD k 0) = true := (digitB_iff _).2 (by omega)
              rw [take_snoc l k (by rw [← HN.out]; exact hlt), numV_snoc, ← hN]
              exact ⟨by rw [List.all_append, hd, List.all_cons, hb]; rfl, by omega⟩)
            clear hc hd hN
            go_wp2
            go_round
            case rel => exact ⟨k + 1, by omega, by go_num, by rw [HD.out.2], HD.out.1⟩
            case measure => simp [intOf]; omega
      · obtain rfl : k = n := by omega
        have HF : Hid (V = ((numV (l.take k) : Nat) : Int) ∧ G = true) := Lib.hid (by
          have et : l.take k = l := by rw [HN.out]; exact List.take_length
          rw [et] at hd ⊢
          have e : G = true := by rw [HG.out, goodB, HS.out, hd]; rfl
          exact ⟨by rw [HV.out, e]; rfl, e⟩)
        clear hd
        go_wp2
        go_ret2
        obtain ⟨e1, e2⟩ := HF.out
        exact ⟨by rw [e1, e2]; rfl, rfl⟩
  · go_enter Tryd.func31, Tryd.ntmps31
    go_wp2
    clear g0 t0 t1 t2 t3
    go_loop [4, 26] (fun v i => ∃ k : Nat, k ≤ n ∧ i = .int .i64 (k : Int) ∧ v = .int .u16 ((numV (l.take k) : Nat) : Int) ∧ (l.take k).all digitB = true) (fun _ i => n - (intOf i).toNat)
    case atStart => exact ⟨0, Nat.zero_le _, rfl, rfl, rfl⟩
    case round =>
      obtain ⟨k, hk, rfl, rfl, hd⟩ := hrel
      by_cases hlt : k < n
      · obtain ⟨c, hc⟩ : ∃ c : Int, c = (((l.getD k 0).toNat : Nat) : Int) := ⟨_, rfl⟩
        have g := fun w => HX.out k hlt w
        rw [← hc] at g
        have hv := digits_le (l.take k) hd (by rw [List.length_take]; omega)
        obtain ⟨N, hN⟩ : ∃ N, N = numV (l.take k) := ⟨_, rfl⟩
        rw [← hN] at hv ⊢
        have hcr : 0 ≤ c ∧ c ≤ 255 := by rw [hc]; exact u8_range _
        by_cases h48 : c < 48
        · have HF : Hid (V = 0 ∧ G = false) := Lib.hid (by
            have hb : digitB (l.getD k 0) = false := by
              cases hq : digitB (l.getD k 0) with
              | false => rfl
              | true => exact absurd ((digitB_iff _).1 hq).1 (by omega)
            have e : G = false := by rw [HG.out, goodB, all_take_false (by rw [← HN.out]; exact hlt) hb, Bool.and_false]
            exact ⟨by rw [HV.out, e]; rfl, e⟩)
          clear hc hd hN hv hcr
          go_wp2
          go_ret2
          obtain ⟨e1, e2⟩ := HF.out
          exact ⟨by rw [e1, e2]; rfl, rfl⟩
        · have h48' : ¬ c < 48 := h48
          by_cases h57 : 57 < c
          · have HF : Hid (V = 0 ∧ G = false) := Lib.hid (by
              have hb : digitB (l.getD k 0) = false := by
                cases hq : digitB (l.getD k 0) with
                | false => rfl
                | true => exact absurd ((digitB_iff _).1 hq).2 (by omega)
              have e : G = false := by rw [HG.out, goodB, all_take_false (by rw [← HN.out]; exact hlt) hb, Bool.and_false]
              exact ⟨by rw [HV.out, e]; rfl, e⟩)
            clear hc hd hN hv hcr
            go_wp2
            go_ret2
            obtain ⟨e1, e2⟩ := HF.out
            exact ⟨by rw [e1, e2]; rfl, rfl⟩
          · have e1 : 0 ≤ c - 48 := by omega
            have HD : Hid ((l.take (k + 1)).all digitB = true ∧ ((numV (l.take (k + 1)) : Nat) : Int) = 10 * (N : Int) + (c - 48)) := Lib.hid (by
              have hb : digitB (l.getD k 0) = true := (digitB_iff _).2 (by omega)
              rw [take_snoc l k (by rw [← HN.out]; exact hlt), numV_snoc, ← hN]
              exact ⟨by rw [List.all_append, hd, List.all_cons, hb]; rfl, by omega⟩)
            clear hc hd hN
            go_wp2
            go_round
            case rel => exact ⟨k + 1, by omega, by go_num, by rw [HD.out.2], HD.out.1⟩
            case measure => simp [intOf]; omega
      · obtain rfl : k = n := by omega
        have HF : Hid (V = ((numV (l.take k) : Nat) : Int) ∧ G = true) := Lib.hid (by
          have et : l.take k = l := by rw [HN.out]; exact List.take_length
          rw [et] at hd ⊢
          have e : G = true := by rw [HG.out, goodB, HS.out, hd]; rfl
          exact ⟨by rw [HV.out, e]; rfl, e⟩)
        clear hd
        go_wp2
        go_ret2
        obtain ⟨e1, e2⟩ := HF.out
        exact ⟨by rw [e1, e2]; rfl, rfl⟩
/-- labels.part: the number of a well-formed part. -/
theorem part_any (l : List UInt8) (w : World) (hl : l.length ≤ 9223372036854775806) :
    Calls Tryd.prog 31 #[.string (bs l)] w fun e w' => e = .returned (.tuple #[.int .u16 (if goodB l then (numV l : Int) else 0), .bool (goodB l)]) ∧ w = w' := by
  cases h : shapeB l with
  | true => exact part_ok l w h
  | false =>
    have e : goodB l = false := by rw [goodB, h]; rfl
    rw [e]
    exact part_bad l w h hl
end Go.Proofs.YtcojjhokcebogaaDoor
