/- The statements' own function part. -/
import Derived.Test.YtcojjhokcebogaaDoorLbParse
namespace Go.Proofs.YtcojjhokcebogaaDoor
open Go.RowKit

theorem lpart_bad (l : List UInt8) (w : World) (h : shapeB l = false) (hl : l.length ≤ 9223372036854775806) :
    Calls Tryd.prog 16 #[.string (bs l)] w fun e w' => e = .returned (.int .i64 (-1)) ∧ w = w' := by
  have hsz := bs_len l
  have hix := run_index_bs l 0
  obtain ⟨S, hS⟩ : ∃ S, S = bs l := ⟨_, rfl⟩
  obtain ⟨n, hn⟩ : ∃ n, n = l.length := ⟨_, rfl⟩
  rw [← hS] at hix
  rw [← hS, ← hn] at hsz
  rw [← hS]
  have hc := shapeB_false h
  rw [← hn] at hix hc hl
  clear hS hn h
  rcases hc with rfl | hc | ⟨h1, hc⟩
  · clear hix
    go_enter Tryd.func16, Tryd.ntmps16
    go_wp2
    go_ret
    exact ⟨rfl, rfl⟩
  · have t0 : decide ((n : Int) < 1) = false := by simp; omega
    have t1 : decide ((3 : Int) < (n : Int)) = true := by simp; omega
    clear hix
    go_enter Tryd.func16, Tryd.ntmps16
    go_wp2
    go_ret
    exact ⟨rfl, rfl⟩
  · by_cases h3 : 3 < n
    · have t0 : decide ((n : Int) < 1) = false := by simp; omega
      have t1 : decide ((3 : Int) < (n : Int)) = true := by simp; omega
      clear hix
      go_enter Tryd.func16, Tryd.ntmps16
      go_wp2
      go_ret
      exact ⟨rfl, rfl⟩
    · have t0 : decide ((n : Int) < 1) = false := by simp; omega
      have t1 : decide ((3 : Int) < (n : Int)) = false := by simp; omega
      have t2 : decide ((1 : Int) < (n : Int)) = true := by simp; omega
      have g := fun w => hix (by omega) w
      rw [hc] at g
      simp only [show (((48 : UInt8).toNat : Nat) : Int) = 48 from rfl, show ((0 : Nat) : Int) = 0 from rfl] at g
      clear hix hc
      go_enter Tryd.func16, Tryd.ntmps16
      go_wp2
      go_ret
      exact ⟨rfl, rfl⟩
set_option maxHeartbeats 1000000 in
theorem lpart_ok (l : List UInt8) (w : World) (h : shapeB l = true) :
    Calls Tryd.prog 16 #[.string (bs l)] w fun e w' => e = .returned (.int .i64 (if goodB l then (numV l : Int) else -1)) ∧ w = w' := by
  obtain ⟨h1, h3, h0⟩ := shapeB_true h
  obtain ⟨G, hG⟩ : ∃ G, G = goodB l := ⟨_, rfl⟩
  obtain ⟨V, hV⟩ : ∃ V : Int, V = if G then (numV l : Int) else -1 := ⟨_, rfl⟩
  rw [← hG, ← hV]
  have HG := Lib.hid hG
  have HV := Lib.hid hV
  have HS := Lib.hid h
  have hsz := bs_len l
  have hix := fun i hi w => run_index_bs l i hi w
  obtain ⟨S, hS⟩ : ∃ S, S = bs l := ⟨_, rfl⟩
  obtain ⟨n, hn⟩ : ∃ n, n = l.length := ⟨_, rfl⟩
  rw [← hS] at hix
  rw [← hS, ← hn] at hsz
  rw [← hS]
  rw [← hn] at hix h1 h3 h0
  have HN := Lib.hid hn
  clear hS hn h hG hV
  have t0 : decide ((n : Int) < 1) = false := by simp; omega
  have t1 : decide ((3 : Int) < (n : Int)) = false := by simp; omega
  obtain ⟨c0, hc0⟩ : ∃ c, c = (((l.getD 0 0).toNat : Nat) : Int) := ⟨_, rfl⟩
  have g0 := fun w => hix 0 (by omega) w
  rw [← hc0] at g0
  simp only [show ((0 : Nat) : Int) = 0 from rfl] at g0
  have t2 : decide ((1 : Int) < (n : Int)) = false ∨ (decide ((1 : Int) < (n : Int)) = true ∧ (c0 == 48) = false) := by
    by_cases hn1 : 1 < n
    · right
      refine ⟨by simp; omega, ?_⟩
      have := h0 hn1
      rw [hc0]
      simp only [beq_eq_false_iff_ne, ne_eq]
      intro e
      apply this
      apply UInt8.toNat_inj.1
      rw [show (48 : UInt8).toNat = 48 from rfl]
      omega
    · left; simp; omega
  clear hc0 h0
  have HX := Lib.hid hix
  clear hix
  rcases t2 with t2 | ⟨t2, t3⟩
  · go_enter Tryd.func16, Tryd.ntmps16
    go_wp2
    clear g0 t0 t1 t2
    go_loop [3, 4] (fun v i => ∃ k : Nat, k ≤ n ∧ i = .int .i64 (k : Int) ∧ v = .int .i64 ((numV (l.take k) : Nat) : Int) ∧ (l.take k).all digitB = true) (fun _ i => n - (intOf i).toNat)
    case atStart => exact ⟨0, Nat.zero_le _, rfl, rfl, rfl⟩
    case round =>
      obtain ⟨k, hk, rfl, rfl, hd⟩ := hrel
      by_cases hlt : k < n
      · obtain ⟨c, hc⟩ : ∃ c : Int, c = (((l.getD k 0).toNat : Nat) : Int) := ⟨_, rfl⟩
        have g := fun w => HX.out k hlt w
        rw [← hc] at g
        have hv := digits_le (l.take k) hd (by rw [List.length_take]; omega)
        obtain ⟨N, hN⟩ : ∃ N, N = numV (l.take k) := ⟨_, rfl⟩
        rw [← hN] at hv ⊢
        have hcr : 0 ≤ c ∧ c ≤ 255 := by rw [hc]; exact u8_range _
        by_cases h48 : c < 48
        · have HF : Hid (V = -1 ∧ G = false) := Lib.hid (by
            have hb : digitB (l.getD k 0) = false := by
              cases hq : digitB (l.getD k 0) with
              | false => rfl
              | true => exact absurd ((digitB_iff _).1 hq).1 (by omega)
            have e : G = false := by rw [HG.out, goodB, all_take_false (by rw [← HN.out]; exact hlt) hb, Bool.and_false]
            exact ⟨by rw [HV.out, e]; rfl, e⟩)
          clear hc hd hN hv hcr
          go_wp2
          go_ret
          obtain ⟨e1, _⟩ := HF.out
          exact ⟨by rw [e1]; rfl, rfl⟩
        · have h48' : ¬ c < 48 := h48
          by_cases h57 : 57 < c
          · have HF : Hid (V = -1 ∧ G = false) := Lib.hid (by
              have hb : digitB (l.getD k 0) = false := by
                cases hq : digitB (l.getD k 0) with
                | false => rfl
                | true => exact absurd ((digitB_iff _).1 hq).2 (by omega)
              have e : G = false := by rw [HG.out, goodB, all_take_false (by rw [← HN.out]; exact hlt) hb, Bool.and_false]
              exact ⟨by rw [HV.out, e]; rfl, e⟩)
            clear hc hd hN hv hcr
            go_wp2
            go_ret
            obtain ⟨e1, _⟩ := HF.out
            exact ⟨by rw [e1]; rfl, rfl⟩
          · have e1 : 0 ≤ c - 48 := by omega
            have HD : Hid ((l.take (k + 1)).all digitB = true ∧ ((numV (l.take (k + 1)) : Nat) : Int) = 10 * (N : Int) + c - 48) := Lib.hid (by
              have hb : digitB (l.getD k 0) = true := (digitB_iff _).2 (by omega)
              rw [take_snoc l k (by rw [← HN.out]; exact hlt), numV_snoc, ← hN]
              exact ⟨by rw [List.all_append, hd, List.all_cons, hb]; rfl, by omega⟩)
            clear hc hd hN
            go_wp2
            go_round
            case rel => exact ⟨k + 1, by omega, by go_num, by rw [HD.out.2], HD.out.1⟩
            case measure => simp [intOf]; omega
      · obtain rfl : k = n := by omega
        have HF : Hid (V = ((numV (l.take k) : Nat) : Int) ∧ G = true) := Lib.hid (by
          have et : l.take k = l := by rw [HN.out]; exact List.take_length
          rw [et] at hd ⊢
          have e : G = true := by rw [HG.out, goodB, HS.out, hd]; rfl
          exact ⟨by rw [HV.out, e]; rfl, e⟩)
        clear hd
        go_wp2
        go_ret
        obtain ⟨e1, _⟩ := HF.out
        exact ⟨by rw [e1]; rfl, rfl⟩
  · go_enter Tryd.func16, Tryd.ntmps16
    go_wp2
    clear g0 t0 t1 t2 t3
    go_loop [3, 4] (fun v i => ∃ k : Nat, k ≤ n ∧ i = .int .i64 (k : Int) ∧ v = .int .i64 ((numV (l.take k) : Nat) : Int) ∧ (l.take k).all digitB = true) (fun _ i => n - (intOf i).toNat)
    case atStart => exact ⟨0, Nat.zero_le _, rfl, rfl, rfl⟩
    case round =>
      obtain ⟨k, hk, rfl, rfl, hd⟩ := hrel
      by_cases hlt : k < n
      · obtain ⟨c, hc⟩ : ∃ c : Int, c = (((l.getD k 0).toNat : Nat) : Int) := ⟨_, rfl⟩
        have g := fun w => HX.out k hlt w
        rw [← hc] at g
        have hv := digits_le (l.take k) hd (by rw [List.length_take]; omega)
        obtain ⟨N, hN⟩ : ∃ N, N = numV (l.take k) := ⟨_, rfl⟩
        rw [← hN] at hv ⊢
        have hcr : 0 ≤ c ∧ c ≤ 255 := by rw [hc]; exact u8_range _
        by_cases h48 : c < 48
        · have HF : Hid (V = -1 ∧ G = false) := Lib.hid (by
            have hb : digitB (l.getD k 0) = false := by
              cases hq : digitB (l.getD k 0) with
              | false => rfl
              | true => exact absurd ((digitB_iff _).1 hq).1 (by omega)
            have e : G = false := by rw [HG.out, goodB, all_take_false (by rw [← HN.out]; exact hlt) hb, Bool.and_false]
            exact ⟨by rw [HV.out, e]; rfl, e⟩)
          clear hc hd hN hv hcr
          go_wp2
          go_ret
          obtain ⟨e1, _⟩ := HF.out
          exact ⟨by rw [e1]; rfl, rfl⟩
        · have h48' : ¬ c < 48 := h48
          by_cases h57 : 57 < c
          · have HF : Hid (V = -1 ∧ G = false) := Lib.hid (by
              have hb : digitB (l.getD k 0) = false := by
                cases hq : digitB (l.getD k 0) with
                | false => rfl
                | true => exact absurd ((digitB_iff _).1 hq).2 (by omega)
              have e : G = false := by rw [HG.out, goodB, all_take_false (by rw [← HN.out]; exact hlt) hb, Bool.and_false]
              exact ⟨by rw [HV.out, e]; rfl, e⟩)
            clear hc hd hN hv hcr
            go_wp2
            go_ret
            obtain ⟨e1, _⟩ := HF.out
            exact ⟨by rw [e1]; rfl, rfl⟩
          · have e1 : 0 ≤ c - 48 := by omega
            have HD : Hid ((l.take (k + 1)).all digitB = true ∧ ((numV (l.take (k + 1)) : Nat) : Int) = 10 * (N : Int) + c - 48) := Lib.hid (by
              have hb : digitB (l.getD k 0) = true := (digitB_iff _).2 (by omega)
              rw [take_snoc l k (by rw [← HN.out]; exact hlt), numV_snoc, ← hN]
              exact ⟨by rw [List.all_append, hd, List.all_cons, hb]; rfl, by omega⟩)
            clear hc hd hN
            go_wp2
            go_round
            case rel => exact ⟨k + 1, by omega, by go_num, by rw [HD.out.2], HD.out.1⟩
            case measure => simp [intOf]; omega
      · obtain rfl : k = n := by omega
        have HF : Hid (V = ((numV (l.take k) : Nat) : Int) ∧ G = true) := Lib.hid (by
          have et : l.take k = l := by rw [HN.out]; exact List.take_length
          rw [et] at hd ⊢
          have e : G = true := by rw [HG.out, goodB, HS.out, hd]; rfl
          exact ⟨by rw [HV.out, e]; rfl, e⟩)
        clear hd
        go_wp2
        go_ret
        obtain ⟨e1, _⟩ := HF.out
        exact ⟨by rw [e1]; rfl, rfl⟩
/-- The statements' part: the number of a well-formed part, or -1. -/
theorem lpart_any (l : List UInt8) (w : World) (hl : l.length ≤ 9223372036854775806) :
    Calls Tryd.prog 16 #[.string (bs l)] w fun e w' => e = .returned (.int .i64 (if goodB l then (numV l : Int) else -1)) ∧ w = w' := by
  cases h : shapeB l with
  | true => exact lpart_ok l w h
  | false =>
    have e : goodB l = false := by rw [goodB, h]; rfl
    rw [e]
    exact lpart_bad l w h hl
end Go.Proofs.YtcojjhokcebogaaDoor
