/- Joined: LbParse LbText. -/
import Derived.Test.YthlckipcgogogaaGreatDoorLbCut
import Derived.Test.YthlckipcgogogaaGreatDoorLbMsg
/- Contracts of package labels: part. -/
namespace Go.Proofs.YthlckipcgogogaaGreatDoor
set_option linter.unusedVariables false
open Go.RowKit

theorem run_index_bs (l : List UInt8) (i : Nat) (h : i < l.length) (w : World) :
    (Instr.index 9 (.string (bs l)) (.int .i64 (i : Int))).run Tryz.prog w = .ok (.int .u8 (((l.getD i 0).toNat : Nat) : Int)) w := by
  have hl := bs_len l
  have hi : 0 ≤ (i : Int) ∧ (i : Int) < ((bs l).size : Int) := by omega
  rw [run_index_string w 9 (bs l) .i64 i Tryz.underlying9, dif_pos hi]
  simp only [Int.toNat_natCast, List.getD_eq_getElem?_getD, List.getElem?_eq_getElem h, Option.getD_some]
  rfl
theorem shapeB_false {l : List UInt8} (h : shapeB l = false) : l.length = 0 ∨ 3 < l.length ∨ (1 < l.length ∧ l.getD 0 0 = 48) := by
  by_cases h0 : l.length = 0
  · exact .inl h0
  · by_cases h3 : 3 < l.length
    · exact .inr (.inl h3)
    · by_cases h1 : l.length = 1
      · simp [shapeB, h1] at h
      · refine .inr (.inr ⟨by omega, ?_⟩)
        simp [shapeB, h1] at h
        have := h (by omega) (by omega)
        simpa using this
theorem shapeB_true {l : List UInt8} (h : shapeB l = true) : 1 ≤ l.length ∧ l.length ≤ 3 ∧ (1 < l.length → l.getD 0 0 ≠ 48) := by
  simp only [shapeB, Bool.and_eq_true, Bool.or_eq_true, decide_eq_true_eq, beq_iff_eq, bne_iff_ne] at h
  obtain ⟨⟨h1, h2⟩, h3⟩ := h
  exact ⟨h1, h2, fun h4 => h3.resolve_left (by omega)⟩
theorem part_bad (l : List UInt8) (w : World) (h : shapeB l = false) (hl : l.length ≤ 9223372036854775806) :
    Calls Tryz.prog 146 #[.string (bs l)] w fun e w' => e = .returned (.tuple #[.int .u16 0, .bool false]) ∧ w = w' := by
  have hsz := bs_len l
  have hix := run_index_bs l 0
  obtain ⟨S, hS⟩ : ∃ S, S = bs l := ⟨_, rfl⟩
  obtain ⟨n, hn⟩ : ∃ n, n = l.length := ⟨_, rfl⟩
  rw [← hS] at hix
  rw [← hS, ← hn] at hsz
  rw [← hS]
  have hc := shapeB_false h
  rw [← hn] at hix hc hl
  clear hS hn h
  rcases hc with rfl | hc | ⟨h1, hc⟩
  · clear hix
    go_enter Tryz.func146, Tryz.ntmps146
    go_wp2
    go_ret2
    exact ⟨rfl, rfl⟩
  · have t0 : ((n : Int) == 0) = false := by simp; omega
    have t1 : decide ((3 : Int) < (n : Int)) = true := by simp; omega
    clear hix
    go_enter Tryz.func146, Tryz.ntmps146
    go_wp2
    go_ret2
    exact ⟨rfl, rfl⟩
  · by_cases h3 : 3 < n
    · have t0 : ((n : Int) == 0) = false := by simp; omega
      have t1 : decide ((3 : Int) < (n : Int)) = true := by simp; omega
      clear hix
      go_enter Tryz.func146, Tryz.ntmps146
      go_wp2
      go_ret2
      exact ⟨rfl, rfl⟩
    · have t0 : ((n : Int) == 0) = false := by simp; omega
      have t1 : decide ((3 : Int) < (n : Int)) = false := by simp; omega
      have t2 : decide ((1 : Int) < (n : Int)) = true := by simp; omega
      have g := fun w => hix (by omega) w
      rw [hc] at g
      simp only [show (((48 : UInt8).toNat : Nat) : Int) = 48 from rfl, show ((0 : Nat) : Int) = 0 from rfl] at g
      clear hix hc
      go_enter Tryz.func146, Tryz.ntmps146
      go_wp2
      go_ret2
      exact ⟨rfl, rfl⟩
theorem digits_le : ∀ (l : List UInt8), l.all digitB = true → l.length ≤ 2 → numV l ≤ 99
  | [], _, _ => by decide
  | [x], h, _ => by
    obtain ⟨c, hc, rfl⟩ := digit_of (by simpa using h)
    rw [(numV3 0 0 ⟨c, hc⟩).2.2]; simp; omega
  | [x, y], h, _ => by
    simp at h
    obtain ⟨b, hb, rfl⟩ := digit_of h.1
    obtain ⟨c, hc, rfl⟩ := digit_of h.2
    rw [(numV3 0 ⟨b, hb⟩ ⟨c, hc⟩).2.1]; simp; omega
  | _ :: _ :: _ :: _, _, h => by simp at h
theorem numV_snoc (l : List UInt8) (c : UInt8) : numV (l ++ [c]) = 10 * numV l + (c.toNat - 48) := by simp [numV]
theorem take_snoc (l : List UInt8) (k : Nat) (h : k < l.length) : l.take (k + 1) = l.take k ++ [l.getD k 0] := by
  rw [List.take_succ_eq_append_getElem h, List.getD_eq_getElem?_getD, List.getElem?_eq_getElem h]; rfl
theorem digitB_iff (c : UInt8) : digitB c = true ↔ 48 ≤ (c.toNat : Int) ∧ (c.toNat : Int) ≤ 57 := by
  simp only [digitB, Bool.and_eq_true, decide_eq_true_eq, UInt8.le_iff_toNat_le]
  rw [show (48 : UInt8).toNat = 48 from rfl, show (57 : UInt8).toNat = 57 from rfl]
  omega
theorem all_take_false {l : List UInt8} {k : Nat} (h : k < l.length) (hc : digitB (l.getD k 0) = false) : l.all digitB = false := by
  rw [List.all_eq_false]
  refine ⟨l.getD k 0, ?_, by rw [hc]; simp⟩
  rw [List.getD_eq_getElem?_getD, List.getElem?_eq_getElem h]
  exact List.getElem_mem h
set_option maxHeartbeats 1000000 in
theorem part_ok (l : List UInt8) (w : World) (h : shapeB l = true) :
    Calls Tryz.prog 146 #[.string (bs l)] w fun e w' => e = .returned (.tuple #[.int .u16 (if goodB l then (numV l : Int) else 0), .bool (goodB l)]) ∧ w = w' := by
  obtain ⟨h1, h3, h0⟩ := shapeB_true h
  obtain ⟨G, hG⟩ : ∃ G, G = goodB l := ⟨_, rfl⟩
  obtain ⟨V, hV⟩ : ∃ V : Int, V = if G then (numV l : Int) else 0 := ⟨_, rfl⟩
  rw [← hG, ← hV]
  have HG := Lib.hid hG
  have HV := Lib.hid hV
  have HS := Lib.hid h
  have hsz := bs_len l
  have hix := fun i hi w => run_index_bs l i hi w
  obtain ⟨S, hS⟩ : ∃ S, S = bs l := ⟨_, rfl⟩
  obtain ⟨n, hn⟩ : ∃ n, n = l.length := ⟨_, rfl⟩
  rw [← hS] at hix
  rw [← hS, ← hn] at hsz
  rw [← hS]
  rw [← hn] at hix h1 h3 h0
  have HN := Lib.hid hn
  clear hS hn h hG hV
  have t0 : ((n : Int) == 0) = false := by simp; omega
  have t1 : decide ((3 : Int) < (n : Int)) = false := by simp; omega
  obtain ⟨c0, hc0⟩ : ∃ c, c = (((l.getD 0 0).toNat : Nat) : Int) := ⟨_, rfl⟩
  have g0 := fun w => hix 0 (by omega) w
  rw [← hc0] at g0
  simp only [show ((0 : Nat) : Int) = 0 from rfl] at g0
  have t2 : decide ((1 : Int) < (n : Int)) = false ∨ (decide ((1 : Int) < (n : Int)) = true ∧ (c0 == 48) = false) := by
    by_cases hn1 : 1 < n
    · right
      refine ⟨by simp; omega, ?_⟩
      have := h0 hn1
      rw [hc0]
      simp only [beq_eq_false_iff_ne, ne_eq]
      intro e
      apply this
      apply UInt8.toNat_inj.1
      rw [show (48 : UInt8).toNat = 48 from rfl]
      omega
    · left; simp; omega
  clear hc0 h0
  have HX := Lib.hid hix
  clear hix
  rcases t2 with t2 | ⟨t2, t3⟩
  · go_enter Tryz.func146, Tryz.ntmps146
    go_wp2
    clear g0 t0 t1 t2
    go_loop [4, 26] (fun v i => ∃ k : Nat, k ≤ n ∧ i = .int .i64 (k : Int) ∧ v = .int .u16 ((numV (l.take k) : Nat) : Int) ∧ (l.take k).all digitB = true) (fun _ i => n - (intOf i).toNat)
    case atStart => exact ⟨0, Nat.zero_le _, rfl, rfl, rfl⟩
    case round =>
      obtain ⟨k, hk, rfl, rfl, hd⟩ := hrel
      by_cases hlt : k < n
      · obtain ⟨c, hc⟩ : ∃ c : Int, c = (((l.getD k 0).toNat : Nat) : Int) := ⟨_, rfl⟩
        have g := fun w => HX.out k hlt w
        rw [← hc] at g
        have hv := digits_le (l.take k) hd (by rw [List.length_take]; omega)
        obtain ⟨N, hN⟩ : ∃ N, N = numV (l.take k) := ⟨_, rfl⟩
        rw [← hN] at hv ⊢
        have hcr : 0 ≤ c ∧ c ≤ 255 := by rw [hc]; exact u8_range _
        by_cases h48 : c < 48
        · have HF : Hid (V = 0 ∧ G = false) := Lib.hid (by
            have hb : digitB (l.getD k 0) = false := by
              cases hq : digitB (l.getD k 0) with
              | false => rfl
              | true => exact absurd ((digitB_iff _).1 hq).1 (by omega)
            have e : G = false := by rw [HG.out, goodB, all_take_false (by rw [← HN.out]; exact hlt) hb, Bool.and_false]
            exact ⟨by rw [HV.out, e]; rfl, e⟩)
          clear hc hd hN hv hcr
          go_wp2
          go_ret2
          obtain ⟨e1, e2⟩ := HF.out
          exact ⟨by rw [e1, e2]; rfl, rfl⟩
        · have h48' : ¬ c < 48 := h48
          by_cases h57 : 57 < c
          · have HF : Hid (V = 0 ∧ G = false) := Lib.hid (by
              have hb : digitB (l.getD k 0) = false := by
                cases hq : digitB (l.getD k 0) with
                | false => rfl
                | true => exact absurd ((digitB_iff _).1 hq).2 (by omega)
              have e : G = false := by rw [HG.out, goodB, all_take_false (by rw [← HN.out]; exact hlt) hb, Bool.and_false]
              exact ⟨by rw [HV.out, e]; rfl, e⟩)
            clear hc hd hN hv hcr
            go_wp2
            go_ret2
            obtain ⟨e1, e2⟩ := HF.out
            exact ⟨by rw [e1, e2]; rfl, rfl⟩
          · have e1 : 0 ≤ c - 48 := by omega
            have HD : Hid ((l.take (k + 1)).all digitB = true ∧ ((numV (l.take (k + 1)) : Nat) : Int) = 10 * (N : Int) + (c - 48)) := Lib.hid (by
              have hb : digitB (l.getD k 0) = true := (digitB_iff _).2 (by omega)
              rw [take_snoc l k (by rw [← HN.out]; exact hlt), numV_snoc, ← hN]
              exact ⟨by rw [List.all_append, hd, List.all_cons, hb]; rfl, by omega⟩)
            clear hc hd hN
            go_wp2
            go_round
            case rel => exact ⟨k + 1, by omega, by go_num, by rw [HD.out.2], HD.out.1⟩
            case measure => simp [intOf]; omega
      · obtain rfl : k = n := by omega
        have HF : Hid (V = ((numV (l.take k) : Nat) : Int) ∧ G = true) := Lib.hid (by
          have et : l.take k = l := by rw [HN.out]; exact List.take_length
          rw [et] at hd ⊢
          have e : G = true := by rw [HG.out, goodB, HS.out, hd]; rfl
          exact ⟨by rw [HV.out, e]; rfl, e⟩)
        clear hd
        go_wp2
        go_ret2
        obtain ⟨e1, e2⟩ := HF.out
        exact ⟨by rw [e1, e2]; rfl, rfl⟩
  · go_enter Tryz.func146, Tryz.ntmps146
    go_wp2
    clear g0 t0 t1 t2 t3
    go_loop [4, 26] (fun v i => ∃ k : Nat, k ≤ n ∧ i = .int .i64 (k : Int) ∧ v = .int .u16 ((numV (l.take k) : Nat) : Int) ∧ (l.take k).all digitB = true) (fun _ i => n - (intOf i).toNat)
    case atStart => exact ⟨0, Nat.zero_le _, rfl, rfl, rfl⟩
    case round =>
      obtain ⟨k, hk, rfl, rfl, hd⟩ := hrel
      by_cases hlt : k < n
      · obtain ⟨c, hc⟩ : ∃ c : Int, c = (((l.getD k 0).toNat : Nat) : Int) := ⟨_, rfl⟩
        have g := fun w => HX.out k hlt w
        rw [← hc] at g
        have hv := digits_le (l.take k) hd (by rw [List.length_take]; omega)
        obtain ⟨N, hN⟩ : ∃ N, N = numV (l.take k) := ⟨_, rfl⟩
        rw [← hN] at hv ⊢
        have hcr : 0 ≤ c ∧ c ≤ 255 := by rw [hc]; exact u8_range _
        by_cases h48 : c < 48
        · have HF : Hid (V = 0 ∧ G = false) := Lib.hid (by
            have hb : digitB (l.getD k 0) = false := by
              cases hq : digitB (l.getD k 0) with
              | false => rfl
              | true => exact absurd ((digitB_iff _).1 hq).1 (by omega)
            have e : G = false := by rw [HG.out, goodB, all_take_false (by rw [← HN.out]; exact hlt) hb, Bool.and_false]
            exact ⟨by rw [HV.out, e]; rfl, e⟩)
          clear hc hd hN hv hcr
          go_wp2
          go_ret2
          obtain ⟨e1, e2⟩ := HF.out
          exact ⟨by rw [e1, e2]; rfl, rfl⟩
        · have h48' : ¬ c < 48 := h48
          by_cases h57 : 57 < c
          · have HF : Hid (V = 0 ∧ G = false) := Lib.hid (by
              have hb : digitB (l.getD k 0) = false := by
                cases hq : digitB (l.getD k 0) with
                | false => rfl
                | true => exact absurd ((digitB_iff _).1 hq).2 (by omega)
              have e : G = false := by rw [HG.out, goodB, all_take_false (by rw [← HN.out]; exact hlt) hb, Bool.and_false]
              exact ⟨by rw [HV.out, e]; rfl, e⟩)
            clear hc hd hN hv hcr
            go_wp2
            go_ret2
            obtain ⟨e1, e2⟩ := HF.out
            exact ⟨by rw [e1, e2]; rfl, rfl⟩
          · have e1 : 0 ≤ c - 48 := by omega
            have HD : Hid ((l.take (k + 1)).all digitB = true ∧ ((numV (l.take (k + 1)) : Nat) : Int) = 10 * (N : Int) + (c - 48)) := Lib.hid (by
              have hb : digitB (l.getD k 0) = true := (digitB_iff _).2 (by omega)
              rw [take_snoc l k (by rw [← HN.out]; exact hlt), numV_snoc, ← hN]
              exact ⟨by rw [List.all_append, hd, List.all_cons, hb]; rfl, by omega⟩)
            clear hc hd hN
            go_wp2
            go_round
            case rel => exact ⟨k + 1, by omega, by go_num, by rw [HD.out.2], HD.out.1⟩
            case measure => simp [intOf]; omega
      · obtain rfl : k = n := by omega
        have HF : Hid (V = ((numV (l.take k) : Nat) : Int) ∧ G = true) := Lib.hid (by
          have et : l.take k = l := by rw [HN.out]; exact List.take_length
          rw [et] at hd ⊢
          have e : G = true := by rw [HG.out, goodB, HS.out, hd]; rfl
          exact ⟨by rw [HV.out, e]; rfl, e⟩)
        clear hd
        go_wp2
        go_ret2
        obtain ⟨e1, e2⟩ := HF.out
        exact ⟨by rw [e1, e2]; rfl, rfl⟩
/-- labels.part: the number of a well-formed part. -/
theorem part_any (l : List UInt8) (w : World) (hl : l.length ≤ 9223372036854775806) :
    Calls Tryz.prog 146 #[.string (bs l)] w fun e w' => e = .returned (.tuple #[.int .u16 (if goodB l then (numV l : Int) else 0), .bool (goodB l)]) ∧ w = w' := by
  cases h : shapeB l with
  | true => exact part_ok l w h
  | false =>
    have e : goodB l = false := by rw [goodB, h]; rfl
    rw [e]
    exact part_bad l w h hl
end Go.Proofs.YthlckipcgogogaaGreatDoor
/- Contracts of package labels: Parse, Text. -/
namespace Go.Proofs.YthlckipcgogogaaGreatDoor
set_option linter.unusedVariables false
open Go.RowKit

theorem hd_le (l : List UInt8) : (hd l).length ≤ l.length ∧ (tl l).length ≤ l.length := by
  rcases cut_cases l with h | ⟨a, b, h, rfl⟩
  · obtain ⟨e1, e2⟩ := hd_no l h
    rw [e1, e2]; simp
  · obtain ⟨e1, e2⟩ := hd_at a b h
    rw [e1, e2]; simp; omega
theorem u16_add {a b : Int} (x i : Nat) (h0 : 0 ≤ a) (h1 : a < ((2 ^ i : Nat) : Int)) (hb : b = ((x * 2 ^ i : Nat) : Int)) (hs : a < 65536) (ht : b < 65536) : bits .or .u16 b a = a + b := by
  rw [u16_or b a (by omega) ht h0 hs]
  have e : b.toNat = x * 2 ^ i := by omega
  rw [e, Nat.or_comm, or_shift x i (by omega)]
  omega
/-- The error and the point of three parts. -/
def errG (G1 G2 G3 : Bool) (V1 V2 V3 : Int) : Int := if G1 && G2 && G3 then (if 7 < V1 ∨ 255 < V2 ∨ 7 < V3 then 1 else 0) else 4
theorem parse_out (l : List UInt8) : ∃ (G1 G2 G3 : Bool) (V1 V2 V3 : Int), goodB (hd l) = G1 ∧ goodB (hd (tl l)) = G2 ∧ goodB (tl (tl l)) = G3 ∧ (if goodB (hd l) then (numV (hd l) : Int) else 0) = V1 ∧ (if goodB (hd (tl l)) then (numV (hd (tl l)) : Int) else 0) = V2 ∧ (if goodB (tl (tl l)) then (numV (tl (tl l)) : Int) else 0) = V3 ∧
    0 ≤ V1 ∧ V1 ≤ 999 ∧ 0 ≤ V2 ∧ V2 ≤ 999 ∧ 0 ≤ V3 ∧ V3 ≤ 999 ∧ parseE l = errG G1 G2 G3 V1 V2 V3 ∧ parseP l = if errG G1 G2 G3 V1 V2 V3 = 0 then 2048 * V1 + 8 * V2 + V3 else 0 := by
  have hv : ∀ m : List UInt8, 0 ≤ (if goodB m then (numV m : Int) else 0) ∧ (if goodB m then (numV m : Int) else 0) ≤ 999 := by
    intro m
    cases h : goodB m with
    | false => simp
    | true => have := numV_le h; simp; omega
  have he : parseE l = errG (goodB (hd l)) (goodB (hd (tl l))) (goodB (tl (tl l))) (if goodB (hd l) then (numV (hd l) : Int) else 0) (if goodB (hd (tl l)) then (numV (hd (tl l)) : Int) else 0) (if goodB (tl (tl l)) then (numV (tl (tl l)) : Int) else 0) := by
    unfold parseE errG fine
    cases h1 : goodB (hd l) <;> cases h2 : goodB (hd (tl l)) <;> cases h3 : goodB (tl (tl l)) <;> simp
    split <;> split <;> omega
  refine ⟨_, _, _, _, _, _, rfl, rfl, rfl, rfl, rfl, rfl, (hv _).1, (hv _).2, (hv _).1, (hv _).2, (hv _).1, (hv _).2, he, ?_⟩
  unfold parseP
  rw [← he]
  split
  · rename_i h
    obtain ⟨_, _, _, _, _, hf⟩ := text_parse h
    simp only [fine, Bool.and_eq_true] at hf
    rw [hf.1.1, hf.1.2, hf.2]
    simp [parseN]
  · rfl
set_option maxHeartbeats 1000000 in
theorem parse_any (l : List UInt8) (w : World) (hl : l.length ≤ 9223372036854775806) :
    Calls Tryz.prog 128 #[.string (bs l)] w fun e w' => e = .returned (.tuple #[.int .u16 (parseP l), .int .i64 (parseE l)]) ∧ Below w.heap.size w w' := by
  obtain ⟨ha, hb⟩ := hd_le l
  obtain ⟨hc, hd'⟩ := hd_le (tl l)
  have K1 := Lib.hid (fun W => cut_any l W hl)
  have K2 := Lib.hid (fun W => cut_any (tl l) W (by omega))
  have p1 := fun W => part_any (hd l) W (by omega)
  have p2 := fun W => part_any (hd (tl l)) W (by omega)
  have p3 := fun W => part_any (tl (tl l)) W (by omega)
  obtain ⟨G1, G2, G3, V1, V2, V3, g1, g2, g3, v1, v2, v3, l1, u1, l2, u2, l3, u3, he, hp⟩ := parse_out l
  rw [v1, g1] at p1
  rw [v2, g2] at p2
  rw [v3, g3] at p3
  have P1 := Lib.hid p1
  have P2 := Lib.hid p2
  have P3 := Lib.hid p3
  obtain ⟨E, hE⟩ : ∃ E, E = parseE l := ⟨_, rfl⟩
  obtain ⟨P, hP⟩ : ∃ P, P = parseP l := ⟨_, rfl⟩
  rw [← hE, ← hP]
  rw [← hE] at he
  rw [← hP, ← he] at hp
  have HE := Lib.hid he
  have HP := Lib.hid hp
  clear ha hb hc hd' hl p1 p2 p3 g1 g2 g3 v1 v2 v3 he hp hE hP
  go_enter Tryz.func128, Tryz.ntmps128
  go_wp2_with fail
  refine (K1.out _).mono ?_
  rintro e w1 ⟨⟨b1, rfl⟩, n1, rfl⟩
  go_wp2_with fail
  refine (K2.out _).mono ?_
  rintro e w2 ⟨⟨b2, rfl⟩, n2, rfl⟩
  go_wp2_with fail
  refine (P1.out _).mono ?_
  rintro e w3 ⟨rfl, rfl⟩
  go_wp2_with fail
  refine (P2.out _).mono ?_
  rintro e w4 ⟨rfl, rfl⟩
  go_wp2_with fail
  refine (P3.out _).mono ?_
  rintro e w5 ⟨rfl, rfl⟩
  by_cases hg : (G1 && G2 && G3) = true
  · simp only [Bool.and_eq_true] at hg
    obtain ⟨⟨rfl, rfl⟩, rfl⟩ := hg
    by_cases h1 : 7 < V1
    · have HF : Hid (E = 1 ∧ P = 0) := Lib.hid (by
        have e : E = 1 := by rw [HE.out, errG, if_pos (by decide), if_pos (by omega)]
        exact ⟨e, by rw [HP.out, e]; rfl⟩)
      go_wp2
      go_ret2
      obtain ⟨e1, e2⟩ := HF.out
      exact ⟨by rw [e1, e2]; rfl, below_draw _ _⟩
    · by_cases h2 : 255 < V2
      · have HF : Hid (E = 1 ∧ P = 0) := Lib.hid (by
          have e : E = 1 := by rw [HE.out, errG, if_pos (by decide), if_pos (by omega)]
          exact ⟨e, by rw [HP.out, e]; rfl⟩)
        go_wp2
        go_ret2
        obtain ⟨e1, e2⟩ := HF.out
        exact ⟨by rw [e1, e2]; rfl, below_draw _ _⟩
      · by_cases h3 : 7 < V3
        · have HF : Hid (E = 1 ∧ P = 0) := Lib.hid (by
            have e : E = 1 := by rw [HE.out, errG, if_pos (by decide), if_pos (by omega)]
            exact ⟨e, by rw [HP.out, e]; rfl⟩)
          go_wp2
          go_ret2
          obtain ⟨e1, e2⟩ := HF.out
          exact ⟨by rw [e1, e2]; rfl, below_draw _ _⟩
        · have HF : Hid (E = 0 ∧ P = bits .or .u16 (bits .or .u16 (V1 * 2048) (V2 * 8)) V3) := Lib.hid (by
            have e : E = 0 := by rw [HE.out, errG, if_pos (by decide), if_neg (by omega)]
            refine ⟨e, ?_⟩
            rw [HP.out, if_pos e, u16_add (a := V2 * 8) (b := V1 * 2048) V1.toNat 11 (by omega) (by show V2 * 8 < ((2048 : Nat) : Int); omega) (by show V1 * 2048 = ((V1.toNat * 2048 : Nat) : Int); omega) (by omega) (by omega),
              u16_add (a := V3) (b := V2 * 8 + V1 * 2048) (V2.toNat + V1.toNat * 256) 3 (by omega) (by show V3 < ((8 : Nat) : Int); omega) (by show V2 * 8 + V1 * 2048 = (((V2.toNat + V1.toNat * 256) * 8 : Nat) : Int); omega) (by omega) (by omega)]
            omega)
          go_wp2
          go_ret2
          obtain ⟨e1, e2⟩ := HF.out
          exact ⟨by rw [e1, e2]; rfl, below_draw _ _⟩
  · have HF : Hid (E = 4 ∧ P = 0) := Lib.hid (by
      have e : E = 4 := by rw [HE.out, errG, if_neg hg]
      exact ⟨e, by rw [HP.out, e]; rfl⟩)
    clear hg
    cases G1 with
    | false =>
      go_wp2
      go_ret2
      obtain ⟨e1, e2⟩ := HF.out
      exact ⟨by rw [e1, e2]; rfl, below_draw _ _⟩
    | true =>
      cases G2 with
      | false =>
        go_wp2
        go_ret2
        obtain ⟨e1, e2⟩ := HF.out
        exact ⟨by rw [e1, e2]; rfl, below_draw _ _⟩
      | true =>
        cases G3 with
        | false =>
          go_wp2
          go_ret2
          obtain ⟨e1, e2⟩ := HF.out
          exact ⟨by rw [e1, e2]; rfl, below_draw _ _⟩
        | true => exact absurd HF.out.1 (by rw [HE.out, errG, if_pos (by decide)]; split <;> decide)
theorem and16 (x : Int) (i : Nat) (m : Int) (h0 : 0 ≤ x) (h1 : x < 65536) (hi : i ≤ 16) (hm : m = ((2 ^ i - 1 : Nat) : Int)) : bits .and .u16 x m = ((x.toNat % 2 ^ i : Nat) : Int) := by
  have hp : 2 ^ i ≤ 2 ^ 16 := Nat.pow_le_pow_right (by omega) hi
  have h3 : 1 ≤ 2 ^ i := Nat.one_le_two_pow
  have h4 : (2 : Nat) ^ 16 = 65536 := by decide
  rw [u16_and x m h0 h1 (by omega) (by omega)]
  have e : m.toNat = 2 ^ i - 1 := by omega
  rw [e, Nat.and_two_pow_sub_one_eq_mod]
theorem numL_3 (n : Nat) : (numL n).length ≤ 3 := by
  unfold numL
  split
  · simp
  · split <;> simp
theorem text_high (p : Int) (w : World) (h : 16383 < p) :
    Calls Tryz.prog 32 #[.int .u16 p] w fun e w' => e = .returned (.string ⟨#[]⟩) ∧ w = w' := by
  go_enter Tryz.func32, Tryz.ntmps32
  go_wp2
  go_ret
  exact ⟨rfl, rfl⟩
/-- Five pieces joined, in the walk's words. -/
theorem glue_runs (a b c : Nat) : ∃ S1 S2 S3 S4 : ByteArray, (∀ W, (binOp .add 9 (.string (bs (numL a))) (.string ⟨#[45]⟩)).run Tryz.prog W = .ok (.string S1) W) ∧ (∀ W, (binOp .add 9 (.string S1) (.string (bs (numL b)))).run Tryz.prog W = .ok (.string S2) W) ∧
    (∀ W, (binOp .add 9 (.string S2) (.string ⟨#[45]⟩)).run Tryz.prog W = .ok (.string S3) W) ∧ (∀ W, (binOp .add 9 (.string S3) (.string (bs (numL c)))).run Tryz.prog W = .ok (.string S4) W) ∧
    (∀ W, (Op.stringOp .add (bs (numL a)) ⟨#[45]⟩).run Tryz.prog W = .ok (.string S1) W) ∧ (∀ W, (Op.stringOp .add S1 (bs (numL b))).run Tryz.prog W = .ok (.string S2) W) ∧
    (∀ W, (Op.stringOp .add S2 ⟨#[45]⟩).run Tryz.prog W = .ok (.string S3) W) ∧ (∀ W, (Op.stringOp .add S3 (bs (numL c))).run Tryz.prog W = .ok (.string S4) W) ∧ S4 = bs (numL a ++ 45 :: (numL b ++ 45 :: numL c)) := by
  have cat : ∀ (x y : ByteArray), x.size + y.size ≤ 9223372036854775807 → ∀ W, (Op.stringOp .add x y).run Tryz.prog W = .ok (.string (x ++ y)) W := fun x y hxy W => run_string_add_sum W x y hxy
  have y2 : (⟨#[45]⟩ : ByteArray).size = 1 := rfl
  have za := numL_3 a
  have zb := numL_3 b
  have zc := numL_3 c
  have l1 := bs_len (numL a)
  have l2 := bs_len (numL b)
  have l3 := bs_len (numL c)
  obtain ⟨S1, e1⟩ : ∃ S : ByteArray, S = bs (numL a) ++ ⟨#[45]⟩ := ⟨_, rfl⟩
  obtain ⟨S2, e2⟩ : ∃ S : ByteArray, S = S1 ++ bs (numL b) := ⟨_, rfl⟩
  obtain ⟨S3, e3⟩ : ∃ S : ByteArray, S = S2 ++ ⟨#[45]⟩ := ⟨_, rfl⟩
  obtain ⟨S4, e4⟩ : ∃ S : ByteArray, S = S3 ++ bs (numL c) := ⟨_, rfl⟩
  have q1 : S1.size ≤ 4 := by rw [e1, ByteArray.size_append]; omega
  have q2 : S2.size ≤ 7 := by rw [e2, ByteArray.size_append]; omega
  have q3 : S3.size ≤ 8 := by rw [e3, ByteArray.size_append]; omega
  have o1 := fun W => (cat (bs (numL a)) ⟨#[45]⟩ (by omega) W).trans (by rw [← e1])
  have o2 := fun W => (cat S1 (bs (numL b)) (by omega) W).trans (by rw [← e2])
  have o3 := fun W => (cat S2 ⟨#[45]⟩ (by omega) W).trans (by rw [← e3])
  have o4 := fun W => (cat S3 (bs (numL c)) (by omega) W).trans (by rw [← e4])
  refine ⟨S1, S2, S3, S4, fun W => ?_, fun W => ?_, fun W => ?_, fun W => ?_, o1, o2, o3, o4, ?_⟩
  · rw [binOp_string_add]; exact o1 W
  · rw [binOp_string_add]; exact o2 W
  · rw [binOp_string_add]; exact o3 W
  · rw [binOp_string_add]; exact o4 W
  · rw [e4, e3, e2, e1]
    show bs (numL a) ++ bs [45] ++ bs (numL b) ++ bs [45] ++ bs (numL c) = _
    simp only [bs_cat]
    congr 1
    simp
set_option maxHeartbeats 1000000 in
theorem text_any (p : Nat) (w : World) (h : p ≤ 16383) (hp : PowOk w) :
    Calls Tryz.prog 32 #[.int .u16 (p : Int)] w fun e w' => e = .returned (.string (bs (pcL p))) ∧ Below w.heap.size w w' := by
  obtain ⟨S1, S2, S3, S4, r1, r2, r3, r4, o1, o2, o3, o4, eS⟩ := glue_runs (p / 2048) (p / 8 % 256) (p % 8)
  have HS := Lib.hid eS
  obtain ⟨a, ha⟩ : ∃ a, a = p / 2048 := ⟨_, rfl⟩
  obtain ⟨b, hb⟩ : ∃ b, b = p / 8 % 256 := ⟨_, rfl⟩
  obtain ⟨c, hc⟩ : ∃ c, c = p % 8 := ⟨_, rfl⟩
  rw [← ha] at r1 o1
  rw [← hb] at r2 o2
  rw [← hc] at r4 o4
  have e1 : (p : Int) / 2048 = (a : Int) := by omega
  have e2 : bits .and .u16 ((p : Int) / 8) 255 = (b : Int) := by
    rw [and16 _ 8 255 (by omega) (by omega) (by decide) (by decide), hb]
    show ((((p : Int) / 8).toNat % 256 : Nat) : Int) = _
    omega
  have e3 : bits .and .u16 (p : Int) 7 = (c : Int) := by
    rw [and16 _ 3 7 (by omega) (by omega) (by decide) (by decide), hc]
    show (((p : Int).toNat % 8 : Nat) : Int) = _
    omega
  have I1 := Lib.hid (fun W (hW : PowOk W) => itoa_any a W (by omega) hW)
  have I2 := Lib.hid (fun W (hW : PowOk W) => itoa_any b W (by omega) hW)
  have I3 := Lib.hid (fun W (hW : PowOk W) => itoa_any c W (by omega) hW)
  have a1 : (a : Int) ≤ 7 := by omega
  have b1 : (b : Int) ≤ 255 := by omega
  have c1 : (c : Int) ≤ 7 := by omega
  have HP := Lib.hid hp
  clear eS ha hb hc hp
  go_enter Tryz.func32, Tryz.ntmps32
  go_wp2_with fail
  refine (I1.out _ HP.out).mono ?_
  rintro e w1 ⟨rfl, hb1⟩
  have P1 := Lib.hid (HP.out.later hb1)
  have B1 := Lib.hid hb1
  clear hb1
  go_wp2_with fail
  refine (I2.out _ P1.out).mono ?_
  rintro e w2 ⟨rfl, hb2⟩
  have P2 := Lib.hid (P1.out.later hb2)
  have B2 := Lib.hid (B1.out.trans (hb2.mono B1.out.size))
  clear hb2
  go_wp2_with fail
  refine (I3.out _ P2.out).mono ?_
  rintro e w3 ⟨rfl, hb3⟩
  have B3 := Lib.hid (B2.out.trans (hb3.mono B2.out.size))
  clear hb3
  go_wp2
  go_ret
  exact ⟨congrArg (fun z => Ending.returned (Value.string z)) HS.out, B3.out⟩
end Go.Proofs.YthlckipcgogogaaGreatDoor
