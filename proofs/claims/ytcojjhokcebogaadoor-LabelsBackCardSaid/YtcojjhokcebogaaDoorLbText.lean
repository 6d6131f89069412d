/- Contracts of package labels: Parse, Text. -/
import Derived.Test.YtcojjhokcebogaaDoorLbParse
namespace Go.Proofs.YtcojjhokcebogaaDoor
open Go.RowKit

theorem hd_le (l : List UInt8) : (hd l).length ≤ l.length ∧ (tl l).length ≤ l.length := by
  rcases cut_cases l with h | ⟨a, b, h, rfl⟩
  · obtain ⟨e1, e2⟩ := hd_no l h
    rw [e1, e2]; simp
  · obtain ⟨e1, e2⟩ := hd_at a b h
    rw [e1, e2]; simp; omega
theorem u16_add {a b : Int} (x i : Nat) (h0 : 0 ≤ a) (h1 : a < ((2 ^ i : Nat) : Int)) (hb : b = ((x * 2 ^ i : Nat) : Int)) (hs : a < 65536) (ht : b < 65536) : bits .or .u16 b a = a + b := by
  rw [u16_or b a (by omega) ht h0 hs]
  have e : b.toNat = x * 2 ^ i := by omega
  rw [e, Nat.or_comm, or_shift x i (by omega)]
  omega
/-- The error and the point of three parts. -/
def errG (G1 G2 G3 : Bool) (V1 V2 V3 : Int) : Int := if G1 && G2 && G3 then (if 7 < V1 ∨ 255 < V2 ∨ 7 < V3 then 1 else 0) else 4
theorem parse_out (l : List UInt8) : ∃ (G1 G2 G3 : Bool) (V1 V2 V3 : Int), goodB (hd l) = G1 ∧ goodB (hd (tl l)) = G2 ∧ goodB (tl (tl l)) = G3 ∧ (if goodB (hd l) then (numV (hd l) : Int) else 0) = V1 ∧ (if goodB (hd (tl l)) then (numV (hd (tl l)) : Int) else 0) = V2 ∧ (if goodB (tl (tl l)) then (numV (tl (tl l)) : Int) else 0) = V3 ∧
    0 ≤ V1 ∧ V1 ≤ 999 ∧ 0 ≤ V2 ∧ V2 ≤ 999 ∧ 0 ≤ V3 ∧ V3 ≤ 999 ∧ parseE l = errG G1 G2 G3 V1 V2 V3 ∧ parseP l = if errG G1 G2 G3 V1 V2 V3 = 0 then 2048 * V1 + 8 * V2 + V3 else 0 := by
  have hv : ∀ m : List UInt8, 0 ≤ (if goodB m then (numV m : Int) else 0) ∧ (if goodB m then (numV m : Int) else 0) ≤ 999 := by
    intro m
    cases h : goodB m with
    | false => simp
    | true => have := numV_le h; simp; omega
  have he : parseE l = errG (goodB (hd l)) (goodB (hd (tl l))) (goodB (tl (tl l))) (if goodB (hd l) then (numV (hd l) : Int) else 0) (if goodB (hd (tl l)) then (numV (hd (tl l)) : Int) else 0) (if goodB (tl (tl l)) then (numV (tl (tl l)) : Int) else 0) := by
    unfold parseE errG fine
    cases h1 : goodB (hd l) <;> cases h2 : goodB (hd (tl l)) <;> cases h3 : goodB (tl (tl l)) <;> simp
    split <;> split <;> omega
  refine ⟨_, _, _, _, _, _, rfl, rfl, rfl, rfl, rfl, rfl, (hv _).1, (hv _).2, (hv _).1, (hv _).2, (hv _).1, (hv _).2, he, ?_⟩
  unfold parseP
  rw [← he]
  split
  · rename_i h
    obtain ⟨_, _, _, _, _, hf⟩ := text_parse h
    simp only [fine, Bool.and_eq_true] at hf
    rw [hf.1.1, hf.1.2, hf.2]
    simp [parseN]
  · rfl
set_option maxHeartbeats 1000000 in
theorem parse_any (l : List UInt8) (w : World) (hl : l.length ≤ 9223372036854775806) :
    Calls Tryd.prog 13 #[.string (bs l)] w fun e w' => e = .returned (.tuple #[.int .u16 (parseP l), .int .i64 (parseE l)]) ∧ Below w.heap.size w w' := by
  obtain ⟨ha, hb⟩ := hd_le l
  obtain ⟨hc, hd'⟩ := hd_le (tl l)
  have K1 := Lib.hid (fun W => cut_any l W hl)
  have K2 := Lib.hid (fun W => cut_any (tl l) W (by omega))
  have p1 := fun W => part_any (hd l) W (by omega)
  have p2 := fun W => part_any (hd (tl l)) W (by omega)
  have p3 := fun W => part_any (tl (tl l)) W (by omega)
  obtain ⟨G1, G2, G3, V1, V2, V3, g1, g2, g3, v1, v2, v3, l1, u1, l2, u2, l3, u3, he, hp⟩ := parse_out l
  rw [v1, g1] at p1
  rw [v2, g2] at p2
  rw [v3, g3] at p3
  have P1 := Lib.hid p1
  have P2 := Lib.hid p2
  have P3 := Lib.hid p3
  obtain ⟨E, hE⟩ : ∃ E, E = parseE l := ⟨_, rfl⟩
  obtain ⟨P, hP⟩ : ∃ P, P = parseP l := ⟨_, rfl⟩
  rw [← hE, ← hP]
  rw [← hE] at he
  rw [← hP, ← he] at hp
  have HE := Lib.hid he
  have HP := Lib.hid hp
  clear ha hb hc hd' hl p1 p2 p3 g1 g2 g3 v1 v2 v3 he hp hE hP
  go_enter Tryd.func13, Tryd.ntmps13
  go_wp2_with fail
  refine (K1.out _).mono ?_
  rintro e w1 ⟨⟨b1, rfl⟩, n1, rfl⟩
  go_wp2_with fail
  refine (K2.out _).mono ?_
  rintro e w2 ⟨⟨b2, rfl⟩, n2, rfl⟩
  go_wp2_with fail
  refine (P1.out _).mono ?_
  rintro e w3 ⟨rfl, rfl⟩
  go_wp2_with fail
  refine (P2.out _).mono ?_
  rintro e w4 ⟨rfl, rfl⟩
  go_wp2_with fail
  refine (P3.out _).mono ?_
  rintro e w5 ⟨rfl, rfl⟩
  by_cases hg : (G1 && G2 && G3) = true
  · simp only [Bool.and_eq_true] at hg
    obtain ⟨⟨rfl, rfl⟩, rfl⟩ := hg
    by_cases h1 : 7 < V1
    · have HF : Hid (E = 1 ∧ P = 0) := Lib.hid (by
        have e : E = 1 := by rw [HE.out, errG, if_pos (by decide), if_pos (by omega)]
        exact ⟨e, by rw [HP.out, e]; rfl⟩)
      go_wp2
      go_ret2
      obtain ⟨e1, e2⟩ := HF.out
      exact ⟨by rw [e1, e2]; rfl, below_draw _ _⟩
    · by_cases h2 : 255 < V2
      · have HF : Hid (E = 1 ∧ P = 0) := Lib.hid (by
          have e : E = 1 := by rw [HE.out, errG, if_pos (by decide), if_pos (by omega)]
          exact ⟨e, by rw [HP.out, e]; rfl⟩)
        go_wp2
        go_ret2
        obtain ⟨e1, e2⟩ := HF.out
        exact ⟨by rw [e1, e2]; rfl, below_draw _ _⟩
      · by_cases h3 : 7 < V3
        · have HF : Hid (E = 1 ∧ P = 0) := Lib.hid (by
            have e : E = 1 := by rw [HE.out, errG, if_pos (by decide), if_pos (by omega)]
            exact ⟨e, by rw [HP.out, e]; rfl⟩)
          go_wp2
          go_ret2
          obtain ⟨e1, e2⟩ := HF.out
          exact ⟨by rw [e1, e2]; rfl, below_draw _ _⟩
        · have HF : Hid (E = 0 ∧ P = bits .or .u16 (bits .or .u16 (V1 * 2048) (V2 * 8)) V3) := Lib.hid (by
            have e : E = 0 := by rw [HE.out, errG, if_pos (by decide), if_neg (by omega)]
            refine ⟨e, ?_⟩
            rw [HP.out, if_pos e, u16_add (a := V2 * 8) (b := V1 * 2048) V1.toNat 11 (by omega) (by show V2 * 8 < ((2048 : Nat) : Int); omega) (by show V1 * 2048 = ((V1.toNat * 2048 : Nat) : Int); omega) (by omega) (by omega),
              u16_add (a := V3) (b := V2 * 8 + V1 * 2048) (V2.toNat + V1.toNat * 256) 3 (by omega) (by show V3 < ((8 : Nat) : Int); omega) (by show V2 * 8 + V1 * 2048 = (((V2.toNat + V1.toNat * 256) * 8 : Nat) : Int); omega) (by omega) (by omega)]
            omega)
          go_wp2
          go_ret2
          obtain ⟨e1, e2⟩ := HF.out
          exact ⟨by rw [e1, e2]; rfl, below_draw _ _⟩
  · have HF : Hid (E = 4 ∧ P = 0) := Lib.hid (by
      have e : E = 4 := by rw [HE.out, errG, if_neg hg]
      exact ⟨e, by rw [HP.out, e]; rfl⟩)
    clear hg
    cases G1 with
    | false =>
      go_wp2
      go_ret2
      obtain ⟨e1, e2⟩ := HF.out
      exact ⟨by rw [e1, e2]; rfl, below_draw _ _⟩
    | true =>
      cases G2 with
      | false =>
        go_wp2
        go_ret2
        obtain ⟨e1, e2⟩ := HF.out
        exact ⟨by rw [e1, e2]; rfl, below_draw _ _⟩
      | true =>
        cases G3 with
        | false =>
          go_wp2
          go_ret2
          obtain ⟨e1, e2⟩ := HF.out
          exact ⟨by rw [e1, e2]; rfl, below_draw _ _⟩
        | true => exact absurd HF.out.1 (by rw [HE.out, errG, if_pos (by decide)]; split <;> decide)
theorem and16 (x : Int) (i : Nat) (m : Int) (h0 : 0 ≤ x) (h1 : x < 65536) (hi : i ≤ 16) (hm : m = ((2 ^ i - 1 : Nat) : Int)) : bits .and .u16 x m = ((x.toNat % 2 ^ i : Nat) : Int) := by
  have hp : 2 ^ i ≤ 2 ^ 16 := Nat.pow_le_pow_right (by omega) hi
  have h3 : 1 ≤ 2 ^ i := Nat.one_le_two_pow
  have h4 : (2 : Nat) ^ 16 = 65536 := by decide
  rw [u16_and x m h0 h1 (by omega) (by omega)]
  have e : m.toNat = 2 ^ i - 1 := by omega
  rw [e, Nat.and_two_pow_sub_one_eq_mod]
theorem numL_3 (n : Nat) : (numL n).length ≤ 3 := by
  unfold numL
  split
  · simp
  · split <;> simp
theorem text_high (p : Int) (w : World) (h : 16383 < p) :
    Calls Tryd.prog 11 #[.int .u16 p] w fun e w' => e = .returned (.string ⟨#[]⟩) ∧ w = w' := by
  go_enter Tryd.func11, Tryd.ntmps11
  go_wp2
  go_ret
  exact ⟨rfl, rfl⟩
/-- Five pieces joined, in the walk's words. -/
theorem glue_runs (a b c : Nat) : ∃ S1 S2 S3 S4 : ByteArray, (∀ W, (binOp .add 9 (.string (bs (numL a))) (.string ⟨#[45]⟩)).run Tryd.prog W = .ok (.string S1) W) ∧ (∀ W, (binOp .add 9 (.string S1) (.string (bs (numL b)))).run Tryd.prog W = .ok (.string S2) W) ∧
    (∀ W, (binOp .add 9 (.string S2) (.string ⟨#[45]⟩)).run Tryd.prog W = .ok (.string S3) W) ∧ (∀ W, (binOp .add 9 (.string S3) (.string (bs (numL c)))).run Tryd.prog W = .ok (.string S4) W) ∧
    (∀ W, (Op.stringOp .add (bs (numL a)) ⟨#[45]⟩).run Tryd.prog W = .ok (.string S1) W) ∧ (∀ W, (Op.stringOp .add S1 (bs (numL b))).run Tryd.prog W = .ok (.string S2) W) ∧
    (∀ W, (Op.stringOp .add S2 ⟨#[45]⟩).run Tryd.prog W = .ok (.string S3) W) ∧ (∀ W, (Op.stringOp .add S3 (bs (numL c))).run Tryd.prog W = .ok (.string S4) W) ∧ S4 = bs (numL a ++ 45 :: (numL b ++ 45 :: numL c)) := by
  have cat : ∀ (x y : ByteArray), x.size + y.size ≤ 9223372036854775807 → ∀ W, (Op.stringOp .add x y).run Tryd.prog W = .ok (.string (x ++ y)) W := fun x y hxy W => run_string_add_sum W x y hxy
  have y2 : (⟨#[45]⟩ : ByteArray).size = 1 := rfl
  have za := numL_3 a
  have zb := numL_3 b
  have zc := numL_3 c
  have l1 := bs_len (numL a)
  have l2 := bs_len (numL b)
  have l3 := bs_len (numL c)
  obtain ⟨S1, e1⟩ : ∃ S : ByteArray, S = bs (numL a) ++ ⟨#[45]⟩ := ⟨_, rfl⟩
  obtain ⟨S2, e2⟩ : ∃ S : ByteArray, S = S1 ++ bs (numL b) := ⟨_, rfl⟩
  obtain ⟨S3, e3⟩ : ∃ S : ByteArray, S = S2 ++ ⟨#[45]⟩ := ⟨_, rfl⟩
  obtain ⟨S4, e4⟩ : ∃ S : ByteArray, S = S3 ++ bs (numL c) := ⟨_, rfl⟩
  have q1 : S1.size ≤ 4 := by rw [e1, ByteArray.size_append]; omega
  have q2 : S2.size ≤ 7 := by rw [e2, ByteArray.size_append]; omega
  have q3 : S3.size ≤ 8 := by rw [e3, ByteArray.size_append]; omega
  have o1 := fun W => (cat (bs (numL a)) ⟨#[45]⟩ (by omega) W).trans (by rw [← e1])
  have o2 := fun W => (cat S1 (bs (numL b)) (by omega) W).trans (by rw [← e2])
  have o3 := fun W => (cat S2 ⟨#[45]⟩ (by omega) W).trans (by rw [← e3])
  have o4 := fun W => (cat S3 (bs (numL c)) (by omega) W).trans (by rw [← e4])
  refine ⟨S1, S2, S3, S4, fun W => ?_, fun W => ?_, fun W => ?_, fun W => ?_, o1, o2, o3, o4, ?_⟩
  · rw [binOp_string_add]; exact o1 W
  · rw [binOp_string_add]; exact o2 W
  · rw [binOp_string_add]; exact o3 W
  · rw [binOp_string_add]; exact o4 W
  · rw [e4, e3, e2, e1]
    show bs (numL a) ++ bs [45] ++ bs (numL b) ++ bs [45] ++ bs (numL c) = _
    simp only [bs_cat]
    congr 1
    simp
set_option maxHeartbeats 1000000 in
theorem text_any (p : Nat) (w : World) (h : p ≤ 16383) (hp : PowOk w) :
    Calls Tryd.prog 11 #[.int .u16 (p : Int)] w fun e w' => e = .returned (.string (bs (pcL p))) ∧ Below w.heap.size w w' := by
  obtain ⟨S1, S2, S3, S4, r1, r2, r3, r4, o1, o2, o3, o4, eS⟩ := glue_runs (p / 2048) (p / 8 % 256) (p % 8)
  have HS := Lib.hid eS
  obtain ⟨a, ha⟩ : ∃ a, a = p / 2048 := ⟨_, rfl⟩
  obtain ⟨b, hb⟩ : ∃ b, b = p / 8 % 256 := ⟨_, rfl⟩
  obtain ⟨c, hc⟩ : ∃ c, c = p % 8 := ⟨_, rfl⟩
  rw [← ha] at r1 o1
  rw [← hb] at r2 o2
  rw [← hc] at r4 o4
  have e1 : (p : Int) / 2048 = (a : Int) := by omega
  have e2 : bits .and .u16 ((p : Int) / 8) 255 = (b : Int) := by
    rw [and16 _ 8 255 (by omega) (by omega) (by decide) (by decide), hb]
    show ((((p : Int) / 8).toNat % 256 : Nat) : Int) = _
    omega
  have e3 : bits .and .u16 (p : Int) 7 = (c : Int) := by
    rw [and16 _ 3 7 (by omega) (by omega) (by decide) (by decide), hc]
    show (((p : Int).toNat % 8 : Nat) : Int) = _
    omega
  have I1 := Lib.hid (fun W (hW : PowOk W) => itoa_any a W (by omega) hW)
  have I2 := Lib.hid (fun W (hW : PowOk W) => itoa_any b W (by omega) hW)
  have I3 := Lib.hid (fun W (hW : PowOk W) => itoa_any c W (by omega) hW)
  have a1 : (a : Int) ≤ 7 := by omega
  have b1 : (b : Int) ≤ 255 := by omega
  have c1 : (c : Int) ≤ 7 := by omega
  have HP := Lib.hid hp
  clear eS ha hb hc hp
  go_enter Tryd.func11, Tryd.ntmps11
  go_wp2_with fail
  refine (I1.out _ HP.out).mono ?_
  rintro e w1 ⟨rfl, hb1⟩
  have P1 := Lib.hid (HP.out.later hb1)
  have B1 := Lib.hid hb1
  clear hb1
  go_wp2_with fail
  refine (I2.out _ P1.out).mono ?_
  rintro e w2 ⟨rfl, hb2⟩
  have P2 := Lib.hid (P1.out.later hb2)
  have B2 := Lib.hid (B1.out.trans (hb2.mono B1.out.size))
  clear hb2
  go_wp2_with fail
  refine (I3.out _ P2.out).mono ?_
  rintro e w3 ⟨rfl, hb3⟩
  have B3 := Lib.hid (B2.out.trans (hb3.mono B2.out.size))
  clear hb3
  go_wp2
  go_ret
  exact ⟨congrArg (fun z => Ending.returned (Value.string z)) HS.out, B3.out⟩
end Go.Proofs.YtcojjhokcebogaaDoor
