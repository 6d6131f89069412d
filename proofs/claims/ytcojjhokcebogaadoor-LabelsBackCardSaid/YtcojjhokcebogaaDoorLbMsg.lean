/- Contracts of package labels: isLabel, Check, numberOf, labelOf. -/
import Derived.Test.YtcojjhokcebogaaDoorLbCmp
import Derived.Laws.BitsAllLaws
namespace Go.Proofs.YtcojjhokcebogaaDoor
open Go.RowKit

theorem or_shift {a : Nat} (b i : Nat) (h : a < 2 ^ i) : a ||| (b * 2 ^ i) = a + b * 2 ^ i := by
  have h2 := Nat.two_pow_add_eq_or_of_lt h b
  rw [Nat.or_comm, Nat.mul_comm b, ← h2]; omega
theorem u32_add {a b : Int} (x i : Nat) (h0 : 0 ≤ a) (h1 : a < ((2 ^ i : Nat) : Int)) (hb : b = ((x * 2 ^ i : Nat) : Int)) (hs : a < 4294967296) (ht : b < 4294967296) : bits .or .u32 a b = a + b := by
  rw [u32_or a b h0 hs (by omega) ht]
  have e : b.toNat = x * 2 ^ i := by omega
  rw [e, or_shift x i (by omega)]
  omega
/-- The fields of a message but Data are as the document says. -/
def fieldsB (sv nw pr to fr sl : Int) : Bool := decide (sv ≤ 15) && decide (nw ≤ 3) && decide (pr ≤ 3) && decide (to ≤ 16383) && decide (fr ≤ 16383) && decide (sl ≤ 15)
/-- The error of a message with n bytes of Data. -/
def chkM (sv nw pr to fr sl : Int) (n : Nat) : Int := if fieldsB sv nw pr to fr sl then (if 268 < n then 3 else 0) else 1
theorem isLabel_any (to fr sl : Int) (w : World) :
    Calls Tryd.prog 34 #[.agg #[.int .u16 to, .int .u16 fr, .int .u8 sl]] w fun e w' => e = .returned (.bool (decide (to ≤ 16383) && decide (fr ≤ 16383) && decide (sl ≤ 15))) ∧ Below w.heap.size w w' := by
  obtain ⟨B, hB⟩ : ∃ b, b = (decide (to ≤ 16383) && decide (fr ≤ 16383) && decide (sl ≤ 15)) := ⟨_, rfl⟩
  rw [← hB]
  by_cases h1 : to ≤ 16383
  · by_cases h2 : fr ≤ 16383
    · by_cases h3 : sl ≤ 15
      · have HE := Lib.hid (show B = true by rw [hB]; simp [h1, h2, h3])
        clear hB
        go_enter Tryd.func34, Tryd.ntmps34
        go_wp2
        go_ret
        exact ⟨congrArg (fun z => Ending.returned (Value.bool z)) HE.out.symm, below_alloc _ _⟩
      · have HE := Lib.hid (show B = false by rw [hB]; rw [decide_eq_false h3, Bool.and_false])
        clear hB
        go_enter Tryd.func34, Tryd.ntmps34
        go_wp2
        go_ret
        exact ⟨congrArg (fun z => Ending.returned (Value.bool z)) HE.out.symm, below_alloc _ _⟩
    · have HE := Lib.hid (show B = false by rw [hB]; rw [decide_eq_false h2, Bool.and_false, Bool.false_and])
      clear hB
      go_enter Tryd.func34, Tryd.ntmps34
      go_wp2
      go_ret
      exact ⟨congrArg (fun z => Ending.returned (Value.bool z)) HE.out.symm, below_alloc _ _⟩
  · have HE := Lib.hid (show B = false by rw [hB]; rw [decide_eq_false h1, Bool.false_and, Bool.false_and])
    clear hB
    go_enter Tryd.func34, Tryd.ntmps34
    go_wp2
    go_ret
    exact ⟨congrArg (fun z => Ending.returned (Value.bool z)) HE.out.symm, below_alloc _ _⟩
theorem numberOf_any (to fr sl : Int) (w : World) (h0 : 0 ≤ to) (h0' : to ≤ 16383) (h1 : 0 ≤ fr) (h1' : fr ≤ 16383) (h2 : 0 ≤ sl) (h2' : sl ≤ 15) :
    Calls Tryd.prog 33 #[.agg #[.int .u16 to, .int .u16 fr, .int .u8 sl]] w fun e w' => e = .returned (.int .u32 (to + 16384 * fr + 268435456 * sl)) ∧ Below w.heap.size w w' := by
  have HE := Lib.hid (show bits .or .u32 (bits .or .u32 to (fr * 16384)) (sl * 268435456) = to + 16384 * fr + 268435456 * sl by
    rw [u32_add (a := to) fr.toNat 14 h0 (by show to < ((16384 : Nat) : Int); omega) (by show fr * 16384 = ((fr.toNat * 16384 : Nat) : Int); omega) (by omega) (by omega), u32_add (a := to + fr * 16384) sl.toNat 28 (by omega) (by show to + fr * 16384 < ((268435456 : Nat) : Int); omega) (by show sl * 268435456 = ((sl.toNat * 268435456 : Nat) : Int); omega) (by omega) (by omega)]
    omega)
  go_enter Tryd.func33, Tryd.ntmps33
  go_wp2
  go_ret
  exact ⟨ret_int HE.out, below_alloc _ _⟩
theorem mask14 (n : Int) (h0 : 0 ≤ n) (h1 : n ≤ 4294967295) : IntKind.u16.wrap (bits .and .u32 n 16383) = n % 16384 := by
  rw [u32_and n 16383 h0 (by omega) (by decide) (by decide)]
  have e : n.toNat &&& (16383 : Int).toNat = n.toNat % 16384 := Nat.and_two_pow_sub_one_eq_mod n.toNat 14
  rw [e]
  have e2 : ((n.toNat % 16384 : Nat) : Int) = n % 16384 := by omega
  rw [e2]
  exact IntWalk.u16_in _ (by omega)
theorem labelOf_any (n : Int) (w : World) (h0 : 0 ≤ n) (h1 : n ≤ 4294967295) :
    Calls Tryd.prog 35 #[.int .u32 n] w fun e w' => e = .returned (.agg #[.int .u16 (n % 16384), .int .u16 (n / 16384 % 16384), .int .u8 (n / 268435456)]) ∧ Below w.heap.size w w' := by
  have e1 := mask14 n h0 h1
  have e2 := mask14 (n / 16384) (by omega) (by omega)
  go_enter Tryd.func35, Tryd.ntmps35
  go_wp2
  exact bodyPost_ret (v := .agg #[.int .u16 (n % 16384), .int .u16 (n / 16384 % 16384), .int .u8 (n / 268435456)]) (by simp [results, Tryd.results35, go_sem]) rfl ⟨rfl, below_alloc _ _⟩
theorem chkM_bad {sv nw pr to fr sl : Int} {n : Nat} (h : fieldsB sv nw pr to fr sl = false) : chkM sv nw pr to fr sl n = 1 := by unfold chkM; rw [h]; rfl
theorem chkM_cases (sv nw pr to fr sl : Int) (n : Nat) : chkM sv nw pr to fr sl n = 1 ∧ fieldsB sv nw pr to fr sl = false ∨ chkM sv nw pr to fr sl n = 3 ∧ fieldsB sv nw pr to fr sl = true ∧ 268 < n ∨ chkM sv nw pr to fr sl n = 0 ∧ fieldsB sv nw pr to fr sl = true ∧ n ≤ 268 := by
  unfold chkM
  cases fieldsB sv nw pr to fr sl
  · simp
  · by_cases h : 268 < n
    · simp [h]
    · simp [h]; omega
theorem fieldsB_iff {sv nw pr to fr sl : Int} : fieldsB sv nw pr to fr sl = true ↔ sv ≤ 15 ∧ nw ≤ 3 ∧ pr ≤ 3 ∧ to ≤ 16383 ∧ fr ≤ 16383 ∧ sl ≤ 15 := by
  simp [fieldsB, and_assoc]
theorem check_any (sv nw pr to fr sl : Int) (a : Option Addr) (n c : Nat) (w : World) (hn : n ≤ 9223372036854775807) :
    Calls Tryd.prog 18 #[.agg #[.int .u8 sv, .int .u8 nw, .int .u8 pr, .int .u16 to, .int .u16 fr, .int .u8 sl, .slice a n c]] w fun e w' => e = .returned (.int .i64 (chkM sv nw pr to fr sl n)) ∧ Below w.heap.size w w' := by
  obtain ⟨B, hB⟩ : ∃ b, b = (decide (to ≤ 16383) && decide (fr ≤ 16383) && decide (sl ≤ 15)) := ⟨_, rfl⟩
  have HL := Lib.hid (fun W => isLabel_any to fr sl W)
  rw [← hB] at HL
  have hF : fieldsB sv nw pr to fr sl = (decide (sv ≤ 15) && decide (nw ≤ 3) && decide (pr ≤ 3) && B) := by rw [hB]; simp [fieldsB, Bool.and_assoc]
  clear hB
  by_cases h1 : sv ≤ 15
  · by_cases h2 : nw ≤ 3
    · by_cases h3 : pr ≤ 3
      · simp only [h1, h2, h3, decide_true, Bool.true_and] at hF
        cases B with
        | false =>
          have HE := Lib.hid (chkM_bad (n := n) hF)
          clear hF
          go_enter Tryd.func18, Tryd.ntmps18
          go_wp2_with fail
          refine (HL.out _).mono ?_
          rintro e w1 ⟨rfl, hb⟩
          have HB := Lib.hid (below_call hb)
          clear hb
          go_wp2
          go_ret
          exact ⟨ret_int HE.out.symm, HB.out⟩
        | true =>
          have hE : chkM sv nw pr to fr sl n = if 268 < n then 3 else 0 := by unfold chkM; rw [hF]; rfl
          clear hF
          by_cases hd : 268 < n
          · rw [if_pos hd] at hE
            have HE := Lib.hid hE
            clear hE
            go_enter Tryd.func18, Tryd.ntmps18
            go_wp2_with fail
            refine (HL.out _).mono ?_
            rintro e w1 ⟨rfl, hb⟩
            obtain ⟨c0, c1, c2, c3, c4, c5, c6⟩ := unit_cells ((own_lit w 38 #[.int .u8 sv, .int .u8 nw, .int .u8 pr, .int .u16 to, .int .u16 fr, .int .u8 sl, .slice a n c] _ rfl).below hb (by simp))
            have HB := Lib.hid (below_call hb)
            clear hb
            go_wp2
            go_ret
            exact ⟨ret_int HE.out.symm, HB.out⟩
          · rw [if_neg hd] at hE
            have HE := Lib.hid hE
            clear hE
            go_enter Tryd.func18, Tryd.ntmps18
            go_wp2_with fail
            refine (HL.out _).mono ?_
            rintro e w1 ⟨rfl, hb⟩
            obtain ⟨c0, c1, c2, c3, c4, c5, c6⟩ := unit_cells ((own_lit w 38 #[.int .u8 sv, .int .u8 nw, .int .u8 pr, .int .u16 to, .int .u16 fr, .int .u8 sl, .slice a n c] _ rfl).below hb (by simp))
            have HB := Lib.hid (below_call hb)
            clear hb
            go_wp2
            go_ret
            exact ⟨ret_int HE.out.symm, HB.out⟩
      · have HE := Lib.hid (chkM_bad (n := n) (show fieldsB sv nw pr to fr sl = false by rw [hF]; simp [h3]))
        clear hF
        go_enter Tryd.func18, Tryd.ntmps18
        go_wp2
        go_ret
        exact ⟨ret_int HE.out.symm, below_alloc _ _⟩
    · have HE := Lib.hid (chkM_bad (n := n) (show fieldsB sv nw pr to fr sl = false by rw [hF]; simp [h2]))
      clear hF
      go_enter Tryd.func18, Tryd.ntmps18
      go_wp2
      go_ret
      exact ⟨ret_int HE.out.symm, below_alloc _ _⟩
  · have HE := Lib.hid (chkM_bad (n := n) (show fieldsB sv nw pr to fr sl = false by rw [hF]; simp [h1]))
    clear hF
    go_enter Tryd.func18, Tryd.ntmps18
    go_wp2
    go_ret
    exact ⟨ret_int HE.out.symm, below_alloc _ _⟩
end Go.Proofs.YtcojjhokcebogaaDoor
