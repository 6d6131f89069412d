/- Contracts: bits.Put and bits.Get. -/
import Derived.Test.YtjadmhmfjjjcfaaOct
import Derived.Test.YtjadmhmfjjjcfaaStream
namespace Go.Proofs.Ytjadmhmfjjjcfaa
open Go.RowKit

/-- The error of Put. -/
def putErr (l : List Int) (v m : Int) : Int :=
  if ¬ errOf l = 0 then errOf l else if ¬ (0 ≤ m ∧ m ≤ 64) then 1 else if ¬ v / 2 ^ m.toNat = 0 then 1 else if 1048576 < (l.length : Int) + m then 3 else 0
/-- The error of Get. -/
def getErr (l : List Int) (at_ m : Int) : Int :=
  if ¬ errOf l = 0 then errOf l else if ¬ (0 ≤ m ∧ m ≤ 64) then 1 else if at_ < 0 then 1 else if (l.length : Int) - m < at_ then 5 else 0

set_option maxHeartbeats 400000 in
theorem put_err (a : Option Addr) (n c : Nat) (l : List Int) (v m : Int) (w : World) (h : Row .u8 w a n c l) (_hv0 : 0 ≤ v) (_hv : v ≤ 18446744073709551615) (he : putErr l v m ≠ 0) :
    Calls Try.prog 20 #[.slice a n c, .int .u64 v, .int .i64 m] w fun e w' => e = .returned (.tuple #[.slice none 0 0, .int .i64 (putErr l v m)]) ∧ w = w' := by
  have hcon := check_any a n c l w h
  have hln := h.len
  by_cases h0 : errOf l = 0
  · rw [h0] at hcon
    obtain ⟨hn, hbits⟩ := errOf_zero h0
    rw [h.len] at hn
    have hwid := isWidth_any m w
    by_cases hm : 0 ≤ m ∧ m ≤ 64
    · simp only [hm, and_self, decide_true] at hwid
      obtain ⟨hm0, hm1⟩ := hm
      obtain ⟨k, rfl⟩ := Int.eq_ofNat_of_zero_le hm0
      by_cases hsh : v / 2 ^ k = 0
      · have hfin0 : putErr l v k = if 1048576 < (n : Int) + (k : Int) then 3 else 0 := by
          unfold putErr
          rw [if_neg (by simp [h0]), if_neg (by simp [hm1]), if_neg (by rw [Int.toNat_natCast]; simp [hsh]), hln]
        have hlim : (1048576 : Int) < (n : Int) + (k : Int) := by
          rw [hfin0] at he
          by_cases hh : (1048576 : Int) < (n : Int) + (k : Int)
          · exact hh
          · rw [if_neg hh] at he; exact absurd rfl he
        have hfin : putErr l v k = 3 := by rw [hfin0, if_pos hlim]
        rw [hfin]
        have hsb : ((v / 2 ^ k) != 0) = false := by rw [hsh]; rfl
        have HC := Lib.hid hcon
        have HW := Lib.hid hwid
        clear hfin hfin0 hcon hwid he h0 hbits h hln hsh
        go_enter Try.func20, Try.ntmps20
        go_wp2_with fail
        refine HC.out.mono ?_
        rintro e w' ⟨rfl, rfl⟩
        go_wp2_with fail
        refine HW.out.mono ?_
        rintro e w' ⟨rfl, rfl⟩
        go_wp2
        go_ret2
        exact ⟨rfl, rfl⟩
      · have hfin : putErr l v k = 1 := by
          unfold putErr
          rw [if_neg (by simp [h0]), if_neg (by simp [hm1]), if_pos (by rw [Int.toNat_natCast]; exact hsh)]
        rw [hfin]
        have hsb : ((v / 2 ^ k) != 0) = true := by rw [bne_iff_ne]; exact hsh
        have HC := Lib.hid hcon
        have HW := Lib.hid hwid
        clear hfin hcon hwid he h0 hbits h hln hsh
        go_enter Try.func20, Try.ntmps20
        go_wp2_with fail
        refine HC.out.mono ?_
        rintro e w' ⟨rfl, rfl⟩
        go_wp2_with fail
        refine HW.out.mono ?_
        rintro e w' ⟨rfl, rfl⟩
        go_wp2
        go_ret2
        exact ⟨rfl, rfl⟩
    · simp only [hm, decide_false] at hwid
      have hfin : putErr l v m = 1 := by
        unfold putErr
        rw [if_neg (by simp [h0]), if_pos hm]
      rw [hfin]
      have HC := Lib.hid hcon
      have HW := Lib.hid hwid
      clear hfin hcon hwid he h0 hbits h hln hm
      go_enter Try.func20, Try.ntmps20
      go_wp2_with fail
      refine HC.out.mono ?_
      rintro e w' ⟨rfl, rfl⟩
      go_wp2_with fail
      refine HW.out.mono ?_
      rintro e w' ⟨rfl, rfl⟩
      go_wp2
      go_ret2
      exact ⟨rfl, rfl⟩
  · have hfin : putErr l v m = errOf l := by
      unfold putErr
      rw [if_pos h0]
    rw [hfin]
    obtain ⟨x, hx⟩ : ∃ x, x = errOf l := ⟨_, rfl⟩
    rw [← hx] at hcon h0 ⊢
    have hne' : (x != 0) = true := by simpa using h0
    have HC := Lib.hid hcon
    clear hcon hx h hfin he h0 hln
    go_enter Try.func20, Try.ntmps20
    go_wp2_with fail
    refine HC.out.mono ?_
    rintro e w' ⟨rfl, rfl⟩
    go_wp2
    go_ret2
    exact ⟨rfl, rfl⟩

theorem putErr_zero {l : List Int} {v m : Int} (h : putErr l v m = 0) : errOf l = 0 ∧ 0 ≤ m ∧ m ≤ 64 ∧ v / 2 ^ m.toNat = 0 ∧ (l.length : Int) + m ≤ 1048576 := by
  unfold putErr at h
  split at h
  · contradiction
  · split at h
    · omega
    · split at h
      · omega
      · split at h
        · omega
        · rename_i h1 h2 h3 h4
          simp only [Decidable.not_not] at h1 h2 h3
          exact ⟨h1, h2.1, h2.2, h3, by omega⟩

set_option maxHeartbeats 400000 in
theorem put_ok (a : Option Addr) (n c m : Nat) (l : List Int) (v : Int) (w : World) (h : Row .u8 w a n c l) (hv0 : 0 ≤ v) (hv : v ≤ 18446744073709551615) (he : putErr l v m = 0) :
    Calls Try.prog 20 #[.slice a n c, .int .u64 v, .int .i64 m] w fun e w' => e = .returned (.tuple #[.slice (some ⟨w.heap.size, 0, none⟩) (n + m) (n + m), .int .i64 0]) ∧ Below w.heap.size w w' ∧
      Own w' w.heap.size 5 (nums .u8 (l ++ bitsOf v m)) := by
  have hcon := check_any a n c l w h
  obtain ⟨h0, hm0, hm1, hsh, hlim⟩ := putErr_zero he
  rw [h0] at hcon
  obtain ⟨hn, hbits⟩ := errOf_zero h0
  rw [h.len] at hn hlim
  rw [Int.toNat_natCast] at hsh
  have hwid := isWidth_any m w
  simp only [hm0, hm1, and_self, decide_true] at hwid
  have hext := extended_any a n c m l w h (by omega) (by omega)
  have hsb : ((v / 2 ^ m) != 0) = false := by rw [hsh]; rfl
  have hll := h.len
  have HC := Lib.hid hcon
  have HW := Lib.hid hwid
  have HE := Lib.hid hext
  rcases Nat.eq_zero_or_pos m with hz | hpos
  · subst hz
    have hwr : ∀ w1 : World, Own w1 w.heap.size 5 (nums .u8 l) → Calls Try.prog 29 #[.slice (some ⟨w.heap.size, 0, none⟩) 0 0, .int .u64 v, .int .i64 0] w1 fun e w' =>
        e = .returned (.tuple #[]) ∧ Only w.heap.size w1 w' ∧ Own w' w.heap.size 5 (nums .u8 l) := fun w1 hw1 => by
      have := write_any w.heap.size 0 0 0 0 v l w1 hw1 (by omega) (by omega) (by omega) hv0 hv
      simpa [bitsOf] using this
    have HWr := Lib.hid hwr
    clear hcon hwid he h0 hbits h hsh hext hwr
    go_enter Try.func20, Try.ntmps20
    go_wp2_with fail
    refine HC.out.mono ?_
    rintro e w' ⟨rfl, rfl⟩
    go_wp2_with fail
    refine HW.out.mono ?_
    rintro e w' ⟨rfl, rfl⟩
    go_wp2_with fail
    refine HE.out.mono ?_
    rintro e w1 ⟨rfl, hb1, ho1⟩
    rw [List.replicate_zero, List.append_nil] at ho1
    have HB1 := Lib.hid hb1
    have HO1 := Lib.hid ho1
    have hsz := hb1.size
    have hlt := ho1.lt
    clear hb1 ho1
    go_wp2_with fail
    refine (HWr.out w1 HO1.out).mono ?_
    rintro e w2 ⟨rfl, hon, hown⟩
    have HO2 := Lib.hid hown
    have HN2 := Lib.hid hon
    clear hown hon
    go_wp2
    go_ret2
    exact ⟨rfl, HN2.out.below HB1.out (Nat.le_of_lt hlt) (Nat.le_refl _), by simpa [bitsOf] using HO2.out⟩
  · have hwr : ∀ w1 : World, Own w1 w.heap.size 5 (nums .u8 (l ++ List.replicate m 0)) → Calls Try.prog 29 #[.slice (some ⟨w.heap.size, n, none⟩) m m, .int .u64 v, .int .i64 m] w1 fun e w' =>
        e = .returned (.tuple #[]) ∧ Only w.heap.size w1 w' ∧ Own w' w.heap.size 5 (nums .u8 (l ++ bitsOf v m)) := fun w1 hw1 => by
      have := write_any w.heap.size n m m m v (l ++ List.replicate m 0) w1 hw1 (by rw [List.length_append, h.len, List.length_replicate]; omega) (by omega) (by omega) hv0 hv
      rw [List.take_left' hll, List.drop_of_length_le (by simp [hll]), List.append_nil] at this
      exact this
    have HWr := Lib.hid hwr
    clear hcon hwid he h0 hbits h hsh hext hwr hll
    go_enter Try.func20, Try.ntmps20
    go_wp2_with fail
    refine HC.out.mono ?_
    rintro e w' ⟨rfl, rfl⟩
    go_wp2_with fail
    refine HW.out.mono ?_
    rintro e w' ⟨rfl, rfl⟩
    go_wp2_with fail
    refine HE.out.mono ?_
    rintro e w1 ⟨rfl, hb1, ho1⟩
    have HB1 := Lib.hid hb1
    have HO1 := Lib.hid ho1
    have hsz := hb1.size
    have hlt := ho1.lt
    clear hb1 ho1
    have hsub : n + m - n = m := by omega
    go_wp2_with fail
    refine (HWr.out w1 HO1.out).mono ?_
    rintro e w2 ⟨rfl, hon, hown⟩
    have HO2 := Lib.hid hown
    have HN2 := Lib.hid hon
    clear hown hon
    go_wp2
    go_ret2
    exact ⟨rfl, HN2.out.below HB1.out (Nat.le_of_lt hlt) (Nat.le_refl _), HO2.out⟩

theorem getErr_zero {l : List Int} {p m : Int} (h : getErr l p m = 0) : errOf l = 0 ∧ 0 ≤ m ∧ m ≤ 64 ∧ 0 ≤ p ∧ p + m ≤ (l.length : Int) := by
  unfold getErr at h
  split at h
  · contradiction
  · split at h
    · omega
    · split at h
      · omega
      · split at h
        · omega
        · rename_i h1 h2 h3 h4
          simp only [Decidable.not_not] at h1 h2
          exact ⟨h1, h2.1, h2.2, by omega, by omega⟩

set_option maxHeartbeats 400000 in
theorem get_err (a : Option Addr) (n c : Nat) (l : List Int) (p m : Int) (w : World) (h : Row .u8 w a n c l) (hp0 : -9223372036854775808 ≤ p) (hp1 : p ≤ 9223372036854775807) (he : getErr l p m ≠ 0) :
    Calls Try.prog 21 #[.slice a n c, .int .i64 p, .int .i64 m] w fun e w' => e = .returned (.tuple #[.int .u64 0, .int .i64 (getErr l p m)]) ∧ w = w' := by
  have hcon := check_any a n c l w h
  have hln := h.len
  by_cases h0 : errOf l = 0
  · rw [h0] at hcon
    obtain ⟨hn, hbits⟩ := errOf_zero h0
    rw [h.len] at hn
    have hwid := isWidth_any m w
    by_cases hm : 0 ≤ m ∧ m ≤ 64
    · simp only [hm, and_self, decide_true] at hwid
      obtain ⟨hm0, hm1⟩ := hm
      by_cases hp : p < 0
      · have hfin : getErr l p m = 1 := by
          unfold getErr
          rw [if_neg (by simp [h0]), if_neg (by simp [hm0, hm1]), if_pos hp]
        rw [hfin]
        have HC := Lib.hid hcon
        have HW := Lib.hid hwid
        clear hfin hcon hwid he h0 hbits h hln
        go_enter Try.func21, Try.ntmps21
        go_wp2_with fail
        refine HC.out.mono ?_
        rintro e w' ⟨rfl, rfl⟩
        go_wp2_with fail
        refine HW.out.mono ?_
        rintro e w' ⟨rfl, rfl⟩
        go_wp2
        go_ret2
        exact ⟨rfl, rfl⟩
      · have hfin0 : getErr l p m = if (n : Int) - m < p then 5 else 0 := by
          unfold getErr
          rw [if_neg (by simp [h0]), if_neg (by simp [hm0, hm1]), if_neg hp, hln]
        have hlim : (n : Int) - m < p := by
          rw [hfin0] at he
          by_cases hh : (n : Int) - m < p
          · exact hh
          · rw [if_neg hh] at he; exact absurd rfl he
        have hfin : getErr l p m = 5 := by rw [hfin0, if_pos hlim]
        rw [hfin]
        have HC := Lib.hid hcon
        have HW := Lib.hid hwid
        clear hfin hfin0 hcon hwid he h0 hbits h hln
        go_enter Try.func21, Try.ntmps21
        go_wp2_with fail
        refine HC.out.mono ?_
        rintro e w' ⟨rfl, rfl⟩
        go_wp2_with fail
        refine HW.out.mono ?_
        rintro e w' ⟨rfl, rfl⟩
        go_wp2
        go_ret2
        exact ⟨rfl, rfl⟩
    · simp only [hm, decide_false] at hwid
      have hfin : getErr l p m = 1 := by
        unfold getErr
        rw [if_neg (by simp [h0]), if_pos hm]
      rw [hfin]
      have HC := Lib.hid hcon
      have HW := Lib.hid hwid
      clear hfin hcon hwid he h0 hbits h hln hm
      go_enter Try.func21, Try.ntmps21
      go_wp2_with fail
      refine HC.out.mono ?_
      rintro e w' ⟨rfl, rfl⟩
      go_wp2_with fail
      refine HW.out.mono ?_
      rintro e w' ⟨rfl, rfl⟩
      go_wp2
      go_ret2
      exact ⟨rfl, rfl⟩
  · have hfin : getErr l p m = errOf l := by
      unfold getErr
      rw [if_pos h0]
    rw [hfin]
    obtain ⟨x, hx⟩ : ∃ x, x = errOf l := ⟨_, rfl⟩
    rw [← hx] at hcon h0 ⊢
    have hne' : (x != 0) = true := by simpa using h0
    have HC := Lib.hid hcon
    clear hcon hx h hfin he h0 hln
    go_enter Try.func21, Try.ntmps21
    go_wp2_with fail
    refine HC.out.mono ?_
    rintro e w' ⟨rfl, rfl⟩
    go_wp2
    go_ret2
    exact ⟨rfl, rfl⟩

/-- A piece of a slice that came in, from p on. At p = cap the address stays (the piece is empty). -/
theorem Row.cut {k : IntKind} {w : World} {a : Option Addr} {n c : Nat} {l : List Int} (h : Row k w a n c l) (p : Nat) (hp : p ≤ n) (a' : Option Addr)
    (ha : p < n → ∀ b o, a = some ⟨b, o, none⟩ → a' = some ⟨b, o + p, none⟩) (hn' : a' = none → c = p) : Row k w a' (n - p) (c - p) (l.drop p) := by
  obtain ⟨hl, hle, hmx, hw, hc, _⟩ := h
  refine ⟨by simp [hl], by omega, by omega, fun x hx => hw x (List.mem_of_mem_drop hx), ?_, fun h => by have := hn' h; omega⟩
  by_cases hpn : p < n
  · rcases hc with h0 | ⟨b, o, rfl, hc⟩
    · exact .inl (by omega)
    · refine .inr ⟨b, o + p, ha hpn b o rfl, fun i hi => ?_⟩
      rw [Nat.add_assoc, hc (p + i) (by omega)]
      simp [List.getD_eq_getElem?_getD]
  · exact .inl (by omega)

set_option maxHeartbeats 400000 in
theorem get_ok (a : Option Addr) (n c p m : Nat) (l : List Int) (w : World) (h : Row .u8 w a n c l) (he : getErr l p m = 0) :
    Calls Try.prog 21 #[.slice a n c, .int .i64 p, .int .i64 m] w fun e w' => e = .returned (.tuple #[.int .u64 (val ((l.drop p).take m)), .int .i64 0]) ∧ w = w' := by
  have hcon := check_any a n c l w h
  obtain ⟨h0, hm0, hm1, hp0, hlim⟩ := getErr_zero he
  rw [h0] at hcon
  obtain ⟨hn, hbits⟩ := errOf_zero h0
  rw [h.len] at hn hlim
  have hwid := isWidth_any m w
  simp only [hm0, hm1, and_self, decide_true] at hwid
  have hrd := fun a' ha' hn' => read_any a' (n - p) (c - p) m (l.drop p) w (h.cut p (by omega) a' ha' hn') (isBits_drop hbits p) (by omega) (by omega)
  have hle := h.le
  have hmx := h.max
  unfold maxLen at hmx
  have hcl := h.cells
  have HNil := Lib.hid h.isNil
  have HC := Lib.hid hcon
  have HW := Lib.hid hwid
  have HR := Lib.hid hrd
  clear hcon hwid hrd he h0 h hbits
  rcases hcl with h0 | ⟨b, o, rfl, _⟩
  · obtain rfl : n = 0 := h0
    obtain rfl : p = 0 := by omega
    obtain rfl : m = 0 := by omega
    rcases a with _ | ⟨b, o, sp⟩
    · obtain rfl : c = 0 := HNil.out rfl
      go_enter Try.func21, Try.ntmps21
      go_wp2_with fail
      refine HC.out.mono ?_
      rintro e w' ⟨rfl, rfl⟩
      go_wp2_with fail
      refine HW.out.mono ?_
      rintro e w' ⟨rfl, rfl⟩
      go_wp2_with fail
      have hr := HR.out none (fun hh => by omega) (by simp)
      rw [Nat.sub_zero, show ((0 : Nat) : Int) = 0 from rfl] at hr
      refine hr.mono ?_
      rintro e w' ⟨rfl, rfl⟩
      go_wp2
      go_ret2
      exact ⟨rfl, rfl⟩
    · go_enter Try.func21, Try.ntmps21
      go_wp2_with fail
      refine HC.out.mono ?_
      rintro e w' ⟨rfl, rfl⟩
      go_wp2_with fail
      refine HW.out.mono ?_
      rintro e w' ⟨rfl, rfl⟩
      go_wp2_with fail
      have hr := HR.out (some ⟨b, o, sp⟩) (fun hh => by omega) (by simp)
      rw [Nat.sub_zero, Nat.sub_zero, show ((0 : Nat) : Int) = 0 from rfl] at hr
      refine hr.mono ?_
      rintro e w' ⟨rfl, rfl⟩
      go_wp2
      go_ret2
      exact ⟨rfl, rfl⟩
  · go_enter Try.func21, Try.ntmps21
    go_wp2_with fail
    refine HC.out.mono ?_
    rintro e w' ⟨rfl, rfl⟩
    go_wp2_with fail
    refine HW.out.mono ?_
    rintro e w' ⟨rfl, rfl⟩
    go_wp2_with fail
    · have hr := HR.out (some ⟨b, o, none⟩) (fun hh => by omega) (by simp)
      have hcp : c = p := by assumption
      rw [show c - p = 0 by omega] at hr
      refine hr.mono ?_
      rintro e w' ⟨rfl, rfl⟩
      go_wp2
      go_ret2
      exact ⟨rfl, rfl⟩
    · have hr := HR.out (some ⟨b, o + p, none⟩) (fun hh b' o' h' => by simp at h'; simp [h']) (by simp)
      refine hr.mono ?_
      rintro e w' ⟨rfl, rfl⟩
      go_wp2
      go_ret2
      exact ⟨rfl, rfl⟩
end Go.Proofs.Ytjadmhmfjjjcfaa
