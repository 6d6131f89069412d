/- Joined: LbShelf LbMath LbCut LbMsg LbParse LbText -/
import Derived.Test.YtgklapjjofclcaaGreatDoorBase
import Derived.Shelf.Strings.Search2
import Derived.Test.YtgklapjjofclcaaGreatDoorUnMath
import Derived.Test.YtgklapjjofclcaaGreatDoorItoa
import Derived.Test.YtgklapjjofclcaaGreatDoorBaseEx
import Derived.Lib.CutLaws
import Derived.BigQuiet
import Derived.Test.YtgklapjjofclcaaGreatDoorUnBase
import Derived.Test.YtgklapjjofclcaaGreatDoorLbCmp
import Derived.Laws.BitsAllLaws
/- The library's functions under strings.Cut (internal/stringslite.Index), as this program bears them (the shelf's laying, in plain words). -/
namespace Go.Proofs.YtgklapjjofclcaaGreatDoor
open Go.Shelf
def lay219_ren : Go.Shelf.Ren := ⟨fun | 219 => 80 | 217 => 101 | 225 => 104 | 224 => 105 | 267 => 106 | 266 => 127 | 314 => 129 | n => n, fun | 9 => 9 | 3 => 3 | 4 => 4 | 5 => 5 | 46 => 130 | 146 => 186 | 51 => 177 | n => n, fun | 1 => 0 | n => n⟩
theorem lay219 : Go.Proofs.Lays.n219 Tryz.prog lay219_ren := {
  mixed := by kernel_rfl
  f217 := Tryz.func101.trans (congrArg some (by kernel_rfl))
  f219 := Tryz.func80.trans (congrArg some (by kernel_rfl))
  f224 := Tryz.func105.trans (congrArg some (by kernel_rfl))
  f225 := Tryz.func104.trans (congrArg some (by kernel_rfl))
  f266 := Tryz.func127.trans (congrArg some (by kernel_rfl))
  f267 := Tryz.func106.trans (congrArg some (by kernel_rfl))
  f314 := Tryz.func129.trans (congrArg some (by kernel_rfl))
  t3 := Tryz.underlying3
  a3 := Tryz.isAgg3
  z3 := Tryz.sizeOf3
  v3 := Tryz.zeroValue3
  t4 := Tryz.underlying4
  a4 := Tryz.isAgg4
  z4 := Tryz.sizeOf4
  v4 := Tryz.zeroValue4
  t5 := Tryz.underlying5
  a5 := Tryz.isAgg5
  z5 := Tryz.sizeOf5
  v5 := Tryz.zeroValue5
  t9 := Tryz.underlying9
  a9 := Tryz.isAgg9
  z9 := Tryz.sizeOf9
  v9 := Tryz.zeroValue9
  t46 := Tryz.underlying130
  a46 := Tryz.isAgg130
  z46 := Tryz.sizeOf130
  v46 := Tryz.zeroValue130
  t51 := Tryz.underlying177
  a51 := Tryz.isAgg177
  z51 := Tryz.sizeOf177
  v51 := Tryz.zeroValue177
  t146 := Tryz.underlying186
  a146 := Tryz.isAgg186
  z146 := Tryz.sizeOf186
  v146 := Tryz.zeroValue186
  g1 := by kernel_rfl }
end Go.Proofs.YtgklapjjofclcaaGreatDoor
/- The plain mathematics of point codes' texts: numerals, parts, what Parse and Text are to one another. -/
namespace Go.Proofs.YtgklapjjofclcaaGreatDoor

/-- A part is well formed: one to three digits, no leading zero. -/
def shapeB (l : List UInt8) : Bool := 1 ≤ l.length && l.length ≤ 3 && (l.length == 1 || l.getD 0 0 != 48)
def goodB (l : List UInt8) : Bool := shapeB l && l.all digitB
theorem byte_cases (P : UInt8 → Prop) (h : ∀ i : Fin 256, P (UInt8.ofNat i.val)) (c : UInt8) : P c := by
  have := h ⟨c.toNat, c.toNat_lt⟩
  simpa using this
/-- The digits: a byte is 48 + d. -/
theorem digit_of {c : UInt8} (h : digitB c = true) : ∃ d : Nat, d < 10 ∧ c = 48 + UInt8.ofNat d := by
  refine ⟨c.toNat - 48, ?_, ?_⟩
  · simp only [digitB, Bool.and_eq_true, decide_eq_true_eq, UInt8.le_iff_toNat_le] at h
    have h1 : c.toNat ≤ 57 := h.2
    omega
  · simp only [digitB, Bool.and_eq_true, decide_eq_true_eq, UInt8.le_iff_toNat_le] at h
    have h0 : 48 ≤ c.toNat := h.1
    have h1 : c.toNat ≤ 57 := h.2
    apply UInt8.toNat_inj.1
    rw [UInt8.toNat_add, UInt8.toNat_ofNat']
    simp
    omega
theorem numL_numV3 : ∀ a b c : Fin 10, (a.val ≠ 0 → numL (100 * a.val + 10 * b.val + c.val) = [48 + UInt8.ofNat a.val, 48 + UInt8.ofNat b.val, 48 + UInt8.ofNat c.val]) ∧ (b.val ≠ 0 → numL (10 * b.val + c.val) = [48 + UInt8.ofNat b.val, 48 + UInt8.ofNat c.val]) ∧ numL c.val = [48 + UInt8.ofNat c.val] := by decide +kernel
theorem numV3 : ∀ a b c : Fin 10, numV [48 + UInt8.ofNat a.val, 48 + UInt8.ofNat b.val, 48 + UInt8.ofNat c.val] = 100 * a.val + 10 * b.val + c.val ∧ numV [48 + UInt8.ofNat b.val, 48 + UInt8.ofNat c.val] = 10 * b.val + c.val ∧ numV [48 + UInt8.ofNat c.val] = c.val := by decide +kernel
theorem zero_byte (d : Nat) (hd : d < 10) (h : (48 + UInt8.ofNat d : UInt8) ≠ 48) : d ≠ 0 := by
  have : ∀ i : Fin 10, (48 + UInt8.ofNat i.val : UInt8) ≠ 48 → i.val ≠ 0 := by decide
  exact this ⟨d, hd⟩ h
/-- A well-formed part is the numeral of its number. -/
theorem numL_of_good {l : List UInt8} (h : goodB l = true) : numL (numV l) = l := by
  simp only [goodB, shapeB, Bool.and_eq_true, Bool.or_eq_true, decide_eq_true_eq, beq_iff_eq] at h
  obtain ⟨⟨⟨h1, h2⟩, h3⟩, h4⟩ := h
  match l, h1, h2, h3, h4 with
  | [x], _, _, _, h4 =>
    obtain ⟨c, hc, rfl⟩ := digit_of (by simpa using h4)
    rw [(numV3 0 0 ⟨c, hc⟩).2.2]; exact (numL_numV3 0 0 ⟨c, hc⟩).2.2
  | [x, y], _, _, h3, h4 =>
    simp at h4
    obtain ⟨b, hb, rfl⟩ := digit_of h4.1
    obtain ⟨c, hc, rfl⟩ := digit_of h4.2
    have hb0 : b ≠ 0 := zero_byte b hb (by simpa using h3)
    rw [(numV3 0 ⟨b, hb⟩ ⟨c, hc⟩).2.1]; exact (numL_numV3 0 ⟨b, hb⟩ ⟨c, hc⟩).2.1 hb0
  | [x, y, z], _, _, h3, h4 =>
    simp at h4
    obtain ⟨a, ha, rfl⟩ := digit_of h4.1
    obtain ⟨b, hb, rfl⟩ := digit_of h4.2.1
    obtain ⟨c, hc, rfl⟩ := digit_of h4.2.2
    have ha0 : a ≠ 0 := zero_byte a ha (by simpa using h3)
    rw [(numV3 ⟨a, ha⟩ ⟨b, hb⟩ ⟨c, hc⟩).1]; exact (numL_numV3 ⟨a, ha⟩ ⟨b, hb⟩ ⟨c, hc⟩).1 ha0
theorem good_numL : ∀ i : Fin 256, goodB (numL i.val) = true ∧ numV (numL i.val) = i.val ∧ (numL i.val).all (· != 45) = true ∧ (numL i.val).length ≤ 3 := by decide +kernel
theorem numV_le {l : List UInt8} (h : goodB l = true) : numV l ≤ 999 := by
  simp only [goodB, shapeB, Bool.and_eq_true, Bool.or_eq_true, decide_eq_true_eq, beq_iff_eq] at h
  obtain ⟨⟨⟨h1, h2⟩, h3⟩, h4⟩ := h
  match l, h1, h2, h3, h4 with
  | [x], _, _, _, h4 =>
    obtain ⟨c, hc, rfl⟩ := digit_of (by simpa using h4)
    rw [(numV3 0 0 ⟨c, hc⟩).2.2]; simp; omega
  | [x, y], _, _, h3, h4 =>
    simp at h4
    obtain ⟨b, hb, rfl⟩ := digit_of h4.1
    obtain ⟨c, hc, rfl⟩ := digit_of h4.2
    rw [(numV3 0 ⟨b, hb⟩ ⟨c, hc⟩).2.1]; simp; omega
  | [x, y, z], _, _, h3, h4 =>
    simp at h4
    obtain ⟨a, ha, rfl⟩ := digit_of h4.1
    obtain ⟨b, hb, rfl⟩ := digit_of h4.2.1
    obtain ⟨c, hc, rfl⟩ := digit_of h4.2.2
    rw [(numV3 ⟨a, ha⟩ ⟨b, hb⟩ ⟨c, hc⟩).1]; simp; omega
/-- What stands in front of the first '-', and behind it. -/
def hd (l : List UInt8) : List UInt8 := l.takeWhile (· != 45)
def tl (l : List UInt8) : List UInt8 := (l.dropWhile (· != 45)).drop 1
theorem hd_no : ∀ l : List UInt8, l.all (· != 45) = true → hd l = l ∧ tl l = []
  | [], _ => ⟨rfl, rfl⟩
  | c :: l, h => by
    simp only [List.all_cons, Bool.and_eq_true] at h
    obtain ⟨e1, e2⟩ := hd_no l h.2
    unfold hd tl at *
    simp only [List.takeWhile_cons, List.dropWhile_cons, h.1, if_true]
    rw [e1]
    exact ⟨rfl, e2⟩
theorem hd_at : ∀ (a b : List UInt8), a.all (· != 45) = true → hd (a ++ 45 :: b) = a ∧ tl (a ++ 45 :: b) = b
  | [], b, _ => ⟨rfl, rfl⟩
  | c :: l, b, h => by
    simp only [List.all_cons, Bool.and_eq_true] at h
    obtain ⟨e1, e2⟩ := hd_at l b h.2
    unfold hd tl at *
    simp only [List.cons_append, List.takeWhile_cons, List.dropWhile_cons, h.1, if_true]
    rw [e1]
    exact ⟨rfl, e2⟩
/-- Every list has no '-', or its first one. -/
theorem cut_cases : ∀ l : List UInt8, l.all (· != 45) = true ∨ ∃ a b, a.all (· != 45) = true ∧ l = a ++ 45 :: b
  | [] => .inl rfl
  | c :: l => by
    by_cases hc : c = 45
    · subst hc; exact .inr ⟨[], l, rfl, rfl⟩
    · have hc' : (c != 45) = true := by simpa using hc
      rcases cut_cases l with h | ⟨a, b, h, rfl⟩
      · left; simp only [List.all_cons, hc', h, Bool.and_self]
      · right; exact ⟨c :: a, b, by simp only [List.all_cons, hc', h, Bool.and_self], rfl⟩
theorem count_no : ∀ l : List UInt8, l.all (· != 45) = true → l.count 45 = 0 := by
  intro l h
  rw [List.count_eq_zero]
  intro hm
  have := List.all_eq_true.1 h 45 hm
  simp at this
theorem good_no {l : List UInt8} (h : goodB l = true) : l.all (· != 45) = true := by
  simp only [goodB, Bool.and_eq_true] at h
  rw [List.all_eq_true] at h ⊢
  intro x hx
  have := h.2 x hx
  simp only [digitB, Bool.and_eq_true, decide_eq_true_eq, UInt8.le_iff_toNat_le] at this
  have h0 : 48 ≤ x.toNat := this.1
  simp only [bne_iff_ne, ne_eq]
  intro e
  subst e
  exact absurd h0 (by decide)
theorem good_nil : goodB [] = false := rfl
def fine (l : List UInt8) : Bool := goodB (hd l) && goodB (hd (tl l)) && goodB (tl (tl l))
/-- The error of a text. -/
def parseE (l : List UInt8) : Int := if fine l then if 7 < numV (hd l) ∨ 255 < numV (hd (tl l)) ∨ 7 < numV (tl (tl l)) then 1 else 0 else 4
def parseN (l : List UInt8) : Nat := 2048 * numV (hd l) + 8 * numV (hd (tl l)) + numV (tl (tl l))
def parseP (l : List UInt8) : Int := if parseE l = 0 then (parseN l : Int) else 0
/-- The text of a point code. -/
def pcL (p : Nat) : List UInt8 := numL (p / 2048) ++ 45 :: (numL (p / 8 % 256) ++ 45 :: numL (p % 8))
theorem fine_parts {l : List UInt8} (h : fine l = true) : l = hd l ++ 45 :: (hd (tl l) ++ 45 :: tl (tl l)) := by
  simp only [fine, Bool.and_eq_true] at h
  obtain ⟨⟨h1, h2⟩, h3⟩ := h
  rcases cut_cases l with hn | ⟨a, b, ha, rfl⟩
  · obtain ⟨_, e2⟩ := hd_no l hn
    rw [e2] at h2
    exact absurd h2 (by decide)
  · obtain ⟨e1, e2⟩ := hd_at a b ha
    rw [e1, e2]
    rw [e2] at h2 h3
    rcases cut_cases b with hn | ⟨c, d, hc, rfl⟩
    · obtain ⟨_, e3⟩ := hd_no b hn
      rw [e3] at h3
      exact absurd h3 (by decide)
    · obtain ⟨e3, e4⟩ := hd_at c d hc
      rw [e3, e4]
theorem parse_text (p : Nat) (h : p ≤ 16383) : parseE (pcL p) = 0 ∧ parseN (pcL p) = p := by
  obtain ⟨a1, a2, a3, _⟩ := good_numL ⟨p / 2048, by omega⟩
  obtain ⟨b1, b2, b3, _⟩ := good_numL ⟨p / 8 % 256, by omega⟩
  obtain ⟨c1, c2, c3, _⟩ := good_numL ⟨p % 8, by omega⟩
  simp only at a1 a2 a3 b1 b2 b3 c1 c2 c3
  obtain ⟨e1, e2⟩ := hd_at _ (numL (p / 8 % 256) ++ 45 :: numL (p % 8)) a3
  obtain ⟨e3, e4⟩ := hd_at _ (numL (p % 8)) b3
  unfold parseE parseN fine pcL
  rw [e1, e2, e3, e4, a1, b1, c1, a2, b2, c2]
  refine ⟨?_, by omega⟩
  rw [if_pos (by decide), if_neg (by omega)]
theorem text_parse {l : List UInt8} (h : parseE l = 0) : parseN l ≤ 16383 ∧ pcL (parseN l) = l ∧ numV (hd l) ≤ 7 ∧ numV (hd (tl l)) ≤ 255 ∧ numV (tl (tl l)) ≤ 7 ∧ fine l = true := by
  unfold parseE at h
  split at h
  · rename_i hf
    split at h
    · simp at h
    · rename_i hv
      have hp := fine_parts hf
      have hf' := hf
      simp only [fine, Bool.and_eq_true] at hf
      obtain ⟨⟨h1, h2⟩, h3⟩ := hf
      have q1 : parseN l / 2048 = numV (hd l) := by unfold parseN; omega
      have q2 : parseN l / 8 % 256 = numV (hd (tl l)) := by unfold parseN; omega
      have q3 : parseN l % 8 = numV (tl (tl l)) := by unfold parseN; omega
      refine ⟨by unfold parseN; omega, ?_, by omega, by omega, by omega, hf'⟩
      unfold pcL
      rw [q1, q2, q3, numL_of_good h1, numL_of_good h2, numL_of_good h3]
      exact hp.symm
  · simp at h
theorem parse_not {l : List UInt8} (h : fine l = false) : parseE l = 4 := by unfold parseE; rw [h]; rfl
theorem fine_count {l : List UInt8} (h : fine l = true) : l.count 45 = 2 := by
  have hp := fine_parts h
  simp only [fine, Bool.and_eq_true] at h
  obtain ⟨⟨h1, h2⟩, h3⟩ := h
  have k1 := count_no _ (good_no h1)
  have k2 := count_no _ (good_no h2)
  have k3 := count_no _ (good_no h3)
  rw [hp, List.count_append, List.count_cons_self, List.count_append, List.count_cons_self, k1, k2, k3]
theorem count_two {l : List UInt8} (h : l.count 45 = 2) : l = hd l ++ 45 :: (hd (tl l) ++ 45 :: tl (tl l)) ∧ (hd l).all (· != 45) = true ∧ (hd (tl l)).all (· != 45) = true ∧ (tl (tl l)).all (· != 45) = true := by
  rcases cut_cases l with hn | ⟨a, b, ha, rfl⟩
  · rw [count_no l hn] at h; omega
  · obtain ⟨e1, e2⟩ := hd_at a b ha
    rw [e1, e2]
    rw [List.count_append, List.count_cons_self, count_no a ha] at h
    rcases cut_cases b with hn | ⟨c, d, hc, rfl⟩
    · rw [count_no b hn] at h; omega
    · obtain ⟨e3, e4⟩ := hd_at c d hc
      rw [e3, e4]
      refine ⟨rfl, ha, hc, ?_⟩
      rw [List.count_append, List.count_cons_self, count_no c hc] at h
      have h0 : d.count 45 = 0 := by omega
      rw [List.count_eq_zero] at h0
      rw [List.all_eq_true]
      intro x hx
      simp only [bne_iff_ne, ne_eq]
      rintro rfl
      exact h0 hx
end Go.Proofs.YtgklapjjofclcaaGreatDoor
/- Contracts: strings.Cut at "-". -/
namespace Go.Proofs.YtgklapjjofclcaaGreatDoor
open Go.RowKit

theorem bs_cat (a b : List UInt8) : bs a ++ bs b = bs (a ++ b) := by
  apply bs_of
  simp [bs, ByteArray.data_append]
theorem bs_len (l : List UInt8) : (bs l).size = l.length := by simp [bs, ByteArray.size]
theorem bs_eq {a b : List UInt8} (h : bs a = bs b) : a = b := by
  have := congrArg (fun z : ByteArray => z.data.toList) h
  simpa [bs] using this
theorem bs_list (l : List UInt8) : (bs l).toList = l := ByteArray.toList_mk l
theorem index_no : ∀ l : List UInt8, l.all (· != 45) = true → Lib.indexByte l 45 = -1
  | [], _ => rfl
  | c :: l, h => by
    simp only [List.all_cons, Bool.and_eq_true] at h
    have e := index_no l h.2
    have hc : (c == 45) = false := by
      have := h.1
      simp only [bne_iff_ne, ne_eq] at this
      simpa using this
    rw [Lib.indexByte, hc, e]
    rfl
theorem index_at : ∀ (a b : List UInt8), a.all (· != 45) = true → Lib.indexByte (a ++ 45 :: b) 45 = a.length
  | [], b, _ => by simp [Lib.indexByte]
  | c :: l, b, h => by
    simp only [List.all_cons, Bool.and_eq_true] at h
    have e := index_at l b h.2
    have hc : (c == 45) = false := by
      have := h.1
      simp only [bne_iff_ne, ne_eq] at this
      simpa using this
    have h2 : ((l.length : Int) == -1) = false := by simp
    rw [List.cons_append, Lib.indexByte, hc, e, h2]
    simp
theorem lcut_no (l : List UInt8) (w : World) (h : l.all (· != 45) = true) :
    Calls Tryz.prog 151 #[.string (bs l), .string ⟨#[45]⟩] w fun e w' => e = .returned (.tuple #[.string (bs l), .string ⟨#[]⟩, .bool false]) ∧ ∃ n, w' = w.drewN n := by
  have hi := fun W => Any.stringslite_Index_one lay219 (bs l) 45 W
  rw [bs_data, index_no l h] at hi
  have HI := Lib.hid (show ∀ W, Calls Tryz.prog 80 #[.string (bs l), .string ⟨#[45]⟩] W fun e w' => e = .returned (.int .i64 (-1)) ∧ w' = W from hi)
  clear hi h
  go_enter Tryz.func151, Tryz.ntmps151
  go_wp2_with fail
  refine (HI.out _).mono ?_
  rintro e w' ⟨rfl, rfl⟩
  go_wp2
  go_ret3
  exact ⟨rfl, 0, rfl⟩
theorem bs_front (a b : List UInt8) : (bs (a ++ 45 :: b)).extract 0 a.length = bs a := by
  apply bs_of
  simp [bs]
theorem bs_back (a b : List UInt8) : (bs (a ++ 45 :: b)).extract (a.length + 1) (a.length + 1 + b.length) = bs b := by
  apply bs_of
  simp [bs]
theorem lcut_at (a b : List UInt8) (w : World) (h : a.all (· != 45) = true) (hs : (a ++ 45 :: b).length ≤ 9223372036854775806) :
    Calls Tryz.prog 151 #[.string (bs (a ++ 45 :: b)), .string ⟨#[45]⟩] w fun e w' => e = .returned (.tuple #[.string (bs a), .string (bs b), .bool true]) ∧ ∃ n, w' = w.drewN n := by
  have hi := fun W => Any.stringslite_Index_one lay219 (bs (a ++ 45 :: b)) 45 W
  rw [bs_data, index_at a b h] at hi
  have HI := Lib.hid (show ∀ W, Calls Tryz.prog 80 #[.string (bs (a ++ 45 :: b)), .string ⟨#[45]⟩] W fun e w' => e = .returned (.int .i64 (a.length : Int)) ∧ w' = W from hi)
  have hl : (bs (a ++ 45 :: b)).size = a.length + 1 + b.length := by rw [bs_len]; simp; omega
  simp only [List.length_append, List.length_cons] at hs
  have s1 : ∀ w, (Instr.slice 9 (.string (bs (a ++ 45 :: b))) none (some (.int .i64 (a.length : Int))) none).run Tryz.prog w = .ok (.string (bs a)) w := fun w => by
    rw [run_slice_string_h w 9 _ Tryz.underlying9 .i64 (a.length : Int) (by omega) (by rw [hl]; omega), Int.toNat_natCast, bs_front]
  have s2 : ∀ w, (Instr.slice 9 (.string (bs (a ++ 45 :: b))) (some (.int .i64 ((a.length : Int) + 1))) none none).run Tryz.prog w = .ok (.string (bs b)) w := fun w => by
    rw [run_slice_string_l w 9 _ Tryz.underlying9 .i64 ((a.length : Int) + 1) (by omega) (by rw [hl]; omega), show ((a.length : Int) + 1).toNat = a.length + 1 by omega, hl, bs_back]
  obtain ⟨S, hS⟩ : ∃ S, S = bs (a ++ 45 :: b) := ⟨_, rfl⟩
  obtain ⟨k, hk⟩ : ∃ k : Nat, k = a.length := ⟨_, rfl⟩
  rw [← hS, ← hk] at s1 s2
  rw [← hS, ← hk] at HI
  rw [← hS]
  have h0 : (0 : Int) ≤ k := by omega
  have h1 : (k : Int) + 1 ≤ 9223372036854775807 := by omega
  clear hi h hl hS hk hs
  go_enter Tryz.func151, Tryz.ntmps151
  go_wp2_with fail
  refine (HI.out _).mono ?_
  rintro e w' ⟨rfl, rfl⟩
  go_wp2
  go_quiet (fail)
  go_wp2
  go_ret3
  exact ⟨rfl, _, rfl⟩
theorem cut_no (l : List UInt8) (w : World) (h : l.all (· != 45) = true) :
    Calls Tryz.prog 145 #[.string (bs l), .string ⟨#[45]⟩] w fun e w' => e = .returned (.tuple #[.string (bs l), .string ⟨#[]⟩, .bool false]) ∧ ∃ n, w' = w.drewN n := by
  have HI := Lib.hid (fun W => lcut_no l W h)
  clear h
  go_enter Tryz.func145, Tryz.ntmps145
  go_wp2_with fail
  refine (HI.out _).mono ?_
  rintro e w' ⟨rfl, n, rfl⟩
  go_wp2
  go_ret3
  exact ⟨rfl, n, rfl⟩
theorem cut_at (a b : List UInt8) (w : World) (h : a.all (· != 45) = true) (hs : (a ++ 45 :: b).length ≤ 9223372036854775806) :
    Calls Tryz.prog 145 #[.string (bs (a ++ 45 :: b)), .string ⟨#[45]⟩] w fun e w' => e = .returned (.tuple #[.string (bs a), .string (bs b), .bool true]) ∧ ∃ n, w' = w.drewN n := by
  have HI := Lib.hid (fun W => lcut_at a b W h hs)
  clear h hs
  go_enter Tryz.func145, Tryz.ntmps145
  go_wp2_with fail
  refine (HI.out _).mono ?_
  rintro e w' ⟨rfl, n, rfl⟩
  go_wp2
  go_ret3
  exact ⟨rfl, n, rfl⟩
/-- strings.Cut at "-": what stands in front of the first one, and behind it. -/
theorem cut_any (l : List UInt8) (w : World) (hs : l.length ≤ 9223372036854775806) :
    Calls Tryz.prog 145 #[.string (bs l), .string ⟨#[45]⟩] w fun e w' => (∃ b, e = .returned (.tuple #[.string (bs (hd l)), .string (bs (tl l)), .bool b])) ∧ ∃ n, w' = w.drewN n := by
  rcases cut_cases l with h | ⟨a, b, h, rfl⟩
  · obtain ⟨e1, e2⟩ := hd_no l h
    rw [e1, e2]
    exact (cut_no l w h).mono fun _ _ ⟨p, q⟩ => ⟨⟨false, p⟩, q⟩
  · obtain ⟨e1, e2⟩ := hd_at a b h
    rw [e1, e2]
    exact (cut_at a b w h hs).mono fun _ _ ⟨p, q⟩ => ⟨⟨true, p⟩, q⟩
end Go.Proofs.YtgklapjjofclcaaGreatDoor
/- Contracts of package labels: isLabel, Check, numberOf, labelOf. -/
namespace Go.Proofs.YtgklapjjofclcaaGreatDoor
open Go.RowKit

theorem or_shift {a : Nat} (b i : Nat) (h : a < 2 ^ i) : a ||| (b * 2 ^ i) = a + b * 2 ^ i := by
  have h2 := Nat.two_pow_add_eq_or_of_lt h b
  rw [Nat.or_comm, Nat.mul_comm b, ← h2]; omega
theorem u32_add {a b : Int} (x i : Nat) (h0 : 0 ≤ a) (h1 : a < ((2 ^ i : Nat) : Int)) (hb : b = ((x * 2 ^ i : Nat) : Int)) (hs : a < 4294967296) (ht : b < 4294967296) : bits .or .u32 a b = a + b := by
  rw [u32_or a b h0 hs (by omega) ht]
  have e : b.toNat = x * 2 ^ i := by omega
  rw [e, or_shift x i (by omega)]
  omega
/-- The fields of a message but Data are as the document says. -/
def fieldsB (sv nw pr to fr sl : Int) : Bool := decide (sv ≤ 15) && decide (nw ≤ 3) && decide (pr ≤ 3) && decide (to ≤ 16383) && decide (fr ≤ 16383) && decide (sl ≤ 15)
/-- The error of a message with n bytes of Data. -/
def chkM (sv nw pr to fr sl : Int) (n : Nat) : Int := if fieldsB sv nw pr to fr sl then (if 268 < n then 3 else 0) else 1
theorem mask14 (n : Int) (h0 : 0 ≤ n) (h1 : n ≤ 4294967295) : IntKind.u16.wrap (bits .and .u32 n 16383) = n % 16384 := by
  rw [u32_and n 16383 h0 (by omega) (by decide) (by decide)]
  have e : n.toNat &&& (16383 : Int).toNat = n.toNat % 16384 := Nat.and_two_pow_sub_one_eq_mod n.toNat 14
  rw [e]
  have e2 : ((n.toNat % 16384 : Nat) : Int) = n % 16384 := by omega
  rw [e2]
  exact IntWalk.u16_in _ (by omega)
theorem chkM_bad {sv nw pr to fr sl : Int} {n : Nat} (h : fieldsB sv nw pr to fr sl = false) : chkM sv nw pr to fr sl n = 1 := by unfold chkM; rw [h]; rfl
theorem chkM_cases (sv nw pr to fr sl : Int) (n : Nat) : chkM sv nw pr to fr sl n = 1 ∧ fieldsB sv nw pr to fr sl = false ∨ chkM sv nw pr to fr sl n = 3 ∧ fieldsB sv nw pr to fr sl = true ∧ 268 < n ∨ chkM sv nw pr to fr sl n = 0 ∧ fieldsB sv nw pr to fr sl = true ∧ n ≤ 268 := by
  unfold chkM
  cases fieldsB sv nw pr to fr sl
  · simp
  · by_cases h : 268 < n
    · simp [h]
    · simp [h]; omega
theorem fieldsB_iff {sv nw pr to fr sl : Int} : fieldsB sv nw pr to fr sl = true ↔ sv ≤ 15 ∧ nw ≤ 3 ∧ pr ≤ 3 ∧ to ≤ 16383 ∧ fr ≤ 16383 ∧ sl ≤ 15 := by
  simp [fieldsB, and_assoc]
end Go.Proofs.YtgklapjjofclcaaGreatDoor
/- Contracts of package labels: part. -/
namespace Go.Proofs.YtgklapjjofclcaaGreatDoor
open Go.RowKit

theorem run_index_bs (l : List UInt8) (i : Nat) (h : i < l.length) (w : World) :
    (Instr.index 9 (.string (bs l)) (.int .i64 (i : Int))).run Tryz.prog w = .ok (.int .u8 (((l.getD i 0).toNat : Nat) : Int)) w := by
  have hl := bs_len l
  have hi : 0 ≤ (i : Int) ∧ (i : Int) < ((bs l).size : Int) := by omega
  rw [run_index_string w 9 (bs l) .i64 i Tryz.underlying9, dif_pos hi]
  simp only [Int.toNat_natCast, List.getD_eq_getElem?_getD, List.getElem?_eq_getElem h, Option.getD_some]
  rfl
theorem shapeB_false {l : List UInt8} (h : shapeB l = false) : l.length = 0 ∨ 3 < l.length ∨ (1 < l.length ∧ l.getD 0 0 = 48) := by
  by_cases h0 : l.length = 0
  · exact .inl h0
  · by_cases h3 : 3 < l.length
    · exact .inr (.inl h3)
    · by_cases h1 : l.length = 1
      · simp [shapeB, h1] at h
      · refine .inr (.inr ⟨by omega, ?_⟩)
        simp [shapeB, h1] at h
        have := h (by omega) (by omega)
        simpa using this
theorem shapeB_true {l : List UInt8} (h : shapeB l = true) : 1 ≤ l.length ∧ l.length ≤ 3 ∧ (1 < l.length → l.getD 0 0 ≠ 48) := by
  simp only [shapeB, Bool.and_eq_true, Bool.or_eq_true, decide_eq_true_eq, beq_iff_eq, bne_iff_ne] at h
  obtain ⟨⟨h1, h2⟩, h3⟩ := h
  exact ⟨h1, h2, fun h4 => h3.resolve_left (by omega)⟩
theorem part_bad (l : List UInt8) (w : World) (h : shapeB l = false) (hl : l.length ≤ 9223372036854775806) :
    Calls Tryz.prog 146 #[.string (bs l)] w fun e w' => e = .returned (.tuple #[.int .u16 0, .bool false]) ∧ w = w' := by
  have hsz := bs_len l
  have hix := run_index_bs l 0
  obtain ⟨S, hS⟩ : ∃ S, S = bs l := ⟨_, rfl⟩
  obtain ⟨n, hn⟩ : ∃ n, n = l.length := ⟨_, rfl⟩
  rw [← hS] at hix
  rw [← hS, ← hn] at hsz
  rw [← hS]
  have hc := shapeB_false h
  rw [← hn] at hix hc hl
  clear hS hn h
  rcases hc with rfl | hc | ⟨h1, hc⟩
  · clear hix
    go_enter Tryz.func146, Tryz.ntmps146
    go_wp2
    go_ret2
    exact ⟨rfl, rfl⟩
  · have t0 : ((n : Int) == 0) = false := by simp; omega
    have t1 : decide ((3 : Int) < (n : Int)) = true := by simp; omega
    clear hix
    go_enter Tryz.func146, Tryz.ntmps146
    go_wp2
    go_ret2
    exact ⟨rfl, rfl⟩
  · by_cases h3 : 3 < n
    · have t0 : ((n : Int) == 0) = false := by simp; omega
      have t1 : decide ((3 : Int) < (n : Int)) = true := by simp; omega
      clear hix
      go_enter Tryz.func146, Tryz.ntmps146
      go_wp2
      go_ret2
      exact ⟨rfl, rfl⟩
    · have t0 : ((n : Int) == 0) = false := by simp; omega
      have t1 : decide ((3 : Int) < (n : Int)) = false := by simp; omega
      have t2 : decide ((1 : Int) < (n : Int)) = true := by simp; omega
      have g := fun w => hix (by omega) w
      rw [hc] at g
      simp only [show (((48 : UInt8).toNat : Nat) : Int) = 48 from rfl, show ((0 : Nat) : Int) = 0 from rfl] at g
      clear hix hc
      go_enter Tryz.func146, Tryz.ntmps146
      go_wp2
      go_ret2
      exact ⟨rfl, rfl⟩
theorem digits_le : ∀ (l : List UInt8), l.all digitB = true → l.length ≤ 2 → numV l ≤ 99
  | [], _, _ => by decide
  | [x], h, _ => by
    obtain ⟨c, hc, rfl⟩ := digit_of (by simpa using h)
    rw [(numV3 0 0 ⟨c, hc⟩).2.2]; simp; omega
  | [x, y], h, _ => by
    simp at h
    obtain ⟨b, hb, rfl⟩ := digit_of h.1
    obtain ⟨c, hc, rfl⟩ := digit_of h.2
    rw [(numV3 0 ⟨b, hb⟩ ⟨c, hc⟩).2.1]; simp; omega
  | _ :: _ :: _ :: _, _, h => by simp at h
theorem numV_snoc (l : List UInt8) (c : UInt8) : numV (l ++ [c]) = 10 * numV l + (c.toNat - 48) := by simp [numV]
theorem take_snoc (l : List UInt8) (k : Nat) (h : k < l.length) : l.take (k + 1) = l.take k ++ [l.getD k 0] := by
  rw [List.take_succ_eq_append_getElem h, List.getD_eq_getElem?_getD, List.getElem?_eq_getElem h]; rfl
theorem digitB_iff (c : UInt8) : digitB c = true ↔ 48 ≤ (c.toNat : Int) ∧ (c.toNat : Int) ≤ 57 := by
  simp only [digitB, Bool.and_eq_true, decide_eq_true_eq, UInt8.le_iff_toNat_le]
  rw [show (48 : UInt8).toNat = 48 from rfl, show (57 : UInt8).toNat = 57 from rfl]
  omega
theorem all_take_false {l : List UInt8} {k : Nat} (h : k < l.length) (hc : digitB (l.getD k 0) = false) : l.all digitB = false := by
  rw [List.all_eq_false]
  refine ⟨l.getD k 0, ?_, by rw [hc]; simp⟩
  rw [List.getD_eq_getElem?_getD, List.getElem?_eq_getElem h]
  exact List.getElem_mem h
set_option maxHeartbeats 1000000 in
theorem part_ok (l : List UInt8) (w : World) (h : shapeB l = true) :
    Calls Tryz.prog 146 #[.string (bs l)] w fun e w' => e = .returned (.tuple #[.int .u16 (if goodB l then (numV l : Int) else 0), .bool (goodB l)]) ∧ w = w' := by
  obtain ⟨h1, h3, h0⟩ := shapeB_true h
  obtain ⟨G, hG⟩ : ∃ G, G = goodB l := ⟨_, rfl⟩
  obtain ⟨V, hV⟩ : ∃ V : Int, V = if G then (numV l : Int) else 0 := ⟨_, rfl⟩
  rw [← hG, ← hV]
  have HG := Lib.hid hG
  have HV := Lib.hid hV
  have HS := Lib.hid h
  have hsz := bs_len l
  have hix := fun i hi w => run_index_bs l i hi w
  obtain ⟨S, hS⟩ : ∃ S, S = bs l := ⟨_, rfl⟩
  obtain ⟨n, hn⟩ : ∃ n, n = l.length := ⟨_, rfl⟩
  rw [← hS] at hix
  rw [← hS, ← hn] at hsz
  rw [← hS]
  rw [← hn] at hix h1 h3 h0
  have HN := Lib.hid hn
  clear hS hn h hG hV
  have t0 : ((n : Int) == 0) = false := by simp; omega
  have t1 : decide ((3 : Int) < (n : Int)) = false := by simp; omega
  obtain ⟨c0, hc0⟩ : ∃ c, c = (((l.getD 0 0).toNat : Nat) : Int) := ⟨_, rfl⟩
  have g0 := fun w => hix 0 (by omega) w
  rw [← hc0] at g0
  simp only [show ((0 : Nat) : Int) = 0 from rfl] at g0
  have t2 : decide ((1 : Int) < (n : Int)) = false ∨ (decide ((1 : Int) < (n : Int)) = true ∧ (c0 == 48) = false) := by
    by_cases hn1 : 1 < n
    · right
      refine ⟨by simp; omega, ?_⟩
      have := h0 hn1
      rw [hc0]
      simp only [beq_eq_false_iff_ne, ne_eq]
      intro e
      apply this
      apply UInt8.toNat_inj.1
      rw [show (48 : UInt8).toNat = 48 from rfl]
      omega
    · left; simp; omega
  clear hc0 h0
  have HX := Lib.hid hix
  clear hix
  rcases t2 with t2 | ⟨t2, t3⟩
  · go_enter Tryz.func146, Tryz.ntmps146
    go_wp2
    clear g0 t0 t1 t2
    go_loop [4, 26] (fun v i => ∃ k : Nat, k ≤ n ∧ i = .int .i64 (k : Int) ∧ v = .int .u16 ((numV (l.take k) : Nat) : Int) ∧ (l.take k).all digitB = true) (fun _ i => n - (intOf i).toNat)
    case atStart => exact ⟨0, Nat.zero_le _, rfl, rfl, rfl⟩
    case round =>
      obtain ⟨k, hk, rfl, rfl, hd⟩ := hrel
      by_cases hlt : k < n
      · obtain ⟨c, hc⟩ : ∃ c : Int, c = (((l.getD k 0).toNat : Nat) : Int) := ⟨_, rfl⟩
        have g := fun w => HX.out k hlt w
        rw [← hc] at g
        have hv := digits_le (l.take k) hd (by rw [List.length_take]; omega)
        obtain ⟨N, hN⟩ : ∃ N, N = numV (l.take k) := ⟨_, rfl⟩
        rw [← hN] at hv ⊢
        have hcr : 0 ≤ c ∧ c ≤ 255 := by rw [hc]; exact u8_range _
        by_cases h48 : c < 48
        · have HF : Hid (V = 0 ∧ G = false) := Lib.hid (by
            have hb : digitB (l.getD k 0) = false := by
              cases hq : digitB (l.getD k 0) with
              | false => rfl
              | true => exact absurd ((digitB_iff _).1 hq).1 (by omega)
            have e : G = false := by rw [HG.out, goodB, all_take_false (by rw [← HN.out]; exact hlt) hb, Bool.and_false]
            exact ⟨by rw [HV.out, e]; rfl, e⟩)
          clear hc hd hN hv hcr
          go_wp2
          go_ret2
          obtain ⟨e1, e2⟩ := HF.out
          exact ⟨by rw [e1, e2]; rfl, rfl⟩
        · have h48' : ¬ c < 48 := h48
          by_cases h57 : 57 < c
          · have HF : Hid (V = 0 ∧ G = false) := Lib.hid (by
              have hb : digitB (l.getD k 0) = false := by
                cases hq : digitB (l.getD k 0) with
                | false => rfl
                | true => exact absurd ((digitB_iff _).1 hq).2 (by omega)
              have e : G = false := by rw [HG.out, goodB, all_take_false (by rw [← HN.out]; exact hlt) hb, Bool.and_false]
              exact ⟨by rw [HV.out, e]; rfl, e⟩)
            clear hc hd hN hv hcr
            go_wp2
            go_ret2
            obtain ⟨e1, e2⟩ := HF.out
            exact ⟨by rw [e1, e2]; rfl, rfl⟩
          · have e1 : 0 ≤ c - 48 := by omega
            have HD : Hid ((l.take (k + 1)).all digitB = true ∧ ((numV (l.take (k + 1)) : Nat) : Int) = 10 * (N : Int) + (c - 48)) := Lib.hid (by
              have hb : digitB (l.getD k 0) = true := (digitB_iff _).2 (by omega)
              rw [take_snoc l k (by rw [← HN.out]; exact hlt), numV_snoc, ← hN]
              exact ⟨by rw [List.all_append, hd, List.all_cons, hb]; rfl, by omega⟩)
            clear hc hd hN
            go_wp2
            go_round
            case rel => exact ⟨k + 1, by omega, by go_num, by rw [HD.out.2], HD.out.1⟩
            case measure => simp [intOf]; omega
      · obtain rfl : k = n := by omega
        have HF : Hid (V = ((numV (l.take k) : Nat) : Int) ∧ G = true) := Lib.hid (by
          have et : l.take k = l := by rw [HN.out]; exact List.take_length
          rw [et] at hd ⊢
          have e : G = true := by rw [HG.out, goodB, HS.out, hd]; rfl
          exact ⟨by rw [HV.out, e]; rfl, e⟩)
        clear hd
        go_wp2
        go_ret2
        obtain ⟨e1, e2⟩ := HF.out
        exact ⟨by rw [e1, e2]; rfl, rfl⟩
  · go_enter Tryz.func146, Tryz.ntmps146
    go_wp2
    clear g0 t0 t1 t2 t3
    go_loop [4, 26] (fun v i => ∃ k : Nat, k ≤ n ∧ i = .int .i64 (k : Int) ∧ v = .int .u16 ((numV (l.take k) : Nat) : Int) ∧ (l.take k).all digitB = true) (fun _ i => n - (intOf i).toNat)
    case atStart => exact ⟨0, Nat.zero_le _, rfl, rfl, rfl⟩
    case round =>
      obtain ⟨k, hk, rfl, rfl, hd⟩ := hrel
      by_cases hlt : k < n
      · obtain ⟨c, hc⟩ : ∃ c : Int, c = (((l.getD k 0).toNat : Nat) : Int) := ⟨_, rfl⟩
        have g := fun w => HX.out k hlt w
        rw [← hc] at g
        have hv := digits_le (l.take k) hd (by rw [List.length_take]; omega)
        obtain ⟨N, hN⟩ : ∃ N, N = numV (l.take k) := ⟨_, rfl⟩
        rw [← hN] at hv ⊢
        have hcr : 0 ≤ c ∧ c ≤ 255 := by rw [hc]; exact u8_range _
        by_cases h48 : c < 48
        · have HF : Hid (V = 0 ∧ G = false) := Lib.hid (by
            have hb : digitB (l.getD k 0) = false := by
              cases hq : digitB (l.getD k 0) with
              | false => rfl
              | true => exact absurd ((digitB_iff _).1 hq).1 (by omega)
            have e : G = false := by rw [HG.out, goodB, all_take_false (by rw [← HN.out]; exact hlt) hb, Bool.and_false]
            exact ⟨by rw [HV.out, e]; rfl, e⟩)
          clear hc hd hN hv hcr
          go_wp2
          go_ret2
          obtain ⟨e1, e2⟩ := HF.out
          exact ⟨by rw [e1, e2]; rfl, rfl⟩
        · have h48' : ¬ c < 48 := h48
          by_cases h57 : 57 < c
          · have HF : Hid (V = 0 ∧ G = false) := Lib.hid (by
              have hb : digitB (l.getD k 0) = false := by
                cases hq : digitB (l.getD k 0) with
                | false => rfl
                | true => exact absurd ((digitB_iff _).1 hq).2 (by omega)
              have e : G = false := by rw [HG.out, goodB, all_take_false (by rw [← HN.out]; exact hlt) hb, Bool.and_false]
              exact ⟨by rw [HV.out, e]; rfl, e⟩)
            clear hc hd hN hv hcr
            go_wp2
            go_ret2
            obtain ⟨e1, e2⟩ := HF.out
            exact ⟨by rw [e1, e2]; rfl, rfl⟩
          · have e1 : 0 ≤ c - 48 := by omega
            have HD : Hid ((l.take (k + 1)).all digitB = true ∧ ((numV (l.take (k + 1)) : Nat) : Int) = 10 * (N : Int) + (c - 48)) := Lib.hid (by
              have hb : digitB (l.getD k 0) = true := (digitB_iff _).2 (by omega)
              rw [take_snoc l k (by rw [← HN.out]; exact hlt), numV_snoc, ← hN]
              exact ⟨by rw [List.all_append, hd, List.all_cons, hb]; rfl, by omega⟩)
            clear hc hd hN
            go_wp2
            go_round
            case rel => exact ⟨k + 1, by omega, by go_num, by rw [HD.out.2], HD.out.1⟩
            case measure => simp [intOf]; omega
      · obtain rfl : k = n := by omega
        have HF : Hid (V = ((numV (l.take k) : Nat) : Int) ∧ G = true) := Lib.hid (by
          have et : l.take k = l := by rw [HN.out]; exact List.take_length
          rw [et] at hd ⊢
          have e : G = true := by rw [HG.out, goodB, HS.out, hd]; rfl
          exact ⟨by rw [HV.out, e]; rfl, e⟩)
        clear hd
        go_wp2
        go_ret2
        obtain ⟨e1, e2⟩ := HF.out
        exact ⟨by rw [e1, e2]; rfl, rfl⟩
/-- labels.part: the number of a well-formed part. -/
theorem part_any (l : List UInt8) (w : World) (hl : l.length ≤ 9223372036854775806) :
    Calls Tryz.prog 146 #[.string (bs l)] w fun e w' => e = .returned (.tuple #[.int .u16 (if goodB l then (numV l : Int) else 0), .bool (goodB l)]) ∧ w = w' := by
  cases h : shapeB l with
  | true => exact part_ok l w h
  | false =>
    have e : goodB l = false := by rw [goodB, h]; rfl
    rw [e]
    exact part_bad l w h hl
end Go.Proofs.YtgklapjjofclcaaGreatDoor
/- Contracts of package labels: Parse, Text. -/
namespace Go.Proofs.YtgklapjjofclcaaGreatDoor
open Go.RowKit

theorem hd_le (l : List UInt8) : (hd l).length ≤ l.length ∧ (tl l).length ≤ l.length := by
  rcases cut_cases l with h | ⟨a, b, h, rfl⟩
  · obtain ⟨e1, e2⟩ := hd_no l h
    rw [e1, e2]; simp
  · obtain ⟨e1, e2⟩ := hd_at a b h
    rw [e1, e2]; simp; omega
theorem u16_add {a b : Int} (x i : Nat) (h0 : 0 ≤ a) (h1 : a < ((2 ^ i : Nat) : Int)) (hb : b = ((x * 2 ^ i : Nat) : Int)) (hs : a < 65536) (ht : b < 65536) : bits .or .u16 b a = a + b := by
  rw [u16_or b a (by omega) ht h0 hs]
  have e : b.toNat = x * 2 ^ i := by omega
  rw [e, Nat.or_comm, or_shift x i (by omega)]
  omega
/-- The error and the point of three parts. -/
def errG (G1 G2 G3 : Bool) (V1 V2 V3 : Int) : Int := if G1 && G2 && G3 then (if 7 < V1 ∨ 255 < V2 ∨ 7 < V3 then 1 else 0) else 4
theorem parse_out (l : List UInt8) : ∃ (G1 G2 G3 : Bool) (V1 V2 V3 : Int), goodB (hd l) = G1 ∧ goodB (hd (tl l)) = G2 ∧ goodB (tl (tl l)) = G3 ∧ (if goodB (hd l) then (numV (hd l) : Int) else 0) = V1 ∧ (if goodB (hd (tl l)) then (numV (hd (tl l)) : Int) else 0) = V2 ∧ (if goodB (tl (tl l)) then (numV (tl (tl l)) : Int) else 0) = V3 ∧
    0 ≤ V1 ∧ V1 ≤ 999 ∧ 0 ≤ V2 ∧ V2 ≤ 999 ∧ 0 ≤ V3 ∧ V3 ≤ 999 ∧ parseE l = errG G1 G2 G3 V1 V2 V3 ∧ parseP l = if errG G1 G2 G3 V1 V2 V3 = 0 then 2048 * V1 + 8 * V2 + V3 else 0 := by
  have hv : ∀ m : List UInt8, 0 ≤ (if goodB m then (numV m : Int) else 0) ∧ (if goodB m then (numV m : Int) else 0) ≤ 999 := by
    intro m
    cases h : goodB m with
    | false => simp
    | true => have := numV_le h; simp; omega
  have he : parseE l = errG (goodB (hd l)) (goodB (hd (tl l))) (goodB (tl (tl l))) (if goodB (hd l) then (numV (hd l) : Int) else 0) (if goodB (hd (tl l)) then (numV (hd (tl l)) : Int) else 0) (if goodB (tl (tl l)) then (numV (tl (tl l)) : Int) else 0) := by
    unfold parseE errG fine
    cases h1 : goodB (hd l) <;> cases h2 : goodB (hd (tl l)) <;> cases h3 : goodB (tl (tl l)) <;> simp
    split <;> split <;> omega
  refine ⟨_, _, _, _, _, _, rfl, rfl, rfl, rfl, rfl, rfl, (hv _).1, (hv _).2, (hv _).1, (hv _).2, (hv _).1, (hv _).2, he, ?_⟩
  unfold parseP
  rw [← he]
  split
  · rename_i h
    obtain ⟨_, _, _, _, _, hf⟩ := text_parse h
    simp only [fine, Bool.and_eq_true] at hf
    rw [hf.1.1, hf.1.2, hf.2]
    simp [parseN]
  · rfl
set_option maxHeartbeats 1000000 in
theorem parse_any (l : List UInt8) (w : World) (hl : l.length ≤ 9223372036854775806) :
    Calls Tryz.prog 128 #[.string (bs l)] w fun e w' => e = .returned (.tuple #[.int .u16 (parseP l), .int .i64 (parseE l)]) ∧ Below w.heap.size w w' := by
  obtain ⟨ha, hb⟩ := hd_le l
  obtain ⟨hc, hd'⟩ := hd_le (tl l)
  have K1 := Lib.hid (fun W => cut_any l W hl)
  have K2 := Lib.hid (fun W => cut_any (tl l) W (by omega))
  have p1 := fun W => part_any (hd l) W (by omega)
  have p2 := fun W => part_any (hd (tl l)) W (by omega)
  have p3 := fun W => part_any (tl (tl l)) W (by omega)
  obtain ⟨G1, G2, G3, V1, V2, V3, g1, g2, g3, v1, v2, v3, l1, u1, l2, u2, l3, u3, he, hp⟩ := parse_out l
  rw [v1, g1] at p1
  rw [v2, g2] at p2
  rw [v3, g3] at p3
  have P1 := Lib.hid p1
  have P2 := Lib.hid p2
  have P3 := Lib.hid p3
  obtain ⟨E, hE⟩ : ∃ E, E = parseE l := ⟨_, rfl⟩
  obtain ⟨P, hP⟩ : ∃ P, P = parseP l := ⟨_, rfl⟩
  rw [← hE, ← hP]
  rw [← hE] at he
  rw [← hP, ← he] at hp
  have HE := Lib.hid he
  have HP := Lib.hid hp
  clear ha hb hc hd' hl p1 p2 p3 g1 g2 g3 v1 v2 v3 he hp hE hP
  go_enter Tryz.func128, Tryz.ntmps128
  go_wp2_with fail
  refine (K1.out _).mono ?_
  rintro e w1 ⟨⟨b1, rfl⟩, n1, rfl⟩
  go_wp2_with fail
  refine (K2.out _).mono ?_
  rintro e w2 ⟨⟨b2, rfl⟩, n2, rfl⟩
  go_wp2_with fail
  refine (P1.out _).mono ?_
  rintro e w3 ⟨rfl, rfl⟩
  go_wp2_with fail
  refine (P2.out _).mono ?_
  rintro e w4 ⟨rfl, rfl⟩
  go_wp2_with fail
  refine (P3.out _).mono ?_
  rintro e w5 ⟨rfl, rfl⟩
  by_cases hg : (G1 && G2 && G3) = true
  · simp only [Bool.and_eq_true] at hg
    obtain ⟨⟨rfl, rfl⟩, rfl⟩ := hg
    by_cases h1 : 7 < V1
    · have HF : Hid (E = 1 ∧ P = 0) := Lib.hid (by
        have e : E = 1 := by rw [HE.out, errG, if_pos (by decide), if_pos (by omega)]
        exact ⟨e, by rw [HP.out, e]; rfl⟩)
      go_wp2
      go_ret2
      obtain ⟨e1, e2⟩ := HF.out
      exact ⟨by rw [e1, e2]; rfl, below_draw _ _⟩
    · by_cases h2 : 255 < V2
      · have HF : Hid (E = 1 ∧ P = 0) := Lib.hid (by
          have e : E = 1 := by rw [HE.out, errG, if_pos (by decide), if_pos (by omega)]
          exact ⟨e, by rw [HP.out, e]; rfl⟩)
        go_wp2
        go_ret2
        obtain ⟨e1, e2⟩ := HF.out
        exact ⟨by rw [e1, e2]; rfl, below_draw _ _⟩
      · by_cases h3 : 7 < V3
        · have HF : Hid (E = 1 ∧ P = 0) := Lib.hid (by
            have e : E = 1 := by rw [HE.out, errG, if_pos (by decide), if_pos (by omega)]
            exact ⟨e, by rw [HP.out, e]; rfl⟩)
          go_wp2
          go_ret2
          obtain ⟨e1, e2⟩ := HF.out
          exact ⟨by rw [e1, e2]; rfl, below_draw _ _⟩
        · have HF : Hid (E = 0 ∧ P = bits .or .u16 (bits .or .u16 (V1 * 2048) (V2 * 8)) V3) := Lib.hid (by
            have e : E = 0 := by rw [HE.out, errG, if_pos (by decide), if_neg (by omega)]
            refine ⟨e, ?_⟩
            rw [HP.out, if_pos e, u16_add (a := V2 * 8) (b := V1 * 2048) V1.toNat 11 (by omega) (by show V2 * 8 < ((2048 : Nat) : Int); omega) (by show V1 * 2048 = ((V1.toNat * 2048 : Nat) : Int); omega) (by omega) (by omega),
              u16_add (a := V3) (b := V2 * 8 + V1 * 2048) (V2.toNat + V1.toNat * 256) 3 (by omega) (by show V3 < ((8 : Nat) : Int); omega) (by show V2 * 8 + V1 * 2048 = (((V2.toNat + V1.toNat * 256) * 8 : Nat) : Int); omega) (by omega) (by omega)]
            omega)
          go_wp2
          go_ret2
          obtain ⟨e1, e2⟩ := HF.out
          exact ⟨by rw [e1, e2]; rfl, below_draw _ _⟩
  · have HF : Hid (E = 4 ∧ P = 0) := Lib.hid (by
      have e : E = 4 := by rw [HE.out, errG, if_neg hg]
      exact ⟨e, by rw [HP.out, e]; rfl⟩)
    clear hg
    cases G1 with
    | false =>
      go_wp2
      go_ret2
      obtain ⟨e1, e2⟩ := HF.out
      exact ⟨by rw [e1, e2]; rfl, below_draw _ _⟩
    | true =>
      cases G2 with
      | false =>
        go_wp2
        go_ret2
        obtain ⟨e1, e2⟩ := HF.out
        exact ⟨by rw [e1, e2]; rfl, below_draw _ _⟩
      | true =>
        cases G3 with
        | false =>
          go_wp2
          go_ret2
          obtain ⟨e1, e2⟩ := HF.out
          exact ⟨by rw [e1, e2]; rfl, below_draw _ _⟩
        | true => exact absurd HF.out.1 (by rw [HE.out, errG, if_pos (by decide)]; split <;> decide)
theorem and16 (x : Int) (i : Nat) (m : Int) (h0 : 0 ≤ x) (h1 : x < 65536) (hi : i ≤ 16) (hm : m = ((2 ^ i - 1 : Nat) : Int)) : bits .and .u16 x m = ((x.toNat % 2 ^ i : Nat) : Int) := by
  have hp : 2 ^ i ≤ 2 ^ 16 := Nat.pow_le_pow_right (by omega) hi
  have h3 : 1 ≤ 2 ^ i := Nat.one_le_two_pow
  have h4 : (2 : Nat) ^ 16 = 65536 := by decide
  rw [u16_and x m h0 h1 (by omega) (by omega)]
  have e : m.toNat = 2 ^ i - 1 := by omega
  rw [e, Nat.and_two_pow_sub_one_eq_mod]
theorem numL_3 (n : Nat) : (numL n).length ≤ 3 := by
  unfold numL
  split
  · simp
  · split <;> simp
theorem text_high (p : Int) (w : World) (h : 16383 < p) :
    Calls Tryz.prog 32 #[.int .u16 p] w fun e w' => e = .returned (.string ⟨#[]⟩) ∧ w = w' := by
  go_enter Tryz.func32, Tryz.ntmps32
  go_wp2
  go_ret
  exact ⟨rfl, rfl⟩
/-- Five pieces joined, in the walk's words. -/
theorem glue_runs (a b c : Nat) : ∃ S1 S2 S3 S4 : ByteArray, (∀ W, (binOp .add 9 (.string (bs (numL a))) (.string ⟨#[45]⟩)).run Tryz.prog W = .ok (.string S1) W) ∧ (∀ W, (binOp .add 9 (.string S1) (.string (bs (numL b)))).run Tryz.prog W = .ok (.string S2) W) ∧
    (∀ W, (binOp .add 9 (.string S2) (.string ⟨#[45]⟩)).run Tryz.prog W = .ok (.string S3) W) ∧ (∀ W, (binOp .add 9 (.string S3) (.string (bs (numL c)))).run Tryz.prog W = .ok (.string S4) W) ∧
    (∀ W, (Op.stringOp .add (bs (numL a)) ⟨#[45]⟩).run Tryz.prog W = .ok (.string S1) W) ∧ (∀ W, (Op.stringOp .add S1 (bs (numL b))).run Tryz.prog W = .ok (.string S2) W) ∧
    (∀ W, (Op.stringOp .add S2 ⟨#[45]⟩).run Tryz.prog W = .ok (.string S3) W) ∧ (∀ W, (Op.stringOp .add S3 (bs (numL c))).run Tryz.prog W = .ok (.string S4) W) ∧ S4 = bs (numL a ++ 45 :: (numL b ++ 45 :: numL c)) := by
  have cat : ∀ (x y : ByteArray), x.size + y.size ≤ 9223372036854775807 → ∀ W, (Op.stringOp .add x y).run Tryz.prog W = .ok (.string (x ++ y)) W := fun x y hxy W => run_string_add_sum W x y hxy
  have y2 : (⟨#[45]⟩ : ByteArray).size = 1 := rfl
  have za := numL_3 a
  have zb := numL_3 b
  have zc := numL_3 c
  have l1 := bs_len (numL a)
  have l2 := bs_len (numL b)
  have l3 := bs_len (numL c)
  obtain ⟨S1, e1⟩ : ∃ S : ByteArray, S = bs (numL a) ++ ⟨#[45]⟩ := ⟨_, rfl⟩
  obtain ⟨S2, e2⟩ : ∃ S : ByteArray, S = S1 ++ bs (numL b) := ⟨_, rfl⟩
  obtain ⟨S3, e3⟩ : ∃ S : ByteArray, S = S2 ++ ⟨#[45]⟩ := ⟨_, rfl⟩
  obtain ⟨S4, e4⟩ : ∃ S : ByteArray, S = S3 ++ bs (numL c) := ⟨_, rfl⟩
  have q1 : S1.size ≤ 4 := by rw [e1, ByteArray.size_append]; omega
  have q2 : S2.size ≤ 7 := by rw [e2, ByteArray.size_append]; omega
  have q3 : S3.size ≤ 8 := by rw [e3, ByteArray.size_append]; omega
  have o1 := fun W => (cat (bs (numL a)) ⟨#[45]⟩ (by omega) W).trans (by rw [← e1])
  have o2 := fun W => (cat S1 (bs (numL b)) (by omega) W).trans (by rw [← e2])
  have o3 := fun W => (cat S2 ⟨#[45]⟩ (by omega) W).trans (by rw [← e3])
  have o4 := fun W => (cat S3 (bs (numL c)) (by omega) W).trans (by rw [← e4])
  refine ⟨S1, S2, S3, S4, fun W => ?_, fun W => ?_, fun W => ?_, fun W => ?_, o1, o2, o3, o4, ?_⟩
  · rw [binOp_string_add]; exact o1 W
  · rw [binOp_string_add]; exact o2 W
  · rw [binOp_string_add]; exact o3 W
  · rw [binOp_string_add]; exact o4 W
  · rw [e4, e3, e2, e1]
    show bs (numL a) ++ bs [45] ++ bs (numL b) ++ bs [45] ++ bs (numL c) = _
    simp only [bs_cat]
    congr 1
    simp
set_option maxHeartbeats 1000000 in
theorem text_any (p : Nat) (w : World) (h : p ≤ 16383) (hp : PowOk w) :
    Calls Tryz.prog 32 #[.int .u16 (p : Int)] w fun e w' => e = .returned (.string (bs (pcL p))) ∧ Below w.heap.size w w' := by
  obtain ⟨S1, S2, S3, S4, r1, r2, r3, r4, o1, o2, o3, o4, eS⟩ := glue_runs (p / 2048) (p / 8 % 256) (p % 8)
  have HS := Lib.hid eS
  obtain ⟨a, ha⟩ : ∃ a, a = p / 2048 := ⟨_, rfl⟩
  obtain ⟨b, hb⟩ : ∃ b, b = p / 8 % 256 := ⟨_, rfl⟩
  obtain ⟨c, hc⟩ : ∃ c, c = p % 8 := ⟨_, rfl⟩
  rw [← ha] at r1 o1
  rw [← hb] at r2 o2
  rw [← hc] at r4 o4
  have e1 : (p : Int) / 2048 = (a : Int) := by omega
  have e2 : bits .and .u16 ((p : Int) / 8) 255 = (b : Int) := by
    rw [and16 _ 8 255 (by omega) (by omega) (by decide) (by decide), hb]
    show ((((p : Int) / 8).toNat % 256 : Nat) : Int) = _
    omega
  have e3 : bits .and .u16 (p : Int) 7 = (c : Int) := by
    rw [and16 _ 3 7 (by omega) (by omega) (by decide) (by decide), hc]
    show (((p : Int).toNat % 8 : Nat) : Int) = _
    omega
  have I1 := Lib.hid (fun W (hW : PowOk W) => itoa_any a W (by omega) hW)
  have I2 := Lib.hid (fun W (hW : PowOk W) => itoa_any b W (by omega) hW)
  have I3 := Lib.hid (fun W (hW : PowOk W) => itoa_any c W (by omega) hW)
  have a1 : (a : Int) ≤ 7 := by omega
  have b1 : (b : Int) ≤ 255 := by omega
  have c1 : (c : Int) ≤ 7 := by omega
  have HP := Lib.hid hp
  clear eS ha hb hc hp
  go_enter Tryz.func32, Tryz.ntmps32
  go_wp2_with fail
  refine (I1.out _ HP.out).mono ?_
  rintro e w1 ⟨rfl, hb1⟩
  have P1 := Lib.hid (HP.out.later hb1)
  have B1 := Lib.hid hb1
  clear hb1
  go_wp2_with fail
  refine (I2.out _ P1.out).mono ?_
  rintro e w2 ⟨rfl, hb2⟩
  have P2 := Lib.hid (P1.out.later hb2)
  have B2 := Lib.hid (B1.out.trans (hb2.mono B1.out.size))
  clear hb2
  go_wp2_with fail
  refine (I3.out _ P2.out).mono ?_
  rintro e w3 ⟨rfl, hb3⟩
  have B3 := Lib.hid (B2.out.trans (hb3.mono B2.out.size))
  clear hb3
  go_wp2
  go_ret
  exact ⟨congrArg (fun z => Ending.returned (Value.string z)) HS.out, B3.out⟩
end Go.Proofs.YtgklapjjofclcaaGreatDoor
