/- Contracts: strings.Cut at "-". -/
import Derived.Test.YtcojjhokcebogaaDoorLbShelf
import Derived.Test.YtcojjhokcebogaaDoorLbMath
import Derived.Test.YtcojjhokcebogaaDoorItoa
import Derived.Test.YtcojjhokcebogaaDoorBaseEx
import Derived.Lib.CutLaws
import Derived.BigQuiet
import Derived.Test.YtcojjhokcebogaaDoorUnBase
namespace Go.Proofs.YtcojjhokcebogaaDoor
open Go.RowKit

theorem bs_cat (a b : List UInt8) : bs a ++ bs b = bs (a ++ b) := by
  apply bs_of
  simp [bs, ByteArray.data_append]
theorem bs_len (l : List UInt8) : (bs l).size = l.length := by simp [bs, ByteArray.size]
theorem bs_eq {a b : List UInt8} (h : bs a = bs b) : a = b := by
  have := congrArg (fun z : ByteArray => z.data.toList) h
  simpa [bs] using this
theorem bs_list (l : List UInt8) : (bs l).toList = l := ByteArray.toList_mk l
theorem index_no : ∀ l : List UInt8, l.all (· != 45) = true → Lib.indexByte l 45 = -1
  | [], _ => rfl
  | c :: l, h => by
    simp only [List.all_cons, Bool.and_eq_true] at h
    have e := index_no l h.2
    have hc : (c == 45) = false := by
      have := h.1
      simp only [bne_iff_ne, ne_eq] at this
      simpa using this
    rw [Lib.indexByte, hc, e]
    rfl
theorem index_at : ∀ (a b : List UInt8), a.all (· != 45) = true → Lib.indexByte (a ++ 45 :: b) 45 = a.length
  | [], b, _ => by simp [Lib.indexByte]
  | c :: l, b, h => by
    simp only [List.all_cons, Bool.and_eq_true] at h
    have e := index_at l b h.2
    have hc : (c == 45) = false := by
      have := h.1
      simp only [bne_iff_ne, ne_eq] at this
      simpa using this
    have h2 : ((l.length : Int) == -1) = false := by simp
    rw [List.cons_append, Lib.indexByte, hc, e, h2]
    simp
theorem lcut_no (l : List UInt8) (w : World) (h : l.all (· != 45) = true) :
    Calls Tryd.prog 41 #[.string (bs l), .string ⟨#[45]⟩] w fun e w' => e = .returned (.tuple #[.string (bs l), .string ⟨#[]⟩, .bool false]) ∧ ∃ n, w' = w.drewN n := by
  have hi := fun W => Any.stringslite_Index_one lay219 (bs l) 45 W
  rw [bs_data, index_no l h] at hi
  have HI := Lib.hid (show ∀ W, Calls Tryd.prog 48 #[.string (bs l), .string ⟨#[45]⟩] W fun e w' => e = .returned (.int .i64 (-1)) ∧ w' = W from hi)
  clear hi h
  go_enter Tryd.func41, Tryd.ntmps41
  go_wp2_with fail
  refine (HI.out _).mono ?_
  rintro e w' ⟨rfl, rfl⟩
  go_wp2
  go_ret3
  exact ⟨rfl, 0, rfl⟩
theorem bs_front (a b : List UInt8) : (bs (a ++ 45 :: b)).extract 0 a.length = bs a := by
  apply bs_of
  simp [bs]
theorem bs_back (a b : List UInt8) : (bs (a ++ 45 :: b)).extract (a.length + 1) (a.length + 1 + b.length) = bs b := by
  apply bs_of
  simp [bs]
theorem lcut_at (a b : List UInt8) (w : World) (h : a.all (· != 45) = true) (hs : (a ++ 45 :: b).length ≤ 9223372036854775806) :
    Calls Tryd.prog 41 #[.string (bs (a ++ 45 :: b)), .string ⟨#[45]⟩] w fun e w' => e = .returned (.tuple #[.string (bs a), .string (bs b), .bool true]) ∧ ∃ n, w' = w.drewN n := by
  have hi := fun W => Any.stringslite_Index_one lay219 (bs (a ++ 45 :: b)) 45 W
  rw [bs_data, index_at a b h] at hi
  have HI := Lib.hid (show ∀ W, Calls Tryd.prog 48 #[.string (bs (a ++ 45 :: b)), .string ⟨#[45]⟩] W fun e w' => e = .returned (.int .i64 (a.length : Int)) ∧ w' = W from hi)
  have hl : (bs (a ++ 45 :: b)).size = a.length + 1 + b.length := by rw [bs_len]; simp; omega
  simp only [List.length_append, List.length_cons] at hs
  have s1 : ∀ w, (Instr.slice 9 (.string (bs (a ++ 45 :: b))) none (some (.int .i64 (a.length : Int))) none).run Tryd.prog w = .ok (.string (bs a)) w := fun w => by
    rw [run_slice_string_h w 9 _ Tryd.underlying9 .i64 (a.length : Int) (by omega) (by rw [hl]; omega), Int.toNat_natCast, bs_front]
  have s2 : ∀ w, (Instr.slice 9 (.string (bs (a ++ 45 :: b))) (some (.int .i64 ((a.length : Int) + 1))) none none).run Tryd.prog w = .ok (.string (bs b)) w := fun w => by
    rw [run_slice_string_l w 9 _ Tryd.underlying9 .i64 ((a.length : Int) + 1) (by omega) (by rw [hl]; omega), show ((a.length : Int) + 1).toNat = a.length + 1 by omega, hl, bs_back]
  obtain ⟨S, hS⟩ : ∃ S, S = bs (a ++ 45 :: b) := ⟨_, rfl⟩
  obtain ⟨k, hk⟩ : ∃ k : Nat, k = a.length := ⟨_, rfl⟩
  rw [← hS, ← hk] at s1 s2
  rw [← hS, ← hk] at HI
  rw [← hS]
  have h0 : (0 : Int) ≤ k := by omega
  have h1 : (k : Int) + 1 ≤ 9223372036854775807 := by omega
  clear hi h hl hS hk hs
  go_enter Tryd.func41, Tryd.ntmps41
  go_wp2_with fail
  refine (HI.out _).mono ?_
  rintro e w' ⟨rfl, rfl⟩
  go_wp2
  go_quiet (fail)
  go_wp2
  go_ret3
  exact ⟨rfl, _, rfl⟩
theorem cut_no (l : List UInt8) (w : World) (h : l.all (· != 45) = true) :
    Calls Tryd.prog 30 #[.string (bs l), .string ⟨#[45]⟩] w fun e w' => e = .returned (.tuple #[.string (bs l), .string ⟨#[]⟩, .bool false]) ∧ ∃ n, w' = w.drewN n := by
  have HI := Lib.hid (fun W => lcut_no l W h)
  clear h
  go_enter Tryd.func30, Tryd.ntmps30
  go_wp2_with fail
  refine (HI.out _).mono ?_
  rintro e w' ⟨rfl, n, rfl⟩
  go_wp2
  go_ret3
  exact ⟨rfl, n, rfl⟩
theorem cut_at (a b : List UInt8) (w : World) (h : a.all (· != 45) = true) (hs : (a ++ 45 :: b).length ≤ 9223372036854775806) :
    Calls Tryd.prog 30 #[.string (bs (a ++ 45 :: b)), .string ⟨#[45]⟩] w fun e w' => e = .returned (.tuple #[.string (bs a), .string (bs b), .bool true]) ∧ ∃ n, w' = w.drewN n := by
  have HI := Lib.hid (fun W => lcut_at a b W h hs)
  clear h hs
  go_enter Tryd.func30, Tryd.ntmps30
  go_wp2_with fail
  refine (HI.out _).mono ?_
  rintro e w' ⟨rfl, n, rfl⟩
  go_wp2
  go_ret3
  exact ⟨rfl, n, rfl⟩
/-- strings.Cut at "-": what stands in front of the first one, and behind it. -/
theorem cut_any (l : List UInt8) (w : World) (hs : l.length ≤ 9223372036854775806) :
    Calls Tryd.prog 30 #[.string (bs l), .string ⟨#[45]⟩] w fun e w' => (∃ b, e = .returned (.tuple #[.string (bs (hd l)), .string (bs (tl l)), .bool b])) ∧ ∃ n, w' = w.drewN n := by
  rcases cut_cases l with h | ⟨a, b, h, rfl⟩
  · obtain ⟨e1, e2⟩ := hd_no l h
    rw [e1, e2]
    exact (cut_no l w h).mono fun _ _ ⟨p, q⟩ => ⟨⟨false, p⟩, q⟩
  · obtain ⟨e1, e2⟩ := hd_at a b h
    rw [e1, e2]
    exact (cut_at a b w h hs).mono fun _ _ ⟨p, q⟩ => ⟨⟨true, p⟩, q⟩
end Go.Proofs.YtcojjhokcebogaaDoor
