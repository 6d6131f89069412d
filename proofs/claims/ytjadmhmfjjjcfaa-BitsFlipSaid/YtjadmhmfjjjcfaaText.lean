/- Contracts: bits.Text and bits.Parse. -/
import Derived.Test.YtjadmhmfjjjcfaaOct
import Derived.Test.YtjadmhmfjjjcfaaStream
namespace Go.Proofs.Ytjadmhmfjjjcfaa
open Go.RowKit

set_option maxHeartbeats 400000 in
theorem text_err (a : Option Addr) (n c : Nat) (l : List Int) (w : World) (h : Row .u8 w a n c l) (he : errOf l ≠ 0) :
    Calls Try.prog 22 #[.slice a n c] w fun e w' => e = .returned (.tuple #[.string ByteArray.empty, .int .i64 (errOf l)]) ∧ w = w' := by
  have hcon := check_any a n c l w h
  obtain ⟨x, hx⟩ : ∃ x, x = errOf l := ⟨_, rfl⟩
  rw [← hx] at hcon he ⊢
  have hne : (x == 0) = false := by simpa using he
  have hne' : (x != 0) = true := by simpa using he
  have HC := Lib.hid hcon
  clear hcon hx h
  go_enter Try.func22, Try.ntmps22
  go_wp2_with fail
  refine HC.out.mono ?_
  rintro e w' ⟨rfl, rfl⟩
  go_wp2
  go_ret2
  exact ⟨rfl, rfl⟩

/-- The text of numbers: a character for each of them. -/
def textOf (l : List Int) : ByteArray := strOfNums (l.map (48 + ·))

set_option maxHeartbeats 400000 in
theorem text_ok (a : Option Addr) (n c : Nat) (l : List Int) (w : World) (h : Row .u8 w a n c l) (he : errOf l = 0) :
    Calls Try.prog 22 #[.slice a n c] w fun e w' => e = .returned (.tuple #[.string (textOf l), .int .i64 0]) ∧ Below w.heap.size w w' := by
  have hcon := check_any a n c l w h
  rw [he] at hcon
  obtain ⟨hn, hbits⟩ := errOf_zero he
  rw [h.len] at hn
  have h01 := h.bits hbits
  have hmk := make8 n (by omega)
  have HC := Lib.hid hcon
  have HR := Lib.hid h
  have H01 := Lib.hid h01
  have hle := h.le
  have hmx := h.max
  unfold maxLen at hmx
  clear hcon he h hbits h01
  go_enter Try.func22, Try.ntmps22
  go_wp2_with fail
  refine HC.out.mono ?_
  rintro e w' ⟨rfl, rfl⟩
  go_wp2
  clear hmk
  go_loopw [6, 7, 18] (fun _ _ i wr => ∃ k : Nat, k ≤ n ∧ i = .int .i64 k ∧ Below w.heap.size w wr ∧
      Own wr w.heap.size 5 (nums .u8 ((l.take k).map (48 + ·) ++ List.replicate (n - k) 0))) (fun _ _ i _ => n - (intOf i).toNat)
  case atStart => exact ⟨0, Nat.zero_le _, rfl, below_alloc _ _, by simpa using own_made .u8 n 5 w⟩
  case round =>
    obtain ⟨k, hk, rfl, hbel, hown⟩ := hrel
    by_cases hlt : k < n
    · have hcc := (HR.out.later hbel).cells
      rcases hcc with h0 | ⟨b, o, rfl, hc⟩
      · omega
      have g := hc k hlt
      obtain ⟨x, hx⟩ : ∃ x, x = l.getD k 0 := ⟨_, rfl⟩
      rw [← hx] at g
      have hx01 := H01.out x (by rw [hx, List.getD_eq_getElem?_getD, List.getElem?_eq_getElem (by rw [HR.out.len]; omega), Option.getD_some]; exact List.getElem_mem _)
      obtain ⟨hx0, hx1⟩ := hx01
      have hA : ((l.take k).map ((48 : Int) + ·)).length = k := by rw [List.length_map, List.length_take, HR.out.len]; omega
      have hcell := hown.cell k (by rw [nums_length, List.length_append, hA, List.length_replicate]; omega)
      have hfr := hown.frozen k
      have HX := Lib.hid hx
      have HO := Lib.hid hown
      have HBel := Lib.hid hbel
      have HA := Lib.hid hA
      clear hx hown hbel hA hc
      go_wp2
      refine ⟨⟨k + 1, by omega, by go_num, HBel.out.setCell (Nat.le_refl _) _, ?_⟩, by simp [intOf]; omega⟩
      have := HO.out.set k (.int .u8 (48 + x))
      rw [nums_set, set_at _ HA.out hlt] at this
      rw [take_succ' (by rw [HR.out.len]; exact hlt), List.map_append, List.map_singleton, ← HX.out]
      exact this
    · obtain rfl : k = n := by omega
      rw [Nat.sub_self, List.replicate_zero, List.append_nil, List.take_of_length_le (by rw [HR.out.len]; exact Nat.le_refl _)] at hown
      have hcv := run_convert_bytes_arg (P := Try.prog) wr 22 5 Try.underlying22 Try.underlying5 w.heap.size 0 k k (l.map (48 + ·)) (by rw [List.length_map, HR.out.len]) (fun i hi => by
        rw [Nat.zero_add, hown.cell i (by rw [nums_length, List.length_map, HR.out.len]; exact hi), nums_getD _ _ _ (by rw [List.length_map, HR.out.len]; exact hi)]) 9 Try.underlying9
      have HBel := Lib.hid hbel
      clear hown hbel
      go_wp2
      go_ret2
      exact ⟨rfl, HBel.out⟩

/-- The numbers of a text's bytes. -/
def codes (s : ByteArray) : List Int := s.data.toList.map fun c => (c.toNat : Int)
theorem codes_length (s : ByteArray) : (codes s).length = s.size := by simp [codes]
def isText (s : ByteArray) : Bool := s.data.toList.all fun c => c.toNat == 48 || c.toNat == 49
theorem isText_false {s : ByteArray} {k : Nat} (hk : k < s.size) (h : s[k].toNat ≠ 48) (h' : s[k].toNat ≠ 49) : isText s = false := by
  rw [Bool.eq_false_iff]
  intro hh
  have := List.all_eq_true.1 hh s[k] (by show s.data[k] ∈ _; simp)
  simp [h, h'] at this
theorem isText_true {s : ByteArray} (h : ∀ j, (hj : j < s.size) → s[j].toNat = 48 ∨ s[j].toNat = 49) : isText s = true := by
  unfold isText
  rw [List.all_eq_true]
  intro x hx
  obtain ⟨j, hj, rfl⟩ := List.mem_iff_getElem.1 hx
  have := h j (by simpa using hj)
  rcases this with h1 | h1
  · have h2 : s.data.toList[j].toNat = 48 := h1
    rw [Bool.or_eq_true, beq_iff_eq, beq_iff_eq]
    exact .inl h2
  · have h2 : s.data.toList[j].toNat = 49 := h1
    rw [Bool.or_eq_true, beq_iff_eq, beq_iff_eq]
    exact .inr h2

set_option maxHeartbeats 400000 in
theorem parse_big (s : ByteArray) (w : World) (h : 1048576 < s.size) :
    Calls Try.prog 23 #[.string s] w fun e w' => e = .returned (.tuple #[.slice none 0 0, .int .i64 3]) ∧ w = w' := by
  have hb : (1048576 : Int) < (s.size : Int) := by omega
  go_enter Try.func23, Try.ntmps23
  go_wp2
  go_ret2
  exact ⟨rfl, rfl⟩

def ParseSays (s : ByteArray) (g : Nat) (e : Ending) (w' : World) : Prop :=
  (isText s = false ∧ e = .returned (.tuple #[.slice none 0 0, .int .i64 4])) ∨
  (isText s = true ∧ e = .returned (.tuple #[.slice (some ⟨g, 0, none⟩) s.size s.size, .int .i64 0]) ∧ Own w' g 5 (nums .u8 ((codes s).map (· - 48))))

set_option maxHeartbeats 400000 in
theorem parse_any (s : ByteArray) (w : World) (h : s.size ≤ 1048576) :
    Calls Try.prog 23 #[.string s] w fun e w' => ParseSays s w.heap.size e w' ∧ Below w.heap.size w w' := by
  have hb : ¬ (1048576 : Int) < (s.size : Int) := by omega
  have hmk := make8 s.size (by omega)
  go_enter Try.func23, Try.ntmps23
  go_wp2
  clear hmk
  go_loopw [5, 14] (fun _ i wr => ∃ k : Nat, k ≤ s.size ∧ i = .int .i64 k ∧ Below w.heap.size w wr ∧ (∀ j, (hj : j < s.size) → j < k → s[j].toNat = 48 ∨ s[j].toNat = 49) ∧
      Own wr w.heap.size 5 (nums .u8 (((codes s).take k).map (· - 48) ++ List.replicate (s.size - k) 0))) (fun _ i _ => s.size - (intOf i).toNat)
  case atStart => exact ⟨0, Nat.zero_le _, rfl, below_alloc _ _, by intro j hj h; omega, by simpa using own_made .u8 s.size 5 w⟩
  case round =>
    obtain ⟨k, hk, rfl, hbel, hall, hown⟩ := hrel
    by_cases hlt : k < s.size
    · have hA : (((codes s).take k).map (· - (48 : Int))).length = k := by rw [List.length_map, List.length_take, codes_length]; omega
      have hcell := hown.cell k (by rw [nums_length, List.length_append, hA, List.length_replicate]; omega)
      have hfr := hown.frozen k
      have hr := u8_range s[k]
      obtain ⟨x, hx⟩ : ∃ x : Int, (s[k].toNat : Int) = x := ⟨_, rfl⟩
      have hge : (codes s).getD k 0 = x := by
        rw [← hx, codes, List.getD_eq_getElem?_getD, List.getElem?_map, List.getElem?_eq_getElem (by simpa using hlt)]; rfl
      rw [hx] at hr
      obtain ⟨hr0, hr1⟩ := hr
      have HX := Lib.hid hx
      have HG := Lib.hid hge
      have HO := Lib.hid hown
      have HBel := Lib.hid hbel
      have HA := Lib.hid hA
      have HAll := Lib.hid hall
      clear hge hown hbel hA hall
      by_cases h48 : x = 48 ∨ x = 49
      · have hstep : ∀ y : Int, y = 48 ∨ y = 49 → 48 ≤ y := by intro y hy; omega
        have hlo : 48 ≤ x := hstep x h48
        have hnext : ∀ j, (hj : j < s.size) → j < k + 1 → s[j].toNat = 48 ∨ s[j].toNat = 49 := by
          intro j hj hjk
          by_cases hjk' : j < k
          · exact HAll.out j hj hjk'
          · obtain rfl : j = k := by omega
            have := HX.out
            omega
        have hown' : ∀ wr' : World, wr' = wr.setCell ⟨w.heap.size, k, none⟩ (.int .u8 (x - 48)) → Own wr' w.heap.size 5 (nums .u8 (((codes s).take (k + 1)).map (· - 48) ++ List.replicate (s.size - (k + 1)) 0)) := by
          rintro wr' rfl
          have := HO.out.set k (.int .u8 (x - 48))
          rw [nums_set, set_at _ HA.out hlt] at this
          rw [take_succ' (by rw [codes_length]; exact hlt), HG.out, List.map_append, List.map_singleton]
          exact this
        have HNext := Lib.hid hnext
        have HOwn' := Lib.hid hown'
        clear hnext hown' hstep
        rcases h48 with h4 | h4
        · have hb1 : (x != 48) = false := by rw [h4]; rfl
          have H4 := Lib.hid h4
          clear h4
          go_wp2
          exact ⟨⟨k + 1, by omega, by go_num, HBel.out.setCell (Nat.le_refl _) _, HNext.out, HOwn'.out _ rfl⟩, by simp [intOf]; omega⟩
        · have hb1 : (x != 48) = true := by rw [h4]; rfl
          have hb2 : (x != 49) = false := by rw [h4]; rfl
          have H4 := Lib.hid h4
          clear h4
          go_wp2
          exact ⟨⟨k + 1, by omega, by go_num, HBel.out.setCell (Nat.le_refl _) _, HNext.out, HOwn'.out _ rfl⟩, by simp [intOf]; omega⟩
      · have hb1 : (x != 48) = true := by rw [bne_iff_ne]; intro h; exact h48 (.inl h)
        have hb2 : (x != 49) = true := by rw [bne_iff_ne]; intro h; exact h48 (.inr h)
        have H48 := Lib.hid h48
        clear h48
        go_wp2
        go_ret2
        refine ⟨.inl ⟨?_, rfl⟩, HBel.out⟩
        have h1 := HX.out
        have h2 := H48.out
        exact isText_false hlt (by omega) (by omega)
    · obtain rfl : k = s.size := by omega
      rw [Nat.sub_self, List.replicate_zero, List.append_nil, List.take_of_length_le (by rw [codes_length]; exact Nat.le_refl _)] at hown
      have HO := Lib.hid hown
      have HBel := Lib.hid hbel
      have HAll := Lib.hid hall
      clear hown hbel hall
      go_wp2
      go_ret2
      exact ⟨.inr ⟨isText_true (fun j hj => HAll.out j hj hj), rfl, HO.out⟩, HBel.out⟩
end Go.Proofs.Ytjadmhmfjjjcfaa
