/- Contracts: bits.Flip. -/
import Derived.Test.YtjadmhmfjjjcfaaOf
namespace Go.Proofs.Ytjadmhmfjjjcfaa
open Go.RowKit

/-- Is every number the index of one of n elements? -/
def inside (n : Nat) (at_ : List Int) : Bool := at_.all fun i => decide (0 ≤ i) && decide (i < (n : Int))
theorem inside_false {n : Nat} {l : List Int} {k : Nat} (hk : k < l.length) (h : l.getD k 0 < 0 ∨ (n : Int) ≤ l.getD k 0) : inside n l = false := by
  rw [Bool.eq_false_iff]
  intro hh
  have := List.all_eq_true.1 hh l[k] (List.getElem_mem hk)
  simp only [List.getD_eq_getElem?_getD, List.getElem?_eq_getElem hk, Option.getD_some] at h
  simp at this
  omega
theorem inside_true {n : Nat} {l : List Int} (h : ∀ j, j < l.length → 0 ≤ l.getD j 0 ∧ l.getD j 0 < (n : Int)) : inside n l = true := by
  unfold inside
  rw [List.all_eq_true]
  intro x hx
  obtain ⟨j, hj, rfl⟩ := List.mem_iff_getElem.1 hx
  have := h j hj
  simp only [List.getD_eq_getElem?_getD, List.getElem?_eq_getElem hj, Option.getD_some] at this
  simp [this]

set_option maxHeartbeats 400000 in
theorem fclosure_yes (x : Int) (g : Nat) (a : Option Addr) (n c : Nat) (w : World) (hc : w.cell? ⟨g, 0, none⟩ = some (.slice a n c)) (hx : x < 0 ∨ (n : Int) ≤ x) :
    Calls Try.prog 36 #[.int .i64 x, .pointer (some ⟨g, 0, none⟩)] w fun e w' => e = .returned (.bool true) ∧ w = w' := by
  by_cases h0 : x < 0
  · clear hx
    go_enter Try.func36, Try.ntmps36
    go_wp2
    go_ret
    exact ⟨rfl, rfl⟩
  · have h1 : (n : Int) ≤ x := by omega
    clear hx
    go_enter Try.func36, Try.ntmps36
    go_wp2
    go_ret
    exact ⟨ret_bool (by simp), rfl⟩
set_option maxHeartbeats 400000 in
theorem fclosure_no (x : Int) (g : Nat) (a : Option Addr) (n c : Nat) (w : World) (hc : w.cell? ⟨g, 0, none⟩ = some (.slice a n c)) (hx0 : 0 ≤ x) (hx1 : x < (n : Int)) :
    Calls Try.prog 36 #[.int .i64 x, .pointer (some ⟨g, 0, none⟩)] w fun e w' => e = .returned (.bool false) ∧ w = w' := by
  go_enter Try.func36, Try.ntmps36
  go_wp2
  go_ret
  exact ⟨ret_bool (by simp; omega), rfl⟩

def SaysInside (n : Nat) (l : List Int) (e : Ending) : Prop := ∃ r : Int, e = .returned (.int .i64 r) ∧ inside n l = decide (r < 0)

set_option maxHeartbeats 400000 in
theorem indexi_any (a : Option Addr) (n c : Nat) (l : List Int) (w : World) (h : Row .i64 w a n c l) (g : Nat) (sa : Option Addr) (sn sc : Nat) (hc : w.cell? ⟨g, 0, none⟩ = some (.slice sa sn sc)) :
    Calls Try.prog 39 #[.slice a n c, .func (.func 36) #[] #[.pointer (some ⟨g, 0, none⟩)]] w fun e w' => SaysInside sn l e ∧ w = w' := by
  obtain ⟨hl, hle, hm, hw, hcc, _⟩ := h
  unfold maxLen at hm
  have HL := Lib.hid hl
  have HW := Lib.hid hw
  clear hl hw
  go_enter Try.func39, Try.ntmps39
  go_wp2_with fail
  go_loop [5, 8] (fun _ i => ∃ k : Nat, k ≤ n ∧ i = .int .i64 k ∧ ∀ j, j < k → 0 ≤ l.getD j 0 ∧ l.getD j 0 < (sn : Int)) (fun _ i => n - (intOf i).toNat)
  case atStart => exact ⟨0, Nat.zero_le _, rfl, by intro j hj; omega⟩
  case round =>
    obtain ⟨k, hk, rfl, hall⟩ := hrel
    have HA := Lib.hid hall
    clear hall
    by_cases hlt : k < n
    · rcases hcc with h0 | ⟨b, o, rfl, hcc⟩
      · omega
      have g0 := hcc k hlt
      obtain ⟨x, hx⟩ : ∃ x, x = l.getD k 0 := ⟨_, rfl⟩
      rw [← hx] at g0
      have HX := Lib.hid hx
      clear hx hcc
      by_cases hx1 : x < 0 ∨ (sn : Int) ≤ x
      · have hcl := fclosure_yes x g sa sn sc w hc hx1
        have HC := Lib.hid hcl
        have H1 := Lib.hid hx1
        clear hcl hx1
        go_wp2_with fail
        refine HC.out.mono ?_
        rintro e w' ⟨rfl, rfl⟩
        go_wp2
        go_ret
        refine ⟨⟨_, rfl, ?_⟩, rfl⟩
        rw [inside_false (k := k) (by rw [HL.out]; exact hlt) (by rw [← HX.out]; exact H1.out)]
        simp
      · have hcl := fclosure_no x g sa sn sc w hc (by omega) (by omega)
        have HC := Lib.hid hcl
        clear hcl
        go_wp2_with fail
        refine HC.out.mono ?_
        rintro e w' ⟨rfl, rfl⟩
        go_wp2
        go_round
        case rel =>
          refine ⟨k + 1, by omega, by go_num, fun j hj => ?_⟩
          by_cases hjk : j < k
          · exact HA.out j hjk
          · obtain rfl : j = k := by omega
            rw [← HX.out]; omega
        case measure => simp [intOf]; omega
    · go_wp2
      go_ret
      refine ⟨⟨-1, rfl, ?_⟩, rfl⟩
      rw [inside_true (fun j hj => HA.out j (by rw [HL.out] at hj; omega))]
      simp

set_option maxHeartbeats 400000 in
theorem containsi_any (a : Option Addr) (n c : Nat) (l : List Int) (w : World) (h : Row .i64 w a n c l) (g : Nat) (sa : Option Addr) (sn sc : Nat) (hc : w.cell? ⟨g, 0, none⟩ = some (.slice sa sn sc)) :
    Calls Try.prog 35 #[.slice a n c, .func (.func 36) #[] #[.pointer (some ⟨g, 0, none⟩)]] w fun e w' => e = .returned (.bool (!inside sn l)) ∧ w = w' := by
  have H := Lib.hid (indexi_any a n c l w h g sa sn sc hc)
  clear h hc
  go_enter Try.func35, Try.ntmps35
  go_wp2_with fail
  refine H.out.mono ?_
  rintro e w' ⟨⟨r, rfl, hr⟩, rfl⟩
  have HR := Lib.hid hr
  clear hr
  go_wp2
  go_ret
  exact ⟨ret_bool (by rw [HR.out, dec_ge_not]), rfl⟩

/-- The list in which the elements at some positions are inverted, one after another. -/
def flips (l : List Int) (at_ : List Int) : List Int := at_.foldl (fun l i => l.set i.toNat (1 - l.getD i.toNat 0)) l
def flipErr (l at_ : List Int) : Int := if ¬ errOf l = 0 then errOf l else if inside l.length at_ then 0 else 1

set_option maxHeartbeats 400000 in
theorem flip_err (a ai : Option Addr) (n c ni ci : Nat) (l li : List Int) (w : World) (h : Row .u8 w a n c l) (hi : Row .i64 w ai ni ci li) (he : flipErr l li ≠ 0) :
    Calls Try.prog 25 #[.slice a n c, .slice ai ni ci] w fun e w' => e = .returned (.tuple #[.slice none 0 0, .int .i64 (flipErr l li)]) ∧ Below w.heap.size w w' := by
  have hl2 := h.later (below_alloc w (.cells #[.slice a n c] 22))
  have hcon := check_any a n c l _ hl2
  by_cases h0 : errOf l = 0
  · rw [h0] at hcon
    have hi2 := hi.later (below_alloc w (.cells #[.slice a n c] 22))
    have hin := containsi_any ai ni ci li _ hi2 w.heap.size a n c (by simp)
    have hf : inside n li = false := by
      unfold flipErr at he
      rw [if_neg (by simp [h0]), h.len] at he
      cases hb : inside n li with
      | false => rfl
      | true => rw [hb] at he; exact absurd rfl he
    have hfin : flipErr l li = 1 := by
      unfold flipErr
      rw [if_neg (by simp [h0]), h.len, hf]; rfl
    rw [hfin]
    rw [hf] at hin
    have HC := Lib.hid hcon
    have HI := Lib.hid hin
    clear hcon hin hi2 hl2 he hfin h hi hf h0
    go_enter Try.func25, Try.ntmps25
    go_wp2_with fail
    refine HC.out.mono ?_
    rintro e w' ⟨rfl, rfl⟩
    go_wp2_with fail
    refine HI.out.mono ?_
    rintro e w' ⟨rfl, rfl⟩
    go_wp2
    go_ret2
    exact ⟨rfl, below_alloc _ _⟩
  · have hfin : flipErr l li = errOf l := by
      unfold flipErr
      rw [if_pos h0]
    rw [hfin]
    obtain ⟨x, hx⟩ : ∃ x, x = errOf l := ⟨_, rfl⟩
    rw [← hx] at hcon h0 ⊢
    have hne' : (x != 0) = true := by simpa using h0
    have HC := Lib.hid hcon
    clear hcon hx h hfin he h0 hi hl2
    go_enter Try.func25, Try.ntmps25
    go_wp2_with fail
    refine HC.out.mono ?_
    rintro e w' ⟨rfl, rfl⟩
    go_wp2
    go_ret2
    exact ⟨rfl, below_alloc _ _⟩

theorem flips_length (l at_ : List Int) : (flips l at_).length = l.length := by
  unfold flips
  induction at_ generalizing l with
  | nil => rfl
  | cons i at_ ih => rw [List.foldl_cons, ih]; simp
theorem flips_snoc (l at_ : List Int) (i : Int) : flips l (at_ ++ [i]) = (flips l at_).set i.toNat (1 - (flips l at_).getD i.toNat 0) := by
  simp [flips, List.foldl_append]
theorem mem_set_bits {l : List Int} (h : ∀ x ∈ l, 0 ≤ x ∧ x ≤ 1) (p : Nat) (v : Int) (hv : 0 ≤ v ∧ v ≤ 1) : ∀ x ∈ l.set p v, 0 ≤ x ∧ x ≤ 1 := by
  intro x hx
  rcases List.mem_or_eq_of_mem_set hx with h1 | h1
  · exact h x h1
  · rw [h1]; exact hv
theorem getD_bits {l : List Int} (h : ∀ x ∈ l, 0 ≤ x ∧ x ≤ 1) (p : Nat) : 0 ≤ l.getD p 0 ∧ l.getD p 0 ≤ 1 := by
  by_cases hp : p < l.length
  · have := h l[p] (List.getElem_mem hp)
    rw [List.getD_eq_getElem?_getD, List.getElem?_eq_getElem hp, Option.getD_some]; exact this
  · rw [List.getD_eq_getElem?_getD, List.getElem?_eq_none (by omega)]; simp
theorem flips_bits {l : List Int} (h : ∀ x ∈ l, 0 ≤ x ∧ x ≤ 1) (at_ : List Int) : ∀ x ∈ flips l at_, 0 ≤ x ∧ x ≤ 1 := by
  unfold flips
  induction at_ generalizing l with
  | nil => exact h
  | cons i at_ ih =>
    rw [List.foldl_cons]
    have hb := getD_bits h i.toNat
    exact ih (mem_set_bits h _ _ (by omega))
theorem xor_one_u8 (x : Int) (h0 : 0 ≤ x) (h1 : x ≤ 1) : bits BinOp.xor IntKind.u8 x 1 = 1 - x := by
  rcases (by omega : x = 0 ∨ x = 1) with rfl | rfl <;> decide
theorem extended0_any (a : Option Addr) (n c : Nat) (l : List Int) (w : World) (h : Row .u8 w a n c l) (hn : n ≤ 2097152) :
    Calls Try.prog 34 #[.slice a n c, .int .i64 0] w fun e w' => e = .returned (.slice (some ⟨w.heap.size, 0, none⟩) n n) ∧ Below w.heap.size w w' ∧ Own w' w.heap.size 5 (nums .u8 l) := by
  have := extended_any a n c 0 l w h hn (by omega)
  rw [List.replicate_zero, List.append_nil, Nat.add_zero] at this
  exact this
theorem inside_at {n : Nat} {l : List Int} (h : inside n l = true) (k : Nat) (hk : k < l.length) : 0 ≤ l.getD k 0 ∧ l.getD k 0 < (n : Int) := by
  have := List.all_eq_true.1 h l[k] (List.getElem_mem hk)
  rw [List.getD_eq_getElem?_getD, List.getElem?_eq_getElem hk, Option.getD_some]
  simpa using this

set_option maxHeartbeats 400000 in
theorem flip_ok (a ai : Option Addr) (n c ni ci : Nat) (l li : List Int) (w : World) (h : Row .u8 w a n c l) (hi : Row .i64 w ai ni ci li) (he : flipErr l li = 0) :
    Calls Try.prog 25 #[.slice a n c, .slice ai ni ci] w fun e w' => e = .returned (.tuple #[.slice (some ⟨w.heap.size + 1, 0, none⟩) n n, .int .i64 0]) ∧ Below w.heap.size w w' ∧
      Own w' (w.heap.size + 1) 5 (nums .u8 (flips l li)) := by
  have hl2 := h.later (below_alloc w (.cells #[.slice a n c] 22))
  have hi2 := hi.later (below_alloc w (.cells #[.slice a n c] 22))
  have hcon := check_any a n c l _ hl2
  have h0 : errOf l = 0 := by
    unfold flipErr at he
    by_cases hh : errOf l = 0
    · exact hh
    · rw [if_pos hh] at he; exact he
  have hins : inside n li = true := by
    unfold flipErr at he
    rw [if_neg (by simp [h0]), h.len] at he
    cases hb : inside n li with
    | true => rfl
    | false => rw [hb] at he; simp at he
  rw [h0] at hcon
  obtain ⟨hn, hbits⟩ := errOf_zero h0
  rw [h.len] at hn
  have hin := containsi_any ai ni ci li _ hi2 w.heap.size a n c (by simp)
  rw [hins] at hin
  have hext := extended0_any a n c l _ hl2 (by omega)
  have H01 := Lib.hid (h.bits hbits)
  have HC := Lib.hid hcon
  have HI := Lib.hid hin
  have HE := Lib.hid hext
  have HIn := Lib.hid hins
  have HR := Lib.hid h
  have HRi := Lib.hid hi
  have hle := hi.le
  have hmx := hi.max
  unfold maxLen at hmx
  clear hcon hin hext hi2 hl2 he h hi hins h0 hbits
  go_enter Try.func25, Try.ntmps25
  go_wp2_with fail
  refine HC.out.mono ?_
  rintro e w' ⟨rfl, rfl⟩
  go_wp2_with fail
  refine HI.out.mono ?_
  rintro e w' ⟨rfl, rfl⟩
  go_wp2_with fail
  refine HE.out.mono ?_
  rintro e w1 ⟨rfl, hb1, ho1⟩
  have hbw := (below_alloc w (.cells #[.slice a n c] 22)).trans (hb1.mono (by simp))
  rw [World.size_alloc] at ho1
  have HB1 := Lib.hid hbw
  have HO1 := Lib.hid ho1
  clear hb1 ho1 hbw
  go_wp2_with fail
  go_loopw [9, 22] (fun _ i wr => ∃ k : Nat, k ≤ ni ∧ i = .int .i64 k ∧ Below w.heap.size w wr ∧ Own wr (w.heap.size + 1) 5 (nums .u8 (flips l (li.take k)))) (fun _ i _ => ni - (intOf i).toNat)
  case atStart => exact ⟨0, Nat.zero_le _, rfl, HB1.out, HO1.out⟩
  case round =>
    obtain ⟨k, hk, rfl, hbel, hown⟩ := hrel
    by_cases hlt : k < ni
    · have hcc := (HRi.out.later hbel).cells
      rcases hcc with h0 | ⟨b, o, rfl, hc⟩
      · omega
      have g := hc k hlt
      have hia := inside_at HIn.out k (by rw [HRi.out.len]; exact hlt)
      obtain ⟨x, hx⟩ : ∃ x, x = li.getD k 0 := ⟨_, rfl⟩
      rw [← hx] at g hia
      obtain ⟨hx0, hx1⟩ := hia
      obtain ⟨p, rfl⟩ := Int.eq_ofNat_of_zero_le hx0
      have hlen : (flips l (li.take k)).length = n := by rw [flips_length, HR.out.len]
      have hcell := hown.cell p (by rw [nums_length, hlen]; omega)
      rw [nums_getD _ _ _ (by rw [hlen]; omega)] at hcell
      have hbit := getD_bits (flips_bits H01.out (li.take k)) p
      obtain ⟨y, hy⟩ : ∃ y, y = (flips l (li.take k)).getD p 0 := ⟨_, rfl⟩
      rw [← hy] at hcell hbit
      obtain ⟨hy0, hy1⟩ := hbit
      have hxor := xor_one_u8 y hy0 hy1
      have hfr := hown.frozen p
      have hpn : p < n := by omega
      have hnext : ∀ wr' : World, wr' = wr.setCell ⟨w.heap.size + 1, p, none⟩ (.int .u8 (1 - y)) → Own wr' (w.heap.size + 1) 5 (nums .u8 (flips l (li.take (k + 1)))) := by
        rintro wr' rfl
        have := hown.set p (.int .u8 (1 - y))
        rw [nums_set] at this
        rw [take_succ' (by rw [HRi.out.len]; exact hlt), ← hx, flips_snoc, Int.toNat_natCast, ← hy]
        exact this
      have HBel := Lib.hid hbel
      have HNext := Lib.hid hnext
      have hsz := hown.lt
      clear hx hy hbel hown hc hlen hnext
      go_wp2
      exact ⟨⟨k + 1, by omega, by go_num, HBel.out.setCell (by simp) _, HNext.out _ rfl⟩, by simp [intOf]; omega⟩
    · obtain rfl : k = ni := by omega
      rw [List.take_of_length_le (by rw [HRi.out.len]; exact Nat.le_refl _)] at hown
      have HO := Lib.hid hown
      have HBel := Lib.hid hbel
      clear hown hbel
      go_wp2
      go_ret2
      exact ⟨rfl, HBel.out, HO.out⟩
end Go.Proofs.Ytjadmhmfjjjcfaa
