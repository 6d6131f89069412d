/- The code's tables of all selection codes: Places and Lines. -/
import Derived.Test.YtpgdaodgdckehaaShNext
namespace Go.Proofs.Ytpgdaodgdckehaa
open Go.RowKit

theorem placeM_one (g : List Nat) (us : Nat → Bool) (q : Nat) : placeM g us q = -1 ∨ 0 ≤ placeM g us q := by
  rcases placeM_cases g us q with h | ⟨x, h, _⟩
  · exact .inl h
  · exact .inr (by omega)
theorem linkM_one (n : Nat) (up : Nat → Bool) (s : Nat) : linkM n up s = -1 ∨ 0 ≤ linkM n up s := placeM_one _ _ _
theorem nextM_one (R S : List Int) (q : Nat) : nextM R S q = -1 ∨ 0 ≤ nextM R S q := by
  unfold nextM
  split
  · exact .inl rfl
  · exact placeM_one _ _ _
/-- The table of the selection codes below k, of 16. -/
def tabK (f : Nat → Int) (k : Nat) : List Int := (List.range k).map f ++ List.replicate (16 - k) 0
def tab (f : Nat → Int) : List Int := (List.range 16).map f
theorem tabK_16 (f : Nat → Int) : tabK f 16 = tab f := by unfold tabK tab; simp
theorem tabK_length (f : Nat → Int) {k : Nat} (h : k ≤ 16) : (tabK f k).length = 16 := by unfold tabK; simp; omega
theorem tab_length (f : Nat → Int) : (tab f).length = 16 := by simp [tab]
theorem tab_getD (f : Nat → Int) {i : Nat} (h : i < 16) : (tab f).getD i 0 = f i := by simp [tab, List.getD_eq_getElem?_getD, h]
theorem tabK_set (f : Nat → Int) {k : Nat} (h : k < 16) : (tabK f k).set k (f k) = tabK f (k + 1) := by
  unfold tabK
  rw [List.set_append_right _ _ (by simp), List.range_succ, List.map_append, List.append_assoc]
  congr 1
  obtain ⟨m, hm⟩ : ∃ m, 16 - k = m + 1 := ⟨15 - k, by omega⟩
  rw [hm, show 16 - (k + 1) = m by omega]
  simp [List.replicate_succ]
theorem make_16 (w : World) :
    (Instr.makeSlice 31 (.int .i64 16) (.int .i64 16)).run Try.prog w = .ok (.slice (some ⟨w.heap.size, 0, none⟩) 16 16) (w.alloc (.cells (madeCells #[.int .i64 0] 16) 3)) := by
  obtain ⟨i, hi, hz0, hz1, hz2⟩ := info_parts info64
  have h := run_make (P := Try.prog) w 31 3 i (.int .i64 0) Try.underlying31 hi hz0 .i64 .i64 16 16 (by decide) (by decide) (by rw [hz2]; decide) (by decide)
  rw [hz1, Nat.mul_one] at h
  simpa [Value.cells] using h
theorem setCell_own {w : World} {b e : Nat} {l : List Int} (h : Own w b e (nums .i64 l)) (j : Nat) (v : Int) : Own (w.setCell ⟨b, j, none⟩ (.int .i64 v)) b e (nums .i64 (l.set j v)) := by
  have := h.set j (.int .i64 v)
  rw [nums_set] at this; exact this
/-- A table of the call's own. -/
def TabOut (f : Nat → Int) (w : World) (e : Ending) (w' : World) : Prop :=
  ∃ g, w.heap.size ≤ g ∧ e = .returned (.slice (some ⟨g, 0, none⟩) 16 16) ∧ Own w' g 3 (nums .i64 (tab f)) ∧ Below w.heap.size w w'
theorem places_code (a : Option Addr) (n c : Nat) (R : List (Int × Int)) (a' : Option Addr) (n' c' : Nat) (S : List Int) (x y s : Nat) (w : World) (hn : n ≤ 1000000) (hR : CRow w a n c R) (hS : Row .u8 w a' n' c' S) (hs : s ≤ 15) (hx : w.cell? ⟨x, 0, none⟩ = some (.slice a n c)) (hy : w.cell? ⟨y, 0, none⟩ = some (.slice a' n' c')) :
    Calls Try.prog 28 #[.int .u8 (s : Int), .pointer (some ⟨x, 0, none⟩), .pointer (some ⟨y, 0, none⟩)] w fun e w' => e = PlOut (nextM (rks R) S s) ∧ Below w.heap.size w w' := by
  have hcon := next_any a n c R a' n' c' S s w hn hR hS
  rw [Nat.mod_eq_of_lt (by omega : s < 16)] at hcon
  have HC := Lib.hid hcon
  clear hcon hR hS
  go_enter Try.func28, Try.ntmps28
  go_wp2_with fail
  with_reducible refine HC.out.mono ?_
  rintro e w' ⟨rfl, hb⟩
  have HB := Lib.hid hb
  clear hb
  obtain ⟨m, d, hv⟩ : ∃ m d, PlOut (nextM (rks R) S s) = .returned (.tuple #[.int .i64 m, .bool d]) := ⟨_, _, rfl⟩
  have HV := Lib.hid hv
  rw [hv]
  clear hv
  go_wp2
  go_ret2
  rw [HV.out]
  exact ⟨rfl, HB.out⟩
set_option maxHeartbeats 1000000 in
theorem places_codes (a : Option Addr) (n c : Nat) (R : List (Int × Int)) (a' : Option Addr) (n' c' : Nat) (S : List Int) (x y : Nat) (w : World) (hn : n ≤ 1000000) (hR : CRow w a n c R) (hS : Row .u8 w a' n' c' S) (hx : w.cell? ⟨x, 0, none⟩ = some (.slice a n c)) (hy : w.cell? ⟨y, 0, none⟩ = some (.slice a' n' c')) :
    Calls Try.prog 27 #[.func (.func 28) #[] #[.pointer (some ⟨x, 0, none⟩), .pointer (some ⟨y, 0, none⟩)]] w (TabOut (nextM (rks R) S) w) := by
  have hcon : ∀ (s : Nat) W, s ≤ 15 → Below w.heap.size w W → Calls Try.prog 28 #[.int .u8 (s : Int), .pointer (some ⟨x, 0, none⟩), .pointer (some ⟨y, 0, none⟩)] W fun e w' => e = PlOut ((nextM (rks R) S) s) ∧ Below W.heap.size W w' :=
    fun s W h h2 => (places_code a n c R a' n' c' S x y s W hn (hR.later h2) (hS.later h2) h (cell_later hx h2) (cell_later hy h2)).mono fun e w' hh => hh
  have hone : ∀ s, (nextM (rks R) S) s = -1 ∨ 0 ≤ (nextM (rks R) S) s := fun s => nextM_one _ _ s
  generalize (nextM (rks R) S) = f at *
  have HC := Lib.hid hcon
  have HOn := Lib.hid hone
  have hmk := make_16 w
  clear hcon hone hR hS hx hy
  go_enter Try.func27, Try.ntmps27
  go_wp2_with fail
  clear hmk
  go_loopw [8] (fun i wr => ∃ k : Nat, k ≤ 16 ∧ i = .int .u8 k ∧ Own wr w.heap.size 3 (nums .i64 (tabK f k)) ∧ Below w.heap.size w wr) (fun i _ => 16 - (intOf i).toNat)
  case atStart => exact ⟨0, Nat.zero_le _, rfl, by have := own_made .i64 16 3 w; exact this, below_alloc _ _⟩
  case round =>
    obtain ⟨k, hk, rfl, hown, hb⟩ := hrel
    by_cases hkn : k < 16
    · have hk15 : (k : Int) ≤ 15 := by omega
      have hw8 : IntKind.u8.wrap ((k : Int) + 1) = (k : Int) + 1 := IntWalk.u8_in _ (by omega)
      have hlt : w.heap.size < wr.heap.size := hown.lt
      have hcon2 := HC.out k wr (by omega) hb
      have hset := tabK_set f hkn
      have h1 := HOn.out k
      generalize f k = v at *
      have HO := Lib.hid hown
      have HB := Lib.hid hb
      have HC2 := Lib.hid hcon2
      have HSet := Lib.hid hset
      clear hown hb hcon2 hset
      go_wp2_with fail
      with_reducible refine HC2.out.mono ?_
      rintro e w' ⟨rfl, hb2⟩
      have ho2 := HO.out.below hb2 hlt
      have hcell := ho2.cell k (by rw [nums_length, tabK_length f (by omega)]; exact hkn)
      have hfr := ho2.frozen k
      have HO2 := Lib.hid ho2
      have hb3 := HB.out.trans (hb2.mono HB.out.size)
      have HB3 := Lib.hid hb3
      clear hb2 ho2 hb3
      unfold PlOut
      rcases h1 with rfl | h1
      · have hd : decide ((0 : Int) ≤ -1) = false := rfl
        rw [hd]
        go_wp2
        refine ⟨⟨k + 1, by omega, by go_num, ?_, ?_⟩, by simp [intOf]; omega⟩
        · rw [← HSet.out]; exact setCell_own HO2.out k (-1)
        · exact HB3.out.setCell (Nat.le_refl _) _
      · have hd : decide ((0 : Int) ≤ v) = true := by simpa using h1
        have hm : max v 0 = v := by omega
        rw [hd, hm]
        go_wp2
        refine ⟨⟨k + 1, by omega, by go_num, ?_, ?_⟩, by simp [intOf]; omega⟩
        · rw [← HSet.out]; exact setCell_own HO2.out k v
        · exact HB3.out.setCell (Nat.le_refl _) _
    · obtain rfl : k = 16 := by omega
      go_wp2
      go_ret
      rw [tabK_16] at hown
      exact ⟨_, Nat.le_refl _, rfl, hown, hb⟩
set_option maxHeartbeats 1000000 in
theorem places_any (a : Option Addr) (n c : Nat) (R : List (Int × Int)) (a' : Option Addr) (n' c' : Nat) (S : List Int) (w : World) (hn : n ≤ 1000000) (hR : CRow w a n c R) (hS : Row .u8 w a' n' c' S) :
    Calls Try.prog 13 #[.slice a n c, .slice a' n' c'] w (TabOut (nextM (rks R) S) w) := by
  have hb1 := below_alloc w (.cells #[.slice a n c] 22)
  have hc1 : (w.alloc (.cells #[.slice a n c] 22)).cell? ⟨w.heap.size, 0, none⟩ = some (.slice a n c) := by have := cell_one_new w (.slice a n c) 22 0 _ rfl; exact this
  have hz1 : (w.alloc (.cells #[.slice a n c] 22)).heap.size = w.heap.size + 1 := by simp
  obtain ⟨W1, hW1⟩ : ∃ W, W = w.alloc (.cells #[.slice a n c] 22) := ⟨_, rfl⟩
  rw [← hW1] at hb1 hc1 hz1
  have hb2 := below_alloc W1 (.cells #[.slice a' n' c'] 23)
  have hc2 : (W1.alloc (.cells #[.slice a' n' c'] 23)).cell? ⟨W1.heap.size, 0, none⟩ = some (.slice a' n' c') := by have := cell_one_new W1 (.slice a' n' c') 23 0 _ rfl; exact this
  have hc1' := cell_later hc1 hb2
  have hb3 := hb1.trans (hb2.mono hb1.size)
  have hcon := places_codes a n c R a' n' c' S w.heap.size W1.heap.size _ hn (hR.later hb3) (hS.later hb3) hc1' hc2
  have hsz := hb3.size
  obtain ⟨W2, hW2⟩ : ∃ W, W = W1.alloc (.cells #[.slice a' n' c'] 23) := ⟨_, rfl⟩
  rw [← hW2] at hcon hb3 hsz
  rw [hz1] at hcon
  have HC := Lib.hid hcon
  have HB := Lib.hid hb3
  have HW : Hid (W2 = (w.alloc (.cells #[.slice a n c] 22)).alloc (.cells #[.slice a' n' c'] 23)) := Lib.hid (by rw [hW2, hW1])
  clear hR hS hb1 hc1 hz1 hb2 hc2 hc1' hb3 hcon hW1 hW2 hn
  go_enter Try.func13, Try.ntmps13
  go_upto_region 1 with fail
  rw [← HW.out]
  go_wp2_with fail
  with_reducible refine HC.out.mono ?_
  rintro e w' ⟨g, hg, rfl, hown, hb⟩
  have HO := Lib.hid hown
  have HB2 := Lib.hid hb
  clear hown hb
  go_wp2
  go_ret
  exact ⟨g, Nat.le_trans hsz hg, rfl, HO.out, HB.out.trans (HB2.out.mono HB.out.size)⟩
theorem lines_code (a : Option Addr) (n c : Nat) (R : List (Int × Int × Int)) (a' : Option Addr) (n' c' : Nat) (S : List Bool) (x y s : Nat) (w : World) (hn : n ≤ 1000000) (hR : ZRow w a n c R) (hS : BRow w a' n' c' S) (hs : s ≤ 15) (hx : w.cell? ⟨x, 0, none⟩ = some (.slice a n c)) (hy : w.cell? ⟨y, 0, none⟩ = some (.slice a' n' c')) :
    Calls Try.prog 29 #[.int .u8 (s : Int), .pointer (some ⟨x, 0, none⟩), .pointer (some ⟨y, 0, none⟩)] w fun e w' => e = PlOut (linkM n (upM S) s) ∧ Below w.heap.size w w' := by
  have hcon := link_any a n c R a' n' c' S s w hn (by omega) hR hS
  have HC := Lib.hid hcon
  clear hcon hR hS
  go_enter Try.func29, Try.ntmps29
  go_wp2_with fail
  with_reducible refine HC.out.mono ?_
  rintro e w' ⟨rfl, hb⟩
  have HB := Lib.hid hb
  clear hb
  obtain ⟨m, d, hv⟩ : ∃ m d, PlOut (linkM n (upM S) s) = .returned (.tuple #[.int .i64 m, .bool d]) := ⟨_, _, rfl⟩
  have HV := Lib.hid hv
  rw [hv]
  clear hv
  go_wp2
  go_ret2
  rw [HV.out]
  exact ⟨rfl, HB.out⟩
set_option maxHeartbeats 1000000 in
theorem lines_codes (a : Option Addr) (n c : Nat) (R : List (Int × Int × Int)) (a' : Option Addr) (n' c' : Nat) (S : List Bool) (x y : Nat) (w : World) (hn : n ≤ 1000000) (hR : ZRow w a n c R) (hS : BRow w a' n' c' S) (hx : w.cell? ⟨x, 0, none⟩ = some (.slice a n c)) (hy : w.cell? ⟨y, 0, none⟩ = some (.slice a' n' c')) :
    Calls Try.prog 27 #[.func (.func 29) #[] #[.pointer (some ⟨x, 0, none⟩), .pointer (some ⟨y, 0, none⟩)]] w (TabOut (linkM n (upM S)) w) := by
  have hcon : ∀ (s : Nat) W, s ≤ 15 → Below w.heap.size w W → Calls Try.prog 29 #[.int .u8 (s : Int), .pointer (some ⟨x, 0, none⟩), .pointer (some ⟨y, 0, none⟩)] W fun e w' => e = PlOut ((linkM n (upM S)) s) ∧ Below W.heap.size W w' :=
    fun s W h h2 => (lines_code a n c R a' n' c' S x y s W hn (hR.later h2) (hS.later h2) h (cell_later hx h2) (cell_later hy h2)).mono fun e w' hh => hh
  have hone : ∀ s, (linkM n (upM S)) s = -1 ∨ 0 ≤ (linkM n (upM S)) s := fun s => linkM_one _ _ s
  generalize (linkM n (upM S)) = f at *
  have HC := Lib.hid hcon
  have HOn := Lib.hid hone
  have hmk := make_16 w
  clear hcon hone hR hS hx hy
  go_enter Try.func27, Try.ntmps27
  go_wp2_with fail
  clear hmk
  go_loopw [8] (fun i wr => ∃ k : Nat, k ≤ 16 ∧ i = .int .u8 k ∧ Own wr w.heap.size 3 (nums .i64 (tabK f k)) ∧ Below w.heap.size w wr) (fun i _ => 16 - (intOf i).toNat)
  case atStart => exact ⟨0, Nat.zero_le _, rfl, by have := own_made .i64 16 3 w; exact this, below_alloc _ _⟩
  case round =>
    obtain ⟨k, hk, rfl, hown, hb⟩ := hrel
    by_cases hkn : k < 16
    · have hk15 : (k : Int) ≤ 15 := by omega
      have hw8 : IntKind.u8.wrap ((k : Int) + 1) = (k : Int) + 1 := IntWalk.u8_in _ (by omega)
      have hlt : w.heap.size < wr.heap.size := hown.lt
      have hcon2 := HC.out k wr (by omega) hb
      have hset := tabK_set f hkn
      have h1 := HOn.out k
      generalize f k = v at *
      have HO := Lib.hid hown
      have HB := Lib.hid hb
      have HC2 := Lib.hid hcon2
      have HSet := Lib.hid hset
      clear hown hb hcon2 hset
      go_wp2_with fail
      with_reducible refine HC2.out.mono ?_
      rintro e w' ⟨rfl, hb2⟩
      have ho2 := HO.out.below hb2 hlt
      have hcell := ho2.cell k (by rw [nums_length, tabK_length f (by omega)]; exact hkn)
      have hfr := ho2.frozen k
      have HO2 := Lib.hid ho2
      have hb3 := HB.out.trans (hb2.mono HB.out.size)
      have HB3 := Lib.hid hb3
      clear hb2 ho2 hb3
      unfold PlOut
      rcases h1 with rfl | h1
      · have hd : decide ((0 : Int) ≤ -1) = false := rfl
        rw [hd]
        go_wp2
        refine ⟨⟨k + 1, by omega, by go_num, ?_, ?_⟩, by simp [intOf]; omega⟩
        · rw [← HSet.out]; exact setCell_own HO2.out k (-1)
        · exact HB3.out.setCell (Nat.le_refl _) _
      · have hd : decide ((0 : Int) ≤ v) = true := by simpa using h1
        have hm : max v 0 = v := by omega
        rw [hd, hm]
        go_wp2
        refine ⟨⟨k + 1, by omega, by go_num, ?_, ?_⟩, by simp [intOf]; omega⟩
        · rw [← HSet.out]; exact setCell_own HO2.out k v
        · exact HB3.out.setCell (Nat.le_refl _) _
    · obtain rfl : k = 16 := by omega
      go_wp2
      go_ret
      rw [tabK_16] at hown
      exact ⟨_, Nat.le_refl _, rfl, hown, hb⟩
set_option maxHeartbeats 1000000 in
theorem lines_any (a : Option Addr) (n c : Nat) (R : List (Int × Int × Int)) (a' : Option Addr) (n' c' : Nat) (S : List Bool) (w : World) (hn : n ≤ 1000000) (hR : ZRow w a n c R) (hS : BRow w a' n' c' S) :
    Calls Try.prog 14 #[.slice a n c, .slice a' n' c'] w (TabOut (linkM n (upM S)) w) := by
  have hb1 := below_alloc w (.cells #[.slice a n c] 29)
  have hc1 : (w.alloc (.cells #[.slice a n c] 29)).cell? ⟨w.heap.size, 0, none⟩ = some (.slice a n c) := by have := cell_one_new w (.slice a n c) 29 0 _ rfl; exact this
  have hz1 : (w.alloc (.cells #[.slice a n c] 29)).heap.size = w.heap.size + 1 := by simp
  obtain ⟨W1, hW1⟩ : ∃ W, W = w.alloc (.cells #[.slice a n c] 29) := ⟨_, rfl⟩
  rw [← hW1] at hb1 hc1 hz1
  have hb2 := below_alloc W1 (.cells #[.slice a' n' c'] 30)
  have hc2 : (W1.alloc (.cells #[.slice a' n' c'] 30)).cell? ⟨W1.heap.size, 0, none⟩ = some (.slice a' n' c') := by have := cell_one_new W1 (.slice a' n' c') 30 0 _ rfl; exact this
  have hc1' := cell_later hc1 hb2
  have hb3 := hb1.trans (hb2.mono hb1.size)
  have hcon := lines_codes a n c R a' n' c' S w.heap.size W1.heap.size _ hn (hR.later hb3) (hS.later hb3) hc1' hc2
  have hsz := hb3.size
  obtain ⟨W2, hW2⟩ : ∃ W, W = W1.alloc (.cells #[.slice a' n' c'] 30) := ⟨_, rfl⟩
  rw [← hW2] at hcon hb3 hsz
  rw [hz1] at hcon
  have HC := Lib.hid hcon
  have HB := Lib.hid hb3
  have HW : Hid (W2 = (w.alloc (.cells #[.slice a n c] 29)).alloc (.cells #[.slice a' n' c'] 30)) := Lib.hid (by rw [hW2, hW1])
  clear hR hS hb1 hc1 hz1 hb2 hc2 hc1' hb3 hcon hW1 hW2 hn
  go_enter Try.func14, Try.ntmps14
  go_upto_region 1 with fail
  rw [← HW.out]
  go_wp2_with fail
  with_reducible refine HC.out.mono ?_
  rintro e w' ⟨g, hg, rfl, hown, hb⟩
  have HO := Lib.hid hown
  have HB2 := Lib.hid hb
  clear hown hb
  go_wp2
  go_ret
  exact ⟨g, Nat.le_trans hsz hg, rfl, HO.out, HB.out.trans (HB2.out.mono HB.out.size)⟩
end Go.Proofs.Ytpgdaodgdckehaa
