/- For any bytes as streams and any positions the law BitsFlip returns true and leaves its arguments as they are. No condition. -/
import Derived.Test.YtjadmhmfjjjcfaaMore
import Derived.ProofKit
import Derived.OpenShut
import Derived.ShutString
import Derived.ChangeOld
namespace Go.Proofs.Ytjadmhmfjjjcfaa
open Go.RowKit

theorem diffs_split (l1 l2 : List Int) {k n : Nat} (h : k ≤ n) : ∃ t, diffs l1 l2 n = diffs l1 l2 k ++ t := by
  induction n with
  | zero => exact ⟨[], by rw [show k = 0 by omega]; simp⟩
  | succ n ih =>
    by_cases hk : k = n + 1
    · exact ⟨[], by rw [hk]; simp⟩
    · obtain ⟨t, ht⟩ := ih (by omega)
      by_cases hd : l1.getD n 0 = l2.getD n 0
      · exact ⟨t, by rw [diffs_no hd, ht]⟩
      · exact ⟨t ++ [(n : Int)], by rw [diffs_yes hd, ht, List.append_assoc]⟩
theorem diffs_at {l1 l2 : List Int} {k n : Nat} (h : k < n) (hd : l1.getD k 0 ≠ l2.getD k 0) : (diffs l1 l2 k).length < (diffs l1 l2 n).length ∧ (diffs l1 l2 n).getD (diffs l1 l2 k).length 0 = (k : Int) := by
  obtain ⟨t, ht⟩ := diffs_split l1 l2 (show k + 1 ≤ n by omega)
  rw [diffs_yes hd] at ht
  rw [ht]
  constructor
  · simp only [List.length_append, List.length_cons, List.length_nil]; omega
  · simp [List.getD_eq_getElem?_getD]
theorem flips_diffs {l0 l1 : List Int} (hl : l0.length = l1.length) (h0 : ∀ x ∈ l0, 0 ≤ x ∧ x ≤ 1) (h1 : ∀ x ∈ l1, 0 ≤ x ∧ x ≤ 1) {k : Nat} (hk : k ≤ l0.length) :
    flips l0 (diffs l0 l1 k) = l1.take k ++ l0.drop k := by
  induction k with
  | zero => simp [diffs, flips]
  | succ k ih =>
    have ih := ih (by omega)
    have hd0 := drop_pred (l := l0) (m := k) (by omega)
    have ht1 := take_succ' (l := l1) (k := k) (by omega)
    have hlen : (l1.take k).length = k := by rw [List.length_take]; omega
    by_cases hd : l0.getD k 0 = l1.getD k 0
    · rw [diffs_no hd, ih, ht1, hd0, hd]; simp
    · rw [diffs_yes hd, flips_snoc, ih, Int.toNat_natCast]
      have e : (l1.take k ++ l0.drop k).getD k 0 = l0.getD k 0 := by
        rw [List.getD_eq_getElem?_getD, List.getElem?_append_right (by omega), hlen, Nat.sub_self, hd0]; simp
      have b0 := getD_bits h0 k
      have b1 := getD_bits h1 k
      have e2 : 1 - l0.getD k 0 = l1.getD k 0 := by omega
      rw [e, e2, ht1, List.set_append_right _ _ (by omega), hlen, Nat.sub_self, hd0, List.set_cons_zero]
      simp
theorem flips_all {l0 l1 : List Int} (hl : l0.length = l1.length) (h0 : ∀ x ∈ l0, 0 ≤ x ∧ x ≤ 1) (h1 : ∀ x ∈ l1, 0 ≤ x ∧ x ≤ 1) : flips l0 (diffs l0 l1 l0.length) = l1 := by
  rw [flips_diffs hl h0 h1 (Nat.le_refl _), hl, List.take_of_length_le (Nat.le_refl _), ← hl, List.drop_of_length_le (Nat.le_refl _), List.append_nil]
theorem inside_diffs (l0 l1 : List Int) (n : Nat) : inside n (diffs l0 l1 n) = true := by
  unfold inside
  rw [List.all_eq_true]
  intro x hx
  unfold diffs at hx
  obtain ⟨j, hj, rfl⟩ := List.mem_map.1 hx
  have := List.mem_range.1 (List.mem_filter.1 hj).1
  have e : (Int.ofNat j : Int) = (j : Int) := rfl
  rw [e]
  simp; omega
theorem inside_take {n : Nat} {l : List Int} {k : Nat} (hk : k < l.length) (h : inside n (l.take k) = true) (h0 : 0 ≤ l.getD k 0) (h1 : l.getD k 0 < (n : Int)) : inside n (l.take (k + 1)) = true := by
  rw [take_succ' hk]
  unfold inside at h ⊢
  rw [List.all_append, h]
  rw [List.getD_eq_getElem?_getD] at h0 h1
  simp [h0, h1]
theorem ownsRow_own {w : World} {B e n : Nat} {v : Value} {k : IntKind} {l : List Int} (h : w.ownsRow B e 1 v n (nums k l)) (hn : 0 < n) : ∃ g c rest, v = .slice (some ⟨g, 0, none⟩) n c ∧ B ≤ g ∧ Own w g e (nums k l ++ rest) := by
  rcases h.2 with ⟨rfl, h0⟩ | ⟨g, cap, cur, rfl, hb, hg, hn', hc, hs, ht⟩
  · omega
  · refine ⟨g, cap, cur.toList.drop (n * 1), rfl, hb, ?_⟩
    unfold Own
    rw [hg, ← ht, List.take_append_drop]

theorem flip_e (a ai : Option Addr) (n c ni ci : Nat) (l li : List Int) (x : Int) (w : World) (h : Row .u8 w a n c l) (hi : Row .i64 w ai ni ci li) (he : flipErr l li = x) (hx : x ≠ 0) :
    Calls Try.prog 25 #[.slice a n c, .slice ai ni ci] w fun e w' => e = .returned (.tuple #[.slice none 0 0, .int .i64 x]) ∧ Below w.heap.size w w' := by
  subst he; exact flip_err a ai n c ni ci l li w h hi hx
theorem apart_e (a1 a2 : Option Addr) (n1 c1 n2 c2 : Nat) (l1 l2 : List Int) (x : Int) (w : World) (h1 : Row .u8 w a1 n1 c1 l1) (h2 : Row .u8 w a2 n2 c2 l2) (he : apartErr l1 l2 = x) (hx : x ≠ 0) :
    Calls Try.prog 26 #[.slice a1 n1 c1, .slice a2 n2 c2] w fun e w' => e = .returned (.tuple #[.slice none 0 0, .int .i64 x]) ∧ w = w' := by
  subst he; exact apart_err a1 a2 n1 c1 n2 c2 l1 l2 w h1 h2 hx
theorem flipErr_of {l li : List Int} {x : Int} (h : errOf l = x) (hx : x ≠ 0) : flipErr l li = x := by unfold flipErr; rw [if_pos (by rw [h]; exact hx), h]
theorem flipErr_out {l li : List Int} {n : Nat} (h : errOf l = 0) (hn : l.length = n) (hi : inside n li = false) : flipErr l li = 1 := by unfold flipErr; rw [if_neg (by simp [h]), hn, hi]; rfl
theorem flipErr_in {l li : List Int} {n : Nat} (h : errOf l = 0) (hn : l.length = n) (hi : inside n li = true) : flipErr l li = 0 := by unfold flipErr; rw [if_neg (by simp [h]), hn, hi]; rfl
theorem apartErr_1 {l1 l2 : List Int} {x : Int} (h : errOf l1 = x) (hx : x ≠ 0) : apartErr l1 l2 = x := by unfold apartErr; rw [if_pos (by rw [h]; exact hx), h]
theorem apartErr_2 {l1 l2 : List Int} {x : Int} (h1 : errOf l1 = 0) (h : errOf l2 = x) (hx : x ≠ 0) : apartErr l1 l2 = x := by unfold apartErr; rw [if_neg (by simp [h1]), if_pos (by rw [h]; exact hx), h]
theorem apartErr_5 {l1 l2 : List Int} (h1 : errOf l1 = 0) (h2 : errOf l2 = 0) (h : l1.length ≠ l2.length) : apartErr l1 l2 = 5 := by unfold apartErr; rw [if_neg (by simp [h1]), if_neg (by simp [h2]), if_neg h]
theorem apartErr_0 {l1 l2 : List Int} (h1 : errOf l1 = 0) (h2 : errOf l2 = 0) (h : l1.length = l2.length) : apartErr l1 l2 = 0 := by unfold apartErr; rw [if_neg (by simp [h1]), if_neg (by simp [h2]), if_pos h]

set_option maxHeartbeats 2000000 in
set_option maxRecDepth 100000 in
theorem flip_case1 (a0 : Option Addr) (n0 c0 : Nat) (l0 : List Int) (a1 : Option Addr) (n1 c1 : Nat) (l1 : List Int) (ai : Option Addr) (ni ci : Nat) (li : List Int) (w : World) (h0 : Row .u8 w a0 n0 c0 l0) (h1 : Row .u8 w a1 n1 c1 l1) (h2 : Row .i64 w ai ni ci li) (hn0 : n0 ≤ 200) (hn1 : n1 ≤ 200) (hn2 : ni ≤ 50) (x : Int) (he : errOf l0 = x) (hx : x ≠ 0) :
    Calls Try.prog 6 #[.slice a0 n0 c0, .slice a1 n1 c1, .slice ai ni ci] w fun e w' => e = .returned (.bool true) ∧ Below w.heap.size w w' := by
  have hle0 := h0.le
  have hmx0 := h0.max
  have hle1 := h1.le
  have hmx1 := h1.max
  have hle2 := h2.le
  have hmx2 := h2.max
  unfold maxLen at hmx0 hmx1 hmx2
  have HR0 := Lib.hid h0
  have HR1 := Lib.hid h1
  have HR2 := Lib.hid h2
  obtain ⟨i0, hi, hz0, hz1, hz2⟩ := info_parts info8
  have HI := Lib.hid hi
  have HZ0 := Lib.hid hz0
  have HZ1 := Lib.hid hz1
  have HZ2 := Lib.hid hz2
  have hb0 : ¬ (200 : Int) < (n0 : Int) := by omega
  have hb1 : ¬ (200 : Int) < (n1 : Int) := by omega
  have hb2 : ¬ (50 : Int) < (ni : Int) := by omega
  clear h0 h1 h2 hi hz0 hz1 hz2
  have hxb : (x != 0) = true := by rw [bne_iff_ne]; exact hx
  have hxe : (x == 0) = false := by simpa using hx
  have hxx : (x != x) = false := by simp
  have HX := Lib.hid hx
  have HE := Lib.hid he
  clear hx he
  go_enter Try.func6, Try.ntmps6
  go_wp2_with fail
  have hck := refCheck_any a0 n0 c0 l0 w HR0.out
  rw [HE.out] at hck
  refine hck.mono ?_
  rintro e w' ⟨rfl, rfl⟩
  clear hck
  have hsz := Nat.le_refl w.heap.size
  go_wp2_with (at_builtin; refine wpList_append_list rfl (.const (.slice none 0 0)) (.tmp 34) 22 rfl w.heap.size 5 i0 (.int .u8 0) 1 Try.underlying22 HI.out HZ0.out HZ1.out HZ2.out rfl .u8 _ 0 [] rfl (World.ownsRow_nil _ _ _ _) a0 n0 c0 l0 rfl HR0.out ?_ ?_ hsz ?_)
  · unfold maxLen; omega
  · omega
  intro v2 w2 hown2 hgrow2
  have hbel2 : Below w.heap.size w w2 := (Below.refl _ _).grown hgrow2 (Nat.le_refl _) (by simp [Value.ownBlock])
  obtain ⟨a2, c2, hv2, r2, _⟩ := ownsRow_rowN .u8 hown2 HR0.out.wf
  have hto : 0 < n0 → ∃ g rest, a2 = some ⟨g, 0, none⟩ ∧ w.heap.size ≤ g ∧ Own w2 g 5 (nums .u8 l0 ++ rest) := by
    intro hp
    obtain ⟨g, c, rest, h1, h2, h3⟩ := ownsRow_own hown2 hp
    rw [hv2] at h1
    simp at h1
    exact ⟨g, rest, h1.1, h2, h3⟩
  obtain ⟨g, rest, hg⟩ : ∃ g rest, 0 < n0 → a2 = some ⟨g, 0, none⟩ ∧ w.heap.size ≤ g ∧ Own w2 g 5 (nums .u8 l0 ++ rest) := by
    by_cases hp : 0 < n0
    · obtain ⟨g, rest, hh⟩ := hto hp
      exact ⟨g, rest, fun _ => hh⟩
    · exact ⟨0, [], fun h => absurd h hp⟩
  subst hv2
  have hr2le := r2.le
  have hr2mx := r2.max
  unfold maxLen at hr2mx
  have B2 := Lib.hid hbel2
  have R2 := Lib.hid r2
  have HG := Lib.hid hg
  clear hown2 hgrow2 hbel2 r2 hto hg hsz
  go_wp2_with fail
  go_loopw [7, 9] (fun v i wr => v = .int .i64 x ∧ i = .int .i64 0 ∧ wr = w2) (fun _ _ _ => 0)
  case atStart => exact ⟨rfl, rfl, rfl⟩
  case round =>
    obtain ⟨rfl, rfl, rfl⟩ := hrel
    go_wp2_with fail
    all_goals
      refine (flip_e a0 ai n0 c0 ni ci l0 li x _ (HR0.out.later B2.out) (HR2.out.later B2.out) (flipErr_of HE.out HX.out) HX.out).mono ?_
      rintro e w3 ⟨rfl, hb⟩
      have BS := Lib.hid (B2.out.trans (hb.mono B2.out.size))
      clear hb
      go_wp2_with fail
      have hck := refCheck_any a0 n0 c0 l0 _ (HR0.out.later BS.out)
      rw [HE.out] at hck
      refine hck.mono ?_
      rintro e w' ⟨rfl, rfl⟩
      clear hck
      go_wp2_with fail
      refine (apart_e a0 a1 n0 c0 n1 c1 l0 l1 x _ (HR0.out.later BS.out) (HR1.out.later BS.out) (apartErr_1 HE.out HX.out) HX.out).mono ?_
      rintro e w' ⟨rfl, rfl⟩
      go_wp2_with fail
      refine (lives_any _).mono ?_
      rintro e w9 ⟨rfl, hb⟩
      have B9 := Lib.hid (BS.out.trans (hb.mono BS.out.size))
      clear hb
      go_wp2
      go_ret
      exact ⟨rfl, B9.out⟩

set_option maxHeartbeats 2000000 in
set_option maxRecDepth 100000 in
theorem flip_case2 (a0 : Option Addr) (n0 c0 : Nat) (l0 : List Int) (a1 : Option Addr) (n1 c1 : Nat) (l1 : List Int) (ai : Option Addr) (ni ci : Nat) (li : List Int) (w : World) (h0 : Row .u8 w a0 n0 c0 l0) (h1 : Row .u8 w a1 n1 c1 l1) (h2 : Row .i64 w ai ni ci li) (hn0 : n0 ≤ 200) (hn1 : n1 ≤ 200) (hn2 : ni ≤ 50) (y : Int) (he : errOf l0 = 0) (hy : errOf l1 = y) (hy0 : y ≠ 0) :
    Calls Try.prog 6 #[.slice a0 n0 c0, .slice a1 n1 c1, .slice ai ni ci] w fun e w' => e = .returned (.bool true) ∧ Below w.heap.size w w' := by
  have hle0 := h0.le
  have hmx0 := h0.max
  have hle1 := h1.le
  have hmx1 := h1.max
  have hle2 := h2.le
  have hmx2 := h2.max
  unfold maxLen at hmx0 hmx1 hmx2
  have HR0 := Lib.hid h0
  have HR1 := Lib.hid h1
  have HR2 := Lib.hid h2
  obtain ⟨i0, hi, hz0, hz1, hz2⟩ := info_parts info8
  have HI := Lib.hid hi
  have HZ0 := Lib.hid hz0
  have HZ1 := Lib.hid hz1
  have HZ2 := Lib.hid hz2
  have hb0 : ¬ (200 : Int) < (n0 : Int) := by omega
  have hb1 : ¬ (200 : Int) < (n1 : Int) := by omega
  have hb2 : ¬ (50 : Int) < (ni : Int) := by omega
  clear h0 h1 h2 hi hz0 hz1 hz2
  have H01 := Lib.hid (HR0.out.bits (errOf_zero he).2)
  have HE := Lib.hid he
  clear he
  have hxb : (y != 0) = true := by rw [bne_iff_ne]; exact hy0
  have hxe : (y == 0) = false := by simpa using hy0
  have hxx : (y != y) = false := by simp
  have HY := Lib.hid hy0
  have HE1 := Lib.hid hy
  clear hy hy0
  go_enter Try.func6, Try.ntmps6
  go_wp2_with fail
  have hck := refCheck_any a0 n0 c0 l0 w HR0.out
  rw [HE.out] at hck
  refine hck.mono ?_
  rintro e w' ⟨rfl, rfl⟩
  clear hck
  have hsz := Nat.le_refl w.heap.size
  go_wp2_with (at_builtin; refine wpList_append_list rfl (.const (.slice none 0 0)) (.tmp 34) 22 rfl w.heap.size 5 i0 (.int .u8 0) 1 Try.underlying22 HI.out HZ0.out HZ1.out HZ2.out rfl .u8 _ 0 [] rfl (World.ownsRow_nil _ _ _ _) a0 n0 c0 l0 rfl HR0.out ?_ ?_ hsz ?_)
  · unfold maxLen; omega
  · omega
  intro v2 w2 hown2 hgrow2
  have hbel2 : Below w.heap.size w w2 := (Below.refl _ _).grown hgrow2 (Nat.le_refl _) (by simp [Value.ownBlock])
  obtain ⟨a2, c2, hv2, r2, _⟩ := ownsRow_rowN .u8 hown2 HR0.out.wf
  have hto : 0 < n0 → ∃ g rest, a2 = some ⟨g, 0, none⟩ ∧ w.heap.size ≤ g ∧ Own w2 g 5 (nums .u8 l0 ++ rest) := by
    intro hp
    obtain ⟨g, c, rest, h1, h2, h3⟩ := ownsRow_own hown2 hp
    rw [hv2] at h1
    simp at h1
    exact ⟨g, rest, h1.1, h2, h3⟩
  obtain ⟨g, rest, hg⟩ : ∃ g rest, 0 < n0 → a2 = some ⟨g, 0, none⟩ ∧ w.heap.size ≤ g ∧ Own w2 g 5 (nums .u8 l0 ++ rest) := by
    by_cases hp : 0 < n0
    · obtain ⟨g, rest, hh⟩ := hto hp
      exact ⟨g, rest, fun _ => hh⟩
    · exact ⟨0, [], fun h => absurd h hp⟩
  subst hv2
  have hr2le := r2.le
  have hr2mx := r2.max
  unfold maxLen at hr2mx
  have B2 := Lib.hid hbel2
  have R2 := Lib.hid r2
  have HG := Lib.hid hg
  clear hown2 hgrow2 hbel2 r2 hto hg hsz
  go_wp2_with fail
  go_loopw [7, 9] (fun v i wr => ∃ k : Nat, ∃ x : Int, ∃ l' : List Int, k ≤ ni ∧ i = .int .i64 k ∧ v = .int .i64 x ∧ Below w.heap.size w wr ∧ l'.length = n0 ∧ (∀ z ∈ l', 0 ≤ z ∧ z ≤ 1) ∧ (0 < n0 → Own wr g 5 (nums .u8 l' ++ rest)) ∧
      ((x = 0 ∧ inside n0 (li.take k) = true ∧ l' = flips l0 (li.take k)) ∨ (x = 1 ∧ inside n0 li = false))) (fun v i _ => 2 * (ni - (intOf i).toNat) + (1 - (intOf v).toNat))
  case atStart => exact ⟨0, 0, l0, Nat.zero_le _, rfl, rfl, B2.out, HR0.out.len, H01.out, fun h => (HG.out h).2.2, .inl ⟨rfl, rfl, rfl⟩⟩
  case round =>
    obtain ⟨k, x, l', hk, rfl, rfl, hbel, hl', hl01, hown, hor⟩ := hrel
    have HBel := Lib.hid hbel
    have HOwn := Lib.hid hown
    have HL' := Lib.hid hl'
    have HL01 := Lib.hid hl01
    clear hbel hown hl' hl01
    rcases hor with ⟨rfl, hin, hfl⟩ | ⟨rfl, hout⟩
    · have HIn := Lib.hid hin
      have HFl := Lib.hid hfl
      clear hin hfl
      by_cases hlt : k < ni
      · obtain ⟨bi, oi, hAi, gi⟩ : ∃ b o, ai = some ⟨b, o, none⟩ ∧ wr.cell? ⟨b, o + k, none⟩ = some (.int .i64 (li.getD k 0)) := by
          rcases (HR2.out.later HBel.out).cells with h0 | ⟨b, o, ha, hc⟩
          · omega
          · exact ⟨b, o, ha, hc k hlt⟩
        subst hAi
        obtain ⟨p, hp⟩ : ∃ p, p = li.getD k 0 := ⟨_, rfl⟩
        rw [← hp] at gi
        have HP := Lib.hid hp
        clear hp
        by_cases hp0 : p < 0
        · have hout : inside n0 li = false := inside_false (k := k) (by rw [HR2.out.len]; exact hlt) (by rw [← HP.out]; exact .inl hp0)
          have HOut := Lib.hid hout
          clear hout
          go_wp2
          exact ⟨⟨k + 1, 1, l', by omega, by go_num, rfl, HBel.out, HL'.out, HL01.out, HOwn.out, .inr ⟨rfl, HOut.out⟩⟩, by simp [intOf]; omega⟩
        · by_cases hp1 : p < (n0 : Int)
          · obtain ⟨pn, rfl⟩ := Int.eq_ofNat_of_zero_le (by omega : 0 ≤ p)
            have hpn : pn < n0 := by omega
            obtain ⟨hA2, hgB, _⟩ := HG.out (by omega)
            subst hA2
            have hcell := (HOwn.out (by omega)).cell pn (by rw [List.length_append, nums_length, HL'.out]; omega)
            have hgd : (nums .u8 l' ++ rest).getD pn undef = .int .u8 (l'.getD pn 0) := by
              rw [List.getD_eq_getElem?_getD, List.getElem?_append_left (by rw [nums_length, HL'.out]; omega), ← List.getD_eq_getElem?_getD, nums_getD _ _ _ (by rw [HL'.out]; omega)]
            rw [hgd] at hcell
            have hfr := (HOwn.out (by omega)).frozen pn
            have hbit := getD_bits HL01.out pn
            obtain ⟨z, hz⟩ : ∃ z, z = l'.getD pn 0 := ⟨_, rfl⟩
            rw [← hz] at hcell hbit
            obtain ⟨hz0, hz1⟩ := hbit
            have HZ := Lib.hid hz
            have hnext : ∀ wr', Own wr' g 5 ((nums .u8 l' ++ rest).set pn (.int .u8 (1 - z))) → Own wr' g 5 (nums .u8 (l'.set pn (1 - z)) ++ rest) := by
              intro wr' h
              rw [List.set_append_left _ _ (by rw [nums_length, HL'.out]; omega), nums_set] at h
              exact h
            have HNext := Lib.hid hnext
            have hlow : ¬ (n0 : Int) ≤ (pn : Int) := by omega
            clear hz hgd hnext
            go_wp2
            go_region
            go_wp2
            refine ⟨⟨k + 1, 0, l'.set pn (1 - z), by omega, by go_num, rfl, (HBel.out.setCell hgB _).drew, by rw [List.length_set]; exact HL'.out, mem_set_bits HL01.out pn _ (by omega), fun _ => HNext.out _ ((HOwn.out (by omega)).set pn _), .inl ⟨rfl, ?_, ?_⟩⟩, by simp [intOf]; omega⟩
            · exact inside_take (by rw [HR2.out.len]; exact hlt) HIn.out (by rw [← HP.out]; omega) (by rw [← HP.out]; exact hp1)
            · rw [take_succ' (by rw [HR2.out.len]; exact hlt), ← HP.out, flips_snoc, Int.toNat_natCast, ← HFl.out, ← HZ.out]
          · have hout : inside n0 li = false := inside_false (k := k) (by rw [HR2.out.len]; exact hlt) (by rw [← HP.out]; exact .inr (by omega))
            have HOut := Lib.hid hout
            have hge : (n0 : Int) ≤ p := by omega
            clear hout
            go_wp2
            exact ⟨⟨k + 1, 1, l', by omega, by go_num, rfl, HBel.out, HL'.out, HL01.out, HOwn.out, .inr ⟨rfl, HOut.out⟩⟩, by simp [intOf]; omega⟩
      · obtain rfl : k = ni := by omega
        have hin : inside n0 li = true := by
          have := HIn.out
          rwa [List.take_of_length_le (by rw [HR2.out.len]; exact Nat.le_refl _)] at this
        have hfl : l' = flips l0 li := by
          have := HFl.out
          rwa [List.take_of_length_le (by rw [HR2.out.len]; exact Nat.le_refl _)] at this
        subst hfl
        have HIns := Lib.hid hin
        clear hin
        go_wp2_with fail
        refine (flip_n a0 ai n0 c0 k ci l0 li (flips l0 li) wr (HR0.out.later HBel.out) (HR2.out.later HBel.out) (flipErr_in HE.out HR0.out.len HIns.out) rfl).mono ?_
        rintro e w3 ⟨⟨gl, rfl, rl, _⟩, hb⟩
        have B3 := Lib.hid (HBel.out.trans (hb.mono HBel.out.size))
        have RL := Lib.hid rl
        have hown3 : Row .u8 w3 a2 n0 c2 (flips l0 li) := by
          refine ⟨HL'.out, hr2le, by unfold maxLen; omega, fun x hx => wf_u8.2 (by have := HL01.out x hx; omega), ?_, R2.out.isNil⟩
          by_cases hp : 0 < n0
          · obtain ⟨ha, hgB, _⟩ := HG.out hp
            refine .inr ⟨g, 0, ha, fun i hi => ?_⟩
            have ho := HOwn.out hp
            rw [Nat.zero_add, hb.cell (p := ⟨g, i, none⟩) ho.lt, ho.cell i (by rw [List.length_append, nums_length, HL'.out]; omega),
              List.getD_eq_getElem?_getD, List.getElem?_append_left (by rw [nums_length, HL'.out]; omega), ← List.getD_eq_getElem?_getD, nums_getD _ _ _ (by rw [HL'.out]; omega)]
          · exact .inl (by omega)
        have RT := Lib.hid hown3
        clear hb rl hown3
        go_wp2_with fail
        refine (bytes_yes _ a2 n0 n0 c2 (flips l0 li) w3 RL.out RT.out).mono ?_
        rintro e w' ⟨rfl, q4, rfl⟩
        have hb4 := below_draw w3 q4
        obtain ⟨w4, hw4⟩ : ∃ x, x = w3.drewN q4 := ⟨_, rfl⟩
        rw [← hw4] at hb4 ⊢
        have BS := Lib.hid (B3.out.trans (hb4.mono B3.out.size))
        clear hb4 hw4 B3 RL RT HBel
        go_wp2_with fail
        have hck := refCheck_any a0 n0 c0 l0 _ (HR0.out.later BS.out)
        rw [HE.out] at hck
        refine hck.mono ?_
        rintro e w' ⟨rfl, rfl⟩
        clear hck
        go_wp2_with fail
        have hck := refCheck_any a1 n1 c1 l1 _ (HR1.out.later BS.out)
        rw [HE1.out] at hck
        refine hck.mono ?_
        rintro e w' ⟨rfl, rfl⟩
        clear hck
        go_wp2_with fail
        refine (apart_e a0 a1 n0 c0 n1 c1 l0 l1 y _ (HR0.out.later BS.out) (HR1.out.later BS.out) (apartErr_2 HE.out HE1.out HY.out) HY.out).mono ?_
        rintro e w' ⟨rfl, rfl⟩
        go_wp2_with fail
        refine (lives_any _).mono ?_
        rintro e w9 ⟨rfl, hb⟩
        have B9 := Lib.hid (BS.out.trans (hb.mono BS.out.size))
        clear hb
        go_wp2
        go_ret
        exact ⟨rfl, B9.out⟩
    · have HOut := Lib.hid hout
      clear hout
      go_wp2_with fail
      all_goals
        refine (flip_e a0 ai n0 c0 ni ci l0 li 1 _ (HR0.out.later HBel.out) (HR2.out.later HBel.out) (flipErr_out HE.out HR0.out.len HOut.out) (by decide)).mono ?_
        rintro e w3 ⟨rfl, hb⟩
        have BS := Lib.hid (HBel.out.trans (hb.mono HBel.out.size))
        clear hb HBel
        go_wp2_with fail
        have hck := refCheck_any a0 n0 c0 l0 _ (HR0.out.later BS.out)
        rw [HE.out] at hck
        refine hck.mono ?_
        rintro e w' ⟨rfl, rfl⟩
        clear hck
        go_wp2_with fail
        have hck := refCheck_any a1 n1 c1 l1 _ (HR1.out.later BS.out)
        rw [HE1.out] at hck
        refine hck.mono ?_
        rintro e w' ⟨rfl, rfl⟩
        clear hck
        go_wp2_with fail
        refine (apart_e a0 a1 n0 c0 n1 c1 l0 l1 y _ (HR0.out.later BS.out) (HR1.out.later BS.out) (apartErr_2 HE.out HE1.out HY.out) HY.out).mono ?_
        rintro e w' ⟨rfl, rfl⟩
        go_wp2_with fail
        refine (lives_any _).mono ?_
        rintro e w9 ⟨rfl, hb⟩
        have B9 := Lib.hid (BS.out.trans (hb.mono BS.out.size))
        clear hb
        go_wp2
        go_ret
        exact ⟨rfl, B9.out⟩

set_option maxHeartbeats 2000000 in
set_option maxRecDepth 100000 in
theorem flip_case3 (a0 : Option Addr) (n0 c0 : Nat) (l0 : List Int) (a1 : Option Addr) (n1 c1 : Nat) (l1 : List Int) (ai : Option Addr) (ni ci : Nat) (li : List Int) (w : World) (h0 : Row .u8 w a0 n0 c0 l0) (h1 : Row .u8 w a1 n1 c1 l1) (h2 : Row .i64 w ai ni ci li) (hn0 : n0 ≤ 200) (hn1 : n1 ≤ 200) (hn2 : ni ≤ 50) (he : errOf l0 = 0) (hy : errOf l1 = 0) (hne : n0 ≠ n1) :
    Calls Try.prog 6 #[.slice a0 n0 c0, .slice a1 n1 c1, .slice ai ni ci] w fun e w' => e = .returned (.bool true) ∧ Below w.heap.size w w' := by
  have hle0 := h0.le
  have hmx0 := h0.max
  have hle1 := h1.le
  have hmx1 := h1.max
  have hle2 := h2.le
  have hmx2 := h2.max
  unfold maxLen at hmx0 hmx1 hmx2
  have HR0 := Lib.hid h0
  have HR1 := Lib.hid h1
  have HR2 := Lib.hid h2
  obtain ⟨i0, hi, hz0, hz1, hz2⟩ := info_parts info8
  have HI := Lib.hid hi
  have HZ0 := Lib.hid hz0
  have HZ1 := Lib.hid hz1
  have HZ2 := Lib.hid hz2
  have hb0 : ¬ (200 : Int) < (n0 : Int) := by omega
  have hb1 : ¬ (200 : Int) < (n1 : Int) := by omega
  have hb2 : ¬ (50 : Int) < (ni : Int) := by omega
  clear h0 h1 h2 hi hz0 hz1 hz2
  have H01 := Lib.hid (HR0.out.bits (errOf_zero he).2)
  have HE := Lib.hid he
  clear he
  have hnn : ((n0 : Int) != (n1 : Int)) = true := by rw [bne_iff_ne]; omega
  have HN := Lib.hid hne
  have HE1 := Lib.hid hy
  clear hy hne
  go_enter Try.func6, Try.ntmps6
  go_wp2_with fail
  have hck := refCheck_any a0 n0 c0 l0 w HR0.out
  rw [HE.out] at hck
  refine hck.mono ?_
  rintro e w' ⟨rfl, rfl⟩
  clear hck
  have hsz := Nat.le_refl w.heap.size
  go_wp2_with (at_builtin; refine wpList_append_list rfl (.const (.slice none 0 0)) (.tmp 34) 22 rfl w.heap.size 5 i0 (.int .u8 0) 1 Try.underlying22 HI.out HZ0.out HZ1.out HZ2.out rfl .u8 _ 0 [] rfl (World.ownsRow_nil _ _ _ _) a0 n0 c0 l0 rfl HR0.out ?_ ?_ hsz ?_)
  · unfold maxLen; omega
  · omega
  intro v2 w2 hown2 hgrow2
  have hbel2 : Below w.heap.size w w2 := (Below.refl _ _).grown hgrow2 (Nat.le_refl _) (by simp [Value.ownBlock])
  obtain ⟨a2, c2, hv2, r2, _⟩ := ownsRow_rowN .u8 hown2 HR0.out.wf
  have hto : 0 < n0 → ∃ g rest, a2 = some ⟨g, 0, none⟩ ∧ w.heap.size ≤ g ∧ Own w2 g 5 (nums .u8 l0 ++ rest) := by
    intro hp
    obtain ⟨g, c, rest, h1, h2, h3⟩ := ownsRow_own hown2 hp
    rw [hv2] at h1
    simp at h1
    exact ⟨g, rest, h1.1, h2, h3⟩
  obtain ⟨g, rest, hg⟩ : ∃ g rest, 0 < n0 → a2 = some ⟨g, 0, none⟩ ∧ w.heap.size ≤ g ∧ Own w2 g 5 (nums .u8 l0 ++ rest) := by
    by_cases hp : 0 < n0
    · obtain ⟨g, rest, hh⟩ := hto hp
      exact ⟨g, rest, fun _ => hh⟩
    · exact ⟨0, [], fun h => absurd h hp⟩
  subst hv2
  have hr2le := r2.le
  have hr2mx := r2.max
  unfold maxLen at hr2mx
  have B2 := Lib.hid hbel2
  have R2 := Lib.hid r2
  have HG := Lib.hid hg
  clear hown2 hgrow2 hbel2 r2 hto hg hsz
  go_wp2_with fail
  go_loopw [7, 9] (fun v i wr => ∃ k : Nat, ∃ x : Int, ∃ l' : List Int, k ≤ ni ∧ i = .int .i64 k ∧ v = .int .i64 x ∧ Below w.heap.size w wr ∧ l'.length = n0 ∧ (∀ z ∈ l', 0 ≤ z ∧ z ≤ 1) ∧ (0 < n0 → Own wr g 5 (nums .u8 l' ++ rest)) ∧
      ((x = 0 ∧ inside n0 (li.take k) = true ∧ l' = flips l0 (li.take k)) ∨ (x = 1 ∧ inside n0 li = false))) (fun v i _ => 2 * (ni - (intOf i).toNat) + (1 - (intOf v).toNat))
  case atStart => exact ⟨0, 0, l0, Nat.zero_le _, rfl, rfl, B2.out, HR0.out.len, H01.out, fun h => (HG.out h).2.2, .inl ⟨rfl, rfl, rfl⟩⟩
  case round =>
    obtain ⟨k, x, l', hk, rfl, rfl, hbel, hl', hl01, hown, hor⟩ := hrel
    have HBel := Lib.hid hbel
    have HOwn := Lib.hid hown
    have HL' := Lib.hid hl'
    have HL01 := Lib.hid hl01
    clear hbel hown hl' hl01
    rcases hor with ⟨rfl, hin, hfl⟩ | ⟨rfl, hout⟩
    · have HIn := Lib.hid hin
      have HFl := Lib.hid hfl
      clear hin hfl
      by_cases hlt : k < ni
      · obtain ⟨bi, oi, hAi, gi⟩ : ∃ b o, ai = some ⟨b, o, none⟩ ∧ wr.cell? ⟨b, o + k, none⟩ = some (.int .i64 (li.getD k 0)) := by
          rcases (HR2.out.later HBel.out).cells with h0 | ⟨b, o, ha, hc⟩
          · omega
          · exact ⟨b, o, ha, hc k hlt⟩
        subst hAi
        obtain ⟨p, hp⟩ : ∃ p, p = li.getD k 0 := ⟨_, rfl⟩
        rw [← hp] at gi
        have HP := Lib.hid hp
        clear hp
        by_cases hp0 : p < 0
        · have hout : inside n0 li = false := inside_false (k := k) (by rw [HR2.out.len]; exact hlt) (by rw [← HP.out]; exact .inl hp0)
          have HOut := Lib.hid hout
          clear hout
          go_wp2
          exact ⟨⟨k + 1, 1, l', by omega, by go_num, rfl, HBel.out, HL'.out, HL01.out, HOwn.out, .inr ⟨rfl, HOut.out⟩⟩, by simp [intOf]; omega⟩
        · by_cases hp1 : p < (n0 : Int)
          · obtain ⟨pn, rfl⟩ := Int.eq_ofNat_of_zero_le (by omega : 0 ≤ p)
            have hpn : pn < n0 := by omega
            obtain ⟨hA2, hgB, _⟩ := HG.out (by omega)
            subst hA2
            have hcell := (HOwn.out (by omega)).cell pn (by rw [List.length_append, nums_length, HL'.out]; omega)
            have hgd : (nums .u8 l' ++ rest).getD pn undef = .int .u8 (l'.getD pn 0) := by
              rw [List.getD_eq_getElem?_getD, List.getElem?_append_left (by rw [nums_length, HL'.out]; omega), ← List.getD_eq_getElem?_getD, nums_getD _ _ _ (by rw [HL'.out]; omega)]
            rw [hgd] at hcell
            have hfr := (HOwn.out (by omega)).frozen pn
            have hbit := getD_bits HL01.out pn
            obtain ⟨z, hz⟩ : ∃ z, z = l'.getD pn 0 := ⟨_, rfl⟩
            rw [← hz] at hcell hbit
            obtain ⟨hz0, hz1⟩ := hbit
            have HZ := Lib.hid hz
            have hnext : ∀ wr', Own wr' g 5 ((nums .u8 l' ++ rest).set pn (.int .u8 (1 - z))) → Own wr' g 5 (nums .u8 (l'.set pn (1 - z)) ++ rest) := by
              intro wr' h
              rw [List.set_append_left _ _ (by rw [nums_length, HL'.out]; omega), nums_set] at h
              exact h
            have HNext := Lib.hid hnext
            have hlow : ¬ (n0 : Int) ≤ (pn : Int) := by omega
            clear hz hgd hnext
            go_wp2
            go_region
            go_wp2
            refine ⟨⟨k + 1, 0, l'.set pn (1 - z), by omega, by go_num, rfl, (HBel.out.setCell hgB _).drew, by rw [List.length_set]; exact HL'.out, mem_set_bits HL01.out pn _ (by omega), fun _ => HNext.out _ ((HOwn.out (by omega)).set pn _), .inl ⟨rfl, ?_, ?_⟩⟩, by simp [intOf]; omega⟩
            · exact inside_take (by rw [HR2.out.len]; exact hlt) HIn.out (by rw [← HP.out]; omega) (by rw [← HP.out]; exact hp1)
            · rw [take_succ' (by rw [HR2.out.len]; exact hlt), ← HP.out, flips_snoc, Int.toNat_natCast, ← HFl.out, ← HZ.out]
          · have hout : inside n0 li = false := inside_false (k := k) (by rw [HR2.out.len]; exact hlt) (by rw [← HP.out]; exact .inr (by omega))
            have HOut := Lib.hid hout
            have hge : (n0 : Int) ≤ p := by omega
            clear hout
            go_wp2
            exact ⟨⟨k + 1, 1, l', by omega, by go_num, rfl, HBel.out, HL'.out, HL01.out, HOwn.out, .inr ⟨rfl, HOut.out⟩⟩, by simp [intOf]; omega⟩
      · obtain rfl : k = ni := by omega
        have hin : inside n0 li = true := by
          have := HIn.out
          rwa [List.take_of_length_le (by rw [HR2.out.len]; exact Nat.le_refl _)] at this
        have hfl : l' = flips l0 li := by
          have := HFl.out
          rwa [List.take_of_length_le (by rw [HR2.out.len]; exact Nat.le_refl _)] at this
        subst hfl
        have HIns := Lib.hid hin
        clear hin
        go_wp2_with fail
        refine (flip_n a0 ai n0 c0 k ci l0 li (flips l0 li) wr (HR0.out.later HBel.out) (HR2.out.later HBel.out) (flipErr_in HE.out HR0.out.len HIns.out) rfl).mono ?_
        rintro e w3 ⟨⟨gl, rfl, rl, _⟩, hb⟩
        have B3 := Lib.hid (HBel.out.trans (hb.mono HBel.out.size))
        have RL := Lib.hid rl
        have hown3 : Row .u8 w3 a2 n0 c2 (flips l0 li) := by
          refine ⟨HL'.out, hr2le, by unfold maxLen; omega, fun x hx => wf_u8.2 (by have := HL01.out x hx; omega), ?_, R2.out.isNil⟩
          by_cases hp : 0 < n0
          · obtain ⟨ha, hgB, _⟩ := HG.out hp
            refine .inr ⟨g, 0, ha, fun i hi => ?_⟩
            have ho := HOwn.out hp
            rw [Nat.zero_add, hb.cell (p := ⟨g, i, none⟩) ho.lt, ho.cell i (by rw [List.length_append, nums_length, HL'.out]; omega),
              List.getD_eq_getElem?_getD, List.getElem?_append_left (by rw [nums_length, HL'.out]; omega), ← List.getD_eq_getElem?_getD, nums_getD _ _ _ (by rw [HL'.out]; omega)]
          · exact .inl (by omega)
        have RT := Lib.hid hown3
        clear hb rl hown3
        go_wp2_with fail
        refine (bytes_yes _ a2 n0 n0 c2 (flips l0 li) w3 RL.out RT.out).mono ?_
        rintro e w' ⟨rfl, q4, rfl⟩
        have hb4 := below_draw w3 q4
        obtain ⟨w4, hw4⟩ : ∃ x, x = w3.drewN q4 := ⟨_, rfl⟩
        rw [← hw4] at hb4 ⊢
        have BS := Lib.hid (B3.out.trans (hb4.mono B3.out.size))
        clear hb4 hw4 B3 RL RT HBel
        go_wp2_with fail
        have hck := refCheck_any a0 n0 c0 l0 _ (HR0.out.later BS.out)
        rw [HE.out] at hck
        refine hck.mono ?_
        rintro e w' ⟨rfl, rfl⟩
        clear hck
        go_wp2_with fail
        have hck := refCheck_any a1 n1 c1 l1 _ (HR1.out.later BS.out)
        rw [HE1.out] at hck
        refine hck.mono ?_
        rintro e w' ⟨rfl, rfl⟩
        clear hck
        go_wp2_with fail
        refine (apart_e a0 a1 n0 c0 n1 c1 l0 l1 5 _ (HR0.out.later BS.out) (HR1.out.later BS.out) (apartErr_5 HE.out HE1.out (by rw [HR0.out.len, HR1.out.len]; exact HN.out)) (by decide)).mono ?_
        rintro e w' ⟨rfl, rfl⟩
        go_wp2_with fail
        refine (lives_any _).mono ?_
        rintro e w9 ⟨rfl, hb⟩
        have B9 := Lib.hid (BS.out.trans (hb.mono BS.out.size))
        clear hb
        go_wp2
        go_ret
        exact ⟨rfl, B9.out⟩
    · have HOut := Lib.hid hout
      clear hout
      go_wp2_with fail
      all_goals
        refine (flip_e a0 ai n0 c0 ni ci l0 li 1 _ (HR0.out.later HBel.out) (HR2.out.later HBel.out) (flipErr_out HE.out HR0.out.len HOut.out) (by decide)).mono ?_
        rintro e w3 ⟨rfl, hb⟩
        have BS := Lib.hid (HBel.out.trans (hb.mono HBel.out.size))
        clear hb HBel
        go_wp2_with fail
        have hck := refCheck_any a0 n0 c0 l0 _ (HR0.out.later BS.out)
        rw [HE.out] at hck
        refine hck.mono ?_
        rintro e w' ⟨rfl, rfl⟩
        clear hck
        go_wp2_with fail
        have hck := refCheck_any a1 n1 c1 l1 _ (HR1.out.later BS.out)
        rw [HE1.out] at hck
        refine hck.mono ?_
        rintro e w' ⟨rfl, rfl⟩
        clear hck
        go_wp2_with fail
        refine (apart_e a0 a1 n0 c0 n1 c1 l0 l1 5 _ (HR0.out.later BS.out) (HR1.out.later BS.out) (apartErr_5 HE.out HE1.out (by rw [HR0.out.len, HR1.out.len]; exact HN.out)) (by decide)).mono ?_
        rintro e w' ⟨rfl, rfl⟩
        go_wp2_with fail
        refine (lives_any _).mono ?_
        rintro e w9 ⟨rfl, hb⟩
        have B9 := Lib.hid (BS.out.trans (hb.mono BS.out.size))
        clear hb
        go_wp2
        go_ret
        exact ⟨rfl, B9.out⟩

set_option maxHeartbeats 2000000 in
set_option maxRecDepth 100000 in
theorem flip_case4 (a0 : Option Addr) (n0 c0 : Nat) (l0 : List Int) (a1 : Option Addr) (c1 : Nat) (l1 : List Int) (ai : Option Addr) (ni ci : Nat) (li : List Int) (w : World) (h0 : Row .u8 w a0 n0 c0 l0) (h1 : Row .u8 w a1 n0 c1 l1) (h2 : Row .i64 w ai ni ci li) (hn0 : n0 ≤ 200) (hn2 : ni ≤ 50) (m : Nat) (d : List Int) (he : errOf l0 = 0) (hy : errOf l1 = 0) (hd : diffs l0 l1 l0.length = d) (hm : d.length = m) :
    Calls Try.prog 6 #[.slice a0 n0 c0, .slice a1 n0 c1, .slice ai ni ci] w fun e w' => e = .returned (.bool true) ∧ Below w.heap.size w w' := by
  have hle0 := h0.le
  have hmx0 := h0.max
  have hle1 := h1.le
  have hmx1 := h1.max
  have hle2 := h2.le
  have hmx2 := h2.max
  unfold maxLen at hmx0 hmx1 hmx2
  have HR0 := Lib.hid h0
  have HR1 := Lib.hid h1
  have HR2 := Lib.hid h2
  obtain ⟨i0, hi, hz0, hz1, hz2⟩ := info_parts info8
  have HI := Lib.hid hi
  have HZ0 := Lib.hid hz0
  have HZ1 := Lib.hid hz1
  have HZ2 := Lib.hid hz2
  have hb0 : ¬ (200 : Int) < (n0 : Int) := by omega
  have hb2 : ¬ (50 : Int) < (ni : Int) := by omega
  clear h0 h1 h2 hi hz0 hz1 hz2
  have H01 := Lib.hid (HR0.out.bits (errOf_zero he).2)
  have HE := Lib.hid he
  clear he
  have HE1 := Lib.hid hy
  have HD := Lib.hid hd
  have HM := Lib.hid hm
  have hmle : m ≤ n0 := by
    have := diffs_length l0 l1 l0.length
    rw [hd, hm, HR0.out.len] at this
    exact this
  have hnn : ((n0 : Int) != (n0 : Int)) = false := by simp
  have hmm : ((m : Int) == (m : Int)) = true := by simp
  clear hy hd hm
  go_enter Try.func6, Try.ntmps6
  go_wp2_with fail
  have hck := refCheck_any a0 n0 c0 l0 w HR0.out
  rw [HE.out] at hck
  refine hck.mono ?_
  rintro e w' ⟨rfl, rfl⟩
  clear hck
  have hsz := Nat.le_refl w.heap.size
  go_wp2_with (at_builtin; refine wpList_append_list rfl (.const (.slice none 0 0)) (.tmp 34) 22 rfl w.heap.size 5 i0 (.int .u8 0) 1 Try.underlying22 HI.out HZ0.out HZ1.out HZ2.out rfl .u8 _ 0 [] rfl (World.ownsRow_nil _ _ _ _) a0 n0 c0 l0 rfl HR0.out ?_ ?_ hsz ?_)
  · unfold maxLen; omega
  · omega
  intro v2 w2 hown2 hgrow2
  have hbel2 : Below w.heap.size w w2 := (Below.refl _ _).grown hgrow2 (Nat.le_refl _) (by simp [Value.ownBlock])
  obtain ⟨a2, c2, hv2, r2, _⟩ := ownsRow_rowN .u8 hown2 HR0.out.wf
  have hto : 0 < n0 → ∃ g rest, a2 = some ⟨g, 0, none⟩ ∧ w.heap.size ≤ g ∧ Own w2 g 5 (nums .u8 l0 ++ rest) := by
    intro hp
    obtain ⟨g, c, rest, h1, h2, h3⟩ := ownsRow_own hown2 hp
    rw [hv2] at h1
    simp at h1
    exact ⟨g, rest, h1.1, h2, h3⟩
  obtain ⟨g, rest, hg⟩ : ∃ g rest, 0 < n0 → a2 = some ⟨g, 0, none⟩ ∧ w.heap.size ≤ g ∧ Own w2 g 5 (nums .u8 l0 ++ rest) := by
    by_cases hp : 0 < n0
    · obtain ⟨g, rest, hh⟩ := hto hp
      exact ⟨g, rest, fun _ => hh⟩
    · exact ⟨0, [], fun h => absurd h hp⟩
  subst hv2
  have hr2le := r2.le
  have hr2mx := r2.max
  unfold maxLen at hr2mx
  have B2 := Lib.hid hbel2
  have R2 := Lib.hid r2
  have HG := Lib.hid hg
  clear hown2 hgrow2 hbel2 r2 hto hg hsz
  go_wp2_with fail
  go_loopw [7, 9] (fun v i wr => ∃ k : Nat, ∃ x : Int, ∃ l' : List Int, k ≤ ni ∧ i = .int .i64 k ∧ v = .int .i64 x ∧ Below w.heap.size w wr ∧ l'.length = n0 ∧ (∀ z ∈ l', 0 ≤ z ∧ z ≤ 1) ∧ (0 < n0 → Own wr g 5 (nums .u8 l' ++ rest)) ∧
      ((x = 0 ∧ inside n0 (li.take k) = true ∧ l' = flips l0 (li.take k)) ∨ (x = 1 ∧ inside n0 li = false))) (fun v i _ => 2 * (ni - (intOf i).toNat) + (1 - (intOf v).toNat))
  case atStart => exact ⟨0, 0, l0, Nat.zero_le _, rfl, rfl, B2.out, HR0.out.len, H01.out, fun h => (HG.out h).2.2, .inl ⟨rfl, rfl, rfl⟩⟩
  case round =>
    obtain ⟨k, x, l', hk, rfl, rfl, hbel, hl', hl01, hown, hor⟩ := hrel
    have HBel := Lib.hid hbel
    have HOwn := Lib.hid hown
    have HL' := Lib.hid hl'
    have HL01 := Lib.hid hl01
    clear hbel hown hl' hl01
    rcases hor with ⟨rfl, hin, hfl⟩ | ⟨rfl, hout⟩
    · have HIn := Lib.hid hin
      have HFl := Lib.hid hfl
      clear hin hfl
      by_cases hlt : k < ni
      · obtain ⟨bi, oi, hAi, gi⟩ : ∃ b o, ai = some ⟨b, o, none⟩ ∧ wr.cell? ⟨b, o + k, none⟩ = some (.int .i64 (li.getD k 0)) := by
          rcases (HR2.out.later HBel.out).cells with h0 | ⟨b, o, ha, hc⟩
          · omega
          · exact ⟨b, o, ha, hc k hlt⟩
        subst hAi
        obtain ⟨p, hp⟩ : ∃ p, p = li.getD k 0 := ⟨_, rfl⟩
        rw [← hp] at gi
        have HP := Lib.hid hp
        clear hp
        by_cases hp0 : p < 0
        · have hout : inside n0 li = false := inside_false (k := k) (by rw [HR2.out.len]; exact hlt) (by rw [← HP.out]; exact .inl hp0)
          have HOut := Lib.hid hout
          clear hout
          go_wp2
          exact ⟨⟨k + 1, 1, l', by omega, by go_num, rfl, HBel.out, HL'.out, HL01.out, HOwn.out, .inr ⟨rfl, HOut.out⟩⟩, by simp [intOf]; omega⟩
        · by_cases hp1 : p < (n0 : Int)
          · obtain ⟨pn, rfl⟩ := Int.eq_ofNat_of_zero_le (by omega : 0 ≤ p)
            have hpn : pn < n0 := by omega
            obtain ⟨hA2, hgB, _⟩ := HG.out (by omega)
            subst hA2
            have hcell := (HOwn.out (by omega)).cell pn (by rw [List.length_append, nums_length, HL'.out]; omega)
            have hgd : (nums .u8 l' ++ rest).getD pn undef = .int .u8 (l'.getD pn 0) := by
              rw [List.getD_eq_getElem?_getD, List.getElem?_append_left (by rw [nums_length, HL'.out]; omega), ← List.getD_eq_getElem?_getD, nums_getD _ _ _ (by rw [HL'.out]; omega)]
            rw [hgd] at hcell
            have hfr := (HOwn.out (by omega)).frozen pn
            have hbit := getD_bits HL01.out pn
            obtain ⟨z, hz⟩ : ∃ z, z = l'.getD pn 0 := ⟨_, rfl⟩
            rw [← hz] at hcell hbit
            obtain ⟨hz0, hz1⟩ := hbit
            have HZ := Lib.hid hz
            have hnext : ∀ wr', Own wr' g 5 ((nums .u8 l' ++ rest).set pn (.int .u8 (1 - z))) → Own wr' g 5 (nums .u8 (l'.set pn (1 - z)) ++ rest) := by
              intro wr' h
              rw [List.set_append_left _ _ (by rw [nums_length, HL'.out]; omega), nums_set] at h
              exact h
            have HNext := Lib.hid hnext
            have hlow : ¬ (n0 : Int) ≤ (pn : Int) := by omega
            clear hz hgd hnext
            go_wp2
            go_region
            go_wp2
            refine ⟨⟨k + 1, 0, l'.set pn (1 - z), by omega, by go_num, rfl, (HBel.out.setCell hgB _).drew, by rw [List.length_set]; exact HL'.out, mem_set_bits HL01.out pn _ (by omega), fun _ => HNext.out _ ((HOwn.out (by omega)).set pn _), .inl ⟨rfl, ?_, ?_⟩⟩, by simp [intOf]; omega⟩
            · exact inside_take (by rw [HR2.out.len]; exact hlt) HIn.out (by rw [← HP.out]; omega) (by rw [← HP.out]; exact hp1)
            · rw [take_succ' (by rw [HR2.out.len]; exact hlt), ← HP.out, flips_snoc, Int.toNat_natCast, ← HFl.out, ← HZ.out]
          · have hout : inside n0 li = false := inside_false (k := k) (by rw [HR2.out.len]; exact hlt) (by rw [← HP.out]; exact .inr (by omega))
            have HOut := Lib.hid hout
            have hge : (n0 : Int) ≤ p := by omega
            clear hout
            go_wp2
            exact ⟨⟨k + 1, 1, l', by omega, by go_num, rfl, HBel.out, HL'.out, HL01.out, HOwn.out, .inr ⟨rfl, HOut.out⟩⟩, by simp [intOf]; omega⟩
      · obtain rfl : k = ni := by omega
        have hin : inside n0 li = true := by
          have := HIn.out
          rwa [List.take_of_length_le (by rw [HR2.out.len]; exact Nat.le_refl _)] at this
        have hfl : l' = flips l0 li := by
          have := HFl.out
          rwa [List.take_of_length_le (by rw [HR2.out.len]; exact Nat.le_refl _)] at this
        subst hfl
        have HIns := Lib.hid hin
        clear hin
        go_wp2_with fail
        refine (flip_n a0 ai n0 c0 k ci l0 li (flips l0 li) wr (HR0.out.later HBel.out) (HR2.out.later HBel.out) (flipErr_in HE.out HR0.out.len HIns.out) rfl).mono ?_
        rintro e w3 ⟨⟨gl, rfl, rl, _⟩, hb⟩
        have B3 := Lib.hid (HBel.out.trans (hb.mono HBel.out.size))
        have RL := Lib.hid rl
        have hown3 : Row .u8 w3 a2 n0 c2 (flips l0 li) := by
          refine ⟨HL'.out, hr2le, by unfold maxLen; omega, fun x hx => wf_u8.2 (by have := HL01.out x hx; omega), ?_, R2.out.isNil⟩
          by_cases hp : 0 < n0
          · obtain ⟨ha, hgB, _⟩ := HG.out hp
            refine .inr ⟨g, 0, ha, fun i hi => ?_⟩
            have ho := HOwn.out hp
            rw [Nat.zero_add, hb.cell (p := ⟨g, i, none⟩) ho.lt, ho.cell i (by rw [List.length_append, nums_length, HL'.out]; omega),
              List.getD_eq_getElem?_getD, List.getElem?_append_left (by rw [nums_length, HL'.out]; omega), ← List.getD_eq_getElem?_getD, nums_getD _ _ _ (by rw [HL'.out]; omega)]
          · exact .inl (by omega)
        have RT := Lib.hid hown3
        clear hb rl hown3
        go_wp2_with fail
        refine (bytes_yes _ a2 n0 n0 c2 (flips l0 li) w3 RL.out RT.out).mono ?_
        rintro e w' ⟨rfl, q4, rfl⟩
        have hb4 := below_draw w3 q4
        obtain ⟨w4, hw4⟩ : ∃ x, x = w3.drewN q4 := ⟨_, rfl⟩
        rw [← hw4] at hb4 ⊢
        have BS := Lib.hid (B3.out.trans (hb4.mono B3.out.size))
        clear hb4 hw4 B3 RL RT HBel
        go_wp2_with fail
        have hck := refCheck_any a0 n0 c0 l0 _ (HR0.out.later BS.out)
        rw [HE.out] at hck
        refine hck.mono ?_
        rintro e w' ⟨rfl, rfl⟩
        clear hck
        go_wp2_with fail
        have hck := refCheck_any a1 n0 c1 l1 _ (HR1.out.later BS.out)
        rw [HE1.out] at hck
        refine hck.mono ?_
        rintro e w' ⟨rfl, rfl⟩
        clear hck
        go_wp2_with fail
        refine (apart_n a0 a1 n0 c0 n0 c1 m l0 l1 d _ (HR0.out.later BS.out) (HR1.out.later BS.out) (apartErr_0 HE.out HE1.out (by rw [HR0.out.len, HR1.out.len])) HD.out HM.out).mono ?_
        rintro e w5 ⟨⟨ad, rfl, rd⟩, hb⟩
        have B5 := Lib.hid (BS.out.trans (hb.mono BS.out.size))
        have RD := Lib.hid rd
        clear hb rd
        go_wp2_with fail
        go_loopw [14, 15] (fun kk i wr => ∃ k j q : Nat, k ≤ n0 ∧ j ≤ m ∧ i = .int .i64 k ∧ kk = .int .i64 j ∧ wr = w5.drewN q ∧ j = (diffs l0 l1 k).length) (fun _ i _ => n0 - (intOf i).toNat)
        case atStart => exact ⟨0, 0, 0, Nat.zero_le _, Nat.zero_le _, rfl, rfl, rfl, rfl⟩
        case round =>
          obtain ⟨k, j, q, hk, hj, rfl, rfl, rfl, hjd⟩ := hrel
          by_cases hlt : k < n0
          · obtain ⟨b1, o1, hA0, g1⟩ : ∃ b o, a0 = some ⟨b, o, none⟩ ∧ w5.cell? ⟨b, o + k, none⟩ = some (.int .u8 (l0.getD k 0)) := by
              rcases (HR0.out.later B5.out).cells with h0 | ⟨b, o, ha, hc⟩
              · omega
              · exact ⟨b, o, ha, hc k hlt⟩
            obtain ⟨b2, o2, hA1, g2⟩ : ∃ b o, a1 = some ⟨b, o, none⟩ ∧ w5.cell? ⟨b, o + k, none⟩ = some (.int .u8 (l1.getD k 0)) := by
              rcases (HR1.out.later B5.out).cells with h0 | ⟨b, o, ha, hc⟩
              · omega
              · exact ⟨b, o, ha, hc k hlt⟩
            subst hA0 hA1
            obtain ⟨z, hz⟩ : ∃ z, z = l0.getD k 0 := ⟨_, rfl⟩
            obtain ⟨y, hy⟩ : ∃ y, y = l1.getD k 0 := ⟨_, rfl⟩
            rw [← hz] at g1
            rw [← hy] at g2
            by_cases hzy : z = y
            · have hne : (z != y) = false := by simp [hzy]
              have hjd' : j = (diffs l0 l1 (k + 1)).length := by rw [diffs_no (by rw [← hz, ← hy]; exact hzy)]; exact hjd
              have HJ := Lib.hid hjd'
              clear hjd hjd' hz hy hzy
              go_wp2
              go_quiet (fail)
              go_wp2
              exact ⟨⟨k + 1, j, q + nq, by omega, hj, by go_num, rfl, by simp [World.drewN], HJ.out⟩, by simp [intOf]; omega⟩
            · have hne : (z != y) = true := by simp [hzy]
              have hdd : l0.getD k 0 ≠ l1.getD k 0 := by rw [← hz, ← hy]; exact hzy
              have hat := diffs_at hlt hdd
              have hnn : l0.length = n0 := HR0.out.len
              have hDD := HD.out
              rw [hnn] at hDD
              rw [hDD, ← hjd, HM.out] at hat
              obtain ⟨hat1, hat2⟩ := hat
              have hjd' : j + 1 = (diffs l0 l1 (k + 1)).length := by rw [diffs_yes hdd, List.length_append, ← hjd]; rfl
              obtain ⟨bd, od, hAd, gd⟩ : ∃ b o, ad = some ⟨b, o, none⟩ ∧ w5.cell? ⟨b, o + j, none⟩ = some (.int .i64 k) := by
                rcases RD.out.cells with h0 | ⟨b, o, ha, hc⟩
                · omega
                · have := hc j hat1
                  rw [hat2] at this
                  exact ⟨b, o, ha, this⟩
              subst hAd
              have hge : ¬ (m : Int) ≤ (j : Int) := by omega
              have hne2 : ((k : Int) != (k : Int)) = false := by simp
              have HJ := Lib.hid hjd'
              clear hjd hjd' hz hy hzy hat2 hdd hDD hnn
              go_wp2
              go_quiet (fail)
              go_wp2
              exact ⟨⟨k + 1, j + 1, q + nq, by omega, by omega, by go_num, by go_num, by simp [World.drewN], HJ.out⟩, by simp [intOf]; omega⟩
          · obtain rfl : k = n0 := by omega
            have hjm : j = m := by
              rw [hjd, ← HM.out, ← HD.out, HR0.out.len]
            clear hjd
            subst hjm
            have hb6 := below_draw w5 q
            obtain ⟨w6, hw6⟩ : ∃ x, x = w5.drewN q := ⟨_, rfl⟩
            rw [← hw6] at hb6 ⊢
            have B6 := Lib.hid (B5.out.trans (hb6.mono B5.out.size))
            have RD6 := Lib.hid (RD.out.later hb6)
            clear hb6 hw6 RD B5
            have hins : inside k d = true := by rw [← HD.out, HR0.out.len]; exact inside_diffs l0 l1 k
            have hfl : flips l0 d = l1 := by rw [← HD.out]; exact flips_all (by rw [HR0.out.len, HR1.out.len]) (HR0.out.bits (errOf_zero HE.out).2) (HR1.out.bits (errOf_zero HE1.out).2)
            have HIns := Lib.hid hins
            have HFl := Lib.hid hfl
            clear hins hfl
            have hjj : ((j : Int) == (j : Int)) = true := by simp
            go_wp2_with fail
            refine (flip_n a0 ad k c0 j j l0 d l1 w6 (HR0.out.later B6.out) RD6.out (flipErr_in HE.out HR0.out.len HIns.out) HFl.out).mono ?_
            rintro e w7 ⟨⟨gf, rfl, rf, _⟩, hb⟩
            have B7 := Lib.hid (B6.out.trans (hb.mono B6.out.size))
            have RF := Lib.hid rf
            clear hb rf B6 RD6
            go_wp2_with fail
            refine (same_yes _ a1 k k k c1 l1 w7 RF.out (HR1.out.later B7.out)).mono ?_
            rintro e w' ⟨rfl, q8, rfl⟩
            have hb8 := below_draw w7 q8
            obtain ⟨w8, hw8⟩ : ∃ x, x = w7.drewN q8 := ⟨_, rfl⟩
            rw [← hw8] at hb8 ⊢
            have B8 := Lib.hid (B7.out.trans (hb8.mono B7.out.size))
            clear hb8 hw8 B7 RF
            go_wp2_with fail
            refine (lives_any _).mono ?_
            rintro e w9 ⟨rfl, hb⟩
            have B9 := Lib.hid (B8.out.trans (hb.mono B8.out.size))
            clear hb
            go_wp2
            go_ret
            exact ⟨rfl, B9.out⟩
    · have HOut := Lib.hid hout
      clear hout
      go_wp2_with fail
      all_goals
        refine (flip_e a0 ai n0 c0 ni ci l0 li 1 _ (HR0.out.later HBel.out) (HR2.out.later HBel.out) (flipErr_out HE.out HR0.out.len HOut.out) (by decide)).mono ?_
        rintro e w3 ⟨rfl, hb⟩
        have BS := Lib.hid (HBel.out.trans (hb.mono HBel.out.size))
        clear hb HBel
        go_wp2_with fail
        have hck := refCheck_any a0 n0 c0 l0 _ (HR0.out.later BS.out)
        rw [HE.out] at hck
        refine hck.mono ?_
        rintro e w' ⟨rfl, rfl⟩
        clear hck
        go_wp2_with fail
        have hck := refCheck_any a1 n0 c1 l1 _ (HR1.out.later BS.out)
        rw [HE1.out] at hck
        refine hck.mono ?_
        rintro e w' ⟨rfl, rfl⟩
        clear hck
        go_wp2_with fail
        refine (apart_n a0 a1 n0 c0 n0 c1 m l0 l1 d _ (HR0.out.later BS.out) (HR1.out.later BS.out) (apartErr_0 HE.out HE1.out (by rw [HR0.out.len, HR1.out.len])) HD.out HM.out).mono ?_
        rintro e w5 ⟨⟨ad, rfl, rd⟩, hb⟩
        have B5 := Lib.hid (BS.out.trans (hb.mono BS.out.size))
        have RD := Lib.hid rd
        clear hb rd
        go_wp2_with fail
        go_loopw [14, 15] (fun kk i wr => ∃ k j q : Nat, k ≤ n0 ∧ j ≤ m ∧ i = .int .i64 k ∧ kk = .int .i64 j ∧ wr = w5.drewN q ∧ j = (diffs l0 l1 k).length) (fun _ i _ => n0 - (intOf i).toNat)
        case atStart => exact ⟨0, 0, 0, Nat.zero_le _, Nat.zero_le _, rfl, rfl, rfl, rfl⟩
        case round =>
          obtain ⟨k, j, q, hk, hj, rfl, rfl, rfl, hjd⟩ := hrel
          by_cases hlt : k < n0
          · obtain ⟨b1, o1, hA0, g1⟩ : ∃ b o, a0 = some ⟨b, o, none⟩ ∧ w5.cell? ⟨b, o + k, none⟩ = some (.int .u8 (l0.getD k 0)) := by
              rcases (HR0.out.later B5.out).cells with h0 | ⟨b, o, ha, hc⟩
              · omega
              · exact ⟨b, o, ha, hc k hlt⟩
            obtain ⟨b2, o2, hA1, g2⟩ : ∃ b o, a1 = some ⟨b, o, none⟩ ∧ w5.cell? ⟨b, o + k, none⟩ = some (.int .u8 (l1.getD k 0)) := by
              rcases (HR1.out.later B5.out).cells with h0 | ⟨b, o, ha, hc⟩
              · omega
              · exact ⟨b, o, ha, hc k hlt⟩
            subst hA0 hA1
            obtain ⟨z, hz⟩ : ∃ z, z = l0.getD k 0 := ⟨_, rfl⟩
            obtain ⟨y, hy⟩ : ∃ y, y = l1.getD k 0 := ⟨_, rfl⟩
            rw [← hz] at g1
            rw [← hy] at g2
            by_cases hzy : z = y
            · have hne : (z != y) = false := by simp [hzy]
              have hjd' : j = (diffs l0 l1 (k + 1)).length := by rw [diffs_no (by rw [← hz, ← hy]; exact hzy)]; exact hjd
              have HJ := Lib.hid hjd'
              clear hjd hjd' hz hy hzy
              go_wp2
              go_quiet (fail)
              go_wp2
              exact ⟨⟨k + 1, j, q + nq, by omega, hj, by go_num, rfl, by simp [World.drewN], HJ.out⟩, by simp [intOf]; omega⟩
            · have hne : (z != y) = true := by simp [hzy]
              have hdd : l0.getD k 0 ≠ l1.getD k 0 := by rw [← hz, ← hy]; exact hzy
              have hat := diffs_at hlt hdd
              have hnn : l0.length = n0 := HR0.out.len
              have hDD := HD.out
              rw [hnn] at hDD
              rw [hDD, ← hjd, HM.out] at hat
              obtain ⟨hat1, hat2⟩ := hat
              have hjd' : j + 1 = (diffs l0 l1 (k + 1)).length := by rw [diffs_yes hdd, List.length_append, ← hjd]; rfl
              obtain ⟨bd, od, hAd, gd⟩ : ∃ b o, ad = some ⟨b, o, none⟩ ∧ w5.cell? ⟨b, o + j, none⟩ = some (.int .i64 k) := by
                rcases RD.out.cells with h0 | ⟨b, o, ha, hc⟩
                · omega
                · have := hc j hat1
                  rw [hat2] at this
                  exact ⟨b, o, ha, this⟩
              subst hAd
              have hge : ¬ (m : Int) ≤ (j : Int) := by omega
              have hne2 : ((k : Int) != (k : Int)) = false := by simp
              have HJ := Lib.hid hjd'
              clear hjd hjd' hz hy hzy hat2 hdd hDD hnn
              go_wp2
              go_quiet (fail)
              go_wp2
              exact ⟨⟨k + 1, j + 1, q + nq, by omega, by omega, by go_num, by go_num, by simp [World.drewN], HJ.out⟩, by simp [intOf]; omega⟩
          · obtain rfl : k = n0 := by omega
            have hjm : j = m := by
              rw [hjd, ← HM.out, ← HD.out, HR0.out.len]
            clear hjd
            subst hjm
            have hb6 := below_draw w5 q
            obtain ⟨w6, hw6⟩ : ∃ x, x = w5.drewN q := ⟨_, rfl⟩
            rw [← hw6] at hb6 ⊢
            have B6 := Lib.hid (B5.out.trans (hb6.mono B5.out.size))
            have RD6 := Lib.hid (RD.out.later hb6)
            clear hb6 hw6 RD B5
            have hins : inside k d = true := by rw [← HD.out, HR0.out.len]; exact inside_diffs l0 l1 k
            have hfl : flips l0 d = l1 := by rw [← HD.out]; exact flips_all (by rw [HR0.out.len, HR1.out.len]) (HR0.out.bits (errOf_zero HE.out).2) (HR1.out.bits (errOf_zero HE1.out).2)
            have HIns := Lib.hid hins
            have HFl := Lib.hid hfl
            clear hins hfl
            have hjj : ((j : Int) == (j : Int)) = true := by simp
            go_wp2_with fail
            refine (flip_n a0 ad k c0 j j l0 d l1 w6 (HR0.out.later B6.out) RD6.out (flipErr_in HE.out HR0.out.len HIns.out) HFl.out).mono ?_
            rintro e w7 ⟨⟨gf, rfl, rf, _⟩, hb⟩
            have B7 := Lib.hid (B6.out.trans (hb.mono B6.out.size))
            have RF := Lib.hid rf
            clear hb rf B6 RD6
            go_wp2_with fail
            refine (same_yes _ a1 k k k c1 l1 w7 RF.out (HR1.out.later B7.out)).mono ?_
            rintro e w' ⟨rfl, q8, rfl⟩
            have hb8 := below_draw w7 q8
            obtain ⟨w8, hw8⟩ : ∃ x, x = w7.drewN q8 := ⟨_, rfl⟩
            rw [← hw8] at hb8 ⊢
            have B8 := Lib.hid (B7.out.trans (hb8.mono B7.out.size))
            clear hb8 hw8 B7 RF
            go_wp2_with fail
            refine (lives_any _).mono ?_
            rintro e w9 ⟨rfl, hb⟩
            have B9 := Lib.hid (B8.out.trans (hb.mono B8.out.size))
            clear hb
            go_wp2
            go_ret
            exact ⟨rfl, B9.out⟩

set_option maxHeartbeats 1000000 in
set_option maxRecDepth 100000 in
theorem bitsFlip_walk (a0 : Option Addr) (n0 c0 : Nat) (l0 : List Int) (a1 : Option Addr) (n1 c1 : Nat) (l1 : List Int) (ai : Option Addr) (ni ci : Nat) (li : List Int) (w : World) (h0 : Row .u8 w a0 n0 c0 l0) (h1 : Row .u8 w a1 n1 c1 l1) (h2 : Row .i64 w ai ni ci li) :
    Calls Try.prog 6 #[.slice a0 n0 c0, .slice a1 n1 c1, .slice ai ni ci] w fun e w' => e = .returned (.bool true) ∧ Below w.heap.size w w' := by
  by_cases hn0 : n0 ≤ 200
  · by_cases hn1 : n1 ≤ 200
    · by_cases hn2 : ni ≤ 50
      · by_cases he : errOf l0 = 0
        · by_cases hy : errOf l1 = 0
          · by_cases hne : n0 = n1
            · subst hne
              exact flip_case4 a0 n0 c0 l0 a1 c1 l1 ai ni ci li w h0 h1 h2 hn0 hn2 _ _ he hy rfl rfl
            · exact flip_case3 a0 n0 c0 l0 a1 n1 c1 l1 ai ni ci li w h0 h1 h2 hn0 hn1 hn2 he hy hne
          · exact flip_case2 a0 n0 c0 l0 a1 n1 c1 l1 ai ni ci li w h0 h1 h2 hn0 hn1 hn2 _ he rfl hy
        · exact flip_case1 a0 n0 c0 l0 a1 n1 c1 l1 ai ni ci li w h0 h1 h2 hn0 hn1 hn2 _ rfl he
      · have hb0 : ¬ (200 : Int) < (n0 : Int) := by omega
        have hb1 : ¬ (200 : Int) < (n1 : Int) := by omega
        have hb2 : (50 : Int) < (ni : Int) := by omega
        have HL := Lib.hid (lives_any w)
        clear h0 h1 h2
        go_enter Try.func6, Try.ntmps6
        go_wp2_with fail
        refine HL.out.mono ?_
        rintro e w' ⟨rfl, hb⟩
        have HB := Lib.hid hb
        clear hb
        go_wp2
        go_ret
        exact ⟨rfl, HB.out⟩
    · have hb0 : ¬ (200 : Int) < (n0 : Int) := by omega
      have hb1 : (200 : Int) < (n1 : Int) := by omega
      have HL := Lib.hid (lives_any w)
      clear h0 h1 h2
      go_enter Try.func6, Try.ntmps6
      go_wp2_with fail
      refine HL.out.mono ?_
      rintro e w' ⟨rfl, hb⟩
      have HB := Lib.hid hb
      clear hb
      go_wp2
      go_ret
      exact ⟨rfl, HB.out⟩
  · have hb0 : (200 : Int) < (n0 : Int) := by omega
    have HL := Lib.hid (lives_any w)
    clear h0 h1 h2
    go_enter Try.func6, Try.ntmps6
    go_wp2_with fail
    refine HL.out.mono ?_
    rintro e w' ⟨rfl, hb⟩
    have HB := Lib.hid hb
    clear hb
    go_wp2
    go_ret
    exact ⟨rfl, HB.out⟩
end Go.Proofs.Ytjadmhmfjjjcfaa
namespace Go.Proofs.Ytjadmhmfjjjcfaa.bitsFlip
open Go.ChangeShapes Go.WideShapes Go.ChangeAt Go.RowKit
open Go.ChangeMaps (open_string shut_string)
set_option linter.unusedVariables false

theorem own : ownKnob Try.prog.godebug = none := by kernel_rfl
theorem laidOut : laidOutB Try.prog = true := by kernel_rfl

set_option maxRecDepth 100000 in
theorem lifted (os : Os) (started : os.Started) (H : Type) (enc : TypeId × Value → H) :
    ReturnsInHanded {} Try.checked os 6 .any (Rows.bitsFlipSpec.pre6 enc Try.prog Try.f6 Rows.bitsFlipRow.domain false) (Rows.bitsFlipSpec.post enc Try.prog Try.f6 false true false false) := by
  refine returnsInHanded_of_change (C := Try.checked) own started (by kernel_rfl) Try.func6
    (ChangeSpec.witness6 (enc := enc) (C := Try.checked) false ⟨#[], #[.slice none 0 0, .slice none 0 0, .slice none 0 0], []⟩ 8 (by kernel_rfl) (by kernel_rfl) (by kernel_rfl) (by kernel_rfl)) ?_
  intro W base args ds gs before hval0 hW hcnd _
  have hval : ∀ (j : Nat) t v, Try.f6.params[j]? = some t → args[j]? = some v → Value.okWide Try.prog W .any base t v := hval0
  have hW' := hW
  obtain ⟨p, q, hA0, hV, rfl, hfz, hnd⟩ := hW
  have hA : DataW.TrodAll enc Try.prog W 0 (fun _ => true) true Try.f6.params.toList args.toList ds p := hA0
  rw [Try.params6] at hA hval
  obtain ⟨v0, vs0, d0, ds0, p0, q0, hargs, rfl, rfl, h0, r0⟩ := trodAll_cons hA
  obtain ⟨v1, vs1, d1, ds1, p1, q1, rfl, rfl, rfl, h1, r1⟩ := trodAll_cons r0
  obtain ⟨v2, vs2, d2, ds2, p2, q2, rfl, rfl, rfl, h2, r2⟩ := trodAll_cons r1
  obtain ⟨rfl, rfl, rfl⟩ := trodAll_nil r2
  obtain rfl : args = #[v0, v1, v2] := by cases args; simp_all
  obtain ⟨rfl, rfl⟩ := trodVars_none hV
  obtain ⟨a0, len0, cap0, rfl⟩ := okWide_slice Try.underlying22 (hval 0 22 v0 rfl rfl)
  have k0 := h0
  have lt0 : ∀ x ∈ p0, x.block < W.heap.size := by obtain ⟨m, hm⟩ := k0; exact DataW.trod_lt m _ _ _ hm
  obtain ⟨l0, w0⟩ : ∃ l, Row .u8 W a0 len0 cap0 l := by
    obtain ⟨fuel, hf⟩ := h0
    rcases open_ints Try.underlying22 Try.underlying5 (by kernel_rfl) hf with ⟨hcs, _⟩ | ⟨x, l, c, zs, hcs, _, hl, hm, hz, _, hcell, hwz⟩
    · simp [Value.cells] at hcs
      obtain ⟨rfl, rfl, rfl⟩ := hcs
      exact ⟨[], Row.of_nil _ _⟩
    · simp [Value.cells] at hcs
      obtain ⟨rfl, rfl, rfl⟩ := hcs
      exact ⟨_, Row.of_open (.inr ⟨_, rfl, hl, hm, by simpa using hz, hcell, hwz⟩)⟩
  obtain ⟨a1, len1, cap1, rfl⟩ := okWide_slice Try.underlying22 (hval 1 22 v1 rfl rfl)
  have k1 := h1
  have lt1 : ∀ x ∈ p1, x.block < W.heap.size := by obtain ⟨m, hm⟩ := k1; exact DataW.trod_lt m _ _ _ hm
  obtain ⟨l1, w1⟩ : ∃ l, Row .u8 W a1 len1 cap1 l := by
    obtain ⟨fuel, hf⟩ := h1
    rcases open_ints Try.underlying22 Try.underlying5 (by kernel_rfl) hf with ⟨hcs, _⟩ | ⟨x, l, c, zs, hcs, _, hl, hm, hz, _, hcell, hwz⟩
    · simp [Value.cells] at hcs
      obtain ⟨rfl, rfl, rfl⟩ := hcs
      exact ⟨[], Row.of_nil _ _⟩
    · simp [Value.cells] at hcs
      obtain ⟨rfl, rfl, rfl⟩ := hcs
      exact ⟨_, Row.of_open (.inr ⟨_, rfl, hl, hm, by simpa using hz, hcell, hwz⟩)⟩
  obtain ⟨a2, len2, cap2, rfl⟩ := okWide_slice Try.underlying44 (hval 2 44 v2 rfl rfl)
  have k2 := h2
  have lt2 : ∀ x ∈ p2, x.block < W.heap.size := by obtain ⟨m, hm⟩ := k2; exact DataW.trod_lt m _ _ _ hm
  obtain ⟨l2, w2⟩ : ∃ l, Row .i64 W a2 len2 cap2 l := by
    obtain ⟨fuel, hf⟩ := h2
    rcases open_ints Try.underlying44 Try.underlying3 (by kernel_rfl) hf with ⟨hcs, _⟩ | ⟨x, l, c, zs, hcs, _, hl, hm, hz, _, hcell, hwz⟩
    · simp [Value.cells] at hcs
      obtain ⟨rfl, rfl, rfl⟩ := hcs
      exact ⟨[], Row.of_nil _ _⟩
    · simp [Value.cells] at hcs
      obtain ⟨rfl, rfl, rfl⟩ := hcs
      exact ⟨_, Row.of_open (.inr ⟨_, rfl, hl, hm, by simpa using hz, hcell, hwz⟩)⟩
  clear hA0 hval0
  refine (bitsFlip_walk a0 len0 cap0 l0 a1 len1 cap1 l1 a2 len2 cap2 l2 W w0 w1 w2).mono fun e W' ⟨he, bel⟩ => ?_
  subst he
  exact ⟨_, rfl, _, _, _, [], _, [], hW', trodAll_mk1 (shut_bool Try.underlying4 _), (trodAll_cons_mk (Below.trod laidOut (by kernel_rfl) (of_decide_eq_true (by kernel_rfl)) k0 bel lt0) (trodAll_cons_mk (Below.trod laidOut (by kernel_rfl) (of_decide_eq_true (by kernel_rfl)) k1 bel lt1) (trodAll_cons_mk (Below.trod laidOut (by kernel_rfl) (of_decide_eq_true (by kernel_rfl)) k2 bel lt2) trodAll_mk0))), rfl, bel.frame _, fun h => by cases h⟩

theorem over : Rows.bitsFlipRow.holds Try.pinned (OpenSpec.ofChange Rows.bitsFlipSpec) :=
  OpenClaim.holds_of_wide 6 Try.f6 rfl rfl rfl rfl rfl rfl rfl ⟨rfl, rfl, rfl, rfl, rfl⟩ rfl rfl rfl rfl rfl (by kernel_rfl) Try.func6 (by kernel_rfl)
    (of_decide_eq_true (by kernel_rfl)) (by unfold Func.isWrapper; first | (rw [if_pos (by decide +kernel)]; kernel_rfl) | (rw [if_neg (by decide +kernel)]; exact ⟨rfl, rfl⟩))
    (fun os started H enc _ => lifted os started H enc)

theorem proved : Rows.BitsFlipSaid := over
end Go.Proofs.Ytjadmhmfjjjcfaa.bitsFlip
