/- Joined: PrSt PrSplit. -/
import Derived.Test.YthlckipcgogogaaGreatDoorPrNum
import Derived.Test.YthlckipcgogogaaGreatDoorLbCut
import Derived.Test.YthlckipcgogogaaGreatDoorPlShelfK
import Derived.Lib.SplitLaws
/- The reader's storePoint, enter, storeNumbers. -/
namespace Go.Proofs.YthlckipcgogogaaGreatDoor
set_option linter.unusedVariables false
open Go.RowKit

/-- A cell of a block of the call's own is written; else there is new memory alone. -/
def StoreAt (w : World) (b o t : Nat) (cs : List Value) (v : Value) (w' : World) : Prop := Own w' b t (cs.set o v) ∧ Exc (fun k => k = b) w w'
theorem storePoint_any (l : List UInt8) (b o t : Nat) (cs : List Value) (w : World) (ho : Own w b t cs) (h : o < cs.length) (hl : l.length ≤ 9223372036854775806) :
    Calls Tryz.prog 102 #[.string (bs l), .pointer (some ⟨b, o, none⟩)] w fun e w' => e = .returned (.bool (parseE l == 0)) ∧ StoreAt w b o t cs (.int .u16 (parseP l)) w' := by
  have hcon := parse_any l w hl
  generalize parseE l = E at *
  generalize parseP l = P at *
  have HC := Lib.hid hcon
  have HO := Lib.hid ho
  clear hcon ho
  go_enter Tryz.func102, Tryz.ntmps102
  go_wp2_with fail
  with_reducible refine HC.out.mono ?_
  rintro e w1 ⟨rfl, hb⟩
  have o1 := HO.out.below hb HO.out.lt
  have hcell := o1.cell o h
  have hfr := o1.frozen o
  have hs := o1.set o (.int .u16 P)
  have hx : Exc (fun k => k = b) w (w1.setCell ⟨b, o, none⟩ (.int .u16 P)) := (Exc.of_below (S := fun k => k = b) hb).setCell ⟨b, o, none⟩ (.inl rfl) _
  have HS := Lib.hid (And.intro hs hx)
  clear hb o1 hs hx
  go_wp2
  go_ret
  exact ⟨rfl, HS.out⟩
/-- Whether a part may follow the last one. -/
def entB (last : Nat) (part : Nat) : Bool := if part ≤ 1 then decide (last ≤ part) else if part = 2 then decide (last < 2) else decide (last + 1 = part)
theorem enter_any (part last : Nat) (b t : Nat) (cs : List Value) (w : World) (ho : Own w b t cs) (h : cs.length = 8) (hlast : cs.getD 7 undef = .int .i64 (last : Int)) (hp : part ≤ 4) (hl : last ≤ 4) :
    Calls Tryz.prog 76 #[.pointer (some ⟨b, 0, none⟩), .int .i64 (part : Int)] w fun e w' => e = .returned (.bool (entB last part)) ∧ StoreAt w b 7 t cs (.int .i64 (part : Int)) w' := by
  have hcell := ho.cell 7 (by omega)
  rw [hlast] at hcell
  have hfr := ho.frozen 7
  have hs := ho.set 7 (.int .i64 (part : Int))
  have hx : Exc (fun k => k = b) w (w.setCell ⟨b, 7, none⟩ (.int .i64 (part : Int))) := (Exc.refl (fun k => k = b) w).setCell ⟨b, 7, none⟩ (.inl rfl) _
  have HS := Lib.hid (And.intro hs hx)
  clear ho h hlast hs hx
  rcases (by omega : part = 0 ∨ part = 1 ∨ part = 2 ∨ part = 3 ∨ part = 4) with rfl | rfl | rfl | rfl | rfl
  all_goals rcases (by omega : last = 0 ∨ last = 1 ∨ last = 2 ∨ last = 3 ∨ last = 4) with rfl | rfl | rfl | rfl | rfl
  all_goals clear hp hl
  all_goals go_enter Tryz.func76, Tryz.ntmps76
  all_goals go_wp2
  all_goals go_ret
  all_goals exact ⟨rfl, HS.out⟩
/-- The first k numbers stored. -/
def stN (w : World) (ps : Nat → Addr) (vs : Nat → Int) : Nat → World
  | 0 => w
  | k + 1 => (stN w ps vs k).setCell (ps k) (.int .i64 (vs k))
def allN (ws : Nat → List UInt8) : Nat → Bool
  | 0 => true
  | k + 1 => allN ws k && numS (ws k)
theorem allN_false {ws : Nat → List UInt8} : ∀ {n k : Nat}, k < n → numS (ws k) = false → allN ws n = false
  | n + 1, k, hk, h => by
    by_cases e : k = n
    · subst e; unfold allN; rw [h, Bool.and_false]
    · unfold allN; rw [allN_false (n := n) (by omega) h, Bool.false_and]
theorem storeNumbers_len (a a' : Option Addr) (n c m c' : Nat) (w : World) (h : n ≠ m) :
    Calls Tryz.prog 79 #[.slice a n c, .slice a' m c'] w fun e w' => e = .returned (.bool false) ∧ w = w' := by
  have hne : ((n : Int) != (m : Int)) = true := by simp; omega
  go_enter Tryz.func79, Tryz.ntmps79
  go_wp2
  go_ret
  exact ⟨rfl, rfl⟩
set_option maxHeartbeats 1000000 in
theorem storeNumbers_any (n c c' : Nat) (wb wo pb : Nat) (ws : Nat → List UInt8) (ps : Nat → Addr) (w : World) (hn : n ≤ 9)
    (hw : ∀ k j, k ≤ n → j < n → (stN w ps (fun i => (numV (ws i) : Int)) k).cell? ⟨wb, wo + j, none⟩ = some (.string (bs (ws j))))
    (hp : ∀ k j, k ≤ n → j < n → (stN w ps (fun i => (numV (ws i) : Int)) k).cell? ⟨pb, j, none⟩ = some (.pointer (some (ps j))))
    (hc : ∀ k, k < n → (∃ u, (stN w ps (fun i => (numV (ws i) : Int)) k).cell? (ps k) = some u) ∧ (stN w ps (fun i => (numV (ws i) : Int)) k).frozen? (ps k) = false)
    (hl : ∀ j, j < n → (ws j).length ≤ 9223372036854775806) :
    Calls Tryz.prog 79 #[.slice (some ⟨wb, wo, none⟩) n c, .slice (some ⟨pb, 0, none⟩) n c'] w fun e w' => e = .returned (.bool (allN ws n)) ∧ (allN ws n = true → w' = stN w ps (fun i => (numV (ws i) : Int)) n) ∧ ∃ k, k ≤ n ∧ w' = stN w ps (fun i => (numV (ws i) : Int)) k := by
  have HW := Lib.hid hw
  have HP := Lib.hid hp
  have HC := Lib.hid hc
  have HL := Lib.hid hl
  clear hw hp hc hl
  go_enter Tryz.func79, Tryz.ntmps79
  go_wp2_with fail
  go_loopw [16] (fun i wr => ∃ k : Nat, k ≤ n ∧ i = .int .i64 k ∧ allN ws k = true ∧ wr = stN w ps (fun i => (numV (ws i) : Int)) k) (fun i _ => n - (intOf i).toNat)
  case atStart => exact ⟨0, Nat.zero_le _, rfl, rfl, rfl⟩
  case round =>
    obtain ⟨k, hk, rfl, ha, hwr⟩ := hrel
    by_cases hkn : k < n
    · have c1 := HW.out k k hk hkn
      have c2 := HP.out k k hk hkn
      obtain ⟨⟨u, c3⟩, f3⟩ := HC.out k hkn
      have hstep : (stN w ps (fun i => (numV (ws i) : Int)) k).setCell (ps k) (.int .i64 (numV (ws k) : Int)) = stN w ps (fun i => (numV (ws i) : Int)) (k + 1) := rfl
      rw [← hwr] at c1 c2 c3 f3 hstep
      have hcon := numberOf_any (ws k) wr (HL.out k hkn)
      generalize ps k = q at *
      cases hs : numS (ws k) with
      | false =>
        rw [numOut_no hs] at hcon
        have HF := Lib.hid (allN_false hkn hs)
        have HCn := Lib.hid hcon
        have HWr := Lib.hid hwr
        clear hcon hwr hstep hs ha
        go_wp2_with fail
        with_reducible refine HCn.out.mono ?_
        rintro e w' ⟨rfl, rfl⟩
        go_wp2
        go_ret
        refine ⟨by rw [HF.out]; rfl, fun h => absurd h (by rw [HF.out]; exact Bool.false_ne_true), k, by omega, HWr.out⟩
      | true =>
        rw [numOut_yes hs] at hcon
        have HA : Hid (allN ws (k + 1) = true) := Lib.hid (by unfold allN; rw [ha, hs]; rfl)
        have HCn := Lib.hid hcon
        have HSt := Lib.hid hstep
        generalize numV (ws k) = v at *
        clear hcon hwr hs ha hstep
        go_wp2_with fail
        with_reducible refine HCn.out.mono ?_
        rintro e w' ⟨rfl, rfl⟩
        go_wp2
        exact ⟨⟨k + 1, by omega, by go_num, HA.out, HSt.out⟩, by simp [intOf]; omega⟩
    · obtain rfl : k = n := by omega
      have HA := Lib.hid ha
      have HWr := Lib.hid hwr
      clear ha hwr
      go_wp2
      go_ret
      refine ⟨by rw [HA.out]; rfl, fun _ => HWr.out, k, Nat.le_refl _, HWr.out⟩
end Go.Proofs.YthlckipcgogogaaGreatDoor
/- Contract: strings.Split at a space. -/
namespace Go.Proofs.YthlckipcgogogaaGreatDoor
set_option linter.unusedVariables false
open Go.RowKit

theorem indexB_bs (l : List UInt8) : Lib.indexB (bs l) ⟨#[32]⟩ = Lib.indexByte l 32 := by
  show Lib.index (bs l).data.toList [32] = _
  rw [bs_data, Lib.index_one]
theorem countB_bs (l : List UInt8) : Lib.countB (bs l) ⟨#[32]⟩ = l.count 32 := by
  show Lib.count (bs l).data.toList [32] = _
  rw [bs_data, Lib.count_one]
/-- The pieces. -/
theorem split_any (l : List UInt8) (w : World) (hl : l.length ≤ 1048576) :
    Calls Tryz.prog 15 #[.string (bs l), .string ⟨#[32]⟩] w fun e w' =>
      e = .returned (.slice (some ⟨w.heap.size, 0, none⟩) (l.count 32 + 1) (l.count 32 + 1)) ∧ w' = w.alloc (.cells ((Lib.splitB ⟨#[32]⟩ 0 (l.count 32) (bs l)).map Value.string).toArray 9) := by
  have hsz := bs_len l
  have hc := countB_bs l
  have h1 : 1 ≤ (⟨#[32]⟩ : ByteArray).size := by decide
  have hle := List.count_le_length (a := (32 : UInt8)) (l := l)
  have hlen := Lib.splitB_all ⟨#[32]⟩ h1 0 _ (bs l) rfl
  have hC : Calls Tryz.prog 13 #[.string (bs l), .string ⟨#[32]⟩] w fun e w' => e = .returned (.int .i64 (Lib.countB (bs l) ⟨#[32]⟩)) ∧ w' = w := by
    refine (Any.strings_Count_one { lay221 with } (bs l) 32 w).mono fun e w' ⟨he, hw⟩ => ⟨?_, hw⟩
    rw [he, hc]
    show _ = Ending.returned (Value.int .i64 ((l.count 32 : Nat) : Int))
    rw [bs_data]
    rfl
  have c := Any.strings_genSplit_core lay221 (by kernel_rfl) (bs l) ⟨#[32]⟩ 0 (-1) (l.count 32 + 1) w (by rw [hsz]; omega) h1 (Nat.zero_le _)
    (fun x cc hx => by
      have hi : Lib.indexB x ⟨#[32]⟩ = Lib.indexByte x.data.toList 32 := Lib.index_one _ _
      rw [hi]
      exact Any.strings_Index_one { lay221 with } x 32 _)
    hC (by decide) (by decide) (by rw [if_pos (by decide), hc, hsz]; omega)
  rw [Nat.add_sub_cancel] at c
  rw [← hc] at c ⊢
  rw [hlen] at c
  have e2 : Lib.cellsOf (Lib.splitB ⟨#[32]⟩ 0 (Lib.countB (bs l) ⟨#[32]⟩) (bs l)) (Lib.countB (bs l) ⟨#[32]⟩ + 1) = ((Lib.splitB ⟨#[32]⟩ 0 (Lib.countB (bs l) ⟨#[32]⟩) (bs l)).map Value.string).toArray := by rw [← hlen]; exact Lib.cellsOf_full _
  rw [e2] at c
  have C := Lib.hid (show Calls Tryz.prog 54 #[.string (bs l), .string ⟨#[32]⟩, .int .i64 0, .int .i64 (-1)] w fun e w' =>
      e = .returned (.slice (some ⟨w.heap.size, 0, none⟩) (Lib.countB (bs l) ⟨#[32]⟩ + 1) (Lib.countB (bs l) ⟨#[32]⟩ + 1)) ∧ w' = w.alloc (.cells ((Lib.splitB ⟨#[32]⟩ 0 (Lib.countB (bs l) ⟨#[32]⟩) (bs l)).map Value.string).toArray 9) from c)
  clear c e2 hlen hC hc hsz hle
  go_enter Tryz.func15, Tryz.ntmps15
  go_wp2_with fail
  refine (C.out).mono ?_
  rintro e w' ⟨rfl, hw⟩
  subst hw
  go_wp2
  go_ret
  exact ⟨rfl, rfl⟩
theorem index32_no : ∀ l : List UInt8, noS l = true → Lib.indexByte l 32 = -1
  | [], _ => rfl
  | c :: l, h => by
    unfold noS at h
    simp only [List.all_cons, Bool.and_eq_true] at h
    have e := index32_no l h.2
    have hc : (c == 32) = false := by have := h.1; simp only [bne_iff_ne, ne_eq] at this; simpa using this
    rw [Lib.indexByte, hc, e]
    rfl
theorem index32_at : ∀ (a b : List UInt8), noS a = true → Lib.indexByte (a ++ 32 :: b) 32 = a.length
  | [], b, _ => by simp [Lib.indexByte]
  | c :: l, b, h => by
    unfold noS at h
    simp only [List.all_cons, Bool.and_eq_true] at h
    have e := index32_at l b h.2
    have hc : (c == 32) = false := by have := h.1; simp only [bne_iff_ne, ne_eq] at this; simpa using this
    have h2 : ((l.length : Int) == -1) = false := by simp
    rw [List.cons_append, Lib.indexByte, hc, e, h2]
    simp
theorem front32 (a b : List UInt8) : (bs (a ++ 32 :: b)).extract 0 a.length = bs a := by
  apply bs_of
  simp [bs]
theorem back32 (a b : List UInt8) : (bs (a ++ 32 :: b)).extract (a.length + 1) (a.length + 1 + b.length) = bs b := by
  apply bs_of
  simp [bs]
theorem noS_cases : ∀ l : List UInt8, noS l = true ∨ ∃ a b, noS a = true ∧ l = a ++ 32 :: b
  | [] => .inl rfl
  | c :: l => by
    by_cases hc : c = 32
    · exact .inr ⟨[], l, rfl, by rw [hc]; rfl⟩
    · have hc2 : (c != 32) = true := by simpa using hc
      rcases noS_cases l with h | ⟨a, b, h, rfl⟩
      · exact .inl (by unfold noS at h ⊢; rw [List.all_cons, hc2, h]; rfl)
      · exact .inr ⟨c :: a, b, by unfold noS at h ⊢; rw [List.all_cons, hc2, h]; rfl, rfl⟩
theorem noS_count {a : List UInt8} (h : noS a = true) : a.count 32 = 0 := by
  rw [List.count_eq_zero]
  intro hm
  unfold noS at h
  rw [List.all_eq_true] at h
  have := h 32 hm
  simp at this
/-- The pieces are the words. -/
theorem split_wds : ∀ (k : Nat) (l : List UInt8), l.count 32 = k → Lib.splitB ⟨#[32]⟩ 0 k (bs l) = (wds l).map bs
  | 0, l, hk => by
    have h : noS l = true := by
      rcases noS_cases l with h | ⟨a, b, _, rfl⟩
      · exact h
      · simp at hk
    rw [wds_one l h]
    rfl
  | k + 1, l, hk => by
    rcases noS_cases l with h | ⟨a, b, h, rfl⟩
    · rw [noS_count h] at hk; omega
    · have hb : b.count 32 = k := by rw [List.count_append, noS_count h, List.count_cons_self] at hk; omega
      have i1 : Lib.indexB (bs (a ++ 32 :: b)) ⟨#[32]⟩ = a.length := by rw [indexB_bs]; exact index32_at _ _ h
      rw [Lib.splitB_hit _ _ _ _ _ i1, Nat.add_zero, front32, show (⟨#[32]⟩ : ByteArray).size = 1 from rfl, show (bs (a ++ 32 :: b)).size = a.length + 1 + b.length by rw [bs_len]; simp; omega, back32, wds_more _ _ h, split_wds k b hb]
      rfl
theorem wds_length (l : List UInt8) : (wds l).length = l.count 32 + 1 := by
  have h := congrArg List.length (split_wds _ l rfl)
  rw [List.length_map, ← countB_bs, Lib.splitB_all ⟨#[32]⟩ (by decide) 0 _ (bs l) rfl] at h
  rw [← h, countB_bs]
/-- strings.Split at a space: the words, in a new block. -/
theorem words_any (l : List UInt8) (w : World) (hl : l.length ≤ 1048576) : Calls Tryz.prog 15 #[.string (bs l), .string ⟨#[32]⟩] w fun e w' =>
    e = .returned (.slice (some ⟨w.heap.size, 0, none⟩) (wds l).length (wds l).length) ∧ w' = w.alloc (.cells ((wds l).map fun x => Value.string (bs x)).toArray 9) := by
  refine (split_any l w hl).mono ?_
  rintro e w' ⟨rfl, hw⟩
  rw [split_wds _ l rfl, List.map_map] at hw
  exact ⟨by rw [wds_length], hw⟩
end Go.Proofs.YthlckipcgogogaaGreatDoor
