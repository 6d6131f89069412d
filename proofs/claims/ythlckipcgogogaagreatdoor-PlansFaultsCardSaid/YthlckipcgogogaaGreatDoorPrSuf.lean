/- Joined: PrLines PrSuf. -/
import Derived.Test.YthlckipcgogogaaGreatDoorSeqCell
import Derived.RangeFuncNested
import Derived.RangeFuncBound
import Derived.RangeFuncCalls
import Derived.RangeFuncLeaves
import Derived.Shelf.Abstract
import Derived.Shelf.RegionOpen
import Derived.WalkKit
import Derived.OwnWalkIn
import Derived.TacticsInMore
import Derived.LoopNIn
import Derived.LoopIn
import Derived.RegionIn
import Derived.ControlIn
import Derived.StillTailTactics
/- strings.Lines: the iterator's contract. -/
namespace Go.Proofs.YthlckipcgogogaaGreatDoor
set_option linter.unusedVariables false
open Go.RowKit Go.Shelf
attribute [local go_sem] Oper.semAt_some

/-- What is handed out: a line. -/
abbrev LnT := { x : List UInt8 // x.length ≤ 1048576 }
def encSt (x : LnT) : Array Value := #[.string (bs x.1)]
/-- The captured variable holds s. -/
def Cap (W : World) (b : Nat) (s : List UInt8) : Prop := Own W b 9 [.string (bs s)]
/-- What a round keeps: the captured variable. -/
def KpC (b : Nat) (W W' : World) : Prop := W'.heap[b]? = W.heap[b]?
def capLen (W : World) (b : Nat) : Nat := match W.cell? ⟨b, 0, none⟩ with | some (.string t) => t.size | _ => 0
theorem Cap.len {W : World} {b : Nat} {s : List UInt8} (h : Cap W b s) : capLen W b = s.length := by
  have h1 := Own.cell h 0 (by simp)
  simp only [List.getD_cons_zero] at h1
  unfold capLen
  rw [h1]
  exact bs_len s
theorem lines_any (s : ByteArray) (w : World) : Calls Tryz.prog 36 #[.string s] w fun e w' => e = .returned (.func (.func 73) #[] #[.pointer (some ⟨w.heap.size, 0, none⟩)]) ∧ w' = w.alloc (.cells #[.string s] 9) := by
  go_enter Tryz.func36, Tryz.ntmps36
  go_wp2
  go_ret
  exact ⟨rfl, rfl⟩
theorem idx_any (s : List UInt8) (w : World) : Calls Tryz.prog 74 #[.string (bs s), .int .u8 10] w fun e w' => e = .returned (.int .i64 (Lib.indexByte s 10)) ∧ w' = w := by
  have HI := Lib.hid (Any.stringslite_IndexByte { lay219 with } (bs s) 10 w)
  go_enter Tryz.func74, Tryz.ntmps74
  go_wp2_with fail
  refine HI.out.mono ?_
  rintro e w' ⟨rfl, hw⟩
  subst hw
  go_wp2
  go_ret
  exact ⟨by rw [bs_data]; rfl, rfl⟩
theorem bs_take (s : List UInt8) (k : Nat) : (bs s).extract 0 k = bs (s.take k) := by
  apply bs_of
  simp [bs]
theorem bs_drop (s : List UInt8) (k : Nat) : (bs s).extract k s.length = bs (s.drop k) := by
  apply bs_of
  simp [bs]
  exact List.take_of_length_le (by simp)
set_option maxRecDepth 100000 in
set_option maxHeartbeats 4000000 in
theorem lines1_in (n l b : Nat) (hn : 1 ≤ n) (s : List UInt8) (hs : s.length ≤ 1048576) (B : Nat) (J Jx : List LnT → World → Prop) (hJ : AbidesC (fun o => o.isWalk = true) B b J)
    (hY : ∀ pre x W, J pre W → pre.length < s.length → YieldAt Fence.wide (n - 1) Tryz.prog l (encSt x) W fun e W' => (e = .returned (.bool true) ∧ J (pre ++ [x]) W' ∧ KpC b W W') ∨ (e = .returned (.bool false) ∧ Jx (pre ++ [x]) W'))
    (W : World) (hc : Cap W b s) (h0 : J [] W) :
    CallsIn Fence.wide n Tryz.prog 73 #[.func (.yield l) #[] #[], .pointer (some ⟨b, 0, none⟩)] W fun e W' => (∃ v, e = .returned v) ∧
      ((∃ xs : List LnT, xs.map (·.1) = linesL s.length s ∧ J xs W') ∨ (∃ pre : List LnT, pre.map (·.1) <+: linesL s.length s ∧ Jx pre W')) := by
  refine callsIn_of_wp Tryz.func73 rfl trivial ?_ rfl
  simp only [Tryz.ntmps73, List.size_toArray, List.length_cons, List.length_nil, Nat.reduceAdd, Nat.reduceSub, Array.replicate_succ, Array.replicate_zero, List.push_toArray, List.append_toArray, List.nil_append, List.cons_append]
  gi_wp2
  gi_loopw [3, 4] (fun _ _ wr => ∃ (pre : List LnT) (rest : List UInt8), Cap wr b rest ∧ J pre wr ∧ pre.map (·.1) ++ linesL rest.length rest = linesL s.length s ∧ pre.length + rest.length ≤ s.length) (fun _ _ wr => capLen wr b)
  case atStart => exact ⟨[], s, hc, h0, rfl, by simp⟩
  case round =>
    obtain ⟨pre, rest, hcap, hj, hl, hlen⟩ := hrel
    have c0 := Own.cell hcap 0 (by simp)
    simp only [List.getD_cons_zero] at c0
    have HC := Lib.hid hcap
    have HJ := Lib.hid hj
    have HL := Lib.hid hl
    have HN := Lib.hid hlen
    clear hcap hj hl hlen
    by_cases hr : rest = []
    · subst hr
      gi_wp2
      go_end0
      refine ⟨⟨_, rfl⟩, .inl ⟨pre, ?_, HJ.out⟩⟩
      have h := HL.out
      rw [linesL_nil, List.append_nil] at h
      exact h
    · have hpos := List.length_pos_iff.2 hr
      have HRn := Lib.hid hr
      have hsz : (bs rest).size = rest.length := bs_len rest
      obtain ⟨S, hS⟩ : ∃ S, S = bs rest := ⟨_, rfl⟩
      have HS := Lib.hid hS
      have hidx := idx_any rest wr
      rw [← hS] at c0 hsz hidx
      have HI := Lib.hid hidx
      obtain ⟨m, hm⟩ : ∃ m, m = rest.length := ⟨_, rfl⟩
      have HM := Lib.hid hm
      rw [← hm] at hsz hpos
      have hp : (0 : Int) < (m : Int) := by omega
      clear hr hS hidx hm
      gi_wp2_with fail
      refine ⟨trivial, (callsIn_wide.2 HI.out).mono ?_⟩
      rintro e w' ⟨rfl, hw⟩
      subst hw
      have hkl := nlK_le rest
      obtain ⟨K, hK⟩ : ∃ K, K = nlK rest := ⟨_, rfl⟩
      have HK := Lib.hid hK
      by_cases hlt : K < rest.length
      · have hix : Lib.indexByte rest 10 = (K : Int) := by rw [hK]; exact index10_at rest (by rw [← hK]; exact hlt)
        rw [hix]
        have hb : rest.length ≤ 1048576 := by have := HN.out; omega
        have s1 : ∀ w, (Instr.slice 9 (.string S) none (some (.int .i64 ((K : Int) + 1))) none).run Tryz.prog w = .ok (.string (bs (lineH rest))) w := fun w => by
          rw [HS.out, run_slice_string_h w 9 _ Tryz.underlying9 .i64 ((K : Int) + 1) (by omega) (by rw [bs_len]; omega), show ((K : Int) + 1).toNat = K + 1 by omega, bs_take, hK]
          rfl
        have s2 : ∀ w, (Instr.slice 9 (.string S) (some (.int .i64 ((K : Int) + 1))) none none).run Tryz.prog w = .ok (.string (bs (lineT rest))) w := fun w => by
          rw [HS.out, run_slice_string_l w 9 _ Tryz.underlying9 .i64 ((K : Int) + 1) (by omega) (by rw [bs_len]; omega), show ((K : Int) + 1).toNat = K + 1 by omega, bs_len, bs_drop, hK]
          rfl
        have kw : IntKind.i64.wrap ((K : Int) + 1) = (K : Int) + 1 := IntWalk.i64_in _ (by omega)
        have kp : (0 : Int) ≤ (K : Int) := by omega
        have f0 := Own.frozen HC.out 0
        obtain ⟨X, hX⟩ : ∃ X, X = bs (lineH rest) := ⟨_, rfl⟩
        obtain ⟨Y, hY'⟩ : ∃ Y, Y = bs (lineT rest) := ⟨_, rfl⟩
        rw [← hX] at s1
        rw [← hY'] at s2
        have HX := Lib.hid hX
        have HYY := Lib.hid hY'
        clear hix hlt hK hkl hX hY' hb
        gi_wp2
        refine wpIn_wide.2 ?_
        go_still_tail 9, (by kernel_rfl)
        change wpList _ _ _ _ _ w'.drew
        go_wp2
        have HG := Lib.hid (show w'.grownBy (w'.setCell ⟨b, 0, none⟩ (.string Y)) (some b) from (Only.refl b w').setCell 0 (.string Y))
        have HS5 := Lib.hid (Own.set HC.out 0 (.string Y))
        obtain ⟨W5, hW5⟩ : ∃ x, x = (w'.setCell ⟨b, 0, none⟩ (.string Y)).drew := ⟨_, rfl⟩
        rw [← hW5]
        have hg5 : w'.grownBy W5 (some b) := by rw [hW5]; exact ⟨HG.out.os, HG.out.tape, HG.out.output, HG.out.size, HG.out.block⟩
        have HJ5 := Lib.hid (hJ pre w' W5 (some b) HJ.out hg5 (fun r e => by cases e; exact .inl rfl))
        have HC5 : Hid (Cap W5 b (lineT rest)) := Lib.hid (by unfold Cap; rw [hW5, ← HYY.out]; exact HS5.out)
        have hlb : (lineH rest).length ≤ 1048576 := by have := lineH_len rest; have := HN.out; omega
        have hpl : pre.length < s.length := by have := List.length_pos_iff.2 HRn.out; have := HN.out; omega
        obtain ⟨fn, tmps, assign, body, hy, hR⟩ := hY pre ⟨lineH rest, hlb⟩ W5 HJ5.out hpl
        change (Instr.yield l #[.string (bs (lineH rest))]).run Tryz.prog W5 = _ at hy
        rw [← HX.out] at hy
        have HPl := Lib.hid hlb
        clear hg5 hpl hW5
        gi_wp2
        refine hR.mono ?_
        rintro e W7 (⟨rfl, hJ7, hk7⟩ | ⟨rfl, hx7⟩)
        · gi_wp2
          go_roundw
          case rel =>
            have hc7 : Cap W7 b (lineT rest) := by unfold Cap Own; rw [hk7]; exact HC5.out
            refine ⟨pre ++ [⟨lineH rest, HPl.out⟩], lineT rest, hc7, hJ7, ?_, ?_⟩
            · rw [List.map_append, List.append_assoc, ← HL.out, linesL_step HRn.out]; rfl
            · have h1 := lineT_lt HRn.out
              have h2 := HN.out
              simp only [List.length_append, List.length_cons, List.length_nil]
              omega
          case measure =>
            have hc7 : Cap W7 b (lineT rest) := by unfold Cap Own; rw [hk7]; exact HC5.out
            rw [hc7.len, HC.out.len]
            exact lineT_lt HRn.out
        · gi_wp2
          refine bodyPost_ret (results_none rfl _ _ _) rfl ?_
          refine ⟨⟨_, rfl⟩, .inr ⟨pre ++ [⟨lineH rest, HPl.out⟩], ?_, hx7⟩⟩
          rw [← HL.out, linesL_step HRn.out, List.map_append]
          exact ⟨linesL (lineT rest).length (lineT rest), by simp⟩
      · have hKr : K = rest.length := by omega
        have hix : Lib.indexByte rest 10 = -1 := index10_no rest (by rw [← hK, hKr])
        rw [hix]
        have f0 := Own.frozen HC.out 0
        obtain ⟨X, hX⟩ : ∃ X, X = bs (lineH rest) := ⟨_, rfl⟩
        have hSX : S = X := by rw [HS.out, hX, lineH_all (by rw [← hK, hKr])]
        have HX := Lib.hid hX
        have hYY : (⟨#[]⟩ : ByteArray) = bs (lineT rest) := by rw [lineT_all (by rw [← hK, hKr])]; rfl
        rw [hSX] at c0 hsz ⊢
        have HG := Lib.hid (show w'.grownBy (w'.setCell ⟨b, 0, none⟩ (.string ⟨#[]⟩)) (some b) from (Only.refl b w').setCell 0 (.string ⟨#[]⟩))
        have HS5 : Hid (Own (w'.setCell ⟨b, 0, none⟩ (.string ⟨#[]⟩)) b 9 [.string (bs (lineT rest))]) := Lib.hid (by rw [← hYY]; exact Own.set HC.out 0 (.string ⟨#[]⟩))
        obtain ⟨W5, hW5⟩ : ∃ x, x = w'.setCell ⟨b, 0, none⟩ (.string ⟨#[]⟩) := ⟨_, rfl⟩
        clear hix hlt hK hkl hX hKr hSX HI HS hYY
        have hg5 : w'.grownBy W5 (some b) := by rw [hW5]; exact ⟨HG.out.os, HG.out.tape, HG.out.output, HG.out.size, HG.out.block⟩
        have HJ5 := Lib.hid (hJ pre w' W5 (some b) HJ.out hg5 (fun r e => by cases e; exact .inl rfl))
        have HC5 : Hid (Cap W5 b (lineT rest)) := Lib.hid (by unfold Cap; rw [hW5]; exact HS5.out)
        have hlb : (lineH rest).length ≤ 1048576 := by have := lineH_len rest; have := HN.out; omega
        have hpl : pre.length < s.length := by have := List.length_pos_iff.2 HRn.out; have := HN.out; omega
        obtain ⟨fn, tmps, assign, body, hy, hR⟩ := hY pre ⟨lineH rest, hlb⟩ W5 HJ5.out hpl
        change (Instr.yield l #[.string (bs (lineH rest))]).run Tryz.prog W5 = _ at hy
        rw [← HX.out] at hy
        have HPl := Lib.hid hlb
        rw [hW5] at hy hR
        clear hg5 hpl hW5
        gi_wp2
        refine hR.mono ?_
        rintro e W7 (⟨rfl, hJ7, hk7⟩ | ⟨rfl, hx7⟩)
        · gi_wp2
          go_roundw
          case rel =>
            have hc7 : Cap W7 b (lineT rest) := by unfold Cap Own; rw [hk7]; exact HS5.out
            refine ⟨pre ++ [⟨lineH rest, HPl.out⟩], lineT rest, hc7, hJ7, ?_, ?_⟩
            · rw [List.map_append, List.append_assoc, ← HL.out, linesL_step HRn.out]; rfl
            · have h1 := lineT_lt HRn.out
              have h2 := HN.out
              simp only [List.length_append, List.length_cons, List.length_nil]
              omega
          case measure =>
            have hc7 : Cap W7 b (lineT rest) := by unfold Cap Own; rw [hk7]; exact HS5.out
            rw [hc7.len, HC.out.len]
            exact lineT_lt HRn.out
        · gi_wp2
          refine bodyPost_ret (results_none rfl _ _ _) rfl ?_
          refine ⟨⟨_, rfl⟩, .inr ⟨pre ++ [⟨lineH rest, HPl.out⟩], ?_, hx7⟩⟩
          rw [← HL.out, linesL_step HRn.out, List.map_append]
          exact ⟨linesL (lineT rest).length (lineT rest), by simp⟩
/-- The lines that strings.Lines hands out: all, or those up to where the loop is left. -/
theorem lines_seq (n b : Nat) (hn : 1 ≤ n) (s : List UInt8) (hs : s.length ≤ 1048576) (w : World) (hb : b < w.heap.size) (hc : Cap w b s) :
    SeqC Fence.wide n Tryz.prog 73 #[.pointer (some ⟨b, 0, none⟩)] encSt b (KpC b) (fun xs => xs.map (·.1) = linesL s.length s) (fun pre => pre.map (·.1) <+: linesL s.length s) s.length w :=
  fun l J Jx W hW hJ _ hY h0 => lines1_in n l b hn s hs W.heap.size J Jx hJ hY W (Own.below hc hW hb) h0
end Go.Proofs.YthlckipcgogogaaGreatDoor
/- strings.CutSuffix at a line feed. -/
namespace Go.Proofs.YthlckipcgogogaaGreatDoor
set_option linter.unusedVariables false
open Go.RowKit

set_option maxRecDepth 100000 in
theorem hassuf_nil (w : World) : Calls Tryz.prog 84 #[.string (bs []), .string ⟨#[10]⟩] w fun e w' => e = .returned (.bool false) ∧ w' = w := by
  have hs : (bs []).size = 0 := rfl
  go_enter Tryz.func84, Tryz.ntmps84
  go_wp2
  go_ret
  exact ⟨rfl, rfl⟩
set_option maxRecDepth 100000 in
theorem hassuf_snoc (c : List UInt8) (x : UInt8) (w : World) (hc : c.length ≤ 1048576) : Calls Tryz.prog 84 #[.string (bs (c ++ [x])), .string ⟨#[10]⟩] w fun e w' => e = .returned (.bool (x == 10)) ∧ w' = w := by
  have hs : (bs (c ++ [x])).size = c.length + 1 := by rw [bs_len]; simp
  have hsl : ∀ w, (Instr.slice 9 (.string (bs (c ++ [x]))) (some (.int .i64 (c.length : Int))) none none).run Tryz.prog w = .ok (.string (bs [x])) w := fun w => by
    rw [run_slice_string_l w 9 _ Tryz.underlying9 .i64 (c.length : Int) (by omega) (by rw [hs]; omega), Int.toNat_natCast, hs]
    congr 2
    apply bs_of
    simp [bs]
  have hx1 : (bs (c ++ [x])).extract c.length (c.length + 1) = bs [x] := by
    apply bs_of
    simp [bs]
  have he : ((bs [x]).toList == [10]) = (x == 10) := by rw [bs_list]; simp
  obtain ⟨S, hS⟩ : ∃ S, S = bs (c ++ [x]) := ⟨_, rfl⟩
  obtain ⟨T, hT⟩ : ∃ T, T = bs [x] := ⟨_, rfl⟩
  obtain ⟨m, hm⟩ : ∃ m : Nat, m = c.length := ⟨_, rfl⟩
  obtain ⟨q, hq⟩ : ∃ q, q = (x == 10) := ⟨_, rfl⟩
  rw [← hS, ← hm] at hs hsl hx1
  rw [← hT] at hsl he hx1
  rw [← hq] at he ⊢
  rw [← hS]
  have h1 : IntKind.i64.wrap ((m : Int) + 1 - 1) = (m : Int) := by rw [show (m : Int) + 1 - 1 = m by omega]; exact IntWalk.i64_in _ (by omega)
  have h2 : (1 : Int) ≤ (m : Int) + 1 := by omega
  have h4 : wrap64 (m : Int) = m := by rw [← IntWalk.i64_left]; exact IntWalk.i64_in _ (by omega)
  have h3 : (m : Int) + 1 - 1 = (m : Int) := by omega
  clear hS hT hm hq
  go_enter Tryz.func84, Tryz.ntmps84
  go_wp2
  go_ret
  exact ⟨rfl, rfl⟩
theorem cutsuf0_nil (w : World) : Calls Tryz.prog 75 #[.string (bs []), .string ⟨#[10]⟩] w fun e w' => e = .returned (.tuple #[.string (bs []), .bool false]) ∧ w' = w := by
  have HI := Lib.hid (hassuf_nil w)
  go_enter Tryz.func75, Tryz.ntmps75
  go_wp2_with fail
  refine HI.out.mono ?_
  rintro e w' ⟨rfl, hw⟩
  subst hw
  go_wp2
  go_ret2
  exact ⟨rfl, rfl⟩
set_option maxRecDepth 100000 in
theorem cutsuf0_snoc (c : List UInt8) (x : UInt8) (w : World) (hc : c.length ≤ 1048576) : Calls Tryz.prog 75 #[.string (bs (c ++ [x])), .string ⟨#[10]⟩] w fun e w' =>
    e = .returned (.tuple #[.string (if x = 10 then bs c else bs (c ++ [x])), .bool (x == 10)]) ∧ w' = w := by
  have HI := Lib.hid (hassuf_snoc c x w hc)
  have hs : (bs (c ++ [x])).size = c.length + 1 := by rw [bs_len]; simp
  have hsl : ∀ w, (Instr.slice 9 (.string (bs (c ++ [x]))) none (some (.int .i64 (c.length : Int))) none).run Tryz.prog w = .ok (.string (bs c)) w := fun w => by
    rw [run_slice_string_h w 9 _ Tryz.underlying9 .i64 (c.length : Int) (by omega) (by rw [hs]; omega), Int.toNat_natCast]
    congr 2
    apply bs_of
    simp [bs]
  have hx1 : (bs (c ++ [x])).extract 0 c.length = bs c := by
    apply bs_of
    simp [bs]
  by_cases hx : x = 10
  · subst hx
    rw [if_pos rfl]
    have h5 : ((10 : UInt8) == 10) = true := rfl
    rw [h5] at HI ⊢
    obtain ⟨S, hS⟩ : ∃ S, S = bs (c ++ [10]) := ⟨_, rfl⟩
    obtain ⟨T, hT⟩ : ∃ T, T = bs c := ⟨_, rfl⟩
    obtain ⟨m, hm⟩ : ∃ m : Nat, m = c.length := ⟨_, rfl⟩
    rw [← hS, ← hm] at hs hsl hx1
    rw [← hS] at HI
    rw [← hT] at hsl hx1
    rw [← hS, ← hT]
    have h1 : IntKind.i64.wrap ((m : Int) + 1 - 1) = (m : Int) := by rw [show (m : Int) + 1 - 1 = m by omega]; exact IntWalk.i64_in _ (by omega)
    have h4 : wrap64 (m : Int) = m := by rw [← IntWalk.i64_left]; exact IntWalk.i64_in _ (by omega)
    clear hS hT hm h5
    go_enter Tryz.func75, Tryz.ntmps75
    go_wp2_with fail
    refine HI.out.mono ?_
    rintro e w' ⟨rfl, hw⟩
    subst hw
    go_wp2
    go_ret2
    exact ⟨rfl, rfl⟩
  · rw [if_neg hx]
    have h5 : (x == 10) = false := beq_eq_false_iff_ne.2 hx
    rw [h5] at HI ⊢
    clear hsl hx1 hs
    go_enter Tryz.func75, Tryz.ntmps75
    go_wp2_with fail
    refine HI.out.mono ?_
    rintro e w' ⟨rfl, hw⟩
    subst hw
    go_wp2
    go_ret2
    exact ⟨rfl, rfl⟩
/-- What CutSuffix leaves of a line, and whether it ended. -/
def sufC (l : List UInt8) : List UInt8 := if l.getLast? = some 10 then l.dropLast else l
theorem cutsuf_any (l : List UInt8) (w : World) (hl : l.length ≤ 1048576) : Calls Tryz.prog 37 #[.string (bs l), .string ⟨#[10]⟩] w fun e w' => e = .returned (.tuple #[.string (bs (sufC l)), .bool (decide (l.getLast? = some 10))]) ∧ w' = w := by
  have h0 : Calls Tryz.prog 75 #[.string (bs l), .string ⟨#[10]⟩] w fun e w' => e = .returned (.tuple #[.string (bs (sufC l)), .bool (decide (l.getLast? = some 10))]) ∧ w' = w := by
    rcases List.eq_nil_or_concat l with rfl | ⟨c, x, rfl⟩
    · exact cutsuf0_nil w
    · rw [List.concat_eq_append] at hl ⊢
      refine (cutsuf0_snoc c x w (by simp at hl; omega)).mono ?_
      rintro e w' ⟨rfl, hw⟩
      refine ⟨?_, hw⟩
      unfold sufC
      rw [List.getLast?_concat, List.dropLast_concat]
      by_cases hx : x = 10
      · subst hx; simp
      · rw [if_neg hx, if_neg (by simpa using hx), beq_eq_false_iff_ne.2 hx, decide_eq_false (by simpa using hx)]
  have HI := Lib.hid h0
  obtain ⟨X, hX⟩ : ∃ X, X = bs (sufC l) := ⟨_, rfl⟩
  obtain ⟨q, hq⟩ : ∃ q, q = decide (l.getLast? = some 10) := ⟨_, rfl⟩
  rw [← hX, ← hq] at HI
  rw [← hX, ← hq]
  clear h0 hX hq hl
  go_enter Tryz.func37, Tryz.ntmps37
  go_wp2_with fail
  refine HI.out.mono ?_
  rintro e w' ⟨rfl, hw⟩
  subst hw
  go_wp2
  go_ret2
  exact ⟨rfl, rfl⟩
end Go.Proofs.YthlckipcgogogaaGreatDoor
