/- Contract of package labels: Same. -/
import Derived.Test.YtcojjhokcebogaaDoorLbCmp
import Derived.Test.YtcojjhokcebogaaDoorBytesEq
import Derived.Deep.RegionHeld3
namespace Go.Proofs.YtcojjhokcebogaaDoor
open Go.RowKit

/-- Two messages are equal. -/
def SameM (sv nw pr to fr sl : Int) (l : List Int) (sv' nw' pr' to' fr' sl' : Int) (l' : List Int) : Prop := sv = sv' ∧ nw = nw' ∧ pr = pr' ∧ to = to' ∧ fr = fr' ∧ sl = sl' ∧ l = l'
instance (sv nw pr to fr sl : Int) (l : List Int) (sv' nw' pr' to' fr' sl' : Int) (l' : List Int) : Decidable (SameM sv nw pr to fr sl l sv' nw' pr' to' fr' sl' l') := by unfold SameM; infer_instance
set_option maxHeartbeats 1000000 in
theorem same_yes (sv nw pr to fr sl : Int) (a : Option Addr) (n c : Nat) (l : List Int) (a' : Option Addr) (n' c' : Nat) (l' : List Int) (w : World) (h : Row .u8 w a n c l) (h' : Row .u8 w a' n' c' l') :
    Calls Tryd.prog 28 #[.agg #[.int .u8 sv, .int .u8 nw, .int .u8 pr, .int .u16 to, .int .u16 fr, .int .u8 sl, .slice a n c], .agg #[.int .u8 sv, .int .u8 nw, .int .u8 pr, .int .u16 to, .int .u16 fr, .int .u8 sl, .slice a' n' c']] w
      fun e w' => e = .returned (.bool (decide (l = l'))) ∧ Below w.heap.size w w' := by
  have hb2 := below_two w (.cells #[.int .u8 sv, .int .u8 nw, .int .u8 pr, .int .u16 to, .int .u16 fr, .int .u8 sl, .slice a n c] 38) (.cells #[.int .u8 sv, .int .u8 nw, .int .u8 pr, .int .u16 to, .int .u16 fr, .int .u8 sl, .slice a' n' c'] 38)
  have HE := Lib.hid (bytesEqual_any a a' n c n' c' l l' _ (h.later hb2) (h'.later hb2))
  have HB := Lib.hid hb2
  clear h h' hb2
  go_enter Tryd.func28, Tryd.ntmps28
  go_wp2_with fail
  refine (HE.out).mono ?_
  rintro e w' ⟨rfl, rfl⟩
  go_wp2
  go_ret
  exact ⟨rfl, HB.out⟩
set_option maxHeartbeats 1000000 in
theorem same_no (sv nw pr to fr sl : Int) (a : Option Addr) (n c : Nat) (sv' nw' pr' to' fr' sl' : Int) (a' : Option Addr) (n' c' : Nat) (w : World) (h : ¬ (sv = sv' ∧ nw = nw' ∧ pr = pr' ∧ to = to' ∧ fr = fr' ∧ sl = sl')) :
    Calls Tryd.prog 28 #[.agg #[.int .u8 sv, .int .u8 nw, .int .u8 pr, .int .u16 to, .int .u16 fr, .int .u8 sl, .slice a n c], .agg #[.int .u8 sv', .int .u8 nw', .int .u8 pr', .int .u16 to', .int .u16 fr', .int .u8 sl', .slice a' n' c']] w
      fun e w' => e = .returned (.bool false) ∧ Below w.heap.size w w' := by
  have HB := Lib.hid (below_two w (.cells #[.int .u8 sv, .int .u8 nw, .int .u8 pr, .int .u16 to, .int .u16 fr, .int .u8 sl, .slice a n c] 38) (.cells #[.int .u8 sv', .int .u8 nw', .int .u8 pr', .int .u16 to', .int .u16 fr', .int .u8 sl', .slice a' n' c'] 38))
  by_cases esv : sv = sv'
  · subst esv
    by_cases enw : nw = nw'
    · subst enw
      by_cases epr : pr = pr'
      · subst epr
        by_cases eto : to = to'
        · subst eto
          by_cases efr : fr = fr'
          · subst efr
            by_cases esl : sl = sl'
            · subst esl
              exact absurd ⟨rfl, rfl, rfl, rfl, rfl, rfl⟩ h
            · have hq : (sl == sl') = false := by simpa using esl
              clear h esl
              go_enter Tryd.func28, Tryd.ntmps28
              go_wp2
              go_ret
              exact ⟨rfl, HB.out⟩
          · have hq : (fr == fr') = false := by simpa using efr
            clear h efr
            go_enter Tryd.func28, Tryd.ntmps28
            go_wp2
            go_ret
            exact ⟨rfl, HB.out⟩
        · have hq : (to == to') = false := by simpa using eto
          clear h eto
          go_enter Tryd.func28, Tryd.ntmps28
          go_wp2
          go_ret
          exact ⟨rfl, HB.out⟩
      · have hq : (pr == pr') = false := by simpa using epr
        clear h epr
        go_enter Tryd.func28, Tryd.ntmps28
        go_wp2
        go_ret
        exact ⟨rfl, HB.out⟩
    · have hq : (nw == nw') = false := by simpa using enw
      clear h enw
      go_enter Tryd.func28, Tryd.ntmps28
      go_wp2
      go_ret
      exact ⟨rfl, HB.out⟩
  · have hq : (sv == sv') = false := by simpa using esv
    clear h esv
    go_enter Tryd.func28, Tryd.ntmps28
    go_wp2
    go_ret
    exact ⟨rfl, HB.out⟩
theorem same_any (sv nw pr to fr sl : Int) (a : Option Addr) (n c : Nat) (l : List Int) (sv' nw' pr' to' fr' sl' : Int) (a' : Option Addr) (n' c' : Nat) (l' : List Int) (w : World) (h : Row .u8 w a n c l) (h' : Row .u8 w a' n' c' l') :
    Calls Tryd.prog 28 #[.agg #[.int .u8 sv, .int .u8 nw, .int .u8 pr, .int .u16 to, .int .u16 fr, .int .u8 sl, .slice a n c], .agg #[.int .u8 sv', .int .u8 nw', .int .u8 pr', .int .u16 to', .int .u16 fr', .int .u8 sl', .slice a' n' c']] w
      fun e w' => e = .returned (.bool (decide (SameM sv nw pr to fr sl l sv' nw' pr' to' fr' sl' l'))) ∧ Below w.heap.size w w' := by
  by_cases hf : sv = sv' ∧ nw = nw' ∧ pr = pr' ∧ to = to' ∧ fr = fr' ∧ sl = sl'
  · obtain ⟨rfl, rfl, rfl, rfl, rfl, rfl⟩ := hf
    rw [show decide (SameM sv nw pr to fr sl l sv nw pr to fr sl l') = decide (l = l') by simp [SameM]]
    exact same_yes sv nw pr to fr sl a n c l a' n' c' l' w h h'
  · rw [decide_eq_false (show ¬ SameM sv nw pr to fr sl l sv' nw' pr' to' fr' sl' l' from fun hs => hf ⟨hs.1, hs.2.1, hs.2.2.1, hs.2.2.2.1, hs.2.2.2.2.1, hs.2.2.2.2.2.1⟩)]
    exact same_no sv nw pr to fr sl a n c sv' nw' pr' to' fr' sl' a' n' c' w hf
end Go.Proofs.YtcojjhokcebogaaDoor
