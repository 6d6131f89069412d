/- The statements' own function same. -/
import Derived.Test.YtcojjhokcebogaaDoorLbSame
namespace Go.Proofs.YtcojjhokcebogaaDoor
open Go.RowKit

set_option maxHeartbeats 1000000 in
theorem lsame_yes (sv nw pr to fr sl : Int) (a : Option Addr) (n c : Nat) (l : List Int) (a' : Option Addr) (n' c' : Nat) (l' : List Int) (w : World) (h : Row .u8 w a n c l) (h' : Row .u8 w a' n' c' l') :
    Calls Tryd.prog 22 #[.agg #[.int .u8 sv, .int .u8 nw, .int .u8 pr, .int .u16 to, .int .u16 fr, .int .u8 sl, .slice a n c], .agg #[.int .u8 sv, .int .u8 nw, .int .u8 pr, .int .u16 to, .int .u16 fr, .int .u8 sl, .slice a' n' c']] w
      fun e w' => e = .returned (.bool (decide (l = l'))) ∧ Below w.heap.size w w' := by
  have hb2 := below_two w (.cells #[.int .u8 sv, .int .u8 nw, .int .u8 pr, .int .u16 to, .int .u16 fr, .int .u8 sl, .slice a n c] 38) (.cells #[.int .u8 sv, .int .u8 nw, .int .u8 pr, .int .u16 to, .int .u16 fr, .int .u8 sl, .slice a' n' c'] 38)
  have r1 := row_string a n c l _ (h.later hb2)
  have r2 := row_string a' n' c' l' _ (h'.later hb2)
  have o1 := fun x hx => wf_u8.1 (h.wf x hx)
  have o2 := fun x hx => wf_u8.1 (h'.wf x hx)
  have HB := Lib.hid hb2
  by_cases he : l = l'
  · subst he
    rw [decide_eq_true rfl]
    clear h h' o1 o2 hb2
    go_enter Tryd.func22, Tryd.ntmps22
    go_wp2
    go_ret
    exact ⟨by simp, HB.out⟩
  · have hne : bs (ofI l) ≠ bs (ofI l') := fun hh => he (ofI_inj o1 o2 (bs_inj hh))
    rw [decide_eq_false he]
    have hb : ((bs (ofI l)).toList == (bs (ofI l')).toList) = false := by
      rw [bs_toList, bs_toList]
      simpa using fun hh => hne (by rw [hh])
    clear h h' o1 o2 hne he hb2
    go_enter Tryd.func22, Tryd.ntmps22
    go_wp2
    go_ret
    exact ⟨rfl, HB.out⟩
set_option maxHeartbeats 1000000 in
theorem lsame_no (sv nw pr to fr sl : Int) (a : Option Addr) (n c : Nat) (sv' nw' pr' to' fr' sl' : Int) (a' : Option Addr) (n' c' : Nat) (w : World) (h : ¬ (sv = sv' ∧ nw = nw' ∧ pr = pr' ∧ to = to' ∧ fr = fr' ∧ sl = sl')) :
    Calls Tryd.prog 22 #[.agg #[.int .u8 sv, .int .u8 nw, .int .u8 pr, .int .u16 to, .int .u16 fr, .int .u8 sl, .slice a n c], .agg #[.int .u8 sv', .int .u8 nw', .int .u8 pr', .int .u16 to', .int .u16 fr', .int .u8 sl', .slice a' n' c']] w
      fun e w' => e = .returned (.bool false) ∧ Below w.heap.size w w' := by
  have HB := Lib.hid (below_two w (.cells #[.int .u8 sv, .int .u8 nw, .int .u8 pr, .int .u16 to, .int .u16 fr, .int .u8 sl, .slice a n c] 38) (.cells #[.int .u8 sv', .int .u8 nw', .int .u8 pr', .int .u16 to', .int .u16 fr', .int .u8 sl', .slice a' n' c'] 38))
  by_cases esv : sv = sv'
  · subst esv
    by_cases enw : nw = nw'
    · subst enw
      by_cases epr : pr = pr'
      · subst epr
        by_cases eto : to = to'
        · subst eto
          by_cases efr : fr = fr'
          · subst efr
            by_cases esl : sl = sl'
            · subst esl
              exact absurd ⟨rfl, rfl, rfl, rfl, rfl, rfl⟩ h
            · have hq : (sl == sl') = false := by simpa using esl
              clear h esl
              go_enter Tryd.func22, Tryd.ntmps22
              go_wp2
              go_ret
              exact ⟨rfl, HB.out⟩
          · have hq : (fr == fr') = false := by simpa using efr
            clear h efr
            go_enter Tryd.func22, Tryd.ntmps22
            go_wp2
            go_ret
            exact ⟨rfl, HB.out⟩
        · have hq : (to == to') = false := by simpa using eto
          clear h eto
          go_enter Tryd.func22, Tryd.ntmps22
          go_wp2
          go_ret
          exact ⟨rfl, HB.out⟩
      · have hq : (pr == pr') = false := by simpa using epr
        clear h epr
        go_enter Tryd.func22, Tryd.ntmps22
        go_wp2
        go_ret
        exact ⟨rfl, HB.out⟩
    · have hq : (nw == nw') = false := by simpa using enw
      clear h enw
      go_enter Tryd.func22, Tryd.ntmps22
      go_wp2
      go_ret
      exact ⟨rfl, HB.out⟩
  · have hq : (sv == sv') = false := by simpa using esv
    clear h esv
    go_enter Tryd.func22, Tryd.ntmps22
    go_wp2
    go_ret
    exact ⟨rfl, HB.out⟩
theorem lsame_any (sv nw pr to fr sl : Int) (a : Option Addr) (n c : Nat) (l : List Int) (sv' nw' pr' to' fr' sl' : Int) (a' : Option Addr) (n' c' : Nat) (l' : List Int) (w : World) (h : Row .u8 w a n c l) (h' : Row .u8 w a' n' c' l') :
    Calls Tryd.prog 22 #[.agg #[.int .u8 sv, .int .u8 nw, .int .u8 pr, .int .u16 to, .int .u16 fr, .int .u8 sl, .slice a n c], .agg #[.int .u8 sv', .int .u8 nw', .int .u8 pr', .int .u16 to', .int .u16 fr', .int .u8 sl', .slice a' n' c']] w
      fun e w' => e = .returned (.bool (decide (SameM sv nw pr to fr sl l sv' nw' pr' to' fr' sl' l'))) ∧ Below w.heap.size w w' := by
  by_cases hf : sv = sv' ∧ nw = nw' ∧ pr = pr' ∧ to = to' ∧ fr = fr' ∧ sl = sl'
  · obtain ⟨rfl, rfl, rfl, rfl, rfl, rfl⟩ := hf
    rw [show decide (SameM sv nw pr to fr sl l sv nw pr to fr sl l') = decide (l = l') by simp [SameM]]
    exact lsame_yes sv nw pr to fr sl a n c l a' n' c' l' w h h'
  · rw [decide_eq_false (show ¬ SameM sv nw pr to fr sl l sv' nw' pr' to' fr' sl' l' from fun hs => hf ⟨hs.1, hs.2.1, hs.2.2.1, hs.2.2.2.1, hs.2.2.2.2.1, hs.2.2.2.2.2.1⟩)]
    exact lsame_no sv nw pr to fr sl a n c sv' nw' pr' to' fr' sl' a' n' c' w hf
end Go.Proofs.YtcojjhokcebogaaDoor
