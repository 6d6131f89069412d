/- Contract: bytes.Equal. -/
import Derived.Test.YtcojjhokcebogaaDoorRowStr
namespace Go.Proofs.YtcojjhokcebogaaDoor
open Go.RowKit

set_option maxRecDepth 100000 in
theorem bytesEqual_any (a1 a2 : Option Addr) (n1 c1 n2 c2 : Nat) (l1 l2 : List Int) (w : World) (h1 : Row .u8 w a1 n1 c1 l1) (h2 : Row .u8 w a2 n2 c2 l2) :
    Calls Tryd.prog 39 #[.slice a1 n1 c1, .slice a2 n2 c2] w fun e w' => e = .returned (.bool (decide (l1 = l2))) ∧ w = w' := by
  have r1 := row_string a1 n1 c1 l1 w h1
  have r2 := row_string a2 n2 c2 l2 w h2
  have o1 := fun x hx => wf_u8.1 (h1.wf x hx)
  have o2 := fun x hx => wf_u8.1 (h2.wf x hx)
  by_cases he : l1 = l2
  · subst he
    rw [decide_eq_true rfl]
    clear h1 h2 o1 o2
    go_enter Tryd.func39, Tryd.ntmps39
    go_wp2
    go_ret
    exact ⟨by simp, rfl⟩
  · have hne : bs (ofI l1) ≠ bs (ofI l2) := fun hh => he (ofI_inj o1 o2 (bs_inj hh))
    rw [decide_eq_false he]
    have hb : ((bs (ofI l1)).toList == (bs (ofI l2)).toList) = false := by
      rw [bs_toList, bs_toList]
      simpa using fun hh => hne (by rw [hh])
    clear h1 h2 o1 o2 hne he
    go_enter Tryd.func39, Tryd.ntmps39
    go_wp2
    go_ret
    exact ⟨rfl, rfl⟩
end Go.Proofs.YtcojjhokcebogaaDoor
