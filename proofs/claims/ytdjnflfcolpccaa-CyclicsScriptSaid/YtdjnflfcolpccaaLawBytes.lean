/- Contracts: LawBytes. -/
import Derived.Test.YtdjnflfcolpccaaRefSame
namespace Go.Proofs.Ytdjnflfcolpccaa
open Go.RowKit

set_option maxHeartbeats 400000 in
/-- Bytes of lists that agree, the first without spare capacity: 0. -/
theorem bytes_yes (a1 a2 : Option Addr) (n1 n2 c2 : Nat) (l : List Int) (w : World) (h1 : Row .u8 w a1 n1 n1 l) (h2 : Row .u8 w a2 n2 c2 l) :
    Calls Try.prog 38 #[.slice a1 n1 n1, .slice a2 n2 c2] w fun e w' => e = .returned (.int .i64 0) ∧ ∃ n, w' = w.drewN n := by
  have h := same_any a1 a2 n1 n1 n2 c2 l l w h1 h2
  simp only [decide_true] at h
  have H := Lib.hid h
  clear h h1 h2
  go_enter Try.func38, Try.ntmps38
  go_wp2_with fail
  refine H.out.mono ?_
  rintro e w' ⟨rfl, q, rfl⟩
  go_wp2
  go_ret
  exact ⟨rfl, q, rfl⟩
theorem bytes_other (a1 a2 : Option Addr) (n1 n2 c2 : Nat) (l1 l2 : List Int) (w : World) (h1 : Row .u8 w a1 n1 n1 l1) (h2 : Row .u8 w a2 n2 c2 l2) (hne : l1 ≠ l2) :
    Calls Try.prog 38 #[.slice a1 n1 n1, .slice a2 n2 c2] w fun e w' => e = .returned (.int .i64 1) ∧ ∃ n, w' = w.drewN n := by
  have h := same_any a1 a2 n1 n1 n2 c2 l1 l2 w h1 h2
  simp only [decide_eq_false hne] at h
  have H := Lib.hid h
  clear h h1 h2 hne
  go_enter Try.func38, Try.ntmps38
  go_wp2_with fail
  refine H.out.mono ?_
  rintro e w' ⟨rfl, q, rfl⟩
  go_wp2
  go_ret
  exact ⟨rfl, q, rfl⟩
end Go.Proofs.Ytdjnflfcolpccaa
