/- Contracts: After, Ahead. -/
import Derived.Test.YtdjnflfcolpccaaUnBase
namespace Go.Proofs.Ytdjnflfcolpccaa
open Go.RowKit

/-- n counted modulo 128. -/
theorem after_any (n k : Int) (w : World) (_h0 : 0 ≤ n) (_h1 : n ≤ 255) :
    Calls Try.prog 48 #[.int .u8 n, .int .i64 k] w fun e w' => e = .returned (.int .u8 ((n + k) % 128)) ∧ w = w' := by
  have ha := and_last (x := (n + k) % 256) (by omega) (by omega)
  have e : (n + k) % 256 % 128 = (n + k) % 128 := by omega
  rw [e] at ha
  have HA := Lib.hid ha
  clear ha e
  go_enter Try.func48, Try.ntmps48
  go_wp2
  go_ret
  exact ⟨ret_int HA.out, rfl⟩
theorem ahead_any (n t : Int) (w : World) (_h0 : 0 ≤ n) (_h1 : n ≤ 255) (_h2 : 0 ≤ t) (_h3 : t ≤ 255) :
    Calls Try.prog 49 #[.int .u8 n, .int .u8 t] w fun e w' => e = .returned (.int .i64 ((t - n) % 128)) ∧ w = w' := by
  have ha := and_last (x := (t - n) % 256) (by omega) (by omega)
  have e : (t - n) % 256 % 128 = (t - n) % 128 := by omega
  rw [e] at ha
  have HA := Lib.hid ha
  clear ha e
  go_enter Try.func49, Try.ntmps49
  go_wp2
  go_ret
  refine ⟨ret_int ?_, rfl⟩
  show wrap64 (bits BinOp.and IntKind.u8 ((t - n) % 256) 127) = _
  rw [HA.out]
  unfold wrap64
  omega
end Go.Proofs.Ytdjnflfcolpccaa
