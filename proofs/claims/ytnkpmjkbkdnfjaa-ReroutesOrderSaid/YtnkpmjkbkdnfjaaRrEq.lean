/- Layer 17: ways compared as structs. -/
import Derived.Test.YtnkpmjkbkdnfjaaRrAt
import Derived.Laws.StructEq
namespace Go.Proofs.Ytnkpmjkbkdnfjaa
open Go.RowKit

set_option maxHeartbeats 1000000 in
theorem eqLk (n : Nat) (b c d f g h : Int) (w : World) : (Op.equalIn (n + 1 + 1) 32 (.agg #[.int .u16 b, .int .u16 c, .int .u8 d]) (.agg #[.int .u16 f, .int .u16 g, .int .u8 h])).run Try.prog w = .ok (b == f && (c == g && d == h)) w := by
  rw [run_equalIn_struct w (n + 1) 32 _ _ (by kernel_rfl) (by kernel_rfl)]
  simp only [Program.fieldsOf, Try.underlying32]
  simp only [Op.eqFields]
  go_simp
  by_cases h1 : b = f <;> by_cases h2 : c = g <;> by_cases h3 : d = h <;> simp [h1, h2, h3]
set_option maxHeartbeats 1000000 in
theorem eqWn (n : Nat) (a b c d e f g h : Int) (w : World) : (Op.equalIn (n + 1 + 1 + 1) 34 (.agg #[.int .u16 a, .int .u16 b, .int .u16 c, .int .u8 d]) (.agg #[.int .u16 e, .int .u16 f, .int .u16 g, .int .u8 h])).run Try.prog w = .ok (a == e && (b == f && (c == g && d == h))) w := by
  have HL := eqLk n
  rw [run_equalIn_struct w (n + 1 + 1) 34 _ _ (by kernel_rfl) (by kernel_rfl)]
  simp only [Program.fieldsOf, Try.underlying34]
  simp only [Op.eqFields]
  go_simp
  by_cases h0 : a = e <;> by_cases h1 : b = f <;> by_cases h2 : c = g <;> by_cases h3 : d = h <;> simp [h0, h1, h2, h3]
theorem wy_dec (a b c d e f g h : Int) : (a == e && (b == f && (c == g && d == h))) = decide ((⟨a, b, c, d⟩ : Wy) = ⟨e, f, g, h⟩) := by
  by_cases h0 : a = e <;> by_cases h1 : b = f <;> by_cases h2 : c = g <;> by_cases h3 : d = h <;> simp [h0, h1, h2, h3]
theorem eqWy (a b c d e f g h : Int) (w : World) : (Op.equalIn 10000 34 (.agg #[.int .u16 a, .int .u16 b, .int .u16 c, .int .u8 d]) (.agg #[.int .u16 e, .int .u16 f, .int .u16 g, .int .u8 h])).run Try.prog w = .ok (decide ((⟨a, b, c, d⟩ : Wy) = ⟨e, f, g, h⟩)) w := by
  rw [← wy_dec]
  exact eqWn 9997 a b c d e f g h w
theorem eqlWy (a b c d e f g h : Int) (w : World) : (binOp .eql 34 (.agg #[.int .u16 a, .int .u16 b, .int .u16 c, .int .u8 d]) (.agg #[.int .u16 e, .int .u16 f, .int .u16 g, .int .u8 h])).run Try.prog w = .ok (.bool (decide ((⟨a, b, c, d⟩ : Wy) = ⟨e, f, g, h⟩))) w := by
  rw [run_eql_struct, eqWy]; rfl
theorem neqlWy (a b c d e f g h : Int) (w : World) : (binOp .neq 34 (.agg #[.int .u16 a, .int .u16 b, .int .u16 c, .int .u8 d]) (.agg #[.int .u16 e, .int .u16 f, .int .u16 g, .int .u8 h])).run Try.prog w = .ok (.bool (!decide ((⟨a, b, c, d⟩ : Wy) = ⟨e, f, g, h⟩))) w := by
  have h1 := eqWy a b c d e f g h w
  simp only [binOp, Sem.run_bind, Op.equal, Op.maxDepth, h1]
  rfl
set_option maxHeartbeats 1000000 in
theorem eqLbN (n : Nat) (b c d f g h : Int) (w : World) : (Op.equalIn (n + 1 + 1) 51 (.agg #[.int .u16 b, .int .u16 c, .int .u8 d]) (.agg #[.int .u16 f, .int .u16 g, .int .u8 h])).run Try.prog w = .ok (b == f && (c == g && d == h)) w := by
  rw [run_equalIn_struct w (n + 1) 51 _ _ (by kernel_rfl) (by kernel_rfl)]
  simp only [Program.fieldsOf, Try.underlying51]
  simp only [Op.eqFields]
  go_simp
  by_cases h1 : b = f <;> by_cases h2 : c = g <;> by_cases h3 : d = h <;> simp [h1, h2, h3]
theorem eqlLb (b c d : Int) (w : World) : (binOp .eql 51 (.agg #[.int .u16 b, .int .u16 c, .int .u8 d]) (.agg #[.int .u16 b, .int .u16 c, .int .u8 d])).run Try.prog w = .ok (.bool true) w := by
  rw [run_eql_struct, show (10000 : Nat) = 9998 + 1 + 1 from rfl, eqLbN]
  simp
end Go.Proofs.Ytnkpmjkbkdnfjaa
