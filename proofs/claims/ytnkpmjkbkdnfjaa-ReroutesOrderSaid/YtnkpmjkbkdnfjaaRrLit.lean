/- Layer 17: a slice literal of one item, as one step. -/
import Derived.Test.YtnkpmjkbkdnfjaaRrOrd
namespace Go.Proofs.Ytnkpmjkbkdnfjaa
open Go.RowKit

theorem run_build_it (c0 c1 c2 c3 c4 c5 c6 : Int) (s : Option Addr) (n c : Nat) (w : World) :
    (Instr.buildSlice 41 1 #[(0, .agg #[.int .i64 c0, .int .u8 c1, .int .u8 c2, .int .u8 c3, .int .u16 c4, .int .u16 c5, .int .u8 c6, .slice s n c])]).run Try.prog w =
      .ok (.slice (some ⟨w.heap.size, 0, none⟩) 1 1) (w.alloc (.cells #[.int .i64 c0, .int .u8 c1, .int .u8 c2, .int .u8 c3, .int .u16 c4, .int .u16 c5, .int .u8 c6, .slice s n c] 56)) := by
  kernel_rfl
theorem wpList_build_it {w : World} {ops : Array Oper} {rest : List Oper} {o : Oper} {a : Act} {Q : Exit → Act → World → Prop} (hgd : Region.wanted o (yielded ops a.tmps) = true) (x : Operand)
    (ho : o.op = .buildSlice 41 1 #[(0, x)]) (c0 c1 c2 c3 c4 c5 c6 : Int) (s : Option Addr) (n c : Nat)
    (hx : a.eval x = .agg #[.int .i64 c0, .int .u8 c1, .int .u8 c2, .int .u8 c3, .int .u16 c4, .int .u16 c5, .int .u8 c6, .slice s n c])
    (hK : wpList Try.prog ops Q rest (a.put o.dst (.slice (some ⟨w.heap.size, 0, none⟩) 1 1)) (w.alloc (.cells #[.int .i64 c0, .int .u8 c1, .int .u8 c2, .int .u8 c3, .int .u16 c4, .int .u16 c5, .int .u8 c6, .slice s n c] 56))) :
    wpList Try.prog ops Q (o :: rest) a w := by
  refine wpList_step fun K hK' => ?_
  rw [if_pos hgd]
  have hrun := run_build_it c0 c1 c2 c3 c4 c5 c6 s n c w
  unfold Oper.wp execOp
  simp only [ho, List.map_toArray, List.map_cons, List.map_nil, hx, Sem.run_bind, hrun, Result.andThen_ok, Sem.run_pure]
  exact hK' _ _ hK
end Go.Proofs.Ytnkpmjkbkdnfjaa
