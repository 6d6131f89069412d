/- The statement LabelsLinks: the walk. -/
import Derived.Test.YtcojjhokcebogaaDoorWkLinksU
import Derived.Test.YtcojjhokcebogaaDoorWkLinksD
namespace Go.Proofs.YtcojjhokcebogaaDoor
open Go.RowKit

theorem links_walk (a b cd zp la lb lc : Int) (w : World) (hp : PowOk w) (wa : (Lit.int .u16 a).wf = true) (wb : (Lit.int .u16 b).wf = true) (_wc : (Lit.int .u8 cd).wf = true) (wz : (Lit.int .u16 zp).wf = true) (wla : (Lit.int .u16 la).wf = true) (wlb : (Lit.int .u16 lb).wf = true) (_wlc : (Lit.int .u8 lc).wf = true) :
    Calls Tryd.prog 8 #[.int .u16 a, .int .u16 b, .agg #[.int .u8 cd, .int .u16 zp, .int .u16 la, .int .u16 lb, .int .u8 lc]] w fun e w' => e = .returned (.bool true) ∧ Below w.heap.size w w' := by
  by_cases h : a = b ∨ 16383 < a ∨ 16383 < b ∨ 15 < cd
  · exact links_bad a b cd zp la lb lc w hp (wf_u16.1 wa) (wf_u16.1 wb) (wf_u16.1 wz) (wf_u16.1 wla) (wf_u16.1 wlb) h
  · by_cases h2 : a < b
    · exact links_up a b cd zp la lb lc w hp (wf_u16.1 wa) (wf_u16.1 wb) (wf_u16.1 wz) (wf_u16.1 wla) (wf_u16.1 wlb) h2 (by omega) (by omega)
    · exact links_down a b cd zp la lb lc w hp (wf_u16.1 wa) (wf_u16.1 wb) (wf_u16.1 wz) (wf_u16.1 wla) (wf_u16.1 wlb) (by omega) (by omega) (by omega)
end Go.Proofs.YtcojjhokcebogaaDoor
