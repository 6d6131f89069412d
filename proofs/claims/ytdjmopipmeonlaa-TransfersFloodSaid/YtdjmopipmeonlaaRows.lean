/-
  No cell of these rows narrows 'for every input' (looked for: loops, veiled, ifaces, maps, wideKeys, modest, calm, conditions, laid).
  DERIVED. THE GIVEN ROWS OF THIS SEAT. 3 by the template 'for every input the law returns true; each argument reads behind the call as it read before'; 0 by the template 'total and deterministic' (their statements: YtdjmopipmeonlaaTotals.lean).
  GIVEN WITH THE SEED: the statements are not yours to turn. If you find one false, say at which input.
  Laid BY PROGRAM, IN A SANDBOX (cutbox-rows.mjs): the forced cells as the released guide's own fill.sh prints them over the translation 70b9985962545d4a… (all of the seat's roots in one cut). By AI agents, Wed Nov 11 2026. No macro, syntax, notation, axiom, sorry.
-/
import Derived.Test.YtdjmopipmeonlaaChecked
import GoSem.Claim
import GoSem.ClaimJoined
import GoSem.ClaimMapViews
import Derived.JoinedTies
import Derived.KernelRfl
namespace Go.Proofs.Ytdjmopipmeonlaa
/- THE CELL 'sum', in the pinned program and in every row, IS THE sha256 OF THE DUMP (.gsa) THAT YtdjmopipmeonlaaProg.lean LOADS. Nothing in Lean hashes anything: it is a label: what it is worth is what the hold of that sum in a sandbox is worth. -/
noncomputable def Try.pinned : Pinned := { name := "ytdjmopipmeonlaa", sum := "70b9985962545d4a66b32e0c23dcf3c7b31493078d3f1d79b5eed3b940c5f695", checked := Try.checked }
namespace Rows
def none {H : Type} : Left H := { results := [], args := [] }

/-- 'pointcodelaw15.TransfersPlay': WHATEVER THE INPUT: true; the input reads as it did. -/
def transfersPlaySpec : ChangeSpec := { name := "transfersPlay", fn := fun _ => fun
  | [d1, d2, d3] => { results := [.lit (.bool true)], args := [d1, d2, d3] }
  | _ => none }
def transfersPlayRow : OpenClaim := { program := "ytdjmopipmeonlaa", sum := "70b9985962545d4a66b32e0c23dcf3c7b31493078d3f1d79b5eed3b940c5f695", func := "pointcode/pointcodelaw15.TransfersPlay", spec := "transfersPlay", unfollowed := true, recurses := true, plainKeys := false, apart := false }
def TransfersPlaySaid : Prop := transfersPlayRow.holds Try.pinned (OpenSpec.ofChange transfersPlaySpec)

/-- ITS FALSE NEIGHBOUR: 'it returns false'. Refute it at one input. -/
def transfersPlayWrong : ChangeSpec := { name := "transfersPlay", fn := fun _ => fun
  | [d1, d2, d3] => { results := [.lit (.bool false)], args := [d1, d2, d3] }
  | _ => none }
def TransfersPlayWrongFalsely : Prop := transfersPlayRow.holds Try.pinned (OpenSpec.ofChange transfersPlayWrong)

/-- 'pointcodelaw15.TransfersFlood': WHATEVER THE INPUT: true; the input reads as it did. -/
def transfersFloodSpec : ChangeSpec := { name := "transfersFlood", fn := fun _ => fun
  | [d1, d2] => { results := [.lit (.bool true)], args := [d1, d2] }
  | _ => none }
def transfersFloodRow : OpenClaim := { program := "ytdjmopipmeonlaa", sum := "70b9985962545d4a66b32e0c23dcf3c7b31493078d3f1d79b5eed3b940c5f695", func := "pointcode/pointcodelaw15.TransfersFlood", spec := "transfersFlood", unfollowed := true, recurses := true, plainKeys := false, apart := false }
def TransfersFloodSaid : Prop := transfersFloodRow.holds Try.pinned (OpenSpec.ofChange transfersFloodSpec)

/-- ITS FALSE NEIGHBOUR: 'it returns false'. Refute it at one input. -/
def transfersFloodWrong : ChangeSpec := { name := "transfersFlood", fn := fun _ => fun
  | [d1, d2] => { results := [.lit (.bool false)], args := [d1, d2] }
  | _ => none }
def TransfersFloodWrongFalsely : Prop := transfersFloodRow.holds Try.pinned (OpenSpec.ofChange transfersFloodWrong)

/-- 'pointcodelaw15.TransfersErrors': WHATEVER THE INPUT: true; the input reads as it did. -/
def transfersErrorsSpec : ChangeSpec := { name := "transfersErrors", fn := fun _ => fun
  | [d1, d2, d3] => { results := [.lit (.bool true)], args := [d1, d2, d3] }
  | _ => none }
def transfersErrorsRow : OpenClaim := { program := "ytdjmopipmeonlaa", sum := "70b9985962545d4a66b32e0c23dcf3c7b31493078d3f1d79b5eed3b940c5f695", func := "pointcode/pointcodelaw15.TransfersErrors", spec := "transfersErrors", unfollowed := true, recurses := true, plainKeys := false, apart := false }
def TransfersErrorsSaid : Prop := transfersErrorsRow.holds Try.pinned (OpenSpec.ofChange transfersErrorsSpec)

/-- ITS FALSE NEIGHBOUR: 'it returns false'. Refute it at one input. -/
def transfersErrorsWrong : ChangeSpec := { name := "transfersErrors", fn := fun _ => fun
  | [d1, d2, d3] => { results := [.lit (.bool false)], args := [d1, d2, d3] }
  | _ => none }
def TransfersErrorsWrongFalsely : Prop := transfersErrorsRow.holds Try.pinned (OpenSpec.ofChange transfersErrorsWrong)

/- THE SECOND FORM. 'bulk': how many values and letters a reading holds, each counted each time it is reached (what is shared counts as often as it is met; a slice's spare places count too). A statement '..UptoSaid' is the law's where the arguments, and the package variables that the reading takes, are together of bulk at most 1048576: NARROWER than '..Said'. Prove '..Said' where nothing that the law and all that it calls make is longer than what came in: it says more and counts as full. Else prove '..UptoSaid'. A law counts once. -/
mutual
def uptoBulk {H : Type} : DataW H → Nat
  | .lit (.string bytes) => bytes.length + 1
  | .lit _ => 1
  | .nil => 1
  | .ptr d => uptoBulk d + 1
  | .slice elems spare => uptoBulkAll elems + uptoBulkAll spare + 1
  | .agg parts => uptoBulkAll parts + 1
  | .iface _ d => uptoBulk d + 1
  | .map entries => uptoBulkEntries entries + 1
  | .held _ => 1
def uptoBulkAll {H : Type} : List (DataW H) → Nat
  | [] => 0
  | d :: r => uptoBulk d + uptoBulkAll r
def uptoBulkEntries {H : Type} : List (Lit × DataW H) → Nat
  | [] => 0
  | x :: r => uptoBulkEntry x + uptoBulkEntries r
def uptoBulkEntry {H : Type} : Lit × DataW H → Nat
  | (.string bytes, d) => bytes.length + uptoBulk d + 1
  | (_, d) => uptoBulk d + 1
 end
def uptoSmall : (H : Type) → List (DataW H) → Bool := fun _ ds => decide (uptoBulkAll ds ≤ 1048576)
def OpenSpec.upto (s : _root_.Go.ChangeSpec) : _root_.Go.OpenSpec := { _root_.Go.OpenSpec.ofChange s with cond := some uptoSmall }

/-- 'pointcodelaw15.TransfersPlay', WHERE WHAT IT READS IS OF BULK AT MOST 1048576: true; the input reads as it did. -/
def transfersPlayUptoRow : OpenClaim := { program := "ytdjmopipmeonlaa", sum := "70b9985962545d4a66b32e0c23dcf3c7b31493078d3f1d79b5eed3b940c5f695", func := "pointcode/pointcodelaw15.TransfersPlay", spec := "transfersPlay", unfollowed := true, recurses := true, plainKeys := false, apart := false, narrowed := true }
def TransfersPlayUptoSaid : Prop := transfersPlayUptoRow.holds Try.pinned (OpenSpec.upto transfersPlaySpec)

/-- 'pointcodelaw15.TransfersFlood', WHERE WHAT IT READS IS OF BULK AT MOST 1048576: true; the input reads as it did. -/
def transfersFloodUptoRow : OpenClaim := { program := "ytdjmopipmeonlaa", sum := "70b9985962545d4a66b32e0c23dcf3c7b31493078d3f1d79b5eed3b940c5f695", func := "pointcode/pointcodelaw15.TransfersFlood", spec := "transfersFlood", unfollowed := true, recurses := true, plainKeys := false, apart := false, narrowed := true }
def TransfersFloodUptoSaid : Prop := transfersFloodUptoRow.holds Try.pinned (OpenSpec.upto transfersFloodSpec)

/-- 'pointcodelaw15.TransfersErrors', WHERE WHAT IT READS IS OF BULK AT MOST 1048576: true; the input reads as it did. -/
def transfersErrorsUptoRow : OpenClaim := { program := "ytdjmopipmeonlaa", sum := "70b9985962545d4a66b32e0c23dcf3c7b31493078d3f1d79b5eed3b940c5f695", func := "pointcode/pointcodelaw15.TransfersErrors", spec := "transfersErrors", unfollowed := true, recurses := true, plainKeys := false, apart := false, narrowed := true }
def TransfersErrorsUptoSaid : Prop := transfersErrorsUptoRow.holds Try.pinned (OpenSpec.upto transfersErrorsSpec)

end Rows
end Go.Proofs.Ytdjmopipmeonlaa
