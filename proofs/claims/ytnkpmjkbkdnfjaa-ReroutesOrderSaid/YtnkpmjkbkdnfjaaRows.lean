/-
  No cell of these rows narrows 'for every input' (looked for: loops, veiled, ifaces, maps, wideKeys, modest, calm, conditions, laid).
  DERIVED. THE GIVEN ROWS OF THIS SEAT. 6 by the template 'for every input the law returns true; each argument reads behind the call as it read before'; 0 by the template 'total and deterministic' (their statements: YtnkpmjkbkdnfjaaTotals.lean).
  GIVEN WITH THE SEED: the statements are not yours to turn. If you find one false, say at which input.
  Laid BY PROGRAM, IN A SANDBOX (cutbox-rows.mjs): the forced cells as the released guide's own fill.sh prints them over the translation 96fe56649447ea89… (all of the seat's roots in one cut). By AI agents, Wed Nov 11 2026. No macro, syntax, notation, axiom, sorry.
-/
import Derived.Test.YtnkpmjkbkdnfjaaChecked
import GoSem.Claim
import GoSem.ClaimJoined
import GoSem.ClaimMapViews
import Derived.JoinedTies
import Derived.KernelRfl
namespace Go.Proofs.Ytnkpmjkbkdnfjaa
/- THE CELL 'sum', in the pinned program and in every row, IS THE sha256 OF THE DUMP (.gsa) THAT YtnkpmjkbkdnfjaaProg.lean LOADS. Nothing in Lean hashes anything: it is a label: what it is worth is what the hold of that sum in a sandbox is worth. -/
noncomputable def Try.pinned : Pinned := { name := "ytnkpmjkbkdnfjaa", sum := "96fe56649447ea89b513d84606c74d6fa2e29bd9ec46ce7729497af533fac916", checked := Try.checked }
namespace Rows
def none {H : Type} : Left H := { results := [], args := [] }

/-- 'pointcodelaw17.ReroutesPlay': WHATEVER THE INPUT: true; the input reads as it did. -/
def reroutesPlaySpec : ChangeSpec := { name := "reroutesPlay", fn := fun _ => fun
  | [d1, d2] => { results := [.lit (.bool true)], args := [d1, d2] }
  | _ => none }
def reroutesPlayRow : OpenClaim := { program := "ytnkpmjkbkdnfjaa", sum := "96fe56649447ea89b513d84606c74d6fa2e29bd9ec46ce7729497af533fac916", func := "pointcode/pointcodelaw17.ReroutesPlay", spec := "reroutesPlay", apart := false }
def ReroutesPlaySaid : Prop := reroutesPlayRow.holds Try.pinned (OpenSpec.ofChange reroutesPlaySpec)

/-- ITS FALSE NEIGHBOUR: 'it returns false'. Refute it at one input. -/
def reroutesPlayWrong : ChangeSpec := { name := "reroutesPlay", fn := fun _ => fun
  | [d1, d2] => { results := [.lit (.bool false)], args := [d1, d2] }
  | _ => none }
def ReroutesPlayWrongFalsely : Prop := reroutesPlayRow.holds Try.pinned (OpenSpec.ofChange reroutesPlayWrong)

/-- 'pointcodelaw17.ReroutesOrder': WHATEVER THE INPUT: true; the input reads as it did. -/
def reroutesOrderSpec : ChangeSpec := { name := "reroutesOrder", fn := fun _ => fun
  | [d1, d2] => { results := [.lit (.bool true)], args := [d1, d2] }
  | _ => none }
def reroutesOrderRow : OpenClaim := { program := "ytnkpmjkbkdnfjaa", sum := "96fe56649447ea89b513d84606c74d6fa2e29bd9ec46ce7729497af533fac916", func := "pointcode/pointcodelaw17.ReroutesOrder", spec := "reroutesOrder", apart := false }
def ReroutesOrderSaid : Prop := reroutesOrderRow.holds Try.pinned (OpenSpec.ofChange reroutesOrderSpec)

/-- ITS FALSE NEIGHBOUR: 'it returns false'. Refute it at one input. -/
def reroutesOrderWrong : ChangeSpec := { name := "reroutesOrder", fn := fun _ => fun
  | [d1, d2] => { results := [.lit (.bool false)], args := [d1, d2] }
  | _ => none }
def ReroutesOrderWrongFalsely : Prop := reroutesOrderRow.holds Try.pinned (OpenSpec.ofChange reroutesOrderWrong)

/-- 'pointcodelaw17.ReroutesOnce': WHATEVER THE INPUT: true; the input reads as it did. -/
def reroutesOnceSpec : ChangeSpec := { name := "reroutesOnce", fn := fun _ => fun
  | [d1, d2] => { results := [.lit (.bool true)], args := [d1, d2] }
  | _ => none }
def reroutesOnceRow : OpenClaim := { program := "ytnkpmjkbkdnfjaa", sum := "96fe56649447ea89b513d84606c74d6fa2e29bd9ec46ce7729497af533fac916", func := "pointcode/pointcodelaw17.ReroutesOnce", spec := "reroutesOnce", apart := false }
def ReroutesOnceSaid : Prop := reroutesOnceRow.holds Try.pinned (OpenSpec.ofChange reroutesOnceSpec)

/-- ITS FALSE NEIGHBOUR: 'it returns false'. Refute it at one input. -/
def reroutesOnceWrong : ChangeSpec := { name := "reroutesOnce", fn := fun _ => fun
  | [d1, d2] => { results := [.lit (.bool false)], args := [d1, d2] }
  | _ => none }
def ReroutesOnceWrongFalsely : Prop := reroutesOnceRow.holds Try.pinned (OpenSpec.ofChange reroutesOnceWrong)

/-- 'pointcodelaw17.ReroutesTime': WHATEVER THE INPUT: true; the input reads as it did. -/
def reroutesTimeSpec : ChangeSpec := { name := "reroutesTime", fn := fun _ => fun
  | [d1, d2, d3] => { results := [.lit (.bool true)], args := [d1, d2, d3] }
  | _ => none }
def reroutesTimeRow : OpenClaim := { program := "ytnkpmjkbkdnfjaa", sum := "96fe56649447ea89b513d84606c74d6fa2e29bd9ec46ce7729497af533fac916", func := "pointcode/pointcodelaw17.ReroutesTime", spec := "reroutesTime", apart := false }
def ReroutesTimeSaid : Prop := reroutesTimeRow.holds Try.pinned (OpenSpec.ofChange reroutesTimeSpec)

/-- ITS FALSE NEIGHBOUR: 'it returns false'. Refute it at one input. -/
def reroutesTimeWrong : ChangeSpec := { name := "reroutesTime", fn := fun _ => fun
  | [d1, d2, d3] => { results := [.lit (.bool false)], args := [d1, d2, d3] }
  | _ => none }
def ReroutesTimeWrongFalsely : Prop := reroutesTimeRow.holds Try.pinned (OpenSpec.ofChange reroutesTimeWrong)

/-- 'pointcodelaw17.ReroutesOwn': WHATEVER THE INPUT: true; the input reads as it did. -/
def reroutesOwnSpec : ChangeSpec := { name := "reroutesOwn", fn := fun _ => fun
  | [d1, d2] => { results := [.lit (.bool true)], args := [d1, d2] }
  | _ => none }
def reroutesOwnRow : OpenClaim := { program := "ytnkpmjkbkdnfjaa", sum := "96fe56649447ea89b513d84606c74d6fa2e29bd9ec46ce7729497af533fac916", func := "pointcode/pointcodelaw17.ReroutesOwn", spec := "reroutesOwn", apart := false }
def ReroutesOwnSaid : Prop := reroutesOwnRow.holds Try.pinned (OpenSpec.ofChange reroutesOwnSpec)

/-- ITS FALSE NEIGHBOUR: 'it returns false'. Refute it at one input. -/
def reroutesOwnWrong : ChangeSpec := { name := "reroutesOwn", fn := fun _ => fun
  | [d1, d2] => { results := [.lit (.bool false)], args := [d1, d2] }
  | _ => none }
def ReroutesOwnWrongFalsely : Prop := reroutesOwnRow.holds Try.pinned (OpenSpec.ofChange reroutesOwnWrong)

/-- 'pointcodelaw17.ReroutesNone': WHATEVER THE INPUT: true; the input reads as it did. -/
def reroutesNoneSpec : ChangeSpec := { name := "reroutesNone", fn := fun _ => fun
  | [d1, d2] => { results := [.lit (.bool true)], args := [d1, d2] }
  | _ => none }
def reroutesNoneRow : OpenClaim := { program := "ytnkpmjkbkdnfjaa", sum := "96fe56649447ea89b513d84606c74d6fa2e29bd9ec46ce7729497af533fac916", func := "pointcode/pointcodelaw17.ReroutesNone", spec := "reroutesNone", apart := false }
def ReroutesNoneSaid : Prop := reroutesNoneRow.holds Try.pinned (OpenSpec.ofChange reroutesNoneSpec)

/-- ITS FALSE NEIGHBOUR: 'it returns false'. Refute it at one input. -/
def reroutesNoneWrong : ChangeSpec := { name := "reroutesNone", fn := fun _ => fun
  | [d1, d2] => { results := [.lit (.bool false)], args := [d1, d2] }
  | _ => none }
def ReroutesNoneWrongFalsely : Prop := reroutesNoneRow.holds Try.pinned (OpenSpec.ofChange reroutesNoneWrong)

/- THE SECOND FORM. 'bulk': how many values and letters a reading holds, each counted each time it is reached (what is shared counts as often as it is met; a slice's spare places count too). A statement '..UptoSaid' is the law's where the arguments, and the package variables that the reading takes, are together of bulk at most 1048576: NARROWER than '..Said'. Prove '..Said' where nothing that the law and all that it calls make is longer than what came in: it says more and counts as full. Else prove '..UptoSaid'. A law counts once. -/
mutual
def uptoBulk {H : Type} : DataW H → Nat
  | .lit (.string bytes) => bytes.length + 1
  | .lit _ => 1
  | .nil => 1
  | .ptr d => uptoBulk d + 1
  | .slice elems spare => uptoBulkAll elems + uptoBulkAll spare + 1
  | .agg parts => uptoBulkAll parts + 1
  | .iface _ d => uptoBulk d + 1
  | .map entries => uptoBulkEntries entries + 1
  | .held _ => 1
def uptoBulkAll {H : Type} : List (DataW H) → Nat
  | [] => 0
  | d :: r => uptoBulk d + uptoBulkAll r
def uptoBulkEntries {H : Type} : List (Lit × DataW H) → Nat
  | [] => 0
  | x :: r => uptoBulkEntry x + uptoBulkEntries r
def uptoBulkEntry {H : Type} : Lit × DataW H → Nat
  | (.string bytes, d) => bytes.length + uptoBulk d + 1
  | (_, d) => uptoBulk d + 1
 end
def uptoSmall : (H : Type) → List (DataW H) → Bool := fun _ ds => decide (uptoBulkAll ds ≤ 1048576)
def OpenSpec.upto (s : _root_.Go.ChangeSpec) : _root_.Go.OpenSpec := { _root_.Go.OpenSpec.ofChange s with cond := some uptoSmall }

/-- 'pointcodelaw17.ReroutesPlay', WHERE WHAT IT READS IS OF BULK AT MOST 1048576: true; the input reads as it did. -/
def reroutesPlayUptoRow : OpenClaim := { program := "ytnkpmjkbkdnfjaa", sum := "96fe56649447ea89b513d84606c74d6fa2e29bd9ec46ce7729497af533fac916", func := "pointcode/pointcodelaw17.ReroutesPlay", spec := "reroutesPlay", apart := false, narrowed := true }
def ReroutesPlayUptoSaid : Prop := reroutesPlayUptoRow.holds Try.pinned (OpenSpec.upto reroutesPlaySpec)

/-- 'pointcodelaw17.ReroutesOrder', WHERE WHAT IT READS IS OF BULK AT MOST 1048576: true; the input reads as it did. -/
def reroutesOrderUptoRow : OpenClaim := { program := "ytnkpmjkbkdnfjaa", sum := "96fe56649447ea89b513d84606c74d6fa2e29bd9ec46ce7729497af533fac916", func := "pointcode/pointcodelaw17.ReroutesOrder", spec := "reroutesOrder", apart := false, narrowed := true }
def ReroutesOrderUptoSaid : Prop := reroutesOrderUptoRow.holds Try.pinned (OpenSpec.upto reroutesOrderSpec)

/-- 'pointcodelaw17.ReroutesOnce', WHERE WHAT IT READS IS OF BULK AT MOST 1048576: true; the input reads as it did. -/
def reroutesOnceUptoRow : OpenClaim := { program := "ytnkpmjkbkdnfjaa", sum := "96fe56649447ea89b513d84606c74d6fa2e29bd9ec46ce7729497af533fac916", func := "pointcode/pointcodelaw17.ReroutesOnce", spec := "reroutesOnce", apart := false, narrowed := true }
def ReroutesOnceUptoSaid : Prop := reroutesOnceUptoRow.holds Try.pinned (OpenSpec.upto reroutesOnceSpec)

/-- 'pointcodelaw17.ReroutesTime', WHERE WHAT IT READS IS OF BULK AT MOST 1048576: true; the input reads as it did. -/
def reroutesTimeUptoRow : OpenClaim := { program := "ytnkpmjkbkdnfjaa", sum := "96fe56649447ea89b513d84606c74d6fa2e29bd9ec46ce7729497af533fac916", func := "pointcode/pointcodelaw17.ReroutesTime", spec := "reroutesTime", apart := false, narrowed := true }
def ReroutesTimeUptoSaid : Prop := reroutesTimeUptoRow.holds Try.pinned (OpenSpec.upto reroutesTimeSpec)

/-- 'pointcodelaw17.ReroutesOwn', WHERE WHAT IT READS IS OF BULK AT MOST 1048576: true; the input reads as it did. -/
def reroutesOwnUptoRow : OpenClaim := { program := "ytnkpmjkbkdnfjaa", sum := "96fe56649447ea89b513d84606c74d6fa2e29bd9ec46ce7729497af533fac916", func := "pointcode/pointcodelaw17.ReroutesOwn", spec := "reroutesOwn", apart := false, narrowed := true }
def ReroutesOwnUptoSaid : Prop := reroutesOwnUptoRow.holds Try.pinned (OpenSpec.upto reroutesOwnSpec)

/-- 'pointcodelaw17.ReroutesNone', WHERE WHAT IT READS IS OF BULK AT MOST 1048576: true; the input reads as it did. -/
def reroutesNoneUptoRow : OpenClaim := { program := "ytnkpmjkbkdnfjaa", sum := "96fe56649447ea89b513d84606c74d6fa2e29bd9ec46ce7729497af533fac916", func := "pointcode/pointcodelaw17.ReroutesNone", spec := "reroutesNone", apart := false, narrowed := true }
def ReroutesNoneUptoSaid : Prop := reroutesNoneUptoRow.holds Try.pinned (OpenSpec.upto reroutesNoneSpec)

end Rows
end Go.Proofs.Ytnkpmjkbkdnfjaa
