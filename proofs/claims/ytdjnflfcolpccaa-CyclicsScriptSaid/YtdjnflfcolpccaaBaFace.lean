/- What the statements of cyclics ask of an end: the contracts of its methods over a relation that the code's own texts give. -/
import Derived.Test.YtdjnflfcolpccaaBaNear
import Derived.Test.YtdjnflfcolpccaaBuf
namespace Go.Proofs.Ytdjnflfcolpccaa
open Go.RowKit

/-- What a call may have turned: of what there was only blocks of S; S' holds what it held, or new blocks. -/
structure Turn (S : Nat → Prop) (w : World) (S' : Nat → Prop) (w' : World) : Prop where
  exc : Exc S w w'
  lies : ∀ k, S' k → S k ∨ w.heap.size ≤ k
/-- The bounds of an end's parts. -/
structure En.Fit (x : En) : Prop where
  que : x.que.length ≤ 64
  una : x.una.length ≤ 127
  plc : x.plc ≤ x.una.length
  lm1 : 1 ≤ x.lm
  lm2 : x.lm ≤ 127
  lo1 : 1 ≤ x.lo
  lo2 : x.lo ≤ 65535
  sent : x.sent < 128
  acc : x.acc < 128
def Fresh (w w' : World) (S' : Nat → Prop) (k : Nat) : Prop := w.heap.size ≤ k ∧ k < w'.heap.size ∧ ¬ S' k
/-- What Next hands back. -/
def Sends (w w' : World) (S' : Nat → Prop) (u : Un) (e : Ending) : Prop :=
  ∃ s, e = .returned (.tuple #[.agg (unCells u s u.load.length u.load.length).toArray, .int .i64 0]) ∧ Row .u8 w' s u.load.length u.load.length u.load ∧ ∀ z, s = some z → Fresh w w' S' z.block
/-- What Hear hands back of a load that is accepted, or of none. -/
def Brings (w w' : World) (S' : Nat → Prop) (o : Option (List Int)) (e : Ending) : Prop :=
  ∃ a c, e = .returned (.tuple #[.slice a o.toList.length c, .int .i64 0]) ∧ Mat w' (Fresh w w' S') true a o.toList.length c o.toList ∧ (o ≠ none → c = 1)
structure EndFace where
  At : World → Nat → (Nat → Prop) → En → Prop
  exc : ∀ {w w' : World} {b : Nat} {S T : Nat → Prop} {x : En}, At w b S x → Exc T w w' → (∀ k, S k → ¬ T k) → At w' b S x
  lt : ∀ {w : World} {b : Nat} {S : Nat → Prop} {x : En}, At w b S x → ∀ k, S k → k < w.heap.size
  self : ∀ {w : World} {b : Nat} {S : Nat → Prop} {x : En}, At w b S x → S b
  fit : ∀ {w : World} {b : Nat} {S : Nat → Prop} {x : En}, At w b S x → x.Fit
  new : ∀ (w : World) (lm lo : Nat), 1 ≤ lm → lm ≤ 127 → 1 ≤ lo → lo ≤ 65535 → Calls Try.prog 7 #[.int .i64 (lm : Int), .int .i64 (lo : Int)] w fun e w' => (∃ b S, e = .returned (.tuple #[.pointer (some ⟨b, 0, none⟩), .int .i64 0]) ∧ At w' b S (En.zero lm lo) ∧ ∀ k, S k → w.heap.size ≤ k) ∧ Below w.heap.size w w'
  accept : ∀ {b : Nat} {S : Nat → Prop} {x : En} {w : World} {a : Option Addr} {n c : Nat} {l : List Int}, At w b S x → x.failed = false → x.que.length < 64 → Row .u8 w a n c l → 2 ≤ n → n ≤ 273 → (∀ z, a = some z → ¬ S z.block) →
    Calls Try.prog 8 #[.pointer (some ⟨b, 0, none⟩), .slice a n c] w fun e w' => e = .returned (.int .i64 0) ∧ ∃ S', At w' b S' (x.accept l) ∧ Turn S w S' w'
  acceptFull : ∀ {b : Nat} {S : Nat → Prop} {x : En} {w : World} {a : Option Addr} {n c : Nat} {l : List Int}, At w b S x → x.failed = false → x.que.length = 64 → Row .u8 w a n c l → 2 ≤ n → n ≤ 273 → (∀ z, a = some z → ¬ S z.block) →
    Calls Try.prog 8 #[.pointer (some ⟨b, 0, none⟩), .slice a n c] w fun e w' => e = .returned (.int .i64 9) ∧ ∃ S', At w' b S' x ∧ Turn S w S' w'
  next : ∀ {b : Nat} {S : Nat → Prop} {x : En} {w : World}, At w b S x → x.failed = false →
    Calls Try.prog 10 #[.pointer (some ⟨b, 0, none⟩)] w fun e w' => ∃ S', Sends w w' S' x.next.1 e ∧ At w' b S' x.next.2 ∧ Turn S w S' w'
  hear : ∀ {b : Nat} {S : Nat → Prop} {x : En} {w : World} {u : Un} {s : Option Addr} {n c : Nat}, At w b S x → x.failed = false → u.kind ≠ 1 → chk (u.back : Int) (u.fore : Int) (u.kind : Int) (u.state : Int) n = 0 → Row .u8 w s n c u.load → (∀ z, s = some z → ¬ S z.block) → (x.hear u).2.failed = false →
    Calls Try.prog 16 #[.pointer (some ⟨b, 0, none⟩), .agg (unCells u s n c).toArray] w fun e w' => ∃ S', Brings w w' S' (x.hear u).1 e ∧ At w' b S' (x.hear u).2 ∧ Turn S w S' w'
  last : ∀ {b : Nat} {S : Nat → Prop} {x : En} {w : World}, At w b S x →
    Calls Try.prog 21 #[.pointer (some ⟨b, 0, none⟩)] w fun e w' => e = .returned (.int .u8 (x.acc : Int)) ∧ ∃ q, w' = w.drewN q
  waiting : ∀ {b : Nat} {S : Nat → Prop} {x : En} {w : World}, At w b S x →
    Calls Try.prog 18 #[.pointer (some ⟨b, 0, none⟩)] w fun e w' => e = .returned (.tuple #[.int .i64 (x.que.length : Int), .int .i64 (x.una.length : Int)]) ∧ ∃ q, w' = w.drewN q
  retrieve : ∀ {b : Nat} {S : Nat → Prop} {x : En} {w : World} {n : Nat}, At w b S x → n < 128 → x.ahead n ≤ x.una.length →
    Calls Try.prog 19 #[.pointer (some ⟨b, 0, none⟩), .int .u8 (n : Int)] w fun e w' => (∃ a N, e = .returned (.tuple #[.slice a N N, .int .i64 0]) ∧ Mat w' (fun k => w.heap.size ≤ k ∧ k < w'.heap.size) true a N N (x.rest n)) ∧ Below w.heap.size w w'
end Go.Proofs.Ytdjnflfcolpccaa
