/- The library's Compact, Clone and insertion sort, as this program bears them (the shelf's laying, in plain words). -/
import Derived.Test.YtppbcehcaeeocaaBase
import Derived.Shelf.SlicesE.Compact
import Derived.Shelf.SlicesE.Clone
import Derived.Shelf.SlSortCmp.Insertion1
import Derived.Shelf.SlGeneric
namespace Go.Proofs.Ytppbcehcaeeocaa
open Go.Shelf
def layCompact_ren : Go.Shelf.Ren := ⟨fun | 43 => 59 | n => n, fun | 22 => 78 | 23 => 40 | 3 => 3 | 4 => 4 | 0 => 0 | n => n, fun n => n⟩
theorem layCompact : Go.Proofs.SlLaysE.n43 Try.prog layCompact_ren := {
  mixed := by kernel_rfl
  f43 := ⟨Try.f59.name, by decide, Try.func59.trans (congrArg some (by kernel_rfl))⟩
  t0 := Try.underlying0
  a0 := Try.isAgg0
  z0 := Try.sizeOf0
  v0 := Try.zeroValue0
  t3 := Try.underlying3
  a3 := Try.isAgg3
  z3 := Try.sizeOf3
  v3 := Try.zeroValue3
  t4 := Try.underlying4
  a4 := Try.isAgg4
  z4 := Try.sizeOf4
  v4 := Try.zeroValue4
  t22 := Try.underlying78
  a22 := Try.isAgg78
  z22 := Try.sizeOf78
  v22 := Try.zeroValue78
  a23 := Try.isAgg40
  z23 := Try.sizeOf40 }
def layClone_ren : Go.Shelf.Ren := ⟨fun | 41 => 65 | n => n, fun | 22 => 127 | 23 => 3 | 4 => 4 | n => n, fun n => n⟩
theorem layClone : Go.Proofs.SlLaysE0.n41 Try.prog layClone_ren := {
  mixed := by kernel_rfl
  f41 := ⟨Try.f65.name, by decide, Try.func65.trans (congrArg some (by kernel_rfl))⟩
  t4 := Try.underlying4
  a4 := Try.isAgg4
  z4 := Try.sizeOf4
  v4 := Try.zeroValue4
  t22 := Try.underlying127
  a22 := Try.isAgg127
  z22 := Try.sizeOf127
  v22 := Try.zeroValue127 }
def layInsert_ren : Go.Shelf.Ren := ⟨fun | 20 => 92 | n => n, fun | 24 => 3 | 22 => 127 | 3 => 3 | 25 => 132 | 4 => 4 | 0 => 0 | n => n, fun n => n⟩
theorem layInsert : Go.Proofs.SlLaysF.n20 Try.prog layInsert_ren := {
  mixed := by kernel_rfl
  f20 := ⟨Try.f92.name, by decide, Try.func92.trans (congrArg some (by kernel_rfl))⟩
  t0 := Try.underlying0
  a0 := Try.isAgg0
  z0 := Try.sizeOf0
  v0 := Try.zeroValue0
  t3 := Try.underlying3
  a3 := Try.isAgg3
  z3 := Try.sizeOf3
  v3 := Try.zeroValue3
  t4 := Try.underlying4
  a4 := Try.isAgg4
  z4 := Try.sizeOf4
  v4 := Try.zeroValue4
  t22 := Try.underlying127
  a22 := Try.isAgg127
  z22 := Try.sizeOf127
  v22 := Try.zeroValue127
  a24 := Try.isAgg3
  z24 := Try.sizeOf3
  t25 := Try.underlying132
  a25 := Try.isAgg132
  z25 := Try.sizeOf132
  v25 := Try.zeroValue132 }
end Go.Proofs.Ytppbcehcaeeocaa
