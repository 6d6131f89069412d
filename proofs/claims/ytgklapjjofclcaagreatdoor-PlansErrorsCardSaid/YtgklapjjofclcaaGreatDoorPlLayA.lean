/- The library's Compact, Clone and insertion sort, as this program bears them (the shelf's laying, in plain words). -/
import Derived.Test.YtgklapjjofclcaaGreatDoorBase
import Derived.Shelf.SlicesE.Compact
import Derived.Shelf.SlicesE.Clone
import Derived.Shelf.SlSortCmp.Insertion1
import Derived.Shelf.SlGeneric
namespace Go.Proofs.YtgklapjjofclcaaGreatDoor
open Go.Shelf
def layCompact_ren : Go.Shelf.Ren := ⟨fun | 43 => 89 | n => n, fun | 22 => 55 | 23 => 53 | 3 => 3 | 4 => 4 | 0 => 0 | n => n, fun n => n⟩
theorem layCompact : Go.Proofs.SlLaysE.n43 Tryz.prog layCompact_ren := {
  mixed := by kernel_rfl
  f43 := ⟨Tryz.f89.name, by decide, Tryz.func89.trans (congrArg some (by kernel_rfl))⟩
  t0 := Tryz.underlying0
  a0 := Tryz.isAgg0
  z0 := Tryz.sizeOf0
  v0 := Tryz.zeroValue0
  t3 := Tryz.underlying3
  a3 := Tryz.isAgg3
  z3 := Tryz.sizeOf3
  v3 := Tryz.zeroValue3
  t4 := Tryz.underlying4
  a4 := Tryz.isAgg4
  z4 := Tryz.sizeOf4
  v4 := Tryz.zeroValue4
  t22 := Tryz.underlying55
  a22 := Tryz.isAgg55
  z22 := Tryz.sizeOf55
  v22 := Tryz.zeroValue55
  a23 := Tryz.isAgg53
  z23 := Tryz.sizeOf53 }
def layClone_ren : Go.Shelf.Ren := ⟨fun | 41 => 94 | n => n, fun | 22 => 58 | 23 => 3 | 4 => 4 | n => n, fun n => n⟩
theorem layClone : Go.Proofs.SlLaysE0.n41 Tryz.prog layClone_ren := {
  mixed := by kernel_rfl
  f41 := ⟨Tryz.f94.name, by decide, Tryz.func94.trans (congrArg some (by kernel_rfl))⟩
  t4 := Tryz.underlying4
  a4 := Tryz.isAgg4
  z4 := Tryz.sizeOf4
  v4 := Tryz.zeroValue4
  t22 := Tryz.underlying58
  a22 := Tryz.isAgg58
  z22 := Tryz.sizeOf58
  v22 := Tryz.zeroValue58 }
def layInsert_ren : Go.Shelf.Ren := ⟨fun | 20 => 134 | n => n, fun | 24 => 3 | 22 => 58 | 3 => 3 | 25 => 126 | 4 => 4 | 0 => 0 | n => n, fun n => n⟩
theorem layInsert : Go.Proofs.SlLaysF.n20 Tryz.prog layInsert_ren := {
  mixed := by kernel_rfl
  f20 := ⟨Tryz.f134.name, by decide, Tryz.func134.trans (congrArg some (by kernel_rfl))⟩
  t0 := Tryz.underlying0
  a0 := Tryz.isAgg0
  z0 := Tryz.sizeOf0
  v0 := Tryz.zeroValue0
  t3 := Tryz.underlying3
  a3 := Tryz.isAgg3
  z3 := Tryz.sizeOf3
  v3 := Tryz.zeroValue3
  t4 := Tryz.underlying4
  a4 := Tryz.isAgg4
  z4 := Tryz.sizeOf4
  v4 := Tryz.zeroValue4
  t22 := Tryz.underlying58
  a22 := Tryz.isAgg58
  z22 := Tryz.sizeOf58
  v22 := Tryz.zeroValue58
  a24 := Tryz.isAgg3
  z24 := Tryz.sizeOf3
  t25 := Tryz.underlying126
  a25 := Tryz.isAgg126
  z25 := Tryz.sizeOf126
  v25 := Tryz.zeroValue126 }
end Go.Proofs.YtgklapjjofclcaaGreatDoor
