/- Contracts: the examples of units. -/
import Derived.Test.YtkfookiakpnlfaaDoorUnText
import Derived.Test.YtkfookiakpnlfaaDoorUnDecode
import Derived.Test.YtkfookiakpnlfaaDoorUnSame
import Derived.Test.YtkfookiakpnlfaaDoorUnNum
namespace Go.Proofs.YtkfookiakpnlfaaDoor
open Go.RowKit

set_option maxHeartbeats 8000000 in
set_option maxRecDepth 100000 in
theorem lives_any (w : World) (hp : PowOk w) : Calls Tryd.prog 9 #[] w fun e w' => e = .returned (.bool true) ∧ Below w.heap.size w w' := by
  obtain ⟨v1, hv1⟩ : ∃ v, v = w.alloc (.cells #[.int .u8 3, .int .u8 171] 5) := ⟨_, rfl⟩
  obtain ⟨v2, hv2⟩ : ∃ v, v = v1.alloc (.cells #[.int .u8 5, .bool true, .int .u8 127, .bool false, .int .u8 0, .int .u8 0, .slice none 0 0, .int .u8 0, .bool false, .int .u8 1, .bool true, .int .u8 1, .int .u8 5, .slice none 0 0, .int .u8 0, .bool false, .int .u8 0, .bool false, .int .u8 2, .int .u8 0, .slice (some ⟨w.heap.size, 0, none⟩) 2 2] 25) := ⟨_, rfl⟩
  obtain ⟨v3, hv3⟩ : ∃ v, v = v2.alloc (.cells #[.int .u8 133, .int .u8 127, .int .u8 0] 5) := ⟨_, rfl⟩
  obtain ⟨v4, hv4⟩ : ∃ v, v = v3.alloc (.cells #[.int .u8 0, .int .u8 129, .int .u8 1, .int .u8 5] 5) := ⟨_, rfl⟩
  obtain ⟨v5, hv5⟩ : ∃ v, v = v4.alloc (.cells #[.int .u8 0, .int .u8 0, .int .u8 2, .int .u8 3, .int .u8 171] 5) := ⟨_, rfl⟩
  obtain ⟨v6, hv6⟩ : ∃ v, v = v5.alloc (.cells #[.slice (some ⟨w.heap.size + 2, 0, none⟩) 3 3, .slice (some ⟨w.heap.size + 3, 0, none⟩) 4 4, .slice (some ⟨w.heap.size + 4, 0, none⟩) 5 5] 23) := ⟨_, rfl⟩
  obtain ⟨v7, hv7⟩ : ∃ v, v = v6.alloc (.cells #[.string ⟨#[98, 97, 99, 107, 32, 53, 43, 32, 102, 111, 114, 101, 32, 49, 50, 55, 45, 32, 102, 105, 108, 108]⟩, .string ⟨#[98, 97, 99, 107, 32, 48, 45, 32, 102, 111, 114, 101, 32, 49, 43, 32, 115, 116, 97, 116, 101, 32, 53]⟩, .string ⟨#[98, 97, 99, 107, 32, 48, 45, 32, 102, 111, 114, 101, 32, 48, 45, 32, 108, 111, 97, 100, 32, 48, 51, 97, 98]⟩] 9) := ⟨_, rfl⟩
  have z1 : v1.heap.size = w.heap.size + 1 := by rw [hv1, World.size_alloc]
  have z2 : v2.heap.size = w.heap.size + 2 := by rw [hv2, World.size_alloc]; omega
  have z3 : v3.heap.size = w.heap.size + 3 := by rw [hv3, World.size_alloc]; omega
  have z4 : v4.heap.size = w.heap.size + 4 := by rw [hv4, World.size_alloc]; omega
  have z5 : v5.heap.size = w.heap.size + 5 := by rw [hv5, World.size_alloc]; omega
  have z6 : v6.heap.size = w.heap.size + 6 := by rw [hv6, World.size_alloc]; omega
  have z7 : v7.heap.size = w.heap.size + 7 := by rw [hv7, World.size_alloc]; omega
  have b1 : Below v1.heap.size v1 v7 := by
    have hh : ∀ (x y : World) (o : Obj), y = x.alloc o → Below x.heap.size x y := fun x y o hy => by subst hy; exact below_alloc _ _
    exact ((((((hh _ _ _ hv2).trans ((hh _ _ _ hv3).mono (by omega))).trans ((hh _ _ _ hv4).mono (by omega))).trans ((hh _ _ _ hv5).mono (by omega))).trans ((hh _ _ _ hv6).mono (by omega))).trans ((hh _ _ _ hv7).mono (by omega)))
  have b2 : Below v2.heap.size v2 v7 := by
    have hh : ∀ (x y : World) (o : Obj), y = x.alloc o → Below x.heap.size x y := fun x y o hy => by subst hy; exact below_alloc _ _
    exact (((((hh _ _ _ hv3).trans ((hh _ _ _ hv4).mono (by omega))).trans ((hh _ _ _ hv5).mono (by omega))).trans ((hh _ _ _ hv6).mono (by omega))).trans ((hh _ _ _ hv7).mono (by omega)))
  have b3 : Below v3.heap.size v3 v7 := by
    have hh : ∀ (x y : World) (o : Obj), y = x.alloc o → Below x.heap.size x y := fun x y o hy => by subst hy; exact below_alloc _ _
    exact ((((hh _ _ _ hv4).trans ((hh _ _ _ hv5).mono (by omega))).trans ((hh _ _ _ hv6).mono (by omega))).trans ((hh _ _ _ hv7).mono (by omega)))
  have b4 : Below v4.heap.size v4 v7 := by
    have hh : ∀ (x y : World) (o : Obj), y = x.alloc o → Below x.heap.size x y := fun x y o hy => by subst hy; exact below_alloc _ _
    exact (((hh _ _ _ hv5).trans ((hh _ _ _ hv6).mono (by omega))).trans ((hh _ _ _ hv7).mono (by omega)))
  have b5 : Below v5.heap.size v5 v7 := by
    have hh : ∀ (x y : World) (o : Obj), y = x.alloc o → Below x.heap.size x y := fun x y o hy => by subst hy; exact below_alloc _ _
    exact ((hh _ _ _ hv6).trans ((hh _ _ _ hv7).mono (by omega)))
  have b6 : Below v6.heap.size v6 v7 := by
    have hh : ∀ (x y : World) (o : Obj), y = x.alloc o → Below x.heap.size x y := fun x y o hy => by subst hy; exact below_alloc _ _
    exact (hh _ _ _ hv7)
  have b7 : Below v7.heap.size v7 v7 := by
    exact Below.refl _ _
  have bw : Below w.heap.size w v7 := by
    have hh : Below w.heap.size w v1 := by rw [hv1]; exact below_alloc _ _
    exact hh.trans (b1.mono (by omega))
  have o1 : Own v7 (w.heap.size) 5 [.int .u8 3, .int .u8 171] := by
    have hh := own_lit w 5 #[.int .u8 3, .int .u8 171] _ rfl
    rw [← hv1] at hh
    exact hh.below b1 (by omega)
  have o2 : Own v7 (w.heap.size + 1) 25 [.int .u8 5, .bool true, .int .u8 127, .bool false, .int .u8 0, .int .u8 0, .slice none 0 0, .int .u8 0, .bool false, .int .u8 1, .bool true, .int .u8 1, .int .u8 5, .slice none 0 0, .int .u8 0, .bool false, .int .u8 0, .bool false, .int .u8 2, .int .u8 0, .slice (some ⟨w.heap.size, 0, none⟩) 2 2] := by
    have hh := own_lit v1 25 #[.int .u8 5, .bool true, .int .u8 127, .bool false, .int .u8 0, .int .u8 0, .slice none 0 0, .int .u8 0, .bool false, .int .u8 1, .bool true, .int .u8 1, .int .u8 5, .slice none 0 0, .int .u8 0, .bool false, .int .u8 0, .bool false, .int .u8 2, .int .u8 0, .slice (some ⟨w.heap.size, 0, none⟩) 2 2] _ rfl
    rw [← hv2, z1] at hh
    exact hh.below b2 (by omega)
  have o3 : Own v7 (w.heap.size + 2) 5 [.int .u8 133, .int .u8 127, .int .u8 0] := by
    have hh := own_lit v2 5 #[.int .u8 133, .int .u8 127, .int .u8 0] _ rfl
    rw [← hv3, z2] at hh
    exact hh.below b3 (by omega)
  have o4 : Own v7 (w.heap.size + 3) 5 [.int .u8 0, .int .u8 129, .int .u8 1, .int .u8 5] := by
    have hh := own_lit v3 5 #[.int .u8 0, .int .u8 129, .int .u8 1, .int .u8 5] _ rfl
    rw [← hv4, z3] at hh
    exact hh.below b4 (by omega)
  have o5 : Own v7 (w.heap.size + 4) 5 [.int .u8 0, .int .u8 0, .int .u8 2, .int .u8 3, .int .u8 171] := by
    have hh := own_lit v4 5 #[.int .u8 0, .int .u8 0, .int .u8 2, .int .u8 3, .int .u8 171] _ rfl
    rw [← hv5, z4] at hh
    exact hh.below b5 (by omega)
  have o6 : Own v7 (w.heap.size + 5) 23 [.slice (some ⟨w.heap.size + 2, 0, none⟩) 3 3, .slice (some ⟨w.heap.size + 3, 0, none⟩) 4 4, .slice (some ⟨w.heap.size + 4, 0, none⟩) 5 5] := by
    have hh := own_lit v5 23 #[.slice (some ⟨w.heap.size + 2, 0, none⟩) 3 3, .slice (some ⟨w.heap.size + 3, 0, none⟩) 4 4, .slice (some ⟨w.heap.size + 4, 0, none⟩) 5 5] _ rfl
    rw [← hv6, z5] at hh
    exact hh.below b6 (by omega)
  have o7 : Own v7 (w.heap.size + 6) 9 [.string ⟨#[98, 97, 99, 107, 32, 53, 43, 32, 102, 111, 114, 101, 32, 49, 50, 55, 45, 32, 102, 105, 108, 108]⟩, .string ⟨#[98, 97, 99, 107, 32, 48, 45, 32, 102, 111, 114, 101, 32, 49, 43, 32, 115, 116, 97, 116, 101, 32, 53]⟩, .string ⟨#[98, 97, 99, 107, 32, 48, 45, 32, 102, 111, 114, 101, 32, 48, 45, 32, 108, 111, 97, 100, 32, 48, 51, 97, 98]⟩] := by
    have hh := own_lit v6 9 #[.string ⟨#[98, 97, 99, 107, 32, 53, 43, 32, 102, 111, 114, 101, 32, 49, 50, 55, 45, 32, 102, 105, 108, 108]⟩, .string ⟨#[98, 97, 99, 107, 32, 48, 45, 32, 102, 111, 114, 101, 32, 49, 43, 32, 115, 116, 97, 116, 101, 32, 53]⟩, .string ⟨#[98, 97, 99, 107, 32, 48, 45, 32, 102, 111, 114, 101, 32, 48, 45, 32, 108, 111, 97, 100, 32, 48, 51, 97, 98]⟩] _ rfl
    rw [← hv7, z6] at hh
    exact hh.below b7 (by omega)
  have hc : (((((((w.alloc (.cells #[.int .u8 3, .int .u8 171] 5)).alloc (.cells #[.int .u8 5, .bool true, .int .u8 127, .bool false, .int .u8 0, .int .u8 0, .slice none 0 0, .int .u8 0, .bool false, .int .u8 1, .bool true, .int .u8 1, .int .u8 5, .slice none 0 0, .int .u8 0, .bool false, .int .u8 0, .bool false, .int .u8 2, .int .u8 0, .slice (some ⟨w.heap.size, 0, none⟩) 2 2] 25)).alloc (.cells #[.int .u8 133, .int .u8 127, .int .u8 0] 5)).alloc (.cells #[.int .u8 0, .int .u8 129, .int .u8 1, .int .u8 5] 5)).alloc (.cells #[.int .u8 0, .int .u8 0, .int .u8 2, .int .u8 3, .int .u8 171] 5)).alloc (.cells #[.slice (some ⟨w.heap.size + 2, 0, none⟩) 3 3, .slice (some ⟨w.heap.size + 3, 0, none⟩) 4 4, .slice (some ⟨w.heap.size + 4, 0, none⟩) 5 5] 23)).alloc (.cells #[.string ⟨#[98, 97, 99, 107, 32, 53, 43, 32, 102, 111, 114, 101, 32, 49, 50, 55, 45, 32, 102, 105, 108, 108]⟩, .string ⟨#[98, 97, 99, 107, 32, 48, 45, 32, 102, 111, 114, 101, 32, 49, 43, 32, 115, 116, 97, 116, 101, 32, 53]⟩, .string ⟨#[98, 97, 99, 107, 32, 48, 45, 32, 102, 111, 114, 101, 32, 48, 45, 32, 108, 111, 97, 100, 32, 48, 51, 97, 98]⟩] 9)) = v7 := by rw [← hv1, ← hv2, ← hv3, ← hv4, ← hv5, ← hv6, ← hv7]
  have HO1 := Lib.hid o1
  have HO2 := Lib.hid o2
  have HO3 := Lib.hid o3
  have HO4 := Lib.hid o4
  have HO5 := Lib.hid o5
  have HO6 := Lib.hid o6
  have HO7 := Lib.hid o7
  have HC := Lib.hid hc
  have HBw := Lib.hid bw
  have HP := Lib.hid hp
  have hz : v7.heap.size = w.heap.size + 7 := z7
  have HZ := Lib.hid hz
  clear hv1 z1 b1 o1 hv2 z2 b2 o2 hv3 z3 b3 o3 hv4 z4 b4 o4 hv5 z5 b5 o5 hv6 z6 b6 o6 hv7 z7 b7 o7 bw hc hp hz
  go_enter Tryd.func9, Tryd.ntmps9
  go_wp2_with fail
  rw [HC.out]
  go_loopw [4] (fun i wr => ∃ k : Nat, k ≤ 3 ∧ i = .int .i64 k ∧ Below v7.heap.size v7 wr) (fun i _ => 3 - (intOf i).toNat)
  case atStart => exact ⟨0, by omega, rfl, Below.refl _ _⟩
  case round =>
    obtain ⟨k, hk, rfl, hb⟩ := hrel
    rcases (by omega : k = 0 ∨ k = 1 ∨ k = 2 ∨ k = 3) with rfl | rfl | rfl | rfl
    · have hz7 := HZ.out
      have hlt7 := hb.size
      have ou := HO2.out.below hb (by omega)
      have ow := HO6.out.below hb (by omega)
      have ox := HO7.out.below hb (by omega)
      have ol := HO3.out.below hb (by omega)
      have c0 : wr.cell? ⟨w.heap.size + 1, 0, none⟩ = some (.int .u8 5) := ou.cell 0 (by simp)
      have c1 : wr.cell? ⟨w.heap.size + 1, 1, none⟩ = some (.bool true) := ou.cell 1 (by simp)
      have c2 : wr.cell? ⟨w.heap.size + 1, 2, none⟩ = some (.int .u8 127) := ou.cell 2 (by simp)
      have c3 : wr.cell? ⟨w.heap.size + 1, 3, none⟩ = some (.bool false) := ou.cell 3 (by simp)
      have c4 : wr.cell? ⟨w.heap.size + 1, 4, none⟩ = some (.int .u8 0) := ou.cell 4 (by simp)
      have c5 : wr.cell? ⟨w.heap.size + 1, 5, none⟩ = some (.int .u8 0) := ou.cell 5 (by simp)
      have c6 : wr.cell? ⟨w.heap.size + 1, 6, none⟩ = some (.slice none 0 0) := ou.cell 6 (by simp)
      have cw : wr.cell? ⟨w.heap.size + 5, 0, none⟩ = some (.slice (some ⟨w.heap.size + 2, 0, none⟩) 3 3) := ow.cell 0 (by simp)
      have rw_ : Row .u8 wr (some ⟨w.heap.size + 2, 0, none⟩) 3 3 [133, 127, 0] := Own.row0 (l := [133, 127, 0]) ol 3 3 rfl (Nat.le_refl _) (by unfold maxLen; omega) (by decide)
      have rl : ∀ W, Below wr.heap.size wr W → Row .u8 W none 0 0 [] := fun W _ => Row.of_nil _ _
      have henc : Calls Tryd.prog 11 #[.agg #[.int .u8 5, .bool true, .int .u8 127, .bool false, .int .u8 0, .int .u8 0, .slice none 0 0]] wr fun e w' => (∃ d, e = .returned (.tuple #[.slice (some ⟨d, 0, none⟩) 3 3, .int .i64 0]) ∧ w'.ownsRow wr.heap.size 5 1 (.slice (some ⟨d, 0, none⟩) 3 3) 3 (nums .u8 [133, 127, 0])) ∧ Below wr.heap.size wr w' :=
        encode_ok 5 true 127 false 0 0 none 0 0 0 [] wr (by decide) (by decide) (by decide) (by decide) (rl wr (Below.refl _ _)) (by decide) (by decide)
      have hdec : ∀ W, Below wr.heap.size wr W → Calls Tryd.prog 17 #[.slice (some ⟨w.heap.size + 2, 0, none⟩) 3 3] W fun e w' => (∃ s, e = .returned (.tuple #[.agg #[.int .u8 5, .bool true, .int .u8 127, .bool false, .int .u8 0, .int .u8 0, .slice s 0 0], .int .i64 0]) ∧ LoadAt w' W.heap.size s []) ∧ Below W.heap.size W w' := fun W hW =>
        decode_ok (some ⟨w.heap.size + 2, 0, none⟩) 3 3 0 [133, 127, 0] W (rw_.later hW) (by decide) (by decide) (by decide) (by decide) (by decide)
      have HEnc := Lib.hid henc
      have HDec := Lib.hid hdec
      have HRl := Lib.hid rl
      have HRw := Lib.hid rw_
      have HOu := Lib.hid ou
      have HOw := Lib.hid ow
      have HOx := Lib.hid ox
      have HB := Lib.hid hb
      clear henc hdec rl rw_ ou ow ox ol hb
      go_wp2_with fail
      refine (HEnc.out).mono ?_
      clear c0 c1 c2 c3 c4 c5 c6 cw
      rintro e w1 ⟨⟨d, rfl, hd⟩, hb1⟩
      have hs1 := hb1.size
      have ow1 := HOw.out.below hb1 (by omega)
      have cw1 : w1.cell? ⟨w.heap.size + 5, 0, none⟩ = some (.slice (some ⟨w.heap.size + 2, 0, none⟩) 3 3) := ow1.cell 0 (by simp)
      have HB1 := Lib.hid hb1
      have HD := Lib.hid hd
      clear hb1 hd ow1
      go_wp2_with fail
      refine (HDec.out w1 HB1.out).mono ?_
      clear cw1
      rintro e w2 ⟨⟨s, rfl, hlo⟩, hb2⟩
      have hs2 := hb2.size
      obtain ⟨w3, hw3⟩ : ∃ W, W = w2.alloc (.cells #[.int .u8 5, .bool true, .int .u8 127, .bool false, .int .u8 0, .int .u8 0, .slice s 0 0] 25) := ⟨_, rfl⟩
      have hb23 : Below w2.heap.size w2 w3 := by rw [hw3]; exact below_alloc _ _
      have ob3 : Own w3 w2.heap.size 25 [.int .u8 5, .bool true, .int .u8 127, .bool false, .int .u8 0, .int .u8 0, .slice s 0 0] := by rw [hw3]; exact own_lit w2 _ _ _ rfl
      have hlo3 := hlo.later hb23
      have hb3 : Below wr.heap.size wr w3 := HB1.out.trans ((hb2.trans (hb23.mono hb2.size)).mono HB1.out.size)
      have hd3 := ownsRow_below HD.out (hb2.trans (hb23.mono hb2.size))
      have hs3 := ob3.lt
      have hS : ∀ W, Below w3.heap.size w3 W → Below w3.heap.size w3 W ∧ W.cell? ⟨w.heap.size + 1, 0, none⟩ = some (.int .u8 5) ∧ W.cell? ⟨w.heap.size + 1, 1, none⟩ = some (.bool true) ∧ W.cell? ⟨w.heap.size + 1, 2, none⟩ = some (.int .u8 127) ∧ W.cell? ⟨w.heap.size + 1, 3, none⟩ = some (.bool false) ∧ W.cell? ⟨w.heap.size + 1, 4, none⟩ = some (.int .u8 0) ∧ W.cell? ⟨w.heap.size + 1, 5, none⟩ = some (.int .u8 0) ∧ W.cell? ⟨w.heap.size + 1, 6, none⟩ = some (.slice none 0 0) ∧ W.cell? ⟨w2.heap.size, 0, none⟩ = some (.int .u8 5) ∧ W.cell? ⟨w2.heap.size, 1, none⟩ = some (.bool true) ∧ W.cell? ⟨w2.heap.size, 2, none⟩ = some (.int .u8 127) ∧ W.cell? ⟨w2.heap.size, 3, none⟩ = some (.bool false) ∧ W.cell? ⟨w2.heap.size, 4, none⟩ = some (.int .u8 0) ∧ W.cell? ⟨w2.heap.size, 5, none⟩ = some (.int .u8 0) ∧ W.cell? ⟨w2.heap.size, 6, none⟩ = some (.slice s 0 0) ∧ W.cell? ⟨w.heap.size + 5, 0, none⟩ = some (.slice (some ⟨w.heap.size + 2, 0, none⟩) 3 3) ∧ W.cell? ⟨w.heap.size + 6, 0, none⟩ = some (.string ⟨#[98, 97, 99, 107, 32, 53, 43, 32, 102, 111, 114, 101, 32, 49, 50, 55, 45, 32, 102, 105, 108, 108]⟩) := fun W hW => by
        have hbr := hb3.trans (hW.mono hb3.size)
        have q1 := HOu.out.below hbr (by omega)
        have q2 := ob3.below hW (by omega)
        have q3 := HOw.out.below hbr (by omega)
        have q4 := HOx.out.below hbr (by omega)
        exact ⟨hW, q1.cell 0 (by simp), q1.cell 1 (by simp), q1.cell 2 (by simp), q1.cell 3 (by simp), q1.cell 4 (by simp), q1.cell 5 (by simp), q1.cell 6 (by simp), q2.cell 0 (by simp), q2.cell 1 (by simp), q2.cell 2 (by simp), q2.cell 3 (by simp), q2.cell 4 (by simp), q2.cell 5 (by simp), q2.cell 6 (by simp), q3.cell 0 (by simp), q4.cell 0 (by simp)⟩
      have hby : ∀ W, Below w3.heap.size w3 W → Calls Tryd.prog 14 #[.slice (some ⟨d, 0, none⟩) 3 3, .slice (some ⟨w.heap.size + 2, 0, none⟩) 3 3] W fun e w' => e = .returned (.int .i64 0) ∧ Below W.heap.size W w' := fun W hW => by
        have hr := ownsRow_rowN .u8 (ownsRow_below hd3 hW) (by decide)
        obtain ⟨a', c', hv, hr, _⟩ := hr
        simp only [Value.slice.injEq] at hv
        obtain ⟨rfl, _, rfl⟩ := hv
        refine (bytes_yes _ _ 3 3 3 [133, 127, 0] W hr (HRw.out.later (hb3.trans (hW.mono hb3.size)))).mono ?_
        rintro e w' ⟨rfl, q, rfl⟩
        exact ⟨rfl, below_draw _ q⟩
      have hsm : ∀ W, Below w3.heap.size w3 W → Calls Tryd.prog 25 #[.agg #[.int .u8 5, .bool true, .int .u8 127, .bool false, .int .u8 0, .int .u8 0, .slice s 0 0], .agg #[.int .u8 5, .bool true, .int .u8 127, .bool false, .int .u8 0, .int .u8 0, .slice none 0 0]] W fun e w' => e = .returned (.bool true) ∧ Below W.heap.size W w' := fun W hW =>
        usame_any 5 true 127 false 0 0 s 0 0 [] 5 true 127 false 0 0 none 0 0 [] W ((hlo3.later hW).row (by decide) (by decide)) (HRl.out W (hb3.trans (hW.mono hb3.size)))
      have htx : ∀ W, Below w3.heap.size w3 W → Calls Tryd.prog 13 #[.agg #[.int .u8 5, .bool true, .int .u8 127, .bool false, .int .u8 0, .int .u8 0, .slice none 0 0]] W fun e w' => e = .returned (.string ⟨#[98, 97, 99, 107, 32, 53, 43, 32, 102, 111, 114, 101, 32, 49, 50, 55, 45, 32, 102, 105, 108, 108]⟩) ∧ Below W.heap.size W w' := fun W hW => by
        have hbw := HBw.out.trans ((HB.out.trans ((hb3.trans (hW.mono hb3.size)).mono HB.out.size)).mono HBw.out.size)
        have ht := text_ok 5 true 127 false 0 0 none 0 0 [] W (by decide) (by decide) (by decide) (by decide) (HRl.out W (hb3.trans (hW.mono hb3.size))) (by decide) (HP.out.later hbw)
        have et : bs (textL 5 true 127 false 0 0 []) = ⟨#[98, 97, 99, 107, 32, 53, 43, 32, 102, 111, 114, 101, 32, 49, 50, 55, 45, 32, 102, 105, 108, 108]⟩ := by decide +kernel
        rw [et] at ht
        exact ht
      have hSn : ∀ W W', Below w3.heap.size w3 W → Below W.heap.size W W' → Below w3.heap.size w3 W' ∧ W'.cell? ⟨w.heap.size + 1, 0, none⟩ = some (.int .u8 5) ∧ W'.cell? ⟨w.heap.size + 1, 1, none⟩ = some (.bool true) ∧ W'.cell? ⟨w.heap.size + 1, 2, none⟩ = some (.int .u8 127) ∧ W'.cell? ⟨w.heap.size + 1, 3, none⟩ = some (.bool false) ∧ W'.cell? ⟨w.heap.size + 1, 4, none⟩ = some (.int .u8 0) ∧ W'.cell? ⟨w.heap.size + 1, 5, none⟩ = some (.int .u8 0) ∧ W'.cell? ⟨w.heap.size + 1, 6, none⟩ = some (.slice none 0 0) ∧ W'.cell? ⟨w2.heap.size, 0, none⟩ = some (.int .u8 5) ∧ W'.cell? ⟨w2.heap.size, 1, none⟩ = some (.bool true) ∧ W'.cell? ⟨w2.heap.size, 2, none⟩ = some (.int .u8 127) ∧ W'.cell? ⟨w2.heap.size, 3, none⟩ = some (.bool false) ∧ W'.cell? ⟨w2.heap.size, 4, none⟩ = some (.int .u8 0) ∧ W'.cell? ⟨w2.heap.size, 5, none⟩ = some (.int .u8 0) ∧ W'.cell? ⟨w2.heap.size, 6, none⟩ = some (.slice s 0 0) ∧ W'.cell? ⟨w.heap.size + 5, 0, none⟩ = some (.slice (some ⟨w.heap.size + 2, 0, none⟩) 3 3) ∧ W'.cell? ⟨w.heap.size + 6, 0, none⟩ = some (.string ⟨#[98, 97, 99, 107, 32, 53, 43, 32, 102, 111, 114, 101, 32, 49, 50, 55, 45, 32, 102, 105, 108, 108]⟩) := fun W W' h1 h2 => hS W' (h1.trans (h2.mono h1.size))
      have hSd := hS w3.drew (Below.refl _ _).drew
      have hS3 := hS w3 (Below.refl _ _)
      have HSn := Lib.hid hSn
      have HBy := Lib.hid hby
      have HSm := Lib.hid hsm
      have HTx := Lib.hid htx
      have HB3 := Lib.hid hb3
      have HW3 := Lib.hid hw3
      clear hS hSn hby hsm htx hb3 hd3 hlo3 ob3 hb23 hlo hb2 hw3
      go_wp2_with fail
      rw [← HW3.out]
      go_region_held3 (fun W => Below w3.heap.size w3 W ∧ W.cell? ⟨w.heap.size + 1, 0, none⟩ = some (.int .u8 5) ∧ W.cell? ⟨w.heap.size + 1, 1, none⟩ = some (.bool true) ∧ W.cell? ⟨w.heap.size + 1, 2, none⟩ = some (.int .u8 127) ∧ W.cell? ⟨w.heap.size + 1, 3, none⟩ = some (.bool false) ∧ W.cell? ⟨w.heap.size + 1, 4, none⟩ = some (.int .u8 0) ∧ W.cell? ⟨w.heap.size + 1, 5, none⟩ = some (.int .u8 0) ∧ W.cell? ⟨w.heap.size + 1, 6, none⟩ = some (.slice none 0 0) ∧ W.cell? ⟨w2.heap.size, 0, none⟩ = some (.int .u8 5) ∧ W.cell? ⟨w2.heap.size, 1, none⟩ = some (.bool true) ∧ W.cell? ⟨w2.heap.size, 2, none⟩ = some (.int .u8 127) ∧ W.cell? ⟨w2.heap.size, 3, none⟩ = some (.bool false) ∧ W.cell? ⟨w2.heap.size, 4, none⟩ = some (.int .u8 0) ∧ W.cell? ⟨w2.heap.size, 5, none⟩ = some (.int .u8 0) ∧ W.cell? ⟨w2.heap.size, 6, none⟩ = some (.slice s 0 0) ∧ W.cell? ⟨w.heap.size + 5, 0, none⟩ = some (.slice (some ⟨w.heap.size + 2, 0, none⟩) 3 3) ∧ W.cell? ⟨w.heap.size + 6, 0, none⟩ = some (.string ⟨#[98, 97, 99, 107, 32, 53, 43, 32, 102, 111, 114, 101, 32, 49, 50, 55, 45, 32, 102, 105, 108, 108]⟩)) (first | assumption | go_keep)
        (first
          | (go_at_call 14; ((with_reducible refine (HBy.out _ (And.left (by assumption))).mono ?_); rintro e w4 ⟨rfl, hb4⟩; have hS4 := HSn.out _ _ (And.left (by assumption)) hb4; clear hb4))
          | (go_at_call 25; ((with_reducible refine (HSm.out _ (And.left (by assumption))).mono ?_); rintro e w5 ⟨rfl, hb5⟩; have hS5 := HSn.out _ _ (And.left (by assumption)) hb5; clear hb5))
          | (go_at_call 13; ((with_reducible refine (HTx.out _ (And.left (by assumption))).mono ?_); rintro e w6 ⟨rfl, hb6⟩; have hS6 := HSn.out _ _ (And.left (by assumption)) hb6; clear hb6))
          | fail)
      all_goals
        go_wp2
        refine ⟨⟨1, by omega, by first | rfl | go_num, HB.out.trans (Below.mono (HB3.out.trans (Below.mono (And.left (by assumption)) HB3.out.size)) HB.out.size)⟩, by simp [intOf]⟩
    · have hz7 := HZ.out
      have hlt7 := hb.size
      have ou := HO2.out.below hb (by omega)
      have ow := HO6.out.below hb (by omega)
      have ox := HO7.out.below hb (by omega)
      have ol := HO4.out.below hb (by omega)
      have c0 : wr.cell? ⟨w.heap.size + 1, 7, none⟩ = some (.int .u8 0) := ou.cell 7 (by simp)
      have c1 : wr.cell? ⟨w.heap.size + 1, 8, none⟩ = some (.bool false) := ou.cell 8 (by simp)
      have c2 : wr.cell? ⟨w.heap.size + 1, 9, none⟩ = some (.int .u8 1) := ou.cell 9 (by simp)
      have c3 : wr.cell? ⟨w.heap.size + 1, 10, none⟩ = some (.bool true) := ou.cell 10 (by simp)
      have c4 : wr.cell? ⟨w.heap.size + 1, 11, none⟩ = some (.int .u8 1) := ou.cell 11 (by simp)
      have c5 : wr.cell? ⟨w.heap.size + 1, 12, none⟩ = some (.int .u8 5) := ou.cell 12 (by simp)
      have c6 : wr.cell? ⟨w.heap.size + 1, 13, none⟩ = some (.slice none 0 0) := ou.cell 13 (by simp)
      have cw : wr.cell? ⟨w.heap.size + 5, 1, none⟩ = some (.slice (some ⟨w.heap.size + 3, 0, none⟩) 4 4) := ow.cell 1 (by simp)
      have rw_ : Row .u8 wr (some ⟨w.heap.size + 3, 0, none⟩) 4 4 [0, 129, 1, 5] := Own.row0 (l := [0, 129, 1, 5]) ol 4 4 rfl (Nat.le_refl _) (by unfold maxLen; omega) (by decide)
      have rl : ∀ W, Below wr.heap.size wr W → Row .u8 W none 0 0 [] := fun W _ => Row.of_nil _ _
      have henc : Calls Tryd.prog 11 #[.agg #[.int .u8 0, .bool false, .int .u8 1, .bool true, .int .u8 1, .int .u8 5, .slice none 0 0]] wr fun e w' => (∃ d, e = .returned (.tuple #[.slice (some ⟨d, 0, none⟩) 4 4, .int .i64 0]) ∧ w'.ownsRow wr.heap.size 5 1 (.slice (some ⟨d, 0, none⟩) 4 4) 4 (nums .u8 [0, 129, 1, 5])) ∧ Below wr.heap.size wr w' :=
        encode_ok 0 false 1 true 1 5 none 0 0 1 [] wr (by decide) (by decide) (by decide) (by decide) (rl wr (Below.refl _ _)) (by decide) (by decide)
      have hdec : ∀ W, Below wr.heap.size wr W → Calls Tryd.prog 17 #[.slice (some ⟨w.heap.size + 3, 0, none⟩) 4 4] W fun e w' => (∃ s, e = .returned (.tuple #[.agg #[.int .u8 0, .bool false, .int .u8 1, .bool true, .int .u8 1, .int .u8 5, .slice s 0 0], .int .i64 0]) ∧ LoadAt w' W.heap.size s []) ∧ Below W.heap.size W w' := fun W hW =>
        decode_ok (some ⟨w.heap.size + 3, 0, none⟩) 4 4 0 [0, 129, 1, 5] W (rw_.later hW) (by decide) (by decide) (by decide) (by decide) (by decide)
      have HEnc := Lib.hid henc
      have HDec := Lib.hid hdec
      have HRl := Lib.hid rl
      have HRw := Lib.hid rw_
      have HOu := Lib.hid ou
      have HOw := Lib.hid ow
      have HOx := Lib.hid ox
      have HB := Lib.hid hb
      clear henc hdec rl rw_ ou ow ox ol hb
      go_wp2_with fail
      refine (HEnc.out).mono ?_
      clear c0 c1 c2 c3 c4 c5 c6 cw
      rintro e w1 ⟨⟨d, rfl, hd⟩, hb1⟩
      have hs1 := hb1.size
      have ow1 := HOw.out.below hb1 (by omega)
      have cw1 : w1.cell? ⟨w.heap.size + 5, 1, none⟩ = some (.slice (some ⟨w.heap.size + 3, 0, none⟩) 4 4) := ow1.cell 1 (by simp)
      have HB1 := Lib.hid hb1
      have HD := Lib.hid hd
      clear hb1 hd ow1
      go_wp2_with fail
      refine (HDec.out w1 HB1.out).mono ?_
      clear cw1
      rintro e w2 ⟨⟨s, rfl, hlo⟩, hb2⟩
      have hs2 := hb2.size
      obtain ⟨w3, hw3⟩ : ∃ W, W = w2.alloc (.cells #[.int .u8 0, .bool false, .int .u8 1, .bool true, .int .u8 1, .int .u8 5, .slice s 0 0] 25) := ⟨_, rfl⟩
      have hb23 : Below w2.heap.size w2 w3 := by rw [hw3]; exact below_alloc _ _
      have ob3 : Own w3 w2.heap.size 25 [.int .u8 0, .bool false, .int .u8 1, .bool true, .int .u8 1, .int .u8 5, .slice s 0 0] := by rw [hw3]; exact own_lit w2 _ _ _ rfl
      have hlo3 := hlo.later hb23
      have hb3 : Below wr.heap.size wr w3 := HB1.out.trans ((hb2.trans (hb23.mono hb2.size)).mono HB1.out.size)
      have hd3 := ownsRow_below HD.out (hb2.trans (hb23.mono hb2.size))
      have hs3 := ob3.lt
      have hS : ∀ W, Below w3.heap.size w3 W → Below w3.heap.size w3 W ∧ W.cell? ⟨w.heap.size + 1, 7, none⟩ = some (.int .u8 0) ∧ W.cell? ⟨w.heap.size + 1, 8, none⟩ = some (.bool false) ∧ W.cell? ⟨w.heap.size + 1, 9, none⟩ = some (.int .u8 1) ∧ W.cell? ⟨w.heap.size + 1, 10, none⟩ = some (.bool true) ∧ W.cell? ⟨w.heap.size + 1, 11, none⟩ = some (.int .u8 1) ∧ W.cell? ⟨w.heap.size + 1, 12, none⟩ = some (.int .u8 5) ∧ W.cell? ⟨w.heap.size + 1, 13, none⟩ = some (.slice none 0 0) ∧ W.cell? ⟨w2.heap.size, 0, none⟩ = some (.int .u8 0) ∧ W.cell? ⟨w2.heap.size, 1, none⟩ = some (.bool false) ∧ W.cell? ⟨w2.heap.size, 2, none⟩ = some (.int .u8 1) ∧ W.cell? ⟨w2.heap.size, 3, none⟩ = some (.bool true) ∧ W.cell? ⟨w2.heap.size, 4, none⟩ = some (.int .u8 1) ∧ W.cell? ⟨w2.heap.size, 5, none⟩ = some (.int .u8 5) ∧ W.cell? ⟨w2.heap.size, 6, none⟩ = some (.slice s 0 0) ∧ W.cell? ⟨w.heap.size + 5, 1, none⟩ = some (.slice (some ⟨w.heap.size + 3, 0, none⟩) 4 4) ∧ W.cell? ⟨w.heap.size + 6, 1, none⟩ = some (.string ⟨#[98, 97, 99, 107, 32, 48, 45, 32, 102, 111, 114, 101, 32, 49, 43, 32, 115, 116, 97, 116, 101, 32, 53]⟩) := fun W hW => by
        have hbr := hb3.trans (hW.mono hb3.size)
        have q1 := HOu.out.below hbr (by omega)
        have q2 := ob3.below hW (by omega)
        have q3 := HOw.out.below hbr (by omega)
        have q4 := HOx.out.below hbr (by omega)
        exact ⟨hW, q1.cell 7 (by simp), q1.cell 8 (by simp), q1.cell 9 (by simp), q1.cell 10 (by simp), q1.cell 11 (by simp), q1.cell 12 (by simp), q1.cell 13 (by simp), q2.cell 0 (by simp), q2.cell 1 (by simp), q2.cell 2 (by simp), q2.cell 3 (by simp), q2.cell 4 (by simp), q2.cell 5 (by simp), q2.cell 6 (by simp), q3.cell 1 (by simp), q4.cell 1 (by simp)⟩
      have hby : ∀ W, Below w3.heap.size w3 W → Calls Tryd.prog 14 #[.slice (some ⟨d, 0, none⟩) 4 4, .slice (some ⟨w.heap.size + 3, 0, none⟩) 4 4] W fun e w' => e = .returned (.int .i64 0) ∧ Below W.heap.size W w' := fun W hW => by
        have hr := ownsRow_rowN .u8 (ownsRow_below hd3 hW) (by decide)
        obtain ⟨a', c', hv, hr, _⟩ := hr
        simp only [Value.slice.injEq] at hv
        obtain ⟨rfl, _, rfl⟩ := hv
        refine (bytes_yes _ _ 4 4 4 [0, 129, 1, 5] W hr (HRw.out.later (hb3.trans (hW.mono hb3.size)))).mono ?_
        rintro e w' ⟨rfl, q, rfl⟩
        exact ⟨rfl, below_draw _ q⟩
      have hsm : ∀ W, Below w3.heap.size w3 W → Calls Tryd.prog 25 #[.agg #[.int .u8 0, .bool false, .int .u8 1, .bool true, .int .u8 1, .int .u8 5, .slice s 0 0], .agg #[.int .u8 0, .bool false, .int .u8 1, .bool true, .int .u8 1, .int .u8 5, .slice none 0 0]] W fun e w' => e = .returned (.bool true) ∧ Below W.heap.size W w' := fun W hW =>
        usame_any 0 false 1 true 1 5 s 0 0 [] 0 false 1 true 1 5 none 0 0 [] W ((hlo3.later hW).row (by decide) (by decide)) (HRl.out W (hb3.trans (hW.mono hb3.size)))
      have htx : ∀ W, Below w3.heap.size w3 W → Calls Tryd.prog 13 #[.agg #[.int .u8 0, .bool false, .int .u8 1, .bool true, .int .u8 1, .int .u8 5, .slice none 0 0]] W fun e w' => e = .returned (.string ⟨#[98, 97, 99, 107, 32, 48, 45, 32, 102, 111, 114, 101, 32, 49, 43, 32, 115, 116, 97, 116, 101, 32, 53]⟩) ∧ Below W.heap.size W w' := fun W hW => by
        have hbw := HBw.out.trans ((HB.out.trans ((hb3.trans (hW.mono hb3.size)).mono HB.out.size)).mono HBw.out.size)
        have ht := text_ok 0 false 1 true 1 5 none 0 0 [] W (by decide) (by decide) (by decide) (by decide) (HRl.out W (hb3.trans (hW.mono hb3.size))) (by decide) (HP.out.later hbw)
        have et : bs (textL 0 false 1 true 1 5 []) = ⟨#[98, 97, 99, 107, 32, 48, 45, 32, 102, 111, 114, 101, 32, 49, 43, 32, 115, 116, 97, 116, 101, 32, 53]⟩ := by decide +kernel
        rw [et] at ht
        exact ht
      have hSn : ∀ W W', Below w3.heap.size w3 W → Below W.heap.size W W' → Below w3.heap.size w3 W' ∧ W'.cell? ⟨w.heap.size + 1, 7, none⟩ = some (.int .u8 0) ∧ W'.cell? ⟨w.heap.size + 1, 8, none⟩ = some (.bool false) ∧ W'.cell? ⟨w.heap.size + 1, 9, none⟩ = some (.int .u8 1) ∧ W'.cell? ⟨w.heap.size + 1, 10, none⟩ = some (.bool true) ∧ W'.cell? ⟨w.heap.size + 1, 11, none⟩ = some (.int .u8 1) ∧ W'.cell? ⟨w.heap.size + 1, 12, none⟩ = some (.int .u8 5) ∧ W'.cell? ⟨w.heap.size + 1, 13, none⟩ = some (.slice none 0 0) ∧ W'.cell? ⟨w2.heap.size, 0, none⟩ = some (.int .u8 0) ∧ W'.cell? ⟨w2.heap.size, 1, none⟩ = some (.bool false) ∧ W'.cell? ⟨w2.heap.size, 2, none⟩ = some (.int .u8 1) ∧ W'.cell? ⟨w2.heap.size, 3, none⟩ = some (.bool true) ∧ W'.cell? ⟨w2.heap.size, 4, none⟩ = some (.int .u8 1) ∧ W'.cell? ⟨w2.heap.size, 5, none⟩ = some (.int .u8 5) ∧ W'.cell? ⟨w2.heap.size, 6, none⟩ = some (.slice s 0 0) ∧ W'.cell? ⟨w.heap.size + 5, 1, none⟩ = some (.slice (some ⟨w.heap.size + 3, 0, none⟩) 4 4) ∧ W'.cell? ⟨w.heap.size + 6, 1, none⟩ = some (.string ⟨#[98, 97, 99, 107, 32, 48, 45, 32, 102, 111, 114, 101, 32, 49, 43, 32, 115, 116, 97, 116, 101, 32, 53]⟩) := fun W W' h1 h2 => hS W' (h1.trans (h2.mono h1.size))
      have hSd := hS w3.drew (Below.refl _ _).drew
      have hS3 := hS w3 (Below.refl _ _)
      have HSn := Lib.hid hSn
      have HBy := Lib.hid hby
      have HSm := Lib.hid hsm
      have HTx := Lib.hid htx
      have HB3 := Lib.hid hb3
      have HW3 := Lib.hid hw3
      clear hS hSn hby hsm htx hb3 hd3 hlo3 ob3 hb23 hlo hb2 hw3
      go_wp2_with fail
      rw [← HW3.out]
      go_region_held3 (fun W => Below w3.heap.size w3 W ∧ W.cell? ⟨w.heap.size + 1, 7, none⟩ = some (.int .u8 0) ∧ W.cell? ⟨w.heap.size + 1, 8, none⟩ = some (.bool false) ∧ W.cell? ⟨w.heap.size + 1, 9, none⟩ = some (.int .u8 1) ∧ W.cell? ⟨w.heap.size + 1, 10, none⟩ = some (.bool true) ∧ W.cell? ⟨w.heap.size + 1, 11, none⟩ = some (.int .u8 1) ∧ W.cell? ⟨w.heap.size + 1, 12, none⟩ = some (.int .u8 5) ∧ W.cell? ⟨w.heap.size + 1, 13, none⟩ = some (.slice none 0 0) ∧ W.cell? ⟨w2.heap.size, 0, none⟩ = some (.int .u8 0) ∧ W.cell? ⟨w2.heap.size, 1, none⟩ = some (.bool false) ∧ W.cell? ⟨w2.heap.size, 2, none⟩ = some (.int .u8 1) ∧ W.cell? ⟨w2.heap.size, 3, none⟩ = some (.bool true) ∧ W.cell? ⟨w2.heap.size, 4, none⟩ = some (.int .u8 1) ∧ W.cell? ⟨w2.heap.size, 5, none⟩ = some (.int .u8 5) ∧ W.cell? ⟨w2.heap.size, 6, none⟩ = some (.slice s 0 0) ∧ W.cell? ⟨w.heap.size + 5, 1, none⟩ = some (.slice (some ⟨w.heap.size + 3, 0, none⟩) 4 4) ∧ W.cell? ⟨w.heap.size + 6, 1, none⟩ = some (.string ⟨#[98, 97, 99, 107, 32, 48, 45, 32, 102, 111, 114, 101, 32, 49, 43, 32, 115, 116, 97, 116, 101, 32, 53]⟩)) (first | assumption | go_keep)
        (first
          | (go_at_call 14; ((with_reducible refine (HBy.out _ (And.left (by assumption))).mono ?_); rintro e w4 ⟨rfl, hb4⟩; have hS4 := HSn.out _ _ (And.left (by assumption)) hb4; clear hb4))
          | (go_at_call 25; ((with_reducible refine (HSm.out _ (And.left (by assumption))).mono ?_); rintro e w5 ⟨rfl, hb5⟩; have hS5 := HSn.out _ _ (And.left (by assumption)) hb5; clear hb5))
          | (go_at_call 13; ((with_reducible refine (HTx.out _ (And.left (by assumption))).mono ?_); rintro e w6 ⟨rfl, hb6⟩; have hS6 := HSn.out _ _ (And.left (by assumption)) hb6; clear hb6))
          | fail)
      all_goals
        go_wp2
        refine ⟨⟨2, by omega, by first | rfl | go_num, HB.out.trans (Below.mono (HB3.out.trans (Below.mono (And.left (by assumption)) HB3.out.size)) HB.out.size)⟩, by simp [intOf]⟩
    · have hz7 := HZ.out
      have hlt7 := hb.size
      have ou := HO2.out.below hb (by omega)
      have ow := HO6.out.below hb (by omega)
      have ox := HO7.out.below hb (by omega)
      have ol := HO5.out.below hb (by omega)
      have c0 : wr.cell? ⟨w.heap.size + 1, 14, none⟩ = some (.int .u8 0) := ou.cell 14 (by simp)
      have c1 : wr.cell? ⟨w.heap.size + 1, 15, none⟩ = some (.bool false) := ou.cell 15 (by simp)
      have c2 : wr.cell? ⟨w.heap.size + 1, 16, none⟩ = some (.int .u8 0) := ou.cell 16 (by simp)
      have c3 : wr.cell? ⟨w.heap.size + 1, 17, none⟩ = some (.bool false) := ou.cell 17 (by simp)
      have c4 : wr.cell? ⟨w.heap.size + 1, 18, none⟩ = some (.int .u8 2) := ou.cell 18 (by simp)
      have c5 : wr.cell? ⟨w.heap.size + 1, 19, none⟩ = some (.int .u8 0) := ou.cell 19 (by simp)
      have c6 : wr.cell? ⟨w.heap.size + 1, 20, none⟩ = some (.slice (some ⟨w.heap.size, 0, none⟩) 2 2) := ou.cell 20 (by simp)
      have cw : wr.cell? ⟨w.heap.size + 5, 2, none⟩ = some (.slice (some ⟨w.heap.size + 4, 0, none⟩) 5 5) := ow.cell 2 (by simp)
      have rw_ : Row .u8 wr (some ⟨w.heap.size + 4, 0, none⟩) 5 5 [0, 0, 2, 3, 171] := Own.row0 (l := [0, 0, 2, 3, 171]) ol 5 5 rfl (Nat.le_refl _) (by unfold maxLen; omega) (by decide)
      have ol1 := HO1.out.below hb (by omega)
      have rl : ∀ W, Below wr.heap.size wr W → Row .u8 W (some ⟨w.heap.size, 0, none⟩) 2 2 [3, 171] := fun W hW => (Own.row0 (l := [3, 171]) ol1 2 2 rfl (Nat.le_refl _) (by unfold maxLen; omega) (by decide)).later hW
      have henc : Calls Tryd.prog 11 #[.agg #[.int .u8 0, .bool false, .int .u8 0, .bool false, .int .u8 2, .int .u8 0, .slice (some ⟨w.heap.size, 0, none⟩) 2 2]] wr fun e w' => (∃ d, e = .returned (.tuple #[.slice (some ⟨d, 0, none⟩) 5 5, .int .i64 0]) ∧ w'.ownsRow wr.heap.size 5 1 (.slice (some ⟨d, 0, none⟩) 5 5) 5 (nums .u8 [0, 0, 2, 3, 171])) ∧ Below wr.heap.size wr w' :=
        encode_ok 0 false 0 false 2 0 (some ⟨w.heap.size, 0, none⟩) 2 2 2 [3, 171] wr (by decide) (by decide) (by decide) (by decide) (rl wr (Below.refl _ _)) (by decide) (by decide)
      have hdec : ∀ W, Below wr.heap.size wr W → Calls Tryd.prog 17 #[.slice (some ⟨w.heap.size + 4, 0, none⟩) 5 5] W fun e w' => (∃ s, e = .returned (.tuple #[.agg #[.int .u8 0, .bool false, .int .u8 0, .bool false, .int .u8 2, .int .u8 0, .slice s 2 2], .int .i64 0]) ∧ LoadAt w' W.heap.size s [3, 171]) ∧ Below W.heap.size W w' := fun W hW =>
        decode_ok (some ⟨w.heap.size + 4, 0, none⟩) 5 5 2 [0, 0, 2, 3, 171] W (rw_.later hW) (by decide) (by decide) (by decide) (by decide) (by decide)
      have HEnc := Lib.hid henc
      have HDec := Lib.hid hdec
      have HRl := Lib.hid rl
      have HRw := Lib.hid rw_
      have HOu := Lib.hid ou
      have HOw := Lib.hid ow
      have HOx := Lib.hid ox
      have HB := Lib.hid hb
      clear henc hdec rl rw_ ou ow ox ol hb ol1
      go_wp2_with fail
      refine (HEnc.out).mono ?_
      clear c0 c1 c2 c3 c4 c5 c6 cw
      rintro e w1 ⟨⟨d, rfl, hd⟩, hb1⟩
      have hs1 := hb1.size
      have ow1 := HOw.out.below hb1 (by omega)
      have cw1 : w1.cell? ⟨w.heap.size + 5, 2, none⟩ = some (.slice (some ⟨w.heap.size + 4, 0, none⟩) 5 5) := ow1.cell 2 (by simp)
      have HB1 := Lib.hid hb1
      have HD := Lib.hid hd
      clear hb1 hd ow1
      go_wp2_with fail
      refine (HDec.out w1 HB1.out).mono ?_
      clear cw1
      rintro e w2 ⟨⟨s, rfl, hlo⟩, hb2⟩
      have hs2 := hb2.size
      obtain ⟨w3, hw3⟩ : ∃ W, W = w2.alloc (.cells #[.int .u8 0, .bool false, .int .u8 0, .bool false, .int .u8 2, .int .u8 0, .slice s 2 2] 25) := ⟨_, rfl⟩
      have hb23 : Below w2.heap.size w2 w3 := by rw [hw3]; exact below_alloc _ _
      have ob3 : Own w3 w2.heap.size 25 [.int .u8 0, .bool false, .int .u8 0, .bool false, .int .u8 2, .int .u8 0, .slice s 2 2] := by rw [hw3]; exact own_lit w2 _ _ _ rfl
      have hlo3 := hlo.later hb23
      have hb3 : Below wr.heap.size wr w3 := HB1.out.trans ((hb2.trans (hb23.mono hb2.size)).mono HB1.out.size)
      have hd3 := ownsRow_below HD.out (hb2.trans (hb23.mono hb2.size))
      have hs3 := ob3.lt
      have hS : ∀ W, Below w3.heap.size w3 W → Below w3.heap.size w3 W ∧ W.cell? ⟨w.heap.size + 1, 14, none⟩ = some (.int .u8 0) ∧ W.cell? ⟨w.heap.size + 1, 15, none⟩ = some (.bool false) ∧ W.cell? ⟨w.heap.size + 1, 16, none⟩ = some (.int .u8 0) ∧ W.cell? ⟨w.heap.size + 1, 17, none⟩ = some (.bool false) ∧ W.cell? ⟨w.heap.size + 1, 18, none⟩ = some (.int .u8 2) ∧ W.cell? ⟨w.heap.size + 1, 19, none⟩ = some (.int .u8 0) ∧ W.cell? ⟨w.heap.size + 1, 20, none⟩ = some (.slice (some ⟨w.heap.size, 0, none⟩) 2 2) ∧ W.cell? ⟨w2.heap.size, 0, none⟩ = some (.int .u8 0) ∧ W.cell? ⟨w2.heap.size, 1, none⟩ = some (.bool false) ∧ W.cell? ⟨w2.heap.size, 2, none⟩ = some (.int .u8 0) ∧ W.cell? ⟨w2.heap.size, 3, none⟩ = some (.bool false) ∧ W.cell? ⟨w2.heap.size, 4, none⟩ = some (.int .u8 2) ∧ W.cell? ⟨w2.heap.size, 5, none⟩ = some (.int .u8 0) ∧ W.cell? ⟨w2.heap.size, 6, none⟩ = some (.slice s 2 2) ∧ W.cell? ⟨w.heap.size + 5, 2, none⟩ = some (.slice (some ⟨w.heap.size + 4, 0, none⟩) 5 5) ∧ W.cell? ⟨w.heap.size + 6, 2, none⟩ = some (.string ⟨#[98, 97, 99, 107, 32, 48, 45, 32, 102, 111, 114, 101, 32, 48, 45, 32, 108, 111, 97, 100, 32, 48, 51, 97, 98]⟩) := fun W hW => by
        have hbr := hb3.trans (hW.mono hb3.size)
        have q1 := HOu.out.below hbr (by omega)
        have q2 := ob3.below hW (by omega)
        have q3 := HOw.out.below hbr (by omega)
        have q4 := HOx.out.below hbr (by omega)
        exact ⟨hW, q1.cell 14 (by simp), q1.cell 15 (by simp), q1.cell 16 (by simp), q1.cell 17 (by simp), q1.cell 18 (by simp), q1.cell 19 (by simp), q1.cell 20 (by simp), q2.cell 0 (by simp), q2.cell 1 (by simp), q2.cell 2 (by simp), q2.cell 3 (by simp), q2.cell 4 (by simp), q2.cell 5 (by simp), q2.cell 6 (by simp), q3.cell 2 (by simp), q4.cell 2 (by simp)⟩
      have hby : ∀ W, Below w3.heap.size w3 W → Calls Tryd.prog 14 #[.slice (some ⟨d, 0, none⟩) 5 5, .slice (some ⟨w.heap.size + 4, 0, none⟩) 5 5] W fun e w' => e = .returned (.int .i64 0) ∧ Below W.heap.size W w' := fun W hW => by
        have hr := ownsRow_rowN .u8 (ownsRow_below hd3 hW) (by decide)
        obtain ⟨a', c', hv, hr, _⟩ := hr
        simp only [Value.slice.injEq] at hv
        obtain ⟨rfl, _, rfl⟩ := hv
        refine (bytes_yes _ _ 5 5 5 [0, 0, 2, 3, 171] W hr (HRw.out.later (hb3.trans (hW.mono hb3.size)))).mono ?_
        rintro e w' ⟨rfl, q, rfl⟩
        exact ⟨rfl, below_draw _ q⟩
      have hsm : ∀ W, Below w3.heap.size w3 W → Calls Tryd.prog 25 #[.agg #[.int .u8 0, .bool false, .int .u8 0, .bool false, .int .u8 2, .int .u8 0, .slice s 2 2], .agg #[.int .u8 0, .bool false, .int .u8 0, .bool false, .int .u8 2, .int .u8 0, .slice (some ⟨w.heap.size, 0, none⟩) 2 2]] W fun e w' => e = .returned (.bool true) ∧ Below W.heap.size W w' := fun W hW =>
        usame_any 0 false 0 false 2 0 s 2 2 [3, 171] 0 false 0 false 2 0 (some ⟨w.heap.size, 0, none⟩) 2 2 [3, 171] W ((hlo3.later hW).row (by decide) (by decide)) (HRl.out W (hb3.trans (hW.mono hb3.size)))
      have htx : ∀ W, Below w3.heap.size w3 W → Calls Tryd.prog 13 #[.agg #[.int .u8 0, .bool false, .int .u8 0, .bool false, .int .u8 2, .int .u8 0, .slice (some ⟨w.heap.size, 0, none⟩) 2 2]] W fun e w' => e = .returned (.string ⟨#[98, 97, 99, 107, 32, 48, 45, 32, 102, 111, 114, 101, 32, 48, 45, 32, 108, 111, 97, 100, 32, 48, 51, 97, 98]⟩) ∧ Below W.heap.size W w' := fun W hW => by
        have hbw := HBw.out.trans ((HB.out.trans ((hb3.trans (hW.mono hb3.size)).mono HB.out.size)).mono HBw.out.size)
        have ht := text_ok 0 false 0 false 2 0 (some ⟨w.heap.size, 0, none⟩) 2 2 [3, 171] W (by decide) (by decide) (by decide) (by decide) (HRl.out W (hb3.trans (hW.mono hb3.size))) (by decide) (HP.out.later hbw)
        have et : bs (textL 0 false 0 false 2 0 [3, 171]) = ⟨#[98, 97, 99, 107, 32, 48, 45, 32, 102, 111, 114, 101, 32, 48, 45, 32, 108, 111, 97, 100, 32, 48, 51, 97, 98]⟩ := by decide +kernel
        rw [et] at ht
        exact ht
      have hSn : ∀ W W', Below w3.heap.size w3 W → Below W.heap.size W W' → Below w3.heap.size w3 W' ∧ W'.cell? ⟨w.heap.size + 1, 14, none⟩ = some (.int .u8 0) ∧ W'.cell? ⟨w.heap.size + 1, 15, none⟩ = some (.bool false) ∧ W'.cell? ⟨w.heap.size + 1, 16, none⟩ = some (.int .u8 0) ∧ W'.cell? ⟨w.heap.size + 1, 17, none⟩ = some (.bool false) ∧ W'.cell? ⟨w.heap.size + 1, 18, none⟩ = some (.int .u8 2) ∧ W'.cell? ⟨w.heap.size + 1, 19, none⟩ = some (.int .u8 0) ∧ W'.cell? ⟨w.heap.size + 1, 20, none⟩ = some (.slice (some ⟨w.heap.size, 0, none⟩) 2 2) ∧ W'.cell? ⟨w2.heap.size, 0, none⟩ = some (.int .u8 0) ∧ W'.cell? ⟨w2.heap.size, 1, none⟩ = some (.bool false) ∧ W'.cell? ⟨w2.heap.size, 2, none⟩ = some (.int .u8 0) ∧ W'.cell? ⟨w2.heap.size, 3, none⟩ = some (.bool false) ∧ W'.cell? ⟨w2.heap.size, 4, none⟩ = some (.int .u8 2) ∧ W'.cell? ⟨w2.heap.size, 5, none⟩ = some (.int .u8 0) ∧ W'.cell? ⟨w2.heap.size, 6, none⟩ = some (.slice s 2 2) ∧ W'.cell? ⟨w.heap.size + 5, 2, none⟩ = some (.slice (some ⟨w.heap.size + 4, 0, none⟩) 5 5) ∧ W'.cell? ⟨w.heap.size + 6, 2, none⟩ = some (.string ⟨#[98, 97, 99, 107, 32, 48, 45, 32, 102, 111, 114, 101, 32, 48, 45, 32, 108, 111, 97, 100, 32, 48, 51, 97, 98]⟩) := fun W W' h1 h2 => hS W' (h1.trans (h2.mono h1.size))
      have hSd := hS w3.drew (Below.refl _ _).drew
      have hS3 := hS w3 (Below.refl _ _)
      have HSn := Lib.hid hSn
      have HBy := Lib.hid hby
      have HSm := Lib.hid hsm
      have HTx := Lib.hid htx
      have HB3 := Lib.hid hb3
      have HW3 := Lib.hid hw3
      clear hS hSn hby hsm htx hb3 hd3 hlo3 ob3 hb23 hlo hb2 hw3
      go_wp2_with fail
      rw [← HW3.out]
      go_region_held3 (fun W => Below w3.heap.size w3 W ∧ W.cell? ⟨w.heap.size + 1, 14, none⟩ = some (.int .u8 0) ∧ W.cell? ⟨w.heap.size + 1, 15, none⟩ = some (.bool false) ∧ W.cell? ⟨w.heap.size + 1, 16, none⟩ = some (.int .u8 0) ∧ W.cell? ⟨w.heap.size + 1, 17, none⟩ = some (.bool false) ∧ W.cell? ⟨w.heap.size + 1, 18, none⟩ = some (.int .u8 2) ∧ W.cell? ⟨w.heap.size + 1, 19, none⟩ = some (.int .u8 0) ∧ W.cell? ⟨w.heap.size + 1, 20, none⟩ = some (.slice (some ⟨w.heap.size, 0, none⟩) 2 2) ∧ W.cell? ⟨w2.heap.size, 0, none⟩ = some (.int .u8 0) ∧ W.cell? ⟨w2.heap.size, 1, none⟩ = some (.bool false) ∧ W.cell? ⟨w2.heap.size, 2, none⟩ = some (.int .u8 0) ∧ W.cell? ⟨w2.heap.size, 3, none⟩ = some (.bool false) ∧ W.cell? ⟨w2.heap.size, 4, none⟩ = some (.int .u8 2) ∧ W.cell? ⟨w2.heap.size, 5, none⟩ = some (.int .u8 0) ∧ W.cell? ⟨w2.heap.size, 6, none⟩ = some (.slice s 2 2) ∧ W.cell? ⟨w.heap.size + 5, 2, none⟩ = some (.slice (some ⟨w.heap.size + 4, 0, none⟩) 5 5) ∧ W.cell? ⟨w.heap.size + 6, 2, none⟩ = some (.string ⟨#[98, 97, 99, 107, 32, 48, 45, 32, 102, 111, 114, 101, 32, 48, 45, 32, 108, 111, 97, 100, 32, 48, 51, 97, 98]⟩)) (first | assumption | go_keep)
        (first
          | (go_at_call 14; ((with_reducible refine (HBy.out _ (And.left (by assumption))).mono ?_); rintro e w4 ⟨rfl, hb4⟩; have hS4 := HSn.out _ _ (And.left (by assumption)) hb4; clear hb4))
          | (go_at_call 25; ((with_reducible refine (HSm.out _ (And.left (by assumption))).mono ?_); rintro e w5 ⟨rfl, hb5⟩; have hS5 := HSn.out _ _ (And.left (by assumption)) hb5; clear hb5))
          | (go_at_call 13; ((with_reducible refine (HTx.out _ (And.left (by assumption))).mono ?_); rintro e w6 ⟨rfl, hb6⟩; have hS6 := HSn.out _ _ (And.left (by assumption)) hb6; clear hb6))
          | fail)
      all_goals
        go_wp2
        refine ⟨⟨3, by omega, by first | rfl | go_num, HB.out.trans (Below.mono (HB3.out.trans (Below.mono (And.left (by assumption)) HB3.out.size)) HB.out.size)⟩, by simp [intOf]⟩
    · have hbw := HBw.out.trans (hb.mono HBw.out.size)
      clear hb
      have BB := Lib.hid hbw
      clear hbw
      go_wp2_with fail
      refine (decode_form _ 4 4 [0, 0, 2, 3] _ (row_lit .u8 wr 5 [0, 0, 2, 3] 4 rfl (by decide) (by decide)) (by decide) (by decide) (by decide)).mono ?_
      rintro e x0 ⟨rfl, hb⟩
      have BB0 := Lib.hid (BB.out.trans ((below_call hb).mono BB.out.size))
      clear hb
      go_wp2_with fail
      refine (decode_bad _ 4 4 0 [0, 0, 1, 6] _ (row_lit2 .u8 x0 (.cells #[.int .u8 0, .bool false, .int .u8 0, .bool false, .int .u8 0, .int .u8 0, .slice none 0 0] 25) 5 [0, 0, 1, 6] 4 rfl (by decide) (by decide)) (by decide) (by decide) (by decide) (by decide) (by decide)).mono ?_
      rintro e x1 ⟨rfl, hb⟩
      have BB1 := Lib.hid (BB0.out.trans (((below_alloc x0 (.cells #[.int .u8 0, .bool false, .int .u8 0, .bool false, .int .u8 0, .int .u8 0, .slice none 0 0] 25)).trans ((below_call hb).mono (by simp))).mono BB0.out.size))
      clear hb
      go_wp2_with fail
      refine (decode_width _ 2 2 _ (.inl (by decide)) (by decide)).mono ?_
      rintro e x2 ⟨rfl, hb⟩
      have BB2 := Lib.hid (BB1.out.trans (((below_alloc x1 (.cells #[.int .u8 0, .bool false, .int .u8 0, .bool false, .int .u8 0, .int .u8 0, .slice none 0 0] 25)).trans ((below_call hb).mono (by simp))).mono BB1.out.size))
      clear hb
      have hck : ∀ s W, Calls Tryd.prog 12 #[.agg #[.int .u8 0, .bool false, .int .u8 0, .bool false, .int .u8 2, .int .u8 0, .slice s 1 1]] W fun e w' => e = .returned (.int .i64 5) ∧ Below W.heap.size W w' := fun s W => ucheck_any 0 false 0 false 2 0 s 1 1 W (by decide) (by decide) (by decide) (by decide) (by decide) (by decide) (by decide) (by decide) (by decide)
      have ha1 : ∀ W, Calls Tryd.prog 26 #[.int .u8 127, .int .i64 2] W fun e w' => e = .returned (.int .u8 1) ∧ W = w' := fun W => after_any 127 2 W (by decide) (by decide)
      have ha2 : ∀ W, Calls Tryd.prog 26 #[.int .u8 0, .int .i64 (-1)] W fun e w' => e = .returned (.int .u8 127) ∧ W = w' := fun W => after_any 0 (-1) W (by decide) (by decide)
      have ha3 : ∀ W, Calls Tryd.prog 27 #[.int .u8 126, .int .u8 1] W fun e w' => e = .returned (.int .i64 3) ∧ W = w' := fun W => ahead_any 126 1 W (by decide) (by decide) (by decide) (by decide)
      have Hhck := Lib.hid hck
      have Hha1 := Lib.hid ha1
      have Hha2 := Lib.hid ha2
      have Hha3 := Lib.hid ha3
      clear hck ha1 ha2 ha3
      go_wp2_with fail
      refine (Hhck.out _ _).mono ?_
      rintro e x4 ⟨rfl, hb⟩
      have BB4 := Lib.hid (BB2.out.trans (((below_alloc x2 (.cells #[.int .u8 0, .bool false, .int .u8 0, .bool false, .int .u8 0, .int .u8 0, .slice none 0 0] 25)).trans ((below_call hb).mono (by simp))).mono BB2.out.size))
      clear hb
      go_wp2_with fail
      refine (Hha1.out _).mono ?_
      rintro e w' ⟨rfl, rfl⟩
      go_wp2_with fail
      refine (Hha2.out _).mono ?_
      rintro e w' ⟨rfl, rfl⟩
      go_wp2_with fail
      refine (Hha3.out _).mono ?_
      rintro e w' ⟨rfl, rfl⟩
      go_wp2
      go_ret
      exact ⟨rfl, BB4.out⟩
end Go.Proofs.YtkfookiakpnlfaaDoor
