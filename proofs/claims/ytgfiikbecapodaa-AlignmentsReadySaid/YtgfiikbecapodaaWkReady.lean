/- Statements of layer 9: AlignmentsReady. -/
import Derived.Test.YtgfiikbecapodaaAlTwo
import Derived.Deep.RegionHeld3
import Derived.Deep.CutBlock
import Derived.Deep.LoopGhost
namespace Go.Proofs.Ytgfiikbecapodaa
open Go.RowKit

set_option maxHeartbeats 4000000 in
set_option maxRecDepth 100000 in
theorem ready_any (a0 a1 a2 a3 a4 a5 a6 b0 b1 b2 b3 b4 b5 b6 : Nat) (u v : Bool) (z0 z1 : Nat) (w : World) (h0 : a0 ≤ 255) (h1 : a1 ≤ 255) (h2 : a2 ≤ 255) (h3 : a3 ≤ 255) (h4 : a4 ≤ 255) (h5 : a5 ≤ 255) (h6 : a6 ≤ 255) (k0 : b0 ≤ 255) (k1 : b1 ≤ 255) (k2 : b2 ≤ 255) (k3 : b3 ≤ 255) (k4 : b4 ≤ 255) (k5 : b5 ≤ 255) (k6 : b6 ≤ 255) (hz0 : z0 ≤ 255) (hz1 : z1 ≤ 255) :
    Calls Try.prog 4 #[.agg #[.int .u8 (a0 : Int), .int .u8 (a1 : Int), .int .u8 (a2 : Int), .int .u8 (a3 : Int), .int .u8 (a4 : Int), .int .u8 (a5 : Int), .int .u8 (a6 : Int), .int .u8 (b0 : Int), .int .u8 (b1 : Int), .int .u8 (b2 : Int), .int .u8 (b3 : Int), .int .u8 (b4 : Int), .int .u8 (b5 : Int), .int .u8 (b6 : Int)], .agg #[.bool u, .bool v], .agg #[.int .u8 (z0 : Int), .int .u8 (z1 : Int)]] w fun e w' => e = .returned (.bool true) ∧ Below w.heap.size w w' := by
  obtain ⟨W, hW⟩ : ∃ X, X = ((w.alloc (.cells #[.int .u8 (a0 : Int), .int .u8 (a1 : Int), .int .u8 (a2 : Int), .int .u8 (a3 : Int), .int .u8 (a4 : Int), .int .u8 (a5 : Int), .int .u8 (a6 : Int), .int .u8 (b0 : Int), .int .u8 (b1 : Int), .int .u8 (b2 : Int), .int .u8 (b3 : Int), .int .u8 (b4 : Int), .int .u8 (b5 : Int), .int .u8 (b6 : Int)] 43)).alloc (.cells #[.bool u, .bool v] 44)).alloc (.cells #[.int .u8 (z0 : Int), .int .u8 (z1 : Int)] 45) := ⟨_, rfl⟩
  have hbW : Below w.heap.size w W := by rw [hW]; exact ((below_alloc _ _).alloc (by simp) _).alloc (by simp; omega) _
  obtain ⟨P0, hP0⟩ : ∃ P, P = w.heap.size := ⟨_, rfl⟩
  obtain ⟨P1, hP1⟩ : ∃ P, P = w.heap.size + 1 := ⟨_, rfl⟩
  obtain ⟨P2, hP2⟩ : ∃ P, P = w.heap.size + 1 + 1 := ⟨_, rfl⟩
  have oW0 : Own W P0 43 [.int .u8 (a0 : Int), .int .u8 (a1 : Int), .int .u8 (a2 : Int), .int .u8 (a3 : Int), .int .u8 (a4 : Int), .int .u8 (a5 : Int), .int .u8 (a6 : Int), .int .u8 (b0 : Int), .int .u8 (b1 : Int), .int .u8 (b2 : Int), .int .u8 (b3 : Int), .int .u8 (b4 : Int), .int .u8 (b5 : Int), .int .u8 (b6 : Int)] := by rw [hW, hP0]; exact ((own_new w _ _ _ rfl).below (below_alloc _ _) (by simp)).below (below_alloc _ _) (by simp; omega)
  have oW1 : Own W P1 44 [.bool u, .bool v] := by
    rw [hW, hP1]
    have := own_new (w.alloc (.cells #[.int .u8 (a0 : Int), .int .u8 (a1 : Int), .int .u8 (a2 : Int), .int .u8 (a3 : Int), .int .u8 (a4 : Int), .int .u8 (a5 : Int), .int .u8 (a6 : Int), .int .u8 (b0 : Int), .int .u8 (b1 : Int), .int .u8 (b2 : Int), .int .u8 (b3 : Int), .int .u8 (b4 : Int), .int .u8 (b5 : Int), .int .u8 (b6 : Int)] 43)) 44 #[.bool u, .bool v] _ rfl
    rw [World.size_alloc] at this
    exact this.below (below_alloc _ _) (by simp)
  have oW2 : Own W P2 45 [.int .u8 (z0 : Int), .int .u8 (z1 : Int)] := by
    rw [hW, hP2]
    have := own_new ((w.alloc (.cells #[.int .u8 (a0 : Int), .int .u8 (a1 : Int), .int .u8 (a2 : Int), .int .u8 (a3 : Int), .int .u8 (a4 : Int), .int .u8 (a5 : Int), .int .u8 (a6 : Int), .int .u8 (b0 : Int), .int .u8 (b1 : Int), .int .u8 (b2 : Int), .int .u8 (b3 : Int), .int .u8 (b4 : Int), .int .u8 (b5 : Int), .int .u8 (b6 : Int)] 43)).alloc (.cells #[.bool u, .bool v] 44)) 45 #[.int .u8 (z0 : Int), .int .u8 (z1 : Int)] _ rfl
    rw [World.size_alloc, World.size_alloc] at this
    exact this
  obtain ⟨t, ht⟩ : ∃ t, t = tiOf a0 a1 a2 a3 a4 a5 a6 := ⟨_, rfl⟩
  have hlo : t.Low := by rw [ht]; exact tiOf_low ..
  obtain ⟨r, hr⟩ : ∃ r, r = tiOf b0 b1 b2 b3 b4 b5 b6 := ⟨_, rfl⟩
  have hlr : r.Low := by rw [hr]; exact tiOf_low ..
  have HOf := Lib.hid (fun W => of_lit a0 a1 a2 a3 a4 a5 a6 W h0 h1 h2 h3 h4 h5 h6 t ht)
  have HOr := Lib.hid (fun W => of_lit b0 b1 b2 b3 b4 b5 b6 W k0 k1 k2 k3 k4 k5 k6 r hr)
  have HW := Lib.hid hW
  have HB := Lib.hid hbW
  have HO0 := Lib.hid oW0
  have HO1 := Lib.hid oW1
  have HO2 := Lib.hid oW2
  have HLo := Lib.hid hlo
  have HLr := Lib.hid hlr
  have HLv := Lib.hid lives_any
  have HZ := Lib.hid (And.intro hz0 hz1)
  clear hW hbW oW0 oW1 oW2 ht hr hlo hlr h0 h1 h2 h3 h4 h5 h6 k0 k1 k2 k3 k4 k5 k6 hz0 hz1
  go_enter Try.func4, Try.ntmps4
  go_upto_region 1 with fail
  rw [← HW.out, ← hP2, ← hP1, ← hP0]
  clear hP1 hP2 hP0
  go_cut [7, 8] from 17 (fun v7 v8 wx => ∃ p q : Nat, v7 = .pointer (some ⟨p, 0, none⟩) ∧ v8 = .pointer (some ⟨q, 0, none⟩) ∧ Own wx p 31 [.int .i64 (t.seek : Int), .int .i64 (t.hold : Int), .int .i64 (t.normal : Int), .int .i64 (t.emer : Int), .int .i64 (t.few : Int), .int .i64 (t.fewer : Int), .int .i64 (t.most : Int)] ∧ Own wx q 31 [.int .i64 (r.seek : Int), .int .i64 (r.hold : Int), .int .i64 (r.normal : Int), .int .i64 (r.emer : Int), .int .i64 (r.few : Int), .int .i64 (r.fewer : Int), .int .i64 (r.most : Int)] ∧ p ≠ q ∧ W.heap.size ≤ p ∧ W.heap.size ≤ q ∧ Below W.heap.size W wx)
  case first =>
    refine wp_region_held_drew (S := fun W1 => Below W.heap.size W W1) (by kernel_rfl) ?_ (fun hHeld => ?_)
    · exact below_draw W 1
    refine wpAnyH_take (i := 0) (oi := { dst := some 17, op := Op.indexAddr 43 (Operand.tmp 3) (Operand.const (Value.int IntKind.i64 0)), type := 0, pos := "law.go:228", after := #[], guard := none }) (v := ?_) rfl (by kernel_rfl) (by kernel_rfl) (by kernel_rfl) (fun _ _ _ h => h) (Or.inl ⟨by rfl, ?_⟩) (by assumption) ?_
    rotate_left 1
    · intro w1 hSw
      go_simp
      try with_reducible rfl
    try simp only [Act.put, List.setIfInBounds_toArray, List.set_cons_zero, List.set_cons_succ]
    refine wpAnyH_take (i := 1) (oi := { dst := some 18, op := Op.load 23 (Operand.tmp 17), type := 23, pos := "law.go:228", after := #[{ on := 0, ground := Ground.data }], guard := none }) (v := ?_) rfl (by kernel_rfl) (by kernel_rfl) (by kernel_rfl) (fun _ _ _ h => h) (Or.inl ⟨by rfl, ?_⟩) (by assumption) ?_
    rotate_left 1
    · intro w1 hSw
      have oo := HO0.out.below hSw HO0.out.lt
      have c0 := oo.cell 0 (by simp)
      have c1 := oo.cell 1 (by simp)
      have c2 := oo.cell 2 (by simp)
      have c3 := oo.cell 3 (by simp)
      have c4 := oo.cell 4 (by simp)
      have c5 := oo.cell 5 (by simp)
      have c6 := oo.cell 6 (by simp)
      simp only [List.getD_cons_succ, List.getD_cons_zero] at c0 c1 c2 c3 c4 c5 c6
      clear oo
      go_simp
      try with_reducible rfl
    try simp only [Act.put, List.setIfInBounds_toArray, List.set_cons_zero, List.set_cons_succ]
    refine wpAnyH_take (i := 3) (oi := { dst := some 20, op := Op.indexAddr 43 (Operand.tmp 3) (Operand.const (Value.int IntKind.i64 1)), type := 0, pos := "law.go:228", after := #[], guard := none }) (v := ?_) rfl (by kernel_rfl) (by kernel_rfl) (by kernel_rfl) (fun _ _ _ h => h) (Or.inl ⟨by rfl, ?_⟩) (by assumption) ?_
    rotate_left 1
    · intro w1 hSw
      go_simp
      try with_reducible rfl
    try simp only [Act.put, List.setIfInBounds_toArray, List.set_cons_zero, List.set_cons_succ]
    refine wpAnyH_take (i := 4) (oi := { dst := some 21, op := Op.load 23 (Operand.tmp 20), type := 23, pos := "law.go:228", after := #[{ on := 3, ground := Ground.data }], guard := none }) (v := ?_) rfl (by kernel_rfl) (by kernel_rfl) (by kernel_rfl) (fun _ _ _ h => h) (Or.inl ⟨by rfl, ?_⟩) (by assumption) ?_
    rotate_left 1
    · intro w1 hSw
      have oo := HO0.out.below hSw HO0.out.lt
      have c0 := oo.cell 7 (by simp)
      have c1 := oo.cell 8 (by simp)
      have c2 := oo.cell 9 (by simp)
      have c3 := oo.cell 10 (by simp)
      have c4 := oo.cell 11 (by simp)
      have c5 := oo.cell 12 (by simp)
      have c6 := oo.cell 13 (by simp)
      simp only [List.getD_cons_succ, List.getD_cons_zero] at c0 c1 c2 c3 c4 c5 c6
      clear oo
      go_simp
      try with_reducible rfl
    try simp only [Act.put, List.setIfInBounds_toArray, List.set_cons_zero, List.set_cons_succ]
    obtain ⟨X0, hX0⟩ : ∃ X, X = W.drew := ⟨_, rfl⟩
    rw [← hX0] at hHeld ⊢
    clear hX0
    refine wpAnyH_ready (rs := [2, 6, 7]) (by kernel_rfl) (by simp) ?_
    refine AllReadyH.cons (o := { dst := some 19, op := Op.call { callee := Callee.value (Operand.func 11), args := #[Operand.tmp 18], argTypes := #[23] }, type := 31, pos := "law.go:228", after := #[{ on := 1, ground := Ground.data }], guard := none }) rfl (fun K hK => ?_) ?_
    · go_simp
      with_reducible refine (HOf.out _).mono ?_
      rintro e X1 ⟨rfl, hb⟩
      go_wp2_with fail
      have hy := hHeld.trans (Below.mono hb hHeld.size)
      refine hK.out _ _ hy (fun hHeld => ?_)
      clear hK K
      try simp only [Act.put, List.setIfInBounds_toArray, List.set_cons_zero, List.set_cons_succ]
      refine wpAnyH_ready (rs := [5, 6, 7]) (by kernel_rfl) (by simp) ?_
      refine AllReadyH.cons (o := { dst := some 22, op := Op.call { callee := Callee.value (Operand.func 11), args := #[Operand.tmp 21], argTypes := #[23] }, type := 31, pos := "law.go:228", after := #[{ on := 4, ground := Ground.data }, { on := 2, ground := Ground.chain }], guard := none }) rfl (fun K hK => ?_) ?_
      · go_simp
        with_reducible refine (HOr.out _).mono ?_
        rintro e X2 ⟨rfl, hb⟩
        go_wp2_with fail
        have hy := hHeld.trans (Below.mono hb hHeld.size)
        refine hK.out _ _ hy (fun hHeld => ?_)
        clear hK K
        try simp only [Act.put, List.setIfInBounds_toArray, List.set_cons_zero, List.set_cons_succ]
        refine wpAnyH_ready (rs := [6, 7]) (by kernel_rfl) (by simp) ?_
        refine AllReadyH.cons (o := { dst := some 7, op := Op.alloc 31, type := 0, pos := "law.go:228", after := #[], guard := none }) rfl (fun K hK => ?_) ?_
        · go_simp
          obtain ⟨p, hpe⟩ : ∃ p, p = X2.heap.size := ⟨_, rfl⟩
          obtain ⟨X3, hn⟩ : ∃ Y, Y = X2.alloc (.cells #[.int .i64 0, .int .i64 0, .int .i64 0, .int .i64 0, .int .i64 0, .int .i64 0, .int .i64 0] 31) := ⟨_, rfl⟩
          have hnb : Below X2.heap.size X2 X3 := by rw [hn]; exact below_alloc _ _
          have hp3 : Own X3 p 31 [.int .i64 0, .int .i64 0, .int .i64 0, .int .i64 0, .int .i64 0, .int .i64 0, .int .i64 0] := by rw [hn, hpe]; exact own_new _ _ _ _ rfl
          have hpl : W.heap.size ≤ p := by have := hHeld.size; omega
          have hy := hHeld.trans (Below.mono hnb hHeld.size)
          rw [← hn, ← hpe]
          clear hn hpe
          refine hK.out _ _ hy (fun hHeld => ?_)
          clear hK K
          try simp only [Act.put, List.setIfInBounds_toArray, List.set_cons_zero, List.set_cons_succ]
          refine wpAnyH_ready (rs := [7]) (by kernel_rfl) (by simp) ?_
          refine AllReadyH.cons (o := { dst := some 8, op := Op.alloc 31, type := 0, pos := "law.go:228", after := #[], guard := none }) rfl (fun K hK => ?_) AllReadyH.nil
          · go_simp
            obtain ⟨q, hqe⟩ : ∃ q, q = X3.heap.size := ⟨_, rfl⟩
            obtain ⟨X4, hn⟩ : ∃ Y, Y = X3.alloc (.cells #[.int .i64 0, .int .i64 0, .int .i64 0, .int .i64 0, .int .i64 0, .int .i64 0, .int .i64 0] 31) := ⟨_, rfl⟩
            have hnb : Below X3.heap.size X3 X4 := by rw [hn]; exact below_alloc _ _
            have hq4 : Own X4 q 31 [.int .i64 0, .int .i64 0, .int .i64 0, .int .i64 0, .int .i64 0, .int .i64 0, .int .i64 0] := by rw [hn, hqe]; exact own_new _ _ _ _ rfl
            have hql : W.heap.size ≤ q := by have := hHeld.size; omega
            have hp4 := hp3.below hnb hp3.lt
            have hpq : p ≠ q := by have := hp3.lt; omega
            have hy := hHeld.trans (Below.mono hnb hHeld.size)
            rw [← hn, ← hqe]
            clear hn hqe
            refine hK.out _ _ hy (fun hHeld => ?_)
            clear hK K
            try simp only [Act.put, List.setIfInBounds_toArray, List.set_cons_zero, List.set_cons_succ]
            refine wpAnyH_ready (rs := [8]) (by kernel_rfl) (by simp) ?_
            refine AllReadyH.cons (o := { dst := none, op := Op.store 31 (Operand.tmp 7) (Operand.tmp 19), type := 0, pos := "law.go:228", after := #[{ on := 6, ground := Ground.data }, { on := 2, ground := Ground.data }, { on := 5, ground := Ground.chain }, { on := 0, ground := Ground.phase }, { on := 1, ground := Ground.phase }, { on := 2, ground := Ground.phase }, { on := 3, ground := Ground.textOnly Departure.lateStores }, { on := 4, ground := Ground.textOnly Departure.lateStores }, { on := 5, ground := Ground.textOnly Departure.lateStoresUnsure }, { on := 6, ground := Ground.phase }, { on := 7, ground := Ground.phase }], guard := none }) rfl (fun K hK => ?_) AllReadyH.nil
            rw [if_pos (by rfl)]
            with_reducible refine wp_store_mid 31 (Operand.tmp 7) (Operand.tmp 19) ?ho p 0 #[.int .i64 (t.seek : Int), .int .i64 (t.hold : Int), .int .i64 (t.normal : Int), .int .i64 (t.emer : Int), .int .i64 (t.few : Int), .int .i64 (t.fewer : Int), .int .i64 (t.most : Int)] ?hx ?hy ?ht ?hi ?h1 ?_
            case ho => rfl
            case hx => rfl
            case hy => rfl
            case ht => exact (show World.there X4 p 0 7 from own_there hp4)
            case hi => kernel_rfl
            case h1 => simp [Value.oneCell']
            have s1 : Own (X4.setCells p 0 (#[.int .i64 (t.seek : Int), .int .i64 (t.hold : Int), .int .i64 (t.normal : Int), .int .i64 (t.emer : Int), .int .i64 (t.few : Int), .int .i64 (t.fewer : Int), .int .i64 (t.most : Int)] : Array Value).toList) p 31 [.int .i64 (t.seek : Int), .int .i64 (t.hold : Int), .int .i64 (t.normal : Int), .int .i64 (t.emer : Int), .int .i64 (t.few : Int), .int .i64 (t.fewer : Int), .int .i64 (t.most : Int)] := own_setCells _ 0 _ _ hp4
            have x1 : Exc (fun k => k = p) X4 (X4.setCells p 0 (#[.int .i64 (t.seek : Int), .int .i64 (t.hold : Int), .int .i64 (t.normal : Int), .int .i64 (t.emer : Int), .int .i64 (t.few : Int), .int .i64 (t.fewer : Int), .int .i64 (t.most : Int)] : Array Value).toList) := exc_setCells _ 0 _ (Exc.refl _ _)
            obtain ⟨Y1, hY1⟩ : ∃ Y, Y = X4.setCells p 0 (#[.int .i64 (t.seek : Int), .int .i64 (t.hold : Int), .int .i64 (t.normal : Int), .int .i64 (t.emer : Int), .int .i64 (t.few : Int), .int .i64 (t.fewer : Int), .int .i64 (t.most : Int)] : Array Value).toList := ⟨_, rfl⟩
            rw [← hY1] at s1 x1 ⊢
            clear hY1
            have s2 : Own Y1 q 31 [.int .i64 0, .int .i64 0, .int .i64 0, .int .i64 0, .int .i64 0, .int .i64 0, .int .i64 0] := by unfold Own; rw [x1.block q hq4.lt (fun e => hpq e.symm)]; exact hq4
            have y1 := hHeld.trans (x1.below hHeld.size (fun i _ e => by omega))
            refine hK.out _ _ y1 (fun hHeld => ?_)
            clear hK K
            try simp only [Act.put]
            refine wpAnyH_ready (rs := [9]) (by kernel_rfl) (by simp) ?_
            refine AllReadyH.cons (o := { dst := none, op := Op.store 31 (Operand.tmp 8) (Operand.tmp 22), type := 0, pos := "law.go:228", after := #[{ on := 7, ground := Ground.data }, { on := 5, ground := Ground.data }, { on := 8, ground := Ground.chain }, { on := 0, ground := Ground.phase }, { on := 1, ground := Ground.phase }, { on := 2, ground := Ground.phase }, { on := 3, ground := Ground.phase }, { on := 4, ground := Ground.phase }, { on := 5, ground := Ground.phase }, { on := 6, ground := Ground.phase }, { on := 7, ground := Ground.phase }, { on := 8, ground := Ground.phase }], guard := none }) rfl (fun K hK => ?_) AllReadyH.nil
            rw [if_pos (by rfl)]
            with_reducible refine wp_store_mid 31 (Operand.tmp 8) (Operand.tmp 22) ?ho q 0 #[.int .i64 (r.seek : Int), .int .i64 (r.hold : Int), .int .i64 (r.normal : Int), .int .i64 (r.emer : Int), .int .i64 (r.few : Int), .int .i64 (r.fewer : Int), .int .i64 (r.most : Int)] ?hx ?hy ?ht ?hi ?h1 ?_
            case ho => rfl
            case hx => rfl
            case hy => rfl
            case ht => exact (show World.there Y1 q 0 7 from own_there s2)
            case hi => kernel_rfl
            case h1 => simp [Value.oneCell']
            have s3 : Own (Y1.setCells q 0 (#[.int .i64 (r.seek : Int), .int .i64 (r.hold : Int), .int .i64 (r.normal : Int), .int .i64 (r.emer : Int), .int .i64 (r.few : Int), .int .i64 (r.fewer : Int), .int .i64 (r.most : Int)] : Array Value).toList) q 31 [.int .i64 (r.seek : Int), .int .i64 (r.hold : Int), .int .i64 (r.normal : Int), .int .i64 (r.emer : Int), .int .i64 (r.few : Int), .int .i64 (r.fewer : Int), .int .i64 (r.most : Int)] := own_setCells _ 0 _ _ s2
            have x2 : Exc (fun k => k = q) Y1 (Y1.setCells q 0 (#[.int .i64 (r.seek : Int), .int .i64 (r.hold : Int), .int .i64 (r.normal : Int), .int .i64 (r.emer : Int), .int .i64 (r.few : Int), .int .i64 (r.fewer : Int), .int .i64 (r.most : Int)] : Array Value).toList) := exc_setCells _ 0 _ (Exc.refl _ _)
            obtain ⟨Y2, hY2⟩ : ∃ Y, Y = Y1.setCells q 0 (#[.int .i64 (r.seek : Int), .int .i64 (r.hold : Int), .int .i64 (r.normal : Int), .int .i64 (r.emer : Int), .int .i64 (r.few : Int), .int .i64 (r.fewer : Int), .int .i64 (r.most : Int)] : Array Value).toList := ⟨_, rfl⟩
            rw [← hY2] at s3 x2 ⊢
            clear hY2
            have s4 : Own Y2 p 31 [.int .i64 (t.seek : Int), .int .i64 (t.hold : Int), .int .i64 (t.normal : Int), .int .i64 (t.emer : Int), .int .i64 (t.few : Int), .int .i64 (t.fewer : Int), .int .i64 (t.most : Int)] := by unfold Own; rw [x2.block p s1.lt hpq]; exact s1
            have y2 := hHeld.trans (x2.below hHeld.size (fun i _ e => by omega))
            refine hK.out _ _ y2 (fun hHeld => ?_)
            clear hK K
            try simp only [Act.put]
            refine wpAnyH_done (by kernel_rfl) ?_ _
            go_wp2_with fail
            go_meet
            exact ⟨p, q, rfl, rfl, s4, s3, hpq, hpl, hql, hHeld⟩
        refine AllReadyH.cons (o := { dst := some 8, op := Op.alloc 31, type := 0, pos := "law.go:228", after := #[], guard := none }) rfl (fun K hK => ?_) AllReadyH.nil
        · go_simp
          obtain ⟨q, hqe⟩ : ∃ q, q = X2.heap.size := ⟨_, rfl⟩
          obtain ⟨X3, hn⟩ : ∃ Y, Y = X2.alloc (.cells #[.int .i64 0, .int .i64 0, .int .i64 0, .int .i64 0, .int .i64 0, .int .i64 0, .int .i64 0] 31) := ⟨_, rfl⟩
          have hnb : Below X2.heap.size X2 X3 := by rw [hn]; exact below_alloc _ _
          have hq3 : Own X3 q 31 [.int .i64 0, .int .i64 0, .int .i64 0, .int .i64 0, .int .i64 0, .int .i64 0, .int .i64 0] := by rw [hn, hqe]; exact own_new _ _ _ _ rfl
          have hql : W.heap.size ≤ q := by have := hHeld.size; omega
          have hy := hHeld.trans (Below.mono hnb hHeld.size)
          rw [← hn, ← hqe]
          clear hn hqe
          refine hK.out _ _ hy (fun hHeld => ?_)
          clear hK K
          try simp only [Act.put, List.setIfInBounds_toArray, List.set_cons_zero, List.set_cons_succ]
          refine wpAnyH_ready (rs := [6]) (by kernel_rfl) (by simp) ?_
          refine AllReadyH.cons (o := { dst := some 7, op := Op.alloc 31, type := 0, pos := "law.go:228", after := #[], guard := none }) rfl (fun K hK => ?_) AllReadyH.nil
          · go_simp
            obtain ⟨p, hpe⟩ : ∃ p, p = X3.heap.size := ⟨_, rfl⟩
            obtain ⟨X4, hn⟩ : ∃ Y, Y = X3.alloc (.cells #[.int .i64 0, .int .i64 0, .int .i64 0, .int .i64 0, .int .i64 0, .int .i64 0, .int .i64 0] 31) := ⟨_, rfl⟩
            have hnb : Below X3.heap.size X3 X4 := by rw [hn]; exact below_alloc _ _
            have hp4 : Own X4 p 31 [.int .i64 0, .int .i64 0, .int .i64 0, .int .i64 0, .int .i64 0, .int .i64 0, .int .i64 0] := by rw [hn, hpe]; exact own_new _ _ _ _ rfl
            have hpl : W.heap.size ≤ p := by have := hHeld.size; omega
            have hq4 := hq3.below hnb hq3.lt
            have hpq : p ≠ q := by have := hq3.lt; omega
            have hy := hHeld.trans (Below.mono hnb hHeld.size)
            rw [← hn, ← hpe]
            clear hn hpe
            refine hK.out _ _ hy (fun hHeld => ?_)
            clear hK K
            try simp only [Act.put, List.setIfInBounds_toArray, List.set_cons_zero, List.set_cons_succ]
            refine wpAnyH_ready (rs := [8]) (by kernel_rfl) (by simp) ?_
            refine AllReadyH.cons (o := { dst := none, op := Op.store 31 (Operand.tmp 7) (Operand.tmp 19), type := 0, pos := "law.go:228", after := #[{ on := 6, ground := Ground.data }, { on := 2, ground := Ground.data }, { on := 5, ground := Ground.chain }, { on := 0, ground := Ground.phase }, { on := 1, ground := Ground.phase }, { on := 2, ground := Ground.phase }, { on := 3, ground := Ground.textOnly Departure.lateStores }, { on := 4, ground := Ground.textOnly Departure.lateStores }, { on := 5, ground := Ground.textOnly Departure.lateStoresUnsure }, { on := 6, ground := Ground.phase }, { on := 7, ground := Ground.phase }], guard := none }) rfl (fun K hK => ?_) AllReadyH.nil
            rw [if_pos (by rfl)]
            with_reducible refine wp_store_mid 31 (Operand.tmp 7) (Operand.tmp 19) ?ho p 0 #[.int .i64 (t.seek : Int), .int .i64 (t.hold : Int), .int .i64 (t.normal : Int), .int .i64 (t.emer : Int), .int .i64 (t.few : Int), .int .i64 (t.fewer : Int), .int .i64 (t.most : Int)] ?hx ?hy ?ht ?hi ?h1 ?_
            case ho => rfl
            case hx => rfl
            case hy => rfl
            case ht => exact (show World.there X4 p 0 7 from own_there hp4)
            case hi => kernel_rfl
            case h1 => simp [Value.oneCell']
            have s1 : Own (X4.setCells p 0 (#[.int .i64 (t.seek : Int), .int .i64 (t.hold : Int), .int .i64 (t.normal : Int), .int .i64 (t.emer : Int), .int .i64 (t.few : Int), .int .i64 (t.fewer : Int), .int .i64 (t.most : Int)] : Array Value).toList) p 31 [.int .i64 (t.seek : Int), .int .i64 (t.hold : Int), .int .i64 (t.normal : Int), .int .i64 (t.emer : Int), .int .i64 (t.few : Int), .int .i64 (t.fewer : Int), .int .i64 (t.most : Int)] := own_setCells _ 0 _ _ hp4
            have x1 : Exc (fun k => k = p) X4 (X4.setCells p 0 (#[.int .i64 (t.seek : Int), .int .i64 (t.hold : Int), .int .i64 (t.normal : Int), .int .i64 (t.emer : Int), .int .i64 (t.few : Int), .int .i64 (t.fewer : Int), .int .i64 (t.most : Int)] : Array Value).toList) := exc_setCells _ 0 _ (Exc.refl _ _)
            obtain ⟨Y1, hY1⟩ : ∃ Y, Y = X4.setCells p 0 (#[.int .i64 (t.seek : Int), .int .i64 (t.hold : Int), .int .i64 (t.normal : Int), .int .i64 (t.emer : Int), .int .i64 (t.few : Int), .int .i64 (t.fewer : Int), .int .i64 (t.most : Int)] : Array Value).toList := ⟨_, rfl⟩
            rw [← hY1] at s1 x1 ⊢
            clear hY1
            have s2 : Own Y1 q 31 [.int .i64 0, .int .i64 0, .int .i64 0, .int .i64 0, .int .i64 0, .int .i64 0, .int .i64 0] := by unfold Own; rw [x1.block q hq4.lt (fun e => hpq e.symm)]; exact hq4
            have y1 := hHeld.trans (x1.below hHeld.size (fun i _ e => by omega))
            refine hK.out _ _ y1 (fun hHeld => ?_)
            clear hK K
            try simp only [Act.put]
            refine wpAnyH_ready (rs := [9]) (by kernel_rfl) (by simp) ?_
            refine AllReadyH.cons (o := { dst := none, op := Op.store 31 (Operand.tmp 8) (Operand.tmp 22), type := 0, pos := "law.go:228", after := #[{ on := 7, ground := Ground.data }, { on := 5, ground := Ground.data }, { on := 8, ground := Ground.chain }, { on := 0, ground := Ground.phase }, { on := 1, ground := Ground.phase }, { on := 2, ground := Ground.phase }, { on := 3, ground := Ground.phase }, { on := 4, ground := Ground.phase }, { on := 5, ground := Ground.phase }, { on := 6, ground := Ground.phase }, { on := 7, ground := Ground.phase }, { on := 8, ground := Ground.phase }], guard := none }) rfl (fun K hK => ?_) AllReadyH.nil
            rw [if_pos (by rfl)]
            with_reducible refine wp_store_mid 31 (Operand.tmp 8) (Operand.tmp 22) ?ho q 0 #[.int .i64 (r.seek : Int), .int .i64 (r.hold : Int), .int .i64 (r.normal : Int), .int .i64 (r.emer : Int), .int .i64 (r.few : Int), .int .i64 (r.fewer : Int), .int .i64 (r.most : Int)] ?hx ?hy ?ht ?hi ?h1 ?_
            case ho => rfl
            case hx => rfl
            case hy => rfl
            case ht => exact (show World.there Y1 q 0 7 from own_there s2)
            case hi => kernel_rfl
            case h1 => simp [Value.oneCell']
            have s3 : Own (Y1.setCells q 0 (#[.int .i64 (r.seek : Int), .int .i64 (r.hold : Int), .int .i64 (r.normal : Int), .int .i64 (r.emer : Int), .int .i64 (r.few : Int), .int .i64 (r.fewer : Int), .int .i64 (r.most : Int)] : Array Value).toList) q 31 [.int .i64 (r.seek : Int), .int .i64 (r.hold : Int), .int .i64 (r.normal : Int), .int .i64 (r.emer : Int), .int .i64 (r.few : Int), .int .i64 (r.fewer : Int), .int .i64 (r.most : Int)] := own_setCells _ 0 _ _ s2
            have x2 : Exc (fun k => k = q) Y1 (Y1.setCells q 0 (#[.int .i64 (r.seek : Int), .int .i64 (r.hold : Int), .int .i64 (r.normal : Int), .int .i64 (r.emer : Int), .int .i64 (r.few : Int), .int .i64 (r.fewer : Int), .int .i64 (r.most : Int)] : Array Value).toList) := exc_setCells _ 0 _ (Exc.refl _ _)
            obtain ⟨Y2, hY2⟩ : ∃ Y, Y = Y1.setCells q 0 (#[.int .i64 (r.seek : Int), .int .i64 (r.hold : Int), .int .i64 (r.normal : Int), .int .i64 (r.emer : Int), .int .i64 (r.few : Int), .int .i64 (r.fewer : Int), .int .i64 (r.most : Int)] : Array Value).toList := ⟨_, rfl⟩
            rw [← hY2] at s3 x2 ⊢
            clear hY2
            have s4 : Own Y2 p 31 [.int .i64 (t.seek : Int), .int .i64 (t.hold : Int), .int .i64 (t.normal : Int), .int .i64 (t.emer : Int), .int .i64 (t.few : Int), .int .i64 (t.fewer : Int), .int .i64 (t.most : Int)] := by unfold Own; rw [x2.block p s1.lt hpq]; exact s1
            have y2 := hHeld.trans (x2.below hHeld.size (fun i _ e => by omega))
            refine hK.out _ _ y2 (fun hHeld => ?_)
            clear hK K
            try simp only [Act.put]
            refine wpAnyH_done (by kernel_rfl) ?_ _
            go_wp2_with fail
            go_meet
            exact ⟨p, q, rfl, rfl, s4, s3, hpq, hpl, hql, hHeld⟩
      refine AllReadyH.cons (o := { dst := some 7, op := Op.alloc 31, type := 0, pos := "law.go:228", after := #[], guard := none }) rfl (fun K hK => ?_) ?_
      · go_simp
        obtain ⟨p, hpe⟩ : ∃ p, p = X1.heap.size := ⟨_, rfl⟩
        obtain ⟨X2, hn⟩ : ∃ Y, Y = X1.alloc (.cells #[.int .i64 0, .int .i64 0, .int .i64 0, .int .i64 0, .int .i64 0, .int .i64 0, .int .i64 0] 31) := ⟨_, rfl⟩
        have hnb : Below X1.heap.size X1 X2 := by rw [hn]; exact below_alloc _ _
        have hp2 : Own X2 p 31 [.int .i64 0, .int .i64 0, .int .i64 0, .int .i64 0, .int .i64 0, .int .i64 0, .int .i64 0] := by rw [hn, hpe]; exact own_new _ _ _ _ rfl
        have hpl : W.heap.size ≤ p := by have := hHeld.size; omega
        have hy := hHeld.trans (Below.mono hnb hHeld.size)
        rw [← hn, ← hpe]
        clear hn hpe
        refine hK.out _ _ hy (fun hHeld => ?_)
        clear hK K
        try simp only [Act.put, List.setIfInBounds_toArray, List.set_cons_zero, List.set_cons_succ]
        refine wpAnyH_ready (rs := [5, 7]) (by kernel_rfl) (by simp) ?_
        refine AllReadyH.cons (o := { dst := some 22, op := Op.call { callee := Callee.value (Operand.func 11), args := #[Operand.tmp 21], argTypes := #[23] }, type := 31, pos := "law.go:228", after := #[{ on := 4, ground := Ground.data }, { on := 2, ground := Ground.chain }], guard := none }) rfl (fun K hK => ?_) ?_
        · go_simp
          with_reducible refine (HOr.out _).mono ?_
          rintro e X3 ⟨rfl, hb⟩
          go_wp2_with fail
          have hp3 := hp2.below hb hp2.lt
          have hy := hHeld.trans (Below.mono hb hHeld.size)
          refine hK.out _ _ hy (fun hHeld => ?_)
          clear hK K
          try simp only [Act.put, List.setIfInBounds_toArray, List.set_cons_zero, List.set_cons_succ]
          refine wpAnyH_ready (rs := [7]) (by kernel_rfl) (by simp) ?_
          refine AllReadyH.cons (o := { dst := some 8, op := Op.alloc 31, type := 0, pos := "law.go:228", after := #[], guard := none }) rfl (fun K hK => ?_) AllReadyH.nil
          · go_simp
            obtain ⟨q, hqe⟩ : ∃ q, q = X3.heap.size := ⟨_, rfl⟩
            obtain ⟨X4, hn⟩ : ∃ Y, Y = X3.alloc (.cells #[.int .i64 0, .int .i64 0, .int .i64 0, .int .i64 0, .int .i64 0, .int .i64 0, .int .i64 0] 31) := ⟨_, rfl⟩
            have hnb : Below X3.heap.size X3 X4 := by rw [hn]; exact below_alloc _ _
            have hq4 : Own X4 q 31 [.int .i64 0, .int .i64 0, .int .i64 0, .int .i64 0, .int .i64 0, .int .i64 0, .int .i64 0] := by rw [hn, hqe]; exact own_new _ _ _ _ rfl
            have hql : W.heap.size ≤ q := by have := hHeld.size; omega
            have hp4 := hp3.below hnb hp3.lt
            have hpq : p ≠ q := by have := hp3.lt; omega
            have hy := hHeld.trans (Below.mono hnb hHeld.size)
            rw [← hn, ← hqe]
            clear hn hqe
            refine hK.out _ _ hy (fun hHeld => ?_)
            clear hK K
            try simp only [Act.put, List.setIfInBounds_toArray, List.set_cons_zero, List.set_cons_succ]
            refine wpAnyH_ready (rs := [8]) (by kernel_rfl) (by simp) ?_
            refine AllReadyH.cons (o := { dst := none, op := Op.store 31 (Operand.tmp 7) (Operand.tmp 19), type := 0, pos := "law.go:228", after := #[{ on := 6, ground := Ground.data }, { on := 2, ground := Ground.data }, { on := 5, ground := Ground.chain }, { on := 0, ground := Ground.phase }, { on := 1, ground := Ground.phase }, { on := 2, ground := Ground.phase }, { on := 3, ground := Ground.textOnly Departure.lateStores }, { on := 4, ground := Ground.textOnly Departure.lateStores }, { on := 5, ground := Ground.textOnly Departure.lateStoresUnsure }, { on := 6, ground := Ground.phase }, { on := 7, ground := Ground.phase }], guard := none }) rfl (fun K hK => ?_) AllReadyH.nil
            rw [if_pos (by rfl)]
            with_reducible refine wp_store_mid 31 (Operand.tmp 7) (Operand.tmp 19) ?ho p 0 #[.int .i64 (t.seek : Int), .int .i64 (t.hold : Int), .int .i64 (t.normal : Int), .int .i64 (t.emer : Int), .int .i64 (t.few : Int), .int .i64 (t.fewer : Int), .int .i64 (t.most : Int)] ?hx ?hy ?ht ?hi ?h1 ?_
            case ho => rfl
            case hx => rfl
            case hy => rfl
            case ht => exact (show World.there X4 p 0 7 from own_there hp4)
            case hi => kernel_rfl
            case h1 => simp [Value.oneCell']
            have s1 : Own (X4.setCells p 0 (#[.int .i64 (t.seek : Int), .int .i64 (t.hold : Int), .int .i64 (t.normal : Int), .int .i64 (t.emer : Int), .int .i64 (t.few : Int), .int .i64 (t.fewer : Int), .int .i64 (t.most : Int)] : Array Value).toList) p 31 [.int .i64 (t.seek : Int), .int .i64 (t.hold : Int), .int .i64 (t.normal : Int), .int .i64 (t.emer : Int), .int .i64 (t.few : Int), .int .i64 (t.fewer : Int), .int .i64 (t.most : Int)] := own_setCells _ 0 _ _ hp4
            have x1 : Exc (fun k => k = p) X4 (X4.setCells p 0 (#[.int .i64 (t.seek : Int), .int .i64 (t.hold : Int), .int .i64 (t.normal : Int), .int .i64 (t.emer : Int), .int .i64 (t.few : Int), .int .i64 (t.fewer : Int), .int .i64 (t.most : Int)] : Array Value).toList) := exc_setCells _ 0 _ (Exc.refl _ _)
            obtain ⟨Y1, hY1⟩ : ∃ Y, Y = X4.setCells p 0 (#[.int .i64 (t.seek : Int), .int .i64 (t.hold : Int), .int .i64 (t.normal : Int), .int .i64 (t.emer : Int), .int .i64 (t.few : Int), .int .i64 (t.fewer : Int), .int .i64 (t.most : Int)] : Array Value).toList := ⟨_, rfl⟩
            rw [← hY1] at s1 x1 ⊢
            clear hY1
            have s2 : Own Y1 q 31 [.int .i64 0, .int .i64 0, .int .i64 0, .int .i64 0, .int .i64 0, .int .i64 0, .int .i64 0] := by unfold Own; rw [x1.block q hq4.lt (fun e => hpq e.symm)]; exact hq4
            have y1 := hHeld.trans (x1.below hHeld.size (fun i _ e => by omega))
            refine hK.out _ _ y1 (fun hHeld => ?_)
            clear hK K
            try simp only [Act.put]
            refine wpAnyH_ready (rs := [9]) (by kernel_rfl) (by simp) ?_
            refine AllReadyH.cons (o := { dst := none, op := Op.store 31 (Operand.tmp 8) (Operand.tmp 22), type := 0, pos := "law.go:228", after := #[{ on := 7, ground := Ground.data }, { on := 5, ground := Ground.data }, { on := 8, ground := Ground.chain }, { on := 0, ground := Ground.phase }, { on := 1, ground := Ground.phase }, { on := 2, ground := Ground.phase }, { on := 3, ground := Ground.phase }, { on := 4, ground := Ground.phase }, { on := 5, ground := Ground.phase }, { on := 6, ground := Ground.phase }, { on := 7, ground := Ground.phase }, { on := 8, ground := Ground.phase }], guard := none }) rfl (fun K hK => ?_) AllReadyH.nil
            rw [if_pos (by rfl)]
            with_reducible refine wp_store_mid 31 (Operand.tmp 8) (Operand.tmp 22) ?ho q 0 #[.int .i64 (r.seek : Int), .int .i64 (r.hold : Int), .int .i64 (r.normal : Int), .int .i64 (r.emer : Int), .int .i64 (r.few : Int), .int .i64 (r.fewer : Int), .int .i64 (r.most : Int)] ?hx ?hy ?ht ?hi ?h1 ?_
            case ho => rfl
            case hx => rfl
            case hy => rfl
            case ht => exact (show World.there Y1 q 0 7 from own_there s2)
            case hi => kernel_rfl
            case h1 => simp [Value.oneCell']
            have s3 : Own (Y1.setCells q 0 (#[.int .i64 (r.seek : Int), .int .i64 (r.hold : Int), .int .i64 (r.normal : Int), .int .i64 (r.emer : Int), .int .i64 (r.few : Int), .int .i64 (r.fewer : Int), .int .i64 (r.most : Int)] : Array Value).toList) q 31 [.int .i64 (r.seek : Int), .int .i64 (r.hold : Int), .int .i64 (r.normal : Int), .int .i64 (r.emer : Int), .int .i64 (r.few : Int), .int .i64 (r.fewer : Int), .int .i64 (r.most : Int)] := own_setCells _ 0 _ _ s2
            have x2 : Exc (fun k => k = q) Y1 (Y1.setCells q 0 (#[.int .i64 (r.seek : Int), .int .i64 (r.hold : Int), .int .i64 (r.normal : Int), .int .i64 (r.emer : Int), .int .i64 (r.few : Int), .int .i64 (r.fewer : Int), .int .i64 (r.most : Int)] : Array Value).toList) := exc_setCells _ 0 _ (Exc.refl _ _)
            obtain ⟨Y2, hY2⟩ : ∃ Y, Y = Y1.setCells q 0 (#[.int .i64 (r.seek : Int), .int .i64 (r.hold : Int), .int .i64 (r.normal : Int), .int .i64 (r.emer : Int), .int .i64 (r.few : Int), .int .i64 (r.fewer : Int), .int .i64 (r.most : Int)] : Array Value).toList := ⟨_, rfl⟩
            rw [← hY2] at s3 x2 ⊢
            clear hY2
            have s4 : Own Y2 p 31 [.int .i64 (t.seek : Int), .int .i64 (t.hold : Int), .int .i64 (t.normal : Int), .int .i64 (t.emer : Int), .int .i64 (t.few : Int), .int .i64 (t.fewer : Int), .int .i64 (t.most : Int)] := by unfold Own; rw [x2.block p s1.lt hpq]; exact s1
            have y2 := hHeld.trans (x2.below hHeld.size (fun i _ e => by omega))
            refine hK.out _ _ y2 (fun hHeld => ?_)
            clear hK K
            try simp only [Act.put]
            refine wpAnyH_done (by kernel_rfl) ?_ _
            go_wp2_with fail
            go_meet
            exact ⟨p, q, rfl, rfl, s4, s3, hpq, hpl, hql, hHeld⟩
        refine AllReadyH.cons (o := { dst := some 8, op := Op.alloc 31, type := 0, pos := "law.go:228", after := #[], guard := none }) rfl (fun K hK => ?_) AllReadyH.nil
        · go_simp
          obtain ⟨q, hqe⟩ : ∃ q, q = X2.heap.size := ⟨_, rfl⟩
          obtain ⟨X3, hn⟩ : ∃ Y, Y = X2.alloc (.cells #[.int .i64 0, .int .i64 0, .int .i64 0, .int .i64 0, .int .i64 0, .int .i64 0, .int .i64 0] 31) := ⟨_, rfl⟩
          have hnb : Below X2.heap.size X2 X3 := by rw [hn]; exact below_alloc _ _
          have hq3 : Own X3 q 31 [.int .i64 0, .int .i64 0, .int .i64 0, .int .i64 0, .int .i64 0, .int .i64 0, .int .i64 0] := by rw [hn, hqe]; exact own_new _ _ _ _ rfl
          have hql : W.heap.size ≤ q := by have := hHeld.size; omega
          have hp3 := hp2.below hnb hp2.lt
          have hpq : p ≠ q := by have := hp2.lt; omega
          have hy := hHeld.trans (Below.mono hnb hHeld.size)
          rw [← hn, ← hqe]
          clear hn hqe
          refine hK.out _ _ hy (fun hHeld => ?_)
          clear hK K
          try simp only [Act.put, List.setIfInBounds_toArray, List.set_cons_zero, List.set_cons_succ]
          refine wpAnyH_ready (rs := [5]) (by kernel_rfl) (by simp) ?_
          refine AllReadyH.cons (o := { dst := some 22, op := Op.call { callee := Callee.value (Operand.func 11), args := #[Operand.tmp 21], argTypes := #[23] }, type := 31, pos := "law.go:228", after := #[{ on := 4, ground := Ground.data }, { on := 2, ground := Ground.chain }], guard := none }) rfl (fun K hK => ?_) AllReadyH.nil
          · go_simp
            with_reducible refine (HOr.out _).mono ?_
            rintro e X4 ⟨rfl, hb⟩
            go_wp2_with fail
            have hp4 := hp3.below hb hp3.lt
            have hq4 := hq3.below hb hq3.lt
            have hy := hHeld.trans (Below.mono hb hHeld.size)
            refine hK.out _ _ hy (fun hHeld => ?_)
            clear hK K
            try simp only [Act.put, List.setIfInBounds_toArray, List.set_cons_zero, List.set_cons_succ]
            refine wpAnyH_ready (rs := [8]) (by kernel_rfl) (by simp) ?_
            refine AllReadyH.cons (o := { dst := none, op := Op.store 31 (Operand.tmp 7) (Operand.tmp 19), type := 0, pos := "law.go:228", after := #[{ on := 6, ground := Ground.data }, { on := 2, ground := Ground.data }, { on := 5, ground := Ground.chain }, { on := 0, ground := Ground.phase }, { on := 1, ground := Ground.phase }, { on := 2, ground := Ground.phase }, { on := 3, ground := Ground.textOnly Departure.lateStores }, { on := 4, ground := Ground.textOnly Departure.lateStores }, { on := 5, ground := Ground.textOnly Departure.lateStoresUnsure }, { on := 6, ground := Ground.phase }, { on := 7, ground := Ground.phase }], guard := none }) rfl (fun K hK => ?_) AllReadyH.nil
            rw [if_pos (by rfl)]
            with_reducible refine wp_store_mid 31 (Operand.tmp 7) (Operand.tmp 19) ?ho p 0 #[.int .i64 (t.seek : Int), .int .i64 (t.hold : Int), .int .i64 (t.normal : Int), .int .i64 (t.emer : Int), .int .i64 (t.few : Int), .int .i64 (t.fewer : Int), .int .i64 (t.most : Int)] ?hx ?hy ?ht ?hi ?h1 ?_
            case ho => rfl
            case hx => rfl
            case hy => rfl
            case ht => exact (show World.there X4 p 0 7 from own_there hp4)
            case hi => kernel_rfl
            case h1 => simp [Value.oneCell']
            have s1 : Own (X4.setCells p 0 (#[.int .i64 (t.seek : Int), .int .i64 (t.hold : Int), .int .i64 (t.normal : Int), .int .i64 (t.emer : Int), .int .i64 (t.few : Int), .int .i64 (t.fewer : Int), .int .i64 (t.most : Int)] : Array Value).toList) p 31 [.int .i64 (t.seek : Int), .int .i64 (t.hold : Int), .int .i64 (t.normal : Int), .int .i64 (t.emer : Int), .int .i64 (t.few : Int), .int .i64 (t.fewer : Int), .int .i64 (t.most : Int)] := own_setCells _ 0 _ _ hp4
            have x1 : Exc (fun k => k = p) X4 (X4.setCells p 0 (#[.int .i64 (t.seek : Int), .int .i64 (t.hold : Int), .int .i64 (t.normal : Int), .int .i64 (t.emer : Int), .int .i64 (t.few : Int), .int .i64 (t.fewer : Int), .int .i64 (t.most : Int)] : Array Value).toList) := exc_setCells _ 0 _ (Exc.refl _ _)
            obtain ⟨Y1, hY1⟩ : ∃ Y, Y = X4.setCells p 0 (#[.int .i64 (t.seek : Int), .int .i64 (t.hold : Int), .int .i64 (t.normal : Int), .int .i64 (t.emer : Int), .int .i64 (t.few : Int), .int .i64 (t.fewer : Int), .int .i64 (t.most : Int)] : Array Value).toList := ⟨_, rfl⟩
            rw [← hY1] at s1 x1 ⊢
            clear hY1
            have s2 : Own Y1 q 31 [.int .i64 0, .int .i64 0, .int .i64 0, .int .i64 0, .int .i64 0, .int .i64 0, .int .i64 0] := by unfold Own; rw [x1.block q hq4.lt (fun e => hpq e.symm)]; exact hq4
            have y1 := hHeld.trans (x1.below hHeld.size (fun i _ e => by omega))
            refine hK.out _ _ y1 (fun hHeld => ?_)
            clear hK K
            try simp only [Act.put]
            refine wpAnyH_ready (rs := [9]) (by kernel_rfl) (by simp) ?_
            refine AllReadyH.cons (o := { dst := none, op := Op.store 31 (Operand.tmp 8) (Operand.tmp 22), type := 0, pos := "law.go:228", after := #[{ on := 7, ground := Ground.data }, { on := 5, ground := Ground.data }, { on := 8, ground := Ground.chain }, { on := 0, ground := Ground.phase }, { on := 1, ground := Ground.phase }, { on := 2, ground := Ground.phase }, { on := 3, ground := Ground.phase }, { on := 4, ground := Ground.phase }, { on := 5, ground := Ground.phase }, { on := 6, ground := Ground.phase }, { on := 7, ground := Ground.phase }, { on := 8, ground := Ground.phase }], guard := none }) rfl (fun K hK => ?_) AllReadyH.nil
            rw [if_pos (by rfl)]
            with_reducible refine wp_store_mid 31 (Operand.tmp 8) (Operand.tmp 22) ?ho q 0 #[.int .i64 (r.seek : Int), .int .i64 (r.hold : Int), .int .i64 (r.normal : Int), .int .i64 (r.emer : Int), .int .i64 (r.few : Int), .int .i64 (r.fewer : Int), .int .i64 (r.most : Int)] ?hx ?hy ?ht ?hi ?h1 ?_
            case ho => rfl
            case hx => rfl
            case hy => rfl
            case ht => exact (show World.there Y1 q 0 7 from own_there s2)
            case hi => kernel_rfl
            case h1 => simp [Value.oneCell']
            have s3 : Own (Y1.setCells q 0 (#[.int .i64 (r.seek : Int), .int .i64 (r.hold : Int), .int .i64 (r.normal : Int), .int .i64 (r.emer : Int), .int .i64 (r.few : Int), .int .i64 (r.fewer : Int), .int .i64 (r.most : Int)] : Array Value).toList) q 31 [.int .i64 (r.seek : Int), .int .i64 (r.hold : Int), .int .i64 (r.normal : Int), .int .i64 (r.emer : Int), .int .i64 (r.few : Int), .int .i64 (r.fewer : Int), .int .i64 (r.most : Int)] := own_setCells _ 0 _ _ s2
            have x2 : Exc (fun k => k = q) Y1 (Y1.setCells q 0 (#[.int .i64 (r.seek : Int), .int .i64 (r.hold : Int), .int .i64 (r.normal : Int), .int .i64 (r.emer : Int), .int .i64 (r.few : Int), .int .i64 (r.fewer : Int), .int .i64 (r.most : Int)] : Array Value).toList) := exc_setCells _ 0 _ (Exc.refl _ _)
            obtain ⟨Y2, hY2⟩ : ∃ Y, Y = Y1.setCells q 0 (#[.int .i64 (r.seek : Int), .int .i64 (r.hold : Int), .int .i64 (r.normal : Int), .int .i64 (r.emer : Int), .int .i64 (r.few : Int), .int .i64 (r.fewer : Int), .int .i64 (r.most : Int)] : Array Value).toList := ⟨_, rfl⟩
            rw [← hY2] at s3 x2 ⊢
            clear hY2
            have s4 : Own Y2 p 31 [.int .i64 (t.seek : Int), .int .i64 (t.hold : Int), .int .i64 (t.normal : Int), .int .i64 (t.emer : Int), .int .i64 (t.few : Int), .int .i64 (t.fewer : Int), .int .i64 (t.most : Int)] := by unfold Own; rw [x2.block p s1.lt hpq]; exact s1
            have y2 := hHeld.trans (x2.below hHeld.size (fun i _ e => by omega))
            refine hK.out _ _ y2 (fun hHeld => ?_)
            clear hK K
            try simp only [Act.put]
            refine wpAnyH_done (by kernel_rfl) ?_ _
            go_wp2_with fail
            go_meet
            exact ⟨p, q, rfl, rfl, s4, s3, hpq, hpl, hql, hHeld⟩
      refine AllReadyH.cons (o := { dst := some 8, op := Op.alloc 31, type := 0, pos := "law.go:228", after := #[], guard := none }) rfl (fun K hK => ?_) AllReadyH.nil
      · go_simp
        obtain ⟨q, hqe⟩ : ∃ q, q = X1.heap.size := ⟨_, rfl⟩
        obtain ⟨X2, hn⟩ : ∃ Y, Y = X1.alloc (.cells #[.int .i64 0, .int .i64 0, .int .i64 0, .int .i64 0, .int .i64 0, .int .i64 0, .int .i64 0] 31) := ⟨_, rfl⟩
        have hnb : Below X1.heap.size X1 X2 := by rw [hn]; exact below_alloc _ _
        have hq2 : Own X2 q 31 [.int .i64 0, .int .i64 0, .int .i64 0, .int .i64 0, .int .i64 0, .int .i64 0, .int .i64 0] := by rw [hn, hqe]; exact own_new _ _ _ _ rfl
        have hql : W.heap.size ≤ q := by have := hHeld.size; omega
        have hy := hHeld.trans (Below.mono hnb hHeld.size)
        rw [← hn, ← hqe]
        clear hn hqe
        refine hK.out _ _ hy (fun hHeld => ?_)
        clear hK K
        try simp only [Act.put, List.setIfInBounds_toArray, List.set_cons_zero, List.set_cons_succ]
        refine wpAnyH_ready (rs := [5, 6]) (by kernel_rfl) (by simp) ?_
        refine AllReadyH.cons (o := { dst := some 22, op := Op.call { callee := Callee.value (Operand.func 11), args := #[Operand.tmp 21], argTypes := #[23] }, type := 31, pos := "law.go:228", after := #[{ on := 4, ground := Ground.data }, { on := 2, ground := Ground.chain }], guard := none }) rfl (fun K hK => ?_) ?_
        · go_simp
          with_reducible refine (HOr.out _).mono ?_
          rintro e X3 ⟨rfl, hb⟩
          go_wp2_with fail
          have hq3 := hq2.below hb hq2.lt
          have hy := hHeld.trans (Below.mono hb hHeld.size)
          refine hK.out _ _ hy (fun hHeld => ?_)
          clear hK K
          try simp only [Act.put, List.setIfInBounds_toArray, List.set_cons_zero, List.set_cons_succ]
          refine wpAnyH_ready (rs := [6]) (by kernel_rfl) (by simp) ?_
          refine AllReadyH.cons (o := { dst := some 7, op := Op.alloc 31, type := 0, pos := "law.go:228", after := #[], guard := none }) rfl (fun K hK => ?_) AllReadyH.nil
          · go_simp
            obtain ⟨p, hpe⟩ : ∃ p, p = X3.heap.size := ⟨_, rfl⟩
            obtain ⟨X4, hn⟩ : ∃ Y, Y = X3.alloc (.cells #[.int .i64 0, .int .i64 0, .int .i64 0, .int .i64 0, .int .i64 0, .int .i64 0, .int .i64 0] 31) := ⟨_, rfl⟩
            have hnb : Below X3.heap.size X3 X4 := by rw [hn]; exact below_alloc _ _
            have hp4 : Own X4 p 31 [.int .i64 0, .int .i64 0, .int .i64 0, .int .i64 0, .int .i64 0, .int .i64 0, .int .i64 0] := by rw [hn, hpe]; exact own_new _ _ _ _ rfl
            have hpl : W.heap.size ≤ p := by have := hHeld.size; omega
            have hq4 := hq3.below hnb hq3.lt
            have hpq : p ≠ q := by have := hq3.lt; omega
            have hy := hHeld.trans (Below.mono hnb hHeld.size)
            rw [← hn, ← hpe]
            clear hn hpe
            refine hK.out _ _ hy (fun hHeld => ?_)
            clear hK K
            try simp only [Act.put, List.setIfInBounds_toArray, List.set_cons_zero, List.set_cons_succ]
            refine wpAnyH_ready (rs := [8]) (by kernel_rfl) (by simp) ?_
            refine AllReadyH.cons (o := { dst := none, op := Op.store 31 (Operand.tmp 7) (Operand.tmp 19), type := 0, pos := "law.go:228", after := #[{ on := 6, ground := Ground.data }, { on := 2, ground := Ground.data }, { on := 5, ground := Ground.chain }, { on := 0, ground := Ground.phase }, { on := 1, ground := Ground.phase }, { on := 2, ground := Ground.phase }, { on := 3, ground := Ground.textOnly Departure.lateStores }, { on := 4, ground := Ground.textOnly Departure.lateStores }, { on := 5, ground := Ground.textOnly Departure.lateStoresUnsure }, { on := 6, ground := Ground.phase }, { on := 7, ground := Ground.phase }], guard := none }) rfl (fun K hK => ?_) AllReadyH.nil
            rw [if_pos (by rfl)]
            with_reducible refine wp_store_mid 31 (Operand.tmp 7) (Operand.tmp 19) ?ho p 0 #[.int .i64 (t.seek : Int), .int .i64 (t.hold : Int), .int .i64 (t.normal : Int), .int .i64 (t.emer : Int), .int .i64 (t.few : Int), .int .i64 (t.fewer : Int), .int .i64 (t.most : Int)] ?hx ?hy ?ht ?hi ?h1 ?_
            case ho => rfl
            case hx => rfl
            case hy => rfl
            case ht => exact (show World.there X4 p 0 7 from own_there hp4)
            case hi => kernel_rfl
            case h1 => simp [Value.oneCell']
            have s1 : Own (X4.setCells p 0 (#[.int .i64 (t.seek : Int), .int .i64 (t.hold : Int), .int .i64 (t.normal : Int), .int .i64 (t.emer : Int), .int .i64 (t.few : Int), .int .i64 (t.fewer : Int), .int .i64 (t.most : Int)] : Array Value).toList) p 31 [.int .i64 (t.seek : Int), .int .i64 (t.hold : Int), .int .i64 (t.normal : Int), .int .i64 (t.emer : Int), .int .i64 (t.few : Int), .int .i64 (t.fewer : Int), .int .i64 (t.most : Int)] := own_setCells _ 0 _ _ hp4
            have x1 : Exc (fun k => k = p) X4 (X4.setCells p 0 (#[.int .i64 (t.seek : Int), .int .i64 (t.hold : Int), .int .i64 (t.normal : Int), .int .i64 (t.emer : Int), .int .i64 (t.few : Int), .int .i64 (t.fewer : Int), .int .i64 (t.most : Int)] : Array Value).toList) := exc_setCells _ 0 _ (Exc.refl _ _)
            obtain ⟨Y1, hY1⟩ : ∃ Y, Y = X4.setCells p 0 (#[.int .i64 (t.seek : Int), .int .i64 (t.hold : Int), .int .i64 (t.normal : Int), .int .i64 (t.emer : Int), .int .i64 (t.few : Int), .int .i64 (t.fewer : Int), .int .i64 (t.most : Int)] : Array Value).toList := ⟨_, rfl⟩
            rw [← hY1] at s1 x1 ⊢
            clear hY1
            have s2 : Own Y1 q 31 [.int .i64 0, .int .i64 0, .int .i64 0, .int .i64 0, .int .i64 0, .int .i64 0, .int .i64 0] := by unfold Own; rw [x1.block q hq4.lt (fun e => hpq e.symm)]; exact hq4
            have y1 := hHeld.trans (x1.below hHeld.size (fun i _ e => by omega))
            refine hK.out _ _ y1 (fun hHeld => ?_)
            clear hK K
            try simp only [Act.put]
            refine wpAnyH_ready (rs := [9]) (by kernel_rfl) (by simp) ?_
            refine AllReadyH.cons (o := { dst := none, op := Op.store 31 (Operand.tmp 8) (Operand.tmp 22), type := 0, pos := "law.go:228", after := #[{ on := 7, ground := Ground.data }, { on := 5, ground := Ground.data }, { on := 8, ground := Ground.chain }, { on := 0, ground := Ground.phase }, { on := 1, ground := Ground.phase }, { on := 2, ground := Ground.phase }, { on := 3, ground := Ground.phase }, { on := 4, ground := Ground.phase }, { on := 5, ground := Ground.phase }, { on := 6, ground := Ground.phase }, { on := 7, ground := Ground.phase }, { on := 8, ground := Ground.phase }], guard := none }) rfl (fun K hK => ?_) AllReadyH.nil
            rw [if_pos (by rfl)]
            with_reducible refine wp_store_mid 31 (Operand.tmp 8) (Operand.tmp 22) ?ho q 0 #[.int .i64 (r.seek : Int), .int .i64 (r.hold : Int), .int .i64 (r.normal : Int), .int .i64 (r.emer : Int), .int .i64 (r.few : Int), .int .i64 (r.fewer : Int), .int .i64 (r.most : Int)] ?hx ?hy ?ht ?hi ?h1 ?_
            case ho => rfl
            case hx => rfl
            case hy => rfl
            case ht => exact (show World.there Y1 q 0 7 from own_there s2)
            case hi => kernel_rfl
            case h1 => simp [Value.oneCell']
            have s3 : Own (Y1.setCells q 0 (#[.int .i64 (r.seek : Int), .int .i64 (r.hold : Int), .int .i64 (r.normal : Int), .int .i64 (r.emer : Int), .int .i64 (r.few : Int), .int .i64 (r.fewer : Int), .int .i64 (r.most : Int)] : Array Value).toList) q 31 [.int .i64 (r.seek : Int), .int .i64 (r.hold : Int), .int .i64 (r.normal : Int), .int .i64 (r.emer : Int), .int .i64 (r.few : Int), .int .i64 (r.fewer : Int), .int .i64 (r.most : Int)] := own_setCells _ 0 _ _ s2
            have x2 : Exc (fun k => k = q) Y1 (Y1.setCells q 0 (#[.int .i64 (r.seek : Int), .int .i64 (r.hold : Int), .int .i64 (r.normal : Int), .int .i64 (r.emer : Int), .int .i64 (r.few : Int), .int .i64 (r.fewer : Int), .int .i64 (r.most : Int)] : Array Value).toList) := exc_setCells _ 0 _ (Exc.refl _ _)
            obtain ⟨Y2, hY2⟩ : ∃ Y, Y = Y1.setCells q 0 (#[.int .i64 (r.seek : Int), .int .i64 (r.hold : Int), .int .i64 (r.normal : Int), .int .i64 (r.emer : Int), .int .i64 (r.few : Int), .int .i64 (r.fewer : Int), .int .i64 (r.most : Int)] : Array Value).toList := ⟨_, rfl⟩
            rw [← hY2] at s3 x2 ⊢
            clear hY2
            have s4 : Own Y2 p 31 [.int .i64 (t.seek : Int), .int .i64 (t.hold : Int), .int .i64 (t.normal : Int), .int .i64 (t.emer : Int), .int .i64 (t.few : Int), .int .i64 (t.fewer : Int), .int .i64 (t.most : Int)] := by unfold Own; rw [x2.block p s1.lt hpq]; exact s1
            have y2 := hHeld.trans (x2.below hHeld.size (fun i _ e => by omega))
            refine hK.out _ _ y2 (fun hHeld => ?_)
            clear hK K
            try simp only [Act.put]
            refine wpAnyH_done (by kernel_rfl) ?_ _
            go_wp2_with fail
            go_meet
            exact ⟨p, q, rfl, rfl, s4, s3, hpq, hpl, hql, hHeld⟩
        refine AllReadyH.cons (o := { dst := some 7, op := Op.alloc 31, type := 0, pos := "law.go:228", after := #[], guard := none }) rfl (fun K hK => ?_) AllReadyH.nil
        · go_simp
          obtain ⟨p, hpe⟩ : ∃ p, p = X2.heap.size := ⟨_, rfl⟩
          obtain ⟨X3, hn⟩ : ∃ Y, Y = X2.alloc (.cells #[.int .i64 0, .int .i64 0, .int .i64 0, .int .i64 0, .int .i64 0, .int .i64 0, .int .i64 0] 31) := ⟨_, rfl⟩
          have hnb : Below X2.heap.size X2 X3 := by rw [hn]; exact below_alloc _ _
          have hp3 : Own X3 p 31 [.int .i64 0, .int .i64 0, .int .i64 0, .int .i64 0, .int .i64 0, .int .i64 0, .int .i64 0] := by rw [hn, hpe]; exact own_new _ _ _ _ rfl
          have hpl : W.heap.size ≤ p := by have := hHeld.size; omega
          have hq3 := hq2.below hnb hq2.lt
          have hpq : p ≠ q := by have := hq2.lt; omega
          have hy := hHeld.trans (Below.mono hnb hHeld.size)
          rw [← hn, ← hpe]
          clear hn hpe
          refine hK.out _ _ hy (fun hHeld => ?_)
          clear hK K
          try simp only [Act.put, List.setIfInBounds_toArray, List.set_cons_zero, List.set_cons_succ]
          refine wpAnyH_ready (rs := [5]) (by kernel_rfl) (by simp) ?_
          refine AllReadyH.cons (o := { dst := some 22, op := Op.call { callee := Callee.value (Operand.func 11), args := #[Operand.tmp 21], argTypes := #[23] }, type := 31, pos := "law.go:228", after := #[{ on := 4, ground := Ground.data }, { on := 2, ground := Ground.chain }], guard := none }) rfl (fun K hK => ?_) AllReadyH.nil
          · go_simp
            with_reducible refine (HOr.out _).mono ?_
            rintro e X4 ⟨rfl, hb⟩
            go_wp2_with fail
            have hp4 := hp3.below hb hp3.lt
            have hq4 := hq3.below hb hq3.lt
            have hy := hHeld.trans (Below.mono hb hHeld.size)
            refine hK.out _ _ hy (fun hHeld => ?_)
            clear hK K
            try simp only [Act.put, List.setIfInBounds_toArray, List.set_cons_zero, List.set_cons_succ]
            refine wpAnyH_ready (rs := [8]) (by kernel_rfl) (by simp) ?_
            refine AllReadyH.cons (o := { dst := none, op := Op.store 31 (Operand.tmp 7) (Operand.tmp 19), type := 0, pos := "law.go:228", after := #[{ on := 6, ground := Ground.data }, { on := 2, ground := Ground.data }, { on := 5, ground := Ground.chain }, { on := 0, ground := Ground.phase }, { on := 1, ground := Ground.phase }, { on := 2, ground := Ground.phase }, { on := 3, ground := Ground.textOnly Departure.lateStores }, { on := 4, ground := Ground.textOnly Departure.lateStores }, { on := 5, ground := Ground.textOnly Departure.lateStoresUnsure }, { on := 6, ground := Ground.phase }, { on := 7, ground := Ground.phase }], guard := none }) rfl (fun K hK => ?_) AllReadyH.nil
            rw [if_pos (by rfl)]
            with_reducible refine wp_store_mid 31 (Operand.tmp 7) (Operand.tmp 19) ?ho p 0 #[.int .i64 (t.seek : Int), .int .i64 (t.hold : Int), .int .i64 (t.normal : Int), .int .i64 (t.emer : Int), .int .i64 (t.few : Int), .int .i64 (t.fewer : Int), .int .i64 (t.most : Int)] ?hx ?hy ?ht ?hi ?h1 ?_
            case ho => rfl
            case hx => rfl
            case hy => rfl
            case ht => exact (show World.there X4 p 0 7 from own_there hp4)
            case hi => kernel_rfl
            case h1 => simp [Value.oneCell']
            have s1 : Own (X4.setCells p 0 (#[.int .i64 (t.seek : Int), .int .i64 (t.hold : Int), .int .i64 (t.normal : Int), .int .i64 (t.emer : Int), .int .i64 (t.few : Int), .int .i64 (t.fewer : Int), .int .i64 (t.most : Int)] : Array Value).toList) p 31 [.int .i64 (t.seek : Int), .int .i64 (t.hold : Int), .int .i64 (t.normal : Int), .int .i64 (t.emer : Int), .int .i64 (t.few : Int), .int .i64 (t.fewer : Int), .int .i64 (t.most : Int)] := own_setCells _ 0 _ _ hp4
            have x1 : Exc (fun k => k = p) X4 (X4.setCells p 0 (#[.int .i64 (t.seek : Int), .int .i64 (t.hold : Int), .int .i64 (t.normal : Int), .int .i64 (t.emer : Int), .int .i64 (t.few : Int), .int .i64 (t.fewer : Int), .int .i64 (t.most : Int)] : Array Value).toList) := exc_setCells _ 0 _ (Exc.refl _ _)
            obtain ⟨Y1, hY1⟩ : ∃ Y, Y = X4.setCells p 0 (#[.int .i64 (t.seek : Int), .int .i64 (t.hold : Int), .int .i64 (t.normal : Int), .int .i64 (t.emer : Int), .int .i64 (t.few : Int), .int .i64 (t.fewer : Int), .int .i64 (t.most : Int)] : Array Value).toList := ⟨_, rfl⟩
            rw [← hY1] at s1 x1 ⊢
            clear hY1
            have s2 : Own Y1 q 31 [.int .i64 0, .int .i64 0, .int .i64 0, .int .i64 0, .int .i64 0, .int .i64 0, .int .i64 0] := by unfold Own; rw [x1.block q hq4.lt (fun e => hpq e.symm)]; exact hq4
            have y1 := hHeld.trans (x1.below hHeld.size (fun i _ e => by omega))
            refine hK.out _ _ y1 (fun hHeld => ?_)
            clear hK K
            try simp only [Act.put]
            refine wpAnyH_ready (rs := [9]) (by kernel_rfl) (by simp) ?_
            refine AllReadyH.cons (o := { dst := none, op := Op.store 31 (Operand.tmp 8) (Operand.tmp 22), type := 0, pos := "law.go:228", after := #[{ on := 7, ground := Ground.data }, { on := 5, ground := Ground.data }, { on := 8, ground := Ground.chain }, { on := 0, ground := Ground.phase }, { on := 1, ground := Ground.phase }, { on := 2, ground := Ground.phase }, { on := 3, ground := Ground.phase }, { on := 4, ground := Ground.phase }, { on := 5, ground := Ground.phase }, { on := 6, ground := Ground.phase }, { on := 7, ground := Ground.phase }, { on := 8, ground := Ground.phase }], guard := none }) rfl (fun K hK => ?_) AllReadyH.nil
            rw [if_pos (by rfl)]
            with_reducible refine wp_store_mid 31 (Operand.tmp 8) (Operand.tmp 22) ?ho q 0 #[.int .i64 (r.seek : Int), .int .i64 (r.hold : Int), .int .i64 (r.normal : Int), .int .i64 (r.emer : Int), .int .i64 (r.few : Int), .int .i64 (r.fewer : Int), .int .i64 (r.most : Int)] ?hx ?hy ?ht ?hi ?h1 ?_
            case ho => rfl
            case hx => rfl
            case hy => rfl
            case ht => exact (show World.there Y1 q 0 7 from own_there s2)
            case hi => kernel_rfl
            case h1 => simp [Value.oneCell']
            have s3 : Own (Y1.setCells q 0 (#[.int .i64 (r.seek : Int), .int .i64 (r.hold : Int), .int .i64 (r.normal : Int), .int .i64 (r.emer : Int), .int .i64 (r.few : Int), .int .i64 (r.fewer : Int), .int .i64 (r.most : Int)] : Array Value).toList) q 31 [.int .i64 (r.seek : Int), .int .i64 (r.hold : Int), .int .i64 (r.normal : Int), .int .i64 (r.emer : Int), .int .i64 (r.few : Int), .int .i64 (r.fewer : Int), .int .i64 (r.most : Int)] := own_setCells _ 0 _ _ s2
            have x2 : Exc (fun k => k = q) Y1 (Y1.setCells q 0 (#[.int .i64 (r.seek : Int), .int .i64 (r.hold : Int), .int .i64 (r.normal : Int), .int .i64 (r.emer : Int), .int .i64 (r.few : Int), .int .i64 (r.fewer : Int), .int .i64 (r.most : Int)] : Array Value).toList) := exc_setCells _ 0 _ (Exc.refl _ _)
            obtain ⟨Y2, hY2⟩ : ∃ Y, Y = Y1.setCells q 0 (#[.int .i64 (r.seek : Int), .int .i64 (r.hold : Int), .int .i64 (r.normal : Int), .int .i64 (r.emer : Int), .int .i64 (r.few : Int), .int .i64 (r.fewer : Int), .int .i64 (r.most : Int)] : Array Value).toList := ⟨_, rfl⟩
            rw [← hY2] at s3 x2 ⊢
            clear hY2
            have s4 : Own Y2 p 31 [.int .i64 (t.seek : Int), .int .i64 (t.hold : Int), .int .i64 (t.normal : Int), .int .i64 (t.emer : Int), .int .i64 (t.few : Int), .int .i64 (t.fewer : Int), .int .i64 (t.most : Int)] := by unfold Own; rw [x2.block p s1.lt hpq]; exact s1
            have y2 := hHeld.trans (x2.below hHeld.size (fun i _ e => by omega))
            refine hK.out _ _ y2 (fun hHeld => ?_)
            clear hK K
            try simp only [Act.put]
            refine wpAnyH_done (by kernel_rfl) ?_ _
            go_wp2_with fail
            go_meet
            exact ⟨p, q, rfl, rfl, s4, s3, hpq, hpl, hql, hHeld⟩
    refine AllReadyH.cons (o := { dst := some 7, op := Op.alloc 31, type := 0, pos := "law.go:228", after := #[], guard := none }) rfl (fun K hK => ?_) ?_
    · go_simp
      obtain ⟨p, hpe⟩ : ∃ p, p = X0.heap.size := ⟨_, rfl⟩
      obtain ⟨X1, hn⟩ : ∃ Y, Y = X0.alloc (.cells #[.int .i64 0, .int .i64 0, .int .i64 0, .int .i64 0, .int .i64 0, .int .i64 0, .int .i64 0] 31) := ⟨_, rfl⟩
      have hnb : Below X0.heap.size X0 X1 := by rw [hn]; exact below_alloc _ _
      have hp1 : Own X1 p 31 [.int .i64 0, .int .i64 0, .int .i64 0, .int .i64 0, .int .i64 0, .int .i64 0, .int .i64 0] := by rw [hn, hpe]; exact own_new _ _ _ _ rfl
      have hpl : W.heap.size ≤ p := by have := hHeld.size; omega
      have hy := hHeld.trans (Below.mono hnb hHeld.size)
      rw [← hn, ← hpe]
      clear hn hpe
      refine hK.out _ _ hy (fun hHeld => ?_)
      clear hK K
      try simp only [Act.put, List.setIfInBounds_toArray, List.set_cons_zero, List.set_cons_succ]
      refine wpAnyH_ready (rs := [2, 7]) (by kernel_rfl) (by simp) ?_
      refine AllReadyH.cons (o := { dst := some 19, op := Op.call { callee := Callee.value (Operand.func 11), args := #[Operand.tmp 18], argTypes := #[23] }, type := 31, pos := "law.go:228", after := #[{ on := 1, ground := Ground.data }], guard := none }) rfl (fun K hK => ?_) ?_
      · go_simp
        with_reducible refine (HOf.out _).mono ?_
        rintro e X2 ⟨rfl, hb⟩
        go_wp2_with fail
        have hp2 := hp1.below hb hp1.lt
        have hy := hHeld.trans (Below.mono hb hHeld.size)
        refine hK.out _ _ hy (fun hHeld => ?_)
        clear hK K
        try simp only [Act.put, List.setIfInBounds_toArray, List.set_cons_zero, List.set_cons_succ]
        refine wpAnyH_ready (rs := [5, 7]) (by kernel_rfl) (by simp) ?_
        refine AllReadyH.cons (o := { dst := some 22, op := Op.call { callee := Callee.value (Operand.func 11), args := #[Operand.tmp 21], argTypes := #[23] }, type := 31, pos := "law.go:228", after := #[{ on := 4, ground := Ground.data }, { on := 2, ground := Ground.chain }], guard := none }) rfl (fun K hK => ?_) ?_
        · go_simp
          with_reducible refine (HOr.out _).mono ?_
          rintro e X3 ⟨rfl, hb⟩
          go_wp2_with fail
          have hp3 := hp2.below hb hp2.lt
          have hy := hHeld.trans (Below.mono hb hHeld.size)
          refine hK.out _ _ hy (fun hHeld => ?_)
          clear hK K
          try simp only [Act.put, List.setIfInBounds_toArray, List.set_cons_zero, List.set_cons_succ]
          refine wpAnyH_ready (rs := [7]) (by kernel_rfl) (by simp) ?_
          refine AllReadyH.cons (o := { dst := some 8, op := Op.alloc 31, type := 0, pos := "law.go:228", after := #[], guard := none }) rfl (fun K hK => ?_) AllReadyH.nil
          · go_simp
            obtain ⟨q, hqe⟩ : ∃ q, q = X3.heap.size := ⟨_, rfl⟩
            obtain ⟨X4, hn⟩ : ∃ Y, Y = X3.alloc (.cells #[.int .i64 0, .int .i64 0, .int .i64 0, .int .i64 0, .int .i64 0, .int .i64 0, .int .i64 0] 31) := ⟨_, rfl⟩
            have hnb : Below X3.heap.size X3 X4 := by rw [hn]; exact below_alloc _ _
            have hq4 : Own X4 q 31 [.int .i64 0, .int .i64 0, .int .i64 0, .int .i64 0, .int .i64 0, .int .i64 0, .int .i64 0] := by rw [hn, hqe]; exact own_new _ _ _ _ rfl
            have hql : W.heap.size ≤ q := by have := hHeld.size; omega
            have hp4 := hp3.below hnb hp3.lt
            have hpq : p ≠ q := by have := hp3.lt; omega
            have hy := hHeld.trans (Below.mono hnb hHeld.size)
            rw [← hn, ← hqe]
            clear hn hqe
            refine hK.out _ _ hy (fun hHeld => ?_)
            clear hK K
            try simp only [Act.put, List.setIfInBounds_toArray, List.set_cons_zero, List.set_cons_succ]
            refine wpAnyH_ready (rs := [8]) (by kernel_rfl) (by simp) ?_
            refine AllReadyH.cons (o := { dst := none, op := Op.store 31 (Operand.tmp 7) (Operand.tmp 19), type := 0, pos := "law.go:228", after := #[{ on := 6, ground := Ground.data }, { on := 2, ground := Ground.data }, { on := 5, ground := Ground.chain }, { on := 0, ground := Ground.phase }, { on := 1, ground := Ground.phase }, { on := 2, ground := Ground.phase }, { on := 3, ground := Ground.textOnly Departure.lateStores }, { on := 4, ground := Ground.textOnly Departure.lateStores }, { on := 5, ground := Ground.textOnly Departure.lateStoresUnsure }, { on := 6, ground := Ground.phase }, { on := 7, ground := Ground.phase }], guard := none }) rfl (fun K hK => ?_) AllReadyH.nil
            rw [if_pos (by rfl)]
            with_reducible refine wp_store_mid 31 (Operand.tmp 7) (Operand.tmp 19) ?ho p 0 #[.int .i64 (t.seek : Int), .int .i64 (t.hold : Int), .int .i64 (t.normal : Int), .int .i64 (t.emer : Int), .int .i64 (t.few : Int), .int .i64 (t.fewer : Int), .int .i64 (t.most : Int)] ?hx ?hy ?ht ?hi ?h1 ?_
            case ho => rfl
            case hx => rfl
            case hy => rfl
            case ht => exact (show World.there X4 p 0 7 from own_there hp4)
            case hi => kernel_rfl
            case h1 => simp [Value.oneCell']
            have s1 : Own (X4.setCells p 0 (#[.int .i64 (t.seek : Int), .int .i64 (t.hold : Int), .int .i64 (t.normal : Int), .int .i64 (t.emer : Int), .int .i64 (t.few : Int), .int .i64 (t.fewer : Int), .int .i64 (t.most : Int)] : Array Value).toList) p 31 [.int .i64 (t.seek : Int), .int .i64 (t.hold : Int), .int .i64 (t.normal : Int), .int .i64 (t.emer : Int), .int .i64 (t.few : Int), .int .i64 (t.fewer : Int), .int .i64 (t.most : Int)] := own_setCells _ 0 _ _ hp4
            have x1 : Exc (fun k => k = p) X4 (X4.setCells p 0 (#[.int .i64 (t.seek : Int), .int .i64 (t.hold : Int), .int .i64 (t.normal : Int), .int .i64 (t.emer : Int), .int .i64 (t.few : Int), .int .i64 (t.fewer : Int), .int .i64 (t.most : Int)] : Array Value).toList) := exc_setCells _ 0 _ (Exc.refl _ _)
            obtain ⟨Y1, hY1⟩ : ∃ Y, Y = X4.setCells p 0 (#[.int .i64 (t.seek : Int), .int .i64 (t.hold : Int), .int .i64 (t.normal : Int), .int .i64 (t.emer : Int), .int .i64 (t.few : Int), .int .i64 (t.fewer : Int), .int .i64 (t.most : Int)] : Array Value).toList := ⟨_, rfl⟩
            rw [← hY1] at s1 x1 ⊢
            clear hY1
            have s2 : Own Y1 q 31 [.int .i64 0, .int .i64 0, .int .i64 0, .int .i64 0, .int .i64 0, .int .i64 0, .int .i64 0] := by unfold Own; rw [x1.block q hq4.lt (fun e => hpq e.symm)]; exact hq4
            have y1 := hHeld.trans (x1.below hHeld.size (fun i _ e => by omega))
            refine hK.out _ _ y1 (fun hHeld => ?_)
            clear hK K
            try simp only [Act.put]
            refine wpAnyH_ready (rs := [9]) (by kernel_rfl) (by simp) ?_
            refine AllReadyH.cons (o := { dst := none, op := Op.store 31 (Operand.tmp 8) (Operand.tmp 22), type := 0, pos := "law.go:228", after := #[{ on := 7, ground := Ground.data }, { on := 5, ground := Ground.data }, { on := 8, ground := Ground.chain }, { on := 0, ground := Ground.phase }, { on := 1, ground := Ground.phase }, { on := 2, ground := Ground.phase }, { on := 3, ground := Ground.phase }, { on := 4, ground := Ground.phase }, { on := 5, ground := Ground.phase }, { on := 6, ground := Ground.phase }, { on := 7, ground := Ground.phase }, { on := 8, ground := Ground.phase }], guard := none }) rfl (fun K hK => ?_) AllReadyH.nil
            rw [if_pos (by rfl)]
            with_reducible refine wp_store_mid 31 (Operand.tmp 8) (Operand.tmp 22) ?ho q 0 #[.int .i64 (r.seek : Int), .int .i64 (r.hold : Int), .int .i64 (r.normal : Int), .int .i64 (r.emer : Int), .int .i64 (r.few : Int), .int .i64 (r.fewer : Int), .int .i64 (r.most : Int)] ?hx ?hy ?ht ?hi ?h1 ?_
            case ho => rfl
            case hx => rfl
            case hy => rfl
            case ht => exact (show World.there Y1 q 0 7 from own_there s2)
            case hi => kernel_rfl
            case h1 => simp [Value.oneCell']
            have s3 : Own (Y1.setCells q 0 (#[.int .i64 (r.seek : Int), .int .i64 (r.hold : Int), .int .i64 (r.normal : Int), .int .i64 (r.emer : Int), .int .i64 (r.few : Int), .int .i64 (r.fewer : Int), .int .i64 (r.most : Int)] : Array Value).toList) q 31 [.int .i64 (r.seek : Int), .int .i64 (r.hold : Int), .int .i64 (r.normal : Int), .int .i64 (r.emer : Int), .int .i64 (r.few : Int), .int .i64 (r.fewer : Int), .int .i64 (r.most : Int)] := own_setCells _ 0 _ _ s2
            have x2 : Exc (fun k => k = q) Y1 (Y1.setCells q 0 (#[.int .i64 (r.seek : Int), .int .i64 (r.hold : Int), .int .i64 (r.normal : Int), .int .i64 (r.emer : Int), .int .i64 (r.few : Int), .int .i64 (r.fewer : Int), .int .i64 (r.most : Int)] : Array Value).toList) := exc_setCells _ 0 _ (Exc.refl _ _)
            obtain ⟨Y2, hY2⟩ : ∃ Y, Y = Y1.setCells q 0 (#[.int .i64 (r.seek : Int), .int .i64 (r.hold : Int), .int .i64 (r.normal : Int), .int .i64 (r.emer : Int), .int .i64 (r.few : Int), .int .i64 (r.fewer : Int), .int .i64 (r.most : Int)] : Array Value).toList := ⟨_, rfl⟩
            rw [← hY2] at s3 x2 ⊢
            clear hY2
            have s4 : Own Y2 p 31 [.int .i64 (t.seek : Int), .int .i64 (t.hold : Int), .int .i64 (t.normal : Int), .int .i64 (t.emer : Int), .int .i64 (t.few : Int), .int .i64 (t.fewer : Int), .int .i64 (t.most : Int)] := by unfold Own; rw [x2.block p s1.lt hpq]; exact s1
            have y2 := hHeld.trans (x2.below hHeld.size (fun i _ e => by omega))
            refine hK.out _ _ y2 (fun hHeld => ?_)
            clear hK K
            try simp only [Act.put]
            refine wpAnyH_done (by kernel_rfl) ?_ _
            go_wp2_with fail
            go_meet
            exact ⟨p, q, rfl, rfl, s4, s3, hpq, hpl, hql, hHeld⟩
        refine AllReadyH.cons (o := { dst := some 8, op := Op.alloc 31, type := 0, pos := "law.go:228", after := #[], guard := none }) rfl (fun K hK => ?_) AllReadyH.nil
        · go_simp
          obtain ⟨q, hqe⟩ : ∃ q, q = X2.heap.size := ⟨_, rfl⟩
          obtain ⟨X3, hn⟩ : ∃ Y, Y = X2.alloc (.cells #[.int .i64 0, .int .i64 0, .int .i64 0, .int .i64 0, .int .i64 0, .int .i64 0, .int .i64 0] 31) := ⟨_, rfl⟩
          have hnb : Below X2.heap.size X2 X3 := by rw [hn]; exact below_alloc _ _
          have hq3 : Own X3 q 31 [.int .i64 0, .int .i64 0, .int .i64 0, .int .i64 0, .int .i64 0, .int .i64 0, .int .i64 0] := by rw [hn, hqe]; exact own_new _ _ _ _ rfl
          have hql : W.heap.size ≤ q := by have := hHeld.size; omega
          have hp3 := hp2.below hnb hp2.lt
          have hpq : p ≠ q := by have := hp2.lt; omega
          have hy := hHeld.trans (Below.mono hnb hHeld.size)
          rw [← hn, ← hqe]
          clear hn hqe
          refine hK.out _ _ hy (fun hHeld => ?_)
          clear hK K
          try simp only [Act.put, List.setIfInBounds_toArray, List.set_cons_zero, List.set_cons_succ]
          refine wpAnyH_ready (rs := [5]) (by kernel_rfl) (by simp) ?_
          refine AllReadyH.cons (o := { dst := some 22, op := Op.call { callee := Callee.value (Operand.func 11), args := #[Operand.tmp 21], argTypes := #[23] }, type := 31, pos := "law.go:228", after := #[{ on := 4, ground := Ground.data }, { on := 2, ground := Ground.chain }], guard := none }) rfl (fun K hK => ?_) AllReadyH.nil
          · go_simp
            with_reducible refine (HOr.out _).mono ?_
            rintro e X4 ⟨rfl, hb⟩
            go_wp2_with fail
            have hp4 := hp3.below hb hp3.lt
            have hq4 := hq3.below hb hq3.lt
            have hy := hHeld.trans (Below.mono hb hHeld.size)
            refine hK.out _ _ hy (fun hHeld => ?_)
            clear hK K
            try simp only [Act.put, List.setIfInBounds_toArray, List.set_cons_zero, List.set_cons_succ]
            refine wpAnyH_ready (rs := [8]) (by kernel_rfl) (by simp) ?_
            refine AllReadyH.cons (o := { dst := none, op := Op.store 31 (Operand.tmp 7) (Operand.tmp 19), type := 0, pos := "law.go:228", after := #[{ on := 6, ground := Ground.data }, { on := 2, ground := Ground.data }, { on := 5, ground := Ground.chain }, { on := 0, ground := Ground.phase }, { on := 1, ground := Ground.phase }, { on := 2, ground := Ground.phase }, { on := 3, ground := Ground.textOnly Departure.lateStores }, { on := 4, ground := Ground.textOnly Departure.lateStores }, { on := 5, ground := Ground.textOnly Departure.lateStoresUnsure }, { on := 6, ground := Ground.phase }, { on := 7, ground := Ground.phase }], guard := none }) rfl (fun K hK => ?_) AllReadyH.nil
            rw [if_pos (by rfl)]
            with_reducible refine wp_store_mid 31 (Operand.tmp 7) (Operand.tmp 19) ?ho p 0 #[.int .i64 (t.seek : Int), .int .i64 (t.hold : Int), .int .i64 (t.normal : Int), .int .i64 (t.emer : Int), .int .i64 (t.few : Int), .int .i64 (t.fewer : Int), .int .i64 (t.most : Int)] ?hx ?hy ?ht ?hi ?h1 ?_
            case ho => rfl
            case hx => rfl
            case hy => rfl
            case ht => exact (show World.there X4 p 0 7 from own_there hp4)
            case hi => kernel_rfl
            case h1 => simp [Value.oneCell']
            have s1 : Own (X4.setCells p 0 (#[.int .i64 (t.seek : Int), .int .i64 (t.hold : Int), .int .i64 (t.normal : Int), .int .i64 (t.emer : Int), .int .i64 (t.few : Int), .int .i64 (t.fewer : Int), .int .i64 (t.most : Int)] : Array Value).toList) p 31 [.int .i64 (t.seek : Int), .int .i64 (t.hold : Int), .int .i64 (t.normal : Int), .int .i64 (t.emer : Int), .int .i64 (t.few : Int), .int .i64 (t.fewer : Int), .int .i64 (t.most : Int)] := own_setCells _ 0 _ _ hp4
            have x1 : Exc (fun k => k = p) X4 (X4.setCells p 0 (#[.int .i64 (t.seek : Int), .int .i64 (t.hold : Int), .int .i64 (t.normal : Int), .int .i64 (t.emer : Int), .int .i64 (t.few : Int), .int .i64 (t.fewer : Int), .int .i64 (t.most : Int)] : Array Value).toList) := exc_setCells _ 0 _ (Exc.refl _ _)
            obtain ⟨Y1, hY1⟩ : ∃ Y, Y = X4.setCells p 0 (#[.int .i64 (t.seek : Int), .int .i64 (t.hold : Int), .int .i64 (t.normal : Int), .int .i64 (t.emer : Int), .int .i64 (t.few : Int), .int .i64 (t.fewer : Int), .int .i64 (t.most : Int)] : Array Value).toList := ⟨_, rfl⟩
            rw [← hY1] at s1 x1 ⊢
            clear hY1
            have s2 : Own Y1 q 31 [.int .i64 0, .int .i64 0, .int .i64 0, .int .i64 0, .int .i64 0, .int .i64 0, .int .i64 0] := by unfold Own; rw [x1.block q hq4.lt (fun e => hpq e.symm)]; exact hq4
            have y1 := hHeld.trans (x1.below hHeld.size (fun i _ e => by omega))
            refine hK.out _ _ y1 (fun hHeld => ?_)
            clear hK K
            try simp only [Act.put]
            refine wpAnyH_ready (rs := [9]) (by kernel_rfl) (by simp) ?_
            refine AllReadyH.cons (o := { dst := none, op := Op.store 31 (Operand.tmp 8) (Operand.tmp 22), type := 0, pos := "law.go:228", after := #[{ on := 7, ground := Ground.data }, { on := 5, ground := Ground.data }, { on := 8, ground := Ground.chain }, { on := 0, ground := Ground.phase }, { on := 1, ground := Ground.phase }, { on := 2, ground := Ground.phase }, { on := 3, ground := Ground.phase }, { on := 4, ground := Ground.phase }, { on := 5, ground := Ground.phase }, { on := 6, ground := Ground.phase }, { on := 7, ground := Ground.phase }, { on := 8, ground := Ground.phase }], guard := none }) rfl (fun K hK => ?_) AllReadyH.nil
            rw [if_pos (by rfl)]
            with_reducible refine wp_store_mid 31 (Operand.tmp 8) (Operand.tmp 22) ?ho q 0 #[.int .i64 (r.seek : Int), .int .i64 (r.hold : Int), .int .i64 (r.normal : Int), .int .i64 (r.emer : Int), .int .i64 (r.few : Int), .int .i64 (r.fewer : Int), .int .i64 (r.most : Int)] ?hx ?hy ?ht ?hi ?h1 ?_
            case ho => rfl
            case hx => rfl
            case hy => rfl
            case ht => exact (show World.there Y1 q 0 7 from own_there s2)
            case hi => kernel_rfl
            case h1 => simp [Value.oneCell']
            have s3 : Own (Y1.setCells q 0 (#[.int .i64 (r.seek : Int), .int .i64 (r.hold : Int), .int .i64 (r.normal : Int), .int .i64 (r.emer : Int), .int .i64 (r.few : Int), .int .i64 (r.fewer : Int), .int .i64 (r.most : Int)] : Array Value).toList) q 31 [.int .i64 (r.seek : Int), .int .i64 (r.hold : Int), .int .i64 (r.normal : Int), .int .i64 (r.emer : Int), .int .i64 (r.few : Int), .int .i64 (r.fewer : Int), .int .i64 (r.most : Int)] := own_setCells _ 0 _ _ s2
            have x2 : Exc (fun k => k = q) Y1 (Y1.setCells q 0 (#[.int .i64 (r.seek : Int), .int .i64 (r.hold : Int), .int .i64 (r.normal : Int), .int .i64 (r.emer : Int), .int .i64 (r.few : Int), .int .i64 (r.fewer : Int), .int .i64 (r.most : Int)] : Array Value).toList) := exc_setCells _ 0 _ (Exc.refl _ _)
            obtain ⟨Y2, hY2⟩ : ∃ Y, Y = Y1.setCells q 0 (#[.int .i64 (r.seek : Int), .int .i64 (r.hold : Int), .int .i64 (r.normal : Int), .int .i64 (r.emer : Int), .int .i64 (r.few : Int), .int .i64 (r.fewer : Int), .int .i64 (r.most : Int)] : Array Value).toList := ⟨_, rfl⟩
            rw [← hY2] at s3 x2 ⊢
            clear hY2
            have s4 : Own Y2 p 31 [.int .i64 (t.seek : Int), .int .i64 (t.hold : Int), .int .i64 (t.normal : Int), .int .i64 (t.emer : Int), .int .i64 (t.few : Int), .int .i64 (t.fewer : Int), .int .i64 (t.most : Int)] := by unfold Own; rw [x2.block p s1.lt hpq]; exact s1
            have y2 := hHeld.trans (x2.below hHeld.size (fun i _ e => by omega))
            refine hK.out _ _ y2 (fun hHeld => ?_)
            clear hK K
            try simp only [Act.put]
            refine wpAnyH_done (by kernel_rfl) ?_ _
            go_wp2_with fail
            go_meet
            exact ⟨p, q, rfl, rfl, s4, s3, hpq, hpl, hql, hHeld⟩
      refine AllReadyH.cons (o := { dst := some 8, op := Op.alloc 31, type := 0, pos := "law.go:228", after := #[], guard := none }) rfl (fun K hK => ?_) AllReadyH.nil
      · go_simp
        obtain ⟨q, hqe⟩ : ∃ q, q = X1.heap.size := ⟨_, rfl⟩
        obtain ⟨X2, hn⟩ : ∃ Y, Y = X1.alloc (.cells #[.int .i64 0, .int .i64 0, .int .i64 0, .int .i64 0, .int .i64 0, .int .i64 0, .int .i64 0] 31) := ⟨_, rfl⟩
        have hnb : Below X1.heap.size X1 X2 := by rw [hn]; exact below_alloc _ _
        have hq2 : Own X2 q 31 [.int .i64 0, .int .i64 0, .int .i64 0, .int .i64 0, .int .i64 0, .int .i64 0, .int .i64 0] := by rw [hn, hqe]; exact own_new _ _ _ _ rfl
        have hql : W.heap.size ≤ q := by have := hHeld.size; omega
        have hp2 := hp1.below hnb hp1.lt
        have hpq : p ≠ q := by have := hp1.lt; omega
        have hy := hHeld.trans (Below.mono hnb hHeld.size)
        rw [← hn, ← hqe]
        clear hn hqe
        refine hK.out _ _ hy (fun hHeld => ?_)
        clear hK K
        try simp only [Act.put, List.setIfInBounds_toArray, List.set_cons_zero, List.set_cons_succ]
        refine wpAnyH_ready (rs := [2]) (by kernel_rfl) (by simp) ?_
        refine AllReadyH.cons (o := { dst := some 19, op := Op.call { callee := Callee.value (Operand.func 11), args := #[Operand.tmp 18], argTypes := #[23] }, type := 31, pos := "law.go:228", after := #[{ on := 1, ground := Ground.data }], guard := none }) rfl (fun K hK => ?_) AllReadyH.nil
        · go_simp
          with_reducible refine (HOf.out _).mono ?_
          rintro e X3 ⟨rfl, hb⟩
          go_wp2_with fail
          have hp3 := hp2.below hb hp2.lt
          have hq3 := hq2.below hb hq2.lt
          have hy := hHeld.trans (Below.mono hb hHeld.size)
          refine hK.out _ _ hy (fun hHeld => ?_)
          clear hK K
          try simp only [Act.put, List.setIfInBounds_toArray, List.set_cons_zero, List.set_cons_succ]
          refine wpAnyH_ready (rs := [5]) (by kernel_rfl) (by simp) ?_
          refine AllReadyH.cons (o := { dst := some 22, op := Op.call { callee := Callee.value (Operand.func 11), args := #[Operand.tmp 21], argTypes := #[23] }, type := 31, pos := "law.go:228", after := #[{ on := 4, ground := Ground.data }, { on := 2, ground := Ground.chain }], guard := none }) rfl (fun K hK => ?_) AllReadyH.nil
          · go_simp
            with_reducible refine (HOr.out _).mono ?_
            rintro e X4 ⟨rfl, hb⟩
            go_wp2_with fail
            have hp4 := hp3.below hb hp3.lt
            have hq4 := hq3.below hb hq3.lt
            have hy := hHeld.trans (Below.mono hb hHeld.size)
            refine hK.out _ _ hy (fun hHeld => ?_)
            clear hK K
            try simp only [Act.put, List.setIfInBounds_toArray, List.set_cons_zero, List.set_cons_succ]
            refine wpAnyH_ready (rs := [8]) (by kernel_rfl) (by simp) ?_
            refine AllReadyH.cons (o := { dst := none, op := Op.store 31 (Operand.tmp 7) (Operand.tmp 19), type := 0, pos := "law.go:228", after := #[{ on := 6, ground := Ground.data }, { on := 2, ground := Ground.data }, { on := 5, ground := Ground.chain }, { on := 0, ground := Ground.phase }, { on := 1, ground := Ground.phase }, { on := 2, ground := Ground.phase }, { on := 3, ground := Ground.textOnly Departure.lateStores }, { on := 4, ground := Ground.textOnly Departure.lateStores }, { on := 5, ground := Ground.textOnly Departure.lateStoresUnsure }, { on := 6, ground := Ground.phase }, { on := 7, ground := Ground.phase }], guard := none }) rfl (fun K hK => ?_) AllReadyH.nil
            rw [if_pos (by rfl)]
            with_reducible refine wp_store_mid 31 (Operand.tmp 7) (Operand.tmp 19) ?ho p 0 #[.int .i64 (t.seek : Int), .int .i64 (t.hold : Int), .int .i64 (t.normal : Int), .int .i64 (t.emer : Int), .int .i64 (t.few : Int), .int .i64 (t.fewer : Int), .int .i64 (t.most : Int)] ?hx ?hy ?ht ?hi ?h1 ?_
            case ho => rfl
            case hx => rfl
            case hy => rfl
            case ht => exact (show World.there X4 p 0 7 from own_there hp4)
            case hi => kernel_rfl
            case h1 => simp [Value.oneCell']
            have s1 : Own (X4.setCells p 0 (#[.int .i64 (t.seek : Int), .int .i64 (t.hold : Int), .int .i64 (t.normal : Int), .int .i64 (t.emer : Int), .int .i64 (t.few : Int), .int .i64 (t.fewer : Int), .int .i64 (t.most : Int)] : Array Value).toList) p 31 [.int .i64 (t.seek : Int), .int .i64 (t.hold : Int), .int .i64 (t.normal : Int), .int .i64 (t.emer : Int), .int .i64 (t.few : Int), .int .i64 (t.fewer : Int), .int .i64 (t.most : Int)] := own_setCells _ 0 _ _ hp4
            have x1 : Exc (fun k => k = p) X4 (X4.setCells p 0 (#[.int .i64 (t.seek : Int), .int .i64 (t.hold : Int), .int .i64 (t.normal : Int), .int .i64 (t.emer : Int), .int .i64 (t.few : Int), .int .i64 (t.fewer : Int), .int .i64 (t.most : Int)] : Array Value).toList) := exc_setCells _ 0 _ (Exc.refl _ _)
            obtain ⟨Y1, hY1⟩ : ∃ Y, Y = X4.setCells p 0 (#[.int .i64 (t.seek : Int), .int .i64 (t.hold : Int), .int .i64 (t.normal : Int), .int .i64 (t.emer : Int), .int .i64 (t.few : Int), .int .i64 (t.fewer : Int), .int .i64 (t.most : Int)] : Array Value).toList := ⟨_, rfl⟩
            rw [← hY1] at s1 x1 ⊢
            clear hY1
            have s2 : Own Y1 q 31 [.int .i64 0, .int .i64 0, .int .i64 0, .int .i64 0, .int .i64 0, .int .i64 0, .int .i64 0] := by unfold Own; rw [x1.block q hq4.lt (fun e => hpq e.symm)]; exact hq4
            have y1 := hHeld.trans (x1.below hHeld.size (fun i _ e => by omega))
            refine hK.out _ _ y1 (fun hHeld => ?_)
            clear hK K
            try simp only [Act.put]
            refine wpAnyH_ready (rs := [9]) (by kernel_rfl) (by simp) ?_
            refine AllReadyH.cons (o := { dst := none, op := Op.store 31 (Operand.tmp 8) (Operand.tmp 22), type := 0, pos := "law.go:228", after := #[{ on := 7, ground := Ground.data }, { on := 5, ground := Ground.data }, { on := 8, ground := Ground.chain }, { on := 0, ground := Ground.phase }, { on := 1, ground := Ground.phase }, { on := 2, ground := Ground.phase }, { on := 3, ground := Ground.phase }, { on := 4, ground := Ground.phase }, { on := 5, ground := Ground.phase }, { on := 6, ground := Ground.phase }, { on := 7, ground := Ground.phase }, { on := 8, ground := Ground.phase }], guard := none }) rfl (fun K hK => ?_) AllReadyH.nil
            rw [if_pos (by rfl)]
            with_reducible refine wp_store_mid 31 (Operand.tmp 8) (Operand.tmp 22) ?ho q 0 #[.int .i64 (r.seek : Int), .int .i64 (r.hold : Int), .int .i64 (r.normal : Int), .int .i64 (r.emer : Int), .int .i64 (r.few : Int), .int .i64 (r.fewer : Int), .int .i64 (r.most : Int)] ?hx ?hy ?ht ?hi ?h1 ?_
            case ho => rfl
            case hx => rfl
            case hy => rfl
            case ht => exact (show World.there Y1 q 0 7 from own_there s2)
            case hi => kernel_rfl
            case h1 => simp [Value.oneCell']
            have s3 : Own (Y1.setCells q 0 (#[.int .i64 (r.seek : Int), .int .i64 (r.hold : Int), .int .i64 (r.normal : Int), .int .i64 (r.emer : Int), .int .i64 (r.few : Int), .int .i64 (r.fewer : Int), .int .i64 (r.most : Int)] : Array Value).toList) q 31 [.int .i64 (r.seek : Int), .int .i64 (r.hold : Int), .int .i64 (r.normal : Int), .int .i64 (r.emer : Int), .int .i64 (r.few : Int), .int .i64 (r.fewer : Int), .int .i64 (r.most : Int)] := own_setCells _ 0 _ _ s2
            have x2 : Exc (fun k => k = q) Y1 (Y1.setCells q 0 (#[.int .i64 (r.seek : Int), .int .i64 (r.hold : Int), .int .i64 (r.normal : Int), .int .i64 (r.emer : Int), .int .i64 (r.few : Int), .int .i64 (r.fewer : Int), .int .i64 (r.most : Int)] : Array Value).toList) := exc_setCells _ 0 _ (Exc.refl _ _)
            obtain ⟨Y2, hY2⟩ : ∃ Y, Y = Y1.setCells q 0 (#[.int .i64 (r.seek : Int), .int .i64 (r.hold : Int), .int .i64 (r.normal : Int), .int .i64 (r.emer : Int), .int .i64 (r.few : Int), .int .i64 (r.fewer : Int), .int .i64 (r.most : Int)] : Array Value).toList := ⟨_, rfl⟩
            rw [← hY2] at s3 x2 ⊢
            clear hY2
            have s4 : Own Y2 p 31 [.int .i64 (t.seek : Int), .int .i64 (t.hold : Int), .int .i64 (t.normal : Int), .int .i64 (t.emer : Int), .int .i64 (t.few : Int), .int .i64 (t.fewer : Int), .int .i64 (t.most : Int)] := by unfold Own; rw [x2.block p s1.lt hpq]; exact s1
            have y2 := hHeld.trans (x2.below hHeld.size (fun i _ e => by omega))
            refine hK.out _ _ y2 (fun hHeld => ?_)
            clear hK K
            try simp only [Act.put]
            refine wpAnyH_done (by kernel_rfl) ?_ _
            go_wp2_with fail
            go_meet
            exact ⟨p, q, rfl, rfl, s4, s3, hpq, hpl, hql, hHeld⟩
    refine AllReadyH.cons (o := { dst := some 8, op := Op.alloc 31, type := 0, pos := "law.go:228", after := #[], guard := none }) rfl (fun K hK => ?_) AllReadyH.nil
    · go_simp
      obtain ⟨q, hqe⟩ : ∃ q, q = X0.heap.size := ⟨_, rfl⟩
      obtain ⟨X1, hn⟩ : ∃ Y, Y = X0.alloc (.cells #[.int .i64 0, .int .i64 0, .int .i64 0, .int .i64 0, .int .i64 0, .int .i64 0, .int .i64 0] 31) := ⟨_, rfl⟩
      have hnb : Below X0.heap.size X0 X1 := by rw [hn]; exact below_alloc _ _
      have hq1 : Own X1 q 31 [.int .i64 0, .int .i64 0, .int .i64 0, .int .i64 0, .int .i64 0, .int .i64 0, .int .i64 0] := by rw [hn, hqe]; exact own_new _ _ _ _ rfl
      have hql : W.heap.size ≤ q := by have := hHeld.size; omega
      have hy := hHeld.trans (Below.mono hnb hHeld.size)
      rw [← hn, ← hqe]
      clear hn hqe
      refine hK.out _ _ hy (fun hHeld => ?_)
      clear hK K
      try simp only [Act.put, List.setIfInBounds_toArray, List.set_cons_zero, List.set_cons_succ]
      refine wpAnyH_ready (rs := [2, 6]) (by kernel_rfl) (by simp) ?_
      refine AllReadyH.cons (o := { dst := some 19, op := Op.call { callee := Callee.value (Operand.func 11), args := #[Operand.tmp 18], argTypes := #[23] }, type := 31, pos := "law.go:228", after := #[{ on := 1, ground := Ground.data }], guard := none }) rfl (fun K hK => ?_) ?_
      · go_simp
        with_reducible refine (HOf.out _).mono ?_
        rintro e X2 ⟨rfl, hb⟩
        go_wp2_with fail
        have hq2 := hq1.below hb hq1.lt
        have hy := hHeld.trans (Below.mono hb hHeld.size)
        refine hK.out _ _ hy (fun hHeld => ?_)
        clear hK K
        try simp only [Act.put, List.setIfInBounds_toArray, List.set_cons_zero, List.set_cons_succ]
        refine wpAnyH_ready (rs := [5, 6]) (by kernel_rfl) (by simp) ?_
        refine AllReadyH.cons (o := { dst := some 22, op := Op.call { callee := Callee.value (Operand.func 11), args := #[Operand.tmp 21], argTypes := #[23] }, type := 31, pos := "law.go:228", after := #[{ on := 4, ground := Ground.data }, { on := 2, ground := Ground.chain }], guard := none }) rfl (fun K hK => ?_) ?_
        · go_simp
          with_reducible refine (HOr.out _).mono ?_
          rintro e X3 ⟨rfl, hb⟩
          go_wp2_with fail
          have hq3 := hq2.below hb hq2.lt
          have hy := hHeld.trans (Below.mono hb hHeld.size)
          refine hK.out _ _ hy (fun hHeld => ?_)
          clear hK K
          try simp only [Act.put, List.setIfInBounds_toArray, List.set_cons_zero, List.set_cons_succ]
          refine wpAnyH_ready (rs := [6]) (by kernel_rfl) (by simp) ?_
          refine AllReadyH.cons (o := { dst := some 7, op := Op.alloc 31, type := 0, pos := "law.go:228", after := #[], guard := none }) rfl (fun K hK => ?_) AllReadyH.nil
          · go_simp
            obtain ⟨p, hpe⟩ : ∃ p, p = X3.heap.size := ⟨_, rfl⟩
            obtain ⟨X4, hn⟩ : ∃ Y, Y = X3.alloc (.cells #[.int .i64 0, .int .i64 0, .int .i64 0, .int .i64 0, .int .i64 0, .int .i64 0, .int .i64 0] 31) := ⟨_, rfl⟩
            have hnb : Below X3.heap.size X3 X4 := by rw [hn]; exact below_alloc _ _
            have hp4 : Own X4 p 31 [.int .i64 0, .int .i64 0, .int .i64 0, .int .i64 0, .int .i64 0, .int .i64 0, .int .i64 0] := by rw [hn, hpe]; exact own_new _ _ _ _ rfl
            have hpl : W.heap.size ≤ p := by have := hHeld.size; omega
            have hq4 := hq3.below hnb hq3.lt
            have hpq : p ≠ q := by have := hq3.lt; omega
            have hy := hHeld.trans (Below.mono hnb hHeld.size)
            rw [← hn, ← hpe]
            clear hn hpe
            refine hK.out _ _ hy (fun hHeld => ?_)
            clear hK K
            try simp only [Act.put, List.setIfInBounds_toArray, List.set_cons_zero, List.set_cons_succ]
            refine wpAnyH_ready (rs := [8]) (by kernel_rfl) (by simp) ?_
            refine AllReadyH.cons (o := { dst := none, op := Op.store 31 (Operand.tmp 7) (Operand.tmp 19), type := 0, pos := "law.go:228", after := #[{ on := 6, ground := Ground.data }, { on := 2, ground := Ground.data }, { on := 5, ground := Ground.chain }, { on := 0, ground := Ground.phase }, { on := 1, ground := Ground.phase }, { on := 2, ground := Ground.phase }, { on := 3, ground := Ground.textOnly Departure.lateStores }, { on := 4, ground := Ground.textOnly Departure.lateStores }, { on := 5, ground := Ground.textOnly Departure.lateStoresUnsure }, { on := 6, ground := Ground.phase }, { on := 7, ground := Ground.phase }], guard := none }) rfl (fun K hK => ?_) AllReadyH.nil
            rw [if_pos (by rfl)]
            with_reducible refine wp_store_mid 31 (Operand.tmp 7) (Operand.tmp 19) ?ho p 0 #[.int .i64 (t.seek : Int), .int .i64 (t.hold : Int), .int .i64 (t.normal : Int), .int .i64 (t.emer : Int), .int .i64 (t.few : Int), .int .i64 (t.fewer : Int), .int .i64 (t.most : Int)] ?hx ?hy ?ht ?hi ?h1 ?_
            case ho => rfl
            case hx => rfl
            case hy => rfl
            case ht => exact (show World.there X4 p 0 7 from own_there hp4)
            case hi => kernel_rfl
            case h1 => simp [Value.oneCell']
            have s1 : Own (X4.setCells p 0 (#[.int .i64 (t.seek : Int), .int .i64 (t.hold : Int), .int .i64 (t.normal : Int), .int .i64 (t.emer : Int), .int .i64 (t.few : Int), .int .i64 (t.fewer : Int), .int .i64 (t.most : Int)] : Array Value).toList) p 31 [.int .i64 (t.seek : Int), .int .i64 (t.hold : Int), .int .i64 (t.normal : Int), .int .i64 (t.emer : Int), .int .i64 (t.few : Int), .int .i64 (t.fewer : Int), .int .i64 (t.most : Int)] := own_setCells _ 0 _ _ hp4
            have x1 : Exc (fun k => k = p) X4 (X4.setCells p 0 (#[.int .i64 (t.seek : Int), .int .i64 (t.hold : Int), .int .i64 (t.normal : Int), .int .i64 (t.emer : Int), .int .i64 (t.few : Int), .int .i64 (t.fewer : Int), .int .i64 (t.most : Int)] : Array Value).toList) := exc_setCells _ 0 _ (Exc.refl _ _)
            obtain ⟨Y1, hY1⟩ : ∃ Y, Y = X4.setCells p 0 (#[.int .i64 (t.seek : Int), .int .i64 (t.hold : Int), .int .i64 (t.normal : Int), .int .i64 (t.emer : Int), .int .i64 (t.few : Int), .int .i64 (t.fewer : Int), .int .i64 (t.most : Int)] : Array Value).toList := ⟨_, rfl⟩
            rw [← hY1] at s1 x1 ⊢
            clear hY1
            have s2 : Own Y1 q 31 [.int .i64 0, .int .i64 0, .int .i64 0, .int .i64 0, .int .i64 0, .int .i64 0, .int .i64 0] := by unfold Own; rw [x1.block q hq4.lt (fun e => hpq e.symm)]; exact hq4
            have y1 := hHeld.trans (x1.below hHeld.size (fun i _ e => by omega))
            refine hK.out _ _ y1 (fun hHeld => ?_)
            clear hK K
            try simp only [Act.put]
            refine wpAnyH_ready (rs := [9]) (by kernel_rfl) (by simp) ?_
            refine AllReadyH.cons (o := { dst := none, op := Op.store 31 (Operand.tmp 8) (Operand.tmp 22), type := 0, pos := "law.go:228", after := #[{ on := 7, ground := Ground.data }, { on := 5, ground := Ground.data }, { on := 8, ground := Ground.chain }, { on := 0, ground := Ground.phase }, { on := 1, ground := Ground.phase }, { on := 2, ground := Ground.phase }, { on := 3, ground := Ground.phase }, { on := 4, ground := Ground.phase }, { on := 5, ground := Ground.phase }, { on := 6, ground := Ground.phase }, { on := 7, ground := Ground.phase }, { on := 8, ground := Ground.phase }], guard := none }) rfl (fun K hK => ?_) AllReadyH.nil
            rw [if_pos (by rfl)]
            with_reducible refine wp_store_mid 31 (Operand.tmp 8) (Operand.tmp 22) ?ho q 0 #[.int .i64 (r.seek : Int), .int .i64 (r.hold : Int), .int .i64 (r.normal : Int), .int .i64 (r.emer : Int), .int .i64 (r.few : Int), .int .i64 (r.fewer : Int), .int .i64 (r.most : Int)] ?hx ?hy ?ht ?hi ?h1 ?_
            case ho => rfl
            case hx => rfl
            case hy => rfl
            case ht => exact (show World.there Y1 q 0 7 from own_there s2)
            case hi => kernel_rfl
            case h1 => simp [Value.oneCell']
            have s3 : Own (Y1.setCells q 0 (#[.int .i64 (r.seek : Int), .int .i64 (r.hold : Int), .int .i64 (r.normal : Int), .int .i64 (r.emer : Int), .int .i64 (r.few : Int), .int .i64 (r.fewer : Int), .int .i64 (r.most : Int)] : Array Value).toList) q 31 [.int .i64 (r.seek : Int), .int .i64 (r.hold : Int), .int .i64 (r.normal : Int), .int .i64 (r.emer : Int), .int .i64 (r.few : Int), .int .i64 (r.fewer : Int), .int .i64 (r.most : Int)] := own_setCells _ 0 _ _ s2
            have x2 : Exc (fun k => k = q) Y1 (Y1.setCells q 0 (#[.int .i64 (r.seek : Int), .int .i64 (r.hold : Int), .int .i64 (r.normal : Int), .int .i64 (r.emer : Int), .int .i64 (r.few : Int), .int .i64 (r.fewer : Int), .int .i64 (r.most : Int)] : Array Value).toList) := exc_setCells _ 0 _ (Exc.refl _ _)
            obtain ⟨Y2, hY2⟩ : ∃ Y, Y = Y1.setCells q 0 (#[.int .i64 (r.seek : Int), .int .i64 (r.hold : Int), .int .i64 (r.normal : Int), .int .i64 (r.emer : Int), .int .i64 (r.few : Int), .int .i64 (r.fewer : Int), .int .i64 (r.most : Int)] : Array Value).toList := ⟨_, rfl⟩
            rw [← hY2] at s3 x2 ⊢
            clear hY2
            have s4 : Own Y2 p 31 [.int .i64 (t.seek : Int), .int .i64 (t.hold : Int), .int .i64 (t.normal : Int), .int .i64 (t.emer : Int), .int .i64 (t.few : Int), .int .i64 (t.fewer : Int), .int .i64 (t.most : Int)] := by unfold Own; rw [x2.block p s1.lt hpq]; exact s1
            have y2 := hHeld.trans (x2.below hHeld.size (fun i _ e => by omega))
            refine hK.out _ _ y2 (fun hHeld => ?_)
            clear hK K
            try simp only [Act.put]
            refine wpAnyH_done (by kernel_rfl) ?_ _
            go_wp2_with fail
            go_meet
            exact ⟨p, q, rfl, rfl, s4, s3, hpq, hpl, hql, hHeld⟩
        refine AllReadyH.cons (o := { dst := some 7, op := Op.alloc 31, type := 0, pos := "law.go:228", after := #[], guard := none }) rfl (fun K hK => ?_) AllReadyH.nil
        · go_simp
          obtain ⟨p, hpe⟩ : ∃ p, p = X2.heap.size := ⟨_, rfl⟩
          obtain ⟨X3, hn⟩ : ∃ Y, Y = X2.alloc (.cells #[.int .i64 0, .int .i64 0, .int .i64 0, .int .i64 0, .int .i64 0, .int .i64 0, .int .i64 0] 31) := ⟨_, rfl⟩
          have hnb : Below X2.heap.size X2 X3 := by rw [hn]; exact below_alloc _ _
          have hp3 : Own X3 p 31 [.int .i64 0, .int .i64 0, .int .i64 0, .int .i64 0, .int .i64 0, .int .i64 0, .int .i64 0] := by rw [hn, hpe]; exact own_new _ _ _ _ rfl
          have hpl : W.heap.size ≤ p := by have := hHeld.size; omega
          have hq3 := hq2.below hnb hq2.lt
          have hpq : p ≠ q := by have := hq2.lt; omega
          have hy := hHeld.trans (Below.mono hnb hHeld.size)
          rw [← hn, ← hpe]
          clear hn hpe
          refine hK.out _ _ hy (fun hHeld => ?_)
          clear hK K
          try simp only [Act.put, List.setIfInBounds_toArray, List.set_cons_zero, List.set_cons_succ]
          refine wpAnyH_ready (rs := [5]) (by kernel_rfl) (by simp) ?_
          refine AllReadyH.cons (o := { dst := some 22, op := Op.call { callee := Callee.value (Operand.func 11), args := #[Operand.tmp 21], argTypes := #[23] }, type := 31, pos := "law.go:228", after := #[{ on := 4, ground := Ground.data }, { on := 2, ground := Ground.chain }], guard := none }) rfl (fun K hK => ?_) AllReadyH.nil
          · go_simp
            with_reducible refine (HOr.out _).mono ?_
            rintro e X4 ⟨rfl, hb⟩
            go_wp2_with fail
            have hp4 := hp3.below hb hp3.lt
            have hq4 := hq3.below hb hq3.lt
            have hy := hHeld.trans (Below.mono hb hHeld.size)
            refine hK.out _ _ hy (fun hHeld => ?_)
            clear hK K
            try simp only [Act.put, List.setIfInBounds_toArray, List.set_cons_zero, List.set_cons_succ]
            refine wpAnyH_ready (rs := [8]) (by kernel_rfl) (by simp) ?_
            refine AllReadyH.cons (o := { dst := none, op := Op.store 31 (Operand.tmp 7) (Operand.tmp 19), type := 0, pos := "law.go:228", after := #[{ on := 6, ground := Ground.data }, { on := 2, ground := Ground.data }, { on := 5, ground := Ground.chain }, { on := 0, ground := Ground.phase }, { on := 1, ground := Ground.phase }, { on := 2, ground := Ground.phase }, { on := 3, ground := Ground.textOnly Departure.lateStores }, { on := 4, ground := Ground.textOnly Departure.lateStores }, { on := 5, ground := Ground.textOnly Departure.lateStoresUnsure }, { on := 6, ground := Ground.phase }, { on := 7, ground := Ground.phase }], guard := none }) rfl (fun K hK => ?_) AllReadyH.nil
            rw [if_pos (by rfl)]
            with_reducible refine wp_store_mid 31 (Operand.tmp 7) (Operand.tmp 19) ?ho p 0 #[.int .i64 (t.seek : Int), .int .i64 (t.hold : Int), .int .i64 (t.normal : Int), .int .i64 (t.emer : Int), .int .i64 (t.few : Int), .int .i64 (t.fewer : Int), .int .i64 (t.most : Int)] ?hx ?hy ?ht ?hi ?h1 ?_
            case ho => rfl
            case hx => rfl
            case hy => rfl
            case ht => exact (show World.there X4 p 0 7 from own_there hp4)
            case hi => kernel_rfl
            case h1 => simp [Value.oneCell']
            have s1 : Own (X4.setCells p 0 (#[.int .i64 (t.seek : Int), .int .i64 (t.hold : Int), .int .i64 (t.normal : Int), .int .i64 (t.emer : Int), .int .i64 (t.few : Int), .int .i64 (t.fewer : Int), .int .i64 (t.most : Int)] : Array Value).toList) p 31 [.int .i64 (t.seek : Int), .int .i64 (t.hold : Int), .int .i64 (t.normal : Int), .int .i64 (t.emer : Int), .int .i64 (t.few : Int), .int .i64 (t.fewer : Int), .int .i64 (t.most : Int)] := own_setCells _ 0 _ _ hp4
            have x1 : Exc (fun k => k = p) X4 (X4.setCells p 0 (#[.int .i64 (t.seek : Int), .int .i64 (t.hold : Int), .int .i64 (t.normal : Int), .int .i64 (t.emer : Int), .int .i64 (t.few : Int), .int .i64 (t.fewer : Int), .int .i64 (t.most : Int)] : Array Value).toList) := exc_setCells _ 0 _ (Exc.refl _ _)
            obtain ⟨Y1, hY1⟩ : ∃ Y, Y = X4.setCells p 0 (#[.int .i64 (t.seek : Int), .int .i64 (t.hold : Int), .int .i64 (t.normal : Int), .int .i64 (t.emer : Int), .int .i64 (t.few : Int), .int .i64 (t.fewer : Int), .int .i64 (t.most : Int)] : Array Value).toList := ⟨_, rfl⟩
            rw [← hY1] at s1 x1 ⊢
            clear hY1
            have s2 : Own Y1 q 31 [.int .i64 0, .int .i64 0, .int .i64 0, .int .i64 0, .int .i64 0, .int .i64 0, .int .i64 0] := by unfold Own; rw [x1.block q hq4.lt (fun e => hpq e.symm)]; exact hq4
            have y1 := hHeld.trans (x1.below hHeld.size (fun i _ e => by omega))
            refine hK.out _ _ y1 (fun hHeld => ?_)
            clear hK K
            try simp only [Act.put]
            refine wpAnyH_ready (rs := [9]) (by kernel_rfl) (by simp) ?_
            refine AllReadyH.cons (o := { dst := none, op := Op.store 31 (Operand.tmp 8) (Operand.tmp 22), type := 0, pos := "law.go:228", after := #[{ on := 7, ground := Ground.data }, { on := 5, ground := Ground.data }, { on := 8, ground := Ground.chain }, { on := 0, ground := Ground.phase }, { on := 1, ground := Ground.phase }, { on := 2, ground := Ground.phase }, { on := 3, ground := Ground.phase }, { on := 4, ground := Ground.phase }, { on := 5, ground := Ground.phase }, { on := 6, ground := Ground.phase }, { on := 7, ground := Ground.phase }, { on := 8, ground := Ground.phase }], guard := none }) rfl (fun K hK => ?_) AllReadyH.nil
            rw [if_pos (by rfl)]
            with_reducible refine wp_store_mid 31 (Operand.tmp 8) (Operand.tmp 22) ?ho q 0 #[.int .i64 (r.seek : Int), .int .i64 (r.hold : Int), .int .i64 (r.normal : Int), .int .i64 (r.emer : Int), .int .i64 (r.few : Int), .int .i64 (r.fewer : Int), .int .i64 (r.most : Int)] ?hx ?hy ?ht ?hi ?h1 ?_
            case ho => rfl
            case hx => rfl
            case hy => rfl
            case ht => exact (show World.there Y1 q 0 7 from own_there s2)
            case hi => kernel_rfl
            case h1 => simp [Value.oneCell']
            have s3 : Own (Y1.setCells q 0 (#[.int .i64 (r.seek : Int), .int .i64 (r.hold : Int), .int .i64 (r.normal : Int), .int .i64 (r.emer : Int), .int .i64 (r.few : Int), .int .i64 (r.fewer : Int), .int .i64 (r.most : Int)] : Array Value).toList) q 31 [.int .i64 (r.seek : Int), .int .i64 (r.hold : Int), .int .i64 (r.normal : Int), .int .i64 (r.emer : Int), .int .i64 (r.few : Int), .int .i64 (r.fewer : Int), .int .i64 (r.most : Int)] := own_setCells _ 0 _ _ s2
            have x2 : Exc (fun k => k = q) Y1 (Y1.setCells q 0 (#[.int .i64 (r.seek : Int), .int .i64 (r.hold : Int), .int .i64 (r.normal : Int), .int .i64 (r.emer : Int), .int .i64 (r.few : Int), .int .i64 (r.fewer : Int), .int .i64 (r.most : Int)] : Array Value).toList) := exc_setCells _ 0 _ (Exc.refl _ _)
            obtain ⟨Y2, hY2⟩ : ∃ Y, Y = Y1.setCells q 0 (#[.int .i64 (r.seek : Int), .int .i64 (r.hold : Int), .int .i64 (r.normal : Int), .int .i64 (r.emer : Int), .int .i64 (r.few : Int), .int .i64 (r.fewer : Int), .int .i64 (r.most : Int)] : Array Value).toList := ⟨_, rfl⟩
            rw [← hY2] at s3 x2 ⊢
            clear hY2
            have s4 : Own Y2 p 31 [.int .i64 (t.seek : Int), .int .i64 (t.hold : Int), .int .i64 (t.normal : Int), .int .i64 (t.emer : Int), .int .i64 (t.few : Int), .int .i64 (t.fewer : Int), .int .i64 (t.most : Int)] := by unfold Own; rw [x2.block p s1.lt hpq]; exact s1
            have y2 := hHeld.trans (x2.below hHeld.size (fun i _ e => by omega))
            refine hK.out _ _ y2 (fun hHeld => ?_)
            clear hK K
            try simp only [Act.put]
            refine wpAnyH_done (by kernel_rfl) ?_ _
            go_wp2_with fail
            go_meet
            exact ⟨p, q, rfl, rfl, s4, s3, hpq, hpl, hql, hHeld⟩
      refine AllReadyH.cons (o := { dst := some 7, op := Op.alloc 31, type := 0, pos := "law.go:228", after := #[], guard := none }) rfl (fun K hK => ?_) AllReadyH.nil
      · go_simp
        obtain ⟨p, hpe⟩ : ∃ p, p = X1.heap.size := ⟨_, rfl⟩
        obtain ⟨X2, hn⟩ : ∃ Y, Y = X1.alloc (.cells #[.int .i64 0, .int .i64 0, .int .i64 0, .int .i64 0, .int .i64 0, .int .i64 0, .int .i64 0] 31) := ⟨_, rfl⟩
        have hnb : Below X1.heap.size X1 X2 := by rw [hn]; exact below_alloc _ _
        have hp2 : Own X2 p 31 [.int .i64 0, .int .i64 0, .int .i64 0, .int .i64 0, .int .i64 0, .int .i64 0, .int .i64 0] := by rw [hn, hpe]; exact own_new _ _ _ _ rfl
        have hpl : W.heap.size ≤ p := by have := hHeld.size; omega
        have hq2 := hq1.below hnb hq1.lt
        have hpq : p ≠ q := by have := hq1.lt; omega
        have hy := hHeld.trans (Below.mono hnb hHeld.size)
        rw [← hn, ← hpe]
        clear hn hpe
        refine hK.out _ _ hy (fun hHeld => ?_)
        clear hK K
        try simp only [Act.put, List.setIfInBounds_toArray, List.set_cons_zero, List.set_cons_succ]
        refine wpAnyH_ready (rs := [2]) (by kernel_rfl) (by simp) ?_
        refine AllReadyH.cons (o := { dst := some 19, op := Op.call { callee := Callee.value (Operand.func 11), args := #[Operand.tmp 18], argTypes := #[23] }, type := 31, pos := "law.go:228", after := #[{ on := 1, ground := Ground.data }], guard := none }) rfl (fun K hK => ?_) AllReadyH.nil
        · go_simp
          with_reducible refine (HOf.out _).mono ?_
          rintro e X3 ⟨rfl, hb⟩
          go_wp2_with fail
          have hp3 := hp2.below hb hp2.lt
          have hq3 := hq2.below hb hq2.lt
          have hy := hHeld.trans (Below.mono hb hHeld.size)
          refine hK.out _ _ hy (fun hHeld => ?_)
          clear hK K
          try simp only [Act.put, List.setIfInBounds_toArray, List.set_cons_zero, List.set_cons_succ]
          refine wpAnyH_ready (rs := [5]) (by kernel_rfl) (by simp) ?_
          refine AllReadyH.cons (o := { dst := some 22, op := Op.call { callee := Callee.value (Operand.func 11), args := #[Operand.tmp 21], argTypes := #[23] }, type := 31, pos := "law.go:228", after := #[{ on := 4, ground := Ground.data }, { on := 2, ground := Ground.chain }], guard := none }) rfl (fun K hK => ?_) AllReadyH.nil
          · go_simp
            with_reducible refine (HOr.out _).mono ?_
            rintro e X4 ⟨rfl, hb⟩
            go_wp2_with fail
            have hp4 := hp3.below hb hp3.lt
            have hq4 := hq3.below hb hq3.lt
            have hy := hHeld.trans (Below.mono hb hHeld.size)
            refine hK.out _ _ hy (fun hHeld => ?_)
            clear hK K
            try simp only [Act.put, List.setIfInBounds_toArray, List.set_cons_zero, List.set_cons_succ]
            refine wpAnyH_ready (rs := [8]) (by kernel_rfl) (by simp) ?_
            refine AllReadyH.cons (o := { dst := none, op := Op.store 31 (Operand.tmp 7) (Operand.tmp 19), type := 0, pos := "law.go:228", after := #[{ on := 6, ground := Ground.data }, { on := 2, ground := Ground.data }, { on := 5, ground := Ground.chain }, { on := 0, ground := Ground.phase }, { on := 1, ground := Ground.phase }, { on := 2, ground := Ground.phase }, { on := 3, ground := Ground.textOnly Departure.lateStores }, { on := 4, ground := Ground.textOnly Departure.lateStores }, { on := 5, ground := Ground.textOnly Departure.lateStoresUnsure }, { on := 6, ground := Ground.phase }, { on := 7, ground := Ground.phase }], guard := none }) rfl (fun K hK => ?_) AllReadyH.nil
            rw [if_pos (by rfl)]
            with_reducible refine wp_store_mid 31 (Operand.tmp 7) (Operand.tmp 19) ?ho p 0 #[.int .i64 (t.seek : Int), .int .i64 (t.hold : Int), .int .i64 (t.normal : Int), .int .i64 (t.emer : Int), .int .i64 (t.few : Int), .int .i64 (t.fewer : Int), .int .i64 (t.most : Int)] ?hx ?hy ?ht ?hi ?h1 ?_
            case ho => rfl
            case hx => rfl
            case hy => rfl
            case ht => exact (show World.there X4 p 0 7 from own_there hp4)
            case hi => kernel_rfl
            case h1 => simp [Value.oneCell']
            have s1 : Own (X4.setCells p 0 (#[.int .i64 (t.seek : Int), .int .i64 (t.hold : Int), .int .i64 (t.normal : Int), .int .i64 (t.emer : Int), .int .i64 (t.few : Int), .int .i64 (t.fewer : Int), .int .i64 (t.most : Int)] : Array Value).toList) p 31 [.int .i64 (t.seek : Int), .int .i64 (t.hold : Int), .int .i64 (t.normal : Int), .int .i64 (t.emer : Int), .int .i64 (t.few : Int), .int .i64 (t.fewer : Int), .int .i64 (t.most : Int)] := own_setCells _ 0 _ _ hp4
            have x1 : Exc (fun k => k = p) X4 (X4.setCells p 0 (#[.int .i64 (t.seek : Int), .int .i64 (t.hold : Int), .int .i64 (t.normal : Int), .int .i64 (t.emer : Int), .int .i64 (t.few : Int), .int .i64 (t.fewer : Int), .int .i64 (t.most : Int)] : Array Value).toList) := exc_setCells _ 0 _ (Exc.refl _ _)
            obtain ⟨Y1, hY1⟩ : ∃ Y, Y = X4.setCells p 0 (#[.int .i64 (t.seek : Int), .int .i64 (t.hold : Int), .int .i64 (t.normal : Int), .int .i64 (t.emer : Int), .int .i64 (t.few : Int), .int .i64 (t.fewer : Int), .int .i64 (t.most : Int)] : Array Value).toList := ⟨_, rfl⟩
            rw [← hY1] at s1 x1 ⊢
            clear hY1
            have s2 : Own Y1 q 31 [.int .i64 0, .int .i64 0, .int .i64 0, .int .i64 0, .int .i64 0, .int .i64 0, .int .i64 0] := by unfold Own; rw [x1.block q hq4.lt (fun e => hpq e.symm)]; exact hq4
            have y1 := hHeld.trans (x1.below hHeld.size (fun i _ e => by omega))
            refine hK.out _ _ y1 (fun hHeld => ?_)
            clear hK K
            try simp only [Act.put]
            refine wpAnyH_ready (rs := [9]) (by kernel_rfl) (by simp) ?_
            refine AllReadyH.cons (o := { dst := none, op := Op.store 31 (Operand.tmp 8) (Operand.tmp 22), type := 0, pos := "law.go:228", after := #[{ on := 7, ground := Ground.data }, { on := 5, ground := Ground.data }, { on := 8, ground := Ground.chain }, { on := 0, ground := Ground.phase }, { on := 1, ground := Ground.phase }, { on := 2, ground := Ground.phase }, { on := 3, ground := Ground.phase }, { on := 4, ground := Ground.phase }, { on := 5, ground := Ground.phase }, { on := 6, ground := Ground.phase }, { on := 7, ground := Ground.phase }, { on := 8, ground := Ground.phase }], guard := none }) rfl (fun K hK => ?_) AllReadyH.nil
            rw [if_pos (by rfl)]
            with_reducible refine wp_store_mid 31 (Operand.tmp 8) (Operand.tmp 22) ?ho q 0 #[.int .i64 (r.seek : Int), .int .i64 (r.hold : Int), .int .i64 (r.normal : Int), .int .i64 (r.emer : Int), .int .i64 (r.few : Int), .int .i64 (r.fewer : Int), .int .i64 (r.most : Int)] ?hx ?hy ?ht ?hi ?h1 ?_
            case ho => rfl
            case hx => rfl
            case hy => rfl
            case ht => exact (show World.there Y1 q 0 7 from own_there s2)
            case hi => kernel_rfl
            case h1 => simp [Value.oneCell']
            have s3 : Own (Y1.setCells q 0 (#[.int .i64 (r.seek : Int), .int .i64 (r.hold : Int), .int .i64 (r.normal : Int), .int .i64 (r.emer : Int), .int .i64 (r.few : Int), .int .i64 (r.fewer : Int), .int .i64 (r.most : Int)] : Array Value).toList) q 31 [.int .i64 (r.seek : Int), .int .i64 (r.hold : Int), .int .i64 (r.normal : Int), .int .i64 (r.emer : Int), .int .i64 (r.few : Int), .int .i64 (r.fewer : Int), .int .i64 (r.most : Int)] := own_setCells _ 0 _ _ s2
            have x2 : Exc (fun k => k = q) Y1 (Y1.setCells q 0 (#[.int .i64 (r.seek : Int), .int .i64 (r.hold : Int), .int .i64 (r.normal : Int), .int .i64 (r.emer : Int), .int .i64 (r.few : Int), .int .i64 (r.fewer : Int), .int .i64 (r.most : Int)] : Array Value).toList) := exc_setCells _ 0 _ (Exc.refl _ _)
            obtain ⟨Y2, hY2⟩ : ∃ Y, Y = Y1.setCells q 0 (#[.int .i64 (r.seek : Int), .int .i64 (r.hold : Int), .int .i64 (r.normal : Int), .int .i64 (r.emer : Int), .int .i64 (r.few : Int), .int .i64 (r.fewer : Int), .int .i64 (r.most : Int)] : Array Value).toList := ⟨_, rfl⟩
            rw [← hY2] at s3 x2 ⊢
            clear hY2
            have s4 : Own Y2 p 31 [.int .i64 (t.seek : Int), .int .i64 (t.hold : Int), .int .i64 (t.normal : Int), .int .i64 (t.emer : Int), .int .i64 (t.few : Int), .int .i64 (t.fewer : Int), .int .i64 (t.most : Int)] := by unfold Own; rw [x2.block p s1.lt hpq]; exact s1
            have y2 := hHeld.trans (x2.below hHeld.size (fun i _ e => by omega))
            refine hK.out _ _ y2 (fun hHeld => ?_)
            clear hK K
            try simp only [Act.put]
            refine wpAnyH_done (by kernel_rfl) ?_ _
            go_wp2_with fail
            go_meet
            exact ⟨p, q, rfl, rfl, s4, s3, hpq, hpl, hql, hHeld⟩
  case rest =>
    obtain ⟨p, q, rfl, rfl, hp, hq, hpq, hpl, hql, hbx⟩ := hcut
    obtain ⟨t2, ht2⟩ : ∃ t2 : Ti, t2 = { t with hold := max t.hold 2 } := ⟨_, rfl⟩
    obtain ⟨r2, hr2⟩ : ∃ r2 : Ti, r2 = { r with hold := max r.hold 2 } := ⟨_, rfl⟩
    have lo2 : t2.Low := by have h := HLo.out; have hh := h.hold; rw [ht2]; exact ⟨h.seek, by show 1 ≤ max t.hold 2 ∧ max t.hold 2 ≤ 12; omega, h.normal, h.emer, h.few, h.fewer, h.most⟩
    have lr2 : r2.Low := by have h := HLr.out; have hh := h.hold; rw [hr2]; exact ⟨h.seek, by show 1 ≤ max r.hold 2 ∧ max r.hold 2 ≤ 12; omega, h.normal, h.emer, h.few, h.fewer, h.most⟩
    have ho2 : 2 ≤ t2.hold := by rw [ht2]; show 2 ≤ max t.hold 2; omega
    have hor2 : 2 ≤ r2.hold := by rw [hr2]; show 2 ≤ max r.hold 2; omega
    have mx1 : max (t.hold : Int) 2 = (t2.hold : Int) := by rw [ht2]; show max (t.hold : Int) 2 = ((max t.hold 2 : Nat) : Int); omega
    have mx2 : max (r.hold : Int) 2 = (r2.hold : Int) := by rw [hr2]; show max (r.hold : Int) 2 = ((max r.hold 2 : Nat) : Int); omega
    have if1 : (if (t.hold : Int) < 2 then (2 : Int) else (t.hold : Int)) = (t2.hold : Int) := by rw [← mx1]; split <;> omega
    have if2 : (if (r.hold : Int) < 2 then (2 : Int) else (r.hold : Int)) = (r2.hold : Int) := by rw [← mx2]; split <;> omega
    obtain ⟨W1, hW1⟩ : ∃ X, X = wc.setCell ⟨p, 1, none⟩ (.int .i64 (t2.hold : Int)) := ⟨_, rfl⟩
    have p1 : Own W1 p 31 [.int .i64 (t2.seek : Int), .int .i64 (t2.hold : Int), .int .i64 (t2.normal : Int), .int .i64 (t2.emer : Int), .int .i64 (t2.few : Int), .int .i64 (t2.fewer : Int), .int .i64 (t2.most : Int)] := by
      have := hp.set 1 (.int .i64 (t2.hold : Int))
      rw [hW1]
      rw [ht2] at this ⊢
      exact this
    have q1 : Own W1 q 31 [.int .i64 (r.seek : Int), .int .i64 (r.hold : Int), .int .i64 (r.normal : Int), .int .i64 (r.emer : Int), .int .i64 (r.few : Int), .int .i64 (r.fewer : Int), .int .i64 (r.most : Int)] := by rw [hW1]; exact hq.other _ (fun e => hpq e.symm) _
    obtain ⟨W2, hW2⟩ : ∃ X, X = W1.setCell ⟨q, 1, none⟩ (.int .i64 (r2.hold : Int)) := ⟨_, rfl⟩
    have q2 : Own W2 q 31 [.int .i64 (r2.seek : Int), .int .i64 (r2.hold : Int), .int .i64 (r2.normal : Int), .int .i64 (r2.emer : Int), .int .i64 (r2.few : Int), .int .i64 (r2.fewer : Int), .int .i64 (r2.most : Int)] := by
      have := q1.set 1 (.int .i64 (r2.hold : Int))
      rw [hW2]
      rw [hr2] at this ⊢
      exact this
    have p2 : Own W2 p 31 [.int .i64 (t2.seek : Int), .int .i64 (t2.hold : Int), .int .i64 (t2.normal : Int), .int .i64 (t2.emer : Int), .int .i64 (t2.few : Int), .int .i64 (t2.fewer : Int), .int .i64 (t2.most : Int)] := by rw [hW2]; exact p1.other _ hpq _
    have hbc : Below w.heap.size w wc := HB.out.trans (Below.mono hbx HB.out.size)
    have hb2 : Below w.heap.size w W2 := by
      have hz := HB.out.size
      rw [hW2, hW1]
      exact (hbc.setCell (p := ⟨p, 1, none⟩) (by show w.heap.size ≤ p; omega) _).setCell (p := ⟨q, 1, none⟩) (by show w.heap.size ≤ q; omega) _
    have bw2 : Below W.heap.size W W2 := by
      rw [hW2, hW1]
      exact (hbx.setCell (p := ⟨p, 1, none⟩) hpl _).setCell (p := ⟨q, 1, none⟩) hql _
    have u2 := HO1.out.below bw2 HO1.out.lt
    have z2 := HO2.out.below bw2 HO2.out.lt
    have c0 := hp.cell 0 (by simp)
    have d0 := hq.cell 0 (by simp)
    have c1 := hp.cell 1 (by simp)
    have d1 := hq.cell 1 (by simp)
    have c2 := hp.cell 2 (by simp)
    have d2 := hq.cell 2 (by simp)
    have c3 := hp.cell 3 (by simp)
    have d3 := hq.cell 3 (by simp)
    have c4 := hp.cell 4 (by simp)
    have d4 := hq.cell 4 (by simp)
    have c5 := hp.cell 5 (by simp)
    have d5 := hq.cell 5 (by simp)
    have c6 := hp.cell 6 (by simp)
    have d6 := hq.cell 6 (by simp)
    simp only [List.getD_cons_succ, List.getD_cons_zero] at c0 d0 c1 d1 c2 d2 c3 d3 c4 d4 c5 d5 c6 d6
    have f1 := hp.frozen 1
    have e1 := q1.cell 1 (by simp)
    have e2 := q1.frozen 1
    simp only [List.getD_cons_succ, List.getD_cons_zero] at e1
    have HW1 := Lib.hid hW1
    have HW2 := Lib.hid hW2
    have HP2 := Lib.hid p2
    have HQ2 := Lib.hid q2
    have HB2 := Lib.hid hb2
    have HU2 := Lib.hid u2
    have HZ2 := Lib.hid z2
    have HLo2 := Lib.hid lo2
    have HLr2 := Lib.hid lr2
    have HH2 := Lib.hid (And.intro ho2 hor2)
    clear ht2 hr2 lo2 lr2 ho2 hor2 hW1 hW2 p1 q1 p2 q2 hb2 bw2 u2 z2 hbc hbx hp hq hpq hpl hql HLo HLr HO0 HO1 HO2 HOf HOr HW HB
    go_upto_region 3 with fail
    rw [← HW1.out]
    clear c0 c1 c2 c3 c4 c5 c6 d0 d1 d2 d3 d4 d5 d6 f1 mx1 if1
    go_upto_region 4 with fail
    rw [← HW2.out]
    clear e1 e2 mx2 if2 HW1 HW2
    have HTp := Lib.hid (fun W' (h : Below W2.heap.size W2 W') => HP2.out.below h HP2.out.lt)
    have HTq := Lib.hid (fun W' (h : Below W2.heap.size W2 W') => HQ2.out.below h HQ2.out.lt)
    have HTu := Lib.hid (fun W' (h : Below W2.heap.size W2 W') => HU2.out.below h HU2.out.lt)
    have HTz := Lib.hid (fun W' (h : Below W2.heap.size W2 W') => HZ2.out.below h HZ2.out.lt)
    clear HU2 HZ2
    have oo := HTp.out W2 (Below.refl _ _)
    have c0 := oo.cell 0 (by simp)
    have c1 := oo.cell 1 (by simp)
    have c2 := oo.cell 2 (by simp)
    have c3 := oo.cell 3 (by simp)
    have c4 := oo.cell 4 (by simp)
    have c5 := oo.cell 5 (by simp)
    have c6 := oo.cell 6 (by simp)
    simp only [List.getD_cons_succ, List.getD_cons_zero] at c0 c1 c2 c3 c4 c5 c6
    clear oo
    clear HP2 HQ2
    go_wp2_with fail
    with_reducible refine (new_lit t2 HLo2.out.fit (Below.refl W2.heap.size W2)).mono ?_
    rintro e w3 ⟨a, rfl, _, h3, _⟩
    have H3 := Lib.hid h3
    clear c0 c1 c2 c3 c4 c5 c6
    have oo := HTq.out w3 h3.bel
    have d0 := oo.cell 0 (by simp)
    have d1 := oo.cell 1 (by simp)
    have d2 := oo.cell 2 (by simp)
    have d3 := oo.cell 3 (by simp)
    have d4 := oo.cell 4 (by simp)
    have d5 := oo.cell 5 (by simp)
    have d6 := oo.cell 6 (by simp)
    simp only [List.getD_cons_succ, List.getD_cons_zero] at d0 d1 d2 d3 d4 d5 d6
    clear oo
    clear h3
    go_wp2_with fail
    with_reducible refine (new_lit r2 HLr2.out.fit H3.out.bel).mono ?_
    rintro e w4 ⟨b, rfl, hb4, h4, hbb⟩
    have h5 : Two W2 w4 a b (Al.new t2) (Al.new r2) := Two.new H3.out (by show 0 ≠ 3; decide) hbb hb4 h4 (by show 0 ≠ 3; decide)
    have H5 := Lib.hid h5
    clear d0 d1 d2 d3 d4 d5 d6 hb4 h4 hbb H3
    have oo := HTu.out w4 h5.bel
    have g0 := oo.cell 0 (by simp)
    have g1 := oo.cell 1 (by simp)
    simp only [List.getD_cons_succ, List.getD_cons_zero] at g0 g1
    clear oo
    clear h5
    go_wp2_with fail
    with_reducible refine (start_two H5.out u (.inl rfl)).mono ?_
    rintro e w5 ⟨rfl, h5⟩
    have H6 := Lib.hid (show Two W2 w5 a b (rdS t2 u 0) (Al.new r2) from h5)
    clear h5 H5 g0 g1
    go_wp2_with fail
    obtain ⟨M, hM⟩ : ∃ M, M = z0 % t2.seek := ⟨_, rfl⟩
    have hsk := HLo2.out.seek
    have hMl : M < t2.seek := by rw [hM]; exact Nat.mod_lt _ (by omega)
    have hzz := HZ.out.1
    have e0 : (0 : Int) ≤ (z0 : Int) := by omega
    have e2 : ¬ (t2.seek : Int) = 0 := by omega
    have e3 : ((t2.seek : Int) == 0) = false := by simp; omega
    have e4 : ¬ t2.seek = 0 := by omega
    have e5 : (t2.seek == 0) = false := by simp; omega
    have e6 : (z0 : Int).tmod (t2.seek : Int) = (M : Int) := by rw [Int.tmod_eq_emod_of_nonneg (by omega), hM]; exact Int.natCast_emod z0 t2.seek
    have e7 : (z0 : Int) % (t2.seek : Int) = (M : Int) := by rw [hM]; exact Int.natCast_emod z0 t2.seek
    have e8 : IntKind.i64.wrap (M : Int) = (M : Int) := IntWalk.i64_in _ (by omega)
    have e9 : IntKind.i64.wrap (z0 : Int) = (z0 : Int) := IntWalk.i64_in _ (by omega)
    have HMl := Lib.hid (And.intro hMl hsk)
    clear hM hMl hsk hzz
    go_loopw [13] (fun v13 wr => ∃ k : Nat, k ≤ M ∧ v13 = .int .i64 k ∧ Two W2 wr a b (rdS t2 u k) (Al.new r2)) (fun v13 _ => M - (intOf v13).toNat)
    case atStart => exact ⟨0, Nat.zero_le _, rfl, H6.out⟩
    case round =>
      obtain ⟨k, hk, rfl, hx⟩ := hrel
      have HX := Lib.hid hx
      have oo := HTz.out wr hx.bel
      have g0 := oo.cell 0 (by simp)
      simp only [List.getD_cons_zero] at g0
      clear oo
      have oo := HTp.out wr hx.bel
      have c0 := oo.cell 0 (by simp)
      simp only [List.getD_cons_zero] at c0
      clear oo
      clear hx H6
      by_cases hlt : k < M
      · have hki : (k : Int) < (M : Int) := by omega
        have htk := tick_two HX.out
        rw [rdS_tick (by have := HMl.out.1; omega)] at htk
        obtain ⟨K, hK⟩ : ∃ K, K = k + 1 := ⟨_, rfl⟩
        have hwk : IntKind.i64.wrap ((k : Int) + 1) = (K : Int) := by have := HMl.out; rw [IntWalk.i64_in _ (by omega)]; omega
        rw [← hK] at htk
        have HTk := Lib.hid htk
        have HK := Lib.hid (And.intro hK hlt)
        clear hK hlt hk htk
        go_wp2_with fail
        with_reducible refine HTk.out.mono ?_
        rintro e w6 ⟨rfl, h6⟩
        have H7 := Lib.hid h6
        clear h6 HTk
        go_wp2_with fail
        exact ⟨⟨K, by have := HK.out; omega, by rfl, H7.out⟩, by simp only [intOf]; have := HK.out; omega⟩
      · obtain rfl : k = M := by omega
        have hki : ¬ (k : Int) < (k : Int) := by omega
        have hph := phase_one HX.out.oneA
        rw [show ((rdS t2 u k).ph : Int) = 1 from rfl] at hph
        have HPh := Lib.hid hph
        clear hlt hk hph
        have oo := HTu.out wr HX.out.bel
        have g1 := oo.cell 1 (by simp)
        simp only [List.getD_cons_succ, List.getD_cons_zero] at g1
        clear oo
        go_wp2_with fail
        with_reducible refine HPh.out.mono ?_
        rintro e w' ⟨rfl, rfl⟩
        clear c0 g0 HPh
        go_wp2_with fail
        with_reducible refine (start_twoB HX.out v (.inl rfl)).mono ?_
        rintro e w6 ⟨rfl, h6⟩
        obtain ⟨l, hl⟩ : ∃ l, l = t2.seek - k := ⟨_, rfl⟩
        have e10 : rdS t2 u k = rdy t2 u v l u 0 := by unfold rdS rdy; rw [if_pos rfl, hl]
        have e11 : (Al.new r2).start v = rdy r2 v u r2.seek (v || u) 0 := rfl
        have e12 : rdS t2 u k = rdy t2 u v l (u || v) 0 := by unfold rdS rdy; rw [if_pos rfl, hl]
        have e13 : (Al.new r2).start v = rdy r2 v u r2.seek v 0 := rfl
        have hA0 := h6
        rw [e10, e11] at hA0
        have hB0 := h6
        rw [e12, e13] at hB0
        have HA0 := Lib.hid hA0
        have HB0 := Lib.hid hB0
        clear hl e10 e11 e12 e13 hA0 hB0 HX g1 hki e0 e2 e3 e4 e5 e6 e7 e8 e9
        clear h6
        have oo := HTp.out w6 HA0.out.bel
        have c2 := oo.cell 2 (by simp)
        have c3 := oo.cell 3 (by simp)
        simp only [List.getD_cons_succ, List.getD_cons_zero] at c2 c3
        clear oo
        have oo := HTq.out w6 HA0.out.bel
        have d2 := oo.cell 2 (by simp)
        have d3 := oo.cell 3 (by simp)
        simp only [List.getD_cons_succ, List.getD_cons_zero] at d2 d3
        clear oo
        have oo := HTu.out w6 HA0.out.bel
        have g0 := oo.cell 0 (by simp)
        have g1 := oo.cell 1 (by simp)
        simp only [List.getD_cons_succ, List.getD_cons_zero] at g0 g1
        clear oo
        have hn1 := HLo2.out.normal
        have hn2 := HLr2.out.normal
        have hm1 := HLo2.out.emer
        have hm2 := HLr2.out.emer
        obtain ⟨N1, hN1⟩ : ∃ N, N = t2.normal + 1 := ⟨_, rfl⟩
        obtain ⟨N2, hN2⟩ : ∃ N, N = r2.normal + 1 := ⟨_, rfl⟩
        obtain ⟨M1, hM1⟩ : ∃ N, N = t2.emer + 1 := ⟨_, rfl⟩
        obtain ⟨M2, hM2⟩ : ∃ N, N = r2.emer + 1 := ⟨_, rfl⟩
        have e1 : IntKind.i64.wrap ((t2.normal : Int) + 1) = (N1 : Int) := by rw [IntWalk.i64_in _ (by omega)]; omega
        have e2 : IntKind.i64.wrap ((r2.normal : Int) + 1) = (N2 : Int) := by rw [IntWalk.i64_in _ (by omega)]; omega
        have e3 : IntKind.i64.wrap ((t2.emer : Int) + 1) = (M1 : Int) := by rw [IntWalk.i64_in _ (by omega)]; omega
        have e4 : IntKind.i64.wrap ((r2.emer : Int) + 1) = (M2 : Int) := by rw [IntWalk.i64_in _ (by omega)]; omega
        have HN := Lib.hid (And.intro hN1 (And.intro hN2 (And.intro hM1 hM2)))
        clear hn1 hn2 hm1 hm2 hN1 hN2 hM1 hM2 HMl
        go_wp2_with fail
        cases u <;> cases v
        · go_quiet (fail)
          have A7 := HA0.out.drew nq
          have B7 := HB0.out.drew nq
          have g0' : (w6.drewN nq).cell? ⟨P1, 0, none⟩ = some (.bool false) := g0
          have g1' : (w6.drewN nq).cell? ⟨P1, 1, none⟩ = some (.bool false) := g1
          clear c2 c3 d2 d3 g0 g1
          generalize w6.drewN nq = W7 at A7 B7 g0' g1' ⊢
          have HA7 := Lib.hid A7
          have HB7 := Lib.hid B7
          clear A7 B7 HA0 HB0
          go_wp2_with fail
          have hF1 : N1 = t2.dur (false || false) + 1 := by exact HN.out.1
          have hF2 : N2 = r2.dur (false || false) + 1 := by exact HN.out.2.1
          have HF := Lib.hid (And.intro hF1 hF2)
          clear e1 e2 e3 e4 hF1 hF2 g0' g1'
          by_cases hpar : z1 % 2 = 0
          · have z2 : (z1 : Int) % 2 = 0 := by omega
            clear hpar
            go_loopw [16] (fun v16 wr => ∃ k j : Nat, k = j + 1 ∧ j ≤ 14 ∧ v16 = .int .i64 k ∧ Two W2 wr a b (rdy t2 false false l false j) (rdy r2 false false r2.seek (false || false) j)) (fun v16 _ => 16 - (intOf v16).toNat)
            case atStart => exact ⟨1, 0, rfl, by omega, rfl, HA7.out⟩
            case round =>
              obtain ⟨k, j, hkj, hj, rfl, hx⟩ := hrel
              have HX := Lib.hid hx
              have oo := HTz.out wr hx.bel
              have g1 := oo.cell 1 (by simp)
              simp only [List.getD_cons_succ, List.getD_cons_zero] at g1
              clear oo
              clear hx HA7 HB7
              by_cases hlt : j < 14
              · have hki : (k : Int) ≤ 14 := by omega
                have hex := exchange_two HX.out (by have := rdy_le t2 false false false l j; omega) (by have := rdy_le r2 false false (false || false) r2.seek j; omega)
                obtain ⟨x1, x2⟩ := exchange_round (u := false) (o := false) (l := l) (l' := r2.seek) (k := j) HLo2.out HLr2.out HH2.out.1 HH2.out.2
                rw [x1, x2, ← hkj] at hex
                obtain ⟨K, hK⟩ : ∃ K, K = k + 1 := ⟨_, rfl⟩
                have hwk : IntKind.i64.wrap ((k : Int) + 1) = (K : Int) := by rw [IntWalk.i64_in _ (by omega)]; omega
                have HEx := Lib.hid hex
                have HK := Lib.hid (And.intro hK (And.intro hkj hlt))
                have iA := rdy_ph (t := t2) (u := false) (o := false) (m := false) (l := l) (k := k) (by omega) HLo2.out
                have iB := rdy_ph (t := r2) (u := false) (o := false) (m := (false || false)) (l := r2.seek) (k := k) (by omega) HLr2.out
                rw [← HF.out.1] at iA
                rw [← HF.out.2] at iB
                have HI := Lib.hid (And.intro iA iB)
                clear hex x1 x2 hK hkj hlt hj iA iB HX
                go_wp2_with fail
                with_reducible refine HEx.out.mono ?_
                rintro e w8 ⟨rfl, h8⟩
                have h8 := h8
                have hpA := phase_one h8.oneA
                have hpB := phase_one h8.oneB
                have H8 := Lib.hid h8
                obtain ⟨pa, hpa⟩ : ∃ pa, pa = (rdy t2 false false l false k).ph := ⟨_, rfl⟩
                obtain ⟨pb, hpb⟩ : ∃ pb, pb = (rdy r2 false false r2.seek (false || false) k).ph := ⟨_, rfl⟩
                rw [← hpa] at hpA
                rw [← hpb] at hpB
                have hiA : pa = 4 ↔ N1 ≤ k := by rw [hpa]; exact HI.out.1
                have hiB : pb = 4 ↔ N2 ≤ k := by rw [hpb]; exact HI.out.2
                clear h8 HEx hpa hpb g1
                by_cases hA : N1 ≤ k
                · by_cases hB : N2 ≤ k
                  · have yA : (N1 : Int) ≤ (k : Int) := by omega
                    have yB : (N2 : Int) ≤ (k : Int) := by omega
                    obtain rfl : pa = 4 := hiA.2 hA
                    rw [show ((4 : Nat) : Int) = 4 from rfl] at hpA
                    obtain rfl : pb = 4 := hiB.2 hB
                    rw [show ((4 : Nat) : Int) = 4 from rfl] at hpB
                    have HPA := Lib.hid hpA
                    have HPB := Lib.hid hpB
                    clear hpA hpB hA hB hiA hiB
                    go_wp2_with fail
                    with_reducible refine HPA.out.mono ?_
                    rintro e w' ⟨rfl, rfl⟩
                    go_wp2_with fail
                    with_reducible refine HPB.out.mono ?_
                    rintro e w' ⟨rfl, rfl⟩
                    clear HPA HPB
                    go_wp2_with fail
                    exact ⟨⟨K, k, HK.out.1, by have := HK.out; omega, by rfl, H8.out⟩, by simp only [intOf]; have := HK.out; omega⟩
                  · have yA : (N1 : Int) ≤ (k : Int) := by omega
                    have yB : ¬ (N2 : Int) ≤ (k : Int) := by omega
                    obtain rfl : pa = 4 := hiA.2 hA
                    rw [show ((4 : Nat) : Int) = 4 from rfl] at hpA
                    have nB : ¬ (pb : Int) = 4 := fun e => hB (hiB.1 (by omega))
                    have mB : ((pb : Int) == 4) = false := by simp; omega
                    have HPA := Lib.hid hpA
                    have HPB := Lib.hid hpB
                    clear hpA hpB hA hB hiA hiB
                    go_wp2_with fail
                    with_reducible refine HPA.out.mono ?_
                    rintro e w' ⟨rfl, rfl⟩
                    go_wp2_with fail
                    with_reducible refine HPB.out.mono ?_
                    rintro e w' ⟨rfl, rfl⟩
                    clear HPA HPB
                    go_wp2_with fail
                    exact ⟨⟨K, k, HK.out.1, by have := HK.out; omega, by rfl, H8.out⟩, by simp only [intOf]; have := HK.out; omega⟩
                · by_cases hB : N2 ≤ k
                  · have yA : ¬ (N1 : Int) ≤ (k : Int) := by omega
                    have yB : (N2 : Int) ≤ (k : Int) := by omega
                    have nA : ¬ (pa : Int) = 4 := fun e => hA (hiA.1 (by omega))
                    have mA : ((pa : Int) == 4) = false := by simp; omega
                    obtain rfl : pb = 4 := hiB.2 hB
                    rw [show ((4 : Nat) : Int) = 4 from rfl] at hpB
                    have HPA := Lib.hid hpA
                    have HPB := Lib.hid hpB
                    clear hpA hpB hA hB hiA hiB
                    go_wp2_with fail
                    with_reducible refine HPA.out.mono ?_
                    rintro e w' ⟨rfl, rfl⟩
                    go_wp2_with fail
                    with_reducible refine HPB.out.mono ?_
                    rintro e w' ⟨rfl, rfl⟩
                    clear HPA HPB
                    go_wp2_with fail
                    exact ⟨⟨K, k, HK.out.1, by have := HK.out; omega, by rfl, H8.out⟩, by simp only [intOf]; have := HK.out; omega⟩
                  · have yA : ¬ (N1 : Int) ≤ (k : Int) := by omega
                    have yB : ¬ (N2 : Int) ≤ (k : Int) := by omega
                    have nA : ¬ (pa : Int) = 4 := fun e => hA (hiA.1 (by omega))
                    have mA : ((pa : Int) == 4) = false := by simp; omega
                    have nB : ¬ (pb : Int) = 4 := fun e => hB (hiB.1 (by omega))
                    have mB : ((pb : Int) == 4) = false := by simp; omega
                    have HPA := Lib.hid hpA
                    have HPB := Lib.hid hpB
                    clear hpA hpB hA hB hiA hiB
                    go_wp2_with fail
                    with_reducible refine HPA.out.mono ?_
                    rintro e w' ⟨rfl, rfl⟩
                    go_wp2_with fail
                    with_reducible refine HPB.out.mono ?_
                    rintro e w' ⟨rfl, rfl⟩
                    clear HPA HPB
                    go_wp2_with fail
                    exact ⟨⟨K, k, HK.out.1, by have := HK.out; omega, by rfl, H8.out⟩, by simp only [intOf]; have := HK.out; omega⟩
              · obtain rfl : j = 14 := by omega
                obtain rfl : k = 15 := by omega
                have hvA := provings_one HX.out.oneA
                have hvB := provings_one HX.out.oneB
                rw [rdy_prov (by omega), show ((1 : Nat) : Int) = 1 from rfl] at hvA hvB
                have HVA := Lib.hid hvA
                have HVB := Lib.hid hvB
                clear hlt hj hkj hvA hvB g1
                go_wp2_with fail
                with_reducible refine HVA.out.mono ?_
                rintro e w' ⟨rfl, rfl⟩
                go_wp2_with fail
                with_reducible refine HVB.out.mono ?_
                rintro e w' ⟨rfl, rfl⟩
                go_wp2_with fail
                with_reducible refine (HLv.out _).mono ?_
                rintro e w10 ⟨rfl, hb10⟩
                have HB10 := Lib.hid ((HB2.out.trans (Below.mono HX.out.bel HB2.out.size)).trans (Below.mono hb10 (HB2.out.trans (Below.mono HX.out.bel HB2.out.size)).size))
                clear hb10 HLv HVA HVB
                go_wp2
                go_ret
                exact ⟨rfl, HB10.out⟩
          · have z2 : (z1 : Int) % 2 = 1 := by omega
            clear hpar
            go_loopw [16] (fun v16 wr => ∃ k j : Nat, k = j + 1 ∧ j ≤ 14 ∧ v16 = .int .i64 k ∧ Two W2 wr a b (rdy t2 false false l (false || false) j) (rdy r2 false false r2.seek false j)) (fun v16 _ => 16 - (intOf v16).toNat)
            case atStart => exact ⟨1, 0, rfl, by omega, rfl, HB7.out⟩
            case round =>
              obtain ⟨k, j, hkj, hj, rfl, hx⟩ := hrel
              have HX := Lib.hid hx
              have oo := HTz.out wr hx.bel
              have g1 := oo.cell 1 (by simp)
              simp only [List.getD_cons_succ, List.getD_cons_zero] at g1
              clear oo
              clear hx HA7 HB7
              by_cases hlt : j < 14
              · have hki : (k : Int) ≤ 14 := by omega
                have hex := exchange_two HX.out.swap (by have := rdy_le r2 false false false r2.seek j; omega) (by have := rdy_le t2 false false (false || false) l j; omega)
                obtain ⟨x1, x2⟩ := exchange_round (u := false) (o := false) (l := r2.seek) (l' := l) (k := j) HLr2.out HLo2.out HH2.out.2 HH2.out.1
                rw [x1, x2, ← hkj] at hex
                obtain ⟨K, hK⟩ : ∃ K, K = k + 1 := ⟨_, rfl⟩
                have hwk : IntKind.i64.wrap ((k : Int) + 1) = (K : Int) := by rw [IntWalk.i64_in _ (by omega)]; omega
                have HEx := Lib.hid hex
                have HK := Lib.hid (And.intro hK (And.intro hkj hlt))
                have iA := rdy_ph (t := t2) (u := false) (o := false) (m := (false || false)) (l := l) (k := k) (by omega) HLo2.out
                have iB := rdy_ph (t := r2) (u := false) (o := false) (m := false) (l := r2.seek) (k := k) (by omega) HLr2.out
                rw [← HF.out.1] at iA
                rw [← HF.out.2] at iB
                have HI := Lib.hid (And.intro iA iB)
                clear hex x1 x2 hK hkj hlt hj iA iB HX
                go_wp2_with fail
                with_reducible refine HEx.out.mono ?_
                rintro e w8 ⟨rfl, h8⟩
                have h8 := h8.swap
                have hpA := phase_one h8.oneA
                have hpB := phase_one h8.oneB
                have H8 := Lib.hid h8
                obtain ⟨pa, hpa⟩ : ∃ pa, pa = (rdy t2 false false l (false || false) k).ph := ⟨_, rfl⟩
                obtain ⟨pb, hpb⟩ : ∃ pb, pb = (rdy r2 false false r2.seek false k).ph := ⟨_, rfl⟩
                rw [← hpa] at hpA
                rw [← hpb] at hpB
                have hiA : pa = 4 ↔ N1 ≤ k := by rw [hpa]; exact HI.out.1
                have hiB : pb = 4 ↔ N2 ≤ k := by rw [hpb]; exact HI.out.2
                clear h8 HEx hpa hpb g1
                by_cases hA : N1 ≤ k
                · by_cases hB : N2 ≤ k
                  · have yA : (N1 : Int) ≤ (k : Int) := by omega
                    have yB : (N2 : Int) ≤ (k : Int) := by omega
                    obtain rfl : pa = 4 := hiA.2 hA
                    rw [show ((4 : Nat) : Int) = 4 from rfl] at hpA
                    obtain rfl : pb = 4 := hiB.2 hB
                    rw [show ((4 : Nat) : Int) = 4 from rfl] at hpB
                    have HPA := Lib.hid hpA
                    have HPB := Lib.hid hpB
                    clear hpA hpB hA hB hiA hiB
                    go_wp2_with fail
                    with_reducible refine HPA.out.mono ?_
                    rintro e w' ⟨rfl, rfl⟩
                    go_wp2_with fail
                    with_reducible refine HPB.out.mono ?_
                    rintro e w' ⟨rfl, rfl⟩
                    clear HPA HPB
                    go_wp2_with fail
                    exact ⟨⟨K, k, HK.out.1, by have := HK.out; omega, by rfl, H8.out⟩, by simp only [intOf]; have := HK.out; omega⟩
                  · have yA : (N1 : Int) ≤ (k : Int) := by omega
                    have yB : ¬ (N2 : Int) ≤ (k : Int) := by omega
                    obtain rfl : pa = 4 := hiA.2 hA
                    rw [show ((4 : Nat) : Int) = 4 from rfl] at hpA
                    have nB : ¬ (pb : Int) = 4 := fun e => hB (hiB.1 (by omega))
                    have mB : ((pb : Int) == 4) = false := by simp; omega
                    have HPA := Lib.hid hpA
                    have HPB := Lib.hid hpB
                    clear hpA hpB hA hB hiA hiB
                    go_wp2_with fail
                    with_reducible refine HPA.out.mono ?_
                    rintro e w' ⟨rfl, rfl⟩
                    go_wp2_with fail
                    with_reducible refine HPB.out.mono ?_
                    rintro e w' ⟨rfl, rfl⟩
                    clear HPA HPB
                    go_wp2_with fail
                    exact ⟨⟨K, k, HK.out.1, by have := HK.out; omega, by rfl, H8.out⟩, by simp only [intOf]; have := HK.out; omega⟩
                · by_cases hB : N2 ≤ k
                  · have yA : ¬ (N1 : Int) ≤ (k : Int) := by omega
                    have yB : (N2 : Int) ≤ (k : Int) := by omega
                    have nA : ¬ (pa : Int) = 4 := fun e => hA (hiA.1 (by omega))
                    have mA : ((pa : Int) == 4) = false := by simp; omega
                    obtain rfl : pb = 4 := hiB.2 hB
                    rw [show ((4 : Nat) : Int) = 4 from rfl] at hpB
                    have HPA := Lib.hid hpA
                    have HPB := Lib.hid hpB
                    clear hpA hpB hA hB hiA hiB
                    go_wp2_with fail
                    with_reducible refine HPA.out.mono ?_
                    rintro e w' ⟨rfl, rfl⟩
                    go_wp2_with fail
                    with_reducible refine HPB.out.mono ?_
                    rintro e w' ⟨rfl, rfl⟩
                    clear HPA HPB
                    go_wp2_with fail
                    exact ⟨⟨K, k, HK.out.1, by have := HK.out; omega, by rfl, H8.out⟩, by simp only [intOf]; have := HK.out; omega⟩
                  · have yA : ¬ (N1 : Int) ≤ (k : Int) := by omega
                    have yB : ¬ (N2 : Int) ≤ (k : Int) := by omega
                    have nA : ¬ (pa : Int) = 4 := fun e => hA (hiA.1 (by omega))
                    have mA : ((pa : Int) == 4) = false := by simp; omega
                    have nB : ¬ (pb : Int) = 4 := fun e => hB (hiB.1 (by omega))
                    have mB : ((pb : Int) == 4) = false := by simp; omega
                    have HPA := Lib.hid hpA
                    have HPB := Lib.hid hpB
                    clear hpA hpB hA hB hiA hiB
                    go_wp2_with fail
                    with_reducible refine HPA.out.mono ?_
                    rintro e w' ⟨rfl, rfl⟩
                    go_wp2_with fail
                    with_reducible refine HPB.out.mono ?_
                    rintro e w' ⟨rfl, rfl⟩
                    clear HPA HPB
                    go_wp2_with fail
                    exact ⟨⟨K, k, HK.out.1, by have := HK.out; omega, by rfl, H8.out⟩, by simp only [intOf]; have := HK.out; omega⟩
              · obtain rfl : j = 14 := by omega
                obtain rfl : k = 15 := by omega
                have hvA := provings_one HX.out.oneA
                have hvB := provings_one HX.out.oneB
                rw [rdy_prov (by omega), show ((1 : Nat) : Int) = 1 from rfl] at hvA hvB
                have HVA := Lib.hid hvA
                have HVB := Lib.hid hvB
                clear hlt hj hkj hvA hvB g1
                go_wp2_with fail
                with_reducible refine HVA.out.mono ?_
                rintro e w' ⟨rfl, rfl⟩
                go_wp2_with fail
                with_reducible refine HVB.out.mono ?_
                rintro e w' ⟨rfl, rfl⟩
                go_wp2_with fail
                with_reducible refine (HLv.out _).mono ?_
                rintro e w10 ⟨rfl, hb10⟩
                have HB10 := Lib.hid ((HB2.out.trans (Below.mono HX.out.bel HB2.out.size)).trans (Below.mono hb10 (HB2.out.trans (Below.mono HX.out.bel HB2.out.size)).size))
                clear hb10 HLv HVA HVB
                go_wp2
                go_ret
                exact ⟨rfl, HB10.out⟩
        · go_quiet (fail)
          have A7 := HA0.out.drew nq
          have B7 := HB0.out.drew nq
          have g0' : (w6.drewN nq).cell? ⟨P1, 0, none⟩ = some (.bool false) := g0
          have g1' : (w6.drewN nq).cell? ⟨P1, 1, none⟩ = some (.bool true) := g1
          have c3' : (w6.drewN nq).cell? ⟨p, 3, none⟩ = some (.int .i64 (t2.emer : Int)) := c3
          have d3' : (w6.drewN nq).cell? ⟨q, 3, none⟩ = some (.int .i64 (r2.emer : Int)) := d3
          clear c2 c3 d2 d3 g0 g1
          generalize w6.drewN nq = W7 at A7 B7 g0' g1' c3' d3' ⊢
          have HA7 := Lib.hid A7
          have HB7 := Lib.hid B7
          clear A7 B7 HA0 HB0
          go_wp2_with fail
          go_quiet (fail)
          have A8 := HA7.out.drew nq
          have B8 := HB7.out.drew nq
          clear g0' g1' c3' d3'
          generalize W7.drewN nq = W8 at A8 B8 ⊢
          have HA8 := Lib.hid A8
          have HB8 := Lib.hid B8
          clear A8 B8 HA7 HB7
          go_wp2_with fail
          have hF1 : M1 = t2.dur (false || true) + 1 := by have := HN.out.2.2.1; exact this
          have hF2 : M2 = r2.dur (true || false) + 1 := by exact HN.out.2.2.2
          have HF := Lib.hid (And.intro hF1 hF2)
          clear e1 e2 e3 e4 hF1 hF2
          by_cases hpar : z1 % 2 = 0
          · have z2 : (z1 : Int) % 2 = 0 := by omega
            clear hpar
            go_loopw [16] (fun v16 wr => ∃ k j : Nat, k = j + 1 ∧ j ≤ 14 ∧ v16 = .int .i64 k ∧ Two W2 wr a b (rdy t2 false true l false j) (rdy r2 true false r2.seek (true || false) j)) (fun v16 _ => 16 - (intOf v16).toNat)
            case atStart => exact ⟨1, 0, rfl, by omega, rfl, HA8.out⟩
            case round =>
              obtain ⟨k, j, hkj, hj, rfl, hx⟩ := hrel
              have HX := Lib.hid hx
              have oo := HTz.out wr hx.bel
              have g1 := oo.cell 1 (by simp)
              simp only [List.getD_cons_succ, List.getD_cons_zero] at g1
              clear oo
              clear hx HA8 HB8
              by_cases hlt : j < 14
              · have hki : (k : Int) ≤ 14 := by omega
                have hex := exchange_two HX.out (by have := rdy_le t2 false true false l j; omega) (by have := rdy_le r2 true false (true || false) r2.seek j; omega)
                obtain ⟨x1, x2⟩ := exchange_round (u := false) (o := true) (l := l) (l' := r2.seek) (k := j) HLo2.out HLr2.out HH2.out.1 HH2.out.2
                rw [x1, x2, ← hkj] at hex
                obtain ⟨K, hK⟩ : ∃ K, K = k + 1 := ⟨_, rfl⟩
                have hwk : IntKind.i64.wrap ((k : Int) + 1) = (K : Int) := by rw [IntWalk.i64_in _ (by omega)]; omega
                have HEx := Lib.hid hex
                have HK := Lib.hid (And.intro hK (And.intro hkj hlt))
                have iA := rdy_ph (t := t2) (u := false) (o := true) (m := false) (l := l) (k := k) (by omega) HLo2.out
                have iB := rdy_ph (t := r2) (u := true) (o := false) (m := (true || false)) (l := r2.seek) (k := k) (by omega) HLr2.out
                rw [← HF.out.1] at iA
                rw [← HF.out.2] at iB
                have HI := Lib.hid (And.intro iA iB)
                clear hex x1 x2 hK hkj hlt hj iA iB HX
                go_wp2_with fail
                with_reducible refine HEx.out.mono ?_
                rintro e w8 ⟨rfl, h8⟩
                have h8 := h8
                have hpA := phase_one h8.oneA
                have hpB := phase_one h8.oneB
                have H8 := Lib.hid h8
                obtain ⟨pa, hpa⟩ : ∃ pa, pa = (rdy t2 false true l false k).ph := ⟨_, rfl⟩
                obtain ⟨pb, hpb⟩ : ∃ pb, pb = (rdy r2 true false r2.seek (true || false) k).ph := ⟨_, rfl⟩
                rw [← hpa] at hpA
                rw [← hpb] at hpB
                have hiA : pa = 4 ↔ M1 ≤ k := by rw [hpa]; exact HI.out.1
                have hiB : pb = 4 ↔ M2 ≤ k := by rw [hpb]; exact HI.out.2
                clear h8 HEx hpa hpb g1
                by_cases hA : M1 ≤ k
                · by_cases hB : M2 ≤ k
                  · have yA : (M1 : Int) ≤ (k : Int) := by omega
                    have yB : (M2 : Int) ≤ (k : Int) := by omega
                    obtain rfl : pa = 4 := hiA.2 hA
                    rw [show ((4 : Nat) : Int) = 4 from rfl] at hpA
                    obtain rfl : pb = 4 := hiB.2 hB
                    rw [show ((4 : Nat) : Int) = 4 from rfl] at hpB
                    have HPA := Lib.hid hpA
                    have HPB := Lib.hid hpB
                    clear hpA hpB hA hB hiA hiB
                    go_wp2_with fail
                    with_reducible refine HPA.out.mono ?_
                    rintro e w' ⟨rfl, rfl⟩
                    go_wp2_with fail
                    with_reducible refine HPB.out.mono ?_
                    rintro e w' ⟨rfl, rfl⟩
                    clear HPA HPB
                    go_wp2_with fail
                    exact ⟨⟨K, k, HK.out.1, by have := HK.out; omega, by rfl, H8.out⟩, by simp only [intOf]; have := HK.out; omega⟩
                  · have yA : (M1 : Int) ≤ (k : Int) := by omega
                    have yB : ¬ (M2 : Int) ≤ (k : Int) := by omega
                    obtain rfl : pa = 4 := hiA.2 hA
                    rw [show ((4 : Nat) : Int) = 4 from rfl] at hpA
                    have nB : ¬ (pb : Int) = 4 := fun e => hB (hiB.1 (by omega))
                    have mB : ((pb : Int) == 4) = false := by simp; omega
                    have HPA := Lib.hid hpA
                    have HPB := Lib.hid hpB
                    clear hpA hpB hA hB hiA hiB
                    go_wp2_with fail
                    with_reducible refine HPA.out.mono ?_
                    rintro e w' ⟨rfl, rfl⟩
                    go_wp2_with fail
                    with_reducible refine HPB.out.mono ?_
                    rintro e w' ⟨rfl, rfl⟩
                    clear HPA HPB
                    go_wp2_with fail
                    exact ⟨⟨K, k, HK.out.1, by have := HK.out; omega, by rfl, H8.out⟩, by simp only [intOf]; have := HK.out; omega⟩
                · by_cases hB : M2 ≤ k
                  · have yA : ¬ (M1 : Int) ≤ (k : Int) := by omega
                    have yB : (M2 : Int) ≤ (k : Int) := by omega
                    have nA : ¬ (pa : Int) = 4 := fun e => hA (hiA.1 (by omega))
                    have mA : ((pa : Int) == 4) = false := by simp; omega
                    obtain rfl : pb = 4 := hiB.2 hB
                    rw [show ((4 : Nat) : Int) = 4 from rfl] at hpB
                    have HPA := Lib.hid hpA
                    have HPB := Lib.hid hpB
                    clear hpA hpB hA hB hiA hiB
                    go_wp2_with fail
                    with_reducible refine HPA.out.mono ?_
                    rintro e w' ⟨rfl, rfl⟩
                    go_wp2_with fail
                    with_reducible refine HPB.out.mono ?_
                    rintro e w' ⟨rfl, rfl⟩
                    clear HPA HPB
                    go_wp2_with fail
                    exact ⟨⟨K, k, HK.out.1, by have := HK.out; omega, by rfl, H8.out⟩, by simp only [intOf]; have := HK.out; omega⟩
                  · have yA : ¬ (M1 : Int) ≤ (k : Int) := by omega
                    have yB : ¬ (M2 : Int) ≤ (k : Int) := by omega
                    have nA : ¬ (pa : Int) = 4 := fun e => hA (hiA.1 (by omega))
                    have mA : ((pa : Int) == 4) = false := by simp; omega
                    have nB : ¬ (pb : Int) = 4 := fun e => hB (hiB.1 (by omega))
                    have mB : ((pb : Int) == 4) = false := by simp; omega
                    have HPA := Lib.hid hpA
                    have HPB := Lib.hid hpB
                    clear hpA hpB hA hB hiA hiB
                    go_wp2_with fail
                    with_reducible refine HPA.out.mono ?_
                    rintro e w' ⟨rfl, rfl⟩
                    go_wp2_with fail
                    with_reducible refine HPB.out.mono ?_
                    rintro e w' ⟨rfl, rfl⟩
                    clear HPA HPB
                    go_wp2_with fail
                    exact ⟨⟨K, k, HK.out.1, by have := HK.out; omega, by rfl, H8.out⟩, by simp only [intOf]; have := HK.out; omega⟩
              · obtain rfl : j = 14 := by omega
                obtain rfl : k = 15 := by omega
                have hvA := provings_one HX.out.oneA
                have hvB := provings_one HX.out.oneB
                rw [rdy_prov (by omega), show ((1 : Nat) : Int) = 1 from rfl] at hvA hvB
                have HVA := Lib.hid hvA
                have HVB := Lib.hid hvB
                clear hlt hj hkj hvA hvB g1
                go_wp2_with fail
                with_reducible refine HVA.out.mono ?_
                rintro e w' ⟨rfl, rfl⟩
                go_wp2_with fail
                with_reducible refine HVB.out.mono ?_
                rintro e w' ⟨rfl, rfl⟩
                go_wp2_with fail
                with_reducible refine (HLv.out _).mono ?_
                rintro e w10 ⟨rfl, hb10⟩
                have HB10 := Lib.hid ((HB2.out.trans (Below.mono HX.out.bel HB2.out.size)).trans (Below.mono hb10 (HB2.out.trans (Below.mono HX.out.bel HB2.out.size)).size))
                clear hb10 HLv HVA HVB
                go_wp2
                go_ret
                exact ⟨rfl, HB10.out⟩
          · have z2 : (z1 : Int) % 2 = 1 := by omega
            clear hpar
            go_loopw [16] (fun v16 wr => ∃ k j : Nat, k = j + 1 ∧ j ≤ 14 ∧ v16 = .int .i64 k ∧ Two W2 wr a b (rdy t2 false true l (false || true) j) (rdy r2 true false r2.seek true j)) (fun v16 _ => 16 - (intOf v16).toNat)
            case atStart => exact ⟨1, 0, rfl, by omega, rfl, HB8.out⟩
            case round =>
              obtain ⟨k, j, hkj, hj, rfl, hx⟩ := hrel
              have HX := Lib.hid hx
              have oo := HTz.out wr hx.bel
              have g1 := oo.cell 1 (by simp)
              simp only [List.getD_cons_succ, List.getD_cons_zero] at g1
              clear oo
              clear hx HA8 HB8
              by_cases hlt : j < 14
              · have hki : (k : Int) ≤ 14 := by omega
                have hex := exchange_two HX.out.swap (by have := rdy_le r2 true false true r2.seek j; omega) (by have := rdy_le t2 false true (false || true) l j; omega)
                obtain ⟨x1, x2⟩ := exchange_round (u := true) (o := false) (l := r2.seek) (l' := l) (k := j) HLr2.out HLo2.out HH2.out.2 HH2.out.1
                rw [x1, x2, ← hkj] at hex
                obtain ⟨K, hK⟩ : ∃ K, K = k + 1 := ⟨_, rfl⟩
                have hwk : IntKind.i64.wrap ((k : Int) + 1) = (K : Int) := by rw [IntWalk.i64_in _ (by omega)]; omega
                have HEx := Lib.hid hex
                have HK := Lib.hid (And.intro hK (And.intro hkj hlt))
                have iA := rdy_ph (t := t2) (u := false) (o := true) (m := (false || true)) (l := l) (k := k) (by omega) HLo2.out
                have iB := rdy_ph (t := r2) (u := true) (o := false) (m := true) (l := r2.seek) (k := k) (by omega) HLr2.out
                rw [← HF.out.1] at iA
                rw [← HF.out.2] at iB
                have HI := Lib.hid (And.intro iA iB)
                clear hex x1 x2 hK hkj hlt hj iA iB HX
                go_wp2_with fail
                with_reducible refine HEx.out.mono ?_
                rintro e w8 ⟨rfl, h8⟩
                have h8 := h8.swap
                have hpA := phase_one h8.oneA
                have hpB := phase_one h8.oneB
                have H8 := Lib.hid h8
                obtain ⟨pa, hpa⟩ : ∃ pa, pa = (rdy t2 false true l (false || true) k).ph := ⟨_, rfl⟩
                obtain ⟨pb, hpb⟩ : ∃ pb, pb = (rdy r2 true false r2.seek true k).ph := ⟨_, rfl⟩
                rw [← hpa] at hpA
                rw [← hpb] at hpB
                have hiA : pa = 4 ↔ M1 ≤ k := by rw [hpa]; exact HI.out.1
                have hiB : pb = 4 ↔ M2 ≤ k := by rw [hpb]; exact HI.out.2
                clear h8 HEx hpa hpb g1
                by_cases hA : M1 ≤ k
                · by_cases hB : M2 ≤ k
                  · have yA : (M1 : Int) ≤ (k : Int) := by omega
                    have yB : (M2 : Int) ≤ (k : Int) := by omega
                    obtain rfl : pa = 4 := hiA.2 hA
                    rw [show ((4 : Nat) : Int) = 4 from rfl] at hpA
                    obtain rfl : pb = 4 := hiB.2 hB
                    rw [show ((4 : Nat) : Int) = 4 from rfl] at hpB
                    have HPA := Lib.hid hpA
                    have HPB := Lib.hid hpB
                    clear hpA hpB hA hB hiA hiB
                    go_wp2_with fail
                    with_reducible refine HPA.out.mono ?_
                    rintro e w' ⟨rfl, rfl⟩
                    go_wp2_with fail
                    with_reducible refine HPB.out.mono ?_
                    rintro e w' ⟨rfl, rfl⟩
                    clear HPA HPB
                    go_wp2_with fail
                    exact ⟨⟨K, k, HK.out.1, by have := HK.out; omega, by rfl, H8.out⟩, by simp only [intOf]; have := HK.out; omega⟩
                  · have yA : (M1 : Int) ≤ (k : Int) := by omega
                    have yB : ¬ (M2 : Int) ≤ (k : Int) := by omega
                    obtain rfl : pa = 4 := hiA.2 hA
                    rw [show ((4 : Nat) : Int) = 4 from rfl] at hpA
                    have nB : ¬ (pb : Int) = 4 := fun e => hB (hiB.1 (by omega))
                    have mB : ((pb : Int) == 4) = false := by simp; omega
                    have HPA := Lib.hid hpA
                    have HPB := Lib.hid hpB
                    clear hpA hpB hA hB hiA hiB
                    go_wp2_with fail
                    with_reducible refine HPA.out.mono ?_
                    rintro e w' ⟨rfl, rfl⟩
                    go_wp2_with fail
                    with_reducible refine HPB.out.mono ?_
                    rintro e w' ⟨rfl, rfl⟩
                    clear HPA HPB
                    go_wp2_with fail
                    exact ⟨⟨K, k, HK.out.1, by have := HK.out; omega, by rfl, H8.out⟩, by simp only [intOf]; have := HK.out; omega⟩
                · by_cases hB : M2 ≤ k
                  · have yA : ¬ (M1 : Int) ≤ (k : Int) := by omega
                    have yB : (M2 : Int) ≤ (k : Int) := by omega
                    have nA : ¬ (pa : Int) = 4 := fun e => hA (hiA.1 (by omega))
                    have mA : ((pa : Int) == 4) = false := by simp; omega
                    obtain rfl : pb = 4 := hiB.2 hB
                    rw [show ((4 : Nat) : Int) = 4 from rfl] at hpB
                    have HPA := Lib.hid hpA
                    have HPB := Lib.hid hpB
                    clear hpA hpB hA hB hiA hiB
                    go_wp2_with fail
                    with_reducible refine HPA.out.mono ?_
                    rintro e w' ⟨rfl, rfl⟩
                    go_wp2_with fail
                    with_reducible refine HPB.out.mono ?_
                    rintro e w' ⟨rfl, rfl⟩
                    clear HPA HPB
                    go_wp2_with fail
                    exact ⟨⟨K, k, HK.out.1, by have := HK.out; omega, by rfl, H8.out⟩, by simp only [intOf]; have := HK.out; omega⟩
                  · have yA : ¬ (M1 : Int) ≤ (k : Int) := by omega
                    have yB : ¬ (M2 : Int) ≤ (k : Int) := by omega
                    have nA : ¬ (pa : Int) = 4 := fun e => hA (hiA.1 (by omega))
                    have mA : ((pa : Int) == 4) = false := by simp; omega
                    have nB : ¬ (pb : Int) = 4 := fun e => hB (hiB.1 (by omega))
                    have mB : ((pb : Int) == 4) = false := by simp; omega
                    have HPA := Lib.hid hpA
                    have HPB := Lib.hid hpB
                    clear hpA hpB hA hB hiA hiB
                    go_wp2_with fail
                    with_reducible refine HPA.out.mono ?_
                    rintro e w' ⟨rfl, rfl⟩
                    go_wp2_with fail
                    with_reducible refine HPB.out.mono ?_
                    rintro e w' ⟨rfl, rfl⟩
                    clear HPA HPB
                    go_wp2_with fail
                    exact ⟨⟨K, k, HK.out.1, by have := HK.out; omega, by rfl, H8.out⟩, by simp only [intOf]; have := HK.out; omega⟩
              · obtain rfl : j = 14 := by omega
                obtain rfl : k = 15 := by omega
                have hvA := provings_one HX.out.oneA
                have hvB := provings_one HX.out.oneB
                rw [rdy_prov (by omega), show ((1 : Nat) : Int) = 1 from rfl] at hvA hvB
                have HVA := Lib.hid hvA
                have HVB := Lib.hid hvB
                clear hlt hj hkj hvA hvB g1
                go_wp2_with fail
                with_reducible refine HVA.out.mono ?_
                rintro e w' ⟨rfl, rfl⟩
                go_wp2_with fail
                with_reducible refine HVB.out.mono ?_
                rintro e w' ⟨rfl, rfl⟩
                go_wp2_with fail
                with_reducible refine (HLv.out _).mono ?_
                rintro e w10 ⟨rfl, hb10⟩
                have HB10 := Lib.hid ((HB2.out.trans (Below.mono HX.out.bel HB2.out.size)).trans (Below.mono hb10 (HB2.out.trans (Below.mono HX.out.bel HB2.out.size)).size))
                clear hb10 HLv HVA HVB
                go_wp2
                go_ret
                exact ⟨rfl, HB10.out⟩
        · go_quiet (fail)
          have A7 := HA0.out.drew nq
          have B7 := HB0.out.drew nq
          have g0' : (w6.drewN nq).cell? ⟨P1, 0, none⟩ = some (.bool true) := g0
          have g1' : (w6.drewN nq).cell? ⟨P1, 1, none⟩ = some (.bool false) := g1
          have c3' : (w6.drewN nq).cell? ⟨p, 3, none⟩ = some (.int .i64 (t2.emer : Int)) := c3
          have d3' : (w6.drewN nq).cell? ⟨q, 3, none⟩ = some (.int .i64 (r2.emer : Int)) := d3
          clear c2 c3 d2 d3 g0 g1
          generalize w6.drewN nq = W7 at A7 B7 g0' g1' c3' d3' ⊢
          have HA7 := Lib.hid A7
          have HB7 := Lib.hid B7
          clear A7 B7 HA0 HB0
          go_wp2_with fail
          go_quiet (fail)
          have A8 := HA7.out.drew nq
          have B8 := HB7.out.drew nq
          clear g0' g1' c3' d3'
          generalize W7.drewN nq = W8 at A8 B8 ⊢
          have HA8 := Lib.hid A8
          have HB8 := Lib.hid B8
          clear A8 B8 HA7 HB7
          go_wp2_with fail
          have hF1 : M1 = t2.dur (true || false) + 1 := by have := HN.out.2.2.1; exact this
          have hF2 : M2 = r2.dur (false || true) + 1 := by exact HN.out.2.2.2
          have HF := Lib.hid (And.intro hF1 hF2)
          clear e1 e2 e3 e4 hF1 hF2
          by_cases hpar : z1 % 2 = 0
          · have z2 : (z1 : Int) % 2 = 0 := by omega
            clear hpar
            go_loopw [16] (fun v16 wr => ∃ k j : Nat, k = j + 1 ∧ j ≤ 14 ∧ v16 = .int .i64 k ∧ Two W2 wr a b (rdy t2 true false l true j) (rdy r2 false true r2.seek (false || true) j)) (fun v16 _ => 16 - (intOf v16).toNat)
            case atStart => exact ⟨1, 0, rfl, by omega, rfl, HA8.out⟩
            case round =>
              obtain ⟨k, j, hkj, hj, rfl, hx⟩ := hrel
              have HX := Lib.hid hx
              have oo := HTz.out wr hx.bel
              have g1 := oo.cell 1 (by simp)
              simp only [List.getD_cons_succ, List.getD_cons_zero] at g1
              clear oo
              clear hx HA8 HB8
              by_cases hlt : j < 14
              · have hki : (k : Int) ≤ 14 := by omega
                have hex := exchange_two HX.out (by have := rdy_le t2 true false true l j; omega) (by have := rdy_le r2 false true (false || true) r2.seek j; omega)
                obtain ⟨x1, x2⟩ := exchange_round (u := true) (o := false) (l := l) (l' := r2.seek) (k := j) HLo2.out HLr2.out HH2.out.1 HH2.out.2
                rw [x1, x2, ← hkj] at hex
                obtain ⟨K, hK⟩ : ∃ K, K = k + 1 := ⟨_, rfl⟩
                have hwk : IntKind.i64.wrap ((k : Int) + 1) = (K : Int) := by rw [IntWalk.i64_in _ (by omega)]; omega
                have HEx := Lib.hid hex
                have HK := Lib.hid (And.intro hK (And.intro hkj hlt))
                have iA := rdy_ph (t := t2) (u := true) (o := false) (m := true) (l := l) (k := k) (by omega) HLo2.out
                have iB := rdy_ph (t := r2) (u := false) (o := true) (m := (false || true)) (l := r2.seek) (k := k) (by omega) HLr2.out
                rw [← HF.out.1] at iA
                rw [← HF.out.2] at iB
                have HI := Lib.hid (And.intro iA iB)
                clear hex x1 x2 hK hkj hlt hj iA iB HX
                go_wp2_with fail
                with_reducible refine HEx.out.mono ?_
                rintro e w8 ⟨rfl, h8⟩
                have h8 := h8
                have hpA := phase_one h8.oneA
                have hpB := phase_one h8.oneB
                have H8 := Lib.hid h8
                obtain ⟨pa, hpa⟩ : ∃ pa, pa = (rdy t2 true false l true k).ph := ⟨_, rfl⟩
                obtain ⟨pb, hpb⟩ : ∃ pb, pb = (rdy r2 false true r2.seek (false || true) k).ph := ⟨_, rfl⟩
                rw [← hpa] at hpA
                rw [← hpb] at hpB
                have hiA : pa = 4 ↔ M1 ≤ k := by rw [hpa]; exact HI.out.1
                have hiB : pb = 4 ↔ M2 ≤ k := by rw [hpb]; exact HI.out.2
                clear h8 HEx hpa hpb g1
                by_cases hA : M1 ≤ k
                · by_cases hB : M2 ≤ k
                  · have yA : (M1 : Int) ≤ (k : Int) := by omega
                    have yB : (M2 : Int) ≤ (k : Int) := by omega
                    obtain rfl : pa = 4 := hiA.2 hA
                    rw [show ((4 : Nat) : Int) = 4 from rfl] at hpA
                    obtain rfl : pb = 4 := hiB.2 hB
                    rw [show ((4 : Nat) : Int) = 4 from rfl] at hpB
                    have HPA := Lib.hid hpA
                    have HPB := Lib.hid hpB
                    clear hpA hpB hA hB hiA hiB
                    go_wp2_with fail
                    with_reducible refine HPA.out.mono ?_
                    rintro e w' ⟨rfl, rfl⟩
                    go_wp2_with fail
                    with_reducible refine HPB.out.mono ?_
                    rintro e w' ⟨rfl, rfl⟩
                    clear HPA HPB
                    go_wp2_with fail
                    exact ⟨⟨K, k, HK.out.1, by have := HK.out; omega, by rfl, H8.out⟩, by simp only [intOf]; have := HK.out; omega⟩
                  · have yA : (M1 : Int) ≤ (k : Int) := by omega
                    have yB : ¬ (M2 : Int) ≤ (k : Int) := by omega
                    obtain rfl : pa = 4 := hiA.2 hA
                    rw [show ((4 : Nat) : Int) = 4 from rfl] at hpA
                    have nB : ¬ (pb : Int) = 4 := fun e => hB (hiB.1 (by omega))
                    have mB : ((pb : Int) == 4) = false := by simp; omega
                    have HPA := Lib.hid hpA
                    have HPB := Lib.hid hpB
                    clear hpA hpB hA hB hiA hiB
                    go_wp2_with fail
                    with_reducible refine HPA.out.mono ?_
                    rintro e w' ⟨rfl, rfl⟩
                    go_wp2_with fail
                    with_reducible refine HPB.out.mono ?_
                    rintro e w' ⟨rfl, rfl⟩
                    clear HPA HPB
                    go_wp2_with fail
                    exact ⟨⟨K, k, HK.out.1, by have := HK.out; omega, by rfl, H8.out⟩, by simp only [intOf]; have := HK.out; omega⟩
                · by_cases hB : M2 ≤ k
                  · have yA : ¬ (M1 : Int) ≤ (k : Int) := by omega
                    have yB : (M2 : Int) ≤ (k : Int) := by omega
                    have nA : ¬ (pa : Int) = 4 := fun e => hA (hiA.1 (by omega))
                    have mA : ((pa : Int) == 4) = false := by simp; omega
                    obtain rfl : pb = 4 := hiB.2 hB
                    rw [show ((4 : Nat) : Int) = 4 from rfl] at hpB
                    have HPA := Lib.hid hpA
                    have HPB := Lib.hid hpB
                    clear hpA hpB hA hB hiA hiB
                    go_wp2_with fail
                    with_reducible refine HPA.out.mono ?_
                    rintro e w' ⟨rfl, rfl⟩
                    go_wp2_with fail
                    with_reducible refine HPB.out.mono ?_
                    rintro e w' ⟨rfl, rfl⟩
                    clear HPA HPB
                    go_wp2_with fail
                    exact ⟨⟨K, k, HK.out.1, by have := HK.out; omega, by rfl, H8.out⟩, by simp only [intOf]; have := HK.out; omega⟩
                  · have yA : ¬ (M1 : Int) ≤ (k : Int) := by omega
                    have yB : ¬ (M2 : Int) ≤ (k : Int) := by omega
                    have nA : ¬ (pa : Int) = 4 := fun e => hA (hiA.1 (by omega))
                    have mA : ((pa : Int) == 4) = false := by simp; omega
                    have nB : ¬ (pb : Int) = 4 := fun e => hB (hiB.1 (by omega))
                    have mB : ((pb : Int) == 4) = false := by simp; omega
                    have HPA := Lib.hid hpA
                    have HPB := Lib.hid hpB
                    clear hpA hpB hA hB hiA hiB
                    go_wp2_with fail
                    with_reducible refine HPA.out.mono ?_
                    rintro e w' ⟨rfl, rfl⟩
                    go_wp2_with fail
                    with_reducible refine HPB.out.mono ?_
                    rintro e w' ⟨rfl, rfl⟩
                    clear HPA HPB
                    go_wp2_with fail
                    exact ⟨⟨K, k, HK.out.1, by have := HK.out; omega, by rfl, H8.out⟩, by simp only [intOf]; have := HK.out; omega⟩
              · obtain rfl : j = 14 := by omega
                obtain rfl : k = 15 := by omega
                have hvA := provings_one HX.out.oneA
                have hvB := provings_one HX.out.oneB
                rw [rdy_prov (by omega), show ((1 : Nat) : Int) = 1 from rfl] at hvA hvB
                have HVA := Lib.hid hvA
                have HVB := Lib.hid hvB
                clear hlt hj hkj hvA hvB g1
                go_wp2_with fail
                with_reducible refine HVA.out.mono ?_
                rintro e w' ⟨rfl, rfl⟩
                go_wp2_with fail
                with_reducible refine HVB.out.mono ?_
                rintro e w' ⟨rfl, rfl⟩
                go_wp2_with fail
                with_reducible refine (HLv.out _).mono ?_
                rintro e w10 ⟨rfl, hb10⟩
                have HB10 := Lib.hid ((HB2.out.trans (Below.mono HX.out.bel HB2.out.size)).trans (Below.mono hb10 (HB2.out.trans (Below.mono HX.out.bel HB2.out.size)).size))
                clear hb10 HLv HVA HVB
                go_wp2
                go_ret
                exact ⟨rfl, HB10.out⟩
          · have z2 : (z1 : Int) % 2 = 1 := by omega
            clear hpar
            go_loopw [16] (fun v16 wr => ∃ k j : Nat, k = j + 1 ∧ j ≤ 14 ∧ v16 = .int .i64 k ∧ Two W2 wr a b (rdy t2 true false l (true || false) j) (rdy r2 false true r2.seek false j)) (fun v16 _ => 16 - (intOf v16).toNat)
            case atStart => exact ⟨1, 0, rfl, by omega, rfl, HB8.out⟩
            case round =>
              obtain ⟨k, j, hkj, hj, rfl, hx⟩ := hrel
              have HX := Lib.hid hx
              have oo := HTz.out wr hx.bel
              have g1 := oo.cell 1 (by simp)
              simp only [List.getD_cons_succ, List.getD_cons_zero] at g1
              clear oo
              clear hx HA8 HB8
              by_cases hlt : j < 14
              · have hki : (k : Int) ≤ 14 := by omega
                have hex := exchange_two HX.out.swap (by have := rdy_le r2 false true false r2.seek j; omega) (by have := rdy_le t2 true false (true || false) l j; omega)
                obtain ⟨x1, x2⟩ := exchange_round (u := false) (o := true) (l := r2.seek) (l' := l) (k := j) HLr2.out HLo2.out HH2.out.2 HH2.out.1
                rw [x1, x2, ← hkj] at hex
                obtain ⟨K, hK⟩ : ∃ K, K = k + 1 := ⟨_, rfl⟩
                have hwk : IntKind.i64.wrap ((k : Int) + 1) = (K : Int) := by rw [IntWalk.i64_in _ (by omega)]; omega
                have HEx := Lib.hid hex
                have HK := Lib.hid (And.intro hK (And.intro hkj hlt))
                have iA := rdy_ph (t := t2) (u := true) (o := false) (m := (true || false)) (l := l) (k := k) (by omega) HLo2.out
                have iB := rdy_ph (t := r2) (u := false) (o := true) (m := false) (l := r2.seek) (k := k) (by omega) HLr2.out
                rw [← HF.out.1] at iA
                rw [← HF.out.2] at iB
                have HI := Lib.hid (And.intro iA iB)
                clear hex x1 x2 hK hkj hlt hj iA iB HX
                go_wp2_with fail
                with_reducible refine HEx.out.mono ?_
                rintro e w8 ⟨rfl, h8⟩
                have h8 := h8.swap
                have hpA := phase_one h8.oneA
                have hpB := phase_one h8.oneB
                have H8 := Lib.hid h8
                obtain ⟨pa, hpa⟩ : ∃ pa, pa = (rdy t2 true false l (true || false) k).ph := ⟨_, rfl⟩
                obtain ⟨pb, hpb⟩ : ∃ pb, pb = (rdy r2 false true r2.seek false k).ph := ⟨_, rfl⟩
                rw [← hpa] at hpA
                rw [← hpb] at hpB
                have hiA : pa = 4 ↔ M1 ≤ k := by rw [hpa]; exact HI.out.1
                have hiB : pb = 4 ↔ M2 ≤ k := by rw [hpb]; exact HI.out.2
                clear h8 HEx hpa hpb g1
                by_cases hA : M1 ≤ k
                · by_cases hB : M2 ≤ k
                  · have yA : (M1 : Int) ≤ (k : Int) := by omega
                    have yB : (M2 : Int) ≤ (k : Int) := by omega
                    obtain rfl : pa = 4 := hiA.2 hA
                    rw [show ((4 : Nat) : Int) = 4 from rfl] at hpA
                    obtain rfl : pb = 4 := hiB.2 hB
                    rw [show ((4 : Nat) : Int) = 4 from rfl] at hpB
                    have HPA := Lib.hid hpA
                    have HPB := Lib.hid hpB
                    clear hpA hpB hA hB hiA hiB
                    go_wp2_with fail
                    with_reducible refine HPA.out.mono ?_
                    rintro e w' ⟨rfl, rfl⟩
                    go_wp2_with fail
                    with_reducible refine HPB.out.mono ?_
                    rintro e w' ⟨rfl, rfl⟩
                    clear HPA HPB
                    go_wp2_with fail
                    exact ⟨⟨K, k, HK.out.1, by have := HK.out; omega, by rfl, H8.out⟩, by simp only [intOf]; have := HK.out; omega⟩
                  · have yA : (M1 : Int) ≤ (k : Int) := by omega
                    have yB : ¬ (M2 : Int) ≤ (k : Int) := by omega
                    obtain rfl : pa = 4 := hiA.2 hA
                    rw [show ((4 : Nat) : Int) = 4 from rfl] at hpA
                    have nB : ¬ (pb : Int) = 4 := fun e => hB (hiB.1 (by omega))
                    have mB : ((pb : Int) == 4) = false := by simp; omega
                    have HPA := Lib.hid hpA
                    have HPB := Lib.hid hpB
                    clear hpA hpB hA hB hiA hiB
                    go_wp2_with fail
                    with_reducible refine HPA.out.mono ?_
                    rintro e w' ⟨rfl, rfl⟩
                    go_wp2_with fail
                    with_reducible refine HPB.out.mono ?_
                    rintro e w' ⟨rfl, rfl⟩
                    clear HPA HPB
                    go_wp2_with fail
                    exact ⟨⟨K, k, HK.out.1, by have := HK.out; omega, by rfl, H8.out⟩, by simp only [intOf]; have := HK.out; omega⟩
                · by_cases hB : M2 ≤ k
                  · have yA : ¬ (M1 : Int) ≤ (k : Int) := by omega
                    have yB : (M2 : Int) ≤ (k : Int) := by omega
                    have nA : ¬ (pa : Int) = 4 := fun e => hA (hiA.1 (by omega))
                    have mA : ((pa : Int) == 4) = false := by simp; omega
                    obtain rfl : pb = 4 := hiB.2 hB
                    rw [show ((4 : Nat) : Int) = 4 from rfl] at hpB
                    have HPA := Lib.hid hpA
                    have HPB := Lib.hid hpB
                    clear hpA hpB hA hB hiA hiB
                    go_wp2_with fail
                    with_reducible refine HPA.out.mono ?_
                    rintro e w' ⟨rfl, rfl⟩
                    go_wp2_with fail
                    with_reducible refine HPB.out.mono ?_
                    rintro e w' ⟨rfl, rfl⟩
                    clear HPA HPB
                    go_wp2_with fail
                    exact ⟨⟨K, k, HK.out.1, by have := HK.out; omega, by rfl, H8.out⟩, by simp only [intOf]; have := HK.out; omega⟩
                  · have yA : ¬ (M1 : Int) ≤ (k : Int) := by omega
                    have yB : ¬ (M2 : Int) ≤ (k : Int) := by omega
                    have nA : ¬ (pa : Int) = 4 := fun e => hA (hiA.1 (by omega))
                    have mA : ((pa : Int) == 4) = false := by simp; omega
                    have nB : ¬ (pb : Int) = 4 := fun e => hB (hiB.1 (by omega))
                    have mB : ((pb : Int) == 4) = false := by simp; omega
                    have HPA := Lib.hid hpA
                    have HPB := Lib.hid hpB
                    clear hpA hpB hA hB hiA hiB
                    go_wp2_with fail
                    with_reducible refine HPA.out.mono ?_
                    rintro e w' ⟨rfl, rfl⟩
                    go_wp2_with fail
                    with_reducible refine HPB.out.mono ?_
                    rintro e w' ⟨rfl, rfl⟩
                    clear HPA HPB
                    go_wp2_with fail
                    exact ⟨⟨K, k, HK.out.1, by have := HK.out; omega, by rfl, H8.out⟩, by simp only [intOf]; have := HK.out; omega⟩
              · obtain rfl : j = 14 := by omega
                obtain rfl : k = 15 := by omega
                have hvA := provings_one HX.out.oneA
                have hvB := provings_one HX.out.oneB
                rw [rdy_prov (by omega), show ((1 : Nat) : Int) = 1 from rfl] at hvA hvB
                have HVA := Lib.hid hvA
                have HVB := Lib.hid hvB
                clear hlt hj hkj hvA hvB g1
                go_wp2_with fail
                with_reducible refine HVA.out.mono ?_
                rintro e w' ⟨rfl, rfl⟩
                go_wp2_with fail
                with_reducible refine HVB.out.mono ?_
                rintro e w' ⟨rfl, rfl⟩
                go_wp2_with fail
                with_reducible refine (HLv.out _).mono ?_
                rintro e w10 ⟨rfl, hb10⟩
                have HB10 := Lib.hid ((HB2.out.trans (Below.mono HX.out.bel HB2.out.size)).trans (Below.mono hb10 (HB2.out.trans (Below.mono HX.out.bel HB2.out.size)).size))
                clear hb10 HLv HVA HVB
                go_wp2
                go_ret
                exact ⟨rfl, HB10.out⟩
        · go_quiet (fail)
          have A7 := HA0.out.drew nq
          have B7 := HB0.out.drew nq
          have g0' : (w6.drewN nq).cell? ⟨P1, 0, none⟩ = some (.bool true) := g0
          have g1' : (w6.drewN nq).cell? ⟨P1, 1, none⟩ = some (.bool true) := g1
          have c3' : (w6.drewN nq).cell? ⟨p, 3, none⟩ = some (.int .i64 (t2.emer : Int)) := c3
          have d3' : (w6.drewN nq).cell? ⟨q, 3, none⟩ = some (.int .i64 (r2.emer : Int)) := d3
          clear c2 c3 d2 d3 g0 g1
          generalize w6.drewN nq = W7 at A7 B7 g0' g1' c3' d3' ⊢
          have HA7 := Lib.hid A7
          have HB7 := Lib.hid B7
          clear A7 B7 HA0 HB0
          go_wp2_with fail
          go_quiet (fail)
          have A8 := HA7.out.drew nq
          have B8 := HB7.out.drew nq
          clear g0' g1' c3' d3'
          generalize W7.drewN nq = W8 at A8 B8 ⊢
          have HA8 := Lib.hid A8
          have HB8 := Lib.hid B8
          clear A8 B8 HA7 HB7
          go_wp2_with fail
          have hF1 : M1 = t2.dur (true || true) + 1 := by have := HN.out.2.2.1; exact this
          have hF2 : M2 = r2.dur (true || true) + 1 := by exact HN.out.2.2.2
          have HF := Lib.hid (And.intro hF1 hF2)
          clear e1 e2 e3 e4 hF1 hF2
          by_cases hpar : z1 % 2 = 0
          · have z2 : (z1 : Int) % 2 = 0 := by omega
            clear hpar
            go_loopw [16] (fun v16 wr => ∃ k j : Nat, k = j + 1 ∧ j ≤ 14 ∧ v16 = .int .i64 k ∧ Two W2 wr a b (rdy t2 true true l true j) (rdy r2 true true r2.seek (true || true) j)) (fun v16 _ => 16 - (intOf v16).toNat)
            case atStart => exact ⟨1, 0, rfl, by omega, rfl, HA8.out⟩
            case round =>
              obtain ⟨k, j, hkj, hj, rfl, hx⟩ := hrel
              have HX := Lib.hid hx
              have oo := HTz.out wr hx.bel
              have g1 := oo.cell 1 (by simp)
              simp only [List.getD_cons_succ, List.getD_cons_zero] at g1
              clear oo
              clear hx HA8 HB8
              by_cases hlt : j < 14
              · have hki : (k : Int) ≤ 14 := by omega
                have hex := exchange_two HX.out (by have := rdy_le t2 true true true l j; omega) (by have := rdy_le r2 true true (true || true) r2.seek j; omega)
                obtain ⟨x1, x2⟩ := exchange_round (u := true) (o := true) (l := l) (l' := r2.seek) (k := j) HLo2.out HLr2.out HH2.out.1 HH2.out.2
                rw [x1, x2, ← hkj] at hex
                obtain ⟨K, hK⟩ : ∃ K, K = k + 1 := ⟨_, rfl⟩
                have hwk : IntKind.i64.wrap ((k : Int) + 1) = (K : Int) := by rw [IntWalk.i64_in _ (by omega)]; omega
                have HEx := Lib.hid hex
                have HK := Lib.hid (And.intro hK (And.intro hkj hlt))
                have iA := rdy_ph (t := t2) (u := true) (o := true) (m := true) (l := l) (k := k) (by omega) HLo2.out
                have iB := rdy_ph (t := r2) (u := true) (o := true) (m := (true || true)) (l := r2.seek) (k := k) (by omega) HLr2.out
                rw [← HF.out.1] at iA
                rw [← HF.out.2] at iB
                have HI := Lib.hid (And.intro iA iB)
                clear hex x1 x2 hK hkj hlt hj iA iB HX
                go_wp2_with fail
                with_reducible refine HEx.out.mono ?_
                rintro e w8 ⟨rfl, h8⟩
                have h8 := h8
                have hpA := phase_one h8.oneA
                have hpB := phase_one h8.oneB
                have H8 := Lib.hid h8
                obtain ⟨pa, hpa⟩ : ∃ pa, pa = (rdy t2 true true l true k).ph := ⟨_, rfl⟩
                obtain ⟨pb, hpb⟩ : ∃ pb, pb = (rdy r2 true true r2.seek (true || true) k).ph := ⟨_, rfl⟩
                rw [← hpa] at hpA
                rw [← hpb] at hpB
                have hiA : pa = 4 ↔ M1 ≤ k := by rw [hpa]; exact HI.out.1
                have hiB : pb = 4 ↔ M2 ≤ k := by rw [hpb]; exact HI.out.2
                clear h8 HEx hpa hpb g1
                by_cases hA : M1 ≤ k
                · by_cases hB : M2 ≤ k
                  · have yA : (M1 : Int) ≤ (k : Int) := by omega
                    have yB : (M2 : Int) ≤ (k : Int) := by omega
                    obtain rfl : pa = 4 := hiA.2 hA
                    rw [show ((4 : Nat) : Int) = 4 from rfl] at hpA
                    obtain rfl : pb = 4 := hiB.2 hB
                    rw [show ((4 : Nat) : Int) = 4 from rfl] at hpB
                    have HPA := Lib.hid hpA
                    have HPB := Lib.hid hpB
                    clear hpA hpB hA hB hiA hiB
                    go_wp2_with fail
                    with_reducible refine HPA.out.mono ?_
                    rintro e w' ⟨rfl, rfl⟩
                    go_wp2_with fail
                    with_reducible refine HPB.out.mono ?_
                    rintro e w' ⟨rfl, rfl⟩
                    clear HPA HPB
                    go_wp2_with fail
                    exact ⟨⟨K, k, HK.out.1, by have := HK.out; omega, by rfl, H8.out⟩, by simp only [intOf]; have := HK.out; omega⟩
                  · have yA : (M1 : Int) ≤ (k : Int) := by omega
                    have yB : ¬ (M2 : Int) ≤ (k : Int) := by omega
                    obtain rfl : pa = 4 := hiA.2 hA
                    rw [show ((4 : Nat) : Int) = 4 from rfl] at hpA
                    have nB : ¬ (pb : Int) = 4 := fun e => hB (hiB.1 (by omega))
                    have mB : ((pb : Int) == 4) = false := by simp; omega
                    have HPA := Lib.hid hpA
                    have HPB := Lib.hid hpB
                    clear hpA hpB hA hB hiA hiB
                    go_wp2_with fail
                    with_reducible refine HPA.out.mono ?_
                    rintro e w' ⟨rfl, rfl⟩
                    go_wp2_with fail
                    with_reducible refine HPB.out.mono ?_
                    rintro e w' ⟨rfl, rfl⟩
                    clear HPA HPB
                    go_wp2_with fail
                    exact ⟨⟨K, k, HK.out.1, by have := HK.out; omega, by rfl, H8.out⟩, by simp only [intOf]; have := HK.out; omega⟩
                · by_cases hB : M2 ≤ k
                  · have yA : ¬ (M1 : Int) ≤ (k : Int) := by omega
                    have yB : (M2 : Int) ≤ (k : Int) := by omega
                    have nA : ¬ (pa : Int) = 4 := fun e => hA (hiA.1 (by omega))
                    have mA : ((pa : Int) == 4) = false := by simp; omega
                    obtain rfl : pb = 4 := hiB.2 hB
                    rw [show ((4 : Nat) : Int) = 4 from rfl] at hpB
                    have HPA := Lib.hid hpA
                    have HPB := Lib.hid hpB
                    clear hpA hpB hA hB hiA hiB
                    go_wp2_with fail
                    with_reducible refine HPA.out.mono ?_
                    rintro e w' ⟨rfl, rfl⟩
                    go_wp2_with fail
                    with_reducible refine HPB.out.mono ?_
                    rintro e w' ⟨rfl, rfl⟩
                    clear HPA HPB
                    go_wp2_with fail
                    exact ⟨⟨K, k, HK.out.1, by have := HK.out; omega, by rfl, H8.out⟩, by simp only [intOf]; have := HK.out; omega⟩
                  · have yA : ¬ (M1 : Int) ≤ (k : Int) := by omega
                    have yB : ¬ (M2 : Int) ≤ (k : Int) := by omega
                    have nA : ¬ (pa : Int) = 4 := fun e => hA (hiA.1 (by omega))
                    have mA : ((pa : Int) == 4) = false := by simp; omega
                    have nB : ¬ (pb : Int) = 4 := fun e => hB (hiB.1 (by omega))
                    have mB : ((pb : Int) == 4) = false := by simp; omega
                    have HPA := Lib.hid hpA
                    have HPB := Lib.hid hpB
                    clear hpA hpB hA hB hiA hiB
                    go_wp2_with fail
                    with_reducible refine HPA.out.mono ?_
                    rintro e w' ⟨rfl, rfl⟩
                    go_wp2_with fail
                    with_reducible refine HPB.out.mono ?_
                    rintro e w' ⟨rfl, rfl⟩
                    clear HPA HPB
                    go_wp2_with fail
                    exact ⟨⟨K, k, HK.out.1, by have := HK.out; omega, by rfl, H8.out⟩, by simp only [intOf]; have := HK.out; omega⟩
              · obtain rfl : j = 14 := by omega
                obtain rfl : k = 15 := by omega
                have hvA := provings_one HX.out.oneA
                have hvB := provings_one HX.out.oneB
                rw [rdy_prov (by omega), show ((1 : Nat) : Int) = 1 from rfl] at hvA hvB
                have HVA := Lib.hid hvA
                have HVB := Lib.hid hvB
                clear hlt hj hkj hvA hvB g1
                go_wp2_with fail
                with_reducible refine HVA.out.mono ?_
                rintro e w' ⟨rfl, rfl⟩
                go_wp2_with fail
                with_reducible refine HVB.out.mono ?_
                rintro e w' ⟨rfl, rfl⟩
                go_wp2_with fail
                with_reducible refine (HLv.out _).mono ?_
                rintro e w10 ⟨rfl, hb10⟩
                have HB10 := Lib.hid ((HB2.out.trans (Below.mono HX.out.bel HB2.out.size)).trans (Below.mono hb10 (HB2.out.trans (Below.mono HX.out.bel HB2.out.size)).size))
                clear hb10 HLv HVA HVB
                go_wp2
                go_ret
                exact ⟨rfl, HB10.out⟩
          · have z2 : (z1 : Int) % 2 = 1 := by omega
            clear hpar
            go_loopw [16] (fun v16 wr => ∃ k j : Nat, k = j + 1 ∧ j ≤ 14 ∧ v16 = .int .i64 k ∧ Two W2 wr a b (rdy t2 true true l (true || true) j) (rdy r2 true true r2.seek true j)) (fun v16 _ => 16 - (intOf v16).toNat)
            case atStart => exact ⟨1, 0, rfl, by omega, rfl, HB8.out⟩
            case round =>
              obtain ⟨k, j, hkj, hj, rfl, hx⟩ := hrel
              have HX := Lib.hid hx
              have oo := HTz.out wr hx.bel
              have g1 := oo.cell 1 (by simp)
              simp only [List.getD_cons_succ, List.getD_cons_zero] at g1
              clear oo
              clear hx HA8 HB8
              by_cases hlt : j < 14
              · have hki : (k : Int) ≤ 14 := by omega
                have hex := exchange_two HX.out.swap (by have := rdy_le r2 true true true r2.seek j; omega) (by have := rdy_le t2 true true (true || true) l j; omega)
                obtain ⟨x1, x2⟩ := exchange_round (u := true) (o := true) (l := r2.seek) (l' := l) (k := j) HLr2.out HLo2.out HH2.out.2 HH2.out.1
                rw [x1, x2, ← hkj] at hex
                obtain ⟨K, hK⟩ : ∃ K, K = k + 1 := ⟨_, rfl⟩
                have hwk : IntKind.i64.wrap ((k : Int) + 1) = (K : Int) := by rw [IntWalk.i64_in _ (by omega)]; omega
                have HEx := Lib.hid hex
                have HK := Lib.hid (And.intro hK (And.intro hkj hlt))
                have iA := rdy_ph (t := t2) (u := true) (o := true) (m := (true || true)) (l := l) (k := k) (by omega) HLo2.out
                have iB := rdy_ph (t := r2) (u := true) (o := true) (m := true) (l := r2.seek) (k := k) (by omega) HLr2.out
                rw [← HF.out.1] at iA
                rw [← HF.out.2] at iB
                have HI := Lib.hid (And.intro iA iB)
                clear hex x1 x2 hK hkj hlt hj iA iB HX
                go_wp2_with fail
                with_reducible refine HEx.out.mono ?_
                rintro e w8 ⟨rfl, h8⟩
                have h8 := h8.swap
                have hpA := phase_one h8.oneA
                have hpB := phase_one h8.oneB
                have H8 := Lib.hid h8
                obtain ⟨pa, hpa⟩ : ∃ pa, pa = (rdy t2 true true l (true || true) k).ph := ⟨_, rfl⟩
                obtain ⟨pb, hpb⟩ : ∃ pb, pb = (rdy r2 true true r2.seek true k).ph := ⟨_, rfl⟩
                rw [← hpa] at hpA
                rw [← hpb] at hpB
                have hiA : pa = 4 ↔ M1 ≤ k := by rw [hpa]; exact HI.out.1
                have hiB : pb = 4 ↔ M2 ≤ k := by rw [hpb]; exact HI.out.2
                clear h8 HEx hpa hpb g1
                by_cases hA : M1 ≤ k
                · by_cases hB : M2 ≤ k
                  · have yA : (M1 : Int) ≤ (k : Int) := by omega
                    have yB : (M2 : Int) ≤ (k : Int) := by omega
                    obtain rfl : pa = 4 := hiA.2 hA
                    rw [show ((4 : Nat) : Int) = 4 from rfl] at hpA
                    obtain rfl : pb = 4 := hiB.2 hB
                    rw [show ((4 : Nat) : Int) = 4 from rfl] at hpB
                    have HPA := Lib.hid hpA
                    have HPB := Lib.hid hpB
                    clear hpA hpB hA hB hiA hiB
                    go_wp2_with fail
                    with_reducible refine HPA.out.mono ?_
                    rintro e w' ⟨rfl, rfl⟩
                    go_wp2_with fail
                    with_reducible refine HPB.out.mono ?_
                    rintro e w' ⟨rfl, rfl⟩
                    clear HPA HPB
                    go_wp2_with fail
                    exact ⟨⟨K, k, HK.out.1, by have := HK.out; omega, by rfl, H8.out⟩, by simp only [intOf]; have := HK.out; omega⟩
                  · have yA : (M1 : Int) ≤ (k : Int) := by omega
                    have yB : ¬ (M2 : Int) ≤ (k : Int) := by omega
                    obtain rfl : pa = 4 := hiA.2 hA
                    rw [show ((4 : Nat) : Int) = 4 from rfl] at hpA
                    have nB : ¬ (pb : Int) = 4 := fun e => hB (hiB.1 (by omega))
                    have mB : ((pb : Int) == 4) = false := by simp; omega
                    have HPA := Lib.hid hpA
                    have HPB := Lib.hid hpB
                    clear hpA hpB hA hB hiA hiB
                    go_wp2_with fail
                    with_reducible refine HPA.out.mono ?_
                    rintro e w' ⟨rfl, rfl⟩
                    go_wp2_with fail
                    with_reducible refine HPB.out.mono ?_
                    rintro e w' ⟨rfl, rfl⟩
                    clear HPA HPB
                    go_wp2_with fail
                    exact ⟨⟨K, k, HK.out.1, by have := HK.out; omega, by rfl, H8.out⟩, by simp only [intOf]; have := HK.out; omega⟩
                · by_cases hB : M2 ≤ k
                  · have yA : ¬ (M1 : Int) ≤ (k : Int) := by omega
                    have yB : (M2 : Int) ≤ (k : Int) := by omega
                    have nA : ¬ (pa : Int) = 4 := fun e => hA (hiA.1 (by omega))
                    have mA : ((pa : Int) == 4) = false := by simp; omega
                    obtain rfl : pb = 4 := hiB.2 hB
                    rw [show ((4 : Nat) : Int) = 4 from rfl] at hpB
                    have HPA := Lib.hid hpA
                    have HPB := Lib.hid hpB
                    clear hpA hpB hA hB hiA hiB
                    go_wp2_with fail
                    with_reducible refine HPA.out.mono ?_
                    rintro e w' ⟨rfl, rfl⟩
                    go_wp2_with fail
                    with_reducible refine HPB.out.mono ?_
                    rintro e w' ⟨rfl, rfl⟩
                    clear HPA HPB
                    go_wp2_with fail
                    exact ⟨⟨K, k, HK.out.1, by have := HK.out; omega, by rfl, H8.out⟩, by simp only [intOf]; have := HK.out; omega⟩
                  · have yA : ¬ (M1 : Int) ≤ (k : Int) := by omega
                    have yB : ¬ (M2 : Int) ≤ (k : Int) := by omega
                    have nA : ¬ (pa : Int) = 4 := fun e => hA (hiA.1 (by omega))
                    have mA : ((pa : Int) == 4) = false := by simp; omega
                    have nB : ¬ (pb : Int) = 4 := fun e => hB (hiB.1 (by omega))
                    have mB : ((pb : Int) == 4) = false := by simp; omega
                    have HPA := Lib.hid hpA
                    have HPB := Lib.hid hpB
                    clear hpA hpB hA hB hiA hiB
                    go_wp2_with fail
                    with_reducible refine HPA.out.mono ?_
                    rintro e w' ⟨rfl, rfl⟩
                    go_wp2_with fail
                    with_reducible refine HPB.out.mono ?_
                    rintro e w' ⟨rfl, rfl⟩
                    clear HPA HPB
                    go_wp2_with fail
                    exact ⟨⟨K, k, HK.out.1, by have := HK.out; omega, by rfl, H8.out⟩, by simp only [intOf]; have := HK.out; omega⟩
              · obtain rfl : j = 14 := by omega
                obtain rfl : k = 15 := by omega
                have hvA := provings_one HX.out.oneA
                have hvB := provings_one HX.out.oneB
                rw [rdy_prov (by omega), show ((1 : Nat) : Int) = 1 from rfl] at hvA hvB
                have HVA := Lib.hid hvA
                have HVB := Lib.hid hvB
                clear hlt hj hkj hvA hvB g1
                go_wp2_with fail
                with_reducible refine HVA.out.mono ?_
                rintro e w' ⟨rfl, rfl⟩
                go_wp2_with fail
                with_reducible refine HVB.out.mono ?_
                rintro e w' ⟨rfl, rfl⟩
                go_wp2_with fail
                with_reducible refine (HLv.out _).mono ?_
                rintro e w10 ⟨rfl, hb10⟩
                have HB10 := Lib.hid ((HB2.out.trans (Below.mono HX.out.bel HB2.out.size)).trans (Below.mono hb10 (HB2.out.trans (Below.mono HX.out.bel HB2.out.size)).size))
                clear hb10 HLv HVA HVB
                go_wp2
                go_ret
                exact ⟨rfl, HB10.out⟩
end Go.Proofs.Ytgfiikbecapodaa
