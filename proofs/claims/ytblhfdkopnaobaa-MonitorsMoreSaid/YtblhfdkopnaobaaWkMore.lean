/- Statements of layer 8: MonitorsMore. -/
import Derived.Test.YtblhfdkopnaobaaMoLives
import Derived.Test.YtblhfdkopnaobaaMoFirstM
import Derived.Test.YtblhfdkopnaobaaMoMore
import Derived.Deep.RegionHeld3
namespace Go.Proofs.Ytblhfdkopnaobaa
open Go.RowKit

set_option maxHeartbeats 4000000 in
set_option maxRecDepth 100000 in
theorem more_any (k a b c d : Nat) (s : ByteArray) (t : ByteArray) (w : World) (hk : k ≤ 255) (ha : a ≤ 255) (hb : b ≤ 255) (hc : c ≤ 255) (hd : d ≤ 255) :
    Calls Try.prog 5 #[.agg #[.int .u8 (k : Int), .int .u8 (a : Int), .int .u8 (b : Int), .int .u8 (c : Int), .int .u8 (d : Int)], .string s, .string t] w fun e w' => e = .returned (.bool true) ∧ Below w.heap.size w w' := by
  obtain ⟨W, hW⟩ : ∃ X, X = w.alloc (.cells #[.int .u8 (k : Int), .int .u8 (a : Int), .int .u8 (b : Int), .int .u8 (c : Int), .int .u8 (d : Int)] 23) := ⟨_, rfl⟩
  have hbW : Below w.heap.size w W := by rw [hW]; exact below_alloc _ _
  have oW : Own W w.heap.size 23 [.int .u8 (k : Int), .int .u8 (a : Int), .int .u8 (b : Int), .int .u8 (c : Int), .int .u8 (d : Int)] := by rw [hW]; exact own_new w _ _ _ rfl
  have HW := Lib.hid hW
  have HBW := Lib.hid hbW
  have HOW := Lib.hid oW
  have hlw := oW.lt
  have HLv := Lib.hid mlives_any
  clear hW hbW oW
  obtain ⟨n, hn⟩ : ∃ n, n = s.size := ⟨_, rfl⟩
  by_cases h300 : 300 < n
  · have h3 : (300 : Int) < (s.size : Int) := by omega
    clear hlw h300 hn
    go_enter Try.func5, Try.ntmps5
    go_wp2_with fail
    rw [← HW.out]
    with_reducible refine (HLv.out W).mono ?_
    rintro e w1 ⟨rfl, hb1⟩
    have HB1 := Lib.hid (HBW.out.trans (Below.mono hb1 HBW.out.size))
    clear hb1 HLv
    go_wp2
    go_ret
    exact ⟨rfl, HB1.out⟩
  have h3 : ¬ (300 : Int) < (s.size : Int) := by omega
  have hn3 : n ≤ 300 := by omega
  have hnl := unitsOf_length s
  obtain ⟨l, hl⟩ : ∃ l, l = unitsOf s := ⟨_, rfl⟩
  have HU := Lib.hid (fun W' => units_any s W' (by omega))
  rw [← hl] at hnl HU
  rw [← hn] at hnl HU
  rw [← hn] at h3
  have hsz : (s.size : Int) = (n : Int) := by omega
  have HN := Lib.hid hnl
  have hOf := fun W' => mof_any k a b c d W' hk ha hb hc hd
  have hmk := moOf_kd k a b c d
  unfold OfBy at hOf
  obtain ⟨kd, hkd⟩ : ∃ x, x = kdOf k := ⟨_, rfl⟩
  rw [← hkd] at hOf hmk
  obtain ⟨m, hm⟩ : ∃ x, x = moOf k a b c d := ⟨_, rfl⟩
  rw [← hm] at hOf hmk
  unfold mval at hOf
  have mo := fun g W' => meth_over kd g W'
  have mc := fun g W' => meth_count kd g W'
  have ml := fun g W' => meth_level kd g W'
  have na := fun g W' => ahead_count kd g W'
  have ec := enter_count kd
  have hM := fun g => meth_any kd g
  obtain ⟨T, hT⟩ : ∃ T, T = kd.ptr := ⟨_, rfl⟩
  obtain ⟨K, hK⟩ : ∃ T, T = kd.fCount := ⟨_, rfl⟩
  obtain ⟨R, hR⟩ : ∃ T, T = kd.fReset := ⟨_, rfl⟩
  rw [← hT] at hOf
  rw [← hK] at ec
  simp only [← hT, ← hK, ← hR] at mo mc ml na hM
  have hmf : ∀ (fn : Fn) (first cap : Array Value) (w : World), (Instr.makeFunc fn first cap).run Try.prog w = .ok (.func fn first cap) w := fun _ _ _ _ => rfl
  have HMo := Lib.hid mo
  have HMc := Lib.hid mc
  have HMl := Lib.hid ml
  have HNa := Lib.hid na
  have HOf := Lib.hid hOf
  have HMk := Lib.hid hmk
  have HM := Lib.hid hM
  have HA := Lib.hid hn3
  have c0 := HOW.out.cell 0 (by simp)
  have c1 := HOW.out.cell 1 (by simp)
  have c2 := HOW.out.cell 2 (by simp)
  have c3 := HOW.out.cell 3 (by simp)
  have c4 := HOW.out.cell 4 (by simp)
  simp only [List.getD_cons_succ, List.getD_cons_zero] at c0 c1 c2 c3 c4
  clear mo mc ml na hOf hmk hM hn3 hT hK hR hm hkd hl hnl hn h300 hk ha hb hc hd
  go_enter Try.func5, Try.ntmps5
  go_wp2_with fail
  rw [← HW.out]
  with_reducible refine (HOf.out W).mono ?_
  rintro e w1 ⟨ga, rfl, hg1, hm1, hb1⟩
  have HB1 := Lib.hid (HBW.out.trans (Below.mono hb1 HBW.out.size))
  have HM1 := Lib.hid hm1
  have HG1 := Lib.hid (show w.heap.size ≤ ga by have := HBW.out.size; omega)
  have HO1 := Lib.hid (HOW.out.below hb1 HOW.out.lt)
  clear hm1 hg1 hb1 c0 c1 c2 c3 c4
  have c0 := HO1.out.cell 0 (by simp)
  have c1 := HO1.out.cell 1 (by simp)
  have c2 := HO1.out.cell 2 (by simp)
  have c3 := HO1.out.cell 3 (by simp)
  have c4 := HO1.out.cell 4 (by simp)
  simp only [List.getD_cons_succ, List.getD_cons_zero] at c0 c1 c2 c3 c4
  go_wp2_with fail
  with_reducible refine (HOf.out w1).mono ?_
  rintro e w2 ⟨gb, rfl, hg2, hm2, hb2⟩
  have HB2 := Lib.hid (HB1.out.trans (Below.mono hb2 HB1.out.size))
  have HM2 := Lib.hid (HM1.out.below hb2)
  have HN2 := Lib.hid hm2
  have HG2 := Lib.hid (show ga < gb by have := HM1.out.lt; omega)
  clear hm2 hg2 hb2 c0 c1 c2 c3 c4 HOf HB1 HM1 HO1
  go_wp2_with fail
  with_reducible refine (HU.out w2).mono ?_
  rintro e w3 ⟨sa, sc, rfl, hrow, hfar, _, hb3⟩
  have HB3 := Lib.hid (HB2.out.trans (Below.mono hb3 HB2.out.size))
  have HM3 := Lib.hid (HM2.out.below hb3)
  have HN3 := Lib.hid (HN2.out.below hb3)
  have HR := Lib.hid hrow
  have HF := Lib.hid (fun x (h : sa = some x) => (by have := hfar x h; have := HM2.out.lt; have := HN2.out.lt; omega : ¬ (x.block = ga ∨ x.block = gb)))
  clear hb3 hrow hfar HB2 HM2 HN2 HU
  have moa := HMo.out ga
  have mca := HMc.out ga
  have mla := HMl.out ga
  have naa := HNa.out ga
  have mob := HMo.out gb
  have mcb := HMc.out gb
  have mlb := HMl.out gb
  have nab := HNa.out gb
  have HMa := Lib.hid (HM.out ga)
  have HMb := Lib.hid (HM.out gb)
  have HNab := Lib.hid (show ga ≠ gb by have := HG2.out; omega)
  clear HMo HMc HMl HNa HM
  go_wp2_with fail
  go_loopw [12] (fun i wr => ∃ (j : Nat) (x y : Mo), j ≤ n ∧ i = .int .i64 j ∧ x.kd = kd ∧ MoAt wr ga x ∧ MoAt wr gb y ∧ Rel x y ∧ Exc (fun k => k = ga ∨ k = gb) w3 wr) (fun i _ => n - (intOf i).toNat)
  case atStart => exact ⟨0, m, m, Nat.zero_le _, rfl, HMk.out, HM3.out, HN3.out, Rel.refl _, Exc.refl _ _⟩
  case round =>
    obtain ⟨j, x, y, hj, rfl, hxk, hxa, hyb, hrl, hxj⟩ := hrel
    by_cases hlt : j < n
    · have hji : (j : Int) < (n : Int) := by omega
      have j0 : (0 : Int) ≤ (j : Int) := by omega
      have hr := HR.out.exc hxj HF.out
      obtain ⟨sb, so, rfl, hcells⟩ := hr.at (by omega)
      have hcj := hcells j hlt
      obtain ⟨ok, hok⟩ : ∃ ok, ok = l.getD j true := ⟨_, rfl⟩
      rw [← hok] at hcj
      have HCn := Lib.hid (HMa.out.count _ wr.drew hxk (hxa.below (below_draw wr 1)) ok)
      have hns := HF.out ⟨sb, so, none⟩ rfl
      have HNs := Lib.hid (show ¬ sb = ga from fun h => hns (.inl h))
      have HNt := Lib.hid (show ¬ sb = gb from fun h => hns (.inr h))
      have HCd := Lib.hid (show wr.drew.cell? ⟨sb, so + j, none⟩ = some (.bool ok) from hcj)
      have HX := Lib.hid hxj
      have HYb := Lib.hid hyb
      have HRl := Lib.hid hrl
      have HXf := Lib.hid hxa.fit
      have HXk := Lib.hid hxk
      obtain ⟨J, hJ⟩ : ∃ J, J = j + 1 := ⟨_, rfl⟩
      have hw1 : IntKind.i64.wrap ((j : Int) + 1) = (J : Int) := by have := HA.out; rw [IntWalk.i64_in _ (by omega)]; omega
      have HJ := Lib.hid (And.intro hJ hlt)
      clear hxa hyb hrl hxk hxj hcells hJ hlt hj hok hr hns
      go_wp2_with fail
      go_region_held3 (fun W => W.cell? ⟨sb, so + j, none⟩ = some (.bool ok)) (first | assumption | go_keep)
        (first
          | ((with_reducible refine HCn.out.mono ?_); rintro e w4 ⟨rfl, hm4, hx4⟩; have k2 := hx4.cell HCd.out HNs.out; have HM4 := Lib.hid hm4; have HX4 := Lib.hid hx4; clear hm4 hx4)
          | fail)
      have hx4 := HX4.out
      have HY4 := Lib.hid ((HYb.out.below (below_draw wr 1)).exc hx4 (fun h => HNab.out h.symm))
      have HX5 := Lib.hid ((HX.out.drawN 1).trans hx4 (fun _ _ h => .inl h))
      have c4 : w4.cell? ⟨sb, so + j, none⟩ = some (.bool ok) := k2
      have HC4 := Lib.hid c4
      have HYk := Lib.hid (show y.kd = kd by rw [HRl.out.kd, HXk.out])
      have HCb := Lib.hid (fun ok => HMb.out.count y w4.drew HYk.out (HY4.out.below (below_draw w4 1)) ok)
      clear hx4 k2 hcj HCn HX4 HX HCd
      -- what the second monitor counts
      obtain ⟨M, hM⟩ : ∃ M, M = t.size := ⟨_, rfl⟩
      have hMs : (t.size : Int) = (M : Int) := by rw [hM]
      have HMs := Lib.hid hM
      cases ok
      · clear hMs
        go_wp2_with fail
        refine wp_region_held_drew (S := fun W => W.cell? ⟨sb, so + j, none⟩ = some (.bool false)) (by kernel_rfl) ?_ (fun hHeld => ?_)
        · try dsimp only
          first | assumption | go_keep
        refine wpAnyH_take (i := 0) (oi := { dst := some 58, op := Op.move (Operand.tmp 9), type := 26, pos := "law.go:173", after := #[], guard := none }) (v := ?_) rfl (by kernel_rfl) (by kernel_rfl) (by kernel_rfl) (fun _ _ _ h => h) (Or.inl ⟨by rfl, ?_⟩) (by assumption) ?_
        rotate_left 1
        · intro w hSw
          (try dsimp only at hSw)
          go_simp
          try with_reducible rfl
        try simp only [Act.put, List.setIfInBounds_toArray, List.set_cons_zero, List.set_cons_succ]
        refine wpAnyH_take (i := 1) (oi := { dst := some 59, op := Op.move (Operand.tmp 11), type := 31, pos := "law.go:173", after := #[], guard := none }) (v := ?_) rfl (by kernel_rfl) (by kernel_rfl) (by kernel_rfl) (fun _ _ _ h => h) (Or.inl ⟨by rfl, ?_⟩) (by assumption) ?_
        rotate_left 1
        · intro w hSw
          (try dsimp only at hSw)
          go_simp
          try with_reducible rfl
        try simp only [Act.put, List.setIfInBounds_toArray, List.set_cons_zero, List.set_cons_succ]
        refine wpAnyH_take (i := 2) (oi := { dst := some 60, op := Op.move (Operand.tmp 12), type := 3, pos := "law.go:173", after := #[], guard := none }) (v := ?_) rfl (by kernel_rfl) (by kernel_rfl) (by kernel_rfl) (fun _ _ _ h => h) (Or.inl ⟨by rfl, ?_⟩) (by assumption) ?_
        rotate_left 1
        · intro w hSw
          (try dsimp only at hSw)
          go_simp
          try with_reducible rfl
        try simp only [Act.put, List.setIfInBounds_toArray, List.set_cons_zero, List.set_cons_succ]
        refine wpAnyH_take (i := 3) (oi := { dst := some 61, op := Op.indexAddr 31 (Operand.tmp 59) (Operand.tmp 60), type := 0, pos := "law.go:173", after := #[{ on := 1, ground := Ground.data }, { on := 2, ground := Ground.data }], guard := none }) (v := ?_) rfl (by kernel_rfl) (by kernel_rfl) (by kernel_rfl) (fun _ _ _ h => h) (Or.inl ⟨by rfl, ?_⟩) (by assumption) ?_
        rotate_left 1
        · intro w hSw
          (try dsimp only at hSw)
          go_simp
          try with_reducible rfl
        try simp only [Act.put, List.setIfInBounds_toArray, List.set_cons_zero, List.set_cons_succ]
        refine wpAnyH_take (i := 4) (oi := { dst := some 62, op := Op.load 4 (Operand.tmp 61), type := 4, pos := "law.go:173", after := #[{ on := 3, ground := Ground.data }], guard := none }) (v := ?_) rfl (by kernel_rfl) (by kernel_rfl) (by kernel_rfl) (fun _ _ _ h => h) (Or.inl ⟨by rfl, ?_⟩) (by assumption) ?_
        rotate_left 1
        · intro w hSw
          (try dsimp only at hSw)
          go_simp
          try with_reducible rfl
        try simp only [Act.put, List.setIfInBounds_toArray, List.set_cons_zero, List.set_cons_succ]
        refine wpAnyH_take (i := 5) (oi := { dst := some 63, op := Op.move (Operand.tmp 62), type := 4, pos := "law.go:173", after := #[{ on := 4, ground := Ground.data }], guard := none }) (v := ?_) rfl (by kernel_rfl) (by kernel_rfl) (by kernel_rfl) (fun _ _ _ h => h) (Or.inl ⟨by rfl, ?_⟩) (by assumption) ?_
        rotate_left 1
        · intro w hSw
          (try dsimp only at hSw)
          go_simp
          try with_reducible rfl
        try simp only [Act.put, List.setIfInBounds_toArray, List.set_cons_zero, List.set_cons_succ]
        refine wpAnyH_take (i := 6) (oi := { dst := some 64, op := Op.move (Operand.tmp 2), type := 9, pos := "law.go:173", after := #[{ on := 5, ground := Ground.guard }], guard := some (5, true) }) (v := undef) rfl (by kernel_rfl) (by kernel_rfl) (by kernel_rfl) (fun _ _ _ h => h) (Or.inr ⟨by rfl, rfl⟩) (by assumption) ?_
        try simp only [Act.put, List.setIfInBounds_toArray, List.set_cons_zero, List.set_cons_succ]
        refine wpAnyH_take (i := 7) (oi := { dst := some 65, op := Op.call { callee := Callee.builtin Builtin.len, args := #[Operand.tmp 64], argTypes := #[9] }, type := 3, pos := "law.go:173", after := #[{ on := 6, ground := Ground.data }, { on := 5, ground := Ground.guard }], guard := some (5, true) }) (v := undef) rfl (by kernel_rfl) (by kernel_rfl) (by kernel_rfl) (fun _ _ _ h => h) (Or.inr ⟨by rfl, rfl⟩) (by assumption) ?_
        try simp only [Act.put, List.setIfInBounds_toArray, List.set_cons_zero, List.set_cons_succ]
        refine wpAnyH_take (i := 8) (oi := { dst := some 66, op := Op.binOp BinOp.eql 3 (Operand.tmp 65) (Operand.const (Value.int IntKind.i64 0)) 3, type := 4, pos := "law.go:173", after := #[{ on := 7, ground := Ground.data }, { on := 5, ground := Ground.guard }], guard := some (5, true) }) (v := undef) rfl (by kernel_rfl) (by kernel_rfl) (by kernel_rfl) (fun _ _ _ h => h) (Or.inr ⟨by rfl, rfl⟩) (by assumption) ?_
        try simp only [Act.put, List.setIfInBounds_toArray, List.set_cons_zero, List.set_cons_succ]
        refine wpAnyH_take (i := 9) (oi := { dst := some 67, op := Op.move (Operand.tmp 66), type := 4, pos := "law.go:173", after := #[{ on := 8, ground := Ground.data }, { on := 5, ground := Ground.chain }, { on := 5, ground := Ground.guard }], guard := some (5, true) }) (v := undef) rfl (by kernel_rfl) (by kernel_rfl) (by kernel_rfl) (fun _ _ _ h => h) (Or.inr ⟨by rfl, rfl⟩) (by assumption) ?_
        try simp only [Act.put, List.setIfInBounds_toArray, List.set_cons_zero, List.set_cons_succ]
        refine wpAnyH_take (i := 10) (oi := { dst := some 68, op := Op.move (Operand.tmp 2), type := 9, pos := "law.go:173", after := #[{ on := 9, ground := Ground.guard }], guard := some (9, false) }) (v := undef) rfl (by kernel_rfl) (by kernel_rfl) (by kernel_rfl) (fun _ _ _ h => h) (Or.inr ⟨by rfl, rfl⟩) (by assumption) ?_
        try simp only [Act.put, List.setIfInBounds_toArray, List.set_cons_zero, List.set_cons_succ]
        refine wpAnyH_take (i := 11) (oi := { dst := some 69, op := Op.move (Operand.tmp 12), type := 3, pos := "law.go:173", after := #[{ on := 9, ground := Ground.guard }], guard := some (9, false) }) (v := undef) rfl (by kernel_rfl) (by kernel_rfl) (by kernel_rfl) (fun _ _ _ h => h) (Or.inr ⟨by rfl, rfl⟩) (by assumption) ?_
        try simp only [Act.put, List.setIfInBounds_toArray, List.set_cons_zero, List.set_cons_succ]
        refine wpAnyH_take (i := 12) (oi := { dst := some 70, op := Op.move (Operand.tmp 2), type := 9, pos := "law.go:173", after := #[{ on := 9, ground := Ground.guard }], guard := some (9, false) }) (v := undef) rfl (by kernel_rfl) (by kernel_rfl) (by kernel_rfl) (fun _ _ _ h => h) (Or.inr ⟨by rfl, rfl⟩) (by assumption) ?_
        try simp only [Act.put, List.setIfInBounds_toArray, List.set_cons_zero, List.set_cons_succ]
        refine wpAnyH_take (i := 13) (oi := { dst := some 71, op := Op.call { callee := Callee.builtin Builtin.len, args := #[Operand.tmp 70], argTypes := #[9] }, type := 3, pos := "law.go:173", after := #[{ on := 12, ground := Ground.data }, { on := 9, ground := Ground.guard }], guard := some (9, false) }) (v := undef) rfl (by kernel_rfl) (by kernel_rfl) (by kernel_rfl) (fun _ _ _ h => h) (Or.inr ⟨by rfl, rfl⟩) (by assumption) ?_
        try simp only [Act.put, List.setIfInBounds_toArray, List.set_cons_zero, List.set_cons_succ]
        refine wpAnyH_take (i := 14) (oi := { dst := some 72, op := Op.binOp BinOp.rem 3 (Operand.tmp 69) (Operand.tmp 71) 3, type := 3, pos := "law.go:173", after := #[{ on := 11, ground := Ground.data }, { on := 13, ground := Ground.data }, { on := 9, ground := Ground.guard }], guard := some (9, false) }) (v := undef) rfl (by kernel_rfl) (by kernel_rfl) (by kernel_rfl) (fun _ _ _ h => h) (Or.inr ⟨by rfl, rfl⟩) (by assumption) ?_
        try simp only [Act.put, List.setIfInBounds_toArray, List.set_cons_zero, List.set_cons_succ]
        refine wpAnyH_take (i := 15) (oi := { dst := some 73, op := Op.index 9 (Operand.tmp 68) (Operand.tmp 72), type := 5, pos := "law.go:173", after := #[{ on := 10, ground := Ground.data }, { on := 14, ground := Ground.data }, { on := 9, ground := Ground.guard }], guard := some (9, false) }) (v := undef) rfl (by kernel_rfl) (by kernel_rfl) (by kernel_rfl) (fun _ _ _ h => h) (Or.inr ⟨by rfl, rfl⟩) (by assumption) ?_
        try simp only [Act.put, List.setIfInBounds_toArray, List.set_cons_zero, List.set_cons_succ]
        refine wpAnyH_take (i := 16) (oi := { dst := some 74, op := Op.binOp BinOp.neq 5 (Operand.tmp 73) (Operand.const (Value.int IntKind.u8 120)) 5, type := 4, pos := "law.go:173", after := #[{ on := 15, ground := Ground.data }, { on := 9, ground := Ground.guard }], guard := some (9, false) }) (v := undef) rfl (by kernel_rfl) (by kernel_rfl) (by kernel_rfl) (fun _ _ _ h => h) (Or.inr ⟨by rfl, rfl⟩) (by assumption) ?_
        try simp only [Act.put, List.setIfInBounds_toArray, List.set_cons_zero, List.set_cons_succ]
        refine wpAnyH_take (i := 17) (oi := { dst := some 75, op := Op.pick (Operand.tmp 67) (Operand.const (Value.bool true)) (Operand.tmp 74), type := 4, pos := "law.go:173", after := #[{ on := 9, ground := Ground.data }, { on := 16, ground := Ground.data }, { on := 5, ground := Ground.guard }], guard := some (5, true) }) (v := undef) rfl (by kernel_rfl) (by kernel_rfl) (by kernel_rfl) (fun _ _ _ h => h) (Or.inr ⟨by rfl, rfl⟩) (by assumption) ?_
        try simp only [Act.put, List.setIfInBounds_toArray, List.set_cons_zero, List.set_cons_succ]
        refine wpAnyH_take (i := 18) (oi := { dst := some 76, op := Op.pick (Operand.tmp 63) (Operand.tmp 75) (Operand.const (Value.bool false)), type := 4, pos := "law.go:173", after := #[{ on := 5, ground := Ground.data }, { on := 17, ground := Ground.data }], guard := none }) (v := ?_) rfl (by kernel_rfl) (by kernel_rfl) (by kernel_rfl) (fun _ _ _ h => h) (Or.inl ⟨by rfl, ?_⟩) (by assumption) ?_
        rotate_left 1
        · intro w hSw
          (try dsimp only at hSw)
          go_simp
          try with_reducible rfl
        try simp only [Act.put, List.setIfInBounds_toArray, List.set_cons_zero, List.set_cons_succ]
        refine wpAnyH_take (i := 19) (oi := { dst := some 77, op := Op.makeFunc (Fn.method "Count") #[Operand.tmp 58] #[], type := 33, pos := "law.go:173", after := #[{ on := 0, ground := Ground.data }], guard := none }) (v := ?_) rfl (by kernel_rfl) (by kernel_rfl) (by kernel_rfl) (fun _ _ _ h => h) (Or.inl ⟨by rfl, ?_⟩) (by assumption) ?_
        rotate_left 1
        · intro w hSw
          (try dsimp only at hSw)
          go_simp
          try with_reducible rfl
        try simp only [Act.put, List.setIfInBounds_toArray, List.set_cons_zero, List.set_cons_succ]
        refine wpAnyH_take (i := 20) (oi := { dst := some 78, op := Op.nilCheck (Operand.tmp 77), type := 33, pos := "law.go:173", after := #[{ on := 19, ground := Ground.data }], guard := none }) (v := ?_) rfl (by kernel_rfl) (by kernel_rfl) (by kernel_rfl) (fun _ _ _ h => h) (Or.inl ⟨by rfl, ?_⟩) (by assumption) ?_
        rotate_left 1
        · intro w hSw
          (try dsimp only at hSw)
          go_simp
          try with_reducible rfl
        try simp only [Act.put, List.setIfInBounds_toArray, List.set_cons_zero, List.set_cons_succ]
        refine wpAnyH_take (i := 21) (oi := { dst := some 79, op := Op.move (Operand.tmp 58), type := 26, pos := "law.go:173", after := #[{ on := 0, ground := Ground.data }, { on := 19, ground := Ground.data }, { on := 20, ground := Ground.data }], guard := none }) (v := ?_) rfl (by kernel_rfl) (by kernel_rfl) (by kernel_rfl) (fun _ _ _ h => h) (Or.inl ⟨by rfl, ?_⟩) (by assumption) ?_
        rotate_left 1
        · intro w hSw
          (try dsimp only at hSw)
          go_simp
          try with_reducible rfl
        try simp only [Act.put, List.setIfInBounds_toArray, List.set_cons_zero, List.set_cons_succ]
        refine wpAnyH_ready (rs := [22]) (by kernel_rfl) (by simp) ?_
        refine AllReadyH.cons (o := { dst := some 80, op := Op.call { callee := Callee.invoke (Operand.tmp 79) "Count", args := #[Operand.tmp 76], argTypes := #[4] }, type := 0, pos := "law.go:173", after := #[{ on := 21, ground := Ground.data }, { on := 18, ground := Ground.data }, { on := 9, ground := Ground.chain }], guard := none }) rfl (fun K hK => ?_) AllReadyH.nil
        go_simp
        with_reducible refine (HCb.out false).mono ?_
        rintro e w7 ⟨rfl, hm7, hx7⟩
        have k5 := hx7.cell (show w4.drew.cell? ⟨sb, so + j, none⟩ = some (.bool false) from HC4.out) HNt.out
        have HM7 := Lib.hid hm7
        have HX7 := Lib.hid hx7
        clear hm7 hx7
        go_wp2_with fail
        refine hK.out _ _ ?_ (fun hHeld => ?_)
        · try dsimp only
          first | assumption | go_keep
        clear hK K
        try simp only [Act.put, List.setIfInBounds_toArray, List.set_cons_zero, List.set_cons_succ]
        refine wpAnyH_done (by kernel_rfl) ?_ _
        have hx7 := HX7.out
        have hxa := (HM4.out.below (below_draw w4 1)).exc hx7 HNab.out
        have hrl := HRl.out.step HXf.out.lvl HY4.out.fit.lvl (p := false) (q := false) (fun h => h)
        obtain ⟨x2, hx2⟩ : ∃ x2, x2 = x.count false := ⟨_, rfl⟩
        obtain ⟨y2, hy2⟩ : ∃ y2, y2 = y.count false := ⟨_, rfl⟩
        have hya := HM7.out
        rw [← hx2] at hxa hrl
        rw [← hy2] at hrl hya
        have hk2 : x2.kd = kd := by rw [hx2, Mo.count_kd]; exact HXk.out
        have hla := fun W (hb : Below w7.heap.size w7 W) => level_any ga x2 W (hxa.below hb)
        have hlb := level_any gb y2 w7 hya
        have hoa := over_any ga x2 w7 hxa
        have hob := fun W (hb : Below w7.heap.size w7 W) => over_any gb y2 W (hya.below hb)
        have hle := hrl.le
        have hor : x2.over = true → y2.over = true := by
          intro h
          have h1 := of_decide_eq_true h
          have h2 := hya.fit.lvl
          have h3 := hrl.lim
          exact decide_eq_true (by omega)
        obtain ⟨p, hp⟩ : ∃ p, p = x2.over := ⟨_, rfl⟩
        rw [← hp] at hoa hor
        obtain ⟨X, hX⟩ : ∃ X, X = x2.lvl := ⟨_, rfl⟩
        obtain ⟨Y, hY⟩ : ∃ Y, Y = y2.lvl := ⟨_, rfl⟩
        simp only [← hX] at hla
        rw [← hY] at hlb
        have hYX : ¬ (Y : Int) < (X : Int) := by omega
        have HLa := Lib.hid hla
        have HLb := Lib.hid hlb
        have HOa := Lib.hid hoa
        have HOb := Lib.hid hob
        have HOr := Lib.hid hor
        have HRes := Lib.hid (And.intro hk2 (And.intro hxa (And.intro hya (And.intro hrl ((HX5.out.drawN 1).trans hx7 (fun _ _ h => .inr h))))))
        clear hx7 hxa hrl hya hx2 hy2 hk2 hla hlb hoa hob hle hor hp hX hY k5 HM7 HX7
        go_wp2_with fail
        with_reducible refine HLb.out.mono ?_
        rintro e w7' ⟨rfl, rfl⟩
        go_wp2_with fail
        with_reducible refine (HLa.out _ (Below.refl _ _)).mono ?_
        rintro e w8 ⟨rfl, rfl⟩
        go_wp2_with fail
        with_reducible refine HOa.out.mono ?_
        rintro e w9 ⟨rfl, q9, rfl⟩
        have HB9 := Lib.hid (below_draw w8 q9)
        have hob9 := HOb.out _ HB9.out
        have HX9 := Lib.hid (HRes.out.2.2.2.2.drawN q9)
        have HRa := Lib.hid (HRes.out.2.1.below HB9.out)
        have HRb := Lib.hid (HRes.out.2.2.1.below HB9.out)
        generalize w8.drewN q9 = w9 at hob9 HX9 HRa HRb HB9 ⊢
        cases p
        · go_wp2_with fail
          exact ⟨⟨J, x2, y2, by have := HJ.out; omega, by rfl, HRes.out.1, HRa.out, HRb.out, HRes.out.2.2.2.1, HX9.out⟩, by simp only [intOf]; have := HJ.out; omega⟩
        · rw [HOr.out rfl] at hob9
          have HOb9 := Lib.hid hob9
          clear hob9
          go_wp2_with fail
          with_reducible refine HOb9.out.mono ?_
          rintro e w10 ⟨rfl, q10, rfl⟩
          have hb10 := below_draw w9 q10
          have HX10 := Lib.hid (HX9.out.drawN q10)
          have HRa2 := Lib.hid (HRa.out.below hb10)
          have HRb2 := Lib.hid (HRb.out.below hb10)
          clear hb10 HOb9 HX9 HRa HRb HB9
          generalize w9.drewN q10 = w10 at HX10 HRa2 HRb2 ⊢
          go_wp2_with fail
          exact ⟨⟨J, x2, y2, by have := HJ.out; omega, by rfl, HRes.out.1, HRa2.out, HRb2.out, HRes.out.2.2.2.1, HX10.out⟩, by simp only [intOf]; have := HJ.out; omega⟩
      · by_cases hM0 : M = 0
        · have hM0b : ((M : Int) == 0) = true := by simp [hM0]
          have HM0 := Lib.hid hM0
          clear hM0
          go_wp2_with fail
          refine wp_region_held_drew (S := fun W => W.cell? ⟨sb, so + j, none⟩ = some (.bool true)) (by kernel_rfl) ?_ (fun hHeld => ?_)
          · try dsimp only
            first | assumption | go_keep
          refine wpAnyH_take (i := 0) (oi := { dst := some 58, op := Op.move (Operand.tmp 9), type := 26, pos := "law.go:173", after := #[], guard := none }) (v := ?_) rfl (by kernel_rfl) (by kernel_rfl) (by kernel_rfl) (fun _ _ _ h => h) (Or.inl ⟨by rfl, ?_⟩) (by assumption) ?_
          rotate_left 1
          · intro w hSw
            (try dsimp only at hSw)
            go_simp
            try with_reducible rfl
          try simp only [Act.put, List.setIfInBounds_toArray, List.set_cons_zero, List.set_cons_succ]
          refine wpAnyH_take (i := 1) (oi := { dst := some 59, op := Op.move (Operand.tmp 11), type := 31, pos := "law.go:173", after := #[], guard := none }) (v := ?_) rfl (by kernel_rfl) (by kernel_rfl) (by kernel_rfl) (fun _ _ _ h => h) (Or.inl ⟨by rfl, ?_⟩) (by assumption) ?_
          rotate_left 1
          · intro w hSw
            (try dsimp only at hSw)
            go_simp
            try with_reducible rfl
          try simp only [Act.put, List.setIfInBounds_toArray, List.set_cons_zero, List.set_cons_succ]
          refine wpAnyH_take (i := 2) (oi := { dst := some 60, op := Op.move (Operand.tmp 12), type := 3, pos := "law.go:173", after := #[], guard := none }) (v := ?_) rfl (by kernel_rfl) (by kernel_rfl) (by kernel_rfl) (fun _ _ _ h => h) (Or.inl ⟨by rfl, ?_⟩) (by assumption) ?_
          rotate_left 1
          · intro w hSw
            (try dsimp only at hSw)
            go_simp
            try with_reducible rfl
          try simp only [Act.put, List.setIfInBounds_toArray, List.set_cons_zero, List.set_cons_succ]
          refine wpAnyH_take (i := 3) (oi := { dst := some 61, op := Op.indexAddr 31 (Operand.tmp 59) (Operand.tmp 60), type := 0, pos := "law.go:173", after := #[{ on := 1, ground := Ground.data }, { on := 2, ground := Ground.data }], guard := none }) (v := ?_) rfl (by kernel_rfl) (by kernel_rfl) (by kernel_rfl) (fun _ _ _ h => h) (Or.inl ⟨by rfl, ?_⟩) (by assumption) ?_
          rotate_left 1
          · intro w hSw
            (try dsimp only at hSw)
            go_simp
            try with_reducible rfl
          try simp only [Act.put, List.setIfInBounds_toArray, List.set_cons_zero, List.set_cons_succ]
          refine wpAnyH_take (i := 4) (oi := { dst := some 62, op := Op.load 4 (Operand.tmp 61), type := 4, pos := "law.go:173", after := #[{ on := 3, ground := Ground.data }], guard := none }) (v := ?_) rfl (by kernel_rfl) (by kernel_rfl) (by kernel_rfl) (fun _ _ _ h => h) (Or.inl ⟨by rfl, ?_⟩) (by assumption) ?_
          rotate_left 1
          · intro w hSw
            (try dsimp only at hSw)
            go_simp
            try with_reducible rfl
          try simp only [Act.put, List.setIfInBounds_toArray, List.set_cons_zero, List.set_cons_succ]
          refine wpAnyH_take (i := 5) (oi := { dst := some 63, op := Op.move (Operand.tmp 62), type := 4, pos := "law.go:173", after := #[{ on := 4, ground := Ground.data }], guard := none }) (v := ?_) rfl (by kernel_rfl) (by kernel_rfl) (by kernel_rfl) (fun _ _ _ h => h) (Or.inl ⟨by rfl, ?_⟩) (by assumption) ?_
          rotate_left 1
          · intro w hSw
            (try dsimp only at hSw)
            go_simp
            try with_reducible rfl
          try simp only [Act.put, List.setIfInBounds_toArray, List.set_cons_zero, List.set_cons_succ]
          refine wpAnyH_take (i := 6) (oi := { dst := some 64, op := Op.move (Operand.tmp 2), type := 9, pos := "law.go:173", after := #[{ on := 5, ground := Ground.guard }], guard := some (5, true) }) (v := ?_) rfl (by kernel_rfl) (by kernel_rfl) (by kernel_rfl) (fun _ _ _ h => h) (Or.inl ⟨by rfl, ?_⟩) (by assumption) ?_
          rotate_left 1
          · intro w hSw
            (try dsimp only at hSw)
            go_simp
            try with_reducible rfl
          try simp only [Act.put, List.setIfInBounds_toArray, List.set_cons_zero, List.set_cons_succ]
          refine wpAnyH_take (i := 7) (oi := { dst := some 65, op := Op.call { callee := Callee.builtin Builtin.len, args := #[Operand.tmp 64], argTypes := #[9] }, type := 3, pos := "law.go:173", after := #[{ on := 6, ground := Ground.data }, { on := 5, ground := Ground.guard }], guard := some (5, true) }) (v := ?_) rfl (by kernel_rfl) (by kernel_rfl) (by kernel_rfl) (fun _ _ _ h => h) (Or.inl ⟨by rfl, ?_⟩) (by assumption) ?_
          rotate_left 1
          · intro w hSw
            (try dsimp only at hSw)
            go_simp
            try with_reducible rfl
          try simp only [Act.put, List.setIfInBounds_toArray, List.set_cons_zero, List.set_cons_succ]
          refine wpAnyH_take (i := 8) (oi := { dst := some 66, op := Op.binOp BinOp.eql 3 (Operand.tmp 65) (Operand.const (Value.int IntKind.i64 0)) 3, type := 4, pos := "law.go:173", after := #[{ on := 7, ground := Ground.data }, { on := 5, ground := Ground.guard }], guard := some (5, true) }) (v := ?_) rfl (by kernel_rfl) (by kernel_rfl) (by kernel_rfl) (fun _ _ _ h => h) (Or.inl ⟨by rfl, ?_⟩) (by assumption) ?_
          rotate_left 1
          · intro w hSw
            (try dsimp only at hSw)
            go_simp
            try with_reducible rfl
          try simp only [Act.put, List.setIfInBounds_toArray, List.set_cons_zero, List.set_cons_succ]
          refine wpAnyH_take (i := 9) (oi := { dst := some 67, op := Op.move (Operand.tmp 66), type := 4, pos := "law.go:173", after := #[{ on := 8, ground := Ground.data }, { on := 5, ground := Ground.chain }, { on := 5, ground := Ground.guard }], guard := some (5, true) }) (v := ?_) rfl (by kernel_rfl) (by kernel_rfl) (by kernel_rfl) (fun _ _ _ h => h) (Or.inl ⟨by rfl, ?_⟩) (by assumption) ?_
          rotate_left 1
          · intro w hSw
            (try dsimp only at hSw)
            go_simp
            try with_reducible rfl
          try simp only [Act.put, List.setIfInBounds_toArray, List.set_cons_zero, List.set_cons_succ]
          refine wpAnyH_take (i := 10) (oi := { dst := some 68, op := Op.move (Operand.tmp 2), type := 9, pos := "law.go:173", after := #[{ on := 9, ground := Ground.guard }], guard := some (9, false) }) (v := undef) rfl (by kernel_rfl) (by kernel_rfl) (by kernel_rfl) (fun _ _ _ h => h) (Or.inr ⟨by rfl, rfl⟩) (by assumption) ?_
          try simp only [Act.put, List.setIfInBounds_toArray, List.set_cons_zero, List.set_cons_succ]
          refine wpAnyH_take (i := 11) (oi := { dst := some 69, op := Op.move (Operand.tmp 12), type := 3, pos := "law.go:173", after := #[{ on := 9, ground := Ground.guard }], guard := some (9, false) }) (v := undef) rfl (by kernel_rfl) (by kernel_rfl) (by kernel_rfl) (fun _ _ _ h => h) (Or.inr ⟨by rfl, rfl⟩) (by assumption) ?_
          try simp only [Act.put, List.setIfInBounds_toArray, List.set_cons_zero, List.set_cons_succ]
          refine wpAnyH_take (i := 12) (oi := { dst := some 70, op := Op.move (Operand.tmp 2), type := 9, pos := "law.go:173", after := #[{ on := 9, ground := Ground.guard }], guard := some (9, false) }) (v := undef) rfl (by kernel_rfl) (by kernel_rfl) (by kernel_rfl) (fun _ _ _ h => h) (Or.inr ⟨by rfl, rfl⟩) (by assumption) ?_
          try simp only [Act.put, List.setIfInBounds_toArray, List.set_cons_zero, List.set_cons_succ]
          refine wpAnyH_take (i := 13) (oi := { dst := some 71, op := Op.call { callee := Callee.builtin Builtin.len, args := #[Operand.tmp 70], argTypes := #[9] }, type := 3, pos := "law.go:173", after := #[{ on := 12, ground := Ground.data }, { on := 9, ground := Ground.guard }], guard := some (9, false) }) (v := undef) rfl (by kernel_rfl) (by kernel_rfl) (by kernel_rfl) (fun _ _ _ h => h) (Or.inr ⟨by rfl, rfl⟩) (by assumption) ?_
          try simp only [Act.put, List.setIfInBounds_toArray, List.set_cons_zero, List.set_cons_succ]
          refine wpAnyH_take (i := 14) (oi := { dst := some 72, op := Op.binOp BinOp.rem 3 (Operand.tmp 69) (Operand.tmp 71) 3, type := 3, pos := "law.go:173", after := #[{ on := 11, ground := Ground.data }, { on := 13, ground := Ground.data }, { on := 9, ground := Ground.guard }], guard := some (9, false) }) (v := undef) rfl (by kernel_rfl) (by kernel_rfl) (by kernel_rfl) (fun _ _ _ h => h) (Or.inr ⟨by rfl, rfl⟩) (by assumption) ?_
          try simp only [Act.put, List.setIfInBounds_toArray, List.set_cons_zero, List.set_cons_succ]
          refine wpAnyH_take (i := 15) (oi := { dst := some 73, op := Op.index 9 (Operand.tmp 68) (Operand.tmp 72), type := 5, pos := "law.go:173", after := #[{ on := 10, ground := Ground.data }, { on := 14, ground := Ground.data }, { on := 9, ground := Ground.guard }], guard := some (9, false) }) (v := undef) rfl (by kernel_rfl) (by kernel_rfl) (by kernel_rfl) (fun _ _ _ h => h) (Or.inr ⟨by rfl, rfl⟩) (by assumption) ?_
          try simp only [Act.put, List.setIfInBounds_toArray, List.set_cons_zero, List.set_cons_succ]
          refine wpAnyH_take (i := 16) (oi := { dst := some 74, op := Op.binOp BinOp.neq 5 (Operand.tmp 73) (Operand.const (Value.int IntKind.u8 120)) 5, type := 4, pos := "law.go:173", after := #[{ on := 15, ground := Ground.data }, { on := 9, ground := Ground.guard }], guard := some (9, false) }) (v := undef) rfl (by kernel_rfl) (by kernel_rfl) (by kernel_rfl) (fun _ _ _ h => h) (Or.inr ⟨by rfl, rfl⟩) (by assumption) ?_
          try simp only [Act.put, List.setIfInBounds_toArray, List.set_cons_zero, List.set_cons_succ]
          refine wpAnyH_take (i := 17) (oi := { dst := some 75, op := Op.pick (Operand.tmp 67) (Operand.const (Value.bool true)) (Operand.tmp 74), type := 4, pos := "law.go:173", after := #[{ on := 9, ground := Ground.data }, { on := 16, ground := Ground.data }, { on := 5, ground := Ground.guard }], guard := some (5, true) }) (v := ?_) rfl (by kernel_rfl) (by kernel_rfl) (by kernel_rfl) (fun _ _ _ h => h) (Or.inl ⟨by rfl, ?_⟩) (by assumption) ?_
          rotate_left 1
          · intro w hSw
            (try dsimp only at hSw)
            go_simp
            try with_reducible rfl
          try simp only [Act.put, List.setIfInBounds_toArray, List.set_cons_zero, List.set_cons_succ]
          refine wpAnyH_take (i := 18) (oi := { dst := some 76, op := Op.pick (Operand.tmp 63) (Operand.tmp 75) (Operand.const (Value.bool false)), type := 4, pos := "law.go:173", after := #[{ on := 5, ground := Ground.data }, { on := 17, ground := Ground.data }], guard := none }) (v := ?_) rfl (by kernel_rfl) (by kernel_rfl) (by kernel_rfl) (fun _ _ _ h => h) (Or.inl ⟨by rfl, ?_⟩) (by assumption) ?_
          rotate_left 1
          · intro w hSw
            (try dsimp only at hSw)
            go_simp
            try with_reducible rfl
          try simp only [Act.put, List.setIfInBounds_toArray, List.set_cons_zero, List.set_cons_succ]
          refine wpAnyH_take (i := 19) (oi := { dst := some 77, op := Op.makeFunc (Fn.method "Count") #[Operand.tmp 58] #[], type := 33, pos := "law.go:173", after := #[{ on := 0, ground := Ground.data }], guard := none }) (v := ?_) rfl (by kernel_rfl) (by kernel_rfl) (by kernel_rfl) (fun _ _ _ h => h) (Or.inl ⟨by rfl, ?_⟩) (by assumption) ?_
          rotate_left 1
          · intro w hSw
            (try dsimp only at hSw)
            go_simp
            try with_reducible rfl
          try simp only [Act.put, List.setIfInBounds_toArray, List.set_cons_zero, List.set_cons_succ]
          refine wpAnyH_take (i := 20) (oi := { dst := some 78, op := Op.nilCheck (Operand.tmp 77), type := 33, pos := "law.go:173", after := #[{ on := 19, ground := Ground.data }], guard := none }) (v := ?_) rfl (by kernel_rfl) (by kernel_rfl) (by kernel_rfl) (fun _ _ _ h => h) (Or.inl ⟨by rfl, ?_⟩) (by assumption) ?_
          rotate_left 1
          · intro w hSw
            (try dsimp only at hSw)
            go_simp
            try with_reducible rfl
          try simp only [Act.put, List.setIfInBounds_toArray, List.set_cons_zero, List.set_cons_succ]
          refine wpAnyH_take (i := 21) (oi := { dst := some 79, op := Op.move (Operand.tmp 58), type := 26, pos := "law.go:173", after := #[{ on := 0, ground := Ground.data }, { on := 19, ground := Ground.data }, { on := 20, ground := Ground.data }], guard := none }) (v := ?_) rfl (by kernel_rfl) (by kernel_rfl) (by kernel_rfl) (fun _ _ _ h => h) (Or.inl ⟨by rfl, ?_⟩) (by assumption) ?_
          rotate_left 1
          · intro w hSw
            (try dsimp only at hSw)
            go_simp
            try with_reducible rfl
          try simp only [Act.put, List.setIfInBounds_toArray, List.set_cons_zero, List.set_cons_succ]
          refine wpAnyH_ready (rs := [22]) (by kernel_rfl) (by simp) ?_
          refine AllReadyH.cons (o := { dst := some 80, op := Op.call { callee := Callee.invoke (Operand.tmp 79) "Count", args := #[Operand.tmp 76], argTypes := #[4] }, type := 0, pos := "law.go:173", after := #[{ on := 21, ground := Ground.data }, { on := 18, ground := Ground.data }, { on := 9, ground := Ground.chain }], guard := none }) rfl (fun K hK => ?_) AllReadyH.nil
          go_simp
          with_reducible refine (HCb.out true).mono ?_
          rintro e w7 ⟨rfl, hm7, hx7⟩
          have k5 := hx7.cell (show w4.drew.cell? ⟨sb, so + j, none⟩ = some (.bool true) from HC4.out) HNt.out
          have HM7 := Lib.hid hm7
          have HX7 := Lib.hid hx7
          clear hm7 hx7
          go_wp2_with fail
          refine hK.out _ _ ?_ (fun hHeld => ?_)
          · try dsimp only
            first | assumption | go_keep
          clear hK K
          try simp only [Act.put, List.setIfInBounds_toArray, List.set_cons_zero, List.set_cons_succ]
          refine wpAnyH_done (by kernel_rfl) ?_ _
          have hx7 := HX7.out
          have hxa := (HM4.out.below (below_draw w4 1)).exc hx7 HNab.out
          have hrl := HRl.out.step HXf.out.lvl HY4.out.fit.lvl (p := true) (q := true) (fun _ => rfl)
          obtain ⟨x2, hx2⟩ : ∃ x2, x2 = x.count true := ⟨_, rfl⟩
          obtain ⟨y2, hy2⟩ : ∃ y2, y2 = y.count true := ⟨_, rfl⟩
          have hya := HM7.out
          rw [← hx2] at hxa hrl
          rw [← hy2] at hrl hya
          have hk2 : x2.kd = kd := by rw [hx2, Mo.count_kd]; exact HXk.out
          have hla := fun W (hb : Below w7.heap.size w7 W) => level_any ga x2 W (hxa.below hb)
          have hlb := level_any gb y2 w7 hya
          have hoa := over_any ga x2 w7 hxa
          have hob := fun W (hb : Below w7.heap.size w7 W) => over_any gb y2 W (hya.below hb)
          have hle := hrl.le
          have hor : x2.over = true → y2.over = true := by
            intro h
            have h1 := of_decide_eq_true h
            have h2 := hya.fit.lvl
            have h3 := hrl.lim
            exact decide_eq_true (by omega)
          obtain ⟨p, hp⟩ : ∃ p, p = x2.over := ⟨_, rfl⟩
          rw [← hp] at hoa hor
          obtain ⟨X, hX⟩ : ∃ X, X = x2.lvl := ⟨_, rfl⟩
          obtain ⟨Y, hY⟩ : ∃ Y, Y = y2.lvl := ⟨_, rfl⟩
          simp only [← hX] at hla
          rw [← hY] at hlb
          have hYX : ¬ (Y : Int) < (X : Int) := by omega
          have HLa := Lib.hid hla
          have HLb := Lib.hid hlb
          have HOa := Lib.hid hoa
          have HOb := Lib.hid hob
          have HOr := Lib.hid hor
          have HRes := Lib.hid (And.intro hk2 (And.intro hxa (And.intro hya (And.intro hrl ((HX5.out.drawN 1).trans hx7 (fun _ _ h => .inr h))))))
          clear hx7 hxa hrl hya hx2 hy2 hk2 hla hlb hoa hob hle hor hp hX hY k5 HM7 HX7
          go_wp2_with fail
          with_reducible refine HLb.out.mono ?_
          rintro e w7' ⟨rfl, rfl⟩
          go_wp2_with fail
          with_reducible refine (HLa.out _ (Below.refl _ _)).mono ?_
          rintro e w8 ⟨rfl, rfl⟩
          go_wp2_with fail
          with_reducible refine HOa.out.mono ?_
          rintro e w9 ⟨rfl, q9, rfl⟩
          have HB9 := Lib.hid (below_draw w8 q9)
          have hob9 := HOb.out _ HB9.out
          have HX9 := Lib.hid (HRes.out.2.2.2.2.drawN q9)
          have HRa := Lib.hid (HRes.out.2.1.below HB9.out)
          have HRb := Lib.hid (HRes.out.2.2.1.below HB9.out)
          generalize w8.drewN q9 = w9 at hob9 HX9 HRa HRb HB9 ⊢
          cases p
          · go_wp2_with fail
            exact ⟨⟨J, x2, y2, by have := HJ.out; omega, by rfl, HRes.out.1, HRa.out, HRb.out, HRes.out.2.2.2.1, HX9.out⟩, by simp only [intOf]; have := HJ.out; omega⟩
          · rw [HOr.out rfl] at hob9
            have HOb9 := Lib.hid hob9
            clear hob9
            go_wp2_with fail
            with_reducible refine HOb9.out.mono ?_
            rintro e w10 ⟨rfl, q10, rfl⟩
            have hb10 := below_draw w9 q10
            have HX10 := Lib.hid (HX9.out.drawN q10)
            have HRa2 := Lib.hid (HRa.out.below hb10)
            have HRb2 := Lib.hid (HRb.out.below hb10)
            clear hb10 HOb9 HX9 HRa HRb HB9
            generalize w9.drewN q10 = w10 at HX10 HRa2 HRb2 ⊢
            go_wp2_with fail
            exact ⟨⟨J, x2, y2, by have := HJ.out; omega, by rfl, HRes.out.1, HRa2.out, HRb2.out, HRes.out.2.2.2.1, HX10.out⟩, by simp only [intOf]; have := HJ.out; omega⟩
        · have hM0b : ((M : Int) == 0) = false := by simp; omega
          have s1 : ¬ (M : Int) = 0 := by omega
          have s3 : ¬ M = 0 := by omega
          have s4 : (M == 0) = false := by simp; omega
          obtain ⟨Q, hQ⟩ : ∃ Q, Q = j % M := ⟨_, rfl⟩
          have hQM : Q < M := by rw [hQ]; exact Nat.mod_lt _ (by omega)
          have q1 : (j : Int).tmod (M : Int) = (Q : Int) := by rw [tmod_nat, hQ]
          have q2 : (j : Int) % (M : Int) = (Q : Int) := by rw [hQ]; omega
          have hQj : Q ≤ j := by rw [hQ]; exact Nat.mod_le _ _
          have q3 : IntKind.i64.wrap (Q : Int) = (Q : Int) := by have := HA.out; have := HJ.out; exact IntWalk.i64_in _ (by omega)
          have hte : ¬ t = ByteArray.empty := fun h => hM0 (by rw [HMs.out, h]; rfl)
          have hQt : Q < t.size := by omega
          have q0 : (0 : Int) ≤ (Q : Int) := by omega
          have q4 : (Q : Int) < (M : Int) := by omega
          obtain ⟨v, hv⟩ : ∃ v : Int, (t[Q].toNat : Int) = v := ⟨_, rfl⟩
          obtain ⟨z, hz⟩ : ∃ z : Bool, z = (v != 120) := ⟨_, rfl⟩
          have hzv : (v != 120) = z := hz.symm
          have HQ := Lib.hid hQ
          clear hQ hz hM0 hQM hQj
          go_wp2_with fail
          refine wp_region_held_drew (S := fun W => W.cell? ⟨sb, so + j, none⟩ = some (.bool true)) (by kernel_rfl) ?_ (fun hHeld => ?_)
          · try dsimp only
            first | assumption | go_keep
          refine wpAnyH_take (i := 0) (oi := { dst := some 58, op := Op.move (Operand.tmp 9), type := 26, pos := "law.go:173", after := #[], guard := none }) (v := ?_) rfl (by kernel_rfl) (by kernel_rfl) (by kernel_rfl) (fun _ _ _ h => h) (Or.inl ⟨by rfl, ?_⟩) (by assumption) ?_
          rotate_left 1
          · intro w hSw
            (try dsimp only at hSw)
            go_simp
            try with_reducible rfl
          try simp only [Act.put, List.setIfInBounds_toArray, List.set_cons_zero, List.set_cons_succ]
          refine wpAnyH_take (i := 1) (oi := { dst := some 59, op := Op.move (Operand.tmp 11), type := 31, pos := "law.go:173", after := #[], guard := none }) (v := ?_) rfl (by kernel_rfl) (by kernel_rfl) (by kernel_rfl) (fun _ _ _ h => h) (Or.inl ⟨by rfl, ?_⟩) (by assumption) ?_
          rotate_left 1
          · intro w hSw
            (try dsimp only at hSw)
            go_simp
            try with_reducible rfl
          try simp only [Act.put, List.setIfInBounds_toArray, List.set_cons_zero, List.set_cons_succ]
          refine wpAnyH_take (i := 2) (oi := { dst := some 60, op := Op.move (Operand.tmp 12), type := 3, pos := "law.go:173", after := #[], guard := none }) (v := ?_) rfl (by kernel_rfl) (by kernel_rfl) (by kernel_rfl) (fun _ _ _ h => h) (Or.inl ⟨by rfl, ?_⟩) (by assumption) ?_
          rotate_left 1
          · intro w hSw
            (try dsimp only at hSw)
            go_simp
            try with_reducible rfl
          try simp only [Act.put, List.setIfInBounds_toArray, List.set_cons_zero, List.set_cons_succ]
          refine wpAnyH_take (i := 3) (oi := { dst := some 61, op := Op.indexAddr 31 (Operand.tmp 59) (Operand.tmp 60), type := 0, pos := "law.go:173", after := #[{ on := 1, ground := Ground.data }, { on := 2, ground := Ground.data }], guard := none }) (v := ?_) rfl (by kernel_rfl) (by kernel_rfl) (by kernel_rfl) (fun _ _ _ h => h) (Or.inl ⟨by rfl, ?_⟩) (by assumption) ?_
          rotate_left 1
          · intro w hSw
            (try dsimp only at hSw)
            go_simp
            try with_reducible rfl
          try simp only [Act.put, List.setIfInBounds_toArray, List.set_cons_zero, List.set_cons_succ]
          refine wpAnyH_take (i := 4) (oi := { dst := some 62, op := Op.load 4 (Operand.tmp 61), type := 4, pos := "law.go:173", after := #[{ on := 3, ground := Ground.data }], guard := none }) (v := ?_) rfl (by kernel_rfl) (by kernel_rfl) (by kernel_rfl) (fun _ _ _ h => h) (Or.inl ⟨by rfl, ?_⟩) (by assumption) ?_
          rotate_left 1
          · intro w hSw
            (try dsimp only at hSw)
            go_simp
            try with_reducible rfl
          try simp only [Act.put, List.setIfInBounds_toArray, List.set_cons_zero, List.set_cons_succ]
          refine wpAnyH_take (i := 5) (oi := { dst := some 63, op := Op.move (Operand.tmp 62), type := 4, pos := "law.go:173", after := #[{ on := 4, ground := Ground.data }], guard := none }) (v := ?_) rfl (by kernel_rfl) (by kernel_rfl) (by kernel_rfl) (fun _ _ _ h => h) (Or.inl ⟨by rfl, ?_⟩) (by assumption) ?_
          rotate_left 1
          · intro w hSw
            (try dsimp only at hSw)
            go_simp
            try with_reducible rfl
          try simp only [Act.put, List.setIfInBounds_toArray, List.set_cons_zero, List.set_cons_succ]
          refine wpAnyH_take (i := 6) (oi := { dst := some 64, op := Op.move (Operand.tmp 2), type := 9, pos := "law.go:173", after := #[{ on := 5, ground := Ground.guard }], guard := some (5, true) }) (v := ?_) rfl (by kernel_rfl) (by kernel_rfl) (by kernel_rfl) (fun _ _ _ h => h) (Or.inl ⟨by rfl, ?_⟩) (by assumption) ?_
          rotate_left 1
          · intro w hSw
            (try dsimp only at hSw)
            go_simp
            try with_reducible rfl
          try simp only [Act.put, List.setIfInBounds_toArray, List.set_cons_zero, List.set_cons_succ]
          refine wpAnyH_take (i := 7) (oi := { dst := some 65, op := Op.call { callee := Callee.builtin Builtin.len, args := #[Operand.tmp 64], argTypes := #[9] }, type := 3, pos := "law.go:173", after := #[{ on := 6, ground := Ground.data }, { on := 5, ground := Ground.guard }], guard := some (5, true) }) (v := ?_) rfl (by kernel_rfl) (by kernel_rfl) (by kernel_rfl) (fun _ _ _ h => h) (Or.inl ⟨by rfl, ?_⟩) (by assumption) ?_
          rotate_left 1
          · intro w hSw
            (try dsimp only at hSw)
            go_simp
            try with_reducible rfl
          try simp only [Act.put, List.setIfInBounds_toArray, List.set_cons_zero, List.set_cons_succ]
          refine wpAnyH_take (i := 8) (oi := { dst := some 66, op := Op.binOp BinOp.eql 3 (Operand.tmp 65) (Operand.const (Value.int IntKind.i64 0)) 3, type := 4, pos := "law.go:173", after := #[{ on := 7, ground := Ground.data }, { on := 5, ground := Ground.guard }], guard := some (5, true) }) (v := ?_) rfl (by kernel_rfl) (by kernel_rfl) (by kernel_rfl) (fun _ _ _ h => h) (Or.inl ⟨by rfl, ?_⟩) (by assumption) ?_
          rotate_left 1
          · intro w hSw
            (try dsimp only at hSw)
            go_simp
            try with_reducible rfl
          try simp only [Act.put, List.setIfInBounds_toArray, List.set_cons_zero, List.set_cons_succ]
          refine wpAnyH_take (i := 9) (oi := { dst := some 67, op := Op.move (Operand.tmp 66), type := 4, pos := "law.go:173", after := #[{ on := 8, ground := Ground.data }, { on := 5, ground := Ground.chain }, { on := 5, ground := Ground.guard }], guard := some (5, true) }) (v := ?_) rfl (by kernel_rfl) (by kernel_rfl) (by kernel_rfl) (fun _ _ _ h => h) (Or.inl ⟨by rfl, ?_⟩) (by assumption) ?_
          rotate_left 1
          · intro w hSw
            (try dsimp only at hSw)
            go_simp
            try with_reducible rfl
          try simp only [Act.put, List.setIfInBounds_toArray, List.set_cons_zero, List.set_cons_succ]
          refine wpAnyH_take (i := 10) (oi := { dst := some 68, op := Op.move (Operand.tmp 2), type := 9, pos := "law.go:173", after := #[{ on := 9, ground := Ground.guard }], guard := some (9, false) }) (v := ?_) rfl (by kernel_rfl) (by kernel_rfl) (by kernel_rfl) (fun _ _ _ h => h) (Or.inl ⟨by rfl, ?_⟩) (by assumption) ?_
          rotate_left 1
          · intro w hSw
            (try dsimp only at hSw)
            go_simp
            try with_reducible rfl
          try simp only [Act.put, List.setIfInBounds_toArray, List.set_cons_zero, List.set_cons_succ]
          refine wpAnyH_take (i := 11) (oi := { dst := some 69, op := Op.move (Operand.tmp 12), type := 3, pos := "law.go:173", after := #[{ on := 9, ground := Ground.guard }], guard := some (9, false) }) (v := ?_) rfl (by kernel_rfl) (by kernel_rfl) (by kernel_rfl) (fun _ _ _ h => h) (Or.inl ⟨by rfl, ?_⟩) (by assumption) ?_
          rotate_left 1
          · intro w hSw
            (try dsimp only at hSw)
            go_simp
            try with_reducible rfl
          try simp only [Act.put, List.setIfInBounds_toArray, List.set_cons_zero, List.set_cons_succ]
          refine wpAnyH_take (i := 12) (oi := { dst := some 70, op := Op.move (Operand.tmp 2), type := 9, pos := "law.go:173", after := #[{ on := 9, ground := Ground.guard }], guard := some (9, false) }) (v := ?_) rfl (by kernel_rfl) (by kernel_rfl) (by kernel_rfl) (fun _ _ _ h => h) (Or.inl ⟨by rfl, ?_⟩) (by assumption) ?_
          rotate_left 1
          · intro w hSw
            (try dsimp only at hSw)
            go_simp
            try with_reducible rfl
          try simp only [Act.put, List.setIfInBounds_toArray, List.set_cons_zero, List.set_cons_succ]
          refine wpAnyH_take (i := 13) (oi := { dst := some 71, op := Op.call { callee := Callee.builtin Builtin.len, args := #[Operand.tmp 70], argTypes := #[9] }, type := 3, pos := "law.go:173", after := #[{ on := 12, ground := Ground.data }, { on := 9, ground := Ground.guard }], guard := some (9, false) }) (v := ?_) rfl (by kernel_rfl) (by kernel_rfl) (by kernel_rfl) (fun _ _ _ h => h) (Or.inl ⟨by rfl, ?_⟩) (by assumption) ?_
          rotate_left 1
          · intro w hSw
            (try dsimp only at hSw)
            go_simp
            try with_reducible rfl
          try simp only [Act.put, List.setIfInBounds_toArray, List.set_cons_zero, List.set_cons_succ]
          refine wpAnyH_take (i := 14) (oi := { dst := some 72, op := Op.binOp BinOp.rem 3 (Operand.tmp 69) (Operand.tmp 71) 3, type := 3, pos := "law.go:173", after := #[{ on := 11, ground := Ground.data }, { on := 13, ground := Ground.data }, { on := 9, ground := Ground.guard }], guard := some (9, false) }) (v := ?_) rfl (by kernel_rfl) (by kernel_rfl) (by kernel_rfl) (fun _ _ _ h => h) (Or.inl ⟨by rfl, ?_⟩) (by assumption) ?_
          rotate_left 1
          · intro w hSw
            (try dsimp only at hSw)
            go_simp
            try with_reducible rfl
          try simp only [Act.put, List.setIfInBounds_toArray, List.set_cons_zero, List.set_cons_succ]
          refine wpAnyH_take (i := 15) (oi := { dst := some 73, op := Op.index 9 (Operand.tmp 68) (Operand.tmp 72), type := 5, pos := "law.go:173", after := #[{ on := 10, ground := Ground.data }, { on := 14, ground := Ground.data }, { on := 9, ground := Ground.guard }], guard := some (9, false) }) (v := ?_) rfl (by kernel_rfl) (by kernel_rfl) (by kernel_rfl) (fun _ _ _ h => h) (Or.inl ⟨by rfl, ?_⟩) (by assumption) ?_
          rotate_left 1
          · intro w hSw
            (try dsimp only at hSw)
            go_simp
            try with_reducible rfl
          try simp only [Act.put, List.setIfInBounds_toArray, List.set_cons_zero, List.set_cons_succ]
          refine wpAnyH_take (i := 16) (oi := { dst := some 74, op := Op.binOp BinOp.neq 5 (Operand.tmp 73) (Operand.const (Value.int IntKind.u8 120)) 5, type := 4, pos := "law.go:173", after := #[{ on := 15, ground := Ground.data }, { on := 9, ground := Ground.guard }], guard := some (9, false) }) (v := ?_) rfl (by kernel_rfl) (by kernel_rfl) (by kernel_rfl) (fun _ _ _ h => h) (Or.inl ⟨by rfl, ?_⟩) (by assumption) ?_
          rotate_left 1
          · intro w hSw
            (try dsimp only at hSw)
            go_simp
            try with_reducible rfl
          try simp only [Act.put, List.setIfInBounds_toArray, List.set_cons_zero, List.set_cons_succ]
          refine wpAnyH_take (i := 17) (oi := { dst := some 75, op := Op.pick (Operand.tmp 67) (Operand.const (Value.bool true)) (Operand.tmp 74), type := 4, pos := "law.go:173", after := #[{ on := 9, ground := Ground.data }, { on := 16, ground := Ground.data }, { on := 5, ground := Ground.guard }], guard := some (5, true) }) (v := ?_) rfl (by kernel_rfl) (by kernel_rfl) (by kernel_rfl) (fun _ _ _ h => h) (Or.inl ⟨by rfl, ?_⟩) (by assumption) ?_
          rotate_left 1
          · intro w hSw
            (try dsimp only at hSw)
            go_simp
            try with_reducible rfl
          try simp only [Act.put, List.setIfInBounds_toArray, List.set_cons_zero, List.set_cons_succ]
          refine wpAnyH_take (i := 18) (oi := { dst := some 76, op := Op.pick (Operand.tmp 63) (Operand.tmp 75) (Operand.const (Value.bool false)), type := 4, pos := "law.go:173", after := #[{ on := 5, ground := Ground.data }, { on := 17, ground := Ground.data }], guard := none }) (v := ?_) rfl (by kernel_rfl) (by kernel_rfl) (by kernel_rfl) (fun _ _ _ h => h) (Or.inl ⟨by rfl, ?_⟩) (by assumption) ?_
          rotate_left 1
          · intro w hSw
            (try dsimp only at hSw)
            go_simp
            try with_reducible rfl
          try simp only [Act.put, List.setIfInBounds_toArray, List.set_cons_zero, List.set_cons_succ]
          refine wpAnyH_take (i := 19) (oi := { dst := some 77, op := Op.makeFunc (Fn.method "Count") #[Operand.tmp 58] #[], type := 33, pos := "law.go:173", after := #[{ on := 0, ground := Ground.data }], guard := none }) (v := ?_) rfl (by kernel_rfl) (by kernel_rfl) (by kernel_rfl) (fun _ _ _ h => h) (Or.inl ⟨by rfl, ?_⟩) (by assumption) ?_
          rotate_left 1
          · intro w hSw
            (try dsimp only at hSw)
            go_simp
            try with_reducible rfl
          try simp only [Act.put, List.setIfInBounds_toArray, List.set_cons_zero, List.set_cons_succ]
          refine wpAnyH_take (i := 20) (oi := { dst := some 78, op := Op.nilCheck (Operand.tmp 77), type := 33, pos := "law.go:173", after := #[{ on := 19, ground := Ground.data }], guard := none }) (v := ?_) rfl (by kernel_rfl) (by kernel_rfl) (by kernel_rfl) (fun _ _ _ h => h) (Or.inl ⟨by rfl, ?_⟩) (by assumption) ?_
          rotate_left 1
          · intro w hSw
            (try dsimp only at hSw)
            go_simp
            try with_reducible rfl
          try simp only [Act.put, List.setIfInBounds_toArray, List.set_cons_zero, List.set_cons_succ]
          refine wpAnyH_take (i := 21) (oi := { dst := some 79, op := Op.move (Operand.tmp 58), type := 26, pos := "law.go:173", after := #[{ on := 0, ground := Ground.data }, { on := 19, ground := Ground.data }, { on := 20, ground := Ground.data }], guard := none }) (v := ?_) rfl (by kernel_rfl) (by kernel_rfl) (by kernel_rfl) (fun _ _ _ h => h) (Or.inl ⟨by rfl, ?_⟩) (by assumption) ?_
          rotate_left 1
          · intro w hSw
            (try dsimp only at hSw)
            go_simp
            try with_reducible rfl
          try simp only [Act.put, List.setIfInBounds_toArray, List.set_cons_zero, List.set_cons_succ]
          refine wpAnyH_ready (rs := [22]) (by kernel_rfl) (by simp) ?_
          refine AllReadyH.cons (o := { dst := some 80, op := Op.call { callee := Callee.invoke (Operand.tmp 79) "Count", args := #[Operand.tmp 76], argTypes := #[4] }, type := 0, pos := "law.go:173", after := #[{ on := 21, ground := Ground.data }, { on := 18, ground := Ground.data }, { on := 9, ground := Ground.chain }], guard := none }) rfl (fun K hK => ?_) AllReadyH.nil
          go_simp
          with_reducible refine (HCb.out z).mono ?_
          rintro e w7 ⟨rfl, hm7, hx7⟩
          have k5 := hx7.cell (show w4.drew.cell? ⟨sb, so + j, none⟩ = some (.bool true) from HC4.out) HNt.out
          have HM7 := Lib.hid hm7
          have HX7 := Lib.hid hx7
          clear hm7 hx7
          go_wp2_with fail
          refine hK.out _ _ ?_ (fun hHeld => ?_)
          · try dsimp only
            first | assumption | go_keep
          clear hK K
          try simp only [Act.put, List.setIfInBounds_toArray, List.set_cons_zero, List.set_cons_succ]
          refine wpAnyH_done (by kernel_rfl) ?_ _
          have hx7 := HX7.out
          have hxa := (HM4.out.below (below_draw w4 1)).exc hx7 HNab.out
          have hrl := HRl.out.step HXf.out.lvl HY4.out.fit.lvl (p := true) (q := z) (fun _ => rfl)
          obtain ⟨x2, hx2⟩ : ∃ x2, x2 = x.count true := ⟨_, rfl⟩
          obtain ⟨y2, hy2⟩ : ∃ y2, y2 = y.count z := ⟨_, rfl⟩
          have hya := HM7.out
          rw [← hx2] at hxa hrl
          rw [← hy2] at hrl hya
          have hk2 : x2.kd = kd := by rw [hx2, Mo.count_kd]; exact HXk.out
          have hla := fun W (hb : Below w7.heap.size w7 W) => level_any ga x2 W (hxa.below hb)
          have hlb := level_any gb y2 w7 hya
          have hoa := over_any ga x2 w7 hxa
          have hob := fun W (hb : Below w7.heap.size w7 W) => over_any gb y2 W (hya.below hb)
          have hle := hrl.le
          have hor : x2.over = true → y2.over = true := by
            intro h
            have h1 := of_decide_eq_true h
            have h2 := hya.fit.lvl
            have h3 := hrl.lim
            exact decide_eq_true (by omega)
          obtain ⟨p, hp⟩ : ∃ p, p = x2.over := ⟨_, rfl⟩
          rw [← hp] at hoa hor
          obtain ⟨X, hX⟩ : ∃ X, X = x2.lvl := ⟨_, rfl⟩
          obtain ⟨Y, hY⟩ : ∃ Y, Y = y2.lvl := ⟨_, rfl⟩
          simp only [← hX] at hla
          rw [← hY] at hlb
          have hYX : ¬ (Y : Int) < (X : Int) := by omega
          have HLa := Lib.hid hla
          have HLb := Lib.hid hlb
          have HOa := Lib.hid hoa
          have HOb := Lib.hid hob
          have HOr := Lib.hid hor
          have HRes := Lib.hid (And.intro hk2 (And.intro hxa (And.intro hya (And.intro hrl ((HX5.out.drawN 1).trans hx7 (fun _ _ h => .inr h))))))
          clear hx7 hxa hrl hya hx2 hy2 hk2 hla hlb hoa hob hle hor hp hX hY k5 HM7 HX7
          go_wp2_with fail
          with_reducible refine HLb.out.mono ?_
          rintro e w7' ⟨rfl, rfl⟩
          go_wp2_with fail
          with_reducible refine (HLa.out _ (Below.refl _ _)).mono ?_
          rintro e w8 ⟨rfl, rfl⟩
          go_wp2_with fail
          with_reducible refine HOa.out.mono ?_
          rintro e w9 ⟨rfl, q9, rfl⟩
          have HB9 := Lib.hid (below_draw w8 q9)
          have hob9 := HOb.out _ HB9.out
          have HX9 := Lib.hid (HRes.out.2.2.2.2.drawN q9)
          have HRa := Lib.hid (HRes.out.2.1.below HB9.out)
          have HRb := Lib.hid (HRes.out.2.2.1.below HB9.out)
          generalize w8.drewN q9 = w9 at hob9 HX9 HRa HRb HB9 ⊢
          cases p
          · go_wp2_with fail
            exact ⟨⟨J, x2, y2, by have := HJ.out; omega, by rfl, HRes.out.1, HRa.out, HRb.out, HRes.out.2.2.2.1, HX9.out⟩, by simp only [intOf]; have := HJ.out; omega⟩
          · rw [HOr.out rfl] at hob9
            have HOb9 := Lib.hid hob9
            clear hob9
            go_wp2_with fail
            with_reducible refine HOb9.out.mono ?_
            rintro e w10 ⟨rfl, q10, rfl⟩
            have hb10 := below_draw w9 q10
            have HX10 := Lib.hid (HX9.out.drawN q10)
            have HRa2 := Lib.hid (HRa.out.below hb10)
            have HRb2 := Lib.hid (HRb.out.below hb10)
            clear hb10 HOb9 HX9 HRa HRb HB9
            generalize w9.drewN q10 = w10 at HX10 HRa2 HRb2 ⊢
            go_wp2_with fail
            exact ⟨⟨J, x2, y2, by have := HJ.out; omega, by rfl, HRes.out.1, HRa2.out, HRb2.out, HRes.out.2.2.2.1, HX10.out⟩, by simp only [intOf]; have := HJ.out; omega⟩
    · obtain rfl : j = n := by omega
      have hji : ¬ (j : Int) < (j : Int) := by omega
      have HB7 := Lib.hid (HB3.out.trans (hxj.below HB3.out.size (fun i _ h => by have := HG1.out; have := HG2.out; omega)))
      clear hlt hj hxa hyb hrl hxk hxj
      go_wp2_with fail
      with_reducible refine (HLv.out _).mono ?_
      rintro e w8 ⟨rfl, hb8⟩
      have HB8 := Lib.hid (HB7.out.trans (Below.mono hb8 HB7.out.size))
      clear hb8 HB7
      go_wp2
      go_ret
      exact ⟨rfl, HB8.out⟩
end Go.Proofs.Ytblhfdkopnaobaa
