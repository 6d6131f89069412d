/- Monitors: First. -/
import Derived.Test.YtblhfdkopnaobaaMoNew
import Derived.Test.YtblhfdkopnaobaaBools
import Derived.Recover
import Derived.Defers
namespace Go.Proofs.Ytblhfdkopnaobaa
open Go.RowKit

/-- The deferred function of a call that returns. -/
theorem catch_idle (p : Addr) (w : World) :
    CallsD Try.prog 19 #[.pointer (some p)] .returning w fun e u' w' => e = .returned (.tuple #[]) ∧ u' = .returning ∧ w' = w := by
  refine callsD_of_wpS Try.func19 rfl fun c₀ cs hu => ?_
  apply wpS_seq
  apply wpS_region
  simp [wpOpsS, go_sem, recoverD, hu, Try.ntmps19, Exit.thenS]
  refine wpS_cond (t := false) (by simp [Act.eval, Array.replicate]) ?_
  simp only [Bool.false_eq_true, if_false]
  refine wpS_of_wp (wp_skip ?_)
  cases c₀
  simp_all [bodyPostS, results, Try.results19]
/-- Which function a method of a monitor is. -/
def Kd.fCount : Kd → Nat
  | .rate => 45
  | .sum => 40
  | .span => 47
def Kd.fReset : Kd → Nat
  | .rate => 46
  | .sum => 43
  | .span => 48
theorem meth_over (k : Kd) (g : Nat) (w : World) : (method 184 k.ptr (.pointer (some ⟨g, 0, none⟩)) "Over").run Try.prog w = .ok (42, .pointer (some ⟨g, 0, none⟩)) w := by
  cases k <;> kernel_rfl
theorem meth_level (k : Kd) (g : Nat) (w : World) : (method 184 k.ptr (.pointer (some ⟨g, 0, none⟩)) "Level").run Try.prog w = .ok (41, .pointer (some ⟨g, 0, none⟩)) w := by
  cases k <;> kernel_rfl
theorem meth_count (k : Kd) (g : Nat) (w : World) : (method 184 k.ptr (.pointer (some ⟨g, 0, none⟩)) "Count").run Try.prog w = .ok (k.fCount, .pointer (some ⟨g, 0, none⟩)) w := by
  cases k <;> kernel_rfl
theorem ahead_count (k : Kd) (g : Nat) (w : World) : (nilAhead 184 k.ptr (.pointer (some ⟨g, 0, none⟩)) "Count").run Try.prog w = .ok (some false) w := by
  cases k <;> kernel_rfl
theorem meth_reset (k : Kd) (g : Nat) (w : World) : (method 184 k.ptr (.pointer (some ⟨g, 0, none⟩)) "Reset").run Try.prog w = .ok (k.fReset, .pointer (some ⟨g, 0, none⟩)) w := by
  cases k <;> kernel_rfl
theorem enter_count (k : Kd) (args : Array Value) (w : World) : (callFunc k.fCount args).run Try.prog w = .ok (.enter k.fCount args) w := by
  cases k <;> simp [callFunc, go_sem, Kd.fCount, Try.func45, Try.func40, Try.func47, Try.f45, Try.f40, Try.f47]
theorem enter_reset (k : Kd) (args : Array Value) (w : World) : (callFunc k.fReset args).run Try.prog w = .ok (.enter k.fReset args) w := by
  cases k <;> simp [callFunc, go_sem, Kd.fReset, Try.func46, Try.func43, Try.func48, Try.f46, Try.f43, Try.f48]
theorem count_any (g : Nat) (m : Mo) (ok : Bool) (w : World) (h : MoAt w g m) :
    Calls Try.prog m.kd.fCount #[.pointer (some ⟨g, 0, none⟩), .bool ok] w fun e w' => e = .returned (.tuple #[]) ∧ MoAt w' g (m.count ok) ∧ Exc (fun k => k = g) w w' := by
  cases hk : m.kd
  · exact rate_count g m ok w h hk
  · exact sum_count g m ok w h hk
  · exact span_count g m ok w h hk
set_option maxHeartbeats 1000000 in
set_option maxRecDepth 100000 in
theorem first_any (g : Nat) (m : Mo) (a : Option Addr) (n c : Nat) (l : List Bool) (w : World) (hm : MoAt w g m) (hl : BRow w a n c l) (hne : ∀ x, a = some x → x.block ≠ g) :
    Calls Try.prog 14 #[.iface m.kd.ptr (.pointer (some ⟨g, 0, none⟩)), .slice a n c] w fun e w' => e = .returned (.int .i64 (m.firstI l)) ∧ MoAt w' g (m.after l) ∧ Exc (fun k => k = g) w w' := by
  have hmf : ∀ (fn : Fn) (first cap : Array Value) (w : World), (Instr.makeFunc fn first cap).run Try.prog w = .ok (.func fn first cap) w := fun _ _ _ _ => rfl
  obtain ⟨r, hr⟩ : ∃ r, r = w.heap.size := ⟨_, rfl⟩
  obtain ⟨W0, hW0⟩ : ∃ W, W = w.alloc (.cells #[.int .i64 0] 3) := ⟨_, rfl⟩
  have hx0 : Exc (fun k => k = g) w W0 := by rw [hW0]; exact (Exc.refl _ _).alloc _
  have ho0 : Own W0 r 3 [.int .i64 0] := by rw [hW0, hr]; exact own_new w _ _ _ rfl
  have hgr : g ≠ r := by have := hm.lt; omega
  have hm0 : MoAt W0 g m := hm.below (by rw [hW0]; exact below_alloc _ _)
  have hl0 : BRow W0 a n c l := hl.later (by rw [hW0]; exact below_alloc _ _)
  have mo := meth_over m.kd g
  have mc := meth_count m.kd g
  have ec := enter_count m.kd
  obtain ⟨T, hT⟩ : ∃ T, T = m.kd.ptr := ⟨_, rfl⟩
  obtain ⟨K, hK⟩ : ∃ K, K = m.kd.fCount := ⟨_, rfl⟩
  rw [← hT] at mo mc ⊢
  rw [← hK] at mc ec
  have hct : ∀ (mj : Mo) (W : World), mj.kd = m.kd → MoAt W g mj → ∀ ok, Calls Try.prog K #[.pointer (some ⟨g, 0, none⟩), .bool ok] W fun e w' => e = .returned (.tuple #[]) ∧ MoAt w' g (mj.count ok) ∧ Exc (fun k => k = g) W w' := by
    intro mj W e h ok
    rw [hK, ← e]
    exact count_any g mj ok W h
  have HCt := Lib.hid hct
  clear hT hK hct
  have HM0 := Lib.hid hm0
  have HL0 := Lib.hid hl0
  have HX0 := Lib.hid hx0
  have HO0 := Lib.hid ho0
  have HW0 := Lib.hid hW0
  have HNe := Lib.hid hne
  have HGr := Lib.hid hgr
  have HR := Lib.hid hr
  clear hm hl hne hW0 hx0 ho0 hgr hm0 hl0
  go_enter_defers Try.func14, Try.ntmps14
  go_wp2_with fail
  rw [← HW0.out, ← hr]
  clear hr
  go_loopw [12] (fun i wr => ∃ j : Nat, j ≤ n ∧ i = .int .i64 j ∧ (∀ i, i < j → (m.run (l.take i)).lvl ≠ m.lim) ∧ MoAt wr g (m.run (l.take j)) ∧ Exc (fun k => k = g) W0 wr) (fun i _ => n - (intOf i).toNat)
  case atStart => exact ⟨0, Nat.zero_le _, rfl, fun i h => absurd h (Nat.not_lt_zero _), HM0.out, Exc.refl _ _⟩
  case round =>
    obtain ⟨j, hj, rfl, hno, hmj, hxj⟩ := hrel
    obtain ⟨mj, hmj1⟩ : ∃ x, x = m.run (l.take j) := ⟨_, rfl⟩
    rw [← hmj1] at hmj
    by_cases hlt : j < n
    · have hji : (j : Int) < (n : Int) := by omega
      have j0 : (0 : Int) ≤ (j : Int) := by omega
      obtain ⟨sb, so, rfl, hcells⟩ := (HL0.out.exc hxj HNe.out).at (by omega)
      have hcj := hcells j hlt
      obtain ⟨ok, hok⟩ : ∃ ok, ok = l.getD j true := ⟨_, rfl⟩
      rw [← hok] at hcj
      have HOv := Lib.hid (over_any g mj wr hmj)
      have HX := Lib.hid hxj
      have HMj := Lib.hid hmj
      have HNo := Lib.hid hno
      have HOk := Lib.hid (And.intro hok hmj1)
      clear hno hmj hxj hcells hok hmj1
      go_wp2_with fail
      with_reducible refine HOv.out.mono ?_
      rintro e w2 ⟨rfl, q, rfl⟩
      have h2 := HMj.out.below (below_draw wr q)
      have x2 := HX.out.drawN q
      generalize wr.drewN q = W2 at h2 x2 ⊢
      have HM2 := Lib.hid h2
      have HX2 := Lib.hid x2
      clear h2 x2 HX HMj HOv hcj
      cases hov : mj.over
      · go_wp2_with fail
        with_reducible refine (HCt.out mj W2 (by rw [HOk.out.2, Mo.run_kd]) HM2.out ok).mono ?_
        rintro e W3 ⟨rfl, h3, x3⟩
        have HM3 := Lib.hid h3
        have HX3 := Lib.hid (HX2.out.trans x3 (fun _ _ h => h))
        have HOv := Lib.hid hov
        clear h3 x3 HM2 HX2 hov
        obtain ⟨J, hJ⟩ : ∃ J, J = j + 1 := ⟨_, rfl⟩
        have hw1 : IntKind.i64.wrap ((j : Int) + 1) = (J : Int) := by have h1 := HL0.out.le; have h2 := HL0.out.max; unfold maxLen at h2; rw [IntWalk.i64_in _ (by omega)]; omega
        have HJ := Lib.hid (And.intro hJ hlt)
        clear hJ hlt hj
        go_wp2_with fail
        refine ⟨⟨J, by have := HJ.out; omega, by rfl, ?_, ?_, HX3.out⟩, by simp only [intOf]; have := HJ.out; omega⟩
        · intro i hi
          rw [HJ.out.1] at hi
          rcases Nat.lt_succ_iff_lt_or_eq.1 hi with hi | rfl
          · exact HNo.out i hi
          · have := of_decide_eq_false HOv.out
            rw [HOk.out.2, Mo.run_lim] at this
            exact this
        · rw [HJ.out.1, Mo.run_take_succ _ _ _ (by rw [HL0.out.len]; exact HJ.out.2), ← HOk.out.2, ← HOk.out.1]
          exact HM3.out
      · have o2 : Own W2 r 3 [.int .i64 0] := by unfold Own; rw [HX2.out.block r HO0.out.lt (fun h => HGr.out h.symm)]; exact HO0.out
        have d0 := o2.cell 0 (by simp)
        have f0 := o2.frozen 0
        simp only [List.getD_cons_zero] at d0
        have HO2 := Lib.hid o2
        have HOv := Lib.hid hov
        clear o2 hov
        go_wp2
        refine leaves_cons (f := 19) (args := #[.pointer (some ⟨r, 0, none⟩)]) (by simp) (by simp [go_sem]) ?_
        refine (catch_idle ⟨r, 0, none⟩ _).mono ?_
        rintro e u' w'' ⟨rfl, rfl, rfl⟩
        have e1 := (HO2.out.set 0 (.int .i64 (j : Int))).cell 0 (by simp)
        simp only [List.set_cons_zero, List.getD_cons_zero] at e1
        simp [Leaves, settle, results, Try.results14, go_sem, e1]
        have hf : m.first l = some j := Mo.first_eq_some (by rw [HL0.out.len]; exact hj) (by rw [← HOk.out.2]; have := of_decide_eq_true HOv.out; rw [this, HOk.out.2, Mo.run_lim]) HNo.out
        refine ⟨by unfold Mo.firstI; rw [hf], ?_, (HX0.out.trans HX2.out (fun _ _ h => h)).setCell _ (.inr (by rw [HR.out]; exact Nat.le_refl _)) _⟩
        rw [Mo.after_some hf, ← HOk.out.2]
        exact ⟨HM2.out.own.other _ HGr.out _, HM2.out.fit⟩
    · obtain rfl : j = n := by omega
      have hji : ¬ (j : Int) < (j : Int) := by omega
      have HX := Lib.hid hxj
      have HMj := Lib.hid hmj
      have HNo := Lib.hid hno
      have HOk := Lib.hid hmj1
      have HOv := Lib.hid (over_any g mj wr hmj)
      clear hno hmj hxj hmj1 hlt hj
      go_wp2_with fail
      with_reducible refine HOv.out.mono ?_
      rintro e w2 ⟨rfl, q, rfl⟩
      have h2 := HMj.out.below (below_draw wr q)
      have x2 := HX.out.drawN q
      generalize wr.drewN q = W2 at h2 x2 ⊢
      have o2 : Own W2 r 3 [.int .i64 0] := by unfold Own; rw [x2.block r HO0.out.lt (fun h => HGr.out h.symm)]; exact HO0.out
      have d0 := o2.cell 0 (by simp)
      have f0 := o2.frozen 0
      simp only [List.getD_cons_zero] at d0
      have HO2 := Lib.hid o2
      have HM2 := Lib.hid h2
      have HX2 := Lib.hid x2
      clear h2 x2 HX HMj HOv o2
      cases hov : mj.over
      · have HOv := Lib.hid hov
        clear hov
        go_wp2
        refine leaves_cons (f := 19) (args := #[.pointer (some ⟨r, 0, none⟩)]) (by simp) (by simp [go_sem]) ?_
        refine (catch_idle ⟨r, 0, none⟩ _).mono ?_
        rintro e u' w'' ⟨rfl, rfl, rfl⟩
        have e1 := (HO2.out.set 0 (.int .i64 (-1))).cell 0 (by simp)
        simp only [List.set_cons_zero, List.getD_cons_zero] at e1
        simp [Leaves, settle, results, Try.results14, go_sem, e1]
        have hf : m.first l = none := (Mo.first_none_iff m l).2 (by
          intro i hi
          rw [HL0.out.len] at hi
          by_cases e : i = j
          · have := of_decide_eq_false HOv.out
            rw [HOk.out, Mo.run_lim] at this
            rw [e]; exact this
          · exact HNo.out i (by omega))
        refine ⟨by unfold Mo.firstI; rw [hf], ?_, (HX0.out.trans HX2.out (fun _ _ h => h)).setCell _ (.inr (by rw [HR.out]; exact Nat.le_refl _)) _⟩
        rw [Mo.after_none hf]
        have e2 : m.run l = mj := by rw [HOk.out, ← HL0.out.len, List.take_length]
        rw [e2]
        exact ⟨HM2.out.own.other _ HGr.out _, HM2.out.fit⟩
      · have HOv := Lib.hid hov
        clear hov
        go_wp2
        refine leaves_cons (f := 19) (args := #[.pointer (some ⟨r, 0, none⟩)]) (by simp) (by simp [go_sem]) ?_
        refine (catch_idle ⟨r, 0, none⟩ _).mono ?_
        rintro e u' w'' ⟨rfl, rfl, rfl⟩
        have e1 := (HO2.out.set 0 (.int .i64 (j : Int))).cell 0 (by simp)
        simp only [List.set_cons_zero, List.getD_cons_zero] at e1
        simp [Leaves, settle, results, Try.results14, go_sem, e1]
        have hf : m.first l = some j := Mo.first_eq_some (by rw [HL0.out.len]; exact Nat.le_refl _) (by rw [← HOk.out]; have := of_decide_eq_true HOv.out; rw [this, HOk.out, Mo.run_lim]) HNo.out
        refine ⟨by unfold Mo.firstI; rw [hf], ?_, (HX0.out.trans HX2.out (fun _ _ h => h)).setCell _ (.inr (by rw [HR.out]; exact Nat.le_refl _)) _⟩
        rw [Mo.after_some hf, ← HOk.out]
        exact ⟨HM2.out.own.other _ HGr.out _, HM2.out.fit⟩
set_option maxHeartbeats 1000000 in
set_option maxRecDepth 100000 in
theorem first_nil (a : Option Addr) (n c : Nat) (w : World) :
    Calls Try.prog 14 #[.nilIface, .slice a n c] w fun e w' => e = .returned (.int .i64 (-1)) ∧ Below w.heap.size w w' := by
  have hmf : ∀ (fn : Fn) (first cap : Array Value) (w : World), (Instr.makeFunc fn first cap).run Try.prog w = .ok (.func fn first cap) w := fun _ _ _ _ => rfl
  go_enter_defers Try.func14, Try.ntmps14
  go_wp2_with fail
  simp [bodyPostD, Leaves, results, Try.results14, go_sem]
  exact below_alloc _ _
end Go.Proofs.Ytblhfdkopnaobaa
