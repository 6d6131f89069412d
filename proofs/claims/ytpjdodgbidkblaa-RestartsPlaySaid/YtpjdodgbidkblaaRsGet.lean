/- What a machine's methods read: isNone, check, State, isUp, isOpen, end. -/
import Derived.Test.YtpjdodgbidkblaaRsAt
import Derived.Deep.RegionLaw
import Derived.BigRegion
namespace Go.Proofs.Ytpjdodgbidkblaa
open Go.RowKit Go.Maps

theorem eqlSome (bm : Nat) (w : World) : (binOp .eql 44 (.map (some bm)) (.map none)).run Try.prog w = .ok (.bool false) w := by kernel_rfl
theorem eqlNil (w : World) : (binOp .eql 44 (.map none) (.map none)).run Try.prog w = .ok (.bool true) w := by kernel_rfl
set_option maxRecDepth 100000 in
theorem isNone_nul (a : Option Addr) (w : World) (h : Nul w a) : Calls Try.prog 14 #[.pointer a] w fun e w' => e = .returned (.bool true) ∧ w = w' := by
  rcases h with rfl | ⟨b, rfl, hc⟩
  · go_enter Try.func14, Try.ntmps14
    go_wp2
    go_ret
    exact ⟨rfl, rfl⟩
  · have hq1 := eqlNil w
    go_enter Try.func14, Try.ntmps14
    go_wp2
    go_ret
    exact ⟨rfl, rfl⟩
set_option maxRecDepth 100000 in
theorem isNone_any {mb bm : Nat} {m : Mc} (w : World) (h : McAt w mb bm m) : Calls Try.prog 14 #[.pointer (some ⟨mb, 0, none⟩)] w fun e w' => e = .returned (.bool false) ∧ w = w' := by
  obtain ⟨g0, g1, g2, g3⟩ := h.cells
  have hq1 := eqlSome bm w
  clear h
  go_enter Try.func14, Try.ntmps14
  go_wp2
  go_ret
  exact ⟨rfl, rfl⟩
set_option maxRecDepth 100000 in
theorem state_nul (a : Option Addr) (w : World) (h : Nul w a) : Calls Try.prog 9 #[.pointer a] w fun e w' => e = .returned (.int .u8 1) ∧ w = w' := by
  have HE := Lib.hid (isNone_nul a w h)
  clear h
  go_enter Try.func9, Try.ntmps9
  go_wp2_with fail
  with_reducible refine HE.out.mono ?_
  rintro e w' ⟨rfl, rfl⟩
  go_wp2
  go_ret
  exact ⟨rfl, rfl⟩
set_option maxRecDepth 100000 in
theorem state_any {mb bm : Nat} {m : Mc} (w : World) (h : McAt w mb bm m) : Calls Try.prog 9 #[.pointer (some ⟨mb, 0, none⟩)] w fun e w' => e = .returned (.int .u8 m.st) ∧ w = w' := by
  obtain ⟨g0, g1, g2, g3⟩ := h.cells
  have HE := Lib.hid (isNone_any w h)
  clear h
  go_enter Try.func9, Try.ntmps9
  go_wp2_with fail
  with_reducible refine HE.out.mono ?_
  rintro e w' ⟨rfl, rfl⟩
  go_wp2
  go_ret
  exact ⟨rfl, rfl⟩
set_option maxRecDepth 100000 in
theorem check_nul (a : Option Addr) (n : Int) (w : World) (h : Nul w a) : Calls Try.prog 15 #[.pointer a, .int .u16 n] w fun e w' => e = .returned (.int .i64 2) ∧ w = w' := by
  have HE := Lib.hid (isNone_nul a w h)
  clear h
  go_enter Try.func15, Try.ntmps15
  go_wp2_with fail
  with_reducible refine HE.out.mono ?_
  rintro e w' ⟨rfl, rfl⟩
  go_wp2
  go_ret
  exact ⟨rfl, rfl⟩
set_option maxRecDepth 100000 in
theorem check_any {mb bm : Nat} {m : Mc} (n : Int) (w : World) (h : McAt w mb bm m) (hn : (Lit.int .u16 n).wf = true) :
    Calls Try.prog 15 #[.pointer (some ⟨mb, 0, none⟩), .int .u16 n] w fun e w' => e = .returned (.int .i64 (if n ∈ m.N then 0 else 7)) ∧ Below w.heap.size w w' := by
  obtain ⟨g0, g1, g2, g3⟩ := h.cells
  have HE := Lib.hid (isNone_any w h)
  obtain ⟨u, d, hr⟩ := h.map.run_ok hn
  have HB : Hid (∀ x, Below w.heap.size w (w.alloc x)) := Lib.hid (fun x => below_alloc w x)
  by_cases hq : n ∈ m.N
  · rw [decide_eq_true hq] at hr
    rw [if_pos hq]
    clear h hn hq
    go_enter Try.func15, Try.ntmps15
    go_wp2_with fail
    with_reducible refine HE.out.mono ?_
    rintro e w' ⟨rfl, rfl⟩
    go_wp2
    go_ret
    exact ⟨rfl, HB.out _⟩
  · rw [decide_eq_false hq] at hr
    rw [if_neg hq]
    clear h hn hq
    go_enter Try.func15, Try.ntmps15
    go_wp2_with fail
    with_reducible refine HE.out.mono ?_
    rintro e w' ⟨rfl, rfl⟩
    go_wp2
    go_ret
    exact ⟨rfl, HB.out _⟩
set_option maxRecDepth 100000 in
theorem isUp_any (u d : Bool) (w : World) : Calls Try.prog 17 #[.agg #[.bool u, .bool d]] w fun e w' => e = .returned (.bool u) ∧ Below w.heap.size w w' := by
  have HB : Hid (∀ x, Below w.heap.size w (w.alloc x)) := Lib.hid (fun x => below_alloc w x)
  go_enter Try.func17, Try.ntmps17
  go_wp2
  go_ret
  exact ⟨rfl, HB.out _⟩
set_option maxRecDepth 100000 in
theorem isOpen_any (u d : Bool) (w : World) : Calls Try.prog 18 #[.agg #[.bool u, .bool d]] w fun e w' => e = .returned (.bool (u && !d)) ∧ Below w.heap.size w w' := by
  have HB : Hid (∀ x, Below w.heap.size w (w.alloc x)) := Lib.hid (fun x => below_alloc w x)
  cases u <;> cases d
  all_goals
    go_enter Try.func18, Try.ntmps18
    go_wp2
    go_ret
    exact ⟨rfl, HB.out _⟩
set_option maxRecDepth 100000 in
theorem end_any {mb bm : Nat} {m : Mc} (w : World) (h : McAt w mb bm m) : Calls Try.prog 19 #[.pointer (some ⟨mb, 0, none⟩)] w fun e w' => e = .returned (.int .i64 m.fin) ∧ Below w.heap.size w w' := by
  obtain ⟨g0, g1, g2, g3⟩ := h.cells
  have hb := h.base
  have hg := wf_i64.1 h.beg
  obtain ⟨B, hB⟩ : ∃ B, B = m.base := ⟨_, rfl⟩
  obtain ⟨G, hG⟩ : ∃ G, G = m.beg := ⟨_, rfl⟩
  have hf : m.fin = if G > 9223372036854775807 - B then 9223372036854775807 else G + B := by rw [hB, hG]; rfl
  rw [hf]
  rw [← hB] at g1 hb
  rw [← hG] at g3 hg
  have hs : IntKind.i64.wrap (9223372036854775807 - B) = 9223372036854775807 - B := IntWalk.i64_in _ (by omega)
  have HB : Hid (∀ n, Below w.heap.size w (w.drewN n)) := Lib.hid (fun n => below_draw w n)
  by_cases hq : G > 9223372036854775807 - B
  · rw [if_pos hq]
    have hq1 : decide (9223372036854775807 - B < G) = true := decide_eq_true (by omega)
    clear h hB hG hf hb hg hq
    go_enter Try.func19, Try.ntmps19
    go_wp2_with go_quiet (fail)
    go_ret
    refine ⟨rfl, ?_⟩
    first | exact HB.out _ | exact HB.out 1 | exact HB.out 2 | (trace_state; fail)
  · rw [if_neg hq]
    have hs2 : IntKind.i64.wrap (G + B) = G + B := IntWalk.i64_in _ (by omega)
    have hq1 : ¬ 9223372036854775807 - B < G := by omega
    clear h hB hG hf hb hg hq
    go_enter Try.func19, Try.ntmps19
    go_wp2_with go_quiet (fail)
    go_ret
    refine ⟨rfl, ?_⟩
    first | exact HB.out _ | exact HB.out 1 | exact HB.out 2 | (trace_state; fail)
end Go.Proofs.Ytpjdodgbidkblaa
