/- BasicsErrors: for every input the law returns true and its arguments read as before. No condition. -/
import Derived.Test.YtfoliplejhoaeaaWkErrors
import Derived.Test.YtfoliplejhoaeaaEaFace
import Derived.Test.YtfoliplejhoaeaaBaLives
import Derived.Test.YtfoliplejhoaeaaUnOpen
import Derived.Deep.Fields
import Derived.ProofKit
import Derived.OpenShut
import Derived.ShutString
import Derived.ChangeOld
namespace Go.Proofs.Ytfoliplejhoaeaa
open Go.RowKit
theorem errors_walk (la : Option Addr) (ln lc : Nat) (ll : List Int) (a0 : Int) (b1 : Bool) (a2 : Int) (b3 : Bool) (a4 a5 : Int) (s : Option Addr) (n c : Nat) (l : List Int) (w : World) (hL : Row .u8 w la ln lc ll)
    (hfz : ∀ b o, la = some ⟨b, o, none⟩ → ∀ i, i < ln → w.frozen? ⟨b, o + i, none⟩ = false) (h0 : (Lit.int .u8 a0).wf = true) (h2 : (Lit.int .u8 a2).wf = true) (h4 : (Lit.int .u8 a4).wf = true) (h5 : (Lit.int .u8 a5).wf = true) (hU : Row .u8 w s n c l) :
    Calls Try.prog 8 #[.slice la ln lc, .agg #[.int .u8 a0, .bool b1, .int .u8 a2, .bool b3, .int .u8 a4, .int .u8 a5, .slice s n c]] w fun e w' => e = .returned (.bool true) ∧ Below w.heap.size w w' := by
  have g0 := wf_u8.1 h0
  have g2 := wf_u8.1 h2
  have g4 := wf_u8.1 h4
  have g5 := wf_u8.1 h5
  obtain ⟨A0, rfl⟩ := Int.eq_ofNat_of_zero_le g0.1
  obtain ⟨A2, rfl⟩ := Int.eq_ofNat_of_zero_le g2.1
  obtain ⟨A4, rfl⟩ := Int.eq_ofNat_of_zero_le g4.1
  obtain ⟨A5, rfl⟩ := Int.eq_ofNat_of_zero_le g5.1
  exact errors_any (lives_any endFace endMore) w la ln lc ll A0 A2 A4 A5 b1 b3 s n c l hL hU (by omega) (by omega) (by omega) (by omega) hfz
end Go.Proofs.Ytfoliplejhoaeaa
namespace Go.Proofs.Ytfoliplejhoaeaa.basicsErrors
open Go.ChangeShapes Go.WideShapes Go.ChangeAt Go.RowKit
open Go.ChangeMaps (open_string shut_string)
set_option linter.unusedVariables false

theorem own : ownKnob Try.prog.godebug = none := by kernel_rfl
theorem laidOut : laidOutB Try.prog = true := by kernel_rfl

set_option maxRecDepth 100000 in
theorem lifted (os : Os) (started : os.Started) (H : Type) (enc : TypeId × Value → H) :
    ReturnsInHanded {} Try.checked os 8 .any (Rows.basicsErrorsSpec.pre6 enc Try.prog Try.f8 Rows.basicsErrorsRow.domain false) (Rows.basicsErrorsSpec.post enc Try.prog Try.f8 false true false false) := by
  refine returnsInHanded_of_change (C := Try.checked) own started (by kernel_rfl) Try.func8
    (ChangeSpec.witness6 (enc := enc) (C := Try.checked) false ⟨#[], #[.slice none 0 0, .agg #[.int .u8 0, .bool false, .int .u8 0, .bool false, .int .u8 0, .int .u8 0, .slice none 0 0]], []⟩ 8 (by kernel_rfl) (by kernel_rfl) (by kernel_rfl) (by kernel_rfl)) ?_
  intro W base args ds gs before hval0 hW hcnd _
  have hval : ∀ (j : Nat) t v, Try.f8.params[j]? = some t → args[j]? = some v → Value.okWide Try.prog W .any base t v := hval0
  have hW' := hW
  obtain ⟨p, q, hA0, hV, rfl, hfz, hnd⟩ := hW
  have hA : DataW.TrodAll enc Try.prog W 0 (fun _ => true) true Try.f8.params.toList args.toList ds p := hA0
  rw [Try.params8] at hA hval
  obtain ⟨v0, vs0, d0, ds0, p0, q0, hargs, rfl, rfl, h0, r0⟩ := trodAll_cons hA
  obtain ⟨v1, vs1, d1, ds1, p1, q1, rfl, rfl, rfl, h1, r1⟩ := trodAll_cons r0
  obtain ⟨rfl, rfl, rfl⟩ := trodAll_nil r1
  obtain rfl : args = #[v0, v1] := by cases args; simp_all
  obtain ⟨rfl, rfl⟩ := trodVars_none hV
  obtain ⟨a0, len0, cap0, rfl⟩ := okWide_slice Try.underlying32 (hval 0 32 v0 rfl rfl)
  have k0 := h0
  have lt0 : ∀ x ∈ p0, x.block < W.heap.size := by obtain ⟨m, hm⟩ := k0; exact DataW.trod_lt m _ _ _ hm
  obtain ⟨l0, w0, fz0⟩ : ∃ l, Row .u8 W a0 len0 cap0 l ∧ ∀ b o, a0 = some ⟨b, o, none⟩ → ∀ i, i < len0 → W.frozen? ⟨b, o + i, none⟩ = false := by
    obtain ⟨fuel, hf⟩ := h0
    rcases open_ints Try.underlying32 Try.underlying5 (by kernel_rfl) hf with ⟨hcs, _⟩ | ⟨x, l, c, zs, hcs, _, hl, hm, hz, hxp, hcell, hwz⟩
    · simp [Value.cells] at hcs
      obtain ⟨rfl, rfl, rfl⟩ := hcs
      exact ⟨[], Row.of_nil _ _, fun b o hh => by simp at hh⟩
    · simp [Value.cells] at hcs
      obtain ⟨rfl, rfl, rfl⟩ := hcs
      have hz' : zs.length = cap0 := by simpa using hz
      simp only [Prod.mk.injEq] at hxp
      obtain ⟨_, hpl⟩ := hxp
      refine ⟨_, Row.of_open (.inr ⟨_, rfl, hl, hm, by simpa using hz, hcell, hwz⟩), fun b o hh i hi => ?_⟩
      cases hh
      refine hfz b (o + i) ?_
      simp only [hpl, MemPlace.row, List.mem_append, List.mem_map, List.mem_range]
      exact .inl (.inl ⟨i, by omega, rfl⟩)
  have k1 := h1
  have lt1 : ∀ x ∈ p1, x.block < W.heap.size := by obtain ⟨m, hm⟩ := k1; exact DataW.trod_lt m _ _ _ hm
  obtain ⟨a1_0, a1_1, a1_2, a1_3, a1_4, a1_5, s1, n1, c1, l1, rfl, w1_0, w1_2, w1_4, w1_5, w1_6⟩ := unit_open (hval 1 41 v1 rfl rfl) h1
  clear hA0 hval0
  refine (errors_walk a0 len0 cap0 l0 a1_0 a1_1 a1_2 a1_3 a1_4 a1_5 s1 n1 c1 l1 W w0 fz0 w1_0 w1_2 w1_4 w1_5 w1_6).mono fun e W' ⟨he, bel⟩ => ?_
  subst he
  exact ⟨_, rfl, _, _, _, [], _, [], hW', trodAll_mk1 (shut_bool Try.underlying4 _), (trodAll_cons_mk (Below.trod laidOut (by kernel_rfl) (of_decide_eq_true (by kernel_rfl)) k0 bel lt0) (trodAll_cons_mk (Below.trod laidOut (by kernel_rfl) (of_decide_eq_true (by kernel_rfl)) k1 bel lt1) trodAll_mk0)), rfl, bel.frame _, fun h => by cases h⟩

theorem over : Rows.basicsErrorsRow.holds Try.pinned (OpenSpec.ofChange Rows.basicsErrorsSpec) :=
  OpenClaim.holds_of_wide 8 Try.f8 rfl rfl rfl rfl rfl rfl rfl ⟨rfl, rfl, rfl, rfl, rfl⟩ rfl rfl rfl rfl rfl (by kernel_rfl) Try.func8 (by kernel_rfl)
    (of_decide_eq_true (by kernel_rfl)) (by unfold Func.isWrapper; first | (rw [if_pos (by decide +kernel)]; kernel_rfl) | (rw [if_neg (by decide +kernel)]; exact ⟨rfl, rfl⟩))
    (fun os started H enc _ => lifted os started H enc)

theorem proved : Rows.BasicsErrorsSaid := over
end Go.Proofs.Ytfoliplejhoaeaa.basicsErrors
