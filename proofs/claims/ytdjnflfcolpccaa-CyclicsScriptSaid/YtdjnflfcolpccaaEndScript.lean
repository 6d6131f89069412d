/- CyclicsScript: for every input the law returns true and its arguments read as before. No condition. -/
import Derived.Test.YtdjnflfcolpccaaWkScript
import Derived.Test.YtdjnflfcolpccaaEaFace
import Derived.Test.YtdjnflfcolpccaaBaLives
import Derived.Test.YtdjnflfcolpccaaUnOpen
import Derived.DataReads
import Derived.ChangeArms
import Derived.ProofKit
import Derived.OpenShut
import Derived.ShutString
import Derived.ChangeOld
import Derived.Lib.SmallJoins
namespace Go.Proofs.Ytdjnflfcolpccaa
open Go.RowKit
set_option maxRecDepth 100000 in
theorem act_trod {H : Type} {enc : TypeId × Value → H} {W : World} {base : Nat} {held : Bool} {fuel : Nat} {cs : List Value} {x : DataW H × List MemPlace}
    (h : DataW.trod enc Try.prog W base (fun _ => true) held fuel 40 cs = some x) (hl : cs.length = 7) :
    ∃ a : AcV, AcOk W a ∧ cs = [.int .u8 (a.kd : Int), .int .u8 (a.n0 : Int), .int .u8 (a.n1 : Int), .int .u8 (a.n2 : Int), .int .u8 (a.n3 : Int), .int .u16 (a.sz : Int), .slice a.s a.n a.c] := by
  match cs, hl with
  | [c0, c1, c2, c3, c4, c5, c6], _ =>
    have k5 : Try.prog.cellsOf 5 = 1 := by kernel_rfl
    have k22 : Try.prog.cellsOf 22 = 1 := by kernel_rfl
    have k36 : Try.prog.cellsOf 36 = 1 := by kernel_rfl
    have kU : Try.prog.cellsOf 38 = 6 := by kernel_rfl
    obtain ⟨xs, n, _, _, _, hxl, hg⟩ := DataW.trod_struct Try.underlying40 h
    match xs, hxl with
    | [y0, y1], _ =>
      have r0 : DataW.trod enc Try.prog W base (fun _ => true) held n 5 (([c0, c1, c2, c3, c4, c5, c6].drop 0).take (Try.prog.cellsOf 5)) = some y0 := hg 0 _ rfl
      have r1 : DataW.trod enc Try.prog W base (fun _ => true) held n 38 (([c0, c1, c2, c3, c4, c5, c6].drop 1).take (Try.prog.cellsOf 38)) = some y1 := hg 1 _ rfl
      rw [k5] at r0
      rw [kU] at r1
      simp only [List.drop_zero, List.drop_succ_cons, List.take_succ_cons, List.take_zero] at r0 r1
      obtain ⟨ys, m, _, _, _, hyl, hu⟩ := DataW.trod_struct Try.underlying38 r1
      match ys, hyl with
      | [z0, z1, z2, z3, z4, z5], _ =>
        have q0 : DataW.trod enc Try.prog W base (fun _ => true) held m 5 (([c1, c2, c3, c4, c5, c6].drop 0).take (Try.prog.cellsOf 5)) = some z0 := hu 0 _ rfl
        rw [k5] at q0
        have q1 : DataW.trod enc Try.prog W base (fun _ => true) held m 5 (([c1, c2, c3, c4, c5, c6].drop 1).take (Try.prog.cellsOf 5)) = some z1 := hu 1 _ rfl
        rw [k5] at q1
        have q2 : DataW.trod enc Try.prog W base (fun _ => true) held m 5 (([c1, c2, c3, c4, c5, c6].drop 2).take (Try.prog.cellsOf 5)) = some z2 := hu 2 _ rfl
        rw [k5] at q2
        have q3 : DataW.trod enc Try.prog W base (fun _ => true) held m 5 (([c1, c2, c3, c4, c5, c6].drop 3).take (Try.prog.cellsOf 5)) = some z3 := hu 3 _ rfl
        rw [k5] at q3
        have q4 : DataW.trod enc Try.prog W base (fun _ => true) held m 22 (([c1, c2, c3, c4, c5, c6].drop 4).take (Try.prog.cellsOf 22)) = some z4 := hu 4 _ rfl
        rw [k22] at q4
        have q5 : DataW.trod enc Try.prog W base (fun _ => true) held m 36 (([c1, c2, c3, c4, c5, c6].drop 5).take (Try.prog.cellsOf 36)) = some z5 := hu 5 _ rfl
        rw [k36] at q5
        simp only [List.drop_zero, List.drop_succ_cons, List.take_succ_cons, List.take_zero] at q0 q1 q2 q3 q4 q5
        obtain ⟨a, e, _, w0⟩ := DataW.trod_int Try.underlying5 r0
        obtain ⟨a0, e0, _, w1⟩ := DataW.trod_int Try.underlying5 q0
        obtain ⟨a1, e1, _, w2⟩ := DataW.trod_int Try.underlying5 q1
        obtain ⟨a2, e2, _, w3⟩ := DataW.trod_int Try.underlying5 q2
        obtain ⟨a3, e3, _, w4⟩ := DataW.trod_int Try.underlying5 q3
        obtain ⟨a4, e4, _, w5⟩ := DataW.trod_int Try.underlying22 q4
        obtain ⟨s, p, c, l, e5, hr⟩ := row_open q5
        simp only [List.cons.injEq, and_true] at e e0 e1 e2 e3 e4
        subst e e0 e1 e2 e3 e4 e5
        have b := wf_u8.1 w0
        have b0 := wf_u8.1 w1
        have b1 := wf_u8.1 w2
        have b2 := wf_u8.1 w3
        have b3 := wf_u8.1 w4
        have b4 : 0 ≤ a4 ∧ a4 ≤ 65535 := by simpa [Lit.wf, IntKind.min, IntKind.max, IntKind.bits, IntKind.signed] using w5
        refine ⟨⟨a.toNat, a0.toNat, a1.toNat, a2.toNat, a3.toNat, a4.toNat, s, p, c, l⟩, ⟨by show a.toNat ≤ 255; omega, by show a0.toNat ≤ 255; omega, by show a1.toNat ≤ 255; omega, by show a2.toNat ≤ 255; omega, by show a3.toNat ≤ 255; omega, by show a4.toNat ≤ 65535; omega, hr⟩, ?_⟩
        have t : ∀ z : Int, 0 ≤ z → ((z.toNat : Nat) : Int) = z := fun z hz => by omega
        simp only [t a b.1, t a0 b0.1, t a1 b1.1, t a2 b2.1, t a3 b3.1, t a4 b4.1]
theorem cells_seven {w : World} {base : Nat} {a : Addr} {cs : List Value} (h : w.cells? base a 7 = some cs) : cs.length = 7 ∧ ∀ j, j < 7 → w.cell? (a.add j) = cs[j]? := by
  unfold World.cells? at h
  split at h
  · have hl := mapM_some_length h
    rw [List.length_range] at hl
    exact ⟨hl, fun j hj => mapM_some_get h j j (by rw [List.getElem?_range hj])⟩
  · cases h
theorem addr_none (b o j : Nat) : (⟨b, o, none⟩ : Addr).add j = ⟨b, o + j, none⟩ := by unfold Addr.add; split <;> simp_all
set_option maxRecDepth 100000 in
theorem acts_open {H : Type} {enc : TypeId × Value → H} {W : World} {base : Nat} {held : Bool} {fuel : Nat} {cs : List Value} {x : DataW H × List MemPlace}
    (h : DataW.trod enc Try.prog W base (fun _ => true) held fuel 25 cs = some x) : ∃ s n c L, cs = [.slice s n c] ∧ AcsAt W s n c L := by
  have kA : Try.prog.cellsOf 40 = 7 := by kernel_rfl
  rcases DataW.trod_slice Try.underlying25 h with ⟨rfl, _⟩ | ⟨a, len, cap, elems, rest, n, _, rfl, _, _, hl, hm, hlen, hel, _, _⟩
  · exact ⟨none, 0, 0, [], rfl, ⟨rfl, Nat.le_refl _, Nat.zero_le _, fun i x hx => by simp at hx⟩⟩
  · have each : ∀ i, i < len → ∃ y : AcV, AcOk W y ∧ ∀ j, j < 7 → W.cell? ((a.add (i * 7)).add j) = [Value.int .u8 (y.kd : Int), .int .u8 (y.n0 : Int), .int .u8 (y.n1 : Int), .int .u8 (y.n2 : Int), .int .u8 (y.n3 : Int), .int .u16 (y.sz : Int), .slice y.s y.n y.c][j]? := by
      intro i hi
      have he' := hel i hi
      rw [kA, List.getElem?_eq_getElem (by omega), Option.bind_eq_some_iff] at he'
      obtain ⟨cs', hcs, hy⟩ := he'
      obtain ⟨h7, hc⟩ := cells_seven hcs
      obtain ⟨y, hok, rfl⟩ := act_trod hy h7
      exact ⟨y, hok, hc⟩
    refine ⟨some a, len, cap, (List.range len).map fun i => if hi : i < len then Classical.choose (each i hi) else ⟨0, 0, 0, 0, 0, 0, none, 0, 0, []⟩, rfl, ⟨by simp, hl, hm, fun i y hy => ?_⟩⟩
    have hi : i < len := by have := (List.getElem?_eq_some_iff.1 hy).1; simpa using this
    have hy' : y = Classical.choose (each i hi) := by simpa [hi] using hy.symm
    obtain ⟨hok, hc⟩ := Classical.choose_spec (each i hi)
    rw [← hy'] at hok hc
    refine ⟨hok, ?_⟩
    obtain ⟨b, off, spot⟩ := a
    have hspot : spot = none := by
      obtain ⟨y0, _, hc0⟩ := each 0 (by omega)
      have h2 : W.cell? (((⟨b, off, spot⟩ : Addr).add (0 * 7)).add 0) = some (.int .u8 (y0.kd : Int)) := hc0 0 (by decide)
      have h3 := World.cell?_spot h2
      have e : (((⟨b, off, spot⟩ : Addr).add (0 * 7)).add 0) = ⟨b, off, spot⟩ := by simp [Addr.add]
      rw [e] at h3
      exact h3
    subst hspot
    have key : ∀ j, j < 7 → W.cell? ⟨b, off + i * 7 + j, none⟩ = [Value.int .u8 (y.kd : Int), .int .u8 (y.n0 : Int), .int .u8 (y.n1 : Int), .int .u8 (y.n2 : Int), .int .u8 (y.n3 : Int), .int .u16 (y.sz : Int), .slice y.s y.n y.c][j]? := fun j hj => by
      have := hc j hj
      rw [addr_none, addr_none] at this
      exact this
    exact ⟨b, off, rfl, key 0 (by decide), key 1 (by decide), key 2 (by decide), key 3 (by decide), key 4 (by decide), key 5 (by decide), key 6 (by decide)⟩
theorem wf_u16' {x : Int} (h : (Lit.int .u16 x).wf = true) : 0 ≤ x ∧ x ≤ 65535 := by
  simpa [Lit.wf, IntKind.min, IntKind.max, IntKind.bits, IntKind.signed] using h
theorem script_walk (x0 x1 : Int) (s : Option Addr) (n c : Nat) (l : List AcV) (w : World) (h0 : (Lit.int .u8 x0).wf = true) (h1 : (Lit.int .u16 x1).wf = true) (h : AcsAt w s n c l) :
    Calls Try.prog 3 #[.agg #[.int .u8 x0, .int .u16 x1], .slice s n c] w fun e w' => e = .returned (.bool true) ∧ Below w.heap.size w w' := by
  obtain ⟨a0, a1⟩ := wf_u8.1 h0
  obtain ⟨b0, b1⟩ := wf_u16' h1
  obtain ⟨a, rfl⟩ : ∃ a : Nat, x0 = (a : Int) := ⟨x0.toNat, by omega⟩
  obtain ⟨b, rfl⟩ : ∃ b : Nat, x1 = (b : Int) := ⟨x1.toNat, by omega⟩
  exact script_any (lives_any endFace) a b (by omega) (by omega) w s n c l h
end Go.Proofs.Ytdjnflfcolpccaa
namespace Go.Proofs.Ytdjnflfcolpccaa.cyclicsScript
open Go.ChangeShapes Go.WideShapes Go.ChangeAt Go.RowKit Go.Joins
open Go.ChangeMaps (open_string shut_string)
set_option linter.unusedVariables false

theorem own : ownKnob Try.prog.godebug = none := by kernel_rfl
theorem laidOut : laidOutB Try.prog = true := by kernel_rfl

set_option maxRecDepth 100000 in
theorem lifted (os : Os) (started : os.Started) (H : Type) (enc : TypeId × Value → H) :
    ReturnsInHanded {} Try.checked os 3 .any (Rows.cyclicsScriptSpec.pre6 enc Try.prog Try.f3 Rows.cyclicsScriptRow.domain false) (Rows.cyclicsScriptSpec.post enc Try.prog Try.f3 false true false false) := by
  refine returnsInHanded_of_change (C := Try.checked) own started (by kernel_rfl) Try.func3
    (ChangeSpec.witness6 (enc := enc) (C := Try.checked) false ⟨#[], #[.agg #[.int .u8 0, .int .u16 0], .slice none 0 0], []⟩ 8 (by kernel_rfl) (by kernel_rfl) (by kernel_rfl) (by kernel_rfl)) ?_
  intro W base args ds gs before hval0 hW hcnd _
  have hval : ∀ (j : Nat) t v, Try.f3.params[j]? = some t → args[j]? = some v → Value.okWide Try.prog W .any base t v := hval0
  have hW' := hW
  obtain ⟨p, q, hA0, hV, rfl, hfz, hnd⟩ := hW
  have hA : DataW.TrodAll enc Try.prog W 0 (fun _ => true) true Try.f3.params.toList args.toList ds p := hA0
  rw [Try.params3] at hA hval
  obtain ⟨v0, vs0, d0, ds0, p0, q0, hargs, rfl, rfl, h0, r0⟩ := trodAll_cons hA
  obtain ⟨v1, vs1, d1, ds1, p1, q1, rfl, rfl, rfl, h1, r1⟩ := trodAll_cons r0
  obtain ⟨rfl, rfl, rfl⟩ := trodAll_nil r1
  obtain rfl : args = #[v0, v1] := by cases args; simp_all
  obtain ⟨rfl, rfl⟩ := trodVars_none hV
  obtain ⟨c0_0, c0_1, y0_0, y0_1, m0, rfl, rfl, rfl, hy0_0, hy0_1⟩ := open_agg2 Try.underlying24 (by kernel_rfl) (by kernel_rfl : Try.prog.cellsOf 24 = 2) (hval 0 24 v0 rfl rfl) h0
  obtain ⟨a0_0, e0_0, rfl, w0_0⟩ := DataW.trod_int Try.underlying5 hy0_0
  simp at e0_0
  subst e0_0
  obtain ⟨a0_1, e0_1, rfl, w0_1⟩ := DataW.trod_int Try.underlying22 hy0_1
  simp at e0_1
  subst e0_1
  obtain ⟨a1, len1, cap1, rfl⟩ := okWide_slice Try.underlying25 (hval 1 25 v1 rfl rfl)
  have k1 := h1
  have lt1 : ∀ x ∈ p1, x.block < W.heap.size := by obtain ⟨m, hm⟩ := k1; exact DataW.trod_lt m _ _ _ hm
  obtain ⟨l1, w1⟩ : ∃ L, AcsAt W a1 len1 cap1 L := by
    obtain ⟨fuel, hf⟩ := h1
    obtain ⟨s, n, c, L, hcs, hA⟩ := acts_open hf
    simp [Value.cells] at hcs
    obtain ⟨rfl, rfl, rfl⟩ := hcs
    exact ⟨L, hA⟩
  clear hA0 hval0
  refine (script_walk a0_0 a0_1 a1 len1 cap1 l1 W w0_0 w0_1 w1).mono fun e W' ⟨he, bel⟩ => ?_
  subst he
  exact ⟨_, rfl, _, _, _, [], _, [], hW', trodAll_mk1 (shut_bool Try.underlying4 _), (trodAll_cons_mk (shut_agg2 (y0 := (.lit (.int .u8 a0_0), [])) (y1 := (.lit (.int .u16 a0_1), [])) Try.underlying24 (by kernel_rfl) (by kernel_rfl : Try.prog.cellsOf 24 = 2) (shut_int Try.underlying5 w0_0) (shut_int Try.underlying22 w0_1)) (trodAll_cons_mk (Below.trod laidOut (by kernel_rfl) (of_decide_eq_true (by kernel_rfl)) k1 bel lt1) trodAll_mk0)), rfl, bel.frame _, fun h => by cases h⟩

theorem over : Rows.cyclicsScriptRow.holds Try.pinned (OpenSpec.ofChange Rows.cyclicsScriptSpec) :=
  OpenClaim.holds_of_wide 3 Try.f3 rfl rfl rfl rfl rfl rfl rfl ⟨rfl, rfl, rfl, rfl, rfl⟩ rfl rfl rfl rfl rfl (by kernel_rfl) Try.func3 (by kernel_rfl)
    (of_decide_eq_true (by kernel_rfl)) (by unfold Func.isWrapper; first | (rw [if_pos (by decide +kernel)]; kernel_rfl) | (rw [if_neg (by decide +kernel)]; exact ⟨rfl, rfl⟩))
    (fun os started H enc _ => lifted os started H enc)

theorem proved : Rows.CyclicsScriptSaid := over
end Go.Proofs.Ytdjnflfcolpccaa.cyclicsScript
