/- For any bytes and any value the law BitsRun returns true and leaves its arguments as they are. No condition. -/
import Derived.Test.YtjadmhmfjjjcfaaLives
import Derived.ProofKit
import Derived.OpenShut
import Derived.ShutString
import Derived.ChangeOld
namespace Go.Proofs.Ytjadmhmfjjjcfaa
open Go.RowKit

set_option maxHeartbeats 1000000 in
theorem bitsRun_walk (a : Option Addr) (n c : Nat) (l : List Int) (v : Int) (w : World) (h : Row .u8 w a n c l) (hv : (Lit.int .u8 v).wf = true) :
    Calls Try.prog 7 #[.slice a n c, .int .u8 v] w fun e w' => e = .returned (.bool true) ∧ Below w.heap.size w w' := by
  have hle := h.le
  have hmx := h.max
  unfold maxLen at hmx
  by_cases hbig : 400 < n
  · have hb : (400 : Int) < (n : Int) := by omega
    have HL := Lib.hid (lives_any w)
    clear h
    go_enter Try.func7, Try.ntmps7
    go_wp2_with fail
    refine HL.out.mono ?_
    rintro e w' ⟨rfl, hb⟩
    have HB := Lib.hid hb
    clear hb
    go_wp2
    go_ret
    exact ⟨rfl, HB.out⟩
  · have hb : ¬ (400 : Int) < (n : Int) := by omega
    have hcc := h.cells
    have HR := Lib.hid h
    have HV := Lib.hid hv
    obtain ⟨i0, hi, hz0, hz1, hz2⟩ := info_parts info8
    have HI := Lib.hid hi
    have HZ0 := Lib.hid hz0
    have HZ1 := Lib.hid hz1
    have HZ2 := Lib.hid hz2
    clear h hv hi hz0 hz1 hz2
    go_enter Try.func7, Try.ntmps7
    go_wp2_with fail
    go_loop [5, 6, 7] (fun m r i => ∃ k : Nat, ∃ x y : Int, k ≤ n ∧ i = .int .i64 k ∧ m = .int .i64 x ∧ r = .int .i64 y ∧ x = runMax v (l.take k) ∧ y = runEnd v (l.take k)) (fun _ _ i => n - (intOf i).toNat)
    case atStart => exact ⟨0, 0, 0, Nat.zero_le _, rfl, rfl, rfl, rfl, rfl⟩
    case round =>
      obtain ⟨k, x, y, hk, rfl, rfl, rfl, hx, hy⟩ := hrel
      have hbn := run_bounds v k (l.take k) (by rw [List.length_take]; omega)
      rw [← hx, ← hy] at hbn
      obtain ⟨hb1, hb2, hb3, hb4⟩ := hbn
      by_cases hlt : k < n
      · rcases hcc with h0 | ⟨b, o, rfl, hc⟩
        · omega
        have g := hc k hlt
        obtain ⟨z, hz⟩ : ∃ z, z = l.getD k 0 := ⟨_, rfl⟩
        rw [← hz] at g
        have ht : l.take (k + 1) = l.take k ++ [z] := by rw [hz]; exact take_succ' (by rw [HR.out.len]; exact hlt)
        have hs1 := runEnd_snoc v z (l.take k)
        have hs2 := runMax_snoc v z (l.take k)
        rw [← ht, ← hy] at hs1
        rw [← ht, ← hx, ← hy] at hs2
        have H1 := Lib.hid hs1
        have H2 := Lib.hid hs2
        clear hx hy hz ht hs1 hs2 hc
        by_cases hzv : z = v
        · have hne : (z != v) = false := by simp [hzv]
          have HZ := Lib.hid hzv
          clear hzv
          go_wp2
          exact ⟨⟨k + 1, _, _, by omega, by go_num, rfl, rfl, by rw [H2.out, if_pos HZ.out], by rw [H1.out, if_pos HZ.out]⟩, by simp [intOf]; omega⟩
        · have hne : (z != v) = true := by simp [hzv]
          have HZ := Lib.hid hzv
          have hx0 : ¬ x < 0 := by omega
          clear hzv
          go_wp2
          exact ⟨⟨k + 1, _, _, by omega, by go_num, rfl, rfl, by rw [H2.out, if_neg HZ.out], by rw [H1.out, if_neg HZ.out]⟩, by simp [intOf]; omega⟩
      · obtain rfl : k = n := by omega
        rw [List.take_of_length_le (by rw [HR.out.len]; exact Nat.le_refl _)] at hx hy
        have hrun := run_any a k c l v
        have HX := Lib.hid hx
        have HY := Lib.hid hy
        clear hx hy hcc
        have hsz := Nat.le_refl w.heap.size
        go_wp2_with (at_builtin; refine wpList_append_list rfl (.const (.slice none 0 0)) (.tmp 30) 22 rfl w.heap.size 5 i0 (.int .u8 0) 1 Try.underlying22 HI.out HZ0.out HZ1.out HZ2.out rfl .u8 _ 0 [] rfl (World.ownsRow_nil _ _ _ _) a k c l rfl HR.out ?_ ?_ hsz ?_)
        · unfold maxLen; omega
        · omega
        · intro v1 w1 hown1 hgrow1
          have hbel1 : Below w.heap.size w w1 := (Below.refl _ _).grown hgrow1 (Nat.le_refl _) (by simp [Value.ownBlock])
          have HO1 := Lib.hid hown1
          have HB1 := Lib.hid hbel1
          have hsz1 := hbel1.size
          clear hown1 hgrow1 hbel1
          go_wp2_with (at_builtin; refine wpList_append_own _ rfl _ _ 22 rfl w.heap.size 5 i0 (.int .u8 0) 1 1 Try.underlying22 HI.out HZ0.out HZ1.out HZ2.out rfl (by decide) _ _ _ rfl (HO1.out.alloc _) ⟨w1.heap.size, 0, none⟩ 1 1 [.int .u8 v] rfl rfl ?c1 ?c2 ?c3 ?c4 ?c5 ?_)
          case c1 => exact cell_one_new w1 _ _
          case c2 => intro u hu; simp at hu; subst hu; rfl
          case c3 => unfold maxLen; omega
          case c4 => omega
          case c5 => simp; omega
          · intro v2 w2 hown2 hgrow2 _
            have hbel2 : Below w.heap.size w w2 := (HB1.out.alloc hsz1 _).grown hgrow2 (by simp; omega) (fun g hg => (World.ownsRow.lt HO1.out g hg).1)
            have hnum : nums .u8 (l ++ [v]) = nums .u8 l ++ [.int .u8 v] := by simp [nums]
            rw [← hnum] at hown2
            obtain ⟨a2, c2, rfl, hrow2, _⟩ := ownsRow_rowN .u8 hown2 (by
              intro z hz
              rcases List.mem_append.1 hz with h1 | h1
              · exact HR.out.wf z h1
              · rw [List.mem_singleton] at h1; subst h1; exact HV.out)
            have hrun1 := run_n a k c l v x w2 (HR.out.later hbel2) HX.out.symm
            have hmore : runMax v (l ++ [v]) = if x < y + 1 then y + 1 else x := by rw [runMax_snoc, if_pos rfl, HX.out, HY.out]
            have hrun2 := run_n a2 (k + 1) c2 (l ++ [v]) v _ w2 hrow2 hmore
            have hlv := lives_any w2
            have R1 := Lib.hid hrun1
            have R2 := Lib.hid hrun2
            have LV := Lib.hid hlv
            have HB2 := Lib.hid hbel2
            clear hown2 hgrow2 hbel2 hrow2 hrun1 hrun2 hmore hlv hnum
            go_wp2_with fail
            refine R1.out.mono ?_
            rintro e w' ⟨rfl, rfl⟩
            go_wp2_with fail
            refine R2.out.mono ?_
            rintro e w' ⟨rfl, rfl⟩
            go_wp2_with fail
            all_goals
              refine LV.out.mono ?_
              rintro e w3 ⟨rfl, hb3⟩
              have HB3 := Lib.hid (HB2.out.trans (hb3.mono HB2.out.size))
              clear hb3
              go_wp2
              go_ret
              exact ⟨rfl, HB3.out⟩
end Go.Proofs.Ytjadmhmfjjjcfaa
namespace Go.Proofs.Ytjadmhmfjjjcfaa.bitsRun
open Go.ChangeShapes Go.WideShapes Go.ChangeAt Go.RowKit
open Go.ChangeMaps (open_string shut_string)
set_option linter.unusedVariables false

theorem own : ownKnob Try.prog.godebug = none := by kernel_rfl
theorem laidOut : laidOutB Try.prog = true := by kernel_rfl

set_option maxRecDepth 100000 in
theorem lifted (os : Os) (started : os.Started) (H : Type) (enc : TypeId × Value → H) :
    ReturnsInHanded {} Try.checked os 7 .any (Rows.bitsRunSpec.pre6 enc Try.prog Try.f7 Rows.bitsRunRow.domain false) (Rows.bitsRunSpec.post enc Try.prog Try.f7 false true false false) := by
  refine returnsInHanded_of_change (C := Try.checked) own started (by kernel_rfl) Try.func7
    (ChangeSpec.witness6 (enc := enc) (C := Try.checked) false ⟨#[], #[.slice none 0 0, .int .u8 0], []⟩ 8 (by kernel_rfl) (by kernel_rfl) (by kernel_rfl) (by kernel_rfl)) ?_
  intro W base args ds gs before hval0 hW hcnd _
  have hval : ∀ (j : Nat) t v, Try.f7.params[j]? = some t → args[j]? = some v → Value.okWide Try.prog W .any base t v := hval0
  have hW' := hW
  obtain ⟨p, q, hA0, hV, rfl, hfz, hnd⟩ := hW
  have hA : DataW.TrodAll enc Try.prog W 0 (fun _ => true) true Try.f7.params.toList args.toList ds p := hA0
  rw [Try.params7] at hA hval
  obtain ⟨v0, vs0, d0, ds0, p0, q0, hargs, rfl, rfl, h0, r0⟩ := trodAll_cons hA
  obtain ⟨v1, vs1, d1, ds1, p1, q1, rfl, rfl, rfl, h1, r1⟩ := trodAll_cons r0
  obtain ⟨rfl, rfl, rfl⟩ := trodAll_nil r1
  obtain rfl : args = #[v0, v1] := by cases args; simp_all
  obtain ⟨rfl, rfl⟩ := trodVars_none hV
  obtain ⟨a0, len0, cap0, rfl⟩ := okWide_slice Try.underlying22 (hval 0 22 v0 rfl rfl)
  have k0 := h0
  have lt0 : ∀ x ∈ p0, x.block < W.heap.size := by obtain ⟨m, hm⟩ := k0; exact DataW.trod_lt m _ _ _ hm
  obtain ⟨l0, w0⟩ : ∃ l, Row .u8 W a0 len0 cap0 l := by
    obtain ⟨fuel, hf⟩ := h0
    rcases open_ints Try.underlying22 Try.underlying5 (by kernel_rfl) hf with ⟨hcs, _⟩ | ⟨x, l, c, zs, hcs, _, hl, hm, hz, _, hcell, hwz⟩
    · simp [Value.cells] at hcs
      obtain ⟨rfl, rfl, rfl⟩ := hcs
      exact ⟨[], Row.of_nil _ _⟩
    · simp [Value.cells] at hcs
      obtain ⟨rfl, rfl, rfl⟩ := hcs
      exact ⟨_, Row.of_open (.inr ⟨_, rfl, hl, hm, by simpa using hz, hcell, hwz⟩)⟩
  obtain ⟨a1, rfl, rfl, rfl, w1⟩ := open_int Try.underlying5 (hval 1 5 v1 rfl rfl) h1
  clear hA0 hval0
  refine (bitsRun_walk a0 len0 cap0 l0 a1 W w0 w1).mono fun e W' ⟨he, bel⟩ => ?_
  subst he
  exact ⟨_, rfl, _, _, _, [], _, [], hW', trodAll_mk1 (shut_bool Try.underlying4 _), (trodAll_cons_mk (Below.trod laidOut (by kernel_rfl) (of_decide_eq_true (by kernel_rfl)) k0 bel lt0) (trodAll_cons_mk (shut_int Try.underlying5 w1) trodAll_mk0)), rfl, bel.frame _, fun h => by cases h⟩

theorem over : Rows.bitsRunRow.holds Try.pinned (OpenSpec.ofChange Rows.bitsRunSpec) :=
  OpenClaim.holds_of_wide 7 Try.f7 rfl rfl rfl rfl rfl rfl rfl ⟨rfl, rfl, rfl, rfl, rfl⟩ rfl rfl rfl rfl rfl (by kernel_rfl) Try.func7 (by kernel_rfl)
    (of_decide_eq_true (by kernel_rfl)) (by unfold Func.isWrapper; first | (rw [if_pos (by decide +kernel)]; kernel_rfl) | (rw [if_neg (by decide +kernel)]; exact ⟨rfl, rfl⟩))
    (fun os started H enc _ => lifted os started H enc)

theorem proved : Rows.BitsRunSaid := over
end Go.Proofs.Ytjadmhmfjjjcfaa.bitsRun
