/- The walk of FramesSpoiled. -/
import Derived.Test.YtpcjhmddcfiemaaDoorFrContents
import Derived.Test.YtpcjhmddcfiemaaDoorFrStep
import Derived.Test.YtpcjhmddcfiemaaDoorFrTwo
import Derived.Deep.RegionHeld3
namespace Go.Proofs.YtpcjhmddcfiemaaDoor
open Go.RowKit

set_option maxHeartbeats 8000000 in
set_option maxRecDepth 100000 in
theorem framesSpoiled_walk (a1 : Option Addr) (n1 c1 : Nat) (b : List Int) (s0 s1 s2 s3 : Int) (s : ByteArray) (w : World) (hflag : FlagOk w) (h1 : Row .u8 w a1 n1 c1 b) (hw0 : (Lit.int .u8 s0).wf = true) (hw1 : (Lit.int .u8 s1).wf = true) (hw2 : (Lit.int .u8 s2).wf = true) (hw3 : (Lit.int .u8 s3).wf = true) (_hs : s.size ≤ maxLen) :
    Calls Tryd.prog 7 #[.slice a1 n1 c1, .agg #[.int .u8 s0, .int .u8 s1, .int .u8 s2, .int .u8 s3], .string s] w fun e w' => e = .returned (.bool true) ∧ Below w.heap.size w w' := by
  obtain ⟨sz, hsz⟩ : ∃ sz, sz = [s0, s1, s2, s3] := ⟨_, rfl⟩
  have hszw : ∀ x ∈ sz, (Lit.int .u8 x).wf = true := by
    rw [hsz]; intro x hx
    simp only [List.mem_cons, List.not_mem_nil, or_false] at hx
    rcases hx with rfl | rfl | rfl | rfl <;> assumption
  have hszl : sz.length = 4 := by rw [hsz]; rfl
  obtain ⟨W0, hW0⟩ : ∃ W0, W0 = w.alloc (.cells #[.int .u8 s0, .int .u8 s1, .int .u8 s2, .int .u8 s3] 52) := ⟨_, rfl⟩
  have hcw : ∀ k, k < 4 → W0.cell? ⟨w.heap.size, k, none⟩ = some (.int .u8 (sz.getD k 0)) := by
    intro k hk
    have hh : W0.heap[w.heap.size]? = some (.cells (nums .u8 sz).toArray 52 (0, 0)) := by rw [hW0, hsz]; exact heap_alloc_new w _
    rw [cell_of_row _ _ k _ _ _ hh]
    simp [nums, hszl, hk]
  have hb0 : Below w.heap.size w W0 := by rw [hW0]; exact below_alloc _ _
  have hsW : W0.heap.size = w.heap.size + 1 := by rw [hW0]; simp
  have BB0 := Lib.hid hb0
  have HF0 := Lib.hid (hflag.later hb0)
  have HR1 := Lib.hid (h1.later hb0)
  have hpos := hflag.pos
  have hle1 := h1.le
  have hcm1 := h1.max
  unfold maxLen at hcm1
  have HSw := Lib.hid hszw
  have HSl := Lib.hid hszl
  have HCw := Lib.hid hcw
  have HW0 := Lib.hid hW0
  have HsW := Lib.hid hsW
  clear hflag h1 hw0 hw1 hw2 hw3 hsz hszw hszl hcw hb0 hW0 hsW
  by_cases hbig : 400 < s.size
  · go_enter Tryd.func7, Tryd.ntmps7
    go_wp2_with fail
    rw [← HW0.out]
    refine (lives_any _ HF0.out).mono ?_
    rintro e w11 ⟨rfl, hb⟩
    have BB12 := Lib.hid (BB0.out.trans ((hb).mono BB0.out.size))
    clear hb BB0 HF0
    go_wp2
    go_ret
    exact ⟨rfl, BB12.out⟩
  · go_enter Tryd.func7, Tryd.ntmps7
    go_wp2_with fail
    rw [← HW0.out]
    go_loopw [7, 8] (fun v i wr => ∃ k : Nat, k ≤ 4 ∧ i = .int .i64 k ∧ Below w.heap.size w wr ∧ Below W0.heap.size W0 wr ∧ Gath W0.heap.size true v (contentsL b sz 16 k) wr) (fun _ i _ => 4 - (intOf i).toNat)
    case atStart => exact ⟨0, by omega, rfl, BB0.out, Below.refl _ _, Gath.nil _ _ _⟩
    case round =>
      obtain ⟨k, hk, rfl, hbel, hbelW, hga⟩ := hrel
      by_cases hlt : k < 4
      · have g0 := (hbelW.cell (p := ⟨w.heap.size, k, none⟩) (by rw [HsW.out]; simp)).trans (HCw.out k hlt)
        have hsb : w.heap.size < wr.heap.size := by have := hbelW.size; rw [HsW.out] at this; omega
        have hx := wf_u8.1 (HSw.out (sz.getD k 0) (by rw [List.getD_eq_getElem?_getD, List.getElem?_eq_getElem (by rw [HSl.out]; exact hlt), Option.getD_some]; exact List.getElem_mem _))
        obtain ⟨x, hxe⟩ : ∃ x, x = sz.getD k 0 := ⟨_, rfl⟩
        rw [← hxe] at g0 hx
        obtain ⟨y, rfl⟩ := Int.eq_ofNat_of_zero_le hx.1
        have hmod : (5 : Int) + (y : Int) % 16 = ((5 + y % 16 : Nat) : Int) := by omega
        have hyl := Nat.mod_lt y (by decide : 0 < 16)
        obtain ⟨n, hn⟩ : ∃ n, n = 5 + y % 16 := ⟨_, rfl⟩
        rw [← hn] at hmod
        have hn60 : n ≤ 60 := by omega
        have hq1 : (y : Int).tmod 16 = (y : Int) % 16 := Int.tmod_eq_emod_of_nonneg (by omega)
        have hq2 : IntKind.i64.wrap ((y : Int) % 16) = (y : Int) % 16 := IntWalk.i64_in _ (by omega)
        have hq3 : IntKind.i64.wrap (n : Int) = (n : Int) := IntWalk.i64_in _ (by omega)
        have hki : (k : Int) < 4 := by omega
        have hc := contentsL_succ b sz 16 k
        have hso : sizeOf8 (sz.getD k 0) 16 = n := by unfold sizeOf8; rw [← hxe, Int.toNat_natCast, hn]
        rw [hso] at hc
        have hrb := HR1.out.later hbelW
        obtain ⟨mn, A', N', C', hmin, hsl1, hsl2, hrowc⟩ := cut_min a1 n1 c1 k b W0 HR1.out
        have hct := fun (w' : World) (hb' : Below wr.heap.size wr w') => octets2_row A' N' C' (b.drop k) n _ w' (hrowc w' (hrb.later hb')) (by omega) rfl
        have hszr := hbelW.size
        have HC := Lib.hid hc
        have HCo := Lib.hid hct
        have HG := Lib.hid hga
        have HB := Lib.hid hbel
        have HBW := Lib.hid hbelW
        obtain ⟨hx0, hx1⟩ := hx
        clear hc hct hga hbel hbelW hrb hxe hn hso hyl hrowc
        have hend : ∀ w1, Below wr.heap.size wr w1 → w1.heap.size = wr.heap.size → ∀ w2, Below w1.heap.size w1 w2 → RowV w2 (fun j => w1.heap.size ≤ j ∧ j < w2.heap.size) true (.slice (some ⟨w1.heap.size, 0, none⟩) n n) (octetsL (b.drop k) n) → Gath W0.heap.size true u7 (contentsL b sz 16 k) w2 ∧ Below w.heap.size w w2 ∧ RowV w2 (fun j => W0.heap.size ≤ j ∧ u7.ownBlock ≠ some j ∧ j < w2.heap.size) true (.slice (some ⟨wr.heap.size, 0, none⟩) n n) (octetsL (b.drop k) n) ∧ w2.cell? ⟨w.heap.size, k, none⟩ = some (.int .u8 (y : Int)) ∧ Below W0.heap.size W0 w2 := fun w1 h1 he w2 hb hr => by
          rw [he] at hb hr
          have h2 := h1.trans hb
          exact ⟨HG.out.later h2, HB.out.trans (h2.mono (Nat.le_of_lt hsb)), HG.out.row hszr hr (fun _ h => h), (h2.cell (p := ⟨w.heap.size, k, none⟩) hsb).trans g0, HBW.out.trans (h2.mono hszr)⟩
        have HEnd := Lib.hid hend
        clear hend
        go_wp2_with fail
        go_region_held3 (fun w' => w'.cell? ⟨w.heap.size, k, none⟩ = some (.int .u8 (y : Int))) (first | go_keep | assumption)
          (first
            | (go_at_call 19; ((with_reducible refine (HCo.out wr.drew ((Below.refl _ _).drew)).mono ?_); rintro e w2 ⟨rfl, hb, hr⟩); have hall := HEnd.out wr.drew ((Below.refl _ _).drew) (by rfl) w2 hb hr; have hkc := hall.2.2.2.1; have HA := Lib.hid hall; clear hb hr hall)
            | (refine step_append_row (by rfl) _ _ (by rfl) W0.heap.size _ true _ _ _ _ (by rfl) (by first | exact HA.out.1.mat.later (below_alloc _ _) | exact HA.out.1.mat.later ((below_alloc _ _).drew)) (by first | exact HA.out.2.2.1.later (below_alloc _ _) | exact HA.out.2.2.1.later ((below_alloc _ _).drew)) (by exact fun _ hj hh => hh.2.1 hj) w2.heap.size (by rfl) (by rw [cell_of_row _ _ 0 _ _ _ (heap_alloc_new w2 _)]; rfl) (by rw [contentsL_length]; omega) (by have := HA.out.2.2.2.2.size; simp; omega) ?_; intro v4 w4 q1 q2; have hszA := HA.out.2.2.2.2.size; have hsA1 : w.heap.size < w2.heap.size := (by rw [HsW.out] at hszA; omega); have hk4 : w4.cell? ⟨w.heap.size, k, none⟩ = some (Value.int .u8 (y : Int)) := q2.exc.cell (by first | exact ((below_alloc w2 _).cell (p := ⟨w.heap.size, k, none⟩) hsA1).trans hkc | exact (((below_alloc w2 _).drew).cell (p := ⟨w.heap.size, k, none⟩) hsA1).trans hkc) (fun hh => by have := (HG.out.lt _ hh).1; rw [HsW.out] at this; simp only at this; omega); have HQ1 := Lib.hid q1; have HQ2 := Lib.hid q2; clear q1 q2)
            | fail)
        go_wp2
        have hszA := HA.out.2.2.2.2.size
        have hg4 : Gath W0.heap.size true v4 (contentsL b sz 16 k ++ [octetsL (b.drop k) n]) w4 := by
          refine Gath.add ?_ HQ2.out
          exact HQ1.out.weak fun j hj => ⟨hj.1, hj.2.1, by have := hj.2.2; simp; omega⟩
        have hB5 : Below W0.heap.size W0 w4 := by
          first
            | exact (HA.out.2.2.2.2.trans ((below_alloc w2 _).mono hszA)).trans (HQ2.out.below (B := W0.heap.size) (by simp; omega) (fun j hj => (HA.out.1.lt j hj).1))
            | exact (HA.out.2.2.2.2.trans (((below_alloc w2 _).drew).mono hszA)).trans (HQ2.out.below (B := W0.heap.size) (by simp; omega) (fun j hj => (HA.out.1.lt j hj).1))
        have hB4 : Below w.heap.size w w4 := BB0.out.trans (hB5.mono (by rw [HsW.out]; omega))
        refine ⟨⟨k + 1, by omega, by go_num, hB4, hB5, ?_⟩, by simp [intOf]; omega⟩
        rw [HC.out]
        exact hg4
      · have hk4 : k = 4 := by omega
        subst hk4
        have hcl := contentsL_length b sz 16 4
        have hok := contentsL_ok (b := b) (fun x hx => wf_u8.1 (HR1.out.wf x hx)) sz 16 (by decide) 4
        obtain ⟨L, hL⟩ : ∃ L, L = contentsL b sz 16 4 := ⟨_, rfl⟩
        rw [← hL] at hga hcl hok
        clear hL
        obtain ⟨aL, cL, rfl, hmat, hlow⟩ := hga.done
        rw [hcl] at hmat ⊢
        have hL4 : ∃ l0 l1 l2 l3, L = [l0, l1, l2, l3] := by
          match L, hcl with
          | [a, b, c, d], _ => exact ⟨a, b, c, d, rfl⟩
        obtain ⟨l0, l1, l2, l3, hL4⟩ := hL4
        subst hL4
        have hleL := hmat.le
        have hcmL := hmat.max
        unfold maxLen at hcmL
        obtain ⟨bL, oL, rfl⟩ : ∃ p q, aL = some ⟨p, q, none⟩ := by
          rcases hmat.cells with h0 | ⟨p, q, ha, _⟩
          · omega
          · exact ⟨p, q, ha⟩
        have hoA : ∀ c ∈ [l0, l1], okC c := fun c hc => (hok c (by simp at hc ⊢; rcases hc with h | h <;> simp [h])).1
        have hoB : ∀ c ∈ [l2, l3], okC c := fun c hc => (hok c (by simp at hc ⊢; rcases hc with h | h <;> simp [h])).1
        have hlA : (joinL [l0, l1]).length ≤ 424 := joinL_length [l0, l1] 2 20 (fun c hc => (hok c (by simp at hc ⊢; rcases hc with h | h <;> simp [h])).2) (Nat.le_refl 2)
        have hlB : (joinL [l2, l3]).length ≤ 424 := joinL_length [l2, l3] 2 20 (fun c hc => (hok c (by simp at hc ⊢; rcases hc with h | h <;> simp [h])).2) (Nat.le_refl 2)
        obtain ⟨J1, hJ1⟩ : ∃ J, J = joinL [l0, l1] := ⟨_, rfl⟩
        obtain ⟨J2, hJ2⟩ : ∃ J, J = joinL [l2, l3] := ⟨_, rfl⟩
        have hbJ1 : Bin J1 := by rw [hJ1]; exact bin_joinL _
        have hbJ2 : Bin J2 := by rw [hJ2]; exact bin_joinL _
        rw [← hJ1] at hlA
        rw [← hJ2] at hlB
        obtain ⟨S1, hS1⟩ : ∃ S, S = J1.length := ⟨_, rfl⟩
        obtain ⟨S2, hS2⟩ : ∃ S, S = J2.length := ⟨_, rfl⟩
        rw [← hS1] at hlA
        rw [← hS2] at hlB
        have hszr := hbelW.size
        obtain ⟨x0, m0, hm0, g0, r0⟩ := mat_at hmat 0 (by decide)
        obtain ⟨x1, m1, hm1, g1, r1⟩ := mat_at hmat 1 (by decide)
        rw [Nat.add_zero] at g0
        have hbl : bL < wr.heap.size := World.block_lt_of_cell? wr _ g0
        obtain ⟨V1, hV1⟩ : ∃ V, V = (wr.alloc (.cells #[.slice x0 m0 m0, .slice x1 m1 m1] 22)).drew := ⟨_, rfl⟩
        have hbV1 : Below wr.heap.size wr V1 := by rw [hV1]; exact (below_alloc _ _).drew
        have hM1 := (mat_two r0 r1).later ((Below.refl _ _).drew)
        rw [← hV1] at hM1
        have hcon := join_n _ true _ 2 2 S1 [l0, l1] J1 V1 ((HF0.out.later hbelW).later hbV1) hM1 (fun c hc => okC_lenOk (hoA c hc)) (by decide) hJ1.symm hS1.symm
        have hend : ∀ w2, Below V1.heap.size V1 w2 → Below wr.heap.size wr w2 ∧ w2.cell? ⟨bL, oL, none⟩ = some (.slice x0 m0 m0) ∧ w2.cell? ⟨bL, oL + 1, none⟩ = some (.slice x1 m1 m1) := fun w2 hb => by
          have h2 := hbV1.trans (hb.mono hbV1.size)
          exact ⟨h2, (h2.cell (p := ⟨bL, oL, none⟩) hbl).trans g0, (h2.cell (p := ⟨bL, oL + 1, none⟩) hbl).trans g1⟩
        rw [hV1] at hcon hend
        have HCon := Lib.hid hcon
        have HEnd := Lib.hid hend
        have HML := Lib.hid hmat
        have HBel := Lib.hid hbel
        have HBelW := Lib.hid hbelW
        have HOA := Lib.hid hoA
        have HOB := Lib.hid hoB
        have HJ1 := Lib.hid hJ1
        have HJ2 := Lib.hid hJ2
        have HS1 := Lib.hid hS1
        have HS2 := Lib.hid hS2
        have HbJ1 := Lib.hid hbJ1
        have HbJ2 := Lib.hid hbJ2
        clear hcon hend hmat hbel hbelW hoA hoB hJ1 hJ2 hS1 hS2 hbJ1 hbJ2 hM1 hbV1 hV1 hga hcl hok hlow hm0 hm1 r0 r1
        go_wp2_with fail
        go_region_held3 (fun w' => w'.cell? ⟨bL, oL, none⟩ = some (.slice x0 m0 m0) ∧ w'.cell? ⟨bL, oL + 1, none⟩ = some (.slice x1 m1 m1)) (first | go_keep | exact ⟨by assumption, by assumption⟩)
          (first
            | (go_at_call 20; ((with_reducible refine (HCon.out).mono ?_); rintro e w2 ⟨⟨aJ1, rfl, hrJ1, hlJ1⟩, hbJ⟩); have hall := HEnd.out w2 hbJ; have k0 := hall.2.1; have k1 := hall.2.2; have HA1 := Lib.hid hall.1; have HRJ1 := Lib.hid hrJ1; clear hbJ hrJ1 hlJ1 hall)
            | fail)
        have hA := HA1.out
        have hML2 := HML.out.later hA
        have hsA := hA.size
        obtain ⟨x2, m2, hm2, g2, r2⟩ := mat_at hML2 2 (by decide)
        obtain ⟨x3, m3, hm3, g3, r3⟩ := mat_at hML2 3 (by decide)
        have hbl2 : bL < w2.heap.size := World.block_lt_of_cell? w2 _ g2
        obtain ⟨V2, hV2⟩ : ∃ V, V = (w2.alloc (.cells #[.slice x2 m2 m2, .slice x3 m3 m3] 22)).drew := ⟨_, rfl⟩
        have hbV2 : Below w2.heap.size w2 V2 := by rw [hV2]; exact (below_alloc _ _).drew
        have hM2 := (mat_two r2 r3).later ((Below.refl _ _).drew)
        rw [← hV2] at hM2
        have hf2 : FlagOk w2 := (HF0.out.later HBelW.out).later hA
        have hcon := join_n _ true _ 2 2 S2 [l2, l3] J2 V2 (hf2.later hbV2) hM2 (fun c hc => okC_lenOk (HOB.out c hc)) (by decide) HJ2.out.symm HS2.out.symm
        have hend : ∀ w3, Below V2.heap.size V2 w3 → Below w2.heap.size w2 w3 ∧ w3.cell? ⟨bL, oL + 2, none⟩ = some (.slice x2 m2 m2) ∧ w3.cell? ⟨bL, oL + 3, none⟩ = some (.slice x3 m3 m3) := fun w3 hb => by
          have h2 := hbV2.trans (hb.mono hbV2.size)
          exact ⟨h2, (h2.cell (p := ⟨bL, oL + 2, none⟩) hbl2).trans g2, (h2.cell (p := ⟨bL, oL + 3, none⟩) hbl2).trans g3⟩
        rw [hV2] at hcon hend
        have HCon2 := Lib.hid hcon
        have HEnd2 := Lib.hid hend
        have HF2 := Lib.hid hf2
        clear hcon hend hf2 hA hML2 hM2 hbV2 hV2 hm2 hm3 r2 r3 HCon HEnd
        go_wp2_with fail
        go_region_held3 (fun w' => w'.cell? ⟨bL, oL + 2, none⟩ = some (.slice x2 m2 m2) ∧ w'.cell? ⟨bL, oL + 3, none⟩ = some (.slice x3 m3 m3)) (first | go_keep | exact ⟨by assumption, by assumption⟩)
          (first
            | (go_at_call 20; ((with_reducible refine (HCon2.out).mono ?_); rintro e w3 ⟨⟨aJ2, rfl, hrJ2, hlJ2⟩, hbJ⟩); have hall := HEnd2.out w3 hbJ; have k2 := hall.2.1; have k3 := hall.2.2; have HA2 := Lib.hid hall.1; have HRJ2 := Lib.hid hrJ2; clear hbJ hrJ2 hlJ2 hall)
            | fail)
        clear g0 g1 g2 g3
        have hA2 := HA2.out
        have hs3 := hA2.size
        have hA12 := HA1.out.trans (hA2.mono hsA)
        have hML3 := HML.out.later hA12
        have hBB3 := HBel.out.trans (hA12.mono HBel.out.size)
        have hRJ1 := HRJ1.out.later hA2
        have hHF3 := HF2.out.later hA2
        have hwr := HBel.out.size
        have BB200 := Lib.hid hBB3
        have HF200 := Lib.hid hHF3
        have ML200 := Lib.hid hML3
        have RJ200 := Lib.hid hRJ1
        have RK200 := HRJ2
        clear hA2 hA12 hML3 hBB3 hRJ1 hHF3 HRJ1 HRJ2 HF2 HCon2 HEnd2 HA1 HA2 HML HBel HBelW k2 k3
        go_wp2_with fail
        refine (new_any w3).mono ?_
        rintro e w4 ⟨rfl, hb, hsx⟩
        have hs4 : w3.heap.size < w4.heap.size := hsx.lt.1
        have BB201 := Lib.hid (BB200.out.trans ((hb).mono BB200.out.size))
        have HF202 := Lib.hid (HF200.out.later (hb))
        have ML203 := Lib.hid (ML200.out.later (hb))
        have RJ204 := Lib.hid (RJ200.out.later (hb))
        have RK205 := Lib.hid (RK200.out.later (hb))
        have SX206 := Lib.hid (hsx)
        clear hb hsx BB200 HF200 ML200 RJ200 RK200
        obtain ⟨i0, hi, hz0, hz1, hz2⟩ := info_parts info8
        have HI := Lib.hid hi
        have HZ0 := Lib.hid hz0
        have HZ1 := Lib.hid hz1
        have HZ2 := Lib.hid hz2
        clear hi hz0 hz1 hz2
        go_wp2_with (at_builtin; refine wpList_append_list rfl (.const (.slice none 0 0)) (.tmp 66) 22 rfl w4.heap.size 5 i0 (.int .u8 0) 1 Tryd.underlying22 HI.out HZ0.out HZ1.out HZ2.out rfl .u8 _ 0 [] rfl (World.ownsRow_nil _ _ _ _) aJ1 S1 S1 J1 rfl RJ204.out ?_ ?_ (Nat.le_refl _) ?_)
        · unfold maxLen; omega
        · omega
        intro v5 w5 hown5 hg5
        have hb45 : Below w4.heap.size w4 w5 := (Below.refl _ _).grown hg5 (Nat.le_refl _) (by simp [Value.ownBlock])
        have hs5 := hb45.size
        have HO5 := Lib.hid hown5
        have HB45 := Lib.hid hb45
        clear hown5 hg5 hb45
        go_wp2_with fail
        obtain ⟨T, hT⟩ : ∃ T, T = s.data.toList.map fun c => (c.toNat : Int) % 2 := ⟨_, rfl⟩
        have hTb : Bin T := by rw [hT]; intro x hx; obtain ⟨c, _, rfl⟩ := List.mem_map.1 hx; omega
        have hTl : T.length = s.size := by rw [hT]; simp
        refine (stream_n s s.size T _ rfl (by omega) hT.symm).mono ?_
        rintro e w6 ⟨⟨gT, rfl, hrT, hgT⟩, hb⟩
        have hb46 := HB45.out.trans (hb.mono hs5)
        have hs6 := hb.size
        have HO6 := Lib.hid (ownsRow_below HO5.out hb)
        have HRT := Lib.hid hrT
        have HB46 := Lib.hid hb46
        have HTb := Lib.hid hTb
        have HTl := Lib.hid hTl
        clear hT hTb hTl hrT hb hb46 HO5 HB45
        go_wp2_with (at_builtin; refine wpList_append_list rfl (.tmp 67) (.tmp 69) 22 rfl w4.heap.size 5 i0 (.int .u8 0) 1 Tryd.underlying22 HI.out HZ0.out HZ1.out HZ2.out rfl .u8 _ S1 J1 rfl HO6.out _ s.size s.size T rfl HRT.out ?_ ?_ (by omega) ?_)
        · unfold maxLen; omega
        · omega
        intro v7 w7 hown7 hg7
        have hb47 : Below w4.heap.size w4 w7 := HB46.out.grown hg7 (by omega) (fun g hg => (World.ownsRow.lt HO6.out g hg).1)
        have hs7 := hb47.size
        have HO7 := Lib.hid hown7
        have HB47 := Lib.hid hb47
        have HRK7 := Lib.hid (RK205.out.later hb47)
        clear hown7 hg7 hb47 HO6 HB46 HRT
        go_wp2_with (at_builtin; refine wpList_append_list rfl (.tmp 70) (.tmp 71) 22 rfl w4.heap.size 5 i0 (.int .u8 0) 1 Tryd.underlying22 HI.out HZ0.out HZ1.out HZ2.out rfl .u8 _ (S1 + s.size) (J1 ++ T) rfl HO7.out aJ2 S2 S2 J2 rfl HRK7.out ?_ ?_ hs7 ?_)
        · unfold maxLen; omega
        · omega
        intro v8 w8 hown8 hg8
        have hb48 : Below w4.heap.size w4 w8 := HB47.out.grown hg8 hs7 (fun g hg => (World.ownsRow.lt HO7.out g hg).1)
        have hs8 := hb48.size
        obtain ⟨R, hR⟩ : ∃ R, R = J1 ++ T ++ J2 := ⟨_, rfl⟩
        rw [← List.append_assoc, ← hR] at hown8
        have hbR : Bin R := by
          rw [hR]; intro x hx
          rcases List.mem_append.1 hx with h | h
          · rcases List.mem_append.1 h with h | h
            · exact HbJ1.out x h
            · exact HTb.out x h
          · exact HbJ2.out x h
        have hRl : R.length = S1 + s.size + S2 := by rw [hR, List.length_append, List.length_append, ← HS1.out, ← HS2.out, HTl.out]
        have hRe : errOf R = 0 := errOf_bin' hbR (by rw [hRl]; omega)
        obtain ⟨y1, X, hf1⟩ := feed_spoiled [l0, l1] [l2, l3] T HOA.out HOB.out
        rw [← HJ1.out, ← HJ2.out, ← hR] at hf1
        obtain ⟨x, hx⟩ : ∃ x, x = X.length := ⟨_, rfl⟩
        have hGl : ([l0, l1] ++ X ++ [l2, l3]).length = x + 4 := by rw [List.length_append, List.length_append, ← hx]; simp; omega
        obtain ⟨k, hk⟩ : ∃ k, k = x + 4 := ⟨_, rfl⟩
        rw [← hk] at hGl
        have hxk : x = k - 4 := by omega
        have hk4 : 4 ≤ k := by omega
        obtain ⟨aS, cS, rfl, rS, plS⟩ := ownsRow_rowAt hown8 (fun x hx => wf_u8.2 (by have := hbR x hx; omega))
        have hb := hb48
        have BB207 := Lib.hid (BB201.out.trans ((hb).mono BB201.out.size))
        have HF208 := Lib.hid (HF202.out.later (hb))
        have ML209 := Lib.hid (ML203.out.later (hb))
        have SX210 := Lib.hid (SX206.out.later (hb))
        have RS211 := Lib.hid (rS)
        clear hb hown8 hg8 rS BB201 HF202 ML203 RJ204 RK205 SX206
        have HRe := Lib.hid hRe
        have HFd := Lib.hid hf1
        have HGl := Lib.hid hGl
        have HXx := Lib.hid hx
        have PlS := Lib.hid plS
        clear hR hbR hRl hRe hf1 hGl hx hxk hk hb48 plS HO7 HB47 HRK7
        go_wp2_with fail
        refine (feed_n w3.heap.size none Sc.zero y1 ([l0, l1] ++ X ++ [l2, l3]) 0 k aS (S1 + s.size + S2) cS R _ SX210.out RS211.out HRe.out (fun z hz => ⟨by have := PlS.out z hz; omega, by simp⟩) (by decide) HFd.out HGl.out).mono ?_
        rintro e w9 ⟨aO, gX, rfl, hm1, hsx, hsn, _⟩
        have hb := hsn.below (B := w3.heap.size) (Nat.le_of_lt SX210.out.lt.1) (by simp) (Nat.le_refl _)
        have hs9 := hsn.exc.size
        have BB500 := Lib.hid (BB207.out.trans (hb.mono (by omega)))
        have HF500 := Lib.hid (HF208.out.laterB hb (by omega))
        have ML500 := Lib.hid (ML209.out.laterB hb (fun j hj => by omega))
        have M1 := Lib.hid hm1
        clear hb hsn hsx hm1
        clear BB207 HF208 ML209 SX210 RS211
        have hm1 := M1.out
        obtain ⟨bO, oO, rfl⟩ : ∃ p q, aO = some ⟨p, q, none⟩ := by
          rcases hm1.cells with h0 | ⟨p, q, ha, _⟩
          · omega
          · exact ⟨p, q, ha⟩
        have hcmk := hm1.max
        unfold maxLen at hcmk
        obtain ⟨j, hj⟩ : ∃ j, j = k - 2 := ⟨_, rfl⟩
        have hXl := HXx.out
        have hp1 := hm1.piece 0 2 2 (by omega) (by omega) (by omega)
        have hp2 := hm1.piece j 2 2 (by omega) (by omega) (by omega)
        have hq1 := ML500.out.piece 0 2 cL (by omega) (by omega) (by omega)
        have hq2 := ML500.out.piece 2 2 (cL - 2) (by omega) (by omega) (by omega)
        rw [Nat.add_zero] at hp1 hq1
        have e1 : (([l0, l1] ++ X ++ [l2, l3]).drop 0).take 2 = [l0, l1] := by simp
        have e2 : (([l0, l1] ++ X ++ [l2, l3]).drop j).take 2 = [l2, l3] := by
          have hlen : ([l0, l1] ++ X).length = j := by
            have := HGl.out
            rw [List.length_append] at this
            simp only [List.length_cons, List.length_nil] at this
            rw [hj]; omega
          rw [← hlen, List.drop_left]; rfl
        rw [e1] at hp1
        rw [e2] at hp2
        have hq1 : Mat w9 _ true (some ⟨bL, oL, none⟩) 2 cL [l0, l1] := hq1
        have hq2 : Mat w9 _ true (some ⟨bL, oL + 2, none⟩) 2 (cL - 2) [l2, l3] := hq2
        have hwk : IntKind.i64.wrap ((k : Int) - 2) = (j : Int) := by
          rw [IntWalk.i64_in _ (by omega)]; omega
        have hkj : k - j = 2 := by omega
        have hne1 : ¬ k = j := by omega
        have hne2 : ¬ k = 0 := by omega
        have hne3 : ¬ cL = 2 := by omega
        have hne4 : ¬ cL = 0 := by omega
        have hi1 : (j : Int) ≤ (k : Int) := by omega
        have hi2 : (0 : Int) ≤ (j : Int) := by omega
        have hi3 : (2 : Int) ≤ (k : Int) := by omega
        have hi4 : (2 : Int) ≤ (cL : Int) := by omega
        have HP1 := Lib.hid hp1
        have HP2 := Lib.hid hp2
        have HQ1 := Lib.hid hq1
        have HQ2 := Lib.hid hq2
        have Hj := Lib.hid hj
        clear hm1 hp1 hp2 hq1 hq2 e1 e2 hj hXl M1
        go_wp2_with fail
        go_quiet (fail)
        clear hwk hkj
        obtain ⟨V, hV⟩ : ∃ V, V = w9.drewN nq := ⟨_, rfl⟩
        have hbV : Below w9.heap.size w9 V := by rw [hV]; exact below_draw w9 nq
        rw [← hV]
        have hl1 : Calls Tryd.prog 27 #[.slice (some ⟨bO, oO, none⟩) 2 2, .slice (some ⟨bL, oL, none⟩) 2 cL] V.drew fun e w' => e = .returned (.int .i64 0) ∧ Below V.heap.size V w' := by
          have hbb := hbV.trans ((show Below V.heap.size V V.drew from (Below.refl _ _).drew).mono hbV.size)
          refine (lists_yes _ _ true _ _ 2 cL [l0, l1] V.drew (HP1.out.later hbb) (HQ1.out.later hbb)).mono ?_
          rintro e w' ⟨he, q, rfl⟩
          exact ⟨he, (show Below V.heap.size V V.drew from (Below.refl _ _).drew).trans (below_draw V.drew q)⟩
        have hl2 : ∀ W, Below V.heap.size V W → Calls Tryd.prog 27 #[.slice (some ⟨bO, oO + j, none⟩) 2 2, .slice (some ⟨bL, oL + 2, none⟩) 2 (cL - 2)] W fun e w' => e = .returned (.int .i64 0) ∧ Below V.heap.size V w' := by
          intro W hW
          have hbb := hbV.trans (hW.mono hbV.size)
          refine (lists_yes _ _ true _ _ 2 (cL - 2) [l2, l3] W (HP2.out.later hbb) (HQ2.out.later hbb)).mono ?_
          rintro e w' ⟨he, q, rfl⟩
          exact ⟨he, hW.trans ((below_draw W q).mono hW.size)⟩
        have HL1 := Lib.hid hl1
        have HL2 := Lib.hid hl2
        have HFV := Lib.hid (HF500.out.later hbV)
        have hBBV := BB500.out.trans (hbV.mono (BB500.out.size))
        have HBBV := Lib.hid hBBV
        have hsV := hBBV.size
        clear hl1 hl2 hbV hV hBBV
        go_wp2_with fail
        go_region_held3 (fun _ => True) (trivial)
          (first
            | (go_at_call 27; ((with_reducible refine (HL1.out).mono ?_); rintro e w10 ⟨rfl, hb10⟩); have HB10 := Lib.hid hb10; clear hb10)
            | (go_at_call 27; ((with_reducible refine (HL2.out w10 HB10.out).mono ?_); rintro e w11 ⟨rfl, hb11⟩); have HB11 := Lib.hid hb11; clear hb11)
            | (go_at_call 10; ((with_reducible refine (lives_any w11 (HFV.out.later HB11.out)).mono ?_); rintro e w12 ⟨rfl, hb12⟩); have HB12 := Lib.hid hb12; clear hb12)
            | fail)
        go_wp2
        go_ret
        exact ⟨rfl, (HBBV.out.trans (HB11.out.mono hsV)).trans (HB12.out.mono (by have := HB11.out.size; omega))⟩
end Go.Proofs.YtpcjhmddcfiemaaDoor
