/- Contracts: a pair of ends: bring. -/
import Derived.Test.YtdjnflfcolpccaaBaCut
import Derived.Deep.RegionLaw
import Derived.Deep.RegionHeld3
namespace Go.Proofs.Ytdjnflfcolpccaa
open Go.RowKit

theorem bring0_none (I : EndFace) (w : World) (p : Nat) (st : PSt) (L : PLay) (lost : Bool) (h : PairAt I w p st L) (hf : st.f0 = []) :
    Calls Try.prog 41 #[.pointer (some ⟨p, 0, none⟩), .int .i64 0, .bool lost] w fun e w' => e = .returned (.tuple #[]) ∧ w = w' := by
  have hc := h.own.cell 2 (by simp [pairCells])
  simp only [pairCells, List.getD_cons_succ, List.getD_cons_zero, hf, List.length_nil] at hc
  clear h hf
  go_enter Try.func41, Try.ntmps41
  go_wp2
  (try simp only [Exit.inBlock, Exit.then])
  refine bodyPost_ret (results_none rfl _ _ _) rfl ?_
  exact ⟨rfl, rfl⟩
set_option maxHeartbeats 8000000 in
set_option maxRecDepth 100000 in
theorem bring0_lost (I : EndFace) (w : World) (p : Nat) (st : PSt) (L : PLay) (u : Un) (us : List Un) (h : PairAt I w p st L) (hf : st.f0 = u :: us)  :
    Calls Try.prog 41 #[.pointer (some ⟨p, 0, none⟩), .int .i64 0, .bool true] w fun e w' => e = .returned (.tuple #[]) ∧ (∃ L', L'.B = L.B ∧ PairAt I w' p { st with f0 := us } L') ∧ Below L.B w w' := by
  have hp := h.own.lt
  have hc := h.own.cell 2 (by simp [pairCells])
  simp only [pairCells, List.getD_cons_succ, List.getD_cons_zero, hf, List.length_cons] at hc
  obtain ⟨ub, bb, uf, fb, uk, us', ul⟩ := u
  have hw := h.w0
  rw [hf] at hw
  obtain ⟨k, o, s, ha, hg, hcl, hr, hz⟩ := hw.first
  obtain ⟨cs, hbuf, hus⟩ := hw
  obtain ⟨A, hsl, hsa, hcut⟩ := unit_cut hbuf
  have hle := hbuf.le
  have hmx := hbuf.max
  unfold maxLen at hmx
  have hkp : k ≠ p := fun hk => by have h5 := h.cg0 k hg; rw [hk, h.cp] at h5; omega
  have hks : k < w.heap.size := h.w0_lt hg
  obtain ⟨w1, hw1⟩ : ∃ X, X = w.alloc (.cells #[.int .u8 (ub : Int), .bool bb, .int .u8 (uf : Int), .bool fb, .int .u8 (uk : Int), .int .u8 (us' : Int), .slice s ul.length ul.length] 45) := ⟨_, rfl⟩
  have hb01 : Below w.heap.size w w1 := by rw [hw1]; exact below_alloc _ _
  have ou1 : Own w1 w.heap.size 45 (unCells ⟨ub, bb, uf, fb, uk, us', ul⟩ s ul.length ul.length) := by rw [hw1]; exact own_lit w _ _ _ rfl
  have h1 := h.later hb01
  have e0 := hcl 0 (by omega)
  have e1 := hcl 1 (by omega)
  have e2 := hcl 2 (by omega)
  have e3 := hcl 3 (by omega)
  have e4 := hcl 4 (by omega)
  have e5 := hcl 5 (by omega)
  have e6 := hcl 6 (by omega)
  simp only [unCells, List.getD_cons_succ, List.getD_cons_zero, Nat.add_zero] at e0 e1 e2 e3 e4 e5 e6
  rw [ha] at hc
  have hil : (0 : Int) < (us.length : Int) + 1 := by omega
  have H := Lib.hid h
  have H1 := Lib.hid h1
  have HF := Lib.hid hf
  have HW1 := Lib.hid hw1
  have HB01 := Lib.hid hb01
  have HU1 := Lib.hid ou1
  have HR := Lib.hid hr
  have HZ := Lib.hid hz
  have HCut := Lib.hid hcut
  have HUs := Lib.hid hus
  have HA := Lib.hid ha
  have HSl := Lib.hid (And.intro hsl hsa)
  have HG := Lib.hid hg
  clear h h1 hf hw1 hb01 ou1 hr hz hcut hus ha hsl hsa hcl hbuf hg
  go_enter Try.func41, Try.ntmps41
  go_wp2_with fail
  rw [← HW1.out]
  clear hc e0 e1 e2 e3 e4 e5 e6
  have hc := H1.out.own.cell 2 (by simp [pairCells])
  have hcf := H1.out.own.frozen 2
  simp only [pairCells, List.getD_cons_succ, List.getD_cons_zero, HF.out, List.length_cons] at hc
  obtain ⟨hsl, hsa⟩ := HSl.out
  have hsz1 : w1.heap.size = w.heap.size + 1 := by rw [HW1.out]; simp
  have hlt1 := H1.out.own.lt
  go_region
  generalize hW2 : (w1.setCell ⟨p, 2, none⟩ (.slice A us.length (L.c0 - 1))).drew = W2
  have hx12 : Exc (fun k => k = p) w1 W2 := by rw [← hW2]; exact ((Exc.refl (fun k => k = p) w1).setCell ⟨p, 2, none⟩ (.inl rfl) _).drawN 1
  have ho2 := H1.out.own.set 2 (.slice A us.length (L.c0 - 1))
  have ho2' : Own W2 p 69 ((pairCells st L).set 2 (.slice A us.length (L.c0 - 1))) := by rw [← hW2]; exact Own.drewK ho2
  have ou2 : Own W2 w.heap.size 45 (unCells ⟨ub, bb, uf, fb, uk, us', ul⟩ s ul.length ul.length) := HU1.out.exc hx12 (by omega)
  obtain ⟨L2, hL2⟩ : ∃ X, X = ({ L with g0 := L.g0, a0 := A, c0 := L.c0 - 1, col := recol L.col w1.heap.size (fun k => L.g0 = some k) 3 } : PLay) := ⟨_, rfl⟩
  have hcolp : ∀ (kk : Nat), L.g0 = some kk → ¬ kk = p := fun kk hk hp' => by have h5 := H.out.cg0 kk hk; rw [hp', H.out.cp] at h5; omega
  have ht0 : WayAt w L.col L.g0 A (L.c0 - 1) us := WayAt.tail HCut.out HUs.out
  have ht1 : WayAt w1 L.col L.g0 A (L.c0 - 1) us := ht0.move (T := fun _ => False) (Exc.of_below HB01.out) (fun _ _ hh => hh) (fun _ _ _ hh => hh) (fun _ _ => rfl)
  have ht2 : WayAt W2 (recol L.col w1.heap.size (fun k => L.g0 = some k) 3) L.g0 A (L.c0 - 1) us := ht1.move hx12 hcolp (fun kk _ hc7 hkp' => by rw [hkp', H.out.cp] at hc7; omega) (fun kk hk => recol_old hk)
  have hP2 := H1.out.way0 (us := us) (g' := L.g0) (a' := A) (c' := L.c0 - 1) (hx12.weak (fun _ _ hh => .inr hh)) (by
      have e : pairCells { st with f0 := us } { L with g0 := L.g0, a0 := A, c0 := L.c0 - 1, col := recol L.col w1.heap.size (fun k => L.g0 = some k) 3 } = (pairCells st L).set 2 (.slice A us.length (L.c0 - 1)) := by simp [pairCells]
      rw [e]; exact ho2') ht2 (fun kk hk => .inl hk)
  rw [← hL2] at hP2
  have eB2 : L2.B = L.B := by rw [hL2]
  have hL2' : L2.S0 = L.S0 := by rw [hL2]
  have ecol2 : ∀ kk, kk < w1.heap.size → L2.col kk = L.col kk := fun kk hk => by rw [hL2]; exact recol_old (col := L.col) (S := fun k => L.g0 = some k) (c := 3) hk
  have hB02 : Below L.B w W2 := (HB01.out.mono H.out.lowB).trans (H1.out.below hx12 (fun kk _ hk => by rw [hk, H1.out.cp]; decide))
  have hr2 : Row .u8 W2 s ul.length ul.length ul := (HR.out.later HB01.out).exc hx12 (fun z hz hk => by have h5 := (HZ.out z hz).1; rw [hk, H.out.cp] at h5; omega)
  have hz2 : ∀ z, s = some z → Load W2 L2.col z.block := fun z hz => ⟨by rw [ecol2 _ (Nat.lt_of_lt_of_le (HZ.out z hz).2 HB01.out.size)]; exact (HZ.out z hz).1, Nat.lt_of_lt_of_le (HZ.out z hz).2 (Nat.le_trans HB01.out.size hx12.size)⟩
  have HS := Lib.hid (show L2.S0 w.heap.size → False from fun hs => by rw [hL2'] at hs; exact Nat.lt_irrefl _ (I.lt H.out.e0 _ hs))
  have HP2 := Lib.hid hP2
  have HE2 := Lib.hid eB2
  have HB2 := Lib.hid hB02
  have HR2 := Lib.hid hr2
  have HZ2 := Lib.hid hz2
  have HU2 := Lib.hid ou2
  have z2 : w.heap.size < W2.heap.size := ou2.lt
  clear hW2 hx12 ho2 ho2' ou2 hL2 hL2' hcolp ht0 ht1 ht2 hP2 eB2 ecol2 hB02 hr2 hz2 hc hcf hsl hsa
  go_wp2
  (try simp only [Exit.inBlock, Exit.then])
  refine bodyPost_ret (results_none rfl _ _ _) rfl ?_
  refine ⟨rfl, ⟨_, ?_, HP2.out⟩, HB2.out⟩
  exact HE2.out
set_option maxHeartbeats 8000000 in
set_option maxRecDepth 100000 in
theorem bring0_heard (I : EndFace) (w : World) (p : Nat) (st : PSt) (L : PLay) (u : Un) (us : List Un) (h : PairAt I w p st L) (hf : st.f0 = u :: us) (hyp : st.x0.failed = false ∧ u.kind ≠ 1 ∧ chk (u.back : Int) (u.fore : Int) (u.kind : Int) (u.state : Int) u.load.length = 0 ∧ (st.x0.hear u).2.failed = false) (ht : st.t0.length ≤ 100000) :
    Calls Try.prog 41 #[.pointer (some ⟨p, 0, none⟩), .int .i64 0, .bool false] w fun e w' => e = .returned (.tuple #[]) ∧ (∃ L', L'.B = L.B ∧ PairAt I w' p { st with x0 := (st.x0.hear u).2, f0 := us, t0 := st.t0 ++ (st.x0.hear u).1.toList } L') ∧ Below L.B w w' := by
  have hp := h.own.lt
  have hc := h.own.cell 2 (by simp [pairCells])
  simp only [pairCells, List.getD_cons_succ, List.getD_cons_zero, hf, List.length_cons] at hc
  obtain ⟨ub, bb, uf, fb, uk, us', ul⟩ := u
  have hw := h.w0
  rw [hf] at hw
  obtain ⟨k, o, s, ha, hg, hcl, hr, hz⟩ := hw.first
  obtain ⟨cs, hbuf, hus⟩ := hw
  obtain ⟨A, hsl, hsa, hcut⟩ := unit_cut hbuf
  have hle := hbuf.le
  have hmx := hbuf.max
  unfold maxLen at hmx
  have hkp : k ≠ p := fun hk => by have h5 := h.cg0 k hg; rw [hk, h.cp] at h5; omega
  have hks : k < w.heap.size := h.w0_lt hg
  obtain ⟨w1, hw1⟩ : ∃ X, X = w.alloc (.cells #[.int .u8 (ub : Int), .bool bb, .int .u8 (uf : Int), .bool fb, .int .u8 (uk : Int), .int .u8 (us' : Int), .slice s ul.length ul.length] 45) := ⟨_, rfl⟩
  have hb01 : Below w.heap.size w w1 := by rw [hw1]; exact below_alloc _ _
  have ou1 : Own w1 w.heap.size 45 (unCells ⟨ub, bb, uf, fb, uk, us', ul⟩ s ul.length ul.length) := by rw [hw1]; exact own_lit w _ _ _ rfl
  have h1 := h.later hb01
  have e0 := hcl 0 (by omega)
  have e1 := hcl 1 (by omega)
  have e2 := hcl 2 (by omega)
  have e3 := hcl 3 (by omega)
  have e4 := hcl 4 (by omega)
  have e5 := hcl 5 (by omega)
  have e6 := hcl 6 (by omega)
  simp only [unCells, List.getD_cons_succ, List.getD_cons_zero, Nat.add_zero] at e0 e1 e2 e3 e4 e5 e6
  rw [ha] at hc
  have hil : (0 : Int) < (us.length : Int) + 1 := by omega
  have H := Lib.hid h
  have H1 := Lib.hid h1
  have HF := Lib.hid hf
  have HW1 := Lib.hid hw1
  have HB01 := Lib.hid hb01
  have HU1 := Lib.hid ou1
  have HR := Lib.hid hr
  have HZ := Lib.hid hz
  have HCut := Lib.hid hcut
  have HUs := Lib.hid hus
  have HA := Lib.hid ha
  have HSl := Lib.hid (And.intro hsl hsa)
  have HG := Lib.hid hg
  clear h h1 hf hw1 hb01 ou1 hr hz hcut hus ha hsl hsa hcl hbuf hg
  go_enter Try.func41, Try.ntmps41
  go_wp2_with fail
  rw [← HW1.out]
  clear hc e0 e1 e2 e3 e4 e5 e6
  have hc := H1.out.own.cell 2 (by simp [pairCells])
  have hcf := H1.out.own.frozen 2
  simp only [pairCells, List.getD_cons_succ, List.getD_cons_zero, HF.out, List.length_cons] at hc
  obtain ⟨hsl, hsa⟩ := HSl.out
  have hsz1 : w1.heap.size = w.heap.size + 1 := by rw [HW1.out]; simp
  have hlt1 := H1.out.own.lt
  go_region
  generalize hW2 : (w1.setCell ⟨p, 2, none⟩ (.slice A us.length (L.c0 - 1))).drew = W2
  have hx12 : Exc (fun k => k = p) w1 W2 := by rw [← hW2]; exact ((Exc.refl (fun k => k = p) w1).setCell ⟨p, 2, none⟩ (.inl rfl) _).drawN 1
  have ho2 := H1.out.own.set 2 (.slice A us.length (L.c0 - 1))
  have ho2' : Own W2 p 69 ((pairCells st L).set 2 (.slice A us.length (L.c0 - 1))) := by rw [← hW2]; exact Own.drewK ho2
  have ou2 : Own W2 w.heap.size 45 (unCells ⟨ub, bb, uf, fb, uk, us', ul⟩ s ul.length ul.length) := HU1.out.exc hx12 (by omega)
  obtain ⟨L2, hL2⟩ : ∃ X, X = ({ L with g0 := L.g0, a0 := A, c0 := L.c0 - 1, col := recol L.col w1.heap.size (fun k => L.g0 = some k) 3 } : PLay) := ⟨_, rfl⟩
  have hcolp : ∀ (kk : Nat), L.g0 = some kk → ¬ kk = p := fun kk hk hp' => by have h5 := H.out.cg0 kk hk; rw [hp', H.out.cp] at h5; omega
  have ht0 : WayAt w L.col L.g0 A (L.c0 - 1) us := WayAt.tail HCut.out HUs.out
  have ht1 : WayAt w1 L.col L.g0 A (L.c0 - 1) us := ht0.move (T := fun _ => False) (Exc.of_below HB01.out) (fun _ _ hh => hh) (fun _ _ _ hh => hh) (fun _ _ => rfl)
  have ht2 : WayAt W2 (recol L.col w1.heap.size (fun k => L.g0 = some k) 3) L.g0 A (L.c0 - 1) us := ht1.move hx12 hcolp (fun kk _ hc7 hkp' => by rw [hkp', H.out.cp] at hc7; omega) (fun kk hk => recol_old hk)
  have hP2 := H1.out.way0 (us := us) (g' := L.g0) (a' := A) (c' := L.c0 - 1) (hx12.weak (fun _ _ hh => .inr hh)) (by
      have e : pairCells { st with f0 := us } { L with g0 := L.g0, a0 := A, c0 := L.c0 - 1, col := recol L.col w1.heap.size (fun k => L.g0 = some k) 3 } = (pairCells st L).set 2 (.slice A us.length (L.c0 - 1)) := by simp [pairCells]
      rw [e]; exact ho2') ht2 (fun kk hk => .inl hk)
  rw [← hL2] at hP2
  have eB2 : L2.B = L.B := by rw [hL2]
  have hL2' : L2.S0 = L.S0 := by rw [hL2]
  have ecol2 : ∀ kk, kk < w1.heap.size → L2.col kk = L.col kk := fun kk hk => by rw [hL2]; exact recol_old (col := L.col) (S := fun k => L.g0 = some k) (c := 3) hk
  have hB02 : Below L.B w W2 := (HB01.out.mono H.out.lowB).trans (H1.out.below hx12 (fun kk _ hk => by rw [hk, H1.out.cp]; decide))
  have hr2 : Row .u8 W2 s ul.length ul.length ul := (HR.out.later HB01.out).exc hx12 (fun z hz hk => by have h5 := (HZ.out z hz).1; rw [hk, H.out.cp] at h5; omega)
  have hz2 : ∀ z, s = some z → Load W2 L2.col z.block := fun z hz => ⟨by rw [ecol2 _ (Nat.lt_of_lt_of_le (HZ.out z hz).2 HB01.out.size)]; exact (HZ.out z hz).1, Nat.lt_of_lt_of_le (HZ.out z hz).2 (Nat.le_trans HB01.out.size hx12.size)⟩
  have HS := Lib.hid (show L2.S0 w.heap.size → False from fun hs => by rw [hL2'] at hs; exact Nat.lt_irrefl _ (I.lt H.out.e0 _ hs))
  have HP2 := Lib.hid hP2
  have HE2 := Lib.hid eB2
  have HB2 := Lib.hid hB02
  have HR2 := Lib.hid hr2
  have HZ2 := Lib.hid hz2
  have HU2 := Lib.hid ou2
  have z2 : w.heap.size < W2.heap.size := ou2.lt
  clear hW2 hx12 ho2 ho2' ou2 hL2 hL2' hcolp ht0 ht1 ht2 hP2 eB2 ecol2 hB02 hr2 hz2 hc hcf hsl hsa
  have HHy := Lib.hid hyp
  clear hyp
  obtain ⟨v0, v1, v2, v3, v4, v5, v6⟩ := unit_cells HU2.out
  simp only at v0 v1 v2 v3 v4 v5 v6
  have ce := HP2.out.own.cell 0 (by simp [pairCells])
  simp only [pairCells, List.getD_cons_zero] at ce
  have hb23 : Below W2.heap.size W2 W2.drew := below_draw W2 1
  have hP3 : PairAt I W2.drew p { st with f0 := us } L2 := HP2.out.later hb23
  have hcon := I.hear (u := ⟨ub, bb, uf, fb, uk, us', ul⟩) (n := ul.length) (c := ul.length) hP3.e0 HHy.out.1 HHy.out.2.1 HHy.out.2.2.1 (HR2.out.later hb23) (fun z hz hs => by have h5 := (HZ2.out z hz).1; rw [hP3.s0 _ hs] at h5; omega) HHy.out.2.2.2
  simp only [unCells] at hcon
  have hps : ¬ L2.S0 p := fun hs => by have h5 := HP2.out.s0 p hs; rw [HP2.out.cp] at h5; omega
  have hus' : ¬ L2.S0 w.heap.size := fun hs => HS.out hs
  have hp2 : p < W2.heap.size := HP2.out.own.lt
  have HP3 := Lib.hid hP3
  have HC := Lib.hid hcon
  have HNs := Lib.hid (And.intro hps hus')
  clear hb23 hP3 hcon hps hus'
  go_wp2_with fail
  go_region_held3 (fun w' => w'.cell? ⟨p, 0, none⟩ = some (.pointer (some ⟨L2.b0, 0, none⟩)) ∧ w'.cell? ⟨w.heap.size, 0, none⟩ = some (.int .u8 (ub : Int)) ∧ w'.cell? ⟨w.heap.size, 1, none⟩ = some (.bool bb) ∧ w'.cell? ⟨w.heap.size, 2, none⟩ = some (.int .u8 (uf : Int)) ∧ w'.cell? ⟨w.heap.size, 3, none⟩ = some (.bool fb) ∧ w'.cell? ⟨w.heap.size, 4, none⟩ = some (.int .u8 (uk : Int)) ∧ w'.cell? ⟨w.heap.size, 5, none⟩ = some (.int .u8 (us' : Int)) ∧ w'.cell? ⟨w.heap.size, 6, none⟩ = some (.slice s ul.length ul.length)) (first | go_keep | assumption)
    (first
      | (go_at_call 16; ((with_reducible refine (HC.out).mono ?_); rintro e w4 ⟨S', ⟨ra, rc, rfl, hm, hc1⟩, hat, htn⟩); have kce := htn.exc.cell (p := ⟨p, 0, none⟩) (by exact ce) HNs.out.1; have k0 := htn.exc.cell (p := ⟨w.heap.size, 0, none⟩) (by exact v0) HNs.out.2; have k1 := htn.exc.cell (p := ⟨w.heap.size, 1, none⟩) (by exact v1) HNs.out.2; have k2 := htn.exc.cell (p := ⟨w.heap.size, 2, none⟩) (by exact v2) HNs.out.2; have k3 := htn.exc.cell (p := ⟨w.heap.size, 3, none⟩) (by exact v3) HNs.out.2; have k4 := htn.exc.cell (p := ⟨w.heap.size, 4, none⟩) (by exact v4) HNs.out.2; have k5 := htn.exc.cell (p := ⟨w.heap.size, 5, none⟩) (by exact v5) HNs.out.2; have k6 := htn.exc.cell (p := ⟨w.heap.size, 6, none⟩) (by exact v6) HNs.out.2; have HQ := Lib.hid (And.intro hm (And.intro hc1 (And.intro hat htn))); clear hm hc1 hat htn)
      | fail)
  obtain ⟨hm, hc1, hat, htn⟩ := HQ.out
  have hP4 := HP3.out.turn0 hat htn
  obtain ⟨L4, hL4⟩ : ∃ X, X = ({ L2 with S0 := S', col := recol L2.col W2.drew.heap.size S' 1 } : PLay) := ⟨_, rfl⟩
  rw [← hL4] at hP4
  have eB4 : L4.B = L.B := by rw [hL4]; exact HE2.out
  have ecol4 : L4.col = recol L2.col W2.drew.heap.size S' 1 := by rw [hL4]
  have hmat := hm.weak (P' := Load w4 L4.col) (fun kk hk => ⟨by rw [ecol4]; exact recol_out (Nat.not_lt.2 hk.1) hk.2.2, hk.2.1⟩)
  have hB3 := HP3.out.below htn.exc (fun kk _ hk => by rw [HP3.out.s0 kk hk]; decide)
  rw [HE2.out] at hB3
  have hB24 : Below L.B w w4 := HB2.out.trans (Below.trans (Below.mono (below_draw W2 1) (by have := HP2.out.lowB; rw [HE2.out] at this; exact this)) hB3)
  obtain ⟨ms, hms⟩ : ∃ x, x = (st.x0.hear ⟨ub, bb, uf, fb, uk, us', ul⟩).1.toList := ⟨_, rfl⟩
  obtain ⟨mm, hmm⟩ : ∃ x, x = ms.length := ⟨_, rfl⟩
  rw [← hms, ← hmm] at hmat
  have hmm1 : mm ≤ 1 := by rw [hmm, hms]; cases (st.x0.hear ⟨ub, bb, uf, fb, uk, us', ul⟩).1 <;> simp
  rw [← hms, ← hmm]
  have c8 := hP4.own.cell 8 (by simp [pairCells])
  have cf8 := hP4.own.frozen 8
  simp only [pairCells, List.getD_cons_succ, List.getD_cons_zero] at c8
  have HP4 := Lib.hid hP4
  have HE4 := Lib.hid eB4
  have HMt := Lib.hid hmat
  have HB4 := Lib.hid hB24
  have HMs := Lib.hid hms
  have HMm := Lib.hid hmm
  clear hm hc1 hat htn hP4 hL4 eB4 ecol4 hmat hB3 hB24 hms hmm HQ kce k0 k1 k2 k3 k4 k5 k6 ce v0 v1 v2 v3 v4 v5 v6
  go_wp2_with fail
  generalize hW5 : w4.setCell ⟨p, 8, none⟩ (.bool false) = W5
  have hx45 : Exc (fun k => k = p) w4 W5 := by rw [← hW5]; exact (Exc.refl (fun k => k = p) w4).setCell ⟨p, 8, none⟩ (.inl rfl) (.bool false)
  have ho5 := HP4.out.own.set 8 (.bool false)
  rw [hW5] at ho5
  have hP5 : PairAt I W5 p { { st with f0 := us } with x0 := (st.x0.hear ⟨ub, bb, uf, fb, uk, us', ul⟩).2 } L4 := HP4.out.redo hx45 ho5 rfl rfl rfl rfl rfl rfl rfl
  have hmat5 := (HMt.out.exc hx45 (fun kk hk hkp' => by have h5 := hk.1; rw [hkp', HP4.out.cp] at h5; omega)).weak (P' := Load W5 L4.col) (fun kk hk => ⟨hk.1, Nat.lt_of_lt_of_le hk.2 hx45.size⟩)
  obtain ⟨vs', hsrc, hrows⟩ := hmat5.src
  obtain ⟨vs, hbuf, hvs⟩ := hP5.k0
  have hvl := hbuf.len
  have ct := hP5.own.cell 6 (by simp [pairCells])
  have cft := hP5.own.frozen 6
  simp only [pairCells, List.getD_cons_succ, List.getD_cons_zero] at ct
  obtain ⟨i0, hi, hz0, hz1', hz2⟩ := info_parts infoRow
  have h8 : ∀ kk, kk < W5.heap.size → L4.col kk = 7 → ¬ (L4.h0 = some kk ∨ kk = p) := fun kk _ hc7 hs => by
    rcases hs with hs | hs
    · rw [hP5.ch0 kk hs] at hc7; omega
    · rw [hs, hP5.cp] at hc7; omega
  have hpg : ∀ kk, L4.h0 = some kk → kk ≠ p := fun kk hk hp' => by have h5 := hP5.ch0 kk hk; rw [hp', hP5.cp] at h5; omega
  have hp5 : p < W5.heap.size := hP5.own.lt
  have hnn : st.t0.length + mm ≤ maxLen := by unfold maxLen; omega
  have hbb : (st.t0.length + mm) * 24 ≤ 140737488355328 := by omega
  have HP5 := Lib.hid hP5
  have HX45 := Lib.hid hx45
  have HSr := Lib.hid hsrc
  have HRo := Lib.hid hrows
  have HBf := Lib.hid hbuf
  have HVs := Lib.hid hvs
  have HVl := Lib.hid hvl
  have HI := Lib.hid (And.intro hi (And.intro hz0 (And.intro hz1' hz2)))
  have H8 := Lib.hid h8
  have HPg := Lib.hid hpg
  have HNn := Lib.hid (And.intro hnn hbb)
  clear hW5 hx45 ho5 hP5 hmat5 hsrc hrows hbuf hvs hvl hi hz0 hz1' hz2 h8 hpg hnn hbb c8 cf8
  go_wp2_with fail
  go_region_law
    (first
      | (refine step_append_buf (by rfl) _ _ _ _ (by rfl) 36 i0 _ 1 24 Try.underlying52 HI.out.1 HI.out.2.1 HI.out.2.2.1 HI.out.2.2.2 (by rfl) (by decide) L4.h0 L4.d0 st.t0.length L4.q0 vs (by rfl) (by first | exact HBf.out | exact HBf.out.later (below_draw W5 1)) (.slice ra mm rc) mm vs' (by rfl) (by first | exact HSr.out 0 | exact HSr.out 1) HNn.out.1 HNn.out.2 ?_; intro g' a' c' w6 q1 q2 q3; have kct := q2.cell (p := ⟨p, 6, none⟩) (by exact ct) (fun hh => HPg.out p hh rfl); have kf : w6.frozen? ⟨p, 6, none⟩ = false := (by first | exact (HP5.out.own.exc q2 (fun hh => HPg.out p hh rfl)).frozen 6 | exact ((HP5.out.own.below (below_draw W5 1) hp5).exc q2 (fun hh => HPg.out p hh rfl)).frozen 6); have HQ := Lib.hid (And.intro q1 (And.intro q2 q3)); clear q1 q2 q3)
      | fail)
  all_goals
    obtain ⟨q1, q2, q3⟩ := HQ.out
    have hx56 : Exc (fun kk => L4.h0 = some kk) W5 w6 := by first | exact q2 | exact (Exc.of_below (below_draw W5 1)).trans q2 (fun _ _ hh => hh)
    have hlies : ∀ kk, g' = some kk → L4.h0 = some kk ∨ W5.heap.size ≤ kk := fun kk hk => by
      rcases q3 kk hk with h5 | h5
      · exact .inl h5
      · exact .inr h5
    have HX56 := Lib.hid hx56
    have HLi := Lib.hid hlies
    have HQ1 := Lib.hid q1
    clear q1 q2 q3 hx56 hlies HQ ct cft
    generalize hW7 : w6.setCell ⟨p, 6, none⟩ (.slice a' (st.t0.length + mm) c') = W7
    have hx67 : Exc (fun k => k = p) w6 W7 := by rw [← hW7]; exact (Exc.refl (fun k => k = p) w6).setCell ⟨p, 6, none⟩ (.inl rfl) _
    have hx57 : Exc (fun kk => L4.h0 = some kk ∨ kk = p) W5 W7 := (HX56.out.weak (fun _ _ hh => .inl hh)).trans hx67 (fun _ _ hh => .inr hh)
    have hx47 : Exc (fun kk => L4.h0 = some kk ∨ kk = p) w4 W7 := (HX45.out.weak (fun _ _ hh => .inr hh)).trans hx57 (fun _ _ hh => hh)
    have ho7 := (HP5.out.own.exc HX56.out (fun hh => HPg.out p hh rfl)).set 6 (.slice a' (st.t0.length + mm) c')
    rw [hW7] at ho7
    have hgp' : ∀ kk, g' = some kk → ¬ kk = p := fun kk hk hp' => by
      rcases HLi.out kk hk with h5 | h5
      · exact HPg.out kk h5 hp'
      · omega
    have hb7 := HQ1.out.exc hx67 hgp'
    rw [HMm.out] at hb7
    have hr7 : ∀ i l, ms[i]? = some l → RowV W7 (Load W7 (recol L4.col W5.heap.size (fun kk => g' = some kk) 5)) true (vs'.getD i undef) l := fun i l hi =>
      ((HRo.out i l hi).exc hx57 (fun kk hk => H8.out kk hk.2 hk.1)).mono (fun kk _ hk => ⟨by rw [recol_old hk.2]; exact hk.1, Nat.lt_of_lt_of_le hk.2 hx57.size⟩) (.inr fun kk hk => ⟨by rw [recol_old hk.2]; exact hk.1, Nat.lt_of_lt_of_le hk.2 hx57.size⟩)
    have htak : TakAt W7 (recol L4.col W5.heap.size (fun kk => g' = some kk) 5) g' a' c' (st.t0 ++ ms) := TakAt.add HVs.out (by have := HVl.out; omega) hx57 H8.out (fun kk hk => recol_old hk) hb7 hr7
    have hP := HP5.out.tak0 hx57 (us := st.t0 ++ ms) (by
      have e : pairCells { { { st with f0 := us } with x0 := (st.x0.hear ⟨ub, bb, uf, fb, uk, us', ul⟩).2 } with t0 := st.t0 ++ ms } { L4 with h0 := g', d0 := a', q0 := c', col := recol L4.col W5.heap.size (fun kk => g' = some kk) 5 } = (pairCells { { st with f0 := us } with x0 := (st.x0.hear ⟨ub, bb, uf, fb, uk, us', ul⟩).2 } L4).set 6 (.slice a' (st.t0.length + mm) c') := by simp [pairCells, HMm.out]
      rw [e]; exact ho7) htak HLi.out
    have hB7 := HP4.out.below hx47 (fun kk _ hk => by
      rcases hk with hk | hk
      · rw [HP4.out.ch0 kk hk]; decide
      · rw [hk, HP4.out.cp]; decide)
    rw [HE4.out] at hB7
    rw [HMs.out] at hP
    have HPz := Lib.hid hP
    have HBz := Lib.hid (HB4.out.trans hB7)
    clear hP hB7 htak hr7 hb7 hgp' ho7 hx47 hx57 hx67 hW7
    go_wp2
    go_end0
    refine ⟨rfl, ⟨_, ?_, HPz.out⟩, HBz.out⟩
    exact HE4.out
theorem bring1_none (I : EndFace) (w : World) (p : Nat) (st : PSt) (L : PLay) (lost : Bool) (h : PairAt I w p st L) (hf : st.f1 = []) :
    Calls Try.prog 41 #[.pointer (some ⟨p, 0, none⟩), .int .i64 1, .bool lost] w fun e w' => e = .returned (.tuple #[]) ∧ w = w' := by
  have hc := h.own.cell 3 (by simp [pairCells])
  simp only [pairCells, List.getD_cons_succ, List.getD_cons_zero, hf, List.length_nil] at hc
  clear h hf
  go_enter Try.func41, Try.ntmps41
  go_wp2
  (try simp only [Exit.inBlock, Exit.then])
  refine bodyPost_ret (results_none rfl _ _ _) rfl ?_
  exact ⟨rfl, rfl⟩
set_option maxHeartbeats 8000000 in
set_option maxRecDepth 100000 in
theorem bring1_lost (I : EndFace) (w : World) (p : Nat) (st : PSt) (L : PLay) (u : Un) (us : List Un) (h : PairAt I w p st L) (hf : st.f1 = u :: us)  :
    Calls Try.prog 41 #[.pointer (some ⟨p, 0, none⟩), .int .i64 1, .bool true] w fun e w' => e = .returned (.tuple #[]) ∧ (∃ L', L'.B = L.B ∧ PairAt I w' p { st with f1 := us } L') ∧ Below L.B w w' := by
  have hp := h.own.lt
  have hc := h.own.cell 3 (by simp [pairCells])
  simp only [pairCells, List.getD_cons_succ, List.getD_cons_zero, hf, List.length_cons] at hc
  obtain ⟨ub, bb, uf, fb, uk, us', ul⟩ := u
  have hw := h.w1
  rw [hf] at hw
  obtain ⟨k, o, s, ha, hg, hcl, hr, hz⟩ := hw.first
  obtain ⟨cs, hbuf, hus⟩ := hw
  obtain ⟨A, hsl, hsa, hcut⟩ := unit_cut hbuf
  have hle := hbuf.le
  have hmx := hbuf.max
  unfold maxLen at hmx
  have hkp : k ≠ p := fun hk => by have h5 := h.cg1 k hg; rw [hk, h.cp] at h5; omega
  have hks : k < w.heap.size := h.w1_lt hg
  obtain ⟨w1, hw1⟩ : ∃ X, X = w.alloc (.cells #[.int .u8 (ub : Int), .bool bb, .int .u8 (uf : Int), .bool fb, .int .u8 (uk : Int), .int .u8 (us' : Int), .slice s ul.length ul.length] 45) := ⟨_, rfl⟩
  have hb01 : Below w.heap.size w w1 := by rw [hw1]; exact below_alloc _ _
  have ou1 : Own w1 w.heap.size 45 (unCells ⟨ub, bb, uf, fb, uk, us', ul⟩ s ul.length ul.length) := by rw [hw1]; exact own_lit w _ _ _ rfl
  have h1 := h.later hb01
  have e0 := hcl 0 (by omega)
  have e1 := hcl 1 (by omega)
  have e2 := hcl 2 (by omega)
  have e3 := hcl 3 (by omega)
  have e4 := hcl 4 (by omega)
  have e5 := hcl 5 (by omega)
  have e6 := hcl 6 (by omega)
  simp only [unCells, List.getD_cons_succ, List.getD_cons_zero, Nat.add_zero] at e0 e1 e2 e3 e4 e5 e6
  rw [ha] at hc
  have hil : (0 : Int) < (us.length : Int) + 1 := by omega
  have H := Lib.hid h
  have H1 := Lib.hid h1
  have HF := Lib.hid hf
  have HW1 := Lib.hid hw1
  have HB01 := Lib.hid hb01
  have HU1 := Lib.hid ou1
  have HR := Lib.hid hr
  have HZ := Lib.hid hz
  have HCut := Lib.hid hcut
  have HUs := Lib.hid hus
  have HA := Lib.hid ha
  have HSl := Lib.hid (And.intro hsl hsa)
  have HG := Lib.hid hg
  clear h h1 hf hw1 hb01 ou1 hr hz hcut hus ha hsl hsa hcl hbuf hg
  go_enter Try.func41, Try.ntmps41
  go_wp2_with fail
  rw [← HW1.out]
  clear hc e0 e1 e2 e3 e4 e5 e6
  have hc := H1.out.own.cell 3 (by simp [pairCells])
  have hcf := H1.out.own.frozen 3
  simp only [pairCells, List.getD_cons_succ, List.getD_cons_zero, HF.out, List.length_cons] at hc
  obtain ⟨hsl, hsa⟩ := HSl.out
  have hsz1 : w1.heap.size = w.heap.size + 1 := by rw [HW1.out]; simp
  have hlt1 := H1.out.own.lt
  go_region
  generalize hW2 : (w1.setCell ⟨p, 3, none⟩ (.slice A us.length (L.c1 - 1))).drew = W2
  have hx12 : Exc (fun k => k = p) w1 W2 := by rw [← hW2]; exact ((Exc.refl (fun k => k = p) w1).setCell ⟨p, 3, none⟩ (.inl rfl) _).drawN 1
  have ho2 := H1.out.own.set 3 (.slice A us.length (L.c1 - 1))
  have ho2' : Own W2 p 69 ((pairCells st L).set 3 (.slice A us.length (L.c1 - 1))) := by rw [← hW2]; exact Own.drewK ho2
  have ou2 : Own W2 w.heap.size 45 (unCells ⟨ub, bb, uf, fb, uk, us', ul⟩ s ul.length ul.length) := HU1.out.exc hx12 (by omega)
  obtain ⟨L2, hL2⟩ : ∃ X, X = ({ L with g1 := L.g1, a1 := A, c1 := L.c1 - 1, col := recol L.col w1.heap.size (fun k => L.g1 = some k) 4 } : PLay) := ⟨_, rfl⟩
  have hcolp : ∀ (kk : Nat), L.g1 = some kk → ¬ kk = p := fun kk hk hp' => by have h5 := H.out.cg1 kk hk; rw [hp', H.out.cp] at h5; omega
  have ht0 : WayAt w L.col L.g1 A (L.c1 - 1) us := WayAt.tail HCut.out HUs.out
  have ht1 : WayAt w1 L.col L.g1 A (L.c1 - 1) us := ht0.move (T := fun _ => False) (Exc.of_below HB01.out) (fun _ _ hh => hh) (fun _ _ _ hh => hh) (fun _ _ => rfl)
  have ht2 : WayAt W2 (recol L.col w1.heap.size (fun k => L.g1 = some k) 4) L.g1 A (L.c1 - 1) us := ht1.move hx12 hcolp (fun kk _ hc7 hkp' => by rw [hkp', H.out.cp] at hc7; omega) (fun kk hk => recol_old hk)
  have hP2 := H1.out.way1 (us := us) (g' := L.g1) (a' := A) (c' := L.c1 - 1) (hx12.weak (fun _ _ hh => .inr hh)) (by
      have e : pairCells { st with f1 := us } { L with g1 := L.g1, a1 := A, c1 := L.c1 - 1, col := recol L.col w1.heap.size (fun k => L.g1 = some k) 4 } = (pairCells st L).set 3 (.slice A us.length (L.c1 - 1)) := by simp [pairCells]
      rw [e]; exact ho2') ht2 (fun kk hk => .inl hk)
  rw [← hL2] at hP2
  have eB2 : L2.B = L.B := by rw [hL2]
  have hL2' : L2.S1 = L.S1 := by rw [hL2]
  have ecol2 : ∀ kk, kk < w1.heap.size → L2.col kk = L.col kk := fun kk hk => by rw [hL2]; exact recol_old (col := L.col) (S := fun k => L.g1 = some k) (c := 4) hk
  have hB02 : Below L.B w W2 := (HB01.out.mono H.out.lowB).trans (H1.out.below hx12 (fun kk _ hk => by rw [hk, H1.out.cp]; decide))
  have hr2 : Row .u8 W2 s ul.length ul.length ul := (HR.out.later HB01.out).exc hx12 (fun z hz hk => by have h5 := (HZ.out z hz).1; rw [hk, H.out.cp] at h5; omega)
  have hz2 : ∀ z, s = some z → Load W2 L2.col z.block := fun z hz => ⟨by rw [ecol2 _ (Nat.lt_of_lt_of_le (HZ.out z hz).2 HB01.out.size)]; exact (HZ.out z hz).1, Nat.lt_of_lt_of_le (HZ.out z hz).2 (Nat.le_trans HB01.out.size hx12.size)⟩
  have HS := Lib.hid (show L2.S1 w.heap.size → False from fun hs => by rw [hL2'] at hs; exact Nat.lt_irrefl _ (I.lt H.out.e1 _ hs))
  have HP2 := Lib.hid hP2
  have HE2 := Lib.hid eB2
  have HB2 := Lib.hid hB02
  have HR2 := Lib.hid hr2
  have HZ2 := Lib.hid hz2
  have HU2 := Lib.hid ou2
  have z2 : w.heap.size < W2.heap.size := ou2.lt
  clear hW2 hx12 ho2 ho2' ou2 hL2 hL2' hcolp ht0 ht1 ht2 hP2 eB2 ecol2 hB02 hr2 hz2 hc hcf hsl hsa
  go_wp2
  (try simp only [Exit.inBlock, Exit.then])
  refine bodyPost_ret (results_none rfl _ _ _) rfl ?_
  refine ⟨rfl, ⟨_, ?_, HP2.out⟩, HB2.out⟩
  exact HE2.out
set_option maxHeartbeats 8000000 in
set_option maxRecDepth 100000 in
theorem bring1_heard (I : EndFace) (w : World) (p : Nat) (st : PSt) (L : PLay) (u : Un) (us : List Un) (h : PairAt I w p st L) (hf : st.f1 = u :: us) (hyp : st.x1.failed = false ∧ u.kind ≠ 1 ∧ chk (u.back : Int) (u.fore : Int) (u.kind : Int) (u.state : Int) u.load.length = 0 ∧ (st.x1.hear u).2.failed = false) (ht : st.t1.length ≤ 100000) :
    Calls Try.prog 41 #[.pointer (some ⟨p, 0, none⟩), .int .i64 1, .bool false] w fun e w' => e = .returned (.tuple #[]) ∧ (∃ L', L'.B = L.B ∧ PairAt I w' p { st with x1 := (st.x1.hear u).2, f1 := us, t1 := st.t1 ++ (st.x1.hear u).1.toList } L') ∧ Below L.B w w' := by
  have hp := h.own.lt
  have hc := h.own.cell 3 (by simp [pairCells])
  simp only [pairCells, List.getD_cons_succ, List.getD_cons_zero, hf, List.length_cons] at hc
  obtain ⟨ub, bb, uf, fb, uk, us', ul⟩ := u
  have hw := h.w1
  rw [hf] at hw
  obtain ⟨k, o, s, ha, hg, hcl, hr, hz⟩ := hw.first
  obtain ⟨cs, hbuf, hus⟩ := hw
  obtain ⟨A, hsl, hsa, hcut⟩ := unit_cut hbuf
  have hle := hbuf.le
  have hmx := hbuf.max
  unfold maxLen at hmx
  have hkp : k ≠ p := fun hk => by have h5 := h.cg1 k hg; rw [hk, h.cp] at h5; omega
  have hks : k < w.heap.size := h.w1_lt hg
  obtain ⟨w1, hw1⟩ : ∃ X, X = w.alloc (.cells #[.int .u8 (ub : Int), .bool bb, .int .u8 (uf : Int), .bool fb, .int .u8 (uk : Int), .int .u8 (us' : Int), .slice s ul.length ul.length] 45) := ⟨_, rfl⟩
  have hb01 : Below w.heap.size w w1 := by rw [hw1]; exact below_alloc _ _
  have ou1 : Own w1 w.heap.size 45 (unCells ⟨ub, bb, uf, fb, uk, us', ul⟩ s ul.length ul.length) := by rw [hw1]; exact own_lit w _ _ _ rfl
  have h1 := h.later hb01
  have e0 := hcl 0 (by omega)
  have e1 := hcl 1 (by omega)
  have e2 := hcl 2 (by omega)
  have e3 := hcl 3 (by omega)
  have e4 := hcl 4 (by omega)
  have e5 := hcl 5 (by omega)
  have e6 := hcl 6 (by omega)
  simp only [unCells, List.getD_cons_succ, List.getD_cons_zero, Nat.add_zero] at e0 e1 e2 e3 e4 e5 e6
  rw [ha] at hc
  have hil : (0 : Int) < (us.length : Int) + 1 := by omega
  have H := Lib.hid h
  have H1 := Lib.hid h1
  have HF := Lib.hid hf
  have HW1 := Lib.hid hw1
  have HB01 := Lib.hid hb01
  have HU1 := Lib.hid ou1
  have HR := Lib.hid hr
  have HZ := Lib.hid hz
  have HCut := Lib.hid hcut
  have HUs := Lib.hid hus
  have HA := Lib.hid ha
  have HSl := Lib.hid (And.intro hsl hsa)
  have HG := Lib.hid hg
  clear h h1 hf hw1 hb01 ou1 hr hz hcut hus ha hsl hsa hcl hbuf hg
  go_enter Try.func41, Try.ntmps41
  go_wp2_with fail
  rw [← HW1.out]
  clear hc e0 e1 e2 e3 e4 e5 e6
  have hc := H1.out.own.cell 3 (by simp [pairCells])
  have hcf := H1.out.own.frozen 3
  simp only [pairCells, List.getD_cons_succ, List.getD_cons_zero, HF.out, List.length_cons] at hc
  obtain ⟨hsl, hsa⟩ := HSl.out
  have hsz1 : w1.heap.size = w.heap.size + 1 := by rw [HW1.out]; simp
  have hlt1 := H1.out.own.lt
  go_region
  generalize hW2 : (w1.setCell ⟨p, 3, none⟩ (.slice A us.length (L.c1 - 1))).drew = W2
  have hx12 : Exc (fun k => k = p) w1 W2 := by rw [← hW2]; exact ((Exc.refl (fun k => k = p) w1).setCell ⟨p, 3, none⟩ (.inl rfl) _).drawN 1
  have ho2 := H1.out.own.set 3 (.slice A us.length (L.c1 - 1))
  have ho2' : Own W2 p 69 ((pairCells st L).set 3 (.slice A us.length (L.c1 - 1))) := by rw [← hW2]; exact Own.drewK ho2
  have ou2 : Own W2 w.heap.size 45 (unCells ⟨ub, bb, uf, fb, uk, us', ul⟩ s ul.length ul.length) := HU1.out.exc hx12 (by omega)
  obtain ⟨L2, hL2⟩ : ∃ X, X = ({ L with g1 := L.g1, a1 := A, c1 := L.c1 - 1, col := recol L.col w1.heap.size (fun k => L.g1 = some k) 4 } : PLay) := ⟨_, rfl⟩
  have hcolp : ∀ (kk : Nat), L.g1 = some kk → ¬ kk = p := fun kk hk hp' => by have h5 := H.out.cg1 kk hk; rw [hp', H.out.cp] at h5; omega
  have ht0 : WayAt w L.col L.g1 A (L.c1 - 1) us := WayAt.tail HCut.out HUs.out
  have ht1 : WayAt w1 L.col L.g1 A (L.c1 - 1) us := ht0.move (T := fun _ => False) (Exc.of_below HB01.out) (fun _ _ hh => hh) (fun _ _ _ hh => hh) (fun _ _ => rfl)
  have ht2 : WayAt W2 (recol L.col w1.heap.size (fun k => L.g1 = some k) 4) L.g1 A (L.c1 - 1) us := ht1.move hx12 hcolp (fun kk _ hc7 hkp' => by rw [hkp', H.out.cp] at hc7; omega) (fun kk hk => recol_old hk)
  have hP2 := H1.out.way1 (us := us) (g' := L.g1) (a' := A) (c' := L.c1 - 1) (hx12.weak (fun _ _ hh => .inr hh)) (by
      have e : pairCells { st with f1 := us } { L with g1 := L.g1, a1 := A, c1 := L.c1 - 1, col := recol L.col w1.heap.size (fun k => L.g1 = some k) 4 } = (pairCells st L).set 3 (.slice A us.length (L.c1 - 1)) := by simp [pairCells]
      rw [e]; exact ho2') ht2 (fun kk hk => .inl hk)
  rw [← hL2] at hP2
  have eB2 : L2.B = L.B := by rw [hL2]
  have hL2' : L2.S1 = L.S1 := by rw [hL2]
  have ecol2 : ∀ kk, kk < w1.heap.size → L2.col kk = L.col kk := fun kk hk => by rw [hL2]; exact recol_old (col := L.col) (S := fun k => L.g1 = some k) (c := 4) hk
  have hB02 : Below L.B w W2 := (HB01.out.mono H.out.lowB).trans (H1.out.below hx12 (fun kk _ hk => by rw [hk, H1.out.cp]; decide))
  have hr2 : Row .u8 W2 s ul.length ul.length ul := (HR.out.later HB01.out).exc hx12 (fun z hz hk => by have h5 := (HZ.out z hz).1; rw [hk, H.out.cp] at h5; omega)
  have hz2 : ∀ z, s = some z → Load W2 L2.col z.block := fun z hz => ⟨by rw [ecol2 _ (Nat.lt_of_lt_of_le (HZ.out z hz).2 HB01.out.size)]; exact (HZ.out z hz).1, Nat.lt_of_lt_of_le (HZ.out z hz).2 (Nat.le_trans HB01.out.size hx12.size)⟩
  have HS := Lib.hid (show L2.S1 w.heap.size → False from fun hs => by rw [hL2'] at hs; exact Nat.lt_irrefl _ (I.lt H.out.e1 _ hs))
  have HP2 := Lib.hid hP2
  have HE2 := Lib.hid eB2
  have HB2 := Lib.hid hB02
  have HR2 := Lib.hid hr2
  have HZ2 := Lib.hid hz2
  have HU2 := Lib.hid ou2
  have z2 : w.heap.size < W2.heap.size := ou2.lt
  clear hW2 hx12 ho2 ho2' ou2 hL2 hL2' hcolp ht0 ht1 ht2 hP2 eB2 ecol2 hB02 hr2 hz2 hc hcf hsl hsa
  have HHy := Lib.hid hyp
  clear hyp
  obtain ⟨v0, v1, v2, v3, v4, v5, v6⟩ := unit_cells HU2.out
  simp only at v0 v1 v2 v3 v4 v5 v6
  have ce := HP2.out.own.cell 1 (by simp [pairCells])
  simp only [pairCells, List.getD_cons_succ, List.getD_cons_zero] at ce
  have hb23 : Below W2.heap.size W2 W2.drew := below_draw W2 1
  have hP3 : PairAt I W2.drew p { st with f1 := us } L2 := HP2.out.later hb23
  have hcon := I.hear (u := ⟨ub, bb, uf, fb, uk, us', ul⟩) (n := ul.length) (c := ul.length) hP3.e1 HHy.out.1 HHy.out.2.1 HHy.out.2.2.1 (HR2.out.later hb23) (fun z hz hs => by have h5 := (HZ2.out z hz).1; rw [hP3.s1 _ hs] at h5; omega) HHy.out.2.2.2
  simp only [unCells] at hcon
  have hps : ¬ L2.S1 p := fun hs => by have h5 := HP2.out.s1 p hs; rw [HP2.out.cp] at h5; omega
  have hus' : ¬ L2.S1 w.heap.size := fun hs => HS.out hs
  have hp2 : p < W2.heap.size := HP2.out.own.lt
  have HP3 := Lib.hid hP3
  have HC := Lib.hid hcon
  have HNs := Lib.hid (And.intro hps hus')
  clear hb23 hP3 hcon hps hus'
  go_wp2_with fail
  go_region_held3 (fun w' => w'.cell? ⟨p, 1, none⟩ = some (.pointer (some ⟨L2.b1, 0, none⟩)) ∧ w'.cell? ⟨w.heap.size, 0, none⟩ = some (.int .u8 (ub : Int)) ∧ w'.cell? ⟨w.heap.size, 1, none⟩ = some (.bool bb) ∧ w'.cell? ⟨w.heap.size, 2, none⟩ = some (.int .u8 (uf : Int)) ∧ w'.cell? ⟨w.heap.size, 3, none⟩ = some (.bool fb) ∧ w'.cell? ⟨w.heap.size, 4, none⟩ = some (.int .u8 (uk : Int)) ∧ w'.cell? ⟨w.heap.size, 5, none⟩ = some (.int .u8 (us' : Int)) ∧ w'.cell? ⟨w.heap.size, 6, none⟩ = some (.slice s ul.length ul.length)) (first | go_keep | assumption)
    (first
      | (go_at_call 16; ((with_reducible refine (HC.out).mono ?_); rintro e w4 ⟨S', ⟨ra, rc, rfl, hm, hc1⟩, hat, htn⟩); have kce := htn.exc.cell (p := ⟨p, 1, none⟩) (by exact ce) HNs.out.1; have k0 := htn.exc.cell (p := ⟨w.heap.size, 0, none⟩) (by exact v0) HNs.out.2; have k1 := htn.exc.cell (p := ⟨w.heap.size, 1, none⟩) (by exact v1) HNs.out.2; have k2 := htn.exc.cell (p := ⟨w.heap.size, 2, none⟩) (by exact v2) HNs.out.2; have k3 := htn.exc.cell (p := ⟨w.heap.size, 3, none⟩) (by exact v3) HNs.out.2; have k4 := htn.exc.cell (p := ⟨w.heap.size, 4, none⟩) (by exact v4) HNs.out.2; have k5 := htn.exc.cell (p := ⟨w.heap.size, 5, none⟩) (by exact v5) HNs.out.2; have k6 := htn.exc.cell (p := ⟨w.heap.size, 6, none⟩) (by exact v6) HNs.out.2; have HQ := Lib.hid (And.intro hm (And.intro hc1 (And.intro hat htn))); clear hm hc1 hat htn)
      | fail)
  obtain ⟨hm, hc1, hat, htn⟩ := HQ.out
  have hP4 := HP3.out.turn1 hat htn
  obtain ⟨L4, hL4⟩ : ∃ X, X = ({ L2 with S1 := S', col := recol L2.col W2.drew.heap.size S' 2 } : PLay) := ⟨_, rfl⟩
  rw [← hL4] at hP4
  have eB4 : L4.B = L.B := by rw [hL4]; exact HE2.out
  have ecol4 : L4.col = recol L2.col W2.drew.heap.size S' 2 := by rw [hL4]
  have hmat := hm.weak (P' := Load w4 L4.col) (fun kk hk => ⟨by rw [ecol4]; exact recol_out (Nat.not_lt.2 hk.1) hk.2.2, hk.2.1⟩)
  have hB3 := HP3.out.below htn.exc (fun kk _ hk => by rw [HP3.out.s1 kk hk]; decide)
  rw [HE2.out] at hB3
  have hB24 : Below L.B w w4 := HB2.out.trans (Below.trans (Below.mono (below_draw W2 1) (by have := HP2.out.lowB; rw [HE2.out] at this; exact this)) hB3)
  obtain ⟨ms, hms⟩ : ∃ x, x = (st.x1.hear ⟨ub, bb, uf, fb, uk, us', ul⟩).1.toList := ⟨_, rfl⟩
  obtain ⟨mm, hmm⟩ : ∃ x, x = ms.length := ⟨_, rfl⟩
  rw [← hms, ← hmm] at hmat
  have hmm1 : mm ≤ 1 := by rw [hmm, hms]; cases (st.x1.hear ⟨ub, bb, uf, fb, uk, us', ul⟩).1 <;> simp
  rw [← hms, ← hmm]
  have c8 := hP4.own.cell 8 (by simp [pairCells])
  have cf8 := hP4.own.frozen 8
  simp only [pairCells, List.getD_cons_succ, List.getD_cons_zero] at c8
  have HP4 := Lib.hid hP4
  have HE4 := Lib.hid eB4
  have HMt := Lib.hid hmat
  have HB4 := Lib.hid hB24
  have HMs := Lib.hid hms
  have HMm := Lib.hid hmm
  clear hm hc1 hat htn hP4 hL4 eB4 ecol4 hmat hB3 hB24 hms hmm HQ kce k0 k1 k2 k3 k4 k5 k6 ce v0 v1 v2 v3 v4 v5 v6
  go_wp2_with fail
  generalize hW5 : w4.setCell ⟨p, 8, none⟩ (.bool false) = W5
  have hx45 : Exc (fun k => k = p) w4 W5 := by rw [← hW5]; exact (Exc.refl (fun k => k = p) w4).setCell ⟨p, 8, none⟩ (.inl rfl) (.bool false)
  have ho5 := HP4.out.own.set 8 (.bool false)
  rw [hW5] at ho5
  have hP5 : PairAt I W5 p { { st with f1 := us } with x1 := (st.x1.hear ⟨ub, bb, uf, fb, uk, us', ul⟩).2 } L4 := HP4.out.redo hx45 ho5 rfl rfl rfl rfl rfl rfl rfl
  have hmat5 := (HMt.out.exc hx45 (fun kk hk hkp' => by have h5 := hk.1; rw [hkp', HP4.out.cp] at h5; omega)).weak (P' := Load W5 L4.col) (fun kk hk => ⟨hk.1, Nat.lt_of_lt_of_le hk.2 hx45.size⟩)
  obtain ⟨vs', hsrc, hrows⟩ := hmat5.src
  obtain ⟨vs, hbuf, hvs⟩ := hP5.k1
  have hvl := hbuf.len
  have ct := hP5.own.cell 7 (by simp [pairCells])
  have cft := hP5.own.frozen 7
  simp only [pairCells, List.getD_cons_succ, List.getD_cons_zero] at ct
  obtain ⟨i0, hi, hz0, hz1', hz2⟩ := info_parts infoRow
  have h8 : ∀ kk, kk < W5.heap.size → L4.col kk = 7 → ¬ (L4.h1 = some kk ∨ kk = p) := fun kk _ hc7 hs => by
    rcases hs with hs | hs
    · rw [hP5.ch1 kk hs] at hc7; omega
    · rw [hs, hP5.cp] at hc7; omega
  have hpg : ∀ kk, L4.h1 = some kk → kk ≠ p := fun kk hk hp' => by have h5 := hP5.ch1 kk hk; rw [hp', hP5.cp] at h5; omega
  have hp5 : p < W5.heap.size := hP5.own.lt
  have hnn : st.t1.length + mm ≤ maxLen := by unfold maxLen; omega
  have hbb : (st.t1.length + mm) * 24 ≤ 140737488355328 := by omega
  have HP5 := Lib.hid hP5
  have HX45 := Lib.hid hx45
  have HSr := Lib.hid hsrc
  have HRo := Lib.hid hrows
  have HBf := Lib.hid hbuf
  have HVs := Lib.hid hvs
  have HVl := Lib.hid hvl
  have HI := Lib.hid (And.intro hi (And.intro hz0 (And.intro hz1' hz2)))
  have H8 := Lib.hid h8
  have HPg := Lib.hid hpg
  have HNn := Lib.hid (And.intro hnn hbb)
  clear hW5 hx45 ho5 hP5 hmat5 hsrc hrows hbuf hvs hvl hi hz0 hz1' hz2 h8 hpg hnn hbb c8 cf8
  go_wp2_with fail
  go_region_law
    (first
      | (refine step_append_buf (by rfl) _ _ _ _ (by rfl) 36 i0 _ 1 24 Try.underlying52 HI.out.1 HI.out.2.1 HI.out.2.2.1 HI.out.2.2.2 (by rfl) (by decide) L4.h1 L4.d1 st.t1.length L4.q1 vs (by rfl) (by first | exact HBf.out | exact HBf.out.later (below_draw W5 1)) (.slice ra mm rc) mm vs' (by rfl) (by first | exact HSr.out 0 | exact HSr.out 1) HNn.out.1 HNn.out.2 ?_; intro g' a' c' w6 q1 q2 q3; have kct := q2.cell (p := ⟨p, 7, none⟩) (by exact ct) (fun hh => HPg.out p hh rfl); have kf : w6.frozen? ⟨p, 7, none⟩ = false := (by first | exact (HP5.out.own.exc q2 (fun hh => HPg.out p hh rfl)).frozen 7 | exact ((HP5.out.own.below (below_draw W5 1) hp5).exc q2 (fun hh => HPg.out p hh rfl)).frozen 7); have HQ := Lib.hid (And.intro q1 (And.intro q2 q3)); clear q1 q2 q3)
      | fail)
  all_goals
    obtain ⟨q1, q2, q3⟩ := HQ.out
    have hx56 : Exc (fun kk => L4.h1 = some kk) W5 w6 := by first | exact q2 | exact (Exc.of_below (below_draw W5 1)).trans q2 (fun _ _ hh => hh)
    have hlies : ∀ kk, g' = some kk → L4.h1 = some kk ∨ W5.heap.size ≤ kk := fun kk hk => by
      rcases q3 kk hk with h5 | h5
      · exact .inl h5
      · exact .inr h5
    have HX56 := Lib.hid hx56
    have HLi := Lib.hid hlies
    have HQ1 := Lib.hid q1
    clear q1 q2 q3 hx56 hlies HQ ct cft
    generalize hW7 : w6.setCell ⟨p, 7, none⟩ (.slice a' (st.t1.length + mm) c') = W7
    have hx67 : Exc (fun k => k = p) w6 W7 := by rw [← hW7]; exact (Exc.refl (fun k => k = p) w6).setCell ⟨p, 7, none⟩ (.inl rfl) _
    have hx57 : Exc (fun kk => L4.h1 = some kk ∨ kk = p) W5 W7 := (HX56.out.weak (fun _ _ hh => .inl hh)).trans hx67 (fun _ _ hh => .inr hh)
    have hx47 : Exc (fun kk => L4.h1 = some kk ∨ kk = p) w4 W7 := (HX45.out.weak (fun _ _ hh => .inr hh)).trans hx57 (fun _ _ hh => hh)
    have ho7 := (HP5.out.own.exc HX56.out (fun hh => HPg.out p hh rfl)).set 7 (.slice a' (st.t1.length + mm) c')
    rw [hW7] at ho7
    have hgp' : ∀ kk, g' = some kk → ¬ kk = p := fun kk hk hp' => by
      rcases HLi.out kk hk with h5 | h5
      · exact HPg.out kk h5 hp'
      · omega
    have hb7 := HQ1.out.exc hx67 hgp'
    rw [HMm.out] at hb7
    have hr7 : ∀ i l, ms[i]? = some l → RowV W7 (Load W7 (recol L4.col W5.heap.size (fun kk => g' = some kk) 6)) true (vs'.getD i undef) l := fun i l hi =>
      ((HRo.out i l hi).exc hx57 (fun kk hk => H8.out kk hk.2 hk.1)).mono (fun kk _ hk => ⟨by rw [recol_old hk.2]; exact hk.1, Nat.lt_of_lt_of_le hk.2 hx57.size⟩) (.inr fun kk hk => ⟨by rw [recol_old hk.2]; exact hk.1, Nat.lt_of_lt_of_le hk.2 hx57.size⟩)
    have htak : TakAt W7 (recol L4.col W5.heap.size (fun kk => g' = some kk) 6) g' a' c' (st.t1 ++ ms) := TakAt.add HVs.out (by have := HVl.out; omega) hx57 H8.out (fun kk hk => recol_old hk) hb7 hr7
    have hP := HP5.out.tak1 hx57 (us := st.t1 ++ ms) (by
      have e : pairCells { { { st with f1 := us } with x1 := (st.x1.hear ⟨ub, bb, uf, fb, uk, us', ul⟩).2 } with t1 := st.t1 ++ ms } { L4 with h1 := g', d1 := a', q1 := c', col := recol L4.col W5.heap.size (fun kk => g' = some kk) 6 } = (pairCells { { st with f1 := us } with x1 := (st.x1.hear ⟨ub, bb, uf, fb, uk, us', ul⟩).2 } L4).set 7 (.slice a' (st.t1.length + mm) c') := by simp [pairCells, HMm.out]
      rw [e]; exact ho7) htak HLi.out
    have hB7 := HP4.out.below hx47 (fun kk _ hk => by
      rcases hk with hk | hk
      · rw [HP4.out.ch1 kk hk]; decide
      · rw [hk, HP4.out.cp]; decide)
    rw [HE4.out] at hB7
    rw [HMs.out] at hP
    have HPz := Lib.hid hP
    have HBz := Lib.hid (HB4.out.trans hB7)
    clear hP hB7 htak hr7 hb7 hgp' ho7 hx47 hx57 hx67 hW7
    go_wp2
    go_end0
    refine ⟨rfl, ⟨_, ?_, HPz.out⟩, HBz.out⟩
    exact HE4.out
end Go.Proofs.Ytdjnflfcolpccaa
