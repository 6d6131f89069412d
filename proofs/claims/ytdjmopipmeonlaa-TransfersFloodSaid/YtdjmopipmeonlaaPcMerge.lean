import Derived.Test.YtdjmopipmeonlaaPcSwap
/- The library's stable sort of many: the merge in place. -/
namespace Go.Proofs.Ytdjmopipmeonlaa
set_option linter.unusedVariables false
open Go.RowKit Go.Sort Go.Lib

theorem Keep.drewN {n : Nat} [Inhabited (Fin n)] {w0 W : World} {blk m : Nat} (h : Keep (n := n) w0 blk m W) (q : Nat) : Keep (n := n) w0 blk m (W.drewN q) := by
  obtain ⟨dk, hs, S⟩ := h
  exact ⟨dk, hs, S.drewN q⟩
/-- What the comparison of two places does while the row is being sorted. -/
def CmpOk (n : Nat) [Inhabited (Fin n)] (l : List Int) (bx : Nat) (w0 : World) (blk m : Nat) : Prop := ∀ W, Keep (n := n) w0 blk m W → ∀ x y : Fin n, Calls Try.prog 64 #[.int .i64 (x.val : Int), .int .i64 (y.val : Int), .pointer (some ⟨bx, 0, none⟩)] W fun e w' => e = .returned (.int .i64 (cfL l n x y)) ∧ ∃ q, w' = W.drewN q
theorem cmpOk_any {n : Nat} [Inhabited (Fin n)] (l : List Int) (bx g blk m : Nat) (w0 : World) (hl : l.length = n) (hb : w0.cell? ⟨bx, 0, none⟩ = some (.slice (some ⟨g, 0, none⟩) n n)) (ho : Own w0 g 3 (nums .i64 l)) (h1 : bx ≠ blk) (h2 : g ≠ blk) : CmpOk n l bx w0 blk m := by
  intro W hk x y
  obtain ⟨dk, _, S⟩ := hk
  have hx := sw_exc S
  exact closure_any l n x y bx g W hl (hx.cell hb h1) (by unfold Own; rw [hx.block g ho.lt h2]; exact ho)
theorem keep_at {n : Nat} [Inhabited (Fin n)] {w0 W : World} {blk : Nat} {d0 : Array (Fin n)} (R : Row1 (encF (n := n)) w0 blk 0 d0) (hk : Keep (n := n) w0 blk d0.size W) {i : Nat} (hi : i < d0.size) : ∃ x : Fin n, W.cell? ⟨blk, i, none⟩ = some (.int .i64 (x.val : Int)) := by
  obtain ⟨dk, hs, S⟩ := hk
  exact ⟨_, (at_cell R S hs (by rw [hs]; exact hi)).1⟩
/-- What an exchange wants, and what it leaves. -/
theorem swap_facts {n : Nat} [Inhabited (Fin n)] {w0 W : World} {blk : Nat} {d0 : Array (Fin n)} (R : Row1 (encF (n := n)) w0 blk 0 d0) (hk : Keep (n := n) w0 blk d0.size W) {x y : Nat} (hx : x < d0.size) (hy : y < d0.size) :
    ∃ X Y : Nat, W.cell? ⟨blk, x, none⟩ = some (.int .i64 (X : Int)) ∧ W.cell? ⟨blk, y, none⟩ = some (.int .i64 (Y : Int)) ∧ W.frozen? ⟨blk, x, none⟩ = false ∧ W.frozen? ⟨blk, y, none⟩ = false ∧
      (∃ u, (W.setCell ⟨blk, x, none⟩ (.int .i64 (Y : Int))).cell? ⟨blk, y, none⟩ = some u) ∧ (∃ u, (W.setCell ⟨blk, y, none⟩ (.int .i64 (X : Int))).cell? ⟨blk, x, none⟩ = some u) ∧
      Keep (n := n) w0 blk d0.size ((W.setCell ⟨blk, x, none⟩ (.int .i64 (Y : Int))).setCell ⟨blk, y, none⟩ (.int .i64 (X : Int))).drew ∧ Keep (n := n) w0 blk d0.size ((W.setCell ⟨blk, y, none⟩ (.int .i64 (X : Int))).setCell ⟨blk, x, none⟩ (.int .i64 (Y : Int))).drew := by
  obtain ⟨dk, hs, S⟩ := hk
  obtain ⟨c0, f0⟩ := at_cell R S hs (i := x) (by omega)
  obtain ⟨c1, f1⟩ := at_cell R S hs (i := y) (by omega)
  have s1 := S.swapped R x y (by omega) (by omega)
  have s2 := S.swapped R y x (by omega) (by omega)
  have c2 := S.c2 R hs x y (by omega) (by omega) (.int .i64 ((dk[y]!).val : Int))
  have c3 := S.c2 R hs y x (by omega) (by omega) (.int .i64 ((dk[x]!).val : Int))
  rw [Nat.zero_add, Nat.zero_add] at c2 c3 s1 s2
  exact ⟨_, _, c0, c1, f0, f1, c2, c3, ⟨swp dk x y, by rw [size_swp]; exact hs, s1⟩, ⟨swp dk y x, by rw [size_swp]; exact hs, s2⟩⟩
set_option maxRecDepth 20000 in
set_option maxHeartbeats 16000000 in
theorem symMerge_any {n : Nat} [Inhabited (Fin n)] (l : List Int) (bx blk cap : Nat) (d0 : Array (Fin n)) (w0 : World) (R : Row1 (encF (n := n)) w0 blk 0 d0) (hC : CmpOk n l bx w0 blk d0.size) (hm : d0.size ≤ 64) :
    ∀ (s a m b : Nat) (w : World), Keep (n := n) w0 blk d0.size w → b - a ≤ s → a < m → m < b → b ≤ d0.size → Calls Try.prog 93 #[.slice (some ⟨blk, 0, none⟩) d0.size cap, .int .i64 a, .int .i64 m, .int .i64 b, .func (.func 64) #[] #[.pointer (some ⟨bx, 0, none⟩)]] w fun e w' => e = .returned (.tuple #[]) ∧ Keep (n := n) w0 blk d0.size w' := by
  have HRo := Lib.hid (fun (W : World) (S : Keep (n := n) w0 blk d0.size W) (x y z : Nat) (hx : x < y) (hy : y < z) (hz : z ≤ d0.size) => rotate_any (.func (.func 64) #[] #[.pointer (some ⟨bx, 0, none⟩)]) blk cap d0 w0 W R S x y z hx hy hz hm)
  have HAt := Lib.hid (fun (W : World) (S : Keep (n := n) w0 blk d0.size W) (i : Nat) (hi : i < d0.size) => keep_at R S hi)
  have HSf := Lib.hid (fun (W : World) (S : Keep (n := n) w0 blk d0.size W) (x y : Nat) (hx : x < d0.size) (hy : y < d0.size) => swap_facts R S hx hy)
  obtain ⟨N, hN⟩ : ∃ N, N = d0.size := ⟨_, rfl⟩
  rw [← hN] at HRo HAt HSf hm hC ⊢
  have HC := Lib.hid hC
  clear hC R hN
  intro s
  induction s with
  | zero => intro a m b w _ h1 h2 h3; omega
  | succ s ih =>
    intro a m b w hk hs ham hmb hbN
    have IH := Lib.hid ih
    have HK := Lib.hid hk
    clear ih hk
    have e1 : (m : Int) - (a : Int) = ((m - a : Nat) : Int) := by omega
    have e2 : (b : Int) - (m : Int) = ((b - m : Nat) : Int) := by omega
    by_cases hma : m - a = 1
    · have f1 : (((m - a : Nat) : Int) == 1) = true := by rw [hma]; rfl
      go_enter Try.func93, Try.ntmps93
      go_wp2_with fail
      clear e1 e2 f1
      go_loopw [10, 11] (fun iv jv wr => ∃ i j : Nat, m ≤ i ∧ i ≤ j ∧ j ≤ b ∧ iv = .int .i64 i ∧ jv = .int .i64 j ∧ Keep (n := n) w0 blk N wr) (fun iv jv _ => (intOf jv).toNat - (intOf iv).toNat)
      case atStart => exact ⟨m, b, Nat.le_refl _, by omega, Nat.le_refl _, rfl, rfl, HK.out⟩
      case round =>
        obtain ⟨i, j, hi, hij, hj, rfl, rfl, hkp⟩ := hrel
        have HKp := Lib.hid hkp
        clear hkp
        by_cases hlt : i < j
        · have i1 : (i : Int) < (j : Int) := by omega
          obtain ⟨h, hh⟩ : ∃ h, h = (i + j) / 2 := ⟨_, rfl⟩
          have eh : ((i : Int) + (j : Int)) / 2 = (h : Int) := by omega
          have hb1 : i ≤ h ∧ h < j := by omega
          have j0 : (0 : Int) ≤ (h : Int) := by omega
          have j1 : (h : Int) < (N : Int) := by omega
          have j2 : (0 : Int) ≤ (a : Int) := by omega
          have j3 : (a : Int) < (N : Int) := by omega
          clear hh
          obtain ⟨X9, c0⟩ := HAt.out wr HKp.out h (by omega)
          obtain ⟨Y9, c1⟩ := HAt.out wr HKp.out a (by omega)
          have hcm := fun (q : Nat) => HC.out (wr.drewN q) (HKp.out.drewN q) X9 Y9
          obtain ⟨r9, hr9⟩ : ∃ r9, r9 = cfL l n X9 Y9 := ⟨_, rfl⟩
          rw [← hr9] at hcm
          have HCm := Lib.hid hcm
          clear hcm hr9
          obtain ⟨xv, hxv⟩ : ∃ xv : Nat, xv = X9.val := ⟨_, rfl⟩
          obtain ⟨yv, hyv⟩ : ∃ yv : Nat, yv = Y9.val := ⟨_, rfl⟩
          rw [← hxv] at c0 HCm
          rw [← hyv] at c1 HCm
          clear hxv hyv
          by_cases hr0 : r9 < 0
          · go_upto_region 5 with (fail)
            clear eh
            go_quiet ((go_at_call 64; exact Calls.quiet_of (HCm.out _)))
            go_wp2_with fail
            exact ⟨⟨h + 1, j, by omega, by omega, by omega, by go_num, rfl, HKp.out.drewN nq⟩, by simp [intOf]; omega⟩
          · go_upto_region 5 with (fail)
            clear eh
            go_quiet ((go_at_call 64; exact Calls.quiet_of (HCm.out _)))
            go_wp2_with fail
            exact ⟨⟨i, h, by omega, by omega, by omega, rfl, rfl, HKp.out.drewN nq⟩, by simp [intOf]; omega⟩
        · obtain rfl : i = j := by omega
          have i1 : ¬ (i : Int) < (i : Int) := by omega
          obtain ⟨w5, hw5⟩ : ∃ x, x = wr := ⟨_, rfl⟩
          subst hw5
          go_wp2_with fail
          go_loopw [13] (fun kv wr => ∃ k : Nat, a ≤ k ∧ k ≤ i - 1 ∧ kv = .int .i64 k ∧ Keep (n := n) w0 blk N wr) (fun kv _ => i - (intOf kv).toNat)
          case atStart => exact ⟨a, Nat.le_refl _, by omega, rfl, HKp.out⟩
          case round =>
            obtain ⟨k, hka, hki, rfl, hkp⟩ := hrel
            have HKq := Lib.hid hkp
            clear hkp
            have e3 : (i : Int) - 1 = ((i - 1 : Nat) : Int) := by omega
            by_cases hlt : k < i - 1
            · have k1 : (k : Int) < ((i - 1 : Nat) : Int) := by omega
              obtain ⟨X, Y, c0, c1, f0, f1, ⟨u1, c2⟩, ⟨u2, c3⟩, hk1, hk2⟩ := HSf.out wr HKq.out k (k + 1) (by omega) (by omega)
              have HK1 := Lib.hid hk1
              have t1 : ((k : Int) + 1).toNat = k + 1 := by omega
              have j0 : (0 : Int) ≤ (k : Int) := by omega
              have j1 : (k : Int) < (N : Int) := by omega
              have j2 : (0 : Int) ≤ (k : Int) + 1 := by omega
              have j3 : (k : Int) + 1 < (N : Int) := by omega
              have w1 : IntKind.i64.wrap ((k : Int) + 1) = (k : Int) + 1 := IntWalk.i64_in _ (by omega)
              clear hk1 hk2
              go_upto_region 11 with (fail)
              clear e3
              go_region
              go_wp2_with fail
              exact ⟨⟨k + 1, by omega, by omega, by go_num, HK1.out⟩, by simp [intOf]; omega⟩
            · have k1 : ¬ (k : Int) < ((i - 1 : Nat) : Int) := by omega
              go_wp2
              exact bodyPost_ret (v := .tuple #[]) (by simp [results, Try.results93, go_sem]) rfl ⟨rfl, HKq.out⟩
    · have f1' : ¬ ((m - a : Nat) : Int) = 1 := by omega
      have f1 : (((m - a : Nat) : Int) == 1) = false := by simpa using f1'
      by_cases hbm : b - m = 1
      · have f2 : (((b - m : Nat) : Int) == 1) = true := by rw [hbm]; rfl
        go_enter Try.func93, Try.ntmps93
        go_wp2_with fail
        clear e1 e2 f1 f1' f2
        go_loopw [14, 15] (fun iv jv wr => ∃ i j : Nat, a ≤ i ∧ i ≤ j ∧ j ≤ m ∧ iv = .int .i64 i ∧ jv = .int .i64 j ∧ Keep (n := n) w0 blk N wr) (fun iv jv _ => (intOf jv).toNat - (intOf iv).toNat)
        case atStart => exact ⟨a, m, Nat.le_refl _, by omega, Nat.le_refl _, rfl, rfl, HK.out⟩
        case round =>
          obtain ⟨i, j, hi, hij, hj, rfl, rfl, hkp⟩ := hrel
          have HKp := Lib.hid hkp
          clear hkp
          by_cases hlt : i < j
          · have i1 : (i : Int) < (j : Int) := by omega
            obtain ⟨h, hh⟩ : ∃ h, h = (i + j) / 2 := ⟨_, rfl⟩
            have eh : ((i : Int) + (j : Int)) / 2 = (h : Int) := by omega
            have hb1 : i ≤ h ∧ h < j := by omega
            have j0 : (0 : Int) ≤ (h : Int) := by omega
            have j1 : (h : Int) < (N : Int) := by omega
            have j2 : (0 : Int) ≤ (m : Int) := by omega
            have j3 : (m : Int) < (N : Int) := by omega
            clear hh
            obtain ⟨X9, c0⟩ := HAt.out wr HKp.out m (by omega)
            obtain ⟨Y9, c1⟩ := HAt.out wr HKp.out h (by omega)
            have hcm := fun (q : Nat) => HC.out (wr.drewN q) (HKp.out.drewN q) X9 Y9
            obtain ⟨r9, hr9⟩ : ∃ r9, r9 = cfL l n X9 Y9 := ⟨_, rfl⟩
            rw [← hr9] at hcm
            have HCm := Lib.hid hcm
            clear hcm hr9
            obtain ⟨xv, hxv⟩ : ∃ xv : Nat, xv = X9.val := ⟨_, rfl⟩
            obtain ⟨yv, hyv⟩ : ∃ yv : Nat, yv = Y9.val := ⟨_, rfl⟩
            rw [← hxv] at c0 HCm
            rw [← hyv] at c1 HCm
            clear hxv hyv
            by_cases hr0 : r9 < 0
            · have hr1 : decide (r9 < 0) = true := by simpa using hr0
              go_upto_region 17 with (fail)
              clear eh
              go_quiet ((go_at_call 64; exact Calls.quiet_of (HCm.out _)))
              go_wp2_with fail
              exact ⟨⟨i, h, by omega, by omega, by omega, rfl, rfl, HKp.out.drewN nq⟩, by simp [intOf]; omega⟩
            · have hr1 : decide (r9 < 0) = false := by simpa using hr0
              go_upto_region 17 with (fail)
              clear eh
              go_quiet ((go_at_call 64; exact Calls.quiet_of (HCm.out _)))
              go_wp2_with fail
              exact ⟨⟨h + 1, j, by omega, by omega, by omega, by go_num, rfl, HKp.out.drewN nq⟩, by simp [intOf]; omega⟩
          · obtain rfl : i = j := by omega
            have i1 : ¬ (i : Int) < (i : Int) := by omega
            obtain ⟨w5, hw5⟩ : ∃ x, x = wr := ⟨_, rfl⟩
            subst hw5
            go_wp2_with fail
            go_loopw [17] (fun kv wr => ∃ k : Nat, i ≤ k ∧ k ≤ m ∧ kv = .int .i64 k ∧ Keep (n := n) w0 blk N wr) (fun kv _ => (intOf kv).toNat)
            case atStart => exact ⟨m, by omega, Nat.le_refl _, rfl, HKp.out⟩
            case round =>
              obtain ⟨k, hki, hkm, rfl, hkp⟩ := hrel
              have HKq := Lib.hid hkp
              clear hkp
              by_cases hlt : i < k
              · have k1 : (i : Int) < (k : Int) := by omega
                obtain ⟨X, Y, c0, c1, f0, f1, ⟨u1, c2⟩, ⟨u2, c3⟩, hk1, hk2⟩ := HSf.out wr HKq.out k (k - 1) (by omega) (by omega)
                have HK1 := Lib.hid hk1
                have e3 : (k : Int) - 1 = ((k - 1 : Nat) : Int) := by omega
                have w1 : IntKind.i64.wrap ((k : Int) - 1) = ((k - 1 : Nat) : Int) := by rw [e3]; exact IntWalk.i64_in _ (by omega)
                have w2 : IntKind.i64.wrap ((k - 1 : Nat) : Int) = ((k - 1 : Nat) : Int) := IntWalk.i64_in _ (by omega)
                have j0 : (0 : Int) ≤ (k : Int) := by omega
                have j1 : (k : Int) < (N : Int) := by omega
                have j2 : (0 : Int) ≤ ((k - 1 : Nat) : Int) := by omega
                have j3 : ((k - 1 : Nat) : Int) < (N : Int) := by omega
                clear hk1 hk2
                go_upto_region 23 with (fail)
                go_region
                go_wp2_with fail
                exact ⟨⟨k - 1, by omega, by omega, by first | rfl | (rw [e3]), HK1.out⟩, by simp [intOf]; omega⟩
              · have k1 : ¬ (i : Int) < (k : Int) := by omega
                go_wp2
                exact bodyPost_ret (v := .tuple #[]) (by simp [results, Try.results93, go_sem]) rfl ⟨rfl, HKq.out⟩

      · have f2' : ¬ ((b - m : Nat) : Int) = 1 := by omega
        have f2 : (((b - m : Nat) : Int) == 1) = false := by simpa using f2'
        obtain ⟨mid, hmid⟩ : ∃ mid, mid = (a + b) / 2 := ⟨_, rfl⟩
        have em : ((a : Int) + (b : Int)) / 2 = (mid : Int) := by omega
        have hm1 : a < mid ∧ mid < b := by omega
        obtain ⟨nn, hnn⟩ : ∃ nn, nn = mid + m := ⟨_, rfl⟩
        have en : (mid : Int) + (m : Int) = (nn : Int) := by omega
        have ep : (nn : Int) - 1 = ((nn - 1 : Nat) : Int) := by omega
        by_cases hgt : mid < m
        · have g1 : (mid : Int) < (m : Int) := by omega
          obtain ⟨lo, hlo⟩ : ∃ lo, lo = nn - b := ⟨_, rfl⟩
          have es : (nn : Int) - (b : Int) = (lo : Int) := by omega
          have hbd : a ≤ lo ∧ lo ≤ mid ∧ mid ≤ m ∧ nn ≤ lo + b ∧ m + mid ≤ nn ∧ lo ≤ nn := by omega
          have HBd := Lib.hid hbd
          clear hlo hbd
          have HMid := Lib.hid hm1
          have HNn := Lib.hid hnn
          clear hmid hnn
          go_enter Try.func93, Try.ntmps93
          go_wp2_with fail
          clear e1 e2 f1 f1' f2 f2' em en es ep g1
          go_loopw [20, 21] (fun sv rv wr => ∃ st r : Nat, lo ≤ st ∧ st ≤ r ∧ r ≤ mid ∧ sv = .int .i64 st ∧ rv = .int .i64 r ∧ Keep (n := n) w0 blk N wr) (fun sv rv _ => (intOf rv).toNat - (intOf sv).toNat)
          case atStart => exact ⟨lo, mid, Nat.le_refl _, by have := HBd.out; omega, Nat.le_refl _, rfl, rfl, HK.out⟩
          case round =>
            obtain ⟨st, r, hst, hsr, hrh, rfl, rfl, hkp⟩ := hrel
            have HKp := Lib.hid hkp
            clear hkp
            by_cases hlt : st < r
            · have i1 : (st : Int) < (r : Int) := by omega
              obtain ⟨c, hc⟩ : ∃ c, c = (st + r) / 2 := ⟨_, rfl⟩
              obtain ⟨d, hd⟩ : ∃ d, d = nn - 1 - c := ⟨_, rfl⟩
              have hbd := HBd.out
              have hcb : st ≤ c ∧ c < r := by omega
              have ec : ((st : Int) + (r : Int)) / 2 = (c : Int) := by omega
              have ed : ((nn - 1 : Nat) : Int) - (c : Int) = (d : Int) := by omega
              have hdN : d < N := by omega
              have j0 : (0 : Int) ≤ (c : Int) := by omega
              have j1 : (c : Int) < (N : Int) := by omega
              have j2 : (0 : Int) ≤ (d : Int) := by omega
              have j3 : (d : Int) < (N : Int) := by omega
              have w1 : IntKind.i64.wrap (((nn - 1 : Nat) : Int) - (c : Int)) = (d : Int) := by rw [ed]; exact IntWalk.i64_in _ (by omega)
              have w2 : IntKind.i64.wrap (d : Int) = (d : Int) := IntWalk.i64_in _ (by omega)
              clear hc hd
              obtain ⟨X9, c0⟩ := HAt.out wr HKp.out d (by omega)
              obtain ⟨Y9, c1⟩ := HAt.out wr HKp.out c (by omega)
              have hcm := fun (q : Nat) => HC.out (wr.drewN q) (HKp.out.drewN q) X9 Y9
              obtain ⟨r9, hr9⟩ : ∃ r9, r9 = cfL l n X9 Y9 := ⟨_, rfl⟩
              rw [← hr9] at hcm
              have HCm := Lib.hid hcm
              clear hcm hr9
              obtain ⟨xv, hxv⟩ : ∃ xv : Nat, xv = X9.val := ⟨_, rfl⟩
              obtain ⟨yv, hyv⟩ : ∃ yv : Nat, yv = Y9.val := ⟨_, rfl⟩
              rw [← hxv] at c0 HCm
              rw [← hyv] at c1 HCm
              clear hxv hyv
              by_cases hr0 : r9 < 0
              · have hr1 : decide (r9 < 0) = true := by simpa using hr0
                go_upto_region 35 with (fail)
                clear ec
                go_quiet ((go_at_call 64; exact Calls.quiet_of (HCm.out _)))
                go_wp2_with fail
                exact ⟨⟨st, c, hst, by omega, by omega, rfl, rfl, HKp.out.drewN nq⟩, by simp [intOf]; omega⟩
              · have hr1 : decide (r9 < 0) = false := by simpa using hr0
                go_upto_region 35 with (fail)
                clear ec
                go_quiet ((go_at_call 64; exact Calls.quiet_of (HCm.out _)))
                go_wp2_with fail
                exact ⟨⟨c + 1, r, by omega, by omega, hrh, by go_num, rfl, HKp.out.drewN nq⟩, by simp [intOf]; omega⟩
            · obtain rfl : st = r := by omega
              have i1 : ¬ (st : Int) < (st : Int) := by omega
              have hbd := HBd.out
              obtain ⟨en, hen⟩ : ∃ en, en = nn - st := ⟨_, rfl⟩
              have ee : (nn : Int) - (st : Int) = (en : Int) := by omega
              have hend : en ≤ b := by omega
              clear hen hbd
              by_cases hA0 : st < m
              · have p0 : (st : Int) < (m : Int) := by omega
                by_cases hB0 : m < en
                · have q0 : (m : Int) < (en : Int) := by omega
                  go_wp2_with fail
                  with_reducible refine (HRo.out _ HKp.out _ _ _ hA0 hB0 (by omega)).mono ?_
                  rintro e v0 ⟨rfl, hk0⟩
                  have K0 := Lib.hid hk0
                  clear hk0
                  by_cases hA1 : a < st
                  · have p1 : (a : Int) < (st : Int) := by omega
                    by_cases hB1 : st < mid
                    · have q1 : (st : Int) < (mid : Int) := by omega
                      go_wp2_with fail
                      with_reducible refine (IH.out _ _ _ _ K0.out (by have := HMid.out; omega) hA1 hB1 (by have := HMid.out; omega)).mono ?_
                      rintro e v1 ⟨rfl, hk1⟩
                      have K1 := Lib.hid hk1
                      clear hk1
                      by_cases hA2 : mid < en
                      · have p2 : (mid : Int) < (en : Int) := by omega
                        by_cases hB2 : en < b
                        · have q2 : (en : Int) < (b : Int) := by omega
                          go_wp2_with fail
                          with_reducible refine (IH.out _ _ _ _ K1.out (by have := HMid.out; omega) hA2 hB2 (by have := HMid.out; omega)).mono ?_
                          rintro e v2 ⟨rfl, hk2⟩
                          have K2 := Lib.hid hk2
                          clear hk2
                          go_wp2
                          all_goals
                            go_end0
                            exact ⟨rfl, K2.out⟩
                        · have q2 : ¬ (en : Int) < (b : Int) := by omega
                          go_wp2
                          all_goals
                            go_end0
                            exact ⟨rfl, K1.out⟩
                      · have p2 : ¬ (mid : Int) < (en : Int) := by omega
                        go_wp2
                        all_goals
                          go_end0
                          exact ⟨rfl, K1.out⟩
                    · have q1 : ¬ (st : Int) < (mid : Int) := by omega
                      by_cases hA2 : mid < en
                      · have p2 : (mid : Int) < (en : Int) := by omega
                        by_cases hB2 : en < b
                        · have q2 : (en : Int) < (b : Int) := by omega
                          go_wp2_with fail
                          with_reducible refine (IH.out _ _ _ _ K0.out (by have := HMid.out; omega) hA2 hB2 (by have := HMid.out; omega)).mono ?_
                          rintro e v2 ⟨rfl, hk2⟩
                          have K2 := Lib.hid hk2
                          clear hk2
                          go_wp2
                          all_goals
                            go_end0
                            exact ⟨rfl, K2.out⟩
                        · have q2 : ¬ (en : Int) < (b : Int) := by omega
                          go_wp2
                          all_goals
                            go_end0
                            exact ⟨rfl, K0.out⟩
                      · have p2 : ¬ (mid : Int) < (en : Int) := by omega
                        go_wp2
                        all_goals
                          go_end0
                          exact ⟨rfl, K0.out⟩
                  · have p1 : ¬ (a : Int) < (st : Int) := by omega
                    by_cases hA2 : mid < en
                    · have p2 : (mid : Int) < (en : Int) := by omega
                      by_cases hB2 : en < b
                      · have q2 : (en : Int) < (b : Int) := by omega
                        go_wp2_with fail
                        with_reducible refine (IH.out _ _ _ _ K0.out (by have := HMid.out; omega) hA2 hB2 (by have := HMid.out; omega)).mono ?_
                        rintro e v2 ⟨rfl, hk2⟩
                        have K2 := Lib.hid hk2
                        clear hk2
                        go_wp2
                        all_goals
                          go_end0
                          exact ⟨rfl, K2.out⟩
                      · have q2 : ¬ (en : Int) < (b : Int) := by omega
                        go_wp2
                        all_goals
                          go_end0
                          exact ⟨rfl, K0.out⟩
                    · have p2 : ¬ (mid : Int) < (en : Int) := by omega
                      go_wp2
                      all_goals
                        go_end0
                        exact ⟨rfl, K0.out⟩
                · have q0 : ¬ (m : Int) < (en : Int) := by omega
                  by_cases hA1 : a < st
                  · have p1 : (a : Int) < (st : Int) := by omega
                    by_cases hB1 : st < mid
                    · have q1 : (st : Int) < (mid : Int) := by omega
                      go_wp2_with fail
                      with_reducible refine (IH.out _ _ _ _ HKp.out (by have := HMid.out; omega) hA1 hB1 (by have := HMid.out; omega)).mono ?_
                      rintro e v1 ⟨rfl, hk1⟩
                      have K1 := Lib.hid hk1
                      clear hk1
                      by_cases hA2 : mid < en
                      · have p2 : (mid : Int) < (en : Int) := by omega
                        by_cases hB2 : en < b
                        · have q2 : (en : Int) < (b : Int) := by omega
                          go_wp2_with fail
                          with_reducible refine (IH.out _ _ _ _ K1.out (by have := HMid.out; omega) hA2 hB2 (by have := HMid.out; omega)).mono ?_
                          rintro e v2 ⟨rfl, hk2⟩
                          have K2 := Lib.hid hk2
                          clear hk2
                          go_wp2
                          all_goals
                            go_end0
                            exact ⟨rfl, K2.out⟩
                        · have q2 : ¬ (en : Int) < (b : Int) := by omega
                          go_wp2
                          all_goals
                            go_end0
                            exact ⟨rfl, K1.out⟩
                      · have p2 : ¬ (mid : Int) < (en : Int) := by omega
                        go_wp2
                        all_goals
                          go_end0
                          exact ⟨rfl, K1.out⟩
                    · have q1 : ¬ (st : Int) < (mid : Int) := by omega
                      by_cases hA2 : mid < en
                      · have p2 : (mid : Int) < (en : Int) := by omega
                        by_cases hB2 : en < b
                        · have q2 : (en : Int) < (b : Int) := by omega
                          go_wp2_with fail
                          with_reducible refine (IH.out _ _ _ _ HKp.out (by have := HMid.out; omega) hA2 hB2 (by have := HMid.out; omega)).mono ?_
                          rintro e v2 ⟨rfl, hk2⟩
                          have K2 := Lib.hid hk2
                          clear hk2
                          go_wp2
                          all_goals
                            go_end0
                            exact ⟨rfl, K2.out⟩
                        · have q2 : ¬ (en : Int) < (b : Int) := by omega
                          go_wp2
                          all_goals
                            go_end0
                            exact ⟨rfl, HKp.out⟩
                      · have p2 : ¬ (mid : Int) < (en : Int) := by omega
                        go_wp2
                        all_goals
                          go_end0
                          exact ⟨rfl, HKp.out⟩
                  · have p1 : ¬ (a : Int) < (st : Int) := by omega
                    by_cases hA2 : mid < en
                    · have p2 : (mid : Int) < (en : Int) := by omega
                      by_cases hB2 : en < b
                      · have q2 : (en : Int) < (b : Int) := by omega
                        go_wp2_with fail
                        with_reducible refine (IH.out _ _ _ _ HKp.out (by have := HMid.out; omega) hA2 hB2 (by have := HMid.out; omega)).mono ?_
                        rintro e v2 ⟨rfl, hk2⟩
                        have K2 := Lib.hid hk2
                        clear hk2
                        go_wp2
                        all_goals
                          go_end0
                          exact ⟨rfl, K2.out⟩
                      · have q2 : ¬ (en : Int) < (b : Int) := by omega
                        go_wp2
                        all_goals
                          go_end0
                          exact ⟨rfl, HKp.out⟩
                    · have p2 : ¬ (mid : Int) < (en : Int) := by omega
                      go_wp2
                      all_goals
                        go_end0
                        exact ⟨rfl, HKp.out⟩
              · have p0 : ¬ (st : Int) < (m : Int) := by omega
                by_cases hA1 : a < st
                · have p1 : (a : Int) < (st : Int) := by omega
                  by_cases hB1 : st < mid
                  · have q1 : (st : Int) < (mid : Int) := by omega
                    go_wp2_with fail
                    with_reducible refine (IH.out _ _ _ _ HKp.out (by have := HMid.out; omega) hA1 hB1 (by have := HMid.out; omega)).mono ?_
                    rintro e v1 ⟨rfl, hk1⟩
                    have K1 := Lib.hid hk1
                    clear hk1
                    by_cases hA2 : mid < en
                    · have p2 : (mid : Int) < (en : Int) := by omega
                      by_cases hB2 : en < b
                      · have q2 : (en : Int) < (b : Int) := by omega
                        go_wp2_with fail
                        with_reducible refine (IH.out _ _ _ _ K1.out (by have := HMid.out; omega) hA2 hB2 (by have := HMid.out; omega)).mono ?_
                        rintro e v2 ⟨rfl, hk2⟩
                        have K2 := Lib.hid hk2
                        clear hk2
                        go_wp2
                        all_goals
                          go_end0
                          exact ⟨rfl, K2.out⟩
                      · have q2 : ¬ (en : Int) < (b : Int) := by omega
                        go_wp2
                        all_goals
                          go_end0
                          exact ⟨rfl, K1.out⟩
                    · have p2 : ¬ (mid : Int) < (en : Int) := by omega
                      go_wp2
                      all_goals
                        go_end0
                        exact ⟨rfl, K1.out⟩
                  · have q1 : ¬ (st : Int) < (mid : Int) := by omega
                    by_cases hA2 : mid < en
                    · have p2 : (mid : Int) < (en : Int) := by omega
                      by_cases hB2 : en < b
                      · have q2 : (en : Int) < (b : Int) := by omega
                        go_wp2_with fail
                        with_reducible refine (IH.out _ _ _ _ HKp.out (by have := HMid.out; omega) hA2 hB2 (by have := HMid.out; omega)).mono ?_
                        rintro e v2 ⟨rfl, hk2⟩
                        have K2 := Lib.hid hk2
                        clear hk2
                        go_wp2
                        all_goals
                          go_end0
                          exact ⟨rfl, K2.out⟩
                      · have q2 : ¬ (en : Int) < (b : Int) := by omega
                        go_wp2
                        all_goals
                          go_end0
                          exact ⟨rfl, HKp.out⟩
                    · have p2 : ¬ (mid : Int) < (en : Int) := by omega
                      go_wp2
                      all_goals
                        go_end0
                        exact ⟨rfl, HKp.out⟩
                · have p1 : ¬ (a : Int) < (st : Int) := by omega
                  by_cases hA2 : mid < en
                  · have p2 : (mid : Int) < (en : Int) := by omega
                    by_cases hB2 : en < b
                    · have q2 : (en : Int) < (b : Int) := by omega
                      go_wp2_with fail
                      with_reducible refine (IH.out _ _ _ _ HKp.out (by have := HMid.out; omega) hA2 hB2 (by have := HMid.out; omega)).mono ?_
                      rintro e v2 ⟨rfl, hk2⟩
                      have K2 := Lib.hid hk2
                      clear hk2
                      go_wp2
                      all_goals
                        go_end0
                        exact ⟨rfl, K2.out⟩
                    · have q2 : ¬ (en : Int) < (b : Int) := by omega
                      go_wp2
                      all_goals
                        go_end0
                        exact ⟨rfl, HKp.out⟩
                  · have p2 : ¬ (mid : Int) < (en : Int) := by omega
                    go_wp2
                    all_goals
                      go_end0
                      exact ⟨rfl, HKp.out⟩
        · have g1 : ¬ (mid : Int) < (m : Int) := by omega
          have hbd : a ≤ a ∧ a ≤ m ∧ m ≤ m ∧ nn ≤ a + b ∧ mid + m ≤ nn ∧ a ≤ nn := by omega
          have HBd := Lib.hid hbd
          clear hbd
          have HMid := Lib.hid hm1
          have HNn := Lib.hid hnn
          clear hmid hnn
          go_enter Try.func93, Try.ntmps93
          go_wp2_with fail
          clear e1 e2 f1 f1' f2 f2' em en ep g1
          go_loopw [20, 21] (fun sv rv wr => ∃ st r : Nat, a ≤ st ∧ st ≤ r ∧ r ≤ m ∧ sv = .int .i64 st ∧ rv = .int .i64 r ∧ Keep (n := n) w0 blk N wr) (fun sv rv _ => (intOf rv).toNat - (intOf sv).toNat)
          case atStart => exact ⟨a, m, Nat.le_refl _, by have := HBd.out; omega, Nat.le_refl _, rfl, rfl, HK.out⟩
          case round =>
            obtain ⟨st, r, hst, hsr, hrh, rfl, rfl, hkp⟩ := hrel
            have HKp := Lib.hid hkp
            clear hkp
            by_cases hlt : st < r
            · have i1 : (st : Int) < (r : Int) := by omega
              obtain ⟨c, hc⟩ : ∃ c, c = (st + r) / 2 := ⟨_, rfl⟩
              obtain ⟨d, hd⟩ : ∃ d, d = nn - 1 - c := ⟨_, rfl⟩
              have hbd := HBd.out
              have hcb : st ≤ c ∧ c < r := by omega
              have ec : ((st : Int) + (r : Int)) / 2 = (c : Int) := by omega
              have ed : ((nn - 1 : Nat) : Int) - (c : Int) = (d : Int) := by omega
              have hdN : d < N := by omega
              have j0 : (0 : Int) ≤ (c : Int) := by omega
              have j1 : (c : Int) < (N : Int) := by omega
              have j2 : (0 : Int) ≤ (d : Int) := by omega
              have j3 : (d : Int) < (N : Int) := by omega
              have w1 : IntKind.i64.wrap (((nn - 1 : Nat) : Int) - (c : Int)) = (d : Int) := by rw [ed]; exact IntWalk.i64_in _ (by omega)
              have w2 : IntKind.i64.wrap (d : Int) = (d : Int) := IntWalk.i64_in _ (by omega)
              clear hc hd
              obtain ⟨X9, c0⟩ := HAt.out wr HKp.out d (by omega)
              obtain ⟨Y9, c1⟩ := HAt.out wr HKp.out c (by omega)
              have hcm := fun (q : Nat) => HC.out (wr.drewN q) (HKp.out.drewN q) X9 Y9
              obtain ⟨r9, hr9⟩ : ∃ r9, r9 = cfL l n X9 Y9 := ⟨_, rfl⟩
              rw [← hr9] at hcm
              have HCm := Lib.hid hcm
              clear hcm hr9
              obtain ⟨xv, hxv⟩ : ∃ xv : Nat, xv = X9.val := ⟨_, rfl⟩
              obtain ⟨yv, hyv⟩ : ∃ yv : Nat, yv = Y9.val := ⟨_, rfl⟩
              rw [← hxv] at c0 HCm
              rw [← hyv] at c1 HCm
              clear hxv hyv
              by_cases hr0 : r9 < 0
              · have hr1 : decide (r9 < 0) = true := by simpa using hr0
                go_upto_region 35 with (fail)
                clear ec
                go_quiet ((go_at_call 64; exact Calls.quiet_of (HCm.out _)))
                go_wp2_with fail
                exact ⟨⟨st, c, hst, by omega, by omega, rfl, rfl, HKp.out.drewN nq⟩, by simp [intOf]; omega⟩
              · have hr1 : decide (r9 < 0) = false := by simpa using hr0
                go_upto_region 35 with (fail)
                clear ec
                go_quiet ((go_at_call 64; exact Calls.quiet_of (HCm.out _)))
                go_wp2_with fail
                exact ⟨⟨c + 1, r, by omega, by omega, hrh, by go_num, rfl, HKp.out.drewN nq⟩, by simp [intOf]; omega⟩
            · obtain rfl : st = r := by omega
              have i1 : ¬ (st : Int) < (st : Int) := by omega
              have hbd := HBd.out
              obtain ⟨en, hen⟩ : ∃ en, en = nn - st := ⟨_, rfl⟩
              have ee : (nn : Int) - (st : Int) = (en : Int) := by omega
              have hend : en ≤ b := by omega
              clear hen hbd
              by_cases hA0 : st < m
              · have p0 : (st : Int) < (m : Int) := by omega
                by_cases hB0 : m < en
                · have q0 : (m : Int) < (en : Int) := by omega
                  go_wp2_with fail
                  with_reducible refine (HRo.out _ HKp.out _ _ _ hA0 hB0 (by omega)).mono ?_
                  rintro e v0 ⟨rfl, hk0⟩
                  have K0 := Lib.hid hk0
                  clear hk0
                  by_cases hA1 : a < st
                  · have p1 : (a : Int) < (st : Int) := by omega
                    by_cases hB1 : st < mid
                    · have q1 : (st : Int) < (mid : Int) := by omega
                      go_wp2_with fail
                      with_reducible refine (IH.out _ _ _ _ K0.out (by have := HMid.out; omega) hA1 hB1 (by have := HMid.out; omega)).mono ?_
                      rintro e v1 ⟨rfl, hk1⟩
                      have K1 := Lib.hid hk1
                      clear hk1
                      by_cases hA2 : mid < en
                      · have p2 : (mid : Int) < (en : Int) := by omega
                        by_cases hB2 : en < b
                        · have q2 : (en : Int) < (b : Int) := by omega
                          go_wp2_with fail
                          with_reducible refine (IH.out _ _ _ _ K1.out (by have := HMid.out; omega) hA2 hB2 (by have := HMid.out; omega)).mono ?_
                          rintro e v2 ⟨rfl, hk2⟩
                          have K2 := Lib.hid hk2
                          clear hk2
                          go_wp2
                          all_goals
                            go_end0
                            exact ⟨rfl, K2.out⟩
                        · have q2 : ¬ (en : Int) < (b : Int) := by omega
                          go_wp2
                          all_goals
                            go_end0
                            exact ⟨rfl, K1.out⟩
                      · have p2 : ¬ (mid : Int) < (en : Int) := by omega
                        go_wp2
                        all_goals
                          go_end0
                          exact ⟨rfl, K1.out⟩
                    · have q1 : ¬ (st : Int) < (mid : Int) := by omega
                      by_cases hA2 : mid < en
                      · have p2 : (mid : Int) < (en : Int) := by omega
                        by_cases hB2 : en < b
                        · have q2 : (en : Int) < (b : Int) := by omega
                          go_wp2_with fail
                          with_reducible refine (IH.out _ _ _ _ K0.out (by have := HMid.out; omega) hA2 hB2 (by have := HMid.out; omega)).mono ?_
                          rintro e v2 ⟨rfl, hk2⟩
                          have K2 := Lib.hid hk2
                          clear hk2
                          go_wp2
                          all_goals
                            go_end0
                            exact ⟨rfl, K2.out⟩
                        · have q2 : ¬ (en : Int) < (b : Int) := by omega
                          go_wp2
                          all_goals
                            go_end0
                            exact ⟨rfl, K0.out⟩
                      · have p2 : ¬ (mid : Int) < (en : Int) := by omega
                        go_wp2
                        all_goals
                          go_end0
                          exact ⟨rfl, K0.out⟩
                  · have p1 : ¬ (a : Int) < (st : Int) := by omega
                    by_cases hA2 : mid < en
                    · have p2 : (mid : Int) < (en : Int) := by omega
                      by_cases hB2 : en < b
                      · have q2 : (en : Int) < (b : Int) := by omega
                        go_wp2_with fail
                        with_reducible refine (IH.out _ _ _ _ K0.out (by have := HMid.out; omega) hA2 hB2 (by have := HMid.out; omega)).mono ?_
                        rintro e v2 ⟨rfl, hk2⟩
                        have K2 := Lib.hid hk2
                        clear hk2
                        go_wp2
                        all_goals
                          go_end0
                          exact ⟨rfl, K2.out⟩
                      · have q2 : ¬ (en : Int) < (b : Int) := by omega
                        go_wp2
                        all_goals
                          go_end0
                          exact ⟨rfl, K0.out⟩
                    · have p2 : ¬ (mid : Int) < (en : Int) := by omega
                      go_wp2
                      all_goals
                        go_end0
                        exact ⟨rfl, K0.out⟩
                · have q0 : ¬ (m : Int) < (en : Int) := by omega
                  by_cases hA1 : a < st
                  · have p1 : (a : Int) < (st : Int) := by omega
                    by_cases hB1 : st < mid
                    · have q1 : (st : Int) < (mid : Int) := by omega
                      go_wp2_with fail
                      with_reducible refine (IH.out _ _ _ _ HKp.out (by have := HMid.out; omega) hA1 hB1 (by have := HMid.out; omega)).mono ?_
                      rintro e v1 ⟨rfl, hk1⟩
                      have K1 := Lib.hid hk1
                      clear hk1
                      by_cases hA2 : mid < en
                      · have p2 : (mid : Int) < (en : Int) := by omega
                        by_cases hB2 : en < b
                        · have q2 : (en : Int) < (b : Int) := by omega
                          go_wp2_with fail
                          with_reducible refine (IH.out _ _ _ _ K1.out (by have := HMid.out; omega) hA2 hB2 (by have := HMid.out; omega)).mono ?_
                          rintro e v2 ⟨rfl, hk2⟩
                          have K2 := Lib.hid hk2
                          clear hk2
                          go_wp2
                          all_goals
                            go_end0
                            exact ⟨rfl, K2.out⟩
                        · have q2 : ¬ (en : Int) < (b : Int) := by omega
                          go_wp2
                          all_goals
                            go_end0
                            exact ⟨rfl, K1.out⟩
                      · have p2 : ¬ (mid : Int) < (en : Int) := by omega
                        go_wp2
                        all_goals
                          go_end0
                          exact ⟨rfl, K1.out⟩
                    · have q1 : ¬ (st : Int) < (mid : Int) := by omega
                      by_cases hA2 : mid < en
                      · have p2 : (mid : Int) < (en : Int) := by omega
                        by_cases hB2 : en < b
                        · have q2 : (en : Int) < (b : Int) := by omega
                          go_wp2_with fail
                          with_reducible refine (IH.out _ _ _ _ HKp.out (by have := HMid.out; omega) hA2 hB2 (by have := HMid.out; omega)).mono ?_
                          rintro e v2 ⟨rfl, hk2⟩
                          have K2 := Lib.hid hk2
                          clear hk2
                          go_wp2
                          all_goals
                            go_end0
                            exact ⟨rfl, K2.out⟩
                        · have q2 : ¬ (en : Int) < (b : Int) := by omega
                          go_wp2
                          all_goals
                            go_end0
                            exact ⟨rfl, HKp.out⟩
                      · have p2 : ¬ (mid : Int) < (en : Int) := by omega
                        go_wp2
                        all_goals
                          go_end0
                          exact ⟨rfl, HKp.out⟩
                  · have p1 : ¬ (a : Int) < (st : Int) := by omega
                    by_cases hA2 : mid < en
                    · have p2 : (mid : Int) < (en : Int) := by omega
                      by_cases hB2 : en < b
                      · have q2 : (en : Int) < (b : Int) := by omega
                        go_wp2_with fail
                        with_reducible refine (IH.out _ _ _ _ HKp.out (by have := HMid.out; omega) hA2 hB2 (by have := HMid.out; omega)).mono ?_
                        rintro e v2 ⟨rfl, hk2⟩
                        have K2 := Lib.hid hk2
                        clear hk2
                        go_wp2
                        all_goals
                          go_end0
                          exact ⟨rfl, K2.out⟩
                      · have q2 : ¬ (en : Int) < (b : Int) := by omega
                        go_wp2
                        all_goals
                          go_end0
                          exact ⟨rfl, HKp.out⟩
                    · have p2 : ¬ (mid : Int) < (en : Int) := by omega
                      go_wp2
                      all_goals
                        go_end0
                        exact ⟨rfl, HKp.out⟩
              · have p0 : ¬ (st : Int) < (m : Int) := by omega
                by_cases hA1 : a < st
                · have p1 : (a : Int) < (st : Int) := by omega
                  by_cases hB1 : st < mid
                  · have q1 : (st : Int) < (mid : Int) := by omega
                    go_wp2_with fail
                    with_reducible refine (IH.out _ _ _ _ HKp.out (by have := HMid.out; omega) hA1 hB1 (by have := HMid.out; omega)).mono ?_
                    rintro e v1 ⟨rfl, hk1⟩
                    have K1 := Lib.hid hk1
                    clear hk1
                    by_cases hA2 : mid < en
                    · have p2 : (mid : Int) < (en : Int) := by omega
                      by_cases hB2 : en < b
                      · have q2 : (en : Int) < (b : Int) := by omega
                        go_wp2_with fail
                        with_reducible refine (IH.out _ _ _ _ K1.out (by have := HMid.out; omega) hA2 hB2 (by have := HMid.out; omega)).mono ?_
                        rintro e v2 ⟨rfl, hk2⟩
                        have K2 := Lib.hid hk2
                        clear hk2
                        go_wp2
                        all_goals
                          go_end0
                          exact ⟨rfl, K2.out⟩
                      · have q2 : ¬ (en : Int) < (b : Int) := by omega
                        go_wp2
                        all_goals
                          go_end0
                          exact ⟨rfl, K1.out⟩
                    · have p2 : ¬ (mid : Int) < (en : Int) := by omega
                      go_wp2
                      all_goals
                        go_end0
                        exact ⟨rfl, K1.out⟩
                  · have q1 : ¬ (st : Int) < (mid : Int) := by omega
                    by_cases hA2 : mid < en
                    · have p2 : (mid : Int) < (en : Int) := by omega
                      by_cases hB2 : en < b
                      · have q2 : (en : Int) < (b : Int) := by omega
                        go_wp2_with fail
                        with_reducible refine (IH.out _ _ _ _ HKp.out (by have := HMid.out; omega) hA2 hB2 (by have := HMid.out; omega)).mono ?_
                        rintro e v2 ⟨rfl, hk2⟩
                        have K2 := Lib.hid hk2
                        clear hk2
                        go_wp2
                        all_goals
                          go_end0
                          exact ⟨rfl, K2.out⟩
                      · have q2 : ¬ (en : Int) < (b : Int) := by omega
                        go_wp2
                        all_goals
                          go_end0
                          exact ⟨rfl, HKp.out⟩
                    · have p2 : ¬ (mid : Int) < (en : Int) := by omega
                      go_wp2
                      all_goals
                        go_end0
                        exact ⟨rfl, HKp.out⟩
                · have p1 : ¬ (a : Int) < (st : Int) := by omega
                  by_cases hA2 : mid < en
                  · have p2 : (mid : Int) < (en : Int) := by omega
                    by_cases hB2 : en < b
                    · have q2 : (en : Int) < (b : Int) := by omega
                      go_wp2_with fail
                      with_reducible refine (IH.out _ _ _ _ HKp.out (by have := HMid.out; omega) hA2 hB2 (by have := HMid.out; omega)).mono ?_
                      rintro e v2 ⟨rfl, hk2⟩
                      have K2 := Lib.hid hk2
                      clear hk2
                      go_wp2
                      all_goals
                        go_end0
                        exact ⟨rfl, K2.out⟩
                    · have q2 : ¬ (en : Int) < (b : Int) := by omega
                      go_wp2
                      all_goals
                        go_end0
                        exact ⟨rfl, HKp.out⟩
                  · have p2 : ¬ (mid : Int) < (en : Int) := by omega
                    go_wp2
                    all_goals
                      go_end0
                      exact ⟨rfl, HKp.out⟩
end Go.Proofs.Ytdjmopipmeonlaa
