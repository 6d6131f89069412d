import Derived.Test.YthlckipcgogogaaGreatDoorPlAddA
import Derived.Test.YthlckipcgogogaaGreatDoorPlAddB
import Derived.Test.YthlckipcgogogaaGreatDoorPlNat
import Derived.Test.YthlckipcgogogaaGreatDoorUnBase
import Derived.Deep.RegionLaw
/- What the statements' N.Of returns: the plan of the data. -/
namespace Go.Proofs.YthlckipcgogogaaGreatDoor
set_option linter.unusedVariables false
open Go.RowKit

def OfOut (x : Nn) (w : World) (e : Ending) (w' : World) : Prop := ∃ a c a' c', e = .returned (planV a x.n c a' (linesN x).length c' (planN x)) ∧ PRow w' a x.n c (planN x).P ∧ LRow w' a' (linesN x).length c' (planN x).L ∧ Below w.heap.size w w'
set_option maxRecDepth 100000 in
set_option maxHeartbeats 4000000 in
theorem nOf_any (x : Nn) (s : Option Addr) (c : Nat) (w : World) (hx : NnAt w x s c) : Calls Tryz.prog 6 #[nnV x s c] w (OfOut x w) := by
  have hok := hx.ok
  have hn1 := x.n_range
  have m0 := hok.many
  have HXa := Lib.hid hx
  have HOk := Lib.hid hok
  obtain ⟨p0, hp0⟩ : ∃ p, p = x.codes.getD 0 0 := ⟨_, rfl⟩
  obtain ⟨p1, hp1⟩ : ∃ p, p = x.codes.getD 1 0 := ⟨_, rfl⟩
  obtain ⟨p2, hp2⟩ : ∃ p, p = x.codes.getD 2 0 := ⟨_, rfl⟩
  obtain ⟨p3, hp3⟩ : ∃ p, p = x.codes.getD 3 0 := ⟨_, rfl⟩
  obtain ⟨p4, hp4⟩ : ∃ p, p = x.codes.getD 4 0 := ⟨_, rfl⟩
  obtain ⟨p5, hp5⟩ : ∃ p, p = x.codes.getD 5 0 := ⟨_, rfl⟩
  obtain ⟨t0, ht0⟩ : ∃ p, p = x.tree.getD 0 0 := ⟨_, rfl⟩
  obtain ⟨t1, ht1⟩ : ∃ p, p = x.tree.getD 1 0 := ⟨_, rfl⟩
  obtain ⟨t2, ht2⟩ : ∃ p, p = x.tree.getD 2 0 := ⟨_, rfl⟩
  obtain ⟨t3, ht3⟩ : ∃ p, p = x.tree.getD 3 0 := ⟨_, rfl⟩
  obtain ⟨t4, ht4⟩ : ∃ p, p = x.tree.getD 4 0 := ⟨_, rfl⟩
  obtain ⟨t5, ht5⟩ : ∃ p, p = x.tree.getD 5 0 := ⟨_, rfl⟩
  obtain ⟨m, hm⟩ : ∃ m, m = x.extra.length := ⟨_, rfl⟩
  have HCs : Hid (nnCells x s m c = [.int .u8 (x.many : Nat), .int .u8 (p0 : Nat), .int .u8 (p1 : Nat), .int .u8 (p2 : Nat), .int .u8 (p3 : Nat), .int .u8 (p4 : Nat), .int .u8 (p5 : Nat), .int .u8 (x.ends : Nat), .int .u8 (t0 : Nat), .int .u8 (t1 : Nat), .int .u8 (t2 : Nat), .int .u8 (t3 : Nat), .int .u8 (t4 : Nat), .int .u8 (t5 : Nat), .slice s m c, .int .u8 (x.rate : Nat), .int .u8 (x.room : Nat), .int .u8 (x.k0 : Nat), .int .u8 (x.k1 : Nat)]) := Lib.hid (by unfold nnCells; rw [hp0, hp1, hp2, hp3, hp4, hp5, ht0, ht1, ht2, ht3, ht4, ht5])
  unfold nnV
  rw [← hm, HCs.out]
  obtain ⟨n, hn⟩ : ∃ n, n = x.n := ⟨_, rfl⟩
  have e15 : 2 + (x.many : Int) % 5 = (n : Int) := by rw [hn]; unfold Nn.n; omega
  rw [← hn] at hn1
  have HN := Lib.hid hn
  have HM := Lib.hid hm
  have HE15 := Lib.hid e15
  clear hx hok hm hn e15 hp0 hp1 hp2 hp3 hp4 hp5 ht0 ht1 ht2 ht3 ht4 ht5
  go_enter Tryz.func6, Tryz.ntmps6
  go_wp2_with fail
  rw [HE15.out]
  obtain ⟨z, hz⟩ : ∃ z, z = w.heap.size := ⟨_, rfl⟩
  obtain ⟨W3, hW3⟩ : ∃ W3, W3 = ((w.alloc (.cells #[.int .u8 (x.many : Nat), .int .u8 (p0 : Nat), .int .u8 (p1 : Nat), .int .u8 (p2 : Nat), .int .u8 (p3 : Nat), .int .u8 (p4 : Nat), .int .u8 (p5 : Nat), .int .u8 (x.ends : Nat), .int .u8 (t0 : Nat), .int .u8 (t1 : Nat), .int .u8 (t2 : Nat), .int .u8 (t3 : Nat), .int .u8 (t4 : Nat), .int .u8 (t5 : Nat), .slice s m c, .int .u8 (x.rate : Nat), .int .u8 (x.room : Nat), .int .u8 (x.k0 : Nat), .int .u8 (x.k1 : Nat)] 26)).alloc (.cells #[.slice none 0 0, .slice none 0 0, .int .i64 0, .int .i64 0, .int .i64 0, .int .i64 0, .int .i64 0] 31)).alloc (.cells #[.slice none 0 0, .slice none 0 0, .int .i64 0, .int .i64 0, .int .i64 0, .int .i64 0, .int .i64 0] 31) := ⟨_, rfl⟩
  rw [← hW3]
  have hsz : W3.heap.size = z + 3 := by rw [hW3, hz]; simp
  have hbl : Below w.heap.size w W3 := by
    rw [hW3]
    exact (((Below.refl _ w).alloc (Nat.le_refl _) _).alloc (by simp) _).alloc (by simp; omega) _
  have o0 : Own W3 z 26 [.int .u8 (x.many : Nat), .int .u8 (p0 : Nat), .int .u8 (p1 : Nat), .int .u8 (p2 : Nat), .int .u8 (p3 : Nat), .int .u8 (p4 : Nat), .int .u8 (p5 : Nat), .int .u8 (x.ends : Nat), .int .u8 (t0 : Nat), .int .u8 (t1 : Nat), .int .u8 (t2 : Nat), .int .u8 (t3 : Nat), .int .u8 (t4 : Nat), .int .u8 (t5 : Nat), .slice s m c, .int .u8 (x.rate : Nat), .int .u8 (x.room : Nat), .int .u8 (x.k0 : Nat), .int .u8 (x.k1 : Nat)] := by
    rw [hW3, hz]
    exact ((own_alloc w _ _).below (below_alloc _ _) (by simp)).below (below_alloc _ _) (by simp; omega)
  have o1 : Own W3 (z + 1) 31 [.slice none 0 0, .slice none 0 0, .int .i64 0, .int .i64 0, .int .i64 0, .int .i64 0, .int .i64 0] := by
    rw [hW3, hz]
    have h := own_alloc (w.alloc (.cells #[.int .u8 (x.many : Nat), .int .u8 (p0 : Nat), .int .u8 (p1 : Nat), .int .u8 (p2 : Nat), .int .u8 (p3 : Nat), .int .u8 (p4 : Nat), .int .u8 (p5 : Nat), .int .u8 (x.ends : Nat), .int .u8 (t0 : Nat), .int .u8 (t1 : Nat), .int .u8 (t2 : Nat), .int .u8 (t3 : Nat), .int .u8 (t4 : Nat), .int .u8 (t5 : Nat), .slice s m c, .int .u8 (x.rate : Nat), .int .u8 (x.room : Nat), .int .u8 (x.k0 : Nat), .int .u8 (x.k1 : Nat)] 26)) [.slice none 0 0, .slice none 0 0, .int .i64 0, .int .i64 0, .int .i64 0, .int .i64 0, .int .i64 0] 31
    rw [World.size_alloc] at h
    exact h.below (below_alloc _ _) (by simp)
  have o2 : Own W3 (z + 1 + 1) 31 [.slice none 0 0, .slice none 0 0, .int .i64 0, .int .i64 0, .int .i64 0, .int .i64 0, .int .i64 0] := by
    rw [hW3, hz]
    have h := own_alloc ((w.alloc (.cells #[.int .u8 (x.many : Nat), .int .u8 (p0 : Nat), .int .u8 (p1 : Nat), .int .u8 (p2 : Nat), .int .u8 (p3 : Nat), .int .u8 (p4 : Nat), .int .u8 (p5 : Nat), .int .u8 (x.ends : Nat), .int .u8 (t0 : Nat), .int .u8 (t1 : Nat), .int .u8 (t2 : Nat), .int .u8 (t3 : Nat), .int .u8 (t4 : Nat), .int .u8 (t5 : Nat), .slice s m c, .int .u8 (x.rate : Nat), .int .u8 (x.room : Nat), .int .u8 (x.k0 : Nat), .int .u8 (x.k1 : Nat)] 26)).alloc (.cells #[.slice none 0 0, .slice none 0 0, .int .i64 0, .int .i64 0, .int .i64 0, .int .i64 0, .int .i64 0] 31)) [.slice none 0 0, .slice none 0 0, .int .i64 0, .int .i64 0, .int .i64 0, .int .i64 0, .int .i64 0] 31
    rw [World.size_alloc, World.size_alloc] at h
    exact h
  rw [← hz]
  rw [← HCs.out] at o0
  have HZ := Lib.hid hz
  have HSz := Lib.hid hsz
  have HBl := Lib.hid hbl
  have HO0 := Lib.hid o0
  have HO1 := Lib.hid o1
  have HO2 := Lib.hid o2
  clear hW3 o0 o1 o2 hz hbl hsz
  go_loopw [5] (fun iv wr => ∃ (k : Nat) (v : Value), k ≤ n ∧ iv = .int .i64 k ∧ Own wr (z + 1 + 1) 31 [v, .slice none 0 0, .int .i64 0, .int .i64 0, .int .i64 0, .int .i64 0, .int .i64 0] ∧ wr.ownsRow (z + 3) 72 2 v k (cellsP (placesN x k)) ∧ Exc (fun q => q = z + 1 + 1) W3 wr) (fun iv _ => n - (intOf iv).toNat)
  case atStart => exact ⟨0, .slice none 0 0, Nat.zero_le _, rfl, HO2.out, by simpa [cellsP, placesN] using World.ownsRow_nil W3 (z + 3) 72 2, Exc.refl _ _⟩
  case round =>
    obtain ⟨k, v, hk, rfl, ho, hown, hxc⟩ := hrel
    have hsz : z + 3 ≤ wr.heap.size := by have h1 := hxc.size; have h2 := HSz.out; omega
    have HOr := Lib.hid ho
    have HW := Lib.hid hown
    have HX := Lib.hid hxc
    by_cases hkn : k < n
    · have hk6 : k < 6 := by omega
      have q0 := hxc.cell (HO0.out.cell (1 + k) (by rw [show (nnCells x s m c).length = 19 from rfl]; omega)) (by show ¬ z = z + 1 + 1; omega)
      have q1 := hxc.cell (HO0.out.cell 7 (by rw [show (nnCells x s m c).length = 19 from rfl]; omega)) (by show ¬ z = z + 1 + 1; omega)
      rw [nn_code x s m c k hk6] at q0
      rw [show (nnCells x s m c).getD 7 undef = .int .u8 (x.ends : Nat) from rfl] at q1
      have b0 := HOk.out.code hk6
      have b1 := HOk.out.ends
      obtain ⟨cd, hcd⟩ : ∃ cd, cd = x.codes.getD k 0 := ⟨_, rfl⟩
      rw [← hcd] at q0 b0
      obtain ⟨en, hen⟩ : ∃ en, en = x.ends := ⟨_, rfl⟩
      rw [← hen] at q1 b1
      have p0' := ho.cell 0 (by simp)
      have pf := ho.frozen 0
      simp only [List.getD_cons_zero] at p0'
      have HCd := Lib.hid hcd
      have HEn := Lib.hid hen
      obtain ⟨r, hr⟩ : ∃ r, r = cd % 10 := ⟨_, rfl⟩
      obtain ⟨Q, hQ⟩ : ∃ Q : Int, Q = 10 * (k : Int) + (r : Int) := ⟨_, rfl⟩
      obtain ⟨B, hB⟩ : ∃ B : Bool, B = decide (en / 2 ^ k % 2 = 0) := ⟨_, rfl⟩
      have hr9 : r ≤ 9 := by omega
      have hQb : 0 ≤ Q ∧ Q ≤ 59 := by omega
      have HPl := Lib.hid (show placeN x k = (Q, B) from by unfold placeN; rw [← hcd, ← hen, hQ, hB, hr])
      have tt1 : (cd : Int).tmod 10 = (r : Int) := by rw [Int.tmod_eq_emod_of_nonneg (by omega)]; omega
      have tt2 : IntKind.i64.wrap (r : Int) = (r : Int) := IntWalk.i64_in _ (by omega)
      have tt3 : IntKind.i64.wrap (10 * (k : Int)) = 10 * (k : Int) := IntWalk.i64_in _ (by omega)
      have tt4 : IntKind.i64.wrap (10 * (k : Int) + (r : Int)) = Q := by rw [← hQ]; exact IntWalk.i64_in _ (by omega)
      have tt5 : IntKind.u16.wrap Q = Q := by unfold IntKind.wrap; simp [IntKind.bits, IntKind.signed]; omega
      have tt6 : (bits BinOp.and IntKind.u8 ((en : Int) / 2 ^ k) 1 == 0) = B := by
        have e1 : ((en : Int) / 2 ^ k) = ((en / 2 ^ k : Nat) : Int) := by simp
        have e2 := Nat.div_le_self en (2 ^ k)
        rw [e1, hB]
        generalize en / 2 ^ k = q at e2
        rw [and_one_u8 _ (by omega) (by omega), Bool.eq_iff_iff]
        simp only [beq_iff_eq, decide_eq_true_eq]
        omega
      have i0 : (0 : Int) ≤ (k : Int) := by omega
      have i1 : (k : Int) < 6 := by omega
      have i2 : (k : Int) < (n : Int) := by omega
      have z2 : z + 1 + 1 < wr.heap.size := by omega
      have HWa := Lib.hid (ownsK_below HW.out (below_alloc wr (.cells #[.int .u16 Q, .bool B] 72)))
      have HWb := Lib.hid (ownsK_below HW.out (below_alloc wr (.cells #[.int .u16 Q, .bool B] 72)).drew)
      have HGa := Lib.hid (show Own (wr.alloc (.cells #[.int .u16 Q, .bool B] 72)) wr.heap.size 72 [.int .u16 Q, .bool B] from heap_alloc_new wr _)
      have HGb := Lib.hid (show Own (wr.alloc (.cells #[.int .u16 Q, .bool B] 72)).drew wr.heap.size 72 [.int .u16 Q, .bool B] from heap_alloc_new wr _)
      have HOa := Lib.hid (HOr.out.below (below_alloc wr (.cells #[.int .u16 Q, .bool B] 72)) z2)
      have HOb := Lib.hid (HOr.out.below (below_alloc wr (.cells #[.int .u16 Q, .bool B] 72)).drew z2)
      have hsa : z + 3 ≤ (wr.alloc (.cells #[.int .u16 Q, .bool B] 72)).heap.size := Nat.le_trans hsz (below_alloc wr _).size
      have hsb : z + 3 ≤ (wr.alloc (.cells #[.int .u16 Q, .bool B] 72)).drew.heap.size := Nat.le_trans hsz (below_alloc wr _).drew.size
      have HXa := Lib.hid (Exc.of_below (S := fun q => v.ownBlock = some q) (below_alloc wr (.cells #[.int .u16 Q, .bool B] 72)))
      have HXb := Lib.hid (Exc.of_below (S := fun q => v.ownBlock = some q) (below_alloc wr (.cells #[.int .u16 Q, .bool B] 72)).drew)
      have HNe := Lib.hid (show ¬ v.ownBlock = some (z + 1 + 1) from fun hh => by have := (ownsK_lt HW.out hh).1; omega)
      have hk9 : k + 1 ≤ 1099511627776 := by omega
      have HOne := Lib.hid (show ∀ u ∈ ([.int .u16 Q, .bool B] : List Value), u.oneCell' = true from fun u hu => by simp at hu; rcases hu with rfl | rfl <;> rfl)
      have HSa := Lib.hid hsa
      have HSb := Lib.hid hsb
      have HQ := Lib.hid hQ
      clear hcd hen ho hown hxc hr hB hQ hsa hsb
      go_upto_region 6 with (fail)
      go_region_law
        (first
          | (refine step_append_agg Tryz.underlying27 infoPl rfl (by decide) (by decide) (by rfl) _ _ (by rfl) (z + 3) v k (cellsP (placesN x k)) [.int .u16 Q, .bool B] (by rfl) HOne.out (by rfl) (by first | exact HWa.out | exact HWb.out) wr.heap.size (by rfl) (by first | exact HGa.out | exact HGb.out) hk9 (by first | exact HSa.out | exact HSb.out) ?_; intro v4 w4 h4 g4; obtain ⟨gx, cx, rfl, _⟩ := ownsK_cells h4 (Nat.succ_pos k); have ho4 := (by first | exact HOa.out.exc g4.exc HNe.out | exact HOb.out.exc g4.exc HNe.out : Own w4 (z + 1 + 1) 31 [v, .slice none 0 0, .int .i64 0, .int .i64 0, .int .i64 0, .int .i64 0, .int .i64 0]); have hx4 : Exc (fun q => v.ownBlock = some q) wr w4 := (by first | exact HXa.out.trans g4.exc (fun _ _ hh => hh) | exact HXb.out.trans g4.exc (fun _ _ hh => hh)); have c4 := ho4.cell 0 (by simp); have f4 := ho4.frozen 0; simp only [List.getD_cons_zero] at c4; have HQ4 := Lib.hid h4; have HO4 := Lib.hid ho4; have HX4 := Lib.hid hx4; clear h4 g4 ho4 hx4)
          | fail)
      all_goals
        have HN4 := Lib.hid (HO4.out.set 0 (.slice (some ⟨gx, 0, none⟩) (k + 1) cx))
        have hxs := (Exc.refl (fun q => q = z + 1 + 1) w4).setCell ⟨z + 1 + 1, 0, none⟩ (.inl rfl) (.slice (some ⟨gx, 0, none⟩) (k + 1) cx)
        have HR4 := Lib.hid (ownsK_exc HQ4.out hxs (fun j hj e => by have := (ownsK_lt HQ4.out hj).1; omega))
        have HE4 := Lib.hid ((HX.out.trans HX4.out (fun i hi e => by have h3 := (ownsK_lt HW.out e).1; have h4 := HSz.out; omega)).trans hxs (fun _ _ h => h))
        clear hxs
        go_wp2_with fail
        refine ⟨⟨k + 1, _, by omega, by go_num, HN4.out, ?_, HE4.out⟩, by simp [intOf]; omega⟩
        rw [placesN_succ, HPl.out, cellsP_append]
        exact HR4.out
    · obtain rfl : n = k := by omega
      obtain ⟨aP, cP, rfl, hrowP, hbigP⟩ := prow_of_owns (n := n) (L := placesN x n) hown (placesN_length x n) (fun y hy => by
        obtain ⟨i, hi, rfl⟩ := List.mem_map.1 hy
        have h1 := List.mem_range.1 hi
        unfold placeN
        simp only
        omega)
      have HP := Lib.hid hrowP
      have HBigP := Lib.hid hbigP
      obtain ⟨w5, hw5⟩ : ∃ x, x = wr := ⟨_, rfl⟩
      subst hw5
      have i2 : ¬ (n : Int) < (n : Int) := by omega
      clear ho hown hxc hrowP hbigP HW
      go_wp2_with fail
      go_loopw [7] (fun iv wr => ∃ (k : Nat) (aL : Option Addr) (m2 c2 : Nat), 1 ≤ k ∧ k ≤ n ∧ iv = .int .i64 k ∧ Own wr (z + 1 + 1) 31 [.slice aP n cP, .slice aL m2 c2, .int .i64 0, .int .i64 0, .int .i64 0, .int .i64 0, .int .i64 0] ∧ LRow wr aL m2 c2 (treeN x k) ∧ (∀ q, aL = some q → z + 3 ≤ q.block) ∧ Exc (fun q => q = z + 1 + 1) w5 wr) (fun iv _ => n - (intOf iv).toNat)
      case atStart => exact ⟨1, none, 0, 0, Nat.le_refl _, by omega, rfl, HOr.out, LRow.of_nil _, (fun q hq => by cases hq), Exc.refl _ _⟩
      case round =>
        obtain ⟨k, aL, m2, c2, hk1, hk, rfl, ho, hrowL, hbigL, hxc⟩ := hrel
        have hsz2 : z + 3 ≤ wr.heap.size := Nat.le_trans hsz hxc.size
        have HO2r := Lib.hid ho
        have HLr := Lib.hid hrowL
        have HBigL := Lib.hid hbigL
        have HX2 := Lib.hid hxc
        by_cases hkn : k < n
        · have hk6 : k < 6 := by omega
          have q0 := hxc.cell (HX.out.cell (HO0.out.cell (8 + k) (by rw [show (nnCells x s m c).length = 19 from rfl]; omega)) (by show ¬ z = z + 1 + 1; omega)) (by show ¬ z = z + 1 + 1; omega)
          rw [nn_tree x s m c k hk6] at q0
          have b0 := HOk.out.treeAt hk6
          obtain ⟨tr, htr⟩ : ∃ tr, tr = x.tree.getD k 0 := ⟨_, rfl⟩
          rw [← htr] at q0 b0
          obtain ⟨q, hq⟩ : ∃ q, q = tr % k := ⟨_, rfl⟩
          obtain ⟨d, hd⟩ : ∃ d, d = tr / 16 := ⟨_, rfl⟩
          have hqk : q < k := by rw [hq]; exact Nat.mod_lt _ (by omega)
          have hd9 : d ≤ 255 := by omega
          have hm2 : m2 = k - 1 := by rw [← hrowL.len]; exact (treeN_ok x k (by rw [← HN.out]; omega)).2
          have HTr := Lib.hid (show treeN x (k + 1) = putN (placesN x n) (treeN x k) k q d from by
            show (if k = 0 then [] else putN (placesN x x.n) (treeN x k) k (x.tree.getD k 0 % k) (x.tree.getD k 0 / 16)) = _
            rw [if_neg (by omega), ← HN.out, ← htr, hq, hd])
          have HCall := Lib.hid (fun (W : World) (hb : Below wr.heap.size wr W) => add_dn (placesN x n) (treeN x k) k q d aP n cP aL m2 c2 (z + 1 + 1) [.int .i64 0, .int .i64 0, .int .i64 0, .int .i64 0, .int .i64 0] W (ho.below hb (by omega)) ((HP.out.exc hxc (fun y hy => by have := HBigP.out y hy; show ¬ y.block = z + 1 + 1; omega)).later hb) (hrowL.later hb) (fun y hy => by have := HBigP.out y hy; omega) (fun y hy => by have := hbigL y hy; omega) (by omega) (by omega) hqk (by omega) hd9)
          have HBd := Lib.hid (show Below wr.heap.size wr wr.drew from below_draw wr 1)
          have tt1 : (tr : Int).tmod (k : Int) = (q : Int) := by rw [hq, Int.tmod_eq_emod_of_nonneg (by omega)]; simp
          have tt2 : (tr : Int).tdiv 16 = (d : Int) := by rw [hd, Int.tdiv_eq_ediv_of_nonneg (by omega)]; omega
          have tt3 : IntKind.i64.wrap (tr : Int) = (tr : Int) := IntWalk.i64_in _ (by omega)
          have tt4 : IntKind.i64.wrap (q : Int) = (q : Int) := IntWalk.i64_in _ (by omega)
          have tt5 : IntKind.u8.wrap (d : Int) = (d : Int) := by unfold IntKind.wrap; simp [IntKind.bits, IntKind.signed]; omega
          have i0 : (0 : Int) ≤ (k : Int) := by omega
          have i1 : (k : Int) < 6 := by omega
          have i2 : (k : Int) < (n : Int) := by omega
          have k1 : ¬ (k : Int) = 0 := by omega
          have k2 : ((k : Int) == 0) = false := by simpa using k1
          have k3 : ¬ k = 0 := by omega
          have k4 : (k == 0) = false := by simpa using k3
          have z0 : ¬ z = z + 1 + 1 := by omega
          have HQ0 := Lib.hid q0
          clear htr hq hd ho hrowL hbigL hxc hm2
          go_wp2_with fail
          go_region_held3 (fun w' => w'.cell? ⟨z, 8 + k, none⟩ = some (.int .u8 (tr : Int))) (first | go_keep | assumption)
            (first
              | ((with_reducible refine (HCall.out _ (by first | exact HBd.out | exact Below.refl _ _)).mono ?_); rintro e w' hA; obtain ⟨rfl, aN, cN, hoN, hLN, hbN, hxN⟩ := hA; have g0 : w'.cell? ⟨z, 8 + k, none⟩ = some (.int .u8 (tr : Int)) := hxN.cell (by first | exact (HBd.out.cell (World.block_lt_of_cell? _ _ HQ0.out)).trans HQ0.out | exact HQ0.out) z0; have HoN := Lib.hid hoN; have HLN := Lib.hid hLN; have HbN := Lib.hid hbN; have HxN := Lib.hid hxN; clear hoN hLN hbN hxN)
              | fail)
          go_wp2_with fail
          refine ⟨⟨k + 1, aN, m2 + 1, cN, by omega, by omega, by go_num, HoN.out, ?_, fun y hy => Nat.le_trans hsz2 (HbN.out y hy), ?_⟩, by simp [intOf]; omega⟩
          · rw [HTr.out]; exact HLN.out
          · exact (HX2.out.trans (Exc.of_below (S := fun _ => False) HBd.out) (fun _ _ hh => hh.elim)).trans HxN.out (fun _ _ hh => hh)
        · obtain rfl : n = k := by omega
          have HL2 := Lib.hid (show LRow wr aL m2 c2 (extraN x 0) from by unfold extraN; rw [← HN.out]; exact hrowL)
          have HX5 := Lib.hid (HX.out.trans hxc (fun _ _ hh => hh))
          have HXP := Lib.hid hxc
          obtain ⟨w7, hw7⟩ : ∃ x, x = wr := ⟨_, rfl⟩
          subst hw7
          have i2 : ¬ (n : Int) < (n : Int) := by omega
          clear ho hrowL hbigL hxc HLr HX2 HX HOr
          go_wp2_with fail
          go_loopw [8] (fun iv wr => ∃ (j : Nat) (aL : Option Addr) (m2 c2 : Nat), j ≤ m ∧ j ≤ 6 ∧ iv = .int .i64 j ∧ Own wr (z + 1 + 1) 31 [.slice aP n cP, .slice aL m2 c2, .int .i64 0, .int .i64 0, .int .i64 0, .int .i64 0, .int .i64 0] ∧ LRow wr aL m2 c2 (extraN x j) ∧ (∀ q, aL = some q → z + 3 ≤ q.block) ∧ Exc (fun q => q = z + 1 + 1) w7 wr) (fun iv _ => m - (intOf iv).toNat)
          case atStart => exact ⟨0, aL, m2, c2, Nat.zero_le _, by omega, rfl, HO2r.out, HL2.out, HBigL.out, Exc.refl _ _⟩
          case round =>
            obtain ⟨j, aL, m2, c2, hjm, hj6, rfl, ho, hrowL, hbigL, hxc⟩ := hrel
            have hsz3 : z + 3 ≤ wr.heap.size := Nat.le_trans hsz2 hxc.size
            have HO3r := Lib.hid ho
            have HLr := Lib.hid hrowL
            have HBigL3 := Lib.hid hbigL
            have HX3 := Lib.hid hxc
            have hx37 : Exc (fun q => q = z + 1 + 1) W3 wr := HX5.out.trans hxc (fun _ _ hh => hh)
            have HX37 := Lib.hid hx37
            have r4 := hx37.cell (HO0.out.cell 14 (by rw [show (nnCells x s m c).length = 19 from rfl]; omega)) (by show ¬ z = z + 1 + 1; omega)
            rw [show (nnCells x s m c).getD 14 undef = .slice s m c from rfl] at r4
            have HR4 := Lib.hid r4
            have hbw : Below w.heap.size w wr := HBl.out.trans (hx37.below HBl.out.size (fun i _ hi => by have := HZ.out; omega))
            have HBw := Lib.hid hbw
            have i0 : (0 : Int) ≤ (j : Int) := by omega
            by_cases hjn : j < m ∧ j < 6
            · obtain ⟨hj1, hj2⟩ := hjn
              obtain ⟨be, oe, hse, hce⟩ := ((HXa.out.row.later hbw).cells).resolve_left (by rw [← HM.out]; omega)
              obtain ⟨c0, c1, c2'⟩ := hce j (by rw [← HM.out]; exact hj1)
              have hbb := HOk.out.extraAt (k := j) (by rw [← HM.out]; exact hj1)
              have hE := show extraN x (j + 1) = (if (x.extra.getD j (0, 0, 0)).1 % x.n = (x.extra.getD j (0, 0, 0)).2.1 % x.n then extraN x j else putN (placesN x x.n) (extraN x j) ((x.extra.getD j (0, 0, 0)).1 % x.n) ((x.extra.getD j (0, 0, 0)).2.1 % x.n) (x.extra.getD j (0, 0, 0)).2.2) from rfl
              rw [← HN.out] at hE
              generalize x.extra.getD j (0, 0, 0) = ex at c0 c1 c2' hbb hE
              obtain ⟨e0, e1, e2⟩ := ex
              simp only at c0 c1 c2' hbb hE
              obtain ⟨a, ha⟩ : ∃ a, a = e0 % n := ⟨_, rfl⟩
              obtain ⟨b, hb⟩ : ∃ b, b = e1 % n := ⟨_, rfl⟩
              rw [← ha, ← hb] at hE
              have han : a < n := by rw [ha]; exact Nat.mod_lt _ (by omega)
              have hbn : b < n := by rw [hb]; exact Nat.mod_lt _ (by omega)
              have hm2 : m2 ≤ 20 := by have := (extraN_ok x j).2; rw [hrowL.len] at this; omega
              have tt1 : (e0 : Int).tmod (n : Int) = (a : Int) := by rw [ha, Int.tmod_eq_emod_of_nonneg (by omega)]; simp
              have tt2 : (e1 : Int).tmod (n : Int) = (b : Int) := by rw [hb, Int.tmod_eq_emod_of_nonneg (by omega)]; simp
              have tt5 : (e0 : Int) % (n : Int) = (a : Int) := by rw [ha]; simp
              have tt6 : (e1 : Int) % (n : Int) = (b : Int) := by rw [hb]; simp
              have i1 : (j : Int) < (m : Int) := by omega
              have i3 : (j : Int) < 6 := by omega
              have k1 : ¬ (n : Int) = 0 := by omega
              have k2 : ((n : Int) == 0) = false := by simpa using k1
              have k3 : ¬ n = 0 := by omega
              have k4 : (n == 0) = false := by simpa using k3
              have hbb1 : e0 ≤ 255 := hbb.1
              have hbb2 : e1 ≤ 255 := hbb.2.1
              have hbb3 : e2 ≤ 255 := hbb.2.2
              subst hse
              have HE := Lib.hid hE
              have HCU := Lib.hid (fun (hab : a < b) => add_up (placesN x n) (extraN x j) a b e2 aP n cP aL m2 c2 (z + 1 + 1) [.int .i64 0, .int .i64 0, .int .i64 0, .int .i64 0, .int .i64 0] wr ho (HP.out.exc (HXP.out.trans hxc (fun _ _ hh => hh)) (fun y hy => by have := HBigP.out y hy; show ¬ y.block = z + 1 + 1; omega)) hrowL (fun y hy => by have := HBigP.out y hy; omega) (fun y hy => by have := hbigL y hy; omega) han hbn hab hm2 hbb3)
              have HCD := Lib.hid (fun (hab : b < a) => add_dn (placesN x n) (extraN x j) a b e2 aP n cP aL m2 c2 (z + 1 + 1) [.int .i64 0, .int .i64 0, .int .i64 0, .int .i64 0, .int .i64 0] wr ho (HP.out.exc (HXP.out.trans hxc (fun _ _ hh => hh)) (fun y hy => by have := HBigP.out y hy; show ¬ y.block = z + 1 + 1; omega)) hrowL (fun y hy => by have := HBigP.out y hy; omega) (fun y hy => by have := hbigL y hy; omega) han hbn hab hm2 hbb3)
              clear ha hb hE hbb hce ho hrowL hbigL hxc hx37 hbw hm2
              rcases Nat.lt_trichotomy a b with hab | hab | hab
              · have k5 : ¬ (a : Int) = (b : Int) := by omega
                have k6 : ((a : Int) == (b : Int)) = false := by simpa using k5
                have k7 : ((a : Int) != (b : Int)) = true := by simpa using k5
                have k8 : ¬ a = b := by omega
                have HEq := Lib.hid (show extraN x (j + 1) = putN (placesN x n) (extraN x j) a b e2 from by rw [HE.out, if_neg k8])
                go_wp2_with fail
                with_reducible refine (HCU.out hab).mono ?_
                rintro e w' hA
                obtain ⟨rfl, aN, cN, hoN, hLN, hbN, hxN⟩ := hA
                have HoN := Lib.hid hoN
                have HLN := Lib.hid hLN
                have HbN := Lib.hid hbN
                have HxN := Lib.hid hxN
                clear hoN hLN hbN hxN r4 c0 c1 c2'
                go_wp2_with fail
                refine ⟨⟨j + 1, aN, m2 + 1, cN, by omega, by omega, by go_num, HoN.out, ?_, fun y hy => Nat.le_trans hsz3 (HbN.out y hy), ?_⟩, by simp [intOf]; omega⟩
                · rw [HEq.out]; exact HLN.out
                · exact HX3.out.trans HxN.out (fun _ _ hh => hh)
              · subst hab
                have k6 : ((a : Int) == (a : Int)) = true := by simp
                have k7 : ((a : Int) != (a : Int)) = false := by simp
                have HEq := Lib.hid (show extraN x (j + 1) = extraN x j from by rw [HE.out, if_pos rfl])
                go_wp2_with fail
                refine ⟨⟨j + 1, aL, m2, c2, by omega, by omega, by go_num, HO3r.out, ?_, HBigL3.out, HX3.out⟩, by simp [intOf]; omega⟩
                rw [HEq.out]; exact HLr.out
              · have k5 : ¬ (a : Int) = (b : Int) := by omega
                have k6 : ((a : Int) == (b : Int)) = false := by simpa using k5
                have k7 : ((a : Int) != (b : Int)) = true := by simpa using k5
                have k8 : ¬ a = b := by omega
                have HEq := Lib.hid (show extraN x (j + 1) = putN (placesN x n) (extraN x j) a b e2 from by rw [HE.out, if_neg k8])
                go_wp2_with fail
                with_reducible refine (HCD.out hab).mono ?_
                rintro e w' hA
                obtain ⟨rfl, aN, cN, hoN, hLN, hbN, hxN⟩ := hA
                have HoN := Lib.hid hoN
                have HLN := Lib.hid hLN
                have HbN := Lib.hid hbN
                have HxN := Lib.hid hxN
                clear hoN hLN hbN hxN r4 c0 c1 c2'
                go_wp2_with fail
                refine ⟨⟨j + 1, aN, m2 + 1, cN, by omega, by omega, by go_num, HoN.out, ?_, fun y hy => Nat.le_trans hsz3 (HbN.out y hy), ?_⟩, by simp [intOf]; omega⟩
                · rw [HEq.out]; exact HLN.out
                · exact HX3.out.trans HxN.out (fun _ _ hh => hh)
            · have hj : j = min x.extra.length 6 := by rw [← HM.out]; omega
              have hLf : LRow wr aL m2 c2 (linesN x) := by unfold linesN; rw [← hj]; exact hrowL
              have hml : m2 = (linesN x).length := hLf.len.symm
              have HLf := Lib.hid hLf
              have HMl := Lib.hid hml
              have b3 := HOk.out.rate
              have b4 := HOk.out.room
              have b5 := HOk.out.k0
              have b6 := HOk.out.k1
              have hmk := x.marks
              have r15 := hx37.cell (HO0.out.cell 15 (by rw [show (nnCells x s m c).length = 19 from rfl]; omega)) (by show ¬ z = z + 1 + 1; omega)
              have r16 := hx37.cell (HO0.out.cell 16 (by rw [show (nnCells x s m c).length = 19 from rfl]; omega)) (by show ¬ z = z + 1 + 1; omega)
              have r17 := hx37.cell (HO0.out.cell 17 (by rw [show (nnCells x s m c).length = 19 from rfl]; omega)) (by show ¬ z = z + 1 + 1; omega)
              have r18 := hx37.cell (HO0.out.cell 18 (by rw [show (nnCells x s m c).length = 19 from rfl]; omega)) (by show ¬ z = z + 1 + 1; omega)
              rw [show (nnCells x s m c).getD 15 undef = .int .u8 (x.rate : Nat) from rfl] at r15
              rw [show (nnCells x s m c).getD 16 undef = .int .u8 (x.room : Nat) from rfl] at r16
              rw [show (nnCells x s m c).getD 17 undef = .int .u8 (x.k0 : Nat) from rfl] at r17
              rw [show (nnCells x s m c).getD 18 undef = .int .u8 (x.k1 : Nat) from rfl] at r18
              obtain ⟨ra, hra⟩ : ∃ ra, ra = x.rate := ⟨_, rfl⟩
              obtain ⟨ro, hro⟩ : ∃ ro, ro = x.room := ⟨_, rfl⟩
              obtain ⟨ka, hka⟩ : ∃ ka, ka = x.k0 := ⟨_, rfl⟩
              obtain ⟨kb, hkb⟩ : ∃ kb, kb = x.k1 := ⟨_, rfl⟩
              obtain ⟨T, hT⟩ : ∃ T, T = 1 + ra % 3 := ⟨_, rfl⟩
              obtain ⟨R, hR⟩ : ∃ R, R = x.rm := ⟨_, rfl⟩
              obtain ⟨M0, hM0⟩ : ∃ M0, M0 = x.mk0 := ⟨_, rfl⟩
              obtain ⟨M1, hM1⟩ : ∃ M1, M1 = x.mk1 := ⟨_, rfl⟩
              have hR2 : R = 3 + ro % 6 := by rw [hR, hro]; rfl
              have hM02 : M0 = 1 + ka % (R - 2) := by rw [hM0, hka, hR]; rfl
              have hM12 : M1 = M0 + 1 + kb % (R - 1 - M0) := by rw [hM1, hkb, hR, hM0]; rfl
              rw [← hM0, ← hM1, ← hR] at hmk
              rw [← hra] at r15 b3
              rw [← hro] at r16 b4
              rw [← hka] at r17 b5
              rw [← hkb] at r18 b6
              obtain ⟨S2, hS2⟩ : ∃ S2, S2 = R - 2 := ⟨_, rfl⟩
              obtain ⟨S3, hS3⟩ : ∃ S3, S3 = R - 1 - M0 := ⟨_, rfl⟩
              rw [← hS2] at hM02
              rw [← hS3] at hM12
              obtain ⟨u0, hu0⟩ : ∃ u0, u0 = ka % S2 := ⟨_, rfl⟩
              obtain ⟨u1, hu1⟩ : ∃ u1, u1 = kb % S3 := ⟨_, rfl⟩
              rw [← hu0] at hM02
              rw [← hu1] at hM12
              have HPn := Lib.hid (show planN x = ⟨placesN x n, linesN x, (T : Int), (R : Int), (M0 : Int), (M1 : Int), (R : Int)⟩ from by
                unfold planN
                rw [← HN.out, ← hR, ← hM0, ← hM1, ← hra, hT]
                simp)
              obtain ⟨A1, hA1⟩ : ∃ A : Int, A = (M0 : Int) + 1 := ⟨_, rfl⟩
              obtain ⟨A2, hA2⟩ : ∃ A : Int, A = (R : Int) - 1 := ⟨_, rfl⟩
              have e1 : 1 + (ra : Int) % 3 = (T : Int) := by omega
              have e2 : 3 + (ro : Int) % 6 = (R : Int) := by omega
              have e3 : (R : Int) - 2 = (S2 : Int) := by omega
              have e4 : (ka : Int) % (S2 : Int) = (u0 : Int) := by rw [hu0]; simp
              have e4' : (ka : Int).tmod (S2 : Int) = (u0 : Int) := by rw [hu0, Int.tmod_eq_emod_of_nonneg (by omega)]; simp
              have e5 : 1 + (u0 : Int) = (M0 : Int) := by omega
              have e6 : IntKind.i64.wrap ((M0 : Int) + 1) = A1 := by rw [hA1]; exact IntWalk.i64_in _ (by omega)
              have e7 : IntKind.i64.wrap ((R : Int) - 1) = A2 := by rw [hA2]; exact IntWalk.i64_in _ (by omega)
              have e8 : IntKind.i64.wrap (A2 - (M0 : Int)) = (S3 : Int) := by rw [hA2, show (R : Int) - 1 - (M0 : Int) = (S3 : Int) by omega]; exact IntWalk.i64_in _ (by omega)
              have e9 : (kb : Int).tmod (S3 : Int) = (u1 : Int) := by rw [hu1, Int.tmod_eq_emod_of_nonneg (by omega)]; simp
              have e10 : IntKind.i64.wrap (A1 + (u1 : Int)) = (M1 : Int) := by rw [hA1, show (M0 : Int) + 1 + (u1 : Int) = (M1 : Int) by omega]; exact IntWalk.i64_in _ (by omega)
              have e11 : IntKind.i64.wrap (kb : Int) = (kb : Int) := IntWalk.i64_in _ (by omega)
              have hu13 : u1 < S3 := by rw [hu1]; exact Nat.mod_lt _ (by omega)
              have e12 : IntKind.i64.wrap (u1 : Int) = (u1 : Int) := IntWalk.i64_in _ (by omega)
              have k1 : ¬ (S2 : Int) = 0 := by omega
              have k2 : ((S2 : Int) == 0) = false := by simpa using k1
              have k3 : ¬ S2 = 0 := by omega
              have k4 : (S2 == 0) = false := by simpa using k3
              have k5 : ¬ (S3 : Int) = 0 := by omega
              have k6 : ((S3 : Int) == 0) = false := by simpa using k5
              have k7 : ¬ S3 = 0 := by omega
              have k8 : (S3 == 0) = false := by simpa using k7
              have HS9 := Lib.hid (And.intro hS2 hS3)
              have y0 := ho.cell 0 (by simp)
              have y1 := ho.cell 1 (by simp)
              have y2 := ho.cell 2 (by simp)
              have y3 := ho.cell 3 (by simp)
              have y4 := ho.cell 4 (by simp)
              have y5 := ho.cell 5 (by simp)
              have y6 := ho.cell 6 (by simp)
              simp only [List.getD_cons_succ, List.getD_cons_zero] at y0 y1 y2 y3 y4 y5 y6
              have f2 := ho.frozen 2
              have f3 := ho.frozen 3
              have f4 := ho.frozen 4
              have f5 := ho.frozen 5
              have f6 := ho.frozen 6
              have hg : (¬ j < m) ∨ (j < m ∧ ¬ j < 6) := by omega
              clear hra hro hka hkb hT hR hM0 hM1 hR2 hM02 hM12 hu0 hu1 hA1 hA2 hS2 hS3 hj hLf hml ho hrowL hbigL hxc hx37 hbw hjn
              rcases hg with hg | ⟨hg1, hg2⟩
              · have i1 : ¬ (j : Int) < (m : Int) := by omega
                go_wp2_with fail
                obtain ⟨W9, hW9⟩ : ∃ W9, W9 = ((wr.setCell ⟨z + 1 + 1, 2, none⟩ (.int .i64 (T : Int))).setCell ⟨z + 1 + 1, 3, none⟩ (.int .i64 (R : Int))).setCell ⟨z + 1 + 1, 4, none⟩ (.int .i64 (M0 : Int)) := ⟨_, rfl⟩
                rw [← hW9]
                have ho9 : Own W9 (z + 1 + 1) 31 [.slice aP n cP, .slice aL m2 c2, .int .i64 (T : Int), .int .i64 (R : Int), .int .i64 (M0 : Int), .int .i64 0, .int .i64 0] := by
                  rw [hW9]
                  exact ((HO3r.out.set 2 (.int .i64 (T : Int))).set 3 (.int .i64 (R : Int))).set 4 (.int .i64 (M0 : Int))
                have hx9 : Exc (fun q => q = z + 1 + 1) wr W9 := by
                  rw [hW9]
                  exact (((Exc.refl (fun q => q = z + 1 + 1) wr).setCell ⟨z + 1 + 1, 2, none⟩ (.inl rfl) _).setCell ⟨z + 1 + 1, 3, none⟩ (.inl rfl) _).setCell ⟨z + 1 + 1, 4, none⟩ (.inl rfl) _
                have v18 := hx9.cell r18 (by show ¬ z = z + 1 + 1; omega)
                have v3 := ho9.cell 3 (by simp)
                have v4 := ho9.cell 4 (by simp)
                have v5 := ho9.cell 5 (by simp)
                have g5 := ho9.frozen 5
                simp only [List.getD_cons_succ, List.getD_cons_zero] at v3 v4 v5
                have HO9 := Lib.hid ho9
                have HX9 := Lib.hid hx9
                clear ho9 hx9 hW9 y0 y1 y2 y3 y4 y5 y6 f2 f3 f4 f5 f6 r15 r16 r17 r18 r4
                have zz : ¬ z = z + 1 + 1 := by omega
                have HO10 := Lib.hid (HO9.out.set 5 (.int .i64 (M1 : Int)))
                have hx10 := (Exc.refl (fun q => q = z + 1 + 1) W9).setCell ⟨z + 1 + 1, 5, none⟩ (.inl rfl) (.int .i64 (M1 : Int))
                have HX10 := Lib.hid (HX9.out.trans hx10 (fun _ _ hh => hh))
                have HKeep := Lib.hid (show (W9.setCell ⟨z + 1 + 1, 5, none⟩ (.int .i64 (M1 : Int))).drew.cell? ⟨z + 1 + 1, 4, none⟩ = some (.int .i64 (M0 : Int)) ∧ (W9.setCell ⟨z + 1 + 1, 5, none⟩ (.int .i64 (M1 : Int))).drew.cell? ⟨z + 1 + 1, 3, none⟩ = some (.int .i64 (R : Int)) ∧ (W9.setCell ⟨z + 1 + 1, 5, none⟩ (.int .i64 (M1 : Int))).drew.cell? ⟨z, 18, none⟩ = some (.int .u8 (kb : Int)) from
                  ⟨HO10.out.cell 4 (by simp), HO10.out.cell 3 (by simp), hx10.cell v18 zz⟩)
                clear hx10
                go_region_held3 (fun w' => w'.cell? ⟨z + 1 + 1, 4, none⟩ = some (.int .i64 (M0 : Int)) ∧ w'.cell? ⟨z + 1 + 1, 3, none⟩ = some (.int .i64 (R : Int)) ∧ w'.cell? ⟨z, 18, none⟩ = some (.int .u8 (kb : Int))) (first | exact HKeep.out | (go_keep; done)) (fail)
                obtain ⟨W10, hW10⟩ : ∃ W10, W10 = (W9.setCell ⟨z + 1 + 1, 5, none⟩ (.int .i64 (M1 : Int))).drew := ⟨_, rfl⟩
                rw [← hW10]
                have ho10 : Own W10 (z + 1 + 1) 31 [.slice aP n cP, .slice aL m2 c2, .int .i64 (T : Int), .int .i64 (R : Int), .int .i64 (M0 : Int), .int .i64 (M1 : Int), .int .i64 0] := by rw [hW10]; exact HO10.out
                have hx10 : Exc (fun q => q = z + 1 + 1) wr W10 := by rw [hW10]; exact HX10.out.trans (Exc.of_below (S := fun _ => False) (show Below (W9.setCell ⟨z + 1 + 1, 5, none⟩ (.int .i64 (M1 : Int))).heap.size (W9.setCell ⟨z + 1 + 1, 5, none⟩ (.int .i64 (M1 : Int))) (W9.setCell ⟨z + 1 + 1, 5, none⟩ (.int .i64 (M1 : Int))).drew from below_draw _ 1)) (fun _ _ hh => hh.elim)
                have y3 := ho10.cell 3 (by simp)
                have y6 := ho10.cell 6 (by simp)
                have f6 := ho10.frozen 6
                simp only [List.getD_cons_succ, List.getD_cons_zero] at y3 y6
                have HO11 := Lib.hid (ho10.set 6 (.int .i64 (R : Int)))
                have HX11 := Lib.hid (hx10.trans ((Exc.refl (fun q => q = z + 1 + 1) W10).setCell ⟨z + 1 + 1, 6, none⟩ (.inl rfl) (.int .i64 (R : Int))) (fun _ _ hh => hh))
                clear hW10 ho10 hx10 v18 v3 v4 v5 g5 HKeep HO10 HX10
                go_upto_region 24 with (fail)
                obtain ⟨W11, hW11⟩ : ∃ W11, W11 = W10.setCell ⟨z + 1 + 1, 6, none⟩ (.int .i64 (R : Int)) := ⟨_, rfl⟩
                rw [← hW11]
                have ho11 : Own W11 (z + 1 + 1) 31 [.slice aP n cP, .slice aL m2 c2, .int .i64 (T : Int), .int .i64 (R : Int), .int .i64 (M0 : Int), .int .i64 (M1 : Int), .int .i64 (R : Int)] := by rw [hW11]; exact HO11.out
                have hx11 : Exc (fun q => q = z + 1 + 1) wr W11 := by rw [hW11]; exact HX11.out
                have ho1 : Own W11 (z + 1) 31 [.slice none 0 0, .slice none 0 0, .int .i64 0, .int .i64 0, .int .i64 0, .int .i64 0, .int .i64 0] := HO1.out.exc (HX37.out.trans hx11 (fun _ _ hh => hh)) (by omega)
                have HO1b := Lib.hid ho1
                have HX12 := Lib.hid hx11
                have y0 := ho11.cell 0 (by simp)
                have y1 := ho11.cell 1 (by simp)
                have y2 := ho11.cell 2 (by simp)
                have y3 := ho11.cell 3 (by simp)
                have y4 := ho11.cell 4 (by simp)
                have y5 := ho11.cell 5 (by simp)
                have y6 := ho11.cell 6 (by simp)
                have q0 := ho1.cell 0 (by simp)
                have q1 := ho1.cell 1 (by simp)
                have q2 := ho1.cell 2 (by simp)
                have q3 := ho1.cell 3 (by simp)
                have q4 := ho1.cell 4 (by simp)
                have q5 := ho1.cell 5 (by simp)
                have q6 := ho1.cell 6 (by simp)
                simp only [List.getD_cons_succ, List.getD_cons_zero] at y0 y1 y2 y3 y4 y5 y6 q0 q1 q2 q3 q4 q5 q6
                have f0 := ho1.frozen 0
                have f1 := ho1.frozen 1
                have f2 := ho1.frozen 2
                have f3 := ho1.frozen 3
                have f4 := ho1.frozen 4
                have f5 := ho1.frozen 5
                have f6 := ho1.frozen 6
                clear hW11 ho11 hx11 ho1 HO11 HX11 e1 e2 e3 e4 e4' e5 e6 e7 e8 e9 e10 e11 e12
                go_wp2_with fail
                obtain ⟨W12, hW12⟩ : ∃ W12, W12 = ((((((W11.setCell ⟨z + 1, 0, none⟩ (.slice aP n cP)).setCell ⟨z + 1, 1, none⟩ (.slice aL m2 c2)).setCell ⟨z + 1, 2, none⟩ (.int .i64 (T : Int))).setCell ⟨z + 1, 3, none⟩ (.int .i64 (R : Int))).setCell ⟨z + 1, 4, none⟩ (.int .i64 (M0 : Int))).setCell ⟨z + 1, 5, none⟩ (.int .i64 (M1 : Int))).setCell ⟨z + 1, 6, none⟩ (.int .i64 (R : Int)) := ⟨_, rfl⟩
                have ho12 : Own W12 (z + 1) 31 [.slice aP n cP, .slice aL m2 c2, .int .i64 (T : Int), .int .i64 (R : Int), .int .i64 (M0 : Int), .int .i64 (M1 : Int), .int .i64 (R : Int)] := by
                  rw [hW12]
                  exact ((((((HO1b.out.set 0 (.slice aP n cP)).set 1 (.slice aL m2 c2)).set 2 (.int .i64 (T : Int))).set 3 (.int .i64 (R : Int))).set 4 (.int .i64 (M0 : Int))).set 5 (.int .i64 (M1 : Int))).set 6 (.int .i64 (R : Int))
                have hx12 : Exc (fun q => q = z + 1) W11 W12 := by
                  rw [hW12]
                  exact (((((((Exc.refl (fun q => q = z + 1) W11).setCell ⟨z + 1, 0, none⟩ (.inl rfl) _).setCell ⟨z + 1, 1, none⟩ (.inl rfl) _).setCell ⟨z + 1, 2, none⟩ (.inl rfl) _).setCell ⟨z + 1, 3, none⟩ (.inl rfl) _).setCell ⟨z + 1, 4, none⟩ (.inl rfl) _).setCell ⟨z + 1, 5, none⟩ (.inl rfl) _).setCell ⟨z + 1, 6, none⟩ (.inl rfl) _
                rw [← hW12]
                clear hW12 y0 y1 y2 y3 y4 y5 y6 q0 q1 q2 q3 q4 q5 q6 f0 f1 f2 f3 f4 f5 f6
                have u0' := ho12.cell 0 (by simp)
                have u1' := ho12.cell 1 (by simp)
                have u2' := ho12.cell 2 (by simp)
                have u3' := ho12.cell 3 (by simp)
                have u4' := ho12.cell 4 (by simp)
                have u5' := ho12.cell 5 (by simp)
                have u6' := ho12.cell 6 (by simp)
                simp only [List.getD_cons_succ, List.getD_cons_zero] at u0' u1' u2' u3' u4' u5' u6'
                have hxa : Exc (fun q => q = z + 1 + 1) w5 W11 := (HXP.out.trans HX3.out (fun _ _ hh => hh)).trans HX12.out (fun _ _ hh => hh)
                have hxb : Exc (fun q => q = z + 1 + 1) W3 W11 := HX37.out.trans HX12.out (fun _ _ hh => hh)
                refine bodyPost_ret (v := planV aP n cP aL m2 c2 (planN x)) (by rw [HPn.out]; simp [results, Tryz.results6, go_sem, u0', u1', u2', u3', u4', u5', u6', planV]) rfl ?_
                refine ⟨aP, cP, aL, c2, by rw [← HN.out, ← HMl.out], ?_, ?_, ?_⟩
                · rw [HPn.out, ← HN.out]
                  exact (HP.out.exc hxa (fun y hy => by have := HBigP.out y hy; show ¬ y.block = z + 1 + 1; omega)).exc hx12 (fun y hy => by have := HBigP.out y hy; show ¬ y.block = z + 1; omega)
                · rw [HPn.out, ← HMl.out]
                  exact (HLf.out.exc HX12.out (fun y hy => by have := HBigL3.out y hy; show ¬ y.block = z + 1 + 1; omega)).exc hx12 (fun y hy => by have := HBigL3.out y hy; show ¬ y.block = z + 1; omega)
                · have h1 := HZ.out
                  have hba := HBl.out.trans (hxb.below HBl.out.size (fun i _ hi => by omega))
                  exact hba.trans (hx12.below hba.size (fun i _ hi => by omega))
              · have i1 : (j : Int) < (m : Int) := by omega
                have i3 : ¬ (j : Int) < 6 := by omega
                go_wp2_with fail
                obtain ⟨W9, hW9⟩ : ∃ W9, W9 = ((wr.setCell ⟨z + 1 + 1, 2, none⟩ (.int .i64 (T : Int))).setCell ⟨z + 1 + 1, 3, none⟩ (.int .i64 (R : Int))).setCell ⟨z + 1 + 1, 4, none⟩ (.int .i64 (M0 : Int)) := ⟨_, rfl⟩
                rw [← hW9]
                have ho9 : Own W9 (z + 1 + 1) 31 [.slice aP n cP, .slice aL m2 c2, .int .i64 (T : Int), .int .i64 (R : Int), .int .i64 (M0 : Int), .int .i64 0, .int .i64 0] := by
                  rw [hW9]
                  exact ((HO3r.out.set 2 (.int .i64 (T : Int))).set 3 (.int .i64 (R : Int))).set 4 (.int .i64 (M0 : Int))
                have hx9 : Exc (fun q => q = z + 1 + 1) wr W9 := by
                  rw [hW9]
                  exact (((Exc.refl (fun q => q = z + 1 + 1) wr).setCell ⟨z + 1 + 1, 2, none⟩ (.inl rfl) _).setCell ⟨z + 1 + 1, 3, none⟩ (.inl rfl) _).setCell ⟨z + 1 + 1, 4, none⟩ (.inl rfl) _
                have v18 := hx9.cell r18 (by show ¬ z = z + 1 + 1; omega)
                have v3 := ho9.cell 3 (by simp)
                have v4 := ho9.cell 4 (by simp)
                have v5 := ho9.cell 5 (by simp)
                have g5 := ho9.frozen 5
                simp only [List.getD_cons_succ, List.getD_cons_zero] at v3 v4 v5
                have HO9 := Lib.hid ho9
                have HX9 := Lib.hid hx9
                clear ho9 hx9 hW9 y0 y1 y2 y3 y4 y5 y6 f2 f3 f4 f5 f6 r15 r16 r17 r18 r4
                have zz : ¬ z = z + 1 + 1 := by omega
                have HO10 := Lib.hid (HO9.out.set 5 (.int .i64 (M1 : Int)))
                have hx10 := (Exc.refl (fun q => q = z + 1 + 1) W9).setCell ⟨z + 1 + 1, 5, none⟩ (.inl rfl) (.int .i64 (M1 : Int))
                have HX10 := Lib.hid (HX9.out.trans hx10 (fun _ _ hh => hh))
                have HKeep := Lib.hid (show (W9.setCell ⟨z + 1 + 1, 5, none⟩ (.int .i64 (M1 : Int))).drew.cell? ⟨z + 1 + 1, 4, none⟩ = some (.int .i64 (M0 : Int)) ∧ (W9.setCell ⟨z + 1 + 1, 5, none⟩ (.int .i64 (M1 : Int))).drew.cell? ⟨z + 1 + 1, 3, none⟩ = some (.int .i64 (R : Int)) ∧ (W9.setCell ⟨z + 1 + 1, 5, none⟩ (.int .i64 (M1 : Int))).drew.cell? ⟨z, 18, none⟩ = some (.int .u8 (kb : Int)) from
                  ⟨HO10.out.cell 4 (by simp), HO10.out.cell 3 (by simp), hx10.cell v18 zz⟩)
                clear hx10
                go_region_held3 (fun w' => w'.cell? ⟨z + 1 + 1, 4, none⟩ = some (.int .i64 (M0 : Int)) ∧ w'.cell? ⟨z + 1 + 1, 3, none⟩ = some (.int .i64 (R : Int)) ∧ w'.cell? ⟨z, 18, none⟩ = some (.int .u8 (kb : Int))) (first | exact HKeep.out | (go_keep; done)) (fail)
                obtain ⟨W10, hW10⟩ : ∃ W10, W10 = (W9.setCell ⟨z + 1 + 1, 5, none⟩ (.int .i64 (M1 : Int))).drew := ⟨_, rfl⟩
                rw [← hW10]
                have ho10 : Own W10 (z + 1 + 1) 31 [.slice aP n cP, .slice aL m2 c2, .int .i64 (T : Int), .int .i64 (R : Int), .int .i64 (M0 : Int), .int .i64 (M1 : Int), .int .i64 0] := by rw [hW10]; exact HO10.out
                have hx10 : Exc (fun q => q = z + 1 + 1) wr W10 := by rw [hW10]; exact HX10.out.trans (Exc.of_below (S := fun _ => False) (show Below (W9.setCell ⟨z + 1 + 1, 5, none⟩ (.int .i64 (M1 : Int))).heap.size (W9.setCell ⟨z + 1 + 1, 5, none⟩ (.int .i64 (M1 : Int))) (W9.setCell ⟨z + 1 + 1, 5, none⟩ (.int .i64 (M1 : Int))).drew from below_draw _ 1)) (fun _ _ hh => hh.elim)
                have y3 := ho10.cell 3 (by simp)
                have y6 := ho10.cell 6 (by simp)
                have f6 := ho10.frozen 6
                simp only [List.getD_cons_succ, List.getD_cons_zero] at y3 y6
                have HO11 := Lib.hid (ho10.set 6 (.int .i64 (R : Int)))
                have HX11 := Lib.hid (hx10.trans ((Exc.refl (fun q => q = z + 1 + 1) W10).setCell ⟨z + 1 + 1, 6, none⟩ (.inl rfl) (.int .i64 (R : Int))) (fun _ _ hh => hh))
                clear hW10 ho10 hx10 v18 v3 v4 v5 g5 HKeep HO10 HX10
                go_upto_region 24 with (fail)
                obtain ⟨W11, hW11⟩ : ∃ W11, W11 = W10.setCell ⟨z + 1 + 1, 6, none⟩ (.int .i64 (R : Int)) := ⟨_, rfl⟩
                rw [← hW11]
                have ho11 : Own W11 (z + 1 + 1) 31 [.slice aP n cP, .slice aL m2 c2, .int .i64 (T : Int), .int .i64 (R : Int), .int .i64 (M0 : Int), .int .i64 (M1 : Int), .int .i64 (R : Int)] := by rw [hW11]; exact HO11.out
                have hx11 : Exc (fun q => q = z + 1 + 1) wr W11 := by rw [hW11]; exact HX11.out
                have ho1 : Own W11 (z + 1) 31 [.slice none 0 0, .slice none 0 0, .int .i64 0, .int .i64 0, .int .i64 0, .int .i64 0, .int .i64 0] := HO1.out.exc (HX37.out.trans hx11 (fun _ _ hh => hh)) (by omega)
                have HO1b := Lib.hid ho1
                have HX12 := Lib.hid hx11
                have y0 := ho11.cell 0 (by simp)
                have y1 := ho11.cell 1 (by simp)
                have y2 := ho11.cell 2 (by simp)
                have y3 := ho11.cell 3 (by simp)
                have y4 := ho11.cell 4 (by simp)
                have y5 := ho11.cell 5 (by simp)
                have y6 := ho11.cell 6 (by simp)
                have q0 := ho1.cell 0 (by simp)
                have q1 := ho1.cell 1 (by simp)
                have q2 := ho1.cell 2 (by simp)
                have q3 := ho1.cell 3 (by simp)
                have q4 := ho1.cell 4 (by simp)
                have q5 := ho1.cell 5 (by simp)
                have q6 := ho1.cell 6 (by simp)
                simp only [List.getD_cons_succ, List.getD_cons_zero] at y0 y1 y2 y3 y4 y5 y6 q0 q1 q2 q3 q4 q5 q6
                have f0 := ho1.frozen 0
                have f1 := ho1.frozen 1
                have f2 := ho1.frozen 2
                have f3 := ho1.frozen 3
                have f4 := ho1.frozen 4
                have f5 := ho1.frozen 5
                have f6 := ho1.frozen 6
                clear hW11 ho11 hx11 ho1 HO11 HX11 e1 e2 e3 e4 e4' e5 e6 e7 e8 e9 e10 e11 e12
                go_wp2_with fail
                obtain ⟨W12, hW12⟩ : ∃ W12, W12 = ((((((W11.setCell ⟨z + 1, 0, none⟩ (.slice aP n cP)).setCell ⟨z + 1, 1, none⟩ (.slice aL m2 c2)).setCell ⟨z + 1, 2, none⟩ (.int .i64 (T : Int))).setCell ⟨z + 1, 3, none⟩ (.int .i64 (R : Int))).setCell ⟨z + 1, 4, none⟩ (.int .i64 (M0 : Int))).setCell ⟨z + 1, 5, none⟩ (.int .i64 (M1 : Int))).setCell ⟨z + 1, 6, none⟩ (.int .i64 (R : Int)) := ⟨_, rfl⟩
                have ho12 : Own W12 (z + 1) 31 [.slice aP n cP, .slice aL m2 c2, .int .i64 (T : Int), .int .i64 (R : Int), .int .i64 (M0 : Int), .int .i64 (M1 : Int), .int .i64 (R : Int)] := by
                  rw [hW12]
                  exact ((((((HO1b.out.set 0 (.slice aP n cP)).set 1 (.slice aL m2 c2)).set 2 (.int .i64 (T : Int))).set 3 (.int .i64 (R : Int))).set 4 (.int .i64 (M0 : Int))).set 5 (.int .i64 (M1 : Int))).set 6 (.int .i64 (R : Int))
                have hx12 : Exc (fun q => q = z + 1) W11 W12 := by
                  rw [hW12]
                  exact (((((((Exc.refl (fun q => q = z + 1) W11).setCell ⟨z + 1, 0, none⟩ (.inl rfl) _).setCell ⟨z + 1, 1, none⟩ (.inl rfl) _).setCell ⟨z + 1, 2, none⟩ (.inl rfl) _).setCell ⟨z + 1, 3, none⟩ (.inl rfl) _).setCell ⟨z + 1, 4, none⟩ (.inl rfl) _).setCell ⟨z + 1, 5, none⟩ (.inl rfl) _).setCell ⟨z + 1, 6, none⟩ (.inl rfl) _
                rw [← hW12]
                clear hW12 y0 y1 y2 y3 y4 y5 y6 q0 q1 q2 q3 q4 q5 q6 f0 f1 f2 f3 f4 f5 f6
                have u0' := ho12.cell 0 (by simp)
                have u1' := ho12.cell 1 (by simp)
                have u2' := ho12.cell 2 (by simp)
                have u3' := ho12.cell 3 (by simp)
                have u4' := ho12.cell 4 (by simp)
                have u5' := ho12.cell 5 (by simp)
                have u6' := ho12.cell 6 (by simp)
                simp only [List.getD_cons_succ, List.getD_cons_zero] at u0' u1' u2' u3' u4' u5' u6'
                have hxa : Exc (fun q => q = z + 1 + 1) w5 W11 := (HXP.out.trans HX3.out (fun _ _ hh => hh)).trans HX12.out (fun _ _ hh => hh)
                have hxb : Exc (fun q => q = z + 1 + 1) W3 W11 := HX37.out.trans HX12.out (fun _ _ hh => hh)
                refine bodyPost_ret (v := planV aP n cP aL m2 c2 (planN x)) (by rw [HPn.out]; simp [results, Tryz.results6, go_sem, u0', u1', u2', u3', u4', u5', u6', planV]) rfl ?_
                refine ⟨aP, cP, aL, c2, by rw [← HN.out, ← HMl.out], ?_, ?_, ?_⟩
                · rw [HPn.out, ← HN.out]
                  exact (HP.out.exc hxa (fun y hy => by have := HBigP.out y hy; show ¬ y.block = z + 1 + 1; omega)).exc hx12 (fun y hy => by have := HBigP.out y hy; show ¬ y.block = z + 1; omega)
                · rw [HPn.out, ← HMl.out]
                  exact (HLf.out.exc HX12.out (fun y hy => by have := HBigL3.out y hy; show ¬ y.block = z + 1 + 1; omega)).exc hx12 (fun y hy => by have := HBigL3.out y hy; show ¬ y.block = z + 1; omega)
                · have h1 := HZ.out
                  have hba := HBl.out.trans (hxb.below HBl.out.size (fun i _ hi => by omega))
                  exact hba.trans (hx12.below hba.size (fun i _ hi => by omega))
end Go.Proofs.YthlckipcgogogaaGreatDoor
