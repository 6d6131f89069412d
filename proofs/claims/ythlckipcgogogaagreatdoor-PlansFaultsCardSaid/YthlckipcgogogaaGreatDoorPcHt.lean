import Derived.Test.YthlckipcgogogaaGreatDoorPcSort
import Derived.Test.YthlckipcgogogaaGreatDoorPcDist
/- The code's heightsOf, over what the stable sort leaves. -/
namespace Go.Proofs.YthlckipcgogogaaGreatDoor
set_option linter.unusedVariables false
open Go.RowKit Go.Sort Go.Lib

/-- The places with a way, as indices below n. -/
def wayF (n : Nat) (l : List Int) : Array (Fin n) := ((wayL n l).pmap (fun i h => (⟨i, h⟩ : Fin n)) (fun _ hi => (wayL_lt hi).1)).toArray
theorem wayF_map (n : Nat) (l : List Int) : (wayF n l).toList.map (fun x => x.val) = wayL n l := by
  unfold wayF
  simp [List.map_pmap]
theorem wayF_size (n : Nat) (l : List Int) : (wayF n l).size = (wayL n l).length := by simp [wayF]
theorem wayF_asc (n : Nat) (l : List Int) : (wayF n l).toList.Pairwise (fun x y => x.val < y.val) := by
  have := wayL_asc n l
  rw [← wayF_map n l, List.pairwise_map] at this
  exact this
/-- What is left of a stable sort: an order of places below n. -/
structure OrdOk (n m : Nat) (o : List Nat) : Prop where
  len : o.length = m
  lt : ∀ i, i ∈ o → i < n
def HtOut (n : Nat) (l : List Int) (Q : List Nat → Prop) (w : World) (e : Ending) (w' : World) : Prop :=
  ∃ g o, OrdOk n (wayL n l).length o ∧ Q o ∧ e = .returned (.slice (some ⟨g, 0, none⟩) n n) ∧ Row .i64 w' (some ⟨g, 0, none⟩) n n (putPos l o o.length) ∧ w.heap.size ≤ g ∧ Below w.heap.size w w'
/-- What is asked of the library's stable sort. -/
def StAsk (n : Nat) [Inhabited (Fin n)] (l : List Int) (g : Nat) (Q : List Nat → Prop) : Prop :=
  ∀ (bx blk cap : Nat) (W : World), W.cell? ⟨bx, 0, none⟩ = some (.slice (some ⟨g, 0, none⟩) n n) → Own W g 3 (nums .i64 l) → bx ≠ blk → g ≠ blk → Holds (encF (n := n)) W blk 0 (wayF n l) → blk < W.heap.size → 0 < (wayF n l).size →
    Calls Tryz.prog 112 #[.slice (some ⟨blk, 0, none⟩) (wayF n l).size cap, .int .i64 ((wayF n l).size : Int), .func (.func 93) #[] #[.pointer (some ⟨bx, 0, none⟩)]] W (StOut (fun d' => Q (d'.toList.map fun x => x.val)) W blk (wayF n l))
theorem putPos_range {l : List Int} {o : List Nat} (hl : ∀ x ∈ l, -1 ≤ x ∧ x ≤ 1000) : ∀ h, h ≤ 1000 → ∀ x ∈ putPos l o h, -1 ≤ x ∧ x ≤ 1000
  | 0, _, x, hx => hl x hx
  | h + 1, hh, x, hx => by
    unfold putPos at hx
    rcases List.mem_or_eq_of_mem_set hx with h1 | h1
    · exact putPos_range hl h (by omega) x h1
    · omega
theorem nums_app_set {l : List Int} {rest : List Value} {i : Nat} {x : Int} (h : i < l.length) : (nums .i64 l ++ rest).set i (.int .i64 x) = nums .i64 (l.set i x) ++ rest := by
  rw [List.set_append_left _ _ (by rw [nums_length]; exact h), nums_set]
set_option maxRecDepth 20000 in
set_option maxHeartbeats 4000000 in
theorem heightsOf_gen (n : Nat) [Inhabited (Fin n)] (l : List Int) (g : Nat) (Q : List Nat → Prop) (w : World) (hn : n ≤ 64) (hn1 : 1 ≤ n) (hl : l.length = n) (hlo : ∀ i, i < n → -1 ≤ l.getD i 0 ∧ l.getD i 0 < 64) (hway : 0 < (wayL n l).length) (ho : Own w g 3 (nums .i64 l)) (hst : StAsk n l g Q) :
    Calls Tryz.prog 61 #[.slice (some ⟨g, 0, none⟩) n n] w (HtOut n l Q w) := by
  obtain ⟨W, hW⟩ : ∃ W, W = w.alloc (.cells #[.slice (some ⟨g, 0, none⟩) n n] 58) := ⟨_, rfl⟩
  have hB : Below w.heap.size w W := by rw [hW]; exact below_alloc _ _
  have hbx : W.cell? ⟨w.heap.size, 0, none⟩ = some (.slice (some ⟨g, 0, none⟩) n n) := by rw [hW]; exact (own_alloc w [.slice (some ⟨g, 0, none⟩) n n] 58).cell 0 (by simp)
  have hgw : g < w.heap.size := ho.lt
  have hwW : w.heap.size < W.heap.size := World.block_lt_of_cell? W _ hbx
  have HO := Lib.hid (ho.below hB hgw)
  have HB := Lib.hid hB
  have HBx := Lib.hid hbx
  have HSt := Lib.hid hst
  have HLo := Lib.hid hlo
  have HLl := Lib.hid hl
  clear ho hB hst hlo hl
  go_enter Tryz.func61, Tryz.ntmps61
  go_wp2_with fail
  show Code.wp _ _ _ _ (w.alloc (.cells #[.slice (some ⟨g, 0, none⟩) n n] 58))
  rw [← hW]
  clear hW
  go_wp2_with fail
  clear hbx
  go_loopw [3, 11] (fun v iv wr => ∃ k : Nat, k ≤ n ∧ iv = .int .i64 k ∧ Below W.heap.size W wr ∧ wr.ownsRow W.heap.size 3 1 v (wayL k l).length (nums .i64 (toF (wayL k l)))) (fun _ iv _ => n - (intOf iv).toNat)
  case atStart => exact ⟨0, Nat.zero_le _, rfl, Below.refl _ _, by simpa [wayL, toF, nums] using World.ownsRow_nil W W.heap.size 3 1⟩
  case round =>
    obtain ⟨k, hk, rfl, hb, hown⟩ := hrel
    have hsz : W.heap.size ≤ wr.heap.size := hb.size
    have hcell := fun (j : Nat) (hj : j < n) => (HO.out.below hb (by omega)).cell j (by rw [nums_length, HLl.out]; exact hj)
    have hlen := wayL_le k l
    have HW := Lib.hid hown
    have HBr := Lib.hid hb
    have hbxr : wr.cell? ⟨w.heap.size, 0, none⟩ = some (.slice (some ⟨g, 0, none⟩) n n) := (hb.cell hwW).trans HBx.out
    clear hb hown
    by_cases hkn : k < n
    · have c0 := hcell k hkn
      rw [nums_getD _ _ _ (by rw [HLl.out]; exact hkn)] at c0
      obtain ⟨x, hx⟩ : ∃ x, x = l.getD k 0 := ⟨_, rfl⟩
      rw [← hx] at c0
      have HS := Lib.hid (wayL_succ k l)
      rw [← hx] at HS
      clear hx hcell
      obtain ⟨N, hN⟩ : ∃ N, N = (wayL k l).length := ⟨_, rfl⟩
      rw [← hN] at HW hlen
      have HN := Lib.hid hN
      clear hN
      have k1 : (k : Int) < (n : Int) := by omega
      have k2 : (0 : Int) ≤ (k : Int) := by omega
      by_cases hx1 : x = -1
      · have hxf : (x != -1) = false := by simpa using hx1
        have HS2 := Lib.hid (show wayL (k + 1) l = wayL k l by rw [HS.out, if_neg (by simpa using hx1), List.append_nil])
        subst hx1
        go_wp2
        refine ⟨⟨k + 1, by omega, by go_num, HBr.out, ?_⟩, by simp [intOf]; omega⟩
        rw [HS2.out, ← HN.out]
        exact HW.out
      · have hxf : (x != -1) = true := by simpa using hx1
        have HS2 := Lib.hid (show wayL (k + 1) l = wayL k l ++ [k] by rw [HS.out, if_pos hx1])
        clear hx1 HS
        go_wp2_with (at_builtin; refine wpList_append_one Tryz.underlying58 info64 (by decide) rfl _ _ rfl W.heap.size _ _ _ _ rfl (by exact HW.out) rfl (by omega) hsz ?_)
        intro v1 w1 h1 h2 gx cx h3
        have H1 := Lib.hid h1
        have H2 := Lib.hid h2
        clear h1 h2 h3
        go_wp2
        refine ⟨⟨k + 1, by omega, by go_num, HBr.out.trans (H2.out.below hsz (fun j hj => (ownBlock_lt HW.out hj).1)), ?_⟩, by simp [intOf]; omega⟩
        rw [HS2.out, toF_snoc, List.length_append, ← HN.out]
        exact H1.out
    · obtain rfl : k = n := by omega
      clear hcell
      obtain ⟨m, hm⟩ : ∃ m, m = (wayL k l).length := ⟨_, rfl⟩
      rw [← hm] at hlen hway
      have hrow := HW.out
      rw [← hm] at hrow
      obtain ⟨bF, cF, rfl, hF1, hF2, _, hBF⟩ := row_cell hrow (by rw [toF_length]; exact hm.symm) hway
      have hH : Holds (encF (n := k)) wr bF 0 (wayF k l) := fun j hj => by
        rw [wayF_size, ← hm] at hj
        obtain ⟨b2, c2, e2, _, _, h2, _⟩ := row_cell hrow (by rw [toF_length]; exact hm.symm) hj
        cases e2
        rw [Nat.zero_add]
        refine ⟨?_, ?_⟩
        · rw [h2, toF_getD _ (by rw [← hm]; exact hj)]
          unfold encF
          have e3 : (wayL k l).getD j 0 = ((wayF k l)[j]!).val := by
            rw [← wayF_map k l]
            have hj3 : j < (wayF k l).toList.length := by simp [wayF_size, ← hm]; exact hj
            rw [List.getD_eq_getElem?_getD, List.getElem?_map, List.getElem?_eq_getElem hj3, get_bang hj3]; rfl
          rw [e3]
        · rcases hrow.2 with ⟨e, _⟩ | ⟨g3, cap3, cur3, e, _, hg3, _⟩
          · cases e
          · cases e
            exact frozen_of_row wr bF j _ _ hg3
      have hFl := (ownBlock_lt hrow (k := bF) rfl).2
      have hcon := sortStable_any _ w.heap.size bF cF (wayF k l) wr (HSt.out w.heap.size bF cF wr hbxr (HO.out.below HBr.out (by omega)) (by omega) (by omega) hH hFl (by rw [wayF_size, ← hm]; exact hway))
      rw [wayF_size, ← hm] at hcon
      have HC := Lib.hid hcon
      have HM := Lib.hid hm
      have HOr := Lib.hid (HO.out.below HBr.out (by omega))
      have HHo := Lib.hid hH
      have HBxr := Lib.hid hbxr
      clear hcon hrow hH hm HSt HW hbxr
      go_wp2_with fail
      with_reducible refine HC.out.mono ?_
      rintro e w2 ⟨rfl, d', hd, hq, hsw⟩
      have hx := sw_exc hsw
      have hb2 : Below W.heap.size wr w2 := hx.below hsz (fun i _ hi => by omega)
      have HQ := Lib.hid hq
      obtain ⟨o, ho⟩ : ∃ o, o = d'.toList.map (fun x => x.val) := ⟨_, rfl⟩
      have hol : o.length = m := by rw [ho, List.length_map]; simp [hd, wayF_size, HM.out]
      have hoc : ∀ j, j < m → w2.cell? ⟨bF, j, none⟩ = some (.int .i64 ((o.getD j 0 : Nat) : Int)) := fun j hj => by
        have h := (hsw.holds hFl HHo.out hd) j (by rw [hd, wayF_size, ← HM.out]; exact hj)
        rw [Nat.zero_add] at h
        rw [h.1]
        unfold encF
        have hj3 : j < d'.toList.length := by simp [hd, wayF_size, ← HM.out]; exact hj
        have e3 : o.getD j 0 = (d'[j]!).val := by
          rw [ho, List.getD_eq_getElem?_getD, List.getElem?_map, List.getElem?_eq_getElem hj3, get_bang hj3]; rfl
        rw [e3]
      have hon : ∀ j, j < m → o.getD j 0 < k := fun j hj => by
        have hj3 : j < d'.toList.length := by simp [hd, wayF_size, ← HM.out]; exact hj
        rw [ho, List.getD_eq_getElem?_getD, List.getElem?_map, List.getElem?_eq_getElem hj3]
        exact (d'.toList[j]).isLt
      have HOk : Hid (OrdOk k (wayL k l).length o) := Lib.hid ⟨by rw [hol, HM.out], fun i hi => by
        rw [ho] at hi
        obtain ⟨x, _, rfl⟩ := List.mem_map.1 hi
        exact x.isLt⟩
      rw [← ho] at HQ
      have HOl := Lib.hid hol
      have HOc := Lib.hid hoc
      have HOn := Lib.hid hon
      have HB2 := Lib.hid (HBr.out.trans hb2)
      have hbx2 : w2.cell? ⟨w.heap.size, 0, none⟩ = some (.slice (some ⟨g, 0, none⟩) k k) := hx.cell HBxr.out (by show ¬ w.heap.size = bF; omega)
      have HO2 : Hid (Own w2 g 3 (nums .i64 l)) := Lib.hid (by
        unfold Own
        rw [hx.block g HOr.out.lt (by show ¬ g = bF; omega)]; exact HOr.out)
      have hsz2 : wr.heap.size ≤ w2.heap.size := hx.size
      clear hsw hd hq hx hb2 ho hol hoc hon HC HHo
      obtain ⟨i0, hi, hz0, hz1, hz2⟩ := info_parts infoI
      have hcl := AnyE.slices_Clone layClone i0 (.int .i64 0) 1 8 hi hz0 hz1 hz2 rfl (by decide) Tryz.sizeOf3 g 0 k k (nums .i64 l) w2 (by rw [nums_length, HLl.out, Nat.mul_one]) (by unfold maxLen; omega) (by omega)
        (fun j u hj => by
          have hj0 := (List.getElem?_eq_some_iff.1 hj).1
          have := HO2.out.cell j hj0
          rw [List.getD_eq_getElem?_getD, hj] at this
          rw [Nat.zero_add]; exact this)
        (fun u hu => by
          rw [nums, List.mem_map] at hu
          obtain ⟨y, _, rfl⟩ := hu
          rfl)
      change Calls Tryz.prog 94 _ _ _ at hcl
      have HCl := Lib.hid hcl
      clear hcl hi hz0 hz1 hz2
      go_wp2_with fail
      with_reducible refine HCl.out.mono ?_
      rintro e w3 ⟨v', rfl, hown, _, hb3⟩
      obtain ⟨gC, cC, rest, rfl, hgC, hoC⟩ := ownsRow_own hown (by omega)
      have hcC : k ≤ cC ∧ cC ≤ maxLen := by
        rcases hown.2 with ⟨e, _⟩ | ⟨g3, cap3, cur3, e, _, _, h4, h5, _⟩
        · cases e
        · cases e; exact ⟨h4, h5⟩
      have HCC := Lib.hid hcC
      have HOC := Lib.hid hoC
      have HB3 := Lib.hid (HB2.out.trans (hb3.mono HB2.out.size))
      have HOc3 : Hid (∀ j, j < m → w3.cell? ⟨bF, j, none⟩ = some (.int .i64 ((o.getD j 0 : Nat) : Int))) := Lib.hid (fun j hj => (hb3.cell (by show bF < w2.heap.size; omega)).trans (HOc.out j hj))
      have hgF : gC ≠ bF := by omega
      have hgW : W.heap.size ≤ gC := by omega
      clear hown hoC hb3 hcC HCl hbx2
      go_wp2_with fail
      go_loopw [30] (fun hv wr3 => ∃ h : Nat, h ≤ m ∧ hv = .int .i64 h ∧ Own wr3 gC 3 (nums .i64 (putPos l o h) ++ rest) ∧ Exc (fun q => q = gC) w3 wr3) (fun hv _ => m - (intOf hv).toNat)
      case atStart => exact ⟨0, Nat.zero_le _, rfl, HOC.out, Exc.refl _ _⟩
      case round =>
        obtain ⟨h, hh, rfl, hoh, hxh⟩ := hrel
        have HOh := Lib.hid hoh
        have HXh := Lib.hid hxh
        clear hoh hxh
        by_cases hhm : h < m
        · have q0 := HXh.out.cell (HOc3.out h hhm) (by show ¬ bF = gC; omega)
          have q1 := HOn.out h hhm
          obtain ⟨y, hy⟩ : ∃ y, y = o.getD h 0 := ⟨_, rfl⟩
          rw [← hy] at q0 q1
          have HY := Lib.hid hy
          clear hy
          have hpl : (putPos l o h).length = k := by rw [putPos_length]; exact HLl.out
          have q2 := HOh.out.cell y (by rw [List.length_append, nums_length, hpl]; omega)
          have q3 := HOh.out.frozen y
          have HSet : Hid (Own (wr.setCell ⟨gC, y, none⟩ (.int .i64 (h : Int))) gC 3 (nums .i64 (putPos l o (h + 1)) ++ rest)) := Lib.hid (by
            have := HOh.out.set y (.int .i64 (h : Int))
            rw [nums_app_set (by rw [hpl]; exact q1)] at this
            rw [HY.out] at this
            rw [HY.out]
            exact this)
          have HXs := Lib.hid (HXh.out.setCell ⟨gC, y, none⟩ (.inl rfl) (.int .i64 (h : Int)))
          have k3 : (y : Int) < (k : Int) := by omega
          have k4 : (0 : Int) ≤ (y : Int) := by omega
          generalize (nums .i64 (putPos l o h) ++ rest).getD y undef = old at q2
          clear hpl HOh HXh
          go_wp2
          exact ⟨⟨h + 1, by omega, by go_num, HSet.out, HXs.out⟩, by simp [intOf]; omega⟩
        · obtain rfl : h = m := by omega
          have hclip := clipI_any (some ⟨gC, 0, none⟩) k cC wr HCC.out.1 HCC.out.2
          have HClip := Lib.hid hclip
          clear hclip
          go_wp2_with fail
          with_reducible refine HClip.out.mono ?_
          rintro e w9 ⟨rfl, rfl⟩
          go_wp2
          go_ret
          have hpl : (putPos l o h).length = k := by rw [putPos_length]; exact HLl.out
          have hb9 : Below W.heap.size W wr := HB3.out.trans (HXh.out.below HB3.out.size (fun i _ hi => by omega))
          refine ⟨gC, o, HOk.out, HQ.out, rfl, ?_, by have := HB.out.size; omega, HB.out.trans (hb9.mono HB.out.size)⟩
          rw [HOl.out]
          have hrng := putPos_range (l := l) (o := o) (fun x hx => by
            obtain ⟨j, hj, rfl⟩ := List.getElem_of_mem hx
            have := HLo.out j (by rw [← HLl.out]; exact hj)
            simp only [List.getD_eq_getElem?_getD, List.getElem?_eq_getElem hj, Option.getD_some] at this
            omega) h (by omega)
          refine ⟨hpl, Nat.le_refl _, by unfold maxLen; omega, fun x hx => by rw [wf_i64]; have := hrng x hx; omega, .inr ⟨gC, 0, rfl, fun i hi => ?_⟩, by simp⟩
          have hc := HOh.out.cell i (by rw [List.length_append, nums_length, hpl]; omega)
          rw [Nat.zero_add, hc, List.getD_eq_getElem?_getD, List.getElem?_append_left (by rw [nums_length, hpl]; exact hi), ← List.getD_eq_getElem?_getD, nums_getD _ _ _ (by rw [hpl]; exact hi)]
end Go.Proofs.YthlckipcgogogaaGreatDoor
