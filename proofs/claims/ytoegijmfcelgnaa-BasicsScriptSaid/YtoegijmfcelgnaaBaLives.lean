/- Contracts: the chapter's examples (lives of the statements of basics). -/
import Derived.Test.YtoegijmfcelgnaaBaTwo
import Derived.Test.YtoegijmfcelgnaaBaLists
import Derived.Test.YtoegijmfcelgnaaBaSend
namespace Go.Proofs.Ytoegijmfcelgnaa
open Go.RowKit

/-- The end that has been given the loads 1 1, 2 2, .. -/
def given : Nat → En
  | 0 => En.zero
  | k + 1 => (given k).accept [((k + 1 : Nat) : Int), ((k + 1 : Nat) : Int)]
theorem given_que (k : Nat) : (given k).que.length = k := by
  induction k with
  | zero => rfl
  | succ k ih => show ((given k).que ++ [_]).length = k + 1; rw [List.length_append, ih]; rfl
theorem given_failed (k : Nat) : (given k).failed = false := by
  induction k with
  | zero => rfl
  | succ k ih => exact ih
/-- The end that has sent k of them, and what it sent. -/
def sentE : Nat → En
  | 0 => given 3
  | k + 1 => (sentE k).next.2
def sentU : Nat → List Un
  | 0 => []
  | k + 1 => sentU k ++ [(sentE k).next.1]
theorem sent_unit {k : Nat} (h : k < 3) : (sentE k).next.1 = ⟨127, true, k, true, 2, 0, [((k + 1 : Nat) : Int), ((k + 1 : Nat) : Int)]⟩ ∧ (sentE k).failed = false := by
  have : k = 0 ∨ k = 1 ∨ k = 2 := by omega
  rcases this with rfl | rfl | rfl <;> exact ⟨rfl, rfl⟩
theorem sentU_length (k : Nat) : (sentU k).length = k := by
  induction k with
  | zero => rfl
  | succ k ih => show (sentU k ++ [_]).length = k + 1; rw [List.length_append, ih]; rfl
theorem row_two {w : World} {g t : Nat} {x y : Int} (h : Own w g t [.int .u8 x, .int .u8 y]) (hx : 0 ≤ x ∧ x ≤ 255) (hy : 0 ≤ y ∧ y ≤ 255) : Row .u8 w (some ⟨g, 0, none⟩) 2 2 [x, y] :=
  Own.row0 (l := [x, y]) h 2 2 rfl (Nat.le_refl _) (by unfold maxLen; decide) (fun z hz => by
    simp only [List.mem_cons, List.not_mem_nil, or_false] at hz
    rcases hz with rfl | rfl
    · exact wf_u8.2 hx
    · exact wf_u8.2 hy)
theorem mat_one {w : World} {g h : Nat} {x y : Int} {P : Nat → Prop} (hx : 0 ≤ x ∧ x ≤ 255) (hy : 0 ≤ y ∧ y ≤ 255) (h1 : Own w g 5 [.int .u8 x, .int .u8 y]) (h2 : Own w h 32 [.slice (some ⟨g, 0, none⟩) 2 2]) (hg : P g) (hh : P h) :
    Mat w P true (some ⟨h, 0, none⟩) 1 1 [[x, y]] := by
  refine ⟨rfl, Nat.le_refl _, by unfold maxLen; decide, .inr ⟨h, 0, rfl, hh, fun i hi => ?_⟩, by simp⟩
  have hi0 : i = 0 := by omega
  subst hi0
  exact ⟨_, h2.cell 0 (by simp), _, 2, rfl, row_two h1 hx hy, fun _ => rfl, fun z hz => by cases hz; exact hg⟩
theorem mat_two' {w : World} {g1 g2 h : Nat} {x y u v : Int} {P : Nat → Prop} (hx : 0 ≤ x ∧ x ≤ 255) (hy : 0 ≤ y ∧ y ≤ 255) (hu : 0 ≤ u ∧ u ≤ 255) (hv : 0 ≤ v ∧ v ≤ 255) (h1 : Own w g1 5 [.int .u8 x, .int .u8 y]) (h2 : Own w g2 5 [.int .u8 u, .int .u8 v])
    (h3 : Own w h 32 [.slice (some ⟨g1, 0, none⟩) 2 2, .slice (some ⟨g2, 0, none⟩) 2 2]) (hg1 : P g1) (hg2 : P g2) (hh : P h) :
    Mat w P true (some ⟨h, 0, none⟩) 2 2 [[x, y], [u, v]] := by
  refine ⟨rfl, Nat.le_refl _, by unfold maxLen; decide, .inr ⟨h, 0, rfl, hh, fun i hi => ?_⟩, by simp⟩
  have hi0 : i = 0 ∨ i = 1 := by omega
  rcases hi0 with rfl | rfl
  · exact ⟨_, h3.cell 0 (by simp), _, 2, rfl, row_two h1 hx hy, fun _ => rfl, fun z hz => by cases hz; exact hg1⟩
  · exact ⟨_, h3.cell 1 (by simp), _, 2, rfl, row_two h2 hu hv, fun _ => rfl, fun z hz => by cases hz; exact hg2⟩
set_option maxHeartbeats 4000000 in
set_option maxRecDepth 100000 in
theorem lives_any (I : EndFace) (J : EndMore I) (w : World) :
    Calls Try.prog 5 #[] w fun e w' => e = .returned (.bool true) ∧ Below w.heap.size w w' := by
  have HN := Lib.hid I.new
  go_enter Try.func5, Try.ntmps5
  go_wp2_with fail
  refine (HN.out w).mono ?_
  rintro e w1 ⟨⟨a, S, rfl, ha, hs⟩, hb1⟩
  go_wp2_with fail
  refine (HN.out w1).mono ?_
  rintro e w2 ⟨⟨b, T, rfl, hbt, ht⟩, hb2⟩
  have h2 : TwoAt I w2 w.heap.size a b En.zero En.zero (fun _ => False) := two_new ha hs hb1 hbt ht hb2
  have hB2 : Below w.heap.size w w2 := hb1.trans (Below.mono hb2 hb1.size)
  clear ha hs hb1 hbt ht hb2
  go_wp2_with fail
  go_loopw [3] (fun i wr => ∃ k : Nat, k ≤ 3 ∧ i = .int .u8 ((k : Int) + 1) ∧ TwoAt I wr w.heap.size a b (given k) En.zero (fun _ => False) ∧ Below w.heap.size w wr) (fun i _ => 4 - (intOf i).toNat)
  case atStart => exact ⟨0, by omega, rfl, h2, hB2⟩
  case round =>
    obtain ⟨k, hk, rfl, h3, hb3⟩ := hrel
    clear h2 hB2
    by_cases hlt : k < 3
    · have hk1 : (k : Int) + 1 ≤ 3 := by omega
      obtain ⟨w4, hw4⟩ : ∃ X, X = wr.alloc (.cells #[.int .u8 ((k : Int) + 1), .int .u8 ((k : Int) + 1)] 5) := ⟨_, rfl⟩
      have ho : Own w4 wr.heap.size 5 (nums .u8 [((k + 1 : Nat) : Int), ((k + 1 : Nat) : Int)]) := by
        rw [hw4]
        have e : ((k + 1 : Nat) : Int) = (k : Int) + 1 := by omega
        rw [e]
        exact own_lit wr _ _ _ rfl
      have hr4 := ho.row0 2 2 rfl (Nat.le_refl _) (by unfold maxLen; omega) (l := [((k + 1 : Nat) : Int), ((k + 1 : Nat) : Int)]) (fun x hx => wf_u8.2 (by
        simp only [List.mem_cons, List.not_mem_nil, or_false, or_self] at hx
        subst hx; omega))
      have hb4 : Below wr.heap.size wr w4 := by rw [hw4]; exact below_alloc _ _
      have hl4 := ho.lt
      have h4 := h3.own (Exc.of_below hb4)
      have HA := Lib.hid (two_accept h4 (given_failed k) (by rw [given_que]; omega) hr4 (Nat.le_refl _) (by decide) (fun z hz => by cases hz; exact .inr ⟨Nat.le_refl _, hl4⟩))
      have HB := Lib.hid (hb3.trans (Below.mono hb4 hb3.size))
      have HW := Lib.hid hw4
      clear h3 hb3 hb4 h4 hr4 ho hw4 hl4
      go_wp2_with fail
      rw [← HW.out]
      refine HA.out.mono ?_
      rintro e w5 ⟨rfl, h5, hx5⟩
      have HX := Lib.hid (And.intro (h5.less (O' := fun _ => False) (fun _ hh => hh.elim)) (HB.out.trans (hx5.below HB.out.size (fun _ _ hh => hh.1))))
      clear h5 hx5 HA HB HW
      go_wp2_with fail
      exact ⟨⟨k + 1, by omega, by go_num, HX.out.1, HX.out.2⟩, by simp [intOf]; omega⟩
    · obtain rfl : k = 3 := by omega
      have H3 := Lib.hid h3
      have HB3 := Lib.hid hb3
      clear h3 hb3
      go_wp2_with fail
      simp only [show ((3 : Nat) : Int) + 1 = 4 from rfl]
      go_loopw [4, 5] (fun v i wr => ∃ k : Nat, k ≤ 3 ∧ i = .int .i64 k ∧ (∃ O g ad c, v = .slice ad k c ∧ SentAt wr O g ad c (sentU k) ∧ TwoAt I wr w.heap.size a b (sentE k) En.zero O) ∧ Below w.heap.size w wr) (fun _ i _ => 3 - (intOf i).toNat)
      case atStart => exact ⟨0, by omega, rfl, ⟨_, none, none, 0, rfl, SentAt.nil _ _, H3.out⟩, HB3.out⟩
      case round =>
        clear H3 HB3
        obtain ⟨k, hk, rfl, ⟨O, g, ad, c, rfl, hs, h4⟩, hb4⟩ := hrel
        by_cases hlt : k < 3
        · obtain ⟨hu, hf⟩ := sent_unit hlt
          have hcon := two_next h4 hf
          rw [hu] at hcon
          have HC := Lib.hid hcon
          have HS := Lib.hid hs
          have HB := Lib.hid hb4
          have H4 := Lib.hid h4
          have HU := Lib.hid hu
          clear hcon hs hb4 h4 hu hf
          go_wp2_with fail
          refine HC.out.mono ?_
          rintro e w5 ⟨s, rfl, hr, ⟨O5, ho5, hz5, h5⟩, hx5⟩
          have hsz5 := hx5.size
          obtain ⟨us, hus⟩ : ∃ x : Un, x = ⟨127, true, k, true, 2, 0, [((k + 1 : Nat) : Int), ((k + 1 : Nat) : Int)]⟩ := ⟨_, rfl⟩
          have hcells : unCells us s 2 2 = [.int .u8 127, .bool true, .int .u8 (k : Int), .bool true, .int .u8 2, .int .u8 0, .slice s 2 2] := by rw [hus]; rfl
          have hul : us.load.length = 2 := by rw [hus]; rfl
          obtain ⟨w6, hw6⟩ : ∃ X, X = w5.alloc (.cells #[.int .u8 127, .bool true, .int .u8 (k : Int), .bool true, .int .u8 2, .int .u8 0, .slice s 2 2] 41) := ⟨_, rfl⟩
          obtain ⟨w7, hw7⟩ : ∃ X, X = w6.alloc (.cells #[.int .u8 127, .bool true, .int .u8 (k : Int), .bool true, .int .u8 2, .int .u8 0, .slice s 2 2] 41) := ⟨_, rfl⟩
          have ou7 : Own w7 w6.heap.size 41 (unCells us s 2 2) := by rw [hw7, hcells]; exact own_lit w6 _ _ _ rfl
          have e61 : w6.heap.size = w5.heap.size + 1 := by rw [hw6]; simp
          rw [e61] at ou7
          have hb56 : Below w5.heap.size w5 w6 := by rw [hw6]; exact below_alloc _ _
          have hb67 : Below w6.heap.size w6 w7 := by rw [hw7]; exact below_alloc _ _
          have hb57 : Below w5.heap.size w5 w7 := hb56.trans (Below.mono hb67 hb56.size)
          have h7 := h5.own (Exc.of_below (S := O5) hb57)
          have hs7 := (HS.out.exc hx5 (fun k hk hh => hh.2 hk) ho5).exc (T := fun _ => False) (O' := fun k => O5 k ∨ (w5.heap.size ≤ k ∧ k < w7.heap.size)) (Exc.of_below hb57) (fun _ _ hh => hh) (fun _ hk => .inl hk)
          have hgl : ∀ k, g = some k → k < wr.heap.size := by
            obtain ⟨_, hb, _⟩ := HS.out
            exact fun k hk => hb.lt hk
          have hz8 : ∀ z, s = some z → O5 z.block ∧ g ≠ some z.block := fun z hz => ⟨(hz5 z hz).1, fun hh => by have := hgl _ hh; have := (hz5 z hz).2; omega⟩
          obtain ⟨cs, hbuf, hg, hkept⟩ := hs7
          rw [sentU_length] at hbuf
          have hr7 : Row .u8 w7 s us.load.length us.load.length us.load := by rw [hus]; exact hr.later hb57
          have hB7 : Below w.heap.size w w7 := (HB.out.trans (hx5.below HB.out.size (fun _ _ hh => hh.1))).trans (Below.mono hb57 (Nat.le_trans HB.out.size hsz5))
          have hO7 : ∀ k, (O5 k ∨ (w5.heap.size ≤ k ∧ k < w7.heap.size)) → w.heap.size ≤ k ∧ k < w7.heap.size := by
            obtain ⟨_, _, _, _, _, _, _, _, hh⟩ := h7
            exact fun k hk => (hh k hk).1
          obtain ⟨i0, hi, hz0, hz1', hz2⟩ := info_parts infoUnit
          have hk3 : (k : Int) ≤ 2 := by omega
          have HW6 := Lib.hid (And.intro hw6 hw7)
          have HU7 := Lib.hid ou7
          have H7 := Lib.hid h7
          have HBf := Lib.hid hbuf
          have HG := Lib.hid hg
          have HK := Lib.hid hkept
          have HR7 := Lib.hid hr7
          have HB7 := Lib.hid hB7
          have HO7 := Lib.hid hO7
          have HZ8 := Lib.hid hz8
          have HI := Lib.hid (And.intro hi (And.intro hz0 (And.intro hz1' hz2)))
          have HC7 := Lib.hid (And.intro hus (And.intro hcells hul))
          clear hw6 hw7 ou7 hb56 hb67 hb57 h7 hbuf hg hkept hr7 hB7 hO7 hz5 hz8 hgl hi hz0 hz1' hz2 h5 hr hx5 ho5 hus hcells hul
          simp only [unCells, List.length_cons, List.length_nil, Nat.zero_add, Nat.reduceAdd]
          clear e61
          go_wp2_with (at_builtin; rw [← HW6.out.1, ← HW6.out.2]; refine wpList_append_buf (by rfl) _ _ _ _ (by rfl) 41 i0 _ 7 32 Try.underlying63 HI.out.1 HI.out.2.1 HI.out.2.2.1 HI.out.2.2.2 (by rfl) (by decide) g ad k c cs (by rfl) HBf.out _ 1 (unCells us s 2 2) (by rfl) (by exact src_unit HU7.out) (by unfold maxLen; omega) (by omega) ?_)
          intro g' a' c' w8 q1 q2 q3
          have hx8 := q2.weak (S' := fun k => O5 k ∨ (w5.heap.size ≤ k ∧ k < w7.heap.size)) (fun k _ hk => HG.out k hk)
          have h8 := H7.out.own hx8
          have hs8 := SentAt.add (O' := fun k => (O5 k ∨ (w5.heap.size ≤ k ∧ k < w7.heap.size)) ∨ (w7.heap.size ≤ k ∧ k < w8.heap.size)) (us := sentU k) (u := us) (s := s) (by rw [HBf.out.len, sentU_length]) HK.out q2 (fun k hk => (HO7.out k hk).2) (fun _ hk => .inl hk) (by rw [sentU_length, HC7.out.2.2]; exact q1) q3
            (fun k hk => by
              rcases q3 k hk with h1 | h1
              · exact .inl (HG.out k h1)
              · exact .inr ⟨h1, q1.lt hk⟩) HR7.out (fun z hz => ⟨.inl (HZ8.out z hz).1, (HZ8.out z hz).2⟩)
          have hB8 := HB7.out.trans (hx8.below HB7.out.size (fun k _ hk => (HO7.out k hk).1))
          have e8 : sentU k ++ [us] = sentU (k + 1) := by
            show _ = sentU k ++ [(sentE k).next.1]
            rw [HU.out, HC7.out.1]
          rw [e8] at hs8
          have HX := Lib.hid (And.intro hs8 (And.intro h8 hB8))
          clear q1 q2 q3 hx8 h8 hs8 hB8 e8
          go_wp2_with fail
          exact ⟨⟨k + 1, by omega, by go_num, ⟨_, _, _, _, rfl, HX.out.1, HX.out.2.1⟩, HX.out.2.2⟩, by simp [intOf]; omega⟩
        · obtain rfl : k = 3 := by omega
          obtain ⟨cs, hbuf, hg, hkept⟩ := hs
          obtain ⟨s0, k0, r0, z0⟩ := hkept 0 (sentE 0).next.1 rfl
          obtain ⟨s2, k2, r2, z2⟩ := hkept 2 (sentE 2).next.1 rfl
          rw [sentU_length] at hbuf
          obtain ⟨gb, o, rfl, rfl, hcell⟩ := hbuf.cell (by decide)
          rw [(sent_unit (k := 0) (by decide)).1] at k0 r0
          rw [(sent_unit (k := 2) (by decide)).1] at k2 r2
          have hc0 : ∀ j, j < 7 → wr.cell? ⟨gb, o + j, none⟩ = some ((unCells ⟨127, true, 0, true, 2, 0, [1, 1]⟩ s0 2 2).getD j undef) := fun j hj => by
            rw [hcell j (by omega)]
            have := k0 j hj
            rw [Nat.zero_mul, Nat.zero_add] at this
            rw [this]; rfl
          have hc2 : ∀ j, j < 7 → wr.cell? ⟨gb, o + 14 + j, none⟩ = some ((unCells ⟨127, true, 2, true, 2, 0, [3, 3]⟩ s2 2 2).getD j undef) := fun j hj => by
            rw [Nat.add_assoc, hcell (14 + j) (by omega)]
            have := k2 j hj
            rw [show 2 * 7 + j = 14 + j by omega] at this
            rw [this]; rfl
          have q00 : wr.cell? ⟨gb, o, none⟩ = some (.int .u8 127) := hc0 0 (by decide)
          have q01 : wr.cell? ⟨gb, o + 1, none⟩ = some (.bool true) := hc0 1 (by decide)
          have q02 : wr.cell? ⟨gb, o + 2, none⟩ = some (.int .u8 0) := hc0 2 (by decide)
          have q03 : wr.cell? ⟨gb, o + 3, none⟩ = some (.bool true) := hc0 3 (by decide)
          have q04 : wr.cell? ⟨gb, o + 4, none⟩ = some (.int .u8 2) := hc0 4 (by decide)
          have q05 : wr.cell? ⟨gb, o + 5, none⟩ = some (.int .u8 0) := hc0 5 (by decide)
          have q06 : wr.cell? ⟨gb, o + 6, none⟩ = some (.slice s0 2 2) := hc0 6 (by decide)
          have q20 : wr.cell? ⟨gb, o + 14, none⟩ = some (.int .u8 127) := hc2 0 (by decide)
          have q21 : wr.cell? ⟨gb, o + 15, none⟩ = some (.bool true) := hc2 1 (by decide)
          have q22 : wr.cell? ⟨gb, o + 16, none⟩ = some (.int .u8 2) := hc2 2 (by decide)
          have q23 : wr.cell? ⟨gb, o + 17, none⟩ = some (.bool true) := hc2 3 (by decide)
          have q24 : wr.cell? ⟨gb, o + 18, none⟩ = some (.int .u8 2) := hc2 4 (by decide)
          have q25 : wr.cell? ⟨gb, o + 19, none⟩ = some (.int .u8 0) := hc2 5 (by decide)
          have q26 : wr.cell? ⟨gb, o + 20, none⟩ = some (.slice s2 2 2) := hc2 6 (by decide)
          have hgO : O gb := hg gb rfl
          have hh6 := two_hear h4.swap rfl (u := ⟨127, true, 0, true, 2, 0, [1, 1]⟩) (by decide) (by decide) r0 (fun z hz => (z0 z hz).1) rfl
          have t6 : (En.zero.hear ⟨127, true, 0, true, 2, 0, [1, 1]⟩).1 = some [1, 1] := rfl
          simp only [t6, Option.toList_some, List.length_cons, List.length_nil, Nat.zero_add] at hh6
          have HH := Lib.hid hh6
          have HB := Lib.hid hb4
          have HC := Lib.hid (And.intro r2 (And.intro z2 hgO))
          clear hc0 hc2 hcell k0 k2 r0 r2 z0 z2 hg hbuf h4 hb4 hh6 t6 hgO
          go_wp2_with fail
          refine HH.out.mono ?_
          rintro e w6 ⟨⟨v6, c6, rfl, hc6, O6, ho6, hm6, h6⟩, hx6⟩
          obtain rfl : c6 = 1 := hc6 (by simp)
          obtain ⟨r2, z2, hgO⟩ := HC.out
          have p0 := hx6.cell q20 (fun hh => hh.2 hgO)
          have p1 := hx6.cell q21 (fun hh => hh.2 hgO)
          have p2 := hx6.cell q22 (fun hh => hh.2 hgO)
          have p3 := hx6.cell q23 (fun hh => hh.2 hgO)
          have p4 := hx6.cell q24 (fun hh => hh.2 hgO)
          have p5 := hx6.cell q25 (fun hh => hh.2 hgO)
          have p6 := hx6.cell q26 (fun hh => hh.2 hgO)
          have r26 := r2.exc hx6 (fun z hz hh => hh.2 (z2 z hz).1)
          obtain ⟨xb, hxb⟩ : ∃ x, x = (En.zero.hear ⟨127, true, 0, true, 2, 0, [1, 1]⟩).2 := ⟨_, rfl⟩
          have hh7 := two_hear h6 rfl (u := ⟨127, true, 2, true, 2, 0, [3, 3]⟩) (by decide) (by decide) r26 (fun z hz => ho6 _ (z2 z hz).1) rfl
          have t7 : ((En.zero.hear ⟨127, true, 0, true, 2, 0, [1, 1]⟩).2.hear ⟨127, true, 2, true, 2, 0, [3, 3]⟩).1 = none := rfl
          simp only [t7, Option.toList_none, List.length_nil] at hh7
          have HH7 := Lib.hid hh7
          have HM6 := Lib.hid hm6
          have HB6 := Lib.hid (HB.out.trans (hx6.below HB.out.size (fun _ _ hh => hh.1)))
          clear r2 z2 hgO r26 hh7 t7 hm6 h6 hx6 hc6 ho6 q00 q01 q02 q03 q04 q05 q06 q20 q21 q22 q23 q24 q25 q26 HH HC
          go_wp2_with fail
          refine HH7.out.mono ?_
          rintro e w7 ⟨⟨v7, c7, rfl, hc7, O7, ho7, hm7, h7⟩, hx7⟩
          have hh8 := two_next h7 rfl
          have t8 : ((En.zero.hear ⟨127, true, 0, true, 2, 0, [1, 1]⟩).2.hear ⟨127, true, 2, true, 2, 0, [3, 3]⟩).2.next.1 = ⟨0, false, 127, true, 0, 0, []⟩ := rfl
          simp only [t8, List.length_nil] at hh8
          have HH8 := Lib.hid hh8
          have HM7 := Lib.hid (HM6.out.exc hx7 (fun k hk hh => hh.2 hk))
          have HB7 := Lib.hid (HB6.out.trans (hx7.below HB6.out.size (fun _ _ hh => hh.1)))
          have HO7 := Lib.hid ho7
          clear hh8 t8 hm7 h7 hx7 hc7 ho7 p0 p1 p2 p3 p4 p5 p6 HH7 HM6 HB6
          go_wp2_with fail
          refine HH8.out.mono ?_
          rintro e w8 ⟨s8, rfl, hr8, ⟨O8, ho8, hz8, h8⟩, hx8⟩
          have HM8 := Lib.hid ((HM7.out.weak HO7.out).exc hx8 (fun k hk hh => hh.2 hk))
          have HB8 := Lib.hid (HB7.out.trans (hx8.below HB7.out.size (fun _ _ hh => hh.1)))
          obtain ⟨w9, hw9⟩ : ∃ X, X = w8.alloc (.cells #[.int .u8 0, .bool false, .int .u8 127, .bool true, .int .u8 0, .int .u8 0, .slice s8 0 0] 41) := ⟨_, rfl⟩
          have ou9 : Own w9 w8.heap.size 41 [.int .u8 0, .bool false, .int .u8 127, .bool true, .int .u8 0, .int .u8 0, .slice s8 0 0] := by rw [hw9]; exact own_lit w8 _ _ _ rfl
          have hb89 : Below w8.heap.size w8 w9 := by rw [hw9]; exact below_alloc _ _
          have h9 := h8.own (Exc.of_below (S := O8) hb89)
          have hr9 := hr8.later hb89
          have HM9 := Lib.hid (HM8.out.later hb89)
          have HB9 := Lib.hid (HB8.out.trans (Below.mono hb89 HB8.out.size))
          have HW9 := Lib.hid hw9
          have HU9 := Lib.hid ou9
          have HT9 := Lib.hid h9
          have HR9 := Lib.hid hr9
          clear hw9 ou9 hb89 h9 hr9 h8 hr8 hx8 HM8 HB8 HM7 HB7 HH8
          simp only [unCells]
          go_wp2_with fail
          rw [← HW9.out]
          refine (show Calls Try.prog 21 #[.pointer (some ⟨b, 0, none⟩)] w9 (fun e w' => e = .returned (.int .u8 0) ∧ ∃ q, w' = w9.drewN q) from two_last HT9.out).mono ?_
          rintro e w10 ⟨rfl, q10, rfl⟩
          have hb10 := below_draw w9 q10
          have h10 := HT9.out.own (Exc.of_below (S := fun k => O8 k ∨ (w8.heap.size ≤ k ∧ k < w9.heap.size)) hb10)
          have hh11 := two_retrieve h10.swap (n := 0) (by decide) (by decide)
          have t11 : (sentE 3).rest 0 = [[2, 2], [3, 3]] := rfl
          simp only [t11] at hh11
          have HH11 := Lib.hid hh11
          have HT10 := Lib.hid h10
          have HM10 := Lib.hid (HM9.out.later hb10)
          have HR10 := Lib.hid (HR9.out.later hb10)
          have HU10 := Lib.hid (HU9.out.below hb10 HU9.out.lt)
          have HB10 := Lib.hid (HB9.out.trans (Below.mono hb10 HB9.out.size))
          obtain ⟨W10, hW10⟩ : ∃ X, X = w9.drewN q10 := ⟨_, rfl⟩
          rw [← hW10] at HH11 HT10 HM10 HR10 HU10 HB10 ⊢
          clear hW10 hb10 h10 hh11 t11 HT9 HM9 HR9 HU9 HB9 HW9
          go_wp2_with fail
          refine HH11.out.mono ?_
          rintro e w11 ⟨⟨v11, N11, rfl, hm11⟩, hb11⟩
          obtain rfl : 2 = N11 := by rw [← hm11.len]; rfl
          have h11 := HT10.out.own (Exc.of_below (S := fun k => (O8 k ∨ (w8.heap.size ≤ k ∧ k < w9.heap.size)) ∨ (w9.heap.size ≤ k ∧ k < W10.heap.size)) hb11)
          have HH12 := Lib.hid (two_bad J h11.swap (n := 5) (by decide) (by decide))
          have HT11 := Lib.hid h11
          have HN11 := Lib.hid hm11
          have HM11 := Lib.hid (HM10.out.later hb11)
          have HR11 := Lib.hid (HR10.out.later hb11)
          have HU11 := Lib.hid (HU10.out.below hb11 HU10.out.lt)
          have HB11 := Lib.hid (HB10.out.trans (Below.mono hb11 HB10.out.size))
          clear h11 hm11 hb11 HT10 HM10 HR10 HU10 HB10 HH11
          go_wp2_with fail
          refine HH12.out.mono ?_
          rintro e w12 ⟨⟨v12, rfl⟩, hb12⟩
          have HT12 := Lib.hid (HT11.out.own (Exc.of_below hb12))
          have HN12 := Lib.hid (HN11.out.later hb12)
          have HM12 := Lib.hid (HM11.out.later hb12)
          have HR12 := Lib.hid (HR11.out.later hb12)
          have HU12 := Lib.hid (HU11.out.below hb12 HU11.out.lt)
          have HB12 := Lib.hid (HB11.out.trans (Below.mono hb12 HB11.out.size))
          clear hb12 HT11 HN11 HM11 HR11 HU11 HB11 HH12
          go_wp2_with fail
          obtain ⟨W13, hW13⟩ : ∃ X, X = ((w12.alloc (.cells #[.int .u8 1, .int .u8 1] 5)).alloc (.cells #[.slice (some ⟨w12.heap.size, 0, none⟩) 2 2] 32)) := ⟨_, rfl⟩
          have o13a : Own W13 w12.heap.size 5 [.int .u8 1, .int .u8 1] := by rw [hW13]; exact (own_lit w12 _ _ _ rfl).below (below_alloc _ _) (by simp)
          have o13b : Own W13 (w12.heap.size + 1) 32 [.slice (some ⟨w12.heap.size, 0, none⟩) 2 2] := by
            have hh := own_lit (w12.alloc (.cells #[.int .u8 1, .int .u8 1] 5)) 32 #[.slice (some ⟨w12.heap.size, 0, none⟩) 2 2] _ rfl
            rw [World.size_alloc] at hh
            rw [hW13]; exact hh
          have hb13 : Below w12.heap.size w12 W13 := by rw [hW13]; exact ((Below.refl _ _).alloc (Nat.le_refl _) _).alloc (by simp) _
          rw [← hW13]
          have HL13 := Lib.hid (fun P1 (h1 : Mat W13 P1 true v6 1 1 [[1, 1]]) => lists_same P1 (fun _ => True) true v6 (some ⟨w12.heap.size + 1, 0, none⟩) 1 1 [[1, 1]] W13 h1 (mat_one (by omega) (by omega) o13a o13b trivial trivial))
          have HT13 := Lib.hid (HT12.out.own (Exc.of_below hb13))
          have HN13 := Lib.hid (HN12.out.later hb13)
          have HM13 := Lib.hid (HM12.out.later hb13)
          have HR13 := Lib.hid (HR12.out.later hb13)
          have HU13 := Lib.hid (HU12.out.below hb13 HU12.out.lt)
          have HB13 := Lib.hid (HB12.out.trans (Below.mono hb13 HB12.out.size))
          clear hb13 o13a o13b hW13 HT12 HN12 HM12 HR12 HU12 HB12
          refine (HL13.out _ HM13.out).mono ?_
          rintro e w14 ⟨rfl, q14, hq14⟩
          have hb14 : Below W13.heap.size W13 w14 := by rw [hq14]; exact below_draw W13 q14
          have HT14 := Lib.hid (HT13.out.own (Exc.of_below hb14))
          have HN14 := Lib.hid (HN13.out.later hb14)
          have HR14 := Lib.hid (HR13.out.later hb14)
          have hu14 := HU13.out.below hb14 HU13.out.lt
          have HU14 := Lib.hid hu14
          have HB14 := Lib.hid (HB13.out.trans (Below.mono hb14 HB13.out.size))
          obtain ⟨b0, b1, _, _, _, _, _⟩ := unit_cells hu14
          clear hb14 hq14 HT13 HN13 HM13 HR13 HU13 HB13 HL13 hu14
          go_wp2_with fail
          obtain ⟨W15, hW15⟩ : ∃ X, X = (((w14.alloc (.cells #[.int .u8 2, .int .u8 2] 5)).alloc (.cells #[.int .u8 3, .int .u8 3] 5)).alloc (.cells #[.slice (some ⟨w14.heap.size, 0, none⟩) 2 2, .slice (some ⟨w14.heap.size + 1, 0, none⟩) 2 2] 32)) := ⟨_, rfl⟩
          have ba1 := below_alloc w14 (.cells #[.int .u8 2, .int .u8 2] 5)
          have ba2 := below_alloc (w14.alloc (.cells #[.int .u8 2, .int .u8 2] 5)) (.cells #[.int .u8 3, .int .u8 3] 5)
          have ba3 := below_alloc ((w14.alloc (.cells #[.int .u8 2, .int .u8 2] 5)).alloc (.cells #[.int .u8 3, .int .u8 3] 5)) (.cells #[.slice (some ⟨w14.heap.size, 0, none⟩) 2 2, .slice (some ⟨w14.heap.size + 1, 0, none⟩) 2 2] 32)
          have oa := ((own_lit w14 5 #[.int .u8 2, .int .u8 2] [.int .u8 2, .int .u8 2] rfl).below ba2 (by simp only [World.size_alloc]; omega)).below ba3 (by simp only [World.size_alloc]; omega)
          have ob := own_lit (w14.alloc (.cells #[.int .u8 2, .int .u8 2] 5)) 5 #[.int .u8 3, .int .u8 3] [.int .u8 3, .int .u8 3] rfl
          have ob := ob.below ba3 (by simp only [World.size_alloc]; omega)
          have oc := own_lit ((w14.alloc (.cells #[.int .u8 2, .int .u8 2] 5)).alloc (.cells #[.int .u8 3, .int .u8 3] 5)) 32 #[.slice (some ⟨w14.heap.size, 0, none⟩) 2 2, .slice (some ⟨w14.heap.size + 1, 0, none⟩) 2 2] [.slice (some ⟨w14.heap.size, 0, none⟩) 2 2, .slice (some ⟨w14.heap.size + 1, 0, none⟩) 2 2] rfl
          have hb15 : Below w14.heap.size w14 W15 := by rw [hW15]; exact (((Below.refl _ _).alloc (Nat.le_refl _) _).alloc (by simp only [World.size_alloc]; omega) _).alloc (by simp only [World.size_alloc]; omega) _
          rw [← hW15] at oa ob oc
          simp only [World.size_alloc] at ob oc
          rw [← hW15]
          have HL15 := Lib.hid (fun P1 (h1 : Mat W15 P1 true v11 2 2 [[2, 2], [3, 3]]) => lists_same P1 (fun _ => True) true v11 (some ⟨w14.heap.size + 1 + 1, 0, none⟩) 2 2 [[2, 2], [3, 3]] W15 h1 (mat_two' (by omega) (by omega) (by omega) (by omega) oa ob oc trivial trivial trivial))
          have HT15 := Lib.hid (HT14.out.own (Exc.of_below hb15))
          have HN15 := Lib.hid (HN14.out.later hb15)
          have HR15 := Lib.hid (HR14.out.later hb15)
          have HU15 := Lib.hid (HU14.out.below hb15 HU14.out.lt)
          have HB15 := Lib.hid (HB14.out.trans (Below.mono hb15 HB14.out.size))
          clear hb15 oa ob oc hW15 ba1 ba2 ba3 HT14 HN14 HR14 HU14 HB14 b0 b1
          refine (HL15.out _ HN15.out).mono ?_
          rintro e w16 ⟨rfl, q16, hq16⟩
          have hb16 : Below W15.heap.size W15 w16 := by rw [hq16]; exact below_draw W15 q16
          have h16 := (HT15.out.own (Exc.of_below hb16)).less (O' := O8) (fun k hk => by repeat first | exact hk | left)
          have hr16 := HR15.out.later hb16
          have hu16 := HU15.out.below hb16 HU15.out.lt
          have HB16 := Lib.hid (HB15.out.trans (Below.mono hb16 HB15.out.size))
          obtain ⟨b0, b1, b2, b3, b4, b5, b6⟩ := unit_cells hu16
          have hh17 := two_hear h16.swap rfl (u := ⟨0, false, 127, true, 0, 0, []⟩) (by decide) (by decide) hr16 (fun z hz => (hz8 z hz).1) rfl
          have t17 : ((sentE 3).hear ⟨0, false, 127, true, 0, 0, []⟩).1 = none := rfl
          simp only [t17, Option.toList_none, List.length_nil, unCells] at hh17
          have HH17 := Lib.hid hh17
          clear hb16 hq16 HT15 HN15 HR15 HU15 HB15 HL15 h16 hr16 hu16 hh17 t17 hz8 ho8
          go_wp2_with fail
          refine HH17.out.mono ?_
          rintro e w17 ⟨⟨v17, c17, rfl, hc17, O17, ho17, hm17, h17⟩, hx17⟩
          obtain ⟨x17, hx17e⟩ : ∃ x, x = ((sentE 3).hear ⟨0, false, 127, true, 0, 0, []⟩).2 := ⟨_, rfl⟩
          have e1 : x17.failed = false ∧ x17.next.1 = ⟨127, true, 1, false, 2, 0, [2, 2]⟩ := by rw [hx17e]; exact ⟨rfl, rfl⟩
          have e2 : x17.next.2.failed = false ∧ x17.next.2.next.1 = ⟨127, true, 2, false, 2, 0, [3, 3]⟩ := by rw [hx17e]; exact ⟨rfl, rfl⟩
          have e3 : x17.next.2.next.2.failed = false ∧ x17.next.2.next.2.next.1 = ⟨127, true, 2, false, 0, 0, []⟩ := by rw [hx17e]; exact ⟨rfl, rfl⟩
          have hB17 := HB16.out.trans (hx17.below HB16.out.size (fun _ _ hh => hh.1))
          rw [← hx17e] at h17
          have E1 := Lib.hid e1
          have E2 := Lib.hid e2
          have E3 := Lib.hid e3
          clear e1 e2 e3 hx17e hx17 hm17 ho17 hc17 HB16 HH17 b0 b1 b2 b3 b4 b5 b6
          have hh18 := two_next h17 E1.out.1
          rw [E1.out.2] at hh18
          simp only [List.length_cons, List.length_nil, Nat.zero_add, Nat.reduceAdd, unCells] at hh18
          have HH18 := Lib.hid hh18
          have HBw18 := Lib.hid hB17
          clear hh18 hB17 h17
          go_wp2_with fail
          refine HH18.out.mono ?_
          rintro e w18 ⟨s18, rfl, hr18, ⟨O18, ho18, hz18, h18⟩, hx18⟩
          obtain ⟨w19, hw19⟩ : ∃ X, X = w18.alloc (.cells #[.int .u8 127, .bool true, .int .u8 1, .bool false, .int .u8 2, .int .u8 0, .slice s18 2 2] 41) := ⟨_, rfl⟩
          have ou19 : Own w19 w18.heap.size 41 [.int .u8 127, .bool true, .int .u8 1, .bool false, .int .u8 2, .int .u8 0, .slice s18 2 2] := by rw [hw19]; exact own_lit w18 _ _ _ rfl
          have hb19 : Below w18.heap.size w18 w19 := by rw [hw19]; exact below_alloc _ _
          have z19 := ou19.lt
          have h19 := h18.own (Exc.of_below (S := O18) hb19)
          have hr19 := hr18.later hb19
          have hB19 := (HBw18.out.trans (hx18.below HBw18.out.size (fun _ _ hh => hh.1))).trans (Below.mono hb19 (Nat.le_trans HBw18.out.size hx18.size))
          have HX18 := Lib.hid hx18
          have HW19 := Lib.hid hw19
          have hw19u : ∀ k, k = w18.heap.size → (O18 k ∨ (w18.heap.size ≤ k ∧ k < w19.heap.size)) := fun k hk => .inr ⟨by omega, by omega⟩
          have HO19 := Lib.hid ou19
          have HU19 := Lib.hid hw19u
          clear hw19 hb19 hr19 hr18 h18 hx18 ou19 hw19u ho18 hz18 HH18 HBw18
          go_wp2_with fail
          rw [← HW19.out]
          have hh20 := two_next h19 E2.out.1
          rw [E2.out.2] at hh20
          simp only [List.length_cons, List.length_nil, Nat.zero_add, Nat.reduceAdd, unCells] at hh20
          have HH20 := Lib.hid hh20
          have HBw20 := Lib.hid hB19
          clear hh20 hB19 h19
          go_wp2_with fail
          refine HH20.out.mono ?_
          rintro e w20 ⟨s20, rfl, hr20, ⟨O20, ho20, hz20, h20⟩, hx20⟩
          obtain ⟨w21, hw21⟩ : ∃ X, X = w20.alloc (.cells #[.int .u8 127, .bool true, .int .u8 2, .bool false, .int .u8 2, .int .u8 0, .slice s20 2 2] 41) := ⟨_, rfl⟩
          have ou21 : Own w21 w20.heap.size 41 [.int .u8 127, .bool true, .int .u8 2, .bool false, .int .u8 2, .int .u8 0, .slice s20 2 2] := by rw [hw21]; exact own_lit w20 _ _ _ rfl
          have hb21 : Below w20.heap.size w20 w21 := by rw [hw21]; exact below_alloc _ _
          have z21 := ou21.lt
          have h21 := h20.own (Exc.of_below (S := O20) hb21)
          have hr21 := hr20.later hb21
          have hB21 := (HBw20.out.trans (hx20.below HBw20.out.size (fun _ _ hh => hh.1))).trans (Below.mono hb21 (Nat.le_trans HBw20.out.size hx20.size))
          have HX20 := Lib.hid hx20
          have HW21 := Lib.hid hw21
          have ou21u := ((HO19.out.exc hx20 (fun hh => hh.2 (HU19.out _ rfl))).below hb21 (Nat.lt_of_lt_of_le z19 hx20.size))
          have hk21 : ∀ k, (k = w18.heap.size ∨ k = w20.heap.size ∨ O20 k) → (O20 k ∨ (w20.heap.size ≤ k ∧ k < w21.heap.size)) := fun k hk => by
            rcases hk with hk | hk | hk
            · exact .inl (ho20 k (HU19.out k hk))
            · exact .inr ⟨by omega, by omega⟩
            · exact .inl hk
          have HO21 := Lib.hid (And.intro ou21 ou21u)
          have HU21 := Lib.hid hk21
          have HR21 := Lib.hid hr21
          have HZ20 := Lib.hid (fun z hz => (hz20 z hz).1)
          have z20 := hx20.size
          clear hw21 hb21 hr21 hr20 h20 hx20 ou21 ou21u hk21 ho20 hz20 HH20 HBw20 HO19 HU19
          go_wp2_with fail
          rw [← HW21.out]
          have hh22 := two_next h21 E3.out.1
          rw [E3.out.2] at hh22
          simp only [List.length_nil, unCells] at hh22
          have HH22 := Lib.hid hh22
          have HBw22 := Lib.hid hB21
          clear hh22 hB21 h21
          go_wp2_with fail
          refine HH22.out.mono ?_
          rintro e w22 ⟨s22, rfl, hr22, ⟨O22, ho22, hz22, h22⟩, hx22⟩
          obtain ⟨w23, hw23⟩ : ∃ X, X = w22.alloc (.cells #[.int .u8 127, .bool true, .int .u8 2, .bool false, .int .u8 0, .int .u8 0, .slice s22 0 0] 41) := ⟨_, rfl⟩
          have ou23 : Own w23 w22.heap.size 41 [.int .u8 127, .bool true, .int .u8 2, .bool false, .int .u8 0, .int .u8 0, .slice s22 0 0] := by rw [hw23]; exact own_lit w22 _ _ _ rfl
          have hb23 : Below w22.heap.size w22 w23 := by rw [hw23]; exact below_alloc _ _
          have z23 := ou23.lt
          have h23 := h22.own (Exc.of_below (S := O22) hb23)
          have hr23 := hr22.later hb23
          have hB23 := (HBw22.out.trans (hx22.below HBw22.out.size (fun _ _ hh => hh.1))).trans (Below.mono hb23 (Nat.le_trans HBw22.out.size hx22.size))
          have HX22 := Lib.hid hx22
          have HW23 := Lib.hid hw23
          have z22 := hx22.size
          have oaa := HO21.out.2.exc hx22 (fun hh => hh.2 (HU21.out _ (.inl rfl)))
          have obb := HO21.out.1.exc hx22 (fun hh => hh.2 (HU21.out _ (.inr (.inl rfl))))
          have hrr := HR21.out.exc hx22 (fun z hz hh => hh.2 (HU21.out _ (.inr (.inr (HZ20.out z hz)))))
          have hrr := hrr.later hb23
          clear hw23 hb23 hr23 hr22 h22 hx22 ho22 hz22 HH22 HBw22 HO21 HU21 HR21 HZ20 h23
          have HU23 := Lib.hid ou23
          clear ou23
          obtain ⟨_, _, p2, p3, _, _, _⟩ := unit_cells oaa
          obtain ⟨_, _, r2, _, _, _, r6⟩ := unit_cells obb
          have b18 : w18.heap.size < w22.heap.size := by omega
          have b20 : w20.heap.size < w22.heap.size := by omega
          have HRr := Lib.hid hrr
          have HBz := Lib.hid hB23
          clear hrr hB23 oaa obb
          go_wp2_with fail
          rw [← HW23.out]
          have e231 : w23.heap.size = w22.heap.size + 1 := by rw [HW23.out]; simp
          obtain ⟨W24, hW24⟩ : ∃ X, X = w23.alloc (.cells #[.int .u8 3, .int .u8 3] 5) := ⟨_, rfl⟩
          have o24 : Own W24 w23.heap.size 5 [.int .u8 3, .int .u8 3] := by rw [hW24]; exact own_lit w23 _ _ _ rfl
          rw [e231] at o24
          have hb24 : Below w23.heap.size w23 W24 := by rw [hW24]; exact below_alloc _ _
          rw [← hW24]
          refine (bytes_yes s20 (some ⟨w22.heap.size + 1, 0, none⟩) 2 2 2 [3, 3] W24 (HRr.out.later hb24) (row_two o24 (by omega) (by omega))).mono ?_
          rintro e w25 ⟨rfl, q25, hq25⟩
          have hb25 : Below w23.heap.size w23 w25 := hb24.trans (by rw [hq25]; exact Below.mono (below_draw W24 q25) hb24.size)
          have HB25 := Lib.hid (HBz.out.trans (Below.mono hb25 HBz.out.size))
          obtain ⟨_, _, q2, _, q4, _, _⟩ := unit_cells (HU23.out.below hb25 HU23.out.lt)
          clear p2 p3 r2 r6 o24 hb24 hW24 hb25 hq25
          go_wp2
          go_ret
          exact ⟨rfl, HB25.out⟩
end Go.Proofs.Ytoegijmfcelgnaa
