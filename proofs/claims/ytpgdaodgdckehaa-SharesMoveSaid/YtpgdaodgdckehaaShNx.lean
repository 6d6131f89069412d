/- The statements' own next. -/
import Derived.Test.YtpgdaodgdckehaaShPl
namespace Go.Proofs.Ytpgdaodgdckehaa
open Go.RowKit

theorem make_bools (n : Nat) (hn : n ≤ 1000000) (w : World) :
    (Instr.makeSlice 30 (.int .i64 (n : Int)) (.int .i64 (n : Int))).run Try.prog w = .ok (.slice (some ⟨w.heap.size, 0, none⟩) n n) (w.alloc (.cells (madeCells #[.bool false] n) 4)) :=
  run_make_row' 30 4 (.bool false) 1 Try.underlying30 infoB rfl .i64 .i64 n (by omega) (by omega) w
theorem own_made_b (n t : Nat) (w : World) : Own (w.alloc (.cells (madeCells #[.bool false] n) t)) w.heap.size t (bools (List.replicate n false)) := by
  unfold Own
  rw [heap_alloc_new w _]
  congr 2
  apply Array.ext
  · simp [madeCells, bools]
  · intro i h1 h2
    simp [madeCells, bools, Nat.mod_one]
theorem setCell_bown {w : World} {b e : Nat} {l : List Bool} (h : Own w b e (bools l)) (j : Nat) (v : Bool) : Own (w.setCell ⟨b, j, none⟩ (.bool v)) b e (bools (l.set j v)) := by
  have := h.set j (.bool v)
  rw [bools_set] at this; exact this
/-- The first k of n bools, the others false. -/
def boK (f : Nat → Bool) (n k : Nat) : List Bool := (List.range k).map f ++ List.replicate (n - k) false
theorem boK_0 (f : Nat → Bool) (n : Nat) : boK f n 0 = List.replicate n false := by simp [boK]
theorem boK_length (f : Nat → Bool) {n k : Nat} (h : k ≤ n) : (boK f n k).length = n := by unfold boK; simp; omega
theorem boK_set (f : Nat → Bool) {n k : Nat} (h : k < n) : (boK f n k).set k (f k) = boK f n (k + 1) := by
  unfold boK
  rw [List.set_append_right _ _ (by simp), List.range_succ, List.map_append, List.append_assoc]
  congr 1
  obtain ⟨m, hm⟩ : ∃ m, n - k = m + 1 := ⟨n - k - 1, by omega⟩
  rw [hm, show n - (k + 1) = m by omega]
  simp [List.replicate_succ]
theorem boK_getD (f : Nat → Bool) {n i : Nat} (h : i < n) (d : Bool) : (boK f n n).getD i d = f i := by
  unfold boK
  simp [List.getD_eq_getElem?_getD, h]
def gP (R : List (Int × Int)) (r : Int) (i : Nat) : Bool := decide ((rks R).getD i 0 = r)
theorem firstK_no {R S : List Int} {b : Int} {k : Nat} (h : ¬ stM S k = b) : firstK R S b (k + 1) = firstK R S b k := by
  show (if _ then _ else _) = _
  rw [if_neg]; unfold useM; simp [h]
theorem firstK_yes {R S : List Int} {b : Int} {k : Nat} (h : stM S k = b) (h2 : firstK R S b k < 0 ∨ R.getD k 0 < R.getD (firstK R S b k).toNat 0) : firstK R S b (k + 1) = k := by
  show (if _ then _ else _) = _
  rw [if_pos ⟨by unfold useM; simp [h], h2⟩]
theorem firstK_keep {R S : List Int} {b : Int} {k : Nat} (h2 : ¬ (firstK R S b k < 0 ∨ R.getD k 0 < R.getD (firstK R S b k).toNat 0)) : firstK R S b (k + 1) = firstK R S b k := by
  show (if _ then _ else _) = _
  rw [if_neg (fun h => h2 h.2)]
set_option maxHeartbeats 2000000 in
set_option maxRecDepth 100000 in
theorem lnext_any (a : Option Addr) (n c : Nat) (R : List (Int × Int)) (a' : Option Addr) (n' c' : Nat) (S : List Int) (s : Nat) (w : World) (hn : n ≤ 1000000) (hR : CRow w a n c R) (hS : Row .u8 w a' n' c' S) :
    Calls Try.prog 10 #[.slice a n c, .slice a' n' c', .int .u8 (s : Int)] w fun e w' => e = .returned (.int .i64 (nextM (rks R) S (s % 16))) ∧ Below w.heap.size w w' := by
  have hs16 : (s : Int).tmod 16 = ((s % 16 : Nat) : Int) := by rw [Int.tmod_eq_emod_of_nonneg (Int.natCast_nonneg _)]; rfl
  have hq1 : s % 16 ≤ 15 := by omega
  obtain ⟨q, hq⟩ : ∃ q, q = s % 16 := ⟨_, rfl⟩
  rw [← hq] at hs16 hq1 ⊢
  have hl : R.length = n := hR.len
  have hnone : bestK S n = 2 → nextM (rks R) S q = -1 := fun h => by unfold nextM; rw [if_pos (by rw [rks_length, hl]; exact h)]
  have hsome : bestK S n ≠ 2 → nextM (rks R) S q = placeM (groupR (rks R) ((rks R).getD (firstK (rks R) S (bestK S n) n).toNat 0) n) (useM S (bestK S n)) q := fun h => by
    unfold nextM; rw [if_neg (by rw [rks_length, hl]; exact h), rks_length, hl]
  have hst : ∀ (i : Nat) W, Below w.heap.size w W → Calls Try.prog 22 #[.slice a' n' c', .int .i64 (i : Int)] W fun e w' => e = .returned (.int .u8 (stM S i)) ∧ W = w' := fun i W h => lstatus_any a' n' c' S i W (hS.later h)
  have HR := Lib.hid hR
  have HSt := Lib.hid hst
  have HNo := Lib.hid hnone
  have HSo := Lib.hid hsome
  clear hR hS hst hnone hsome hq hl
  go_enter Try.func10, Try.ntmps10
  go_wp2_with fail
  go_loopw [7, 8] (fun b i wr => ∃ k : Nat, k ≤ n ∧ i = .int .i64 k ∧ b = .int .u8 (bestK S k) ∧ w = wr) (fun _ i _ => n - (intOf i).toNat)
  case atStart => exact ⟨0, Nat.zero_le _, rfl, rfl, rfl⟩
  case round =>
    obtain ⟨k, hk, rfl, rfl, rfl⟩ := hrel
    by_cases hkn : k < n
    · have hcon := HSt.out k w (Below.refl _ _)
      have hstep : bestK S (k + 1) = min (bestK S k) (stM S k) := rfl
      generalize bestK S k = x at *
      generalize stM S k = y at *
      have HC := Lib.hid hcon
      have HP := Lib.hid hstep
      clear hcon hstep
      go_wp2_with fail
      with_reducible refine HC.out.mono ?_
      rintro e w' ⟨rfl, rfl⟩
      go_wp2
      all_goals refine ⟨⟨k + 1, by omega, by go_num, ?_, ?_⟩, by simp [intOf]; omega⟩
      all_goals first | trivial | rfl | (rw [HP.out]; simp only [Value.int.injEq, true_and]; omega)
    · obtain rfl : k = n := by omega
      obtain ⟨b, hb⟩ : ∃ b, b = bestK S k := ⟨_, rfl⟩
      rw [← hb] at HNo HSo ⊢
      have HBe := Lib.hid hb
      clear hb
      by_cases h2 : b = 2
      · have hM := HNo.out h2
        have HM := Lib.hid hM
        clear hM HNo HSo
        subst h2
        go_wp2
        go_ret
        exact ⟨ret_int HM.out.symm, Below.refl _ _⟩
      · have hM := HSo.out h2
        have HM := Lib.hid hM
        clear hM HNo HSo
        have h2b : (b == 2) = false := by simpa using h2
        have hmk := make_bools k hn w
        have hex : ∃ i, i < k ∧ stM S i = b := by
          rcases bestK_att S k with h | h
          · exact absurd (HBe.out.trans h) h2
          · obtain ⟨i, hi, h⟩ := h; exact ⟨i, hi, h.trans HBe.out.symm⟩
        have HEx := Lib.hid hex
        clear hex h2
        go_wp2_with fail
        clear hmk
        go_loopw [10, 11] (fun f i wr => ∃ j : Nat, j ≤ k ∧ i = .int .i64 j ∧ f = .int .i64 (firstK (rks R) S b j) ∧ Own wr w.heap.size 4 (bools (boK (useM S b) k j)) ∧ Below w.heap.size w wr) (fun _ i _ => k - (intOf i).toNat)
        case atStart => exact ⟨0, Nat.zero_le _, rfl, rfl, by rw [boK_0]; exact own_made_b k 4 w, below_alloc _ _⟩
        case round =>
          obtain ⟨j, hj, rfl, rfl, hown, hbl⟩ := hrel
          by_cases hjn : j < k
          · have hcon := HSt.out j wr hbl
            have hset := boK_set (useM S b) hjn
            have hlt := hown.lt
            have hf := firstK_ok (rks R) S b j
            have hno := fun h => firstK_no (R := rks R) (S := S) (b := b) (k := j) h
            have hyes := fun h h2 => firstK_yes (R := rks R) (S := S) (b := b) (k := j) h h2
            have hkeep := fun h2 => firstK_keep (R := rks R) (S := S) (b := b) (k := j) h2
            have hcellu := hown.cell j (by rw [bools_length, boK_length _ hj]; exact hjn)
            have hfru := hown.frozen j
            have huse : useM S b j = (stM S j == b) := by unfold useM; rfl
            have hbu := fun u : Bool => hbl.setCell (p := ⟨w.heap.size, j, none⟩) (Nat.le_refl _) (.bool u)
            have hownu := fun u : Bool => setCell_bown hown j u
            have HSet := Lib.hid hset
            have HOw := Lib.hid hownu
            have HBl := Lib.hid hbu
            have HC := Lib.hid hcon
            have HF := Lib.hid hf
            have HN := Lib.hid hno
            have HY := Lib.hid hyes
            have HK := Lib.hid hkeep
            have HU := Lib.hid huse
            clear hset hownu hbu hcon hf hno hyes hkeep hown hbl huse
            by_cases hy : stM S j = b
            · have hsb : (stM S j == b) = true := by simpa using hy
              have hown2 := HOw.out true
              rw [show (boK (useM S b) k j).set j true = boK (useM S b) k (j + 1) by rw [← HSet.out, HU.out, hsb]] at hown2
              have hb2 := HBl.out true
              obtain ⟨rb, ro, rfl, hc⟩ := (HR.out.later hb2).cells.resolve_left (by omega)
              have c1 := (hc j hjn).2
              rw [← rks_getD] at c1
              have cu := hown2.cell j (by rw [bools_length, boK_length _ (by omega)]; exact hjn)
              rw [bools_getD _ _ (by rw [boK_length _ (by omega)]; exact hjn), show (boK (useM S b) k (j + 1)).getD j true = true by rw [← HSet.out]; simp [List.getD_eq_getElem?_getD, boK_length _ hj, hjn, HU.out, hsb]] at cu
              have HOw2 := Lib.hid hown2
              have HB2 := Lib.hid hb2
              have HY2 := Lib.hid (HY.out hy)
              clear HOw HBl HN HY HSet HU hown2 hb2
              rcases HF.out with ⟨hf, _⟩ | ⟨f, hf, hfj, _, _⟩
              · have hnew := HY2.out (.inl (by rw [hf]; decide))
                rw [hf]
                have HNew := Lib.hid hnew
                clear hnew HY2 HK HF hc hf
                go_wp2_with fail
                with_reducible refine HC.out.mono ?_
                rintro e w' ⟨rfl, rfl⟩
                go_wp2
                go_quiet (fail)
                go_wp2
                refine ⟨⟨j + 1, by omega, by go_num, by rw [HNew.out], HOw2.out.below (below_draw _ _) HOw2.out.lt, HB2.out.trans ((below_draw _ _).mono HB2.out.size)⟩, by simp [intOf]; omega⟩
              · have c2 := (hc f (by omega)).2
                rw [← rks_getD] at c2
                rw [hf] at HY2 HK ⊢
                simp only [Int.toNat_natCast] at HY2 HK
                generalize (rks R).getD j 0 = x1 at *
                generalize (rks R).getD f 0 = x2 at *
                have hf0 : ¬ (f : Int) < 0 := by omega
                have hfk : (f : Int) < (k : Int) := by omega
                clear hc HF hf
                by_cases hx : x1 < x2
                · have HNew := Lib.hid (HY2.out (.inr hx))
                  clear HY2 HK
                  go_wp2_with fail
                  with_reducible refine HC.out.mono ?_
                  rintro e w' ⟨rfl, rfl⟩
                  go_wp2
                  go_quiet (fail)
                  go_wp2
                  refine ⟨⟨j + 1, by omega, by go_num, by rw [HNew.out], HOw2.out.below (below_draw _ _) HOw2.out.lt, HB2.out.trans ((below_draw _ _).mono HB2.out.size)⟩, by simp [intOf]; omega⟩
                · have HNew := Lib.hid (HK.out (fun h => h.elim hf0 hx))
                  clear HY2 HK
                  go_wp2_with fail
                  with_reducible refine HC.out.mono ?_
                  rintro e w' ⟨rfl, rfl⟩
                  go_wp2
                  go_quiet (fail)
                  go_wp2
                  refine ⟨⟨j + 1, by omega, by go_num, by rw [HNew.out], HOw2.out.below (below_draw _ _) HOw2.out.lt, HB2.out.trans ((below_draw _ _).mono HB2.out.size)⟩, by simp [intOf]; omega⟩
            · have hsb : (stM S j == b) = false := by simpa using hy
              have hown2 := HOw.out false
              rw [show (boK (useM S b) k j).set j false = boK (useM S b) k (j + 1) by rw [← HSet.out, HU.out, hsb]] at hown2
              have hb2 := HBl.out false
              have cu := hown2.cell j (by rw [bools_length, boK_length _ (by omega)]; exact hjn)
              rw [bools_getD _ _ (by rw [boK_length _ (by omega)]; exact hjn), show (boK (useM S b) k (j + 1)).getD j true = false by rw [← HSet.out]; simp [List.getD_eq_getElem?_getD, boK_length _ hj, hjn, HU.out, hsb]] at cu
              have HOw2 := Lib.hid hown2
              have HB2 := Lib.hid hb2
              have HNew := Lib.hid (HN.out hy)
              clear HOw HBl HN HY HSet HU hown2 hb2 HK HF hy
              go_wp2_with fail
              with_reducible refine HC.out.mono ?_
              rintro e w' ⟨rfl, rfl⟩
              go_wp2
              go_quiet (fail)
              go_wp2
              refine ⟨⟨j + 1, by omega, by go_num, by rw [HNew.out], HOw2.out.below (below_draw _ _) HOw2.out.lt, HB2.out.trans ((below_draw _ _).mono HB2.out.size)⟩, by simp [intOf]; omega⟩
          · obtain rfl : j = k := by omega
            obtain ⟨f, hf, hfj, _, _⟩ := (firstK_ok (rks R) S b j).resolve_left (fun h => by
              obtain ⟨i, hi, hy⟩ := HEx.out
              have := h.2 i hi
              unfold useM at this
              simp [hy] at this)
            rw [hf] at HM ⊢
            simp only [Int.toNat_natCast] at HM
            have hM2 : nextM (rks R) S q = placeM (fl (gP R ((rks R).getD f 0)) j) (useM S b) q := HM.out
            obtain ⟨r, hr⟩ : ∃ r, r = (rks R).getD f 0 := ⟨_, rfl⟩
            rw [← hr] at hM2
            have HM2 := Lib.hid hM2
            have HRk := Lib.hid hr
            have HOw := Lib.hid hown
            have HBl := Lib.hid hbl
            obtain ⟨w5, hw5⟩ : ∃ x, x = wr := ⟨_, rfl⟩
            rw [← hw5] at HOw HBl ⊢
            clear hM2 hr hown hbl HM hf HEx hw5
            go_wp2_with fail
            go_loopw [12, 13] (fun v i wr => ∃ m : Nat, m ≤ j ∧ i = .int .i64 m ∧ wr.ownsRow w5.heap.size 3 1 v (fl (gP R r) m).length (nums .i64 (iN (fl (gP R r) m))) ∧ Below w5.heap.size w5 wr) (fun _ i _ => j - (intOf i).toNat)
            case atStart => exact ⟨0, Nat.zero_le _, rfl, ⟨rfl, .inl ⟨rfl, rfl⟩⟩, Below.refl _ _⟩
            case round =>
              obtain ⟨m, hm, rfl, hown3, hb3⟩ := hrel
              have hsz := HOw.out.lt
              have hsz3 := hb3.size
              by_cases hmj : m < j
              · obtain ⟨rb, ro, rfl, hc⟩ := (HR.out.later (HBl.out.trans (hb3.mono HBl.out.size))).cells.resolve_left (by omega)
                have c1 := (hc m hmj).2
                have c2 := (hc f hfj).2
                rw [← rks_getD] at c1
                rw [← rks_getD, ← HRk.out] at c2
                have hfl := fl_le (gP R r) m
                have hfk : (f : Int) < (j : Int) := by omega
                have hin : ∀ h, gP R r m = h → gP R r m = h := fun _ h => h
                have hgp : gP R r m = ((rks R).getD m 0 == r) := rfl
                have HO3 := Lib.hid hown3
                have HB3 := Lib.hid hb3
                have HG := Lib.hid hgp
                clear hc hown3 hb3 hin hgp
                generalize (rks R).getD m 0 = x1 at *
                by_cases hx : x1 = r
                · have hxb : (x1 == r) = true := by simpa using hx
                  have HG1 := Lib.hid (HG.out.trans hxb)
                  clear HG hx
                  go_wp2_with fail
                  go_quiet (fail)
                  have ho4 := ownsRow_below HO3.out (below_draw wr nq)
                  have hb4 := HB3.out.trans ((below_draw wr nq).mono HB3.out.size)
                  have hsz5 : w5.heap.size ≤ (wr.drewN nq).heap.size := hb4.size
                  have HO4 := Lib.hid ho4
                  have HB4 := Lib.hid hb4
                  clear ho4 hb4 c1 c2
                  generalize wr.drewN nq = w6 at *
                  go_wp2_with (at_builtin; refine wpList_append_one Try.underlying31 info64 (by decide) rfl (.tmp 83) (.tmp 85) rfl w5.heap.size _ (fl (gP R r) m).length (iN (fl (gP R r) m)) (m : Int) rfl (by exact HO4.out) rfl (by omega) hsz5 ?_)
                  intro v2 w2 h2 h3 _ _ _
                  have hb6 := HB4.out.trans (h3.below (B := w5.heap.size) hsz5 (fun j hj => (World.ownsRow.lt HO4.out j hj).1))
                  have h2' : w2.ownsRow w5.heap.size 3 1 v2 (fl (gP R r) (m + 1)).length (nums .i64 (iN (fl (gP R r) (m + 1)))) := by
                    rw [fl_in HG1.out, iN_append, List.length_append]
                    exact h2
                  have H2 := Lib.hid h2'
                  have HB6 := Lib.hid hb6
                  clear h2 h2' h3 hb6
                  go_wp2
                  refine ⟨⟨m + 1, by omega, by go_num, H2.out, HB6.out⟩, by simp [intOf]; omega⟩
                · have hxb : (x1 == r) = false := by simpa using hx
                  have HG1 := Lib.hid (HG.out.trans hxb)
                  clear HG hx
                  go_wp2_with fail
                  go_quiet (fail)
                  go_wp2
                  have h4 := ownsRow_below HO3.out (below_draw wr nq)
                  refine ⟨⟨m + 1, by omega, by go_num, by rw [fl_out HG1.out]; exact h4, HB3.out.trans ((below_draw _ _).mono HB3.out.size)⟩, by simp [intOf]; omega⟩
              · obtain rfl : m = j := by omega
                obtain ⟨w7, hw7⟩ : ∃ x, x = wr := ⟨_, rfl⟩
                rw [← hw7] at hown3 hb3 ⊢
                have hfl := fl_le (gP R r) m
                obtain ⟨u, d, rfl, hr3, _⟩ := ownsRow_rowN .i64 hown3 (fl_wf hn)
                have hbb := HBl.out.trans (hb3.mono HBl.out.size)
                have hU : BRow w7 (some ⟨w.heap.size, 0, none⟩) m m (boK (useM S b) m m) := by
                  have h1 := HOw.out.below hb3 HOw.out.lt
                  have h2 : Own w7 w.heap.size 4 (bools (boK (useM S b) m m) ++ []) := by rw [List.append_nil]; exact h1
                  exact h2.brow m m (boK_length _ (Nat.le_refl _)).symm (Nat.le_refl _) (by unfold maxLen; omega)
                have hcon := lplace_any u _ d (fl (gP R r) m) (some ⟨w.heap.size, 0, none⟩) m m _ q w7 hr3 hU (fun x hx => by
                  have := (List.mem_filter.1 hx).1
                  exact List.mem_range.1 this) hn (by omega) (by omega)
                rw [placeM_congr (us' := useM S b) (fun x hx => by
                  have h3 := List.mem_range.1 (List.mem_filter.1 hx).1
                  unfold usB
                  exact boK_getD _ h3 true), ← HM2.out] at hcon
                have HC := Lib.hid hcon
                have HBB := Lib.hid hbb
                clear hcon hbb hU hr3 hown3 hb3 hw7
                go_wp2_with fail
                with_reducible refine HC.out.mono ?_
                rintro e w' ⟨rfl, hb9⟩
                have HB9 := Lib.hid (HBB.out.trans (hb9.mono HBB.out.size))
                clear hb9
                go_wp2
                go_ret
                exact ⟨rfl, HB9.out⟩
end Go.Proofs.Ytpgdaodgdckehaa
