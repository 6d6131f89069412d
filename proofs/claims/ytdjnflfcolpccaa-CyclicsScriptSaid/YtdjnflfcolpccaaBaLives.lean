/- Contracts: the chapter's examples (lives of the statements of cyclics). -/
import Derived.Test.YtdjnflfcolpccaaCyFores
import Derived.Test.YtdjnflfcolpccaaEaAccept
namespace Go.Proofs.Ytdjnflfcolpccaa
open Go.RowKit

/-- The end that has been given the loads 1 1, 2 2, .. -/
def given (lm lo : Nat) : Nat → En
  | 0 => En.zero lm lo
  | k + 1 => (given lm lo k).accept [((k + 1 : Nat) : Int), ((k + 1 : Nat) : Int)]
theorem given_que (lm lo k : Nat) : (given lm lo k).que.length = k := by
  induction k with
  | zero => rfl
  | succ k ih => show ((given lm lo k).que ++ [_]).length = k + 1; rw [List.length_append, ih]; rfl
theorem given_failed (lm lo k : Nat) : (given lm lo k).failed = false := by
  induction k with
  | zero => rfl
  | succ k ih => exact ih
def xA : En := runE (given 2 100 3) 5
def xB : En := (xA.hear ⟨0, false, 127, false, 0, 0, []⟩).2
theorem xA_f : runF (given 2 100 3) 5 = [0, 1, 0, 1, 0] ∧ (∀ k, k < 5 → (runE (given 2 100 3) k).next.1.kind = 2) := by decide +kernel
theorem yA_f : runF (given 9 4 3) 6 = [0, 1, 0, 1, 0, 1] ∧ (∀ k, k < 6 → (runE (given 9 4 3) k).next.1.kind = 2) := by decide +kernel
theorem xB_f : runF xB 5 = [1, 2, 1, 2, 1] ∧ (∀ k, k < 5 → (runE xB k).next.1.kind = 2) := by decide +kernel
theorem xB_h : (xA.hear ⟨0, false, 127, false, 0, 0, []⟩).1 = none ∧ xB.failed = false ∧ xA.failed = false := by decide +kernel
theorem row_two {w : World} {g t : Nat} {x y : Int} (h : Own w g t [.int .u8 x, .int .u8 y]) (hx : 0 ≤ x ∧ x ≤ 255) (hy : 0 ≤ y ∧ y ≤ 255) : Row .u8 w (some ⟨g, 0, none⟩) 2 2 [x, y] :=
  Own.row0 (l := [x, y]) h 2 2 rfl (Nat.le_refl _) (by unfold maxLen; decide) (fun z hz => by
    simp only [List.mem_cons, List.not_mem_nil, or_false] at hz
    rcases hz with rfl | rfl
    · exact wf_u8.2 hx
    · exact wf_u8.2 hy)
theorem two_fores {I : EndFace} {w : World} {B a b : Nat} {x y : En} (h : TwoAt I w B a b x y (fun _ => False)) (n : Nat) (hn : n ≤ 1000) (hf : x.failed = false) (hl : ∀ k, k < n → (runE x k).next.1.kind = 2) :
    Calls Try.prog 27 #[.pointer (some ⟨a, 0, none⟩), .int .i64 (n : Int)] w fun e w' => ∃ v, e = .returned v ∧ w'.ownsRow w.heap.size 5 1 v n (nums .u8 (runF x n)) ∧ TwoAt I w' B a b (runE x n) y (fun _ => False) ∧ Below B w w' := by
  obtain ⟨S, T, g1, g2, g3, g4, g5, g6, g7⟩ := h
  refine (fores_any I n hn g1 hf hl).mono ?_
  rintro e w' ⟨v, rfl, ho, S', ha, ht, _⟩
  obtain ⟨k1, k2⟩ := TwoAt.turn (O := fun _ => False) g1 g2 g3 g4 g5 g6 (fun _ hk => hk.elim) ha ht
  exact ⟨v, rfl, ho, k1.less (fun _ hk => hk.elim), k2.below g6 (fun _ _ hh => hh.1)⟩
theorem two_later {I : EndFace} {w w' : World} {B a b : Nat} {x y : En} (h : TwoAt I w B a b x y (fun _ => False)) (hb : Below w.heap.size w w') : TwoAt I w' B a b x y (fun _ => False) :=
  (h.own (Exc.of_below hb)).less (fun _ hk => hk.elim)
theorem two_size {I : EndFace} {w : World} {B a b : Nat} {x y : En} {O : Nat → Prop} (h : TwoAt I w B a b x y O) : B ≤ w.heap.size := by
  obtain ⟨_, _, _, _, _, _, _, h6, _⟩ := h; exact h6
theorem row_nums (w : World) (l : List Int) (hl : ∀ x ∈ l, 0 ≤ x ∧ x ≤ 255) (hn : l.length ≤ 100) : Row .u8 (w.alloc (.cells (nums .u8 l).toArray 5)) (some ⟨w.heap.size, 0, none⟩) l.length l.length l :=
  (own_lit w _ _ (nums .u8 l) rfl).row0 _ _ rfl (Nat.le_refl _) (by unfold maxLen; omega) (fun x hx => wf_u8.2 (hl x hx))
theorem equal_lit (w : World) (B : Nat) (v : Value) (l : List Int) (hl : ∀ x ∈ l, 0 ≤ x ∧ x ≤ 255) (hn : l.length ≤ 100) (h : w.ownsRow B 5 1 v l.length (nums .u8 l)) :
    Calls Try.prog 26 #[v, .slice (some ⟨w.heap.size, 0, none⟩) l.length l.length] (w.alloc (.cells (nums .u8 l).toArray 5)) fun e w' => e = .returned (.bool true) ∧ Below w.heap.size w w' := by
  refine (equal_yes _ B v l.length l _ _ (h.alloc _) (fun x hx => wf_u8.2 (hl x hx)) (row_nums w l hl hn)).mono ?_
  rintro e w' ⟨rfl, q, rfl⟩
  exact ⟨rfl, (below_alloc w _).trans (Below.mono (below_draw _ q) (below_alloc w _).size)⟩
set_option maxHeartbeats 4000000 in
set_option maxRecDepth 100000 in
theorem lives_any (I : EndFace) (w : World) :
    Calls Try.prog 5 #[] w fun e w' => e = .returned (.bool true) ∧ Below w.heap.size w w' := by
  have hn1 := I.new w 2 100 (by decide) (by decide) (by decide) (by decide)
  have hn2 := fun w => I.new w 9 4 (by decide) (by decide) (by decide) (by decide)
  have hn3 := fun w => enew_bad w 0 100 (.inl (by decide))
  have HN1 := Lib.hid hn1
  have HN2 := Lib.hid hn2
  have HN3 := Lib.hid hn3
  clear hn1 hn2 hn3
  go_enter Try.func5, Try.ntmps5
  go_wp2_with fail
  refine HN1.out.mono ?_
  rintro e w1 ⟨⟨a, S, rfl, ha, hs⟩, hb1⟩
  go_wp2_with fail
  refine (HN2.out w1).mono ?_
  rintro e w2 ⟨⟨b, T, rfl, hbt, ht⟩, hb2⟩
  have h2 : TwoAt I w2 w.heap.size a b (given 2 100 0) (given 9 4 0) (fun _ => False) := two_new ha hs hb1 hbt ht hb2
  have hB2 : Below w.heap.size w w2 := hb1.trans (Below.mono hb2 hb1.size)
  clear ha hs hb1 hbt ht hb2 HN1 HN2
  go_wp2_with fail
  refine (HN3.out w2).mono ?_
  rintro e w2' ⟨rfl, rfl⟩
  clear HN3
  go_wp2_with fail
  go_loopw [7] (fun i wr => ∃ k : Nat, k ≤ 3 ∧ i = .int .u8 ((k : Int) + 1) ∧ TwoAt I wr w.heap.size a b (given 2 100 k) (given 9 4 k) (fun _ => False) ∧ Below w.heap.size w wr) (fun i _ => 4 - (intOf i).toNat)
  case atStart => exact ⟨0, by omega, rfl, h2, hB2⟩
  case round =>
    obtain ⟨k, hk, rfl, h3, hb3⟩ := hrel
    clear h2 hB2
    by_cases hlt : k < 3
    · have hk1 : (k : Int) + 1 ≤ 3 := by omega
      have give : ∀ (lm lo : Nat) (W : World) (c d : Nat) (y : En), TwoAt I W w.heap.size c d (given lm lo k) y (fun _ => False) → Calls Try.prog 8 #[.pointer (some ⟨c, 0, none⟩), .slice (some ⟨W.heap.size, 0, none⟩) 2 2] (W.alloc (.cells #[.int .u8 ((k : Int) + 1), .int .u8 ((k : Int) + 1)] 5))
          fun e w' => e = .returned (.int .i64 0) ∧ TwoAt I w' w.heap.size c d (given lm lo (k + 1)) y (fun _ => False) ∧ Below w.heap.size W w' := by
        intro lm lo W c d y h
        have e : ((k + 1 : Nat) : Int) = (k : Int) + 1 := by omega
        have ho : Own (W.alloc (.cells #[.int .u8 ((k : Int) + 1), .int .u8 ((k : Int) + 1)] 5)) W.heap.size 5 [.int .u8 ((k + 1 : Nat) : Int), .int .u8 ((k + 1 : Nat) : Int)] := by rw [e]; exact own_lit W _ _ _ rfl
        have hr := row_two ho (by omega) (by omega)
        have hb := below_alloc W (.cells #[.int .u8 ((k : Int) + 1), .int .u8 ((k : Int) + 1)] 5)
        have h4 := h.own (Exc.of_below hb)
        have hl := ho.lt
        refine (two_accept h4 (given_failed lm lo k) (by rw [given_que]; omega) hr (Nat.le_refl _) (by decide) (fun z hz => by cases hz; exact .inr ⟨Nat.le_refl _, hl⟩)).mono ?_
        rintro e' w' ⟨rfl, h5, hx⟩
        have hsz := two_size h
        exact ⟨rfl, h5.less (fun _ hk => hk.elim), (Below.mono hb hsz).trans (hx.below (Nat.le_trans hsz hb.size) (fun _ _ hh => hh.1))⟩
      have HG1 := Lib.hid (give 2 100 wr a b _ h3)
      have HG := Lib.hid give
      have HB := Lib.hid hb3
      clear h3 hb3 give
      go_wp2_with fail
      refine HG1.out.mono ?_
      rintro e w5 ⟨rfl, h5, hb5⟩
      have HG2 := Lib.hid (HG.out 9 4 w5 b a _ h5.swap)
      have HB5 := Lib.hid (HB.out.trans hb5)
      clear h5 hb5 HG1 HG
      go_wp2_with fail
      refine HG2.out.mono ?_
      rintro e w6 ⟨rfl, h6, hb6⟩
      have HX := Lib.hid (And.intro h6.swap (HB5.out.trans hb6))
      clear h6 hb6 HG2
      go_wp2_with fail
      exact ⟨⟨k + 1, by omega, by go_num, HX.out.1, HX.out.2⟩, by simp [intOf]; omega⟩
    · obtain rfl : k = 3 := by omega
      have h4 := two_fores h3 5 (by decide) (given_failed _ _ _) xA_f.2
      rw [xA_f.1] at h4
      have H4 := Lib.hid h4
      have HB3 := Lib.hid hb3
      clear h3 hb3 h4
      go_wp2_with fail
      refine H4.out.mono ?_
      rintro e w4 ⟨v, rfl, ho4, h4, hb4⟩
      have hq : Calls Try.prog 26 #[v, .slice (some ⟨w4.heap.size, 0, none⟩) 5 5] (w4.alloc (.cells #[.int .u8 0, .int .u8 1, .int .u8 0, .int .u8 1, .int .u8 0] 5)) fun e w' => e = .returned (.bool true) ∧ Below w4.heap.size w4 w' := equal_lit w4 _ v [0, 1, 0, 1, 0] (by decide) (by decide) ho4
      have HQ := Lib.hid hq
      have H4 := Lib.hid h4
      have HB4 := Lib.hid (HB3.out.trans hb4)
      clear hq h4 hb4 ho4 HB3
      go_wp2_with fail
      refine HQ.out.mono ?_
      rintro e w5 ⟨rfl, hb5⟩
      have h5 := two_fores (two_later H4.out hb5).swap 6 (by decide) (given_failed _ _ _) yA_f.2
      rw [yA_f.1] at h5
      have H5 := Lib.hid h5
      have HB5 := Lib.hid (HB4.out.trans (Below.mono hb5 HB4.out.size))
      clear h5 hb5 HQ H4 HB4
      go_wp2_with fail
      refine H5.out.mono ?_
      rintro e w6 ⟨v6, rfl, ho6, h6, hb6⟩
      have hq : Calls Try.prog 26 #[v6, .slice (some ⟨w6.heap.size, 0, none⟩) 6 6] (w6.alloc (.cells #[.int .u8 0, .int .u8 1, .int .u8 0, .int .u8 1, .int .u8 0, .int .u8 1] 5)) fun e w' => e = .returned (.bool true) ∧ Below w6.heap.size w6 w' := equal_lit w6 _ v6 [0, 1, 0, 1, 0, 1] (by decide) (by decide) ho6
      have HQ := Lib.hid hq
      have H6 := Lib.hid h6
      have HB6 := Lib.hid (HB5.out.trans hb6)
      clear hq h6 hb6 ho6 HB5 H5
      go_wp2_with fail
      refine HQ.out.mono ?_
      rintro e w7 ⟨rfl, hb7⟩
      have h7 := two_later H6.out.swap hb7
      have hh := two_hear (u := ⟨0, false, 127, false, 0, 0, []⟩) (s := none) (n := 0) (c := 0) h7 xB_h.2.2 (by decide) (by rw [chk_ok]; decide) (Row.of_nil _ _) (fun z hz => by cases hz) xB_h.2.1
      have hh2 : Calls Try.prog 16 #[.pointer (some ⟨a, 0, none⟩), .agg #[.int .u8 0, .bool false, .int .u8 127, .bool false, .int .u8 0, .int .u8 0, .slice none 0 0]] w7 fun e w' => (∃ v, e = .returned (.tuple #[v, .int .i64 0])) ∧ TwoAt I w' w.heap.size a b xB (runE (given 9 4 3) 6) (fun _ => False) ∧ Below w.heap.size w7 w' := by
        refine Calls.mono hh ?_
        rintro e w' ⟨⟨v', c', rfl, _, O', _, _, h8⟩, hx⟩
        exact ⟨⟨_, rfl⟩, h8.less (fun _ hk => hk.elim), hx.below (two_size h7) (fun _ _ hk => hk.1)⟩
      have HH := Lib.hid hh2
      have HB7 := Lib.hid (HB6.out.trans (Below.mono hb7 HB6.out.size))
      clear hh hh2 h7 hb7 HQ H6 HB6
      go_wp2_with fail
      refine HH.out.mono ?_
      rintro e w8 ⟨⟨v8, rfl⟩, h8, hb8⟩
      have h9 := two_fores h8 5 (by decide) xB_h.2.1 xB_f.2
      rw [xB_f.1] at h9
      have H9 := Lib.hid h9
      have HB8 := Lib.hid (HB7.out.trans hb8)
      clear h8 hb8 h9 HH HB7
      go_wp2_with fail
      refine H9.out.mono ?_
      rintro e w9 ⟨v9, rfl, ho9, h9, hb9⟩
      have hq : Calls Try.prog 26 #[v9, .slice (some ⟨w9.heap.size, 0, none⟩) 5 5] (w9.alloc (.cells #[.int .u8 1, .int .u8 2, .int .u8 1, .int .u8 2, .int .u8 1] 5)) fun e w' => e = .returned (.bool true) ∧ Below w9.heap.size w9 w' := equal_lit w9 _ v9 [1, 2, 1, 2, 1] (by decide) (by decide) ho9
      have HQ := Lib.hid hq
      have HB9 := Lib.hid (HB8.out.trans hb9)
      clear hq h9 hb9 ho9 H9 HB8
      go_wp2_with fail
      refine HQ.out.mono ?_
      rintro e w10 ⟨rfl, hb10⟩
      have HB10 := Lib.hid (HB9.out.trans (Below.mono hb10 HB9.out.size))
      clear hb10 HQ HB9
      go_wp2
      go_ret
      exact ⟨rfl, HB10.out⟩
end Go.Proofs.Ytdjnflfcolpccaa
