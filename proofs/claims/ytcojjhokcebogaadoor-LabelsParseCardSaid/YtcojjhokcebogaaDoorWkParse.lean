/- The statement LabelsParse: the walk. -/
import Derived.Test.YtcojjhokcebogaaDoorLsLives
import Derived.Test.YtcojjhokcebogaaDoorLsPart
import Derived.Test.YtcojjhokcebogaaDoorLsSplit
import Derived.Test.YtcojjhokcebogaaDoorLsPoint
import Derived.Deep.RegionHeld3
namespace Go.Proofs.YtcojjhokcebogaaDoor
open Go.RowKit

theorem str_cells {W : World} {g t : Nat} {a b c : Value} (h : Own W g t [a, b, c]) : W.cell? ⟨g, 0, none⟩ = some a ∧ W.cell? ⟨g, 1, none⟩ = some b ∧ W.cell? ⟨g, 2, none⟩ = some c := by
  have c0 := h.cell 0 (by simp)
  have c1 := h.cell 1 (by simp)
  have c2 := h.cell 2 (by simp)
  simp at c0 c1 c2
  exact ⟨c0, c1, c2⟩
theorem parse_long (s : ByteArray) (w : World) (hp : PowOk w) (hs : 100 < s.size) (hb : s.size ≤ 9223372036854775807) :
    Calls Tryd.prog 4 #[.string s] w fun e w' => e = .returned (.bool true) ∧ Below w.heap.size w w' := by
  have hd0 : decide ((100 : Int) < (s.size : Int)) = true := by simp; omega
  have HL := Lib.hid (lives_any w hp)
  clear hp hs
  go_enter Tryd.func4, Tryd.ntmps4
  go_wp2_with fail
  refine (HL.out).mono ?_
  rintro e w1 ⟨rfl, hb1⟩
  have B1 := Lib.hid hb1
  clear hb1
  go_wp2
  go_ret
  exact ⟨rfl, B1.out⟩
set_option maxHeartbeats 1000000 in
theorem parse_pieces (s : ByteArray) (l : List UInt8) (n : Nat) (w : World) (hp : PowOk w) (hsl : s = bs l) (hn : l.length ≤ 100) (hc : l.count 45 = n) (h2 : n ≠ 2) :
    Calls Tryd.prog 4 #[.string s] w fun e w' => e = .returned (.bool true) ∧ Below w.heap.size w w' := by
  have hsz : s.size = l.length := by rw [hsl, bs_len]
  have hd0 : decide ((100 : Int) < (s.size : Int)) = false := by simp; omega
  have hf : fine l = false := by
    cases h : fine l with
    | false => rfl
    | true => exact absurd (fine_count h) (by omega)
  have he := parse_not hf
  have hpp : parseP l = 0 := by rw [parseP, he]; rfl
  have k1 := fun W => parse_any l W (by omega)
  have k2 := fun W => split_any l W (by omega)
  rw [he, hpp, ← hsl] at k1
  rw [hc, ← hsl] at k2
  have H1 := Lib.hid k1
  have H2 := Lib.hid k2
  have HL := Lib.hid (fun W hW => lives_any W hW)
  have HP := Lib.hid hp
  have hn3 : ((n : Int) + 1 != 3) = true := by simp; omega
  have hnb : (n : Int) + 1 ≤ 9223372036854775807 := by have := List.count_le_length (a := (45 : UInt8)) (l := l); omega
  clear hsl hc hf he hpp k1 k2 hp hsz hn
  go_enter Tryd.func4, Tryd.ntmps4
  go_wp2_with fail
  refine (H1.out _).mono ?_
  rintro e w1 ⟨rfl, hb1⟩
  have B1 := Lib.hid hb1
  clear hb1
  go_wp2_with fail
  refine (H2.out _).mono ?_
  rintro e w2 ⟨rfl, hw2⟩
  have B2 := Lib.hid (show Below w.heap.size w w2 by rw [hw2]; exact B1.out.trans ((below_alloc w1 _).mono B1.out.size))
  clear hw2
  go_wp2_with fail
  refine (HL.out _ (HP.out.later B2.out)).mono ?_
  rintro e w9 ⟨rfl, hb⟩
  have B9 := Lib.hid (B2.out.trans (hb.mono B2.out.size))
  clear hb
  go_wp2
  go_ret
  exact ⟨rfl, B9.out⟩
set_option maxHeartbeats 8000000 in
set_option maxRecDepth 100000 in
theorem parse_three (s : ByteArray) (l : List UInt8) (w : World) (hp : PowOk w) (hsl : s = bs l) (hn : l.length ≤ 100) (hc : l.count 45 = 2) :
    Calls Tryd.prog 4 #[.string s] w fun e w' => e = .returned (.bool true) ∧ Below w.heap.size w w' := by
  have hsz : s.size = l.length := by rw [hsl, bs_len]
  have hd0 : decide ((100 : Int) < (s.size : Int)) = false := by simp; omega
  obtain ⟨ha, hb⟩ := hd_le l
  obtain ⟨hc', hd'⟩ := hd_le (tl l)
  have k1 := fun W => parse_any l W (by omega)
  have k2 := fun W => split_any l W (by omega)
  rw [hc, split_three hc, ← hsl] at k2
  rw [← hsl] at k1
  have q1 := fun W => lpart_any (hd l) W (by omega)
  have q2 := fun W => lpart_any (hd (tl l)) W (by omega)
  have q3 := fun W => lpart_any (tl (tl l)) W (by omega)
  have hv : ∀ m : List UInt8, goodB m = true → 0 ≤ (numV m : Int) ∧ (numV m : Int) ≤ 999 := fun m hm => by have := numV_le hm; omega
  have v1 := hv (hd l)
  have v2 := hv (hd (tl l))
  have v3 := hv (tl (tl l))
  have hE : parseE l = if goodB (hd l) && goodB (hd (tl l)) && goodB (tl (tl l)) then (if 7 < (numV (hd l) : Int) ∨ 255 < (numV (hd (tl l)) : Int) ∨ 7 < (numV (tl (tl l)) : Int) then 1 else 0) else 4 := by
    unfold parseE fine
    split
    · split <;> split <;> omega
    · rfl
  have hP : parseP l = if parseE l = 0 then 2048 * (numV (hd l) : Int) + 8 * (numV (hd (tl l)) : Int) + (numV (tl (tl l)) : Int) else 0 := by
    unfold parseP parseN
    split
    · push_cast; rfl
    · rfl
  have hT : ∀ W, PowOk W → parseE l = 0 → Calls Tryd.prog 11 #[.int .u16 (parseP l)] W fun e w' => e = .returned (.string s) ∧ Below W.heap.size W w' := by
    intro W hW h0
    obtain ⟨t1, t2, _⟩ := text_parse h0
    have := text_any (parseN l) W t1 hW
    rw [t2, ← hsl] at this
    rw [show parseP l = (parseN l : Int) by rw [parseP, if_pos h0]]
    exact this
  generalize goodB (hd l) = G1 at *
  generalize goodB (hd (tl l)) = G2 at *
  generalize goodB (tl (tl l)) = G3 at *
  generalize (numV (hd l) : Int) = V1 at *
  generalize (numV (hd (tl l)) : Int) = V2 at *
  generalize (numV (tl (tl l)) : Int) = V3 at *
  generalize bs (hd l) = S1 at *
  generalize bs (hd (tl l)) = S2 at *
  generalize bs (tl (tl l)) = S3 at *
  generalize parseE l = E at *
  generalize parseP l = P at *
  have H1 := Lib.hid k1
  have H2 := Lib.hid k2
  have HT := Lib.hid hT
  have HL := Lib.hid (fun W hW => lives_any W hW)
  have HP := Lib.hid hp
  have HE := Lib.hid hE
  have HPP := Lib.hid hP
  have HV := Lib.hid (And.intro v1 (And.intro v2 v3))
  clear hsl hc hc' hd' ha hb k1 k2 hp hsz hn hv v1 v2 v3 hE hP hT
  go_enter Tryd.func4, Tryd.ntmps4
  go_wp2_with fail
  refine (H1.out _).mono ?_
  rintro e w1 ⟨rfl, hb1⟩
  have B1 := Lib.hid hb1
  clear hb1
  go_wp2_with fail
  refine (H2.out _).mono ?_
  rintro e w2 ⟨rfl, hw2⟩
  have hb2 : Below w1.heap.size w1 w2 := by rw [hw2]; exact below_alloc w1 _
  have o2 : Own w2 w1.heap.size 9 [.string S1, .string S2, .string S3] := by rw [hw2]; exact own_lit w1 9 _ _ rfl
  have B2 := Lib.hid (B1.out.trans (hb2.mono B1.out.size))
  obtain ⟨g, hg⟩ : ∃ g, g = w1.heap.size := ⟨_, rfl⟩
  rw [← hg] at o2 ⊢
  have hgl := o2.lt
  obtain ⟨c0, c1, c2⟩ := str_cells o2
  have O2 := Lib.hid o2
  clear hw2 hb2 o2 hg
  cases G1 with
  | false =>
    have HF : Hid (E = 4 ∧ P = 0) := Lib.hid (by
      have e : E = 4 := by rw [HE.out]; rfl
      exact ⟨e, by rw [HPP.out, e]; rfl⟩)
    obtain ⟨rfl, rfl⟩ := HF.out
    have Q1 := Lib.hid (show ∀ W, Calls Tryd.prog 16 #[.string S1] W fun e w' => e = .returned (.int .i64 (-1)) ∧ W = w' from q1)
    clear q1 q2 q3 HF
    go_wp2_with fail
    refine (Q1.out _).mono ?_
    rintro e w' ⟨rfl, rfl⟩
    go_wp2_with fail
    refine (HL.out _ (HP.out.later B2.out)).mono ?_
    rintro e w9 ⟨rfl, hb⟩
    have B9 := Lib.hid (B2.out.trans (hb.mono B2.out.size))
    clear hb
    go_wp2
    go_ret
    exact ⟨rfl, B9.out⟩
  | true =>
    obtain ⟨l1, u1⟩ := HV.out.1 rfl
    have Q1 := Lib.hid (show ∀ W, Calls Tryd.prog 16 #[.string S1] W fun e w' => e = .returned (.int .i64 V1) ∧ W = w' from q1)
    cases G2 with
    | false =>
      have HF : Hid (E = 4 ∧ P = 0) := Lib.hid (by
        have e : E = 4 := by rw [HE.out]; rfl
        exact ⟨e, by rw [HPP.out, e]; rfl⟩)
      obtain ⟨rfl, rfl⟩ := HF.out
      have Q2 := Lib.hid (show ∀ W, Calls Tryd.prog 16 #[.string S2] W fun e w' => e = .returned (.int .i64 (-1)) ∧ W = w' from q2)
      clear q1 q2 q3 HF
      have n1 : ¬ V1 < 0 := by omega
      go_wp2_with fail
      refine (Q1.out _).mono ?_
      rintro e w' ⟨rfl, rfl⟩
      go_wp2_with fail
      refine (Q2.out _).mono ?_
      rintro e w' ⟨rfl, rfl⟩
      go_wp2_with fail
      refine (HL.out _ (HP.out.later B2.out)).mono ?_
      rintro e w9 ⟨rfl, hb⟩
      have B9 := Lib.hid (B2.out.trans (hb.mono B2.out.size))
      clear hb
      go_wp2
      go_ret
      exact ⟨rfl, B9.out⟩
    | true =>
      obtain ⟨l2, u2⟩ := HV.out.2.1 rfl
      have Q2 := Lib.hid (show ∀ W, Calls Tryd.prog 16 #[.string S2] W fun e w' => e = .returned (.int .i64 V2) ∧ W = w' from q2)
      cases G3 with
      | false =>
        have HF : Hid (E = 4 ∧ P = 0) := Lib.hid (by
          have e : E = 4 := by rw [HE.out]; rfl
          exact ⟨e, by rw [HPP.out, e]; rfl⟩)
        obtain ⟨rfl, rfl⟩ := HF.out
        have Q3 := Lib.hid (show ∀ W, Calls Tryd.prog 16 #[.string S3] W fun e w' => e = .returned (.int .i64 (-1)) ∧ W = w' from q3)
        clear q1 q2 q3 HF
        have n1 : ¬ V1 < 0 := by omega
        have n2 : ¬ V2 < 0 := by omega
        go_wp2_with fail
        refine (Q1.out _).mono ?_
        rintro e w' ⟨rfl, rfl⟩
        go_wp2_with fail
        refine (Q2.out _).mono ?_
        rintro e w' ⟨rfl, rfl⟩
        go_wp2_with fail
        refine (Q3.out _).mono ?_
        rintro e w' ⟨rfl, rfl⟩
        go_wp2_with fail
        refine (HL.out _ (HP.out.later B2.out)).mono ?_
        rintro e w9 ⟨rfl, hb⟩
        have B9 := Lib.hid (B2.out.trans (hb.mono B2.out.size))
        clear hb
        go_wp2
        go_ret
        exact ⟨rfl, B9.out⟩
      | true =>
        obtain ⟨l3, u3⟩ := HV.out.2.2 rfl
        have Q3 := Lib.hid (show ∀ W, Calls Tryd.prog 16 #[.string S3] W fun e w' => e = .returned (.int .i64 V3) ∧ W = w' from q3)
        have n1 : ¬ V1 < 0 := by omega
        have n2 : ¬ V2 < 0 := by omega
        have n3 : ¬ V3 < 0 := by omega
        clear q1 q2 q3
        by_cases h1 : 7 < V1
        · skip
          have HF : Hid (E = 1 ∧ P = 0) := Lib.hid (by
            have e : E = 1 := by rw [HE.out, if_pos (by decide), if_pos (by omega)]
            exact ⟨e, by rw [HPP.out, e]; rfl⟩)
          obtain ⟨rfl, rfl⟩ := HF.out
          clear HF
          go_wp2_with fail
          refine (Q1.out _).mono ?_
          rintro e w' ⟨rfl, rfl⟩
          go_wp2_with fail
          refine (Q2.out _).mono ?_
          rintro e w' ⟨rfl, rfl⟩
          go_wp2_with fail
          refine (Q3.out _).mono ?_
          rintro e w' ⟨rfl, rfl⟩
          go_wp2_with fail
          refine (Q1.out _).mono ?_
          rintro e w' ⟨rfl, rfl⟩
          go_wp2_with fail
          refine (HL.out _ (HP.out.later B2.out)).mono ?_
          rintro e w9 ⟨rfl, hb⟩
          have B9 := Lib.hid (B2.out.trans (hb.mono B2.out.size))
          clear hb
          go_wp2
          go_ret
          exact ⟨rfl, B9.out⟩
        · by_cases h2 : 255 < V2
          · skip
            have HF : Hid (E = 1 ∧ P = 0) := Lib.hid (by
              have e : E = 1 := by rw [HE.out, if_pos (by decide), if_pos (by omega)]
              exact ⟨e, by rw [HPP.out, e]; rfl⟩)
            obtain ⟨rfl, rfl⟩ := HF.out
            clear HF
            go_wp2_with fail
            refine (Q1.out _).mono ?_
            rintro e w' ⟨rfl, rfl⟩
            go_wp2_with fail
            refine (Q2.out _).mono ?_
            rintro e w' ⟨rfl, rfl⟩
            go_wp2_with fail
            refine (Q3.out _).mono ?_
            rintro e w' ⟨rfl, rfl⟩
            go_wp2_with fail
            refine (Q1.out _).mono ?_
            rintro e w' ⟨rfl, rfl⟩
            go_wp2_with fail
            refine (Q2.out _).mono ?_
            rintro e w' ⟨rfl, rfl⟩
            go_wp2_with fail
            refine (HL.out _ (HP.out.later B2.out)).mono ?_
            rintro e w9 ⟨rfl, hb⟩
            have B9 := Lib.hid (B2.out.trans (hb.mono B2.out.size))
            clear hb
            go_wp2
            go_ret
            exact ⟨rfl, B9.out⟩
          · by_cases h3 : 7 < V3
            · skip
              have HF : Hid (E = 1 ∧ P = 0) := Lib.hid (by
                have e : E = 1 := by rw [HE.out, if_pos (by decide), if_pos (by omega)]
                exact ⟨e, by rw [HPP.out, e]; rfl⟩)
              obtain ⟨rfl, rfl⟩ := HF.out
              clear HF
              go_wp2_with fail
              refine (Q1.out _).mono ?_
              rintro e w' ⟨rfl, rfl⟩
              go_wp2_with fail
              refine (Q2.out _).mono ?_
              rintro e w' ⟨rfl, rfl⟩
              go_wp2_with fail
              refine (Q3.out _).mono ?_
              rintro e w' ⟨rfl, rfl⟩
              go_wp2_with fail
              refine (Q1.out _).mono ?_
              rintro e w' ⟨rfl, rfl⟩
              go_wp2_with fail
              refine (Q2.out _).mono ?_
              rintro e w' ⟨rfl, rfl⟩
              go_wp2_with fail
              refine (Q3.out _).mono ?_
              rintro e w' ⟨rfl, rfl⟩
              go_wp2_with fail
              refine (HL.out _ (HP.out.later B2.out)).mono ?_
              rintro e w9 ⟨rfl, hb⟩
              have B9 := Lib.hid (B2.out.trans (hb.mono B2.out.size))
              clear hb
              go_wp2
              go_ret
              exact ⟨rfl, B9.out⟩
            · skip
              have HF : Hid (E = 0 ∧ P = 2048 * V1 + 8 * V2 + V3) := Lib.hid (by
                have e : E = 0 := by rw [HE.out, if_pos (by decide), if_neg (by omega)]
                exact ⟨e, by rw [HPP.out, if_pos e]⟩)
              obtain ⟨e0, eP⟩ := HF.out
              subst e0
              subst eP
              have hP0 : 0 ≤ 2048 * V1 + 8 * V2 + V3 := by omega
              have hP1 : 2048 * V1 + 8 * V2 + V3 ≤ 16383 := by omega
              have hP2 : 2048 * V1 + 8 * V2 ≤ 16376 := by omega
              have hP3 : 0 ≤ 2048 * V1 + 8 * V2 := by omega
              have b1 : 2048 * V1 ≤ 14336 := by omega
              have b2 : 8 * V2 ≤ 2040 := by omega
              have b3 : 0 ≤ 2048 * V1 := by omega
              have b4 : 0 ≤ 8 * V2 := by omega
              have y1 : IntKind.i64.wrap (2048 * V1) = 2048 * V1 := IntWalk.i64_in _ (by omega)
              have y2 : IntKind.i64.wrap (8 * V2) = 8 * V2 := IntWalk.i64_in _ (by omega)
              have y3 : IntKind.i64.wrap (2048 * V1 + 8 * V2) = 2048 * V1 + 8 * V2 := IntWalk.i64_in _ (by omega)
              have y4 : IntKind.i64.wrap (2048 * V1 + 8 * V2 + V3) = 2048 * V1 + 8 * V2 + V3 := IntWalk.i64_in _ (by omega)
              have HT0 := Lib.hid (fun W hW => HT.out W hW rfl)
              clear HF
              go_wp2_with fail
              refine (Q1.out _).mono ?_
              rintro e w' ⟨rfl, rfl⟩
              go_wp2_with fail
              refine (Q2.out _).mono ?_
              rintro e w' ⟨rfl, rfl⟩
              go_wp2_with fail
              refine (Q3.out _).mono ?_
              rintro e w' ⟨rfl, rfl⟩
              go_wp2_with fail
              refine (Q1.out _).mono ?_
              rintro e w' ⟨rfl, rfl⟩
              go_wp2_with fail
              refine (Q2.out _).mono ?_
              rintro e w' ⟨rfl, rfl⟩
              go_wp2_with fail
              refine (Q3.out _).mono ?_
              rintro e w' ⟨rfl, rfl⟩
              go_wp2_with fail
              have hS : ∀ W W', Below w2.heap.size w2 W → Below W.heap.size W W' → Below w2.heap.size w2 W' ∧ W'.cell? ⟨g, 0, none⟩ = some (.string S1) ∧ W'.cell? ⟨g, 1, none⟩ = some (.string S2) ∧ W'.cell? ⟨g, 2, none⟩ = some (.string S3) := by
                intro W W' h h'
                have hh := h.trans (h'.mono h.size)
                exact ⟨hh, str_cells (O2.out.below hh hgl)⟩
              have hS0 := hS _ _ (Below.refl _ _) (Below.refl _ _)
              have hSd := hS _ _ (Below.refl _ w2) (Below.refl _ w2).drew
              have hPw : ∀ W, Below w2.heap.size w2 W → PowOk W := fun W hb => HP.out.later (B2.out.trans (hb.mono B2.out.size))
              have HS := Lib.hid hS
              have HPw := Lib.hid hPw
              clear hS hPw
              go_region_held3 (fun W => Below w2.heap.size w2 W ∧ W.cell? ⟨g, 0, none⟩ = some (.string S1) ∧ W.cell? ⟨g, 1, none⟩ = some (.string S2) ∧ W.cell? ⟨g, 2, none⟩ = some (.string S3)) (first | assumption | go_keep)
                (first
                  | (go_at_call 16; ((with_reducible refine (Q1.out _).mono ?_); rintro e w' ⟨rfl, rfl⟩))
                  | (go_at_call 16; ((with_reducible refine (Q2.out _).mono ?_); rintro e w' ⟨rfl, rfl⟩))
                  | (go_at_call 16; ((with_reducible refine (Q3.out _).mono ?_); rintro e w' ⟨rfl, rfl⟩))
                  | (go_at_call 11; ((with_reducible refine (HT0.out _ (HPw.out _ (And.left (by assumption)))).mono ?_); rintro e w5 ⟨rfl, hb5⟩; have hS5 := HS.out _ _ (And.left (by assumption)) hb5; clear hb5))
                  | (go_at_call 12; ((with_reducible refine (HL.out _ (HPw.out _ (And.left (by assumption)))).mono ?_); rintro e w6 ⟨rfl, hb6⟩; have hS6 := HS.out _ _ (And.left (by assumption)) hb6; clear hb6))
                  | fail)
              all_goals
                go_wp2
                go_ret
                exact ⟨rfl, B2.out.trans (Below.mono (And.left (by assumption)) B2.out.size)⟩
theorem parse_walk (s : ByteArray) (w : World) (hp : PowOk w) (ws : s.size ≤ maxLen) :
    Calls Tryd.prog 4 #[.string s] w fun e w' => e = .returned (.bool true) ∧ Below w.heap.size w w' := by
  unfold maxLen at ws
  by_cases h : 100 < s.size
  · exact parse_long s w hp h (by omega)
  · have hs : s = bs s.data.toList := bs_of rfl
    have hl : s.data.toList.length ≤ 100 := by
      have e : s.size = s.data.toList.length := by rw [hs, bs_len, bs_data]
      omega
    by_cases hc : s.data.toList.count 45 = 2
    · exact parse_three s _ w hp hs hl hc
    · exact parse_pieces s _ _ w hp hs hl rfl hc
end Go.Proofs.YtcojjhokcebogaaDoor
