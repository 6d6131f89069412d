/- Joined: PrBack PlShelf PlShelfK. -/
import Derived.Test.YthlckipcgogogaaGreatDoorPrMath
import Derived.Test.YthlckipcgogogaaGreatDoorBase
import Derived.Shelf.Strings.Builder1
import Derived.Shelf.Strings.Builder2
import Derived.Shelf.Strings.OnBuilder
import Derived.Shelf.Strings.BuilderK
/- A text that is written is read as the plan again. -/
namespace Go.Proofs.YthlckipcgogogaaGreatDoor
set_option linter.unusedVariables false

theorem readF_more : ∀ (f : Nat) (s : List UInt8) (n : Nat) (p : Pn) (part : Nat), s.length ≤ f → readF (f + 1) s n p part = readF f s n p part
  | 0, s, n, p, part, h => by
    obtain rfl : s = [] := List.eq_nil_of_length_eq_zero (by omega)
    simp [readF]
  | f + 1, s, n, p, part, h => by
    rw [readF, readF]
    split
    · rfl
    · rename_i h0
      split
      · rfl
      · rename_i h1
        have hsp := nl_split s h1
        have hlen : ((s.dropWhile (· != 10)).drop 1).length ≤ f := by
          have := congrArg List.length hsp
          rw [List.length_append, List.length_cons] at this
          omega
        split
        · rfl
        · rename_i q part' _
          exact readF_more f _ _ _ _ hlen
theorem readF_any {f : Nat} {s : List UInt8} (n : Nat) (p : Pn) (part : Nat) (h : s.length ≤ f) : readF f s n p part = readF s.length s n p part := by
  induction f with
  | zero => rw [show s.length = 0 by omega]
  | succ f ih =>
    by_cases e : s.length = f + 1
    · rw [e]
    · rw [readF_more f s n p part (by omega), ih (by omega)]
theorem plan_mono : ∀ (f : Nat) (s : List UInt8) (n : Nat) (p : Pn) (part : Nat) (q : Pn), readF f s n p part = .plan q → readF (f + 1) s n p part = .plan q
  | 0, s, n, p, part, q, h => by
    unfold readF at h
    split at h
    · rename_i h0
      cases h
      rw [readF, if_pos h0.1, if_pos h0.2]
    · cases h
  | f + 1, s, n, p, part, q, h => by
    rw [readF] at h
    rw [readF]
    split
    · rename_i h0
      rw [if_pos h0] at h; exact h
    · rename_i h0
      rw [if_neg h0] at h
      split
      · rename_i h1
        rw [if_pos h1] at h; exact h
      · rename_i h1
        rw [if_neg h1] at h
        split at h
        · cases h
        · rename_i q' part' hst
          exact plan_mono f _ _ _ _ _ h
theorem plan_any {f g : Nat} {s : List UInt8} {n : Nat} {p : Pn} {part : Nat} {q : Pn} (h : readF f s n p part = .plan q) (hg : f ≤ g) : readF g s n p part = .plan q := by
  induction g with
  | zero => rw [show (0 : Nat) = f by omega]; exact h
  | succ g ih =>
    by_cases e : f = g + 1
    · rw [← e]; exact h
    · exact plan_mono g s n p part q (ih (by omega))
def noN (c : List UInt8) : Bool := c.all (· != 10)
theorem take_nl : ∀ (c r : List UInt8), noN c = true → (c ++ 10 :: r).takeWhile (· != 10) = c ∧ (c ++ 10 :: r).dropWhile (· != 10) = 10 :: r
  | [], r, _ => ⟨rfl, rfl⟩
  | x :: c, r, h => by
    simp only [noN, List.all_cons, Bool.and_eq_true] at h
    obtain ⟨e1, e2⟩ := take_nl c r h.2
    simp only [List.cons_append, List.takeWhile_cons, List.dropWhile_cons, h.1, if_true]
    rw [e1]
    exact ⟨rfl, e2⟩
theorem readF_line (f : Nat) (c r : List UInt8) (n : Nat) (p q : Pn) (part part' : Nat) (hc : noN c = true) (hs : stepM p part c = some (q, part')) : readF (f + 1) (c ++ 10 :: r) n p part = readF f r (n + 1) q part' := by
  obtain ⟨e1, e2⟩ := take_nl c r hc
  rw [readF, if_neg (by simp), e1, e2, if_neg (by simp), hs]
  rfl
theorem num_plain : ∀ i : Fin 256, (numL i.val).all (fun c => c != 32 && c != 10) = true := by decide +kernel
theorem num_S {n : Nat} (h : n < 256) : noS (numL n) = true ∧ noN (numL n) = true := by
  have := num_plain ⟨n, h⟩
  simp only [List.all_eq_true, Bool.and_eq_true] at this
  exact ⟨List.all_eq_true.2 fun x hx => (this x hx).1, List.all_eq_true.2 fun x hx => (this x hx).2⟩
theorem pc_S {p : Nat} (h : p ≤ 16383) : noS (pcL p) = true ∧ noN (pcL p) = true := by
  obtain ⟨a1, a2⟩ := num_S (n := p / 2048) (by omega)
  obtain ⟨b1, b2⟩ := num_S (n := p / 8 % 256) (by omega)
  obtain ⟨c1, c2⟩ := num_S (n := p % 8) (by omega)
  unfold noS noN at *
  unfold pcL
  constructor
  · simp only [List.all_append, List.all_cons, a1, b1, c1]; decide
  · simp only [List.all_append, List.all_cons, a2, b2, c2]; decide
theorem unw_N : ∀ ws : List (List UInt8), (∀ w ∈ ws, noN w = true) → noN (unw ws) = true
  | [], _ => rfl
  | [w], h => h w (by simp)
  | w :: x :: r, h => by
    have h1 := h w (by simp)
    have h2 := unw_N (x :: r) fun y hy => h y (List.mem_cons_of_mem _ hy)
    unfold noN at *
    show (w ++ 32 :: unw (x :: r)).all _ = true
    simp only [List.all_append, List.all_cons, h1, h2]; decide
theorem step_place (p : Pn) (x : Nat) (b : Bool) (h : x ≤ 16383) : stepM p 0 (unw [placeW, pcL x, if b then transferW else endW]) = some ({ p with P := p.P ++ [((x : Int), b)] }, 0) := by
  have h1 := (pc_S h).1
  have hw : wds (unw [placeW, pcL x, if b then transferW else endW]) = [placeW, pcL x, if b then transferW else endW] := wds_unw _ (by simp) (by
    intro w hw
    simp only [List.mem_cons, List.mem_nil_iff, or_false] at hw
    rcases hw with rfl | rfl | rfl
    · rfl
    · exact h1
    · cases b <;> rfl)
  unfold stepM
  rw [hw]
  simp only [if_true, Nat.le_refl, placeM, pointO_pcL h]
  cases b
  · simp only [Bool.false_eq_true, if_false]
    rw [if_neg (by decide)]
    simp
  · simp
theorem step_line (p : Pn) (part x y k t : Nat) (hp : part ≤ 1) (hx : x ≤ 16383) (hy : y ≤ 16383) (hk : k < 256) (ht : t < 256) : stepM p part (unw [lineW, pcL x, pcL y, numL k, numL t]) = some ({ p with L := p.L ++ [⟨x, y, k, t⟩] }, 1) := by
  have hw : wds (unw [lineW, pcL x, pcL y, numL k, numL t]) = [lineW, pcL x, pcL y, numL k, numL t] := wds_unw _ (by simp) (by
    intro w hw
    simp only [List.mem_cons, List.mem_nil_iff, or_false] at hw
    rcases hw with rfl | rfl | rfl | rfl | rfl
    · rfl
    · exact (pc_S hx).1
    · exact (pc_S hy).1
    · exact (num_S hk).1
    · exact (num_S ht).1)
  unfold stepM
  rw [hw]
  simp only
  rw [if_neg (by decide), if_pos trivial, if_pos hp]
  simp only [lineM, pointO_pcL hx, pointO_pcL hy, numO_numL hk, numO_numL ht]
  rw [if_pos (by omega)]; rfl
theorem step_rate (p : Pn) (part n : Nat) (hp : part < 2) (hn : n < 256) : stepM p part (unw [rateW, numL n]) = some ({ p with rate := (n : Int) }, 2) := by
  have hw : wds (unw [rateW, numL n]) = [rateW, numL n] := wds_unw _ (by simp) (by
    intro w hw
    simp only [List.mem_cons, List.mem_nil_iff, or_false] at hw
    rcases hw with rfl | rfl
    · rfl
    · exact (num_S hn).1)
  unfold stepM
  rw [hw]
  simp only
  rw [if_neg (by decide), if_neg (by decide), if_pos trivial, if_pos hp, numO_numL hn]; rfl
theorem step_room (p : Pn) (n : Nat) (hn : n < 256) : stepM p 2 (unw [roomW, numL n]) = some ({ p with room := (n : Int) }, 3) := by
  have hw : wds (unw [roomW, numL n]) = [roomW, numL n] := wds_unw _ (by simp) (by
    intro w hw
    simp only [List.mem_cons, List.mem_nil_iff, or_false] at hw
    rcases hw with rfl | rfl
    · rfl
    · exact (num_S hn).1)
  unfold stepM
  rw [hw]
  simp only
  rw [if_neg (by decide), if_neg (by decide), if_neg (by decide), if_pos trivial, if_pos trivial, numO_numL hn]; rfl
theorem step_marks (p : Pn) (x y z : Nat) (hx : x < 256) (hy : y < 256) (hz : z < 256) : stepM p 3 (unw [marksW, numL x, numL y, numL z]) = some ({ p with m0 := (x : Int), m1 := (y : Int), m2 := (z : Int) }, 4) := by
  have hw : wds (unw [marksW, numL x, numL y, numL z]) = [marksW, numL x, numL y, numL z] := wds_unw _ (by simp) (by
    intro w hw
    simp only [List.mem_cons, List.mem_nil_iff, or_false] at hw
    rcases hw with rfl | rfl | rfl | rfl
    · rfl
    · exact (num_S hx).1
    · exact (num_S hy).1
    · exact (num_S hz).1)
  unfold stepM
  rw [hw]
  simp only
  rw [if_neg (by decide), if_neg (by decide), if_neg (by decide), if_neg (by decide), if_pos trivial, if_pos trivial, numO_numL hx, numO_numL hy, numO_numL hz]
/-- The codes and numbers are those that a text can hold. -/
structure FineP (p : Pn) : Prop where
  pl : ∀ x ∈ p.P, 0 ≤ x.1 ∧ x.1 ≤ 16383
  ln : ∀ x ∈ p.L, (0 ≤ x.A ∧ x.A ≤ 16383) ∧ (0 ≤ x.B ∧ x.B ≤ 16383) ∧ (0 ≤ x.C ∧ x.C < 256) ∧ (0 ≤ x.D ∧ x.D < 256)
  rate : 0 ≤ p.rate ∧ p.rate < 256
  room : 0 ≤ p.room ∧ p.room < 256
  m0 : 0 ≤ p.m0 ∧ p.m0 < 256
  m1 : 0 ≤ p.m1 ∧ p.m1 < 256
  m2 : 0 ≤ p.m2 ∧ p.m2 < 256
theorem read_places : ∀ (P : List (Int × Bool)) (f : Nat) (s : List UInt8) (n : Nat) (p : Pn), (∀ x ∈ P, 0 ≤ x.1 ∧ x.1 ≤ 16383) → readF (f + P.length) (P.flatMap plText ++ s) n p 0 = readF f s (n + P.length) { p with P := p.P ++ P } 0
  | [], f, s, n, p, _ => by simp
  | x :: P, f, s, n, p, h => by
    have hx := h x (by simp)
    have hs := step_place p x.1.toNat x.2 (by omega)
    have hc : noN (unw [placeW, pcL x.1.toNat, if x.2 then transferW else endW]) = true := unw_N _ (by
      intro w hw
      simp only [List.mem_cons, List.mem_nil_iff, or_false] at hw
      rcases hw with rfl | rfl | rfl
      · rfl
      · exact (pc_S (by omega)).2
      · cases x.2 <;> rfl)
    have e : (x :: P).flatMap plText ++ s = unw [placeW, pcL x.1.toNat, if x.2 then transferW else endW] ++ 10 :: (P.flatMap plText ++ s) := by simp [plText]
    rw [e, List.length_cons, show f + (P.length + 1) = (f + P.length) + 1 by omega, readF_line _ _ _ n p _ 0 0 hc hs]
    rw [show ((x.1.toNat : Nat) : Int) = x.1 by omega, read_places P f s (n + 1) _ fun y hy => h y (List.mem_cons_of_mem _ hy)]
    simp only [List.append_assoc, List.cons_append, List.nil_append]
    rw [show n + 1 + P.length = n + (P.length + 1) by omega]
theorem read_lines : ∀ (L : List Ln) (f : Nat) (s : List UInt8) (n : Nat) (p : Pn) (part : Nat), part ≤ 1 → (∀ x ∈ L, (0 ≤ x.A ∧ x.A ≤ 16383) ∧ (0 ≤ x.B ∧ x.B ≤ 16383) ∧ (0 ≤ x.C ∧ x.C < 256) ∧ (0 ≤ x.D ∧ x.D < 256)) →
    ∃ part', part' ≤ 1 ∧ readF (f + L.length) (L.flatMap lnText ++ s) n p part = readF f s (n + L.length) { p with L := p.L ++ L } part'
  | [], f, s, n, p, part, hp, _ => ⟨part, hp, by simp⟩
  | x :: L, f, s, n, p, part, hp, h => by
    obtain ⟨⟨a1, a2⟩, ⟨b1, b2⟩, ⟨c1, c2⟩, ⟨d1, d2⟩⟩ := h x (by simp)
    have hs := step_line p part x.A.toNat x.B.toNat x.C.toNat x.D.toNat hp (by omega) (by omega) (by omega) (by omega)
    have hc : noN (unw [lineW, pcL x.A.toNat, pcL x.B.toNat, numL x.C.toNat, numL x.D.toNat]) = true := unw_N _ (by
      intro w hw
      simp only [List.mem_cons, List.mem_nil_iff, or_false] at hw
      rcases hw with rfl | rfl | rfl | rfl | rfl
      · rfl
      · exact (pc_S (by omega)).2
      · exact (pc_S (by omega)).2
      · exact (num_S (by omega)).2
      · exact (num_S (by omega)).2)
    have e : (x :: L).flatMap lnText ++ s = unw [lineW, pcL x.A.toNat, pcL x.B.toNat, numL x.C.toNat, numL x.D.toNat] ++ 10 :: (L.flatMap lnText ++ s) := by simp [lnText]
    have ex : (⟨((x.A.toNat : Nat) : Int), ((x.B.toNat : Nat) : Int), ((x.C.toNat : Nat) : Int), ((x.D.toNat : Nat) : Int)⟩ : Ln) = x := by
      rw [show ((x.A.toNat : Nat) : Int) = x.A by omega, show ((x.B.toNat : Nat) : Int) = x.B by omega, show ((x.C.toNat : Nat) : Int) = x.C by omega, show ((x.D.toNat : Nat) : Int) = x.D by omega]
    rw [ex] at hs
    obtain ⟨part', h1, h2⟩ := read_lines L f s (n + 1) { p with L := p.L ++ [x] } 1 (Nat.le_refl _) fun y hy => h y (List.mem_cons_of_mem _ hy)
    refine ⟨part', h1, ?_⟩
    rw [e, List.length_cons, show f + (L.length + 1) = (f + L.length) + 1 by omega, readF_line _ _ _ n p _ part 1 hc hs, h2]
    simp only [List.append_assoc, List.cons_append, List.nil_append]
    rw [show n + 1 + L.length = n + (L.length + 1) by omega]
def emptyPn : Pn := ⟨[], [], 0, 0, 0, 0, 0⟩
/-- The whole text of a plan is read as the plan. -/
theorem read_back {p : Pn} (h : FineP p) {f : Nat} (hf : (partText p 4).length ≤ f) : readF f (partText p 4) 0 emptyPn 0 = .plan p := by
  obtain ⟨r1, r2⟩ := h.rate
  obtain ⟨o1, o2⟩ := h.room
  obtain ⟨m1, m2⟩ := h.m0
  obtain ⟨m3, m4⟩ := h.m1
  obtain ⟨m5, m6⟩ := h.m2
  obtain ⟨part', hp1, hl⟩ := read_lines p.L 4 (unw [rateW, numL p.rate.toNat] ++ 10 :: (unw [roomW, numL p.room.toNat] ++ 10 :: (unw [marksW, numL p.m0.toNat, numL p.m1.toNat, numL p.m2.toNat] ++ 10 :: []))) (0 + p.P.length) { emptyPn with P := [] ++ p.P } 0 (by omega) h.ln
  have hpl := read_places p.P (4 + p.L.length) (p.L.flatMap lnText ++ (unw [rateW, numL p.rate.toNat] ++ 10 :: (unw [roomW, numL p.room.toNat] ++ 10 :: (unw [marksW, numL p.m0.toNat, numL p.m1.toNat, numL p.m2.toNat] ++ 10 :: [])))) 0 emptyPn h.pl
  have e : partText p 4 = p.P.flatMap plText ++ (p.L.flatMap lnText ++ (unw [rateW, numL p.rate.toNat] ++ 10 :: (unw [roomW, numL p.room.toNat] ++ 10 :: (unw [marksW, numL p.m0.toNat, numL p.m1.toNat, numL p.m2.toNat] ++ 10 :: [])))) := by simp [partText]
  have key : readF (4 + p.L.length + p.P.length) (partText p 4) 0 emptyPn 0 = .plan p := by
    rw [e, hpl]
    show readF (4 + p.L.length) _ _ { emptyPn with P := [] ++ p.P } 0 = _
    rw [hl]
    rw [readF_line 3 _ _ _ _ _ part' 2 (unw_N _ (by
      intro w hw
      simp only [List.mem_cons, List.mem_nil_iff, or_false] at hw
      rcases hw with rfl | rfl
      · rfl
      · exact (num_S (by omega)).2)) (step_rate _ part' p.rate.toNat (by omega) (by omega))]
    rw [readF_line 2 _ _ _ _ _ 2 3 (unw_N _ (by
      intro w hw
      simp only [List.mem_cons, List.mem_nil_iff, or_false] at hw
      rcases hw with rfl | rfl
      · rfl
      · exact (num_S (by omega)).2)) (step_room _ p.room.toNat (by omega))]
    rw [readF_line 1 _ _ _ _ _ 3 4 (unw_N _ (by
      intro w hw
      simp only [List.mem_cons, List.mem_nil_iff, or_false] at hw
      rcases hw with rfl | rfl | rfl | rfl
      · rfl
      · exact (num_S (by omega)).2
      · exact (num_S (by omega)).2
      · exact (num_S (by omega)).2)) (step_marks _ p.m0.toNat p.m1.toNat p.m2.toNat (by omega) (by omega) (by omega))]
    rw [readF, if_pos rfl, if_pos rfl]
    simp only [emptyPn, List.nil_append]
    rw [show ((p.rate.toNat : Nat) : Int) = p.rate by omega, show ((p.room.toNat : Nat) : Int) = p.room by omega, show ((p.m0.toNat : Nat) : Int) = p.m0 by omega, show ((p.m1.toNat : Nat) : Int) = p.m1 by omega, show ((p.m2.toNat : Nat) : Int) = p.m2 by omega]
  rcases Nat.le_total (4 + p.L.length + p.P.length) (partText p 4).length with h9 | h9
  · rw [readF_any _ _ _ hf]; exact plan_any key h9
  · rw [readF_any _ _ _ hf, ← readF_any _ _ _ h9]; exact key
end Go.Proofs.YthlckipcgogogaaGreatDoor
/- The library's Builder and Join, as this program bears them (the shelf's laying, in plain words). -/
namespace Go.Proofs.YthlckipcgogogaaGreatDoor
set_option linter.unusedVariables false
open Go.Shelf
def layays169_ren : Go.Shelf.Ren := ⟨fun | 169 => 35 | n => n, fun | 70 => 79 | 9 => 9 | 0 => 0 | 72 => 82 | 37 => 80 | 127 => 131 | 3 => 3 | 5 => 5 | n => n, fun n => n⟩
theorem layays169 : Go.Proofs.Lays.n169 Tryz.prog layays169_ren := {
  mixed := by kernel_rfl
  f169 := Tryz.func35.trans (congrArg some (by kernel_rfl))
  t0 := Tryz.underlying0
  a0 := Tryz.isAgg0
  z0 := Tryz.sizeOf0
  v0 := Tryz.zeroValue0
  t3 := Tryz.underlying3
  a3 := Tryz.isAgg3
  z3 := Tryz.sizeOf3
  v3 := Tryz.zeroValue3
  t9 := Tryz.underlying9
  a9 := Tryz.isAgg9
  z9 := Tryz.sizeOf9
  v9 := Tryz.zeroValue9
  t37 := Tryz.underlying80
  a37 := Tryz.isAgg80
  z37 := Tryz.sizeOf80
  v37 := Tryz.zeroValue80
  t70 := Tryz.underlying79
  a70 := Tryz.isAgg79
  z70 := Tryz.sizeOf79
  v70 := Tryz.zeroValue79
  t72 := Tryz.underlying82
  a72 := Tryz.isAgg82
  z72 := Tryz.sizeOf82
  v72 := Tryz.zeroValue82
  t127 := Tryz.underlying131
  a127 := Tryz.isAgg131
  z127 := Tryz.sizeOf131
  v127 := Tryz.zeroValue131 }
theorem ext169 : Builder.Extra Tryz.prog layays169_ren := {
  sizeBuilder := by kernel_rfl
  liesBuilder := by kernel_rfl
  t5 := Tryz.underlying5
  a5 := Tryz.isAgg5
  z5 := Tryz.sizeOf5
  v5 := Tryz.zeroValue5
  infoByte := by kernel_rfl
  cellsByte := by kernel_rfl
  sizeByte := by kernel_rfl
  neB5 := by decide }
def layays156_ren : Go.Shelf.Ren := ⟨fun | 156 => 18 | 165 => 56 | 166 => 31 | 169 => 35 | 240 => 71 | 241 => 85 | 276 => 99 | 277 => 110 | n => n, fun | 31 => 46 | 9 => 9 | 3 => 3 | 4 => 4 | 0 => 0 | 20 => 20 | 72 => 82 | 76 => 85 | 70 => 79 | 37 => 80 | 75 => 84 | 127 => 131 | 164 => 151 | 5 => 5 | 80 => 91 | n => n, fun n => n⟩
theorem layays156 : Go.Proofs.Lays.n156 Tryz.prog layays156_ren := {
  mixed := by kernel_rfl
  f156 := Tryz.func18.trans (congrArg some (by kernel_rfl))
  f165 := Tryz.func56.trans (congrArg some (by kernel_rfl))
  f166 := Tryz.func31.trans (congrArg some (by kernel_rfl))
  f169 := Tryz.func35.trans (congrArg some (by kernel_rfl))
  f240 := Tryz.func71.trans (congrArg some (by kernel_rfl))
  f241 := Tryz.func85.trans (congrArg some (by kernel_rfl))
  f276 := Tryz.func99.trans (congrArg some (by kernel_rfl))
  f277 := Tryz.func110.trans (congrArg some (by kernel_rfl))
  t0 := Tryz.underlying0
  a0 := Tryz.isAgg0
  z0 := Tryz.sizeOf0
  v0 := Tryz.zeroValue0
  t3 := Tryz.underlying3
  a3 := Tryz.isAgg3
  z3 := Tryz.sizeOf3
  v3 := Tryz.zeroValue3
  t4 := Tryz.underlying4
  a4 := Tryz.isAgg4
  z4 := Tryz.sizeOf4
  v4 := Tryz.zeroValue4
  t9 := Tryz.underlying9
  a9 := Tryz.isAgg9
  z9 := Tryz.sizeOf9
  v9 := Tryz.zeroValue9
  t20 := Tryz.underlying20
  a20 := Tryz.isAgg20
  z20 := Tryz.sizeOf20
  v20 := Tryz.zeroValue20
  t31 := Tryz.underlying46
  a31 := Tryz.isAgg46
  z31 := Tryz.sizeOf46
  v31 := Tryz.zeroValue46
  t37 := Tryz.underlying80
  a37 := Tryz.isAgg80
  z37 := Tryz.sizeOf80
  v37 := Tryz.zeroValue80
  t70 := Tryz.underlying79
  a70 := Tryz.isAgg79
  z70 := Tryz.sizeOf79
  v70 := Tryz.zeroValue79
  t72 := Tryz.underlying82
  a72 := Tryz.isAgg82
  z72 := Tryz.sizeOf82
  v72 := Tryz.zeroValue82
  t75 := Tryz.underlying84
  a75 := Tryz.isAgg84
  z75 := Tryz.sizeOf84
  v75 := Tryz.zeroValue84
  t76 := Tryz.underlying85
  a76 := Tryz.isAgg85
  z76 := Tryz.sizeOf85
  v76 := Tryz.zeroValue85
  t127 := Tryz.underlying131
  a127 := Tryz.isAgg131
  z127 := Tryz.sizeOf131
  v127 := Tryz.zeroValue131
  t164 := Tryz.underlying151
  a164 := Tryz.isAgg151
  z164 := Tryz.sizeOf151
  v164 := Tryz.zeroValue151 }
theorem ext156 : Builder.Extra Tryz.prog layays156_ren := {
  sizeBuilder := by kernel_rfl
  liesBuilder := by kernel_rfl
  t5 := Tryz.underlying5
  a5 := Tryz.isAgg5
  z5 := Tryz.sizeOf5
  v5 := Tryz.zeroValue5
  infoByte := by kernel_rfl
  cellsByte := by kernel_rfl
  sizeByte := by kernel_rfl
  neB5 := by decide }
theorem layWrite : Go.Proofs.Lays.n166 Tryz.prog layays156_ren := { layays156 with }
open Go.RowKit in
theorem write_string (B b : Nat) (bs : List Value) (s : ByteArray) (w : World) (h : Lib.IsBuilder 82 5 B b bs w) (hlen : bs.length + s.size ≤ 140737488355328) (hBw : B ≤ w.heap.size) :
    Calls Tryz.prog 31 #[.pointer (some ⟨b, 0, none⟩), .string s] w fun e w' => e = .returned (.tuple #[.int .i64 s.size, .nilIface]) ∧ (Lib.BuilderAt 82 5 B b (.pointer (some ⟨b, 0, none⟩)) (bs ++ Lib.strCells s) w' ∧ Below B w w') := Any.Builder_WriteString layWrite ext156 B b bs s w h hlen hBw
open Go.RowKit in
theorem builder_string (B b : Nat) (l : List UInt8) (w : World) (h : Lib.IsBuilder 82 5 B b (Lib.byteCells l) w) (hBw : B ≤ w.heap.size) :
    Calls Tryz.prog 35 #[.pointer (some ⟨b, 0, none⟩)] w fun e w' => e = .returned (.string ⟨l.toArray⟩) ∧ Below B w w' := Any.Builder_String_any layays169 ext169 B b l w h hBw
open Go.RowKit in
theorem join_any (bk o c : Nat) (xs : List ByteArray) (sep : ByteArray) (w : World)
    (hcells : ∀ (j : Nat) x, xs[j]? = some x → w.cell? ⟨bk, o + j, none⟩ = some (.string x))
    (hbk : bk < w.heap.size) (hN : xs.length ≤ 140737488355328) (hcap : xs.length ≤ c)
    (hlen : (Lib.join (xs.map (·.data.toList)) sep.data.toList).length ≤ 140737488355328) :
    Calls Tryz.prog 18 #[.slice (some ⟨bk, o, none⟩) xs.length c, .string sep] w fun e w' => e = .returned (.string ⟨(Lib.join (xs.map (·.data.toList)) sep.data.toList).toArray⟩) ∧ Below w.heap.size w w' := Any.strings_Join layays156 ext156 bk o c xs sep w hcells hbk hN hcap hlen
end Go.Proofs.YthlckipcgogogaaGreatDoor
/- The shelf's Builder, with what every other block keeps. -/
namespace Go.Proofs.YthlckipcgogogaaGreatDoor
set_option linter.unusedVariables false
open Go.RowKit in
theorem write_stringK (B b : Nat) (bs : List Value) (s : ByteArray) (w : World) (h : Lib.IsBuilderF 82 5 B b bs w) (hlen : bs.length + s.size ≤ 140737488355328) (hBw : B ≤ w.heap.size) :
    Calls Tryz.prog 31 #[.pointer (some ⟨b, 0, none⟩), .string s] w fun e w' => e = .returned (.tuple #[.int .i64 s.size, .nilIface]) ∧ (Lib.BuilderAtF 82 5 B b (.pointer (some ⟨b, 0, none⟩)) (bs ++ Lib.strCells s) w' ∧ Below B w w' ∧ Lib.OthersKept 5 (some b) w w') := Any.Builder_WriteString_k layWrite ext156 B b bs s w h hlen hBw
open Go.RowKit in
theorem builder_stringK (B b : Nat) (l : List UInt8) (w : World) (h : Lib.IsBuilderF 82 5 B b (Lib.byteCells l) w) (hBw : B ≤ w.heap.size) :
    Calls Tryz.prog 35 #[.pointer (some ⟨b, 0, none⟩)] w fun e w' => e = .returned (.string ⟨l.toArray⟩) ∧ (Lib.IsBuilderF 82 5 B b (Lib.byteCells l) w' ∧ Below B w w' ∧ Lib.OthersKept 5 (some b) w w') := Any.Builder_String_any_k layays169 ext169 B b l w h hBw
end Go.Proofs.YthlckipcgogogaaGreatDoor
