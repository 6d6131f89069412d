/- Joined: PfSplit PfMath PfCase PfLib PfTail. -/
import Derived.Test.YthlckipcgogogaaGreatDoorPrNum
import Derived.Test.YthlckipcgogogaaGreatDoorLbCut
import Derived.Test.YthlckipcgogogaaGreatDoorPlShelfK
import Derived.Lib.SplitLaws
import Derived.Test.YthlckipcgogogaaGreatDoorPrRead
import Derived.Test.YthlckipcgogogaaGreatDoorPrSuf
import Derived.Test.YthlckipcgogogaaGreatDoorPlSt
import Derived.Test.YthlckipcgogogaaGreatDoorUnMath
import Derived.Test.YthlckipcgogogaaGreatDoorPrRa
import Derived.Test.YthlckipcgogogaaGreatDoorPrText
import Derived.Test.YthlckipcgogogaaGreatDoorPrSame
import Derived.Test.YthlckipcgogogaaGreatDoorPlCells
import Derived.Test.YthlckipcgogogaaGreatDoorUnBase
/- Contract: strings.Split at a line feed. -/
namespace Go.Proofs.YthlckipcgogogaaGreatDoor
set_option linter.unusedVariables false
open Go.RowKit

/-- The words of a line. -/
def nds : List UInt8 → List (List UInt8)
  | [] => [[]]
  | c :: l => if c = 10 then [] :: nds l else match nds l with | [] => [[c]] | w :: r => (c :: w) :: r
/-- Words joined by a space. -/
def unn : List (List UInt8) → List UInt8
  | [] => []
  | [w] => w
  | w :: x :: r => w ++ 10 :: unn (x :: r)
theorem nds_ne : ∀ l, nds l ≠ []
  | [] => by simp [nds]
  | c :: l => by
    unfold nds
    split
    · simp
    · cases nds l <;> simp
theorem unn_nds : ∀ l, unn (nds l) = l
  | [] => rfl
  | c :: l => by
    have ih := unn_nds l
    have hne := nds_ne l
    unfold nds
    by_cases hc : c = 10
    · rw [if_pos hc]
      cases hw : nds l with
      | nil => exact absurd hw hne
      | cons w r =>
        rw [hw] at ih
        show [] ++ 10 :: unn (w :: r) = _
        rw [ih, hc]; rfl
    · rw [if_neg hc]
      cases hw : nds l with
      | nil => exact absurd hw hne
      | cons w r =>
        rw [hw] at ih
        cases r with
        | nil => show c :: w = _; rw [show w = l from ih]
        | cons x r => show (c :: w) ++ 10 :: unn (x :: r) = _; rw [List.cons_append, show w ++ 10 :: unn (x :: r) = l from ih]
theorem nds_one : ∀ w : List UInt8, noN w = true → nds w = [w]
  | [], _ => rfl
  | c :: w, h => by
    simp only [noN, List.all_cons, Bool.and_eq_true, bne_iff_ne, ne_eq] at h
    unfold nds
    rw [if_neg h.1, nds_one w h.2]
theorem nds_more : ∀ (w l : List UInt8), noN w = true → nds (w ++ 10 :: l) = w :: nds l
  | [], l, _ => by show nds (10 :: l) = _; rw [nds, if_pos rfl]
  | c :: w, l, h => by
    simp only [noN, List.all_cons, Bool.and_eq_true, bne_iff_ne, ne_eq] at h
    show nds (c :: (w ++ 10 :: l)) = _
    rw [nds, if_neg h.1, nds_more w l h.2]
theorem nds_unn : ∀ ws : List (List UInt8), ws ≠ [] → (∀ w ∈ ws, noN w = true) → nds (unn ws) = ws
  | [], h, _ => absurd rfl h
  | [w], _, h => nds_one w (h w (by simp))
  | w :: x :: r, _, h => by
    show nds (w ++ 10 :: unn (x :: r)) = _
    rw [nds_more w _ (h w (by simp)), nds_unn (x :: r) (by simp) fun y hy => h y (List.mem_cons_of_mem _ hy)]
theorem indexB_bn (l : List UInt8) : Lib.indexB (bs l) ⟨#[10]⟩ = Lib.indexByte l 10 := by
  show Lib.index (bs l).data.toList [10] = _
  rw [bs_data, Lib.index_one]
theorem countB_bn (l : List UInt8) : Lib.countB (bs l) ⟨#[10]⟩ = l.count 10 := by
  show Lib.count (bs l).data.toList [10] = _
  rw [bs_data, Lib.count_one]
/-- The pieces. -/
theorem splitN_any (l : List UInt8) (w : World) (hl : l.length ≤ 1048576) :
    Calls Tryz.prog 15 #[.string (bs l), .string ⟨#[10]⟩] w fun e w' =>
      e = .returned (.slice (some ⟨w.heap.size, 0, none⟩) (l.count 10 + 1) (l.count 10 + 1)) ∧ w' = w.alloc (.cells ((Lib.splitB ⟨#[10]⟩ 0 (l.count 10) (bs l)).map Value.string).toArray 9) := by
  have hsz := bs_len l
  have hc := countB_bn l
  have h1 : 1 ≤ (⟨#[10]⟩ : ByteArray).size := by decide
  have hle := List.count_le_length (a := (10 : UInt8)) (l := l)
  have hlen := Lib.splitB_all ⟨#[10]⟩ h1 0 _ (bs l) rfl
  have hC : Calls Tryz.prog 13 #[.string (bs l), .string ⟨#[10]⟩] w fun e w' => e = .returned (.int .i64 (Lib.countB (bs l) ⟨#[10]⟩)) ∧ w' = w := by
    refine (Any.strings_Count_one { lay221 with } (bs l) 10 w).mono fun e w' ⟨he, hw⟩ => ⟨?_, hw⟩
    rw [he, hc]
    show _ = Ending.returned (Value.int .i64 ((l.count 10 : Nat) : Int))
    rw [bs_data]
    rfl
  have c := Any.strings_genSplit_core lay221 (by kernel_rfl) (bs l) ⟨#[10]⟩ 0 (-1) (l.count 10 + 1) w (by rw [hsz]; omega) h1 (Nat.zero_le _)
    (fun x cc hx => by
      have hi : Lib.indexB x ⟨#[10]⟩ = Lib.indexByte x.data.toList 10 := Lib.index_one _ _
      rw [hi]
      exact Any.strings_Index_one { lay221 with } x 10 _)
    hC (by decide) (by decide) (by rw [if_pos (by decide), hc, hsz]; omega)
  rw [Nat.add_sub_cancel] at c
  rw [← hc] at c ⊢
  rw [hlen] at c
  have e2 : Lib.cellsOf (Lib.splitB ⟨#[10]⟩ 0 (Lib.countB (bs l) ⟨#[10]⟩) (bs l)) (Lib.countB (bs l) ⟨#[10]⟩ + 1) = ((Lib.splitB ⟨#[10]⟩ 0 (Lib.countB (bs l) ⟨#[10]⟩) (bs l)).map Value.string).toArray := by rw [← hlen]; exact Lib.cellsOf_full _
  rw [e2] at c
  have C := Lib.hid (show Calls Tryz.prog 54 #[.string (bs l), .string ⟨#[10]⟩, .int .i64 0, .int .i64 (-1)] w fun e w' =>
      e = .returned (.slice (some ⟨w.heap.size, 0, none⟩) (Lib.countB (bs l) ⟨#[10]⟩ + 1) (Lib.countB (bs l) ⟨#[10]⟩ + 1)) ∧ w' = w.alloc (.cells ((Lib.splitB ⟨#[10]⟩ 0 (Lib.countB (bs l) ⟨#[10]⟩) (bs l)).map Value.string).toArray 9) from c)
  clear c e2 hlen hC hc hsz hle
  go_enter Tryz.func15, Tryz.ntmps15
  go_wp2_with fail
  refine (C.out).mono ?_
  rintro e w' ⟨rfl, hw⟩
  subst hw
  go_wp2
  go_ret
  exact ⟨rfl, rfl⟩
theorem ix10_no : ∀ l : List UInt8, noN l = true → Lib.indexByte l 10 = -1
  | [], _ => rfl
  | c :: l, h => by
    unfold noN at h
    simp only [List.all_cons, Bool.and_eq_true] at h
    have e := ix10_no l h.2
    have hc : (c == 10) = false := by have := h.1; simp only [bne_iff_ne, ne_eq] at this; simpa using this
    rw [Lib.indexByte, hc, e]
    rfl
theorem ix10_at : ∀ (a b : List UInt8), noN a = true → Lib.indexByte (a ++ 10 :: b) 10 = a.length
  | [], b, _ => by simp [Lib.indexByte]
  | c :: l, b, h => by
    unfold noN at h
    simp only [List.all_cons, Bool.and_eq_true] at h
    have e := ix10_at l b h.2
    have hc : (c == 10) = false := by have := h.1; simp only [bne_iff_ne, ne_eq] at this; simpa using this
    have h2 : ((l.length : Int) == -1) = false := by simp
    rw [List.cons_append, Lib.indexByte, hc, e, h2]
    simp
theorem frontN (a b : List UInt8) : (bs (a ++ 10 :: b)).extract 0 a.length = bs a := by
  apply bs_of
  simp [bs]
theorem backN (a b : List UInt8) : (bs (a ++ 10 :: b)).extract (a.length + 1) (a.length + 1 + b.length) = bs b := by
  apply bs_of
  simp [bs]
theorem noN_cases : ∀ l : List UInt8, noN l = true ∨ ∃ a b, noN a = true ∧ l = a ++ 10 :: b
  | [] => .inl rfl
  | c :: l => by
    by_cases hc : c = 10
    · exact .inr ⟨[], l, rfl, by rw [hc]; rfl⟩
    · have hc2 : (c != 10) = true := by simpa using hc
      rcases noN_cases l with h | ⟨a, b, h, rfl⟩
      · exact .inl (by unfold noN at h ⊢; rw [List.all_cons, hc2, h]; rfl)
      · exact .inr ⟨c :: a, b, by unfold noN at h ⊢; rw [List.all_cons, hc2, h]; rfl, rfl⟩
theorem noN_count {a : List UInt8} (h : noN a = true) : a.count 10 = 0 := by
  rw [List.count_eq_zero]
  intro hm
  unfold noN at h
  rw [List.all_eq_true] at h
  have := h 10 hm
  simp at this
/-- The pieces are the words. -/
theorem split_nds : ∀ (k : Nat) (l : List UInt8), l.count 10 = k → Lib.splitB ⟨#[10]⟩ 0 k (bs l) = (nds l).map bs
  | 0, l, hk => by
    have h : noN l = true := by
      rcases noN_cases l with h | ⟨a, b, _, rfl⟩
      · exact h
      · simp at hk
    rw [nds_one l h]
    rfl
  | k + 1, l, hk => by
    rcases noN_cases l with h | ⟨a, b, h, rfl⟩
    · rw [noN_count h] at hk; omega
    · have hb : b.count 10 = k := by rw [List.count_append, noN_count h, List.count_cons_self] at hk; omega
      have i1 : Lib.indexB (bs (a ++ 10 :: b)) ⟨#[10]⟩ = a.length := by rw [indexB_bn]; exact ix10_at _ _ h
      rw [Lib.splitB_hit _ _ _ _ _ i1, Nat.add_zero, frontN, show (⟨#[10]⟩ : ByteArray).size = 1 from rfl, show (bs (a ++ 10 :: b)).size = a.length + 1 + b.length by rw [bs_len]; simp; omega, backN, nds_more _ _ h, split_nds k b hb]
      rfl
theorem nds_length (l : List UInt8) : (nds l).length = l.count 10 + 1 := by
  have h := congrArg List.length (split_nds _ l rfl)
  rw [List.length_map, ← countB_bn, Lib.splitB_all ⟨#[10]⟩ (by decide) 0 _ (bs l) rfl] at h
  rw [← h, countB_bn]
/-- strings.Split at a space: the words, in a new block. -/
theorem linesN_any (l : List UInt8) (w : World) (hl : l.length ≤ 1048576) : Calls Tryz.prog 15 #[.string (bs l), .string ⟨#[10]⟩] w fun e w' =>
    e = .returned (.slice (some ⟨w.heap.size, 0, none⟩) (nds l).length (nds l).length) ∧ w' = w.alloc (.cells ((nds l).map fun x => Value.string (bs x)).toArray 9) := by
  refine (splitN_any l w hl).mono ?_
  rintro e w' ⟨rfl, hw⟩
  rw [split_nds _ l rfl, List.map_map] at hw
  exact ⟨by rw [nds_length], hw⟩
end Go.Proofs.YthlckipcgogogaaGreatDoor
/- The mathematics of PlansFaults: a text whose lines are changed. -/
namespace Go.Proofs.YthlckipcgogogaaGreatDoor
set_option linter.unusedVariables false
open Go.RowKit

def headW (p : Pn) : List (List (List UInt8)) := p.P.map (fun x => [placeW, pcL x.1.toNat, if x.2 then transferW else endW]) ++ p.L.map (fun x => [lineW, pcL x.A.toNat, pcL x.B.toNat, numL x.C.toNat, numL x.D.toNat])
def rtL (p : Pn) : List UInt8 := unw [rateW, numL p.rate.toNat]
def rmL (p : Pn) : List UInt8 := unw [roomW, numL p.room.toNat]
def mkL (p : Pn) : List UInt8 := unw [marksW, numL p.m0.toNat, numL p.m1.toNat, numL p.m2.toNat]
def headL (p : Pn) : List (List UInt8) := (headW p).map unw
/-- The lines of a plan's text. -/
def linesP (p : Pn) : List (List UInt8) := headL p ++ [rtL p, rmL p, mkL p]
def allW (p : Pn) : List (List (List UInt8)) := headW p ++ [[rateW, numL p.rate.toNat], [roomW, numL p.room.toNat], [marksW, numL p.m0.toNat, numL p.m1.toNat, numL p.m2.toNat]]
theorem linesP_W (p : Pn) : linesP p = (allW p).map unw := by simp [linesP, allW, headL, rtL, rmL, mkL]
def nlT (Ls : List (List UInt8)) : List UInt8 := Ls.flatMap fun l => l ++ [10]
theorem nlT_append (a b : List (List UInt8)) : nlT (a ++ b) = nlT a ++ nlT b := by simp [nlT]
theorem nlT_cons (a : List UInt8) (b : List (List UInt8)) : nlT (a :: b) = a ++ 10 :: nlT b := by simp [nlT]
theorem text_nl (p : Pn) : partText p 4 = nlT (linesP p) := by
  unfold partText linesP headL headW
  rw [if_pos (by decide), if_pos (by decide), if_pos (by decide), nlT_append, List.map_append, nlT_append]
  have e1 : ∀ P : List (Int × Bool), nlT ((P.map (fun x => [placeW, pcL x.1.toNat, if x.2 then transferW else endW])).map unw) = P.flatMap plText := fun P => by
    induction P with
    | nil => rfl
    | cons x P ih => rw [List.map_cons, List.map_cons, nlT_cons, ih]; simp [plText]
  have e2 : ∀ L : List Ln, nlT ((L.map (fun x => [lineW, pcL x.A.toNat, pcL x.B.toNat, numL x.C.toNat, numL x.D.toNat])).map unw) = L.flatMap lnText := fun L => by
    induction L with
    | nil => rfl
    | cons x P ih => rw [List.map_cons, List.map_cons, nlT_cons, ih]; simp [lnText]
  rw [e1, e2]
  simp [nlT, rtL, rmL, mkL]
theorem unn_nl : ∀ Ls : List (List UInt8), Ls ≠ [] → unn Ls ++ [10] = nlT Ls
  | [], h => absurd rfl h
  | [a], _ => by simp [unn, nlT]
  | a :: b :: r, _ => by
    rw [nlT_cons, ← unn_nl (b :: r) (by simp)]
    simp [unn]
theorem unn_snoc : ∀ Ls : List (List UInt8), unn (Ls ++ [[]]) = nlT Ls
  | [] => rfl
  | [a] => by simp [unn, nlT]
  | a :: b :: r => by
    rw [nlT_cons, ← unn_snoc (b :: r)]
    simp [unn]
theorem join_unn : ∀ Ls : List (List UInt8), Lib.join Ls [10] = unn Ls
  | [] => rfl
  | [a] => by simp [unn, Lib.join, List.intercalate]
  | a :: b :: r => by
    have h := join_unn (b :: r)
    simp only [Lib.join, List.intercalate] at h ⊢
    simp only [List.intersperse_cons_cons, List.flatten_cons]
    rw [h]
    simp [unn]
theorem join_unw : ∀ Ls : List (List UInt8), Lib.join Ls [32] = unw Ls
  | [] => rfl
  | [a] => by simp [unw, Lib.join, List.intercalate]
  | a :: b :: r => by
    have h := join_unw (b :: r)
    simp only [Lib.join, List.intercalate] at h ⊢
    simp only [List.intersperse_cons_cons, List.flatten_cons]
    rw [h]
    simp [unw]
/-- A keyword with as many words behind it as there must be. -/
def kwOk (w : List UInt8) (k : Nat) : Prop := (w = placeW ∧ k = 2) ∨ (w = lineW ∧ k = 4) ∨ (w = rateW ∧ k = 1) ∨ (w = roomW ∧ k = 1) ∨ (w = marksW ∧ k = 3)
def badS (w : List UInt8) (k : Nat) : Prop := (w = placeW → k ≠ 2) ∧ (w = lineW → k ≠ 4) ∧ (w = rateW → k ≠ 1) ∧ (w = roomW → k ≠ 1) ∧ (w = marksW → k ≠ 3)
theorem bad_more {w : List UInt8} {k : Nat} (h : kwOk w k) : badS w (k + 1) := by
  unfold badS
  rcases h with ⟨rfl, rfl⟩ | ⟨rfl, rfl⟩ | ⟨rfl, rfl⟩ | ⟨rfl, rfl⟩ | ⟨rfl, rfl⟩ <;> decide
theorem bad_nil (k : Nat) : badS [] k := by
  unfold badS
  refine ⟨fun h => ?_, fun h => ?_, fun h => ?_, fun h => ?_, fun h => ?_⟩ <;> exact absurd h (by decide)
theorem bad_x (w : List UInt8) (k : Nat) : badS (120 :: w) k := by
  unfold badS
  refine ⟨fun h => ?_, fun h => ?_, fun h => ?_, fun h => ?_, fun h => ?_⟩ <;> exact absurd (List.cons.inj h).1 (by decide)
theorem step_bad {p : Pn} {part : Nat} {c w : List UInt8} {r : List (List UInt8)} (hc : wds c = w :: r) (h : badS w r.length) : stepM p part c = none := by
  obtain ⟨h1, h2, h3, h4, h5⟩ := h
  unfold stepM
  rw [hc]
  simp only
  split
  · rename_i e
    split
    · rw [placeM_len (h1 e)]; rfl
    · rfl
  · split
    · rename_i e
      split
      · rw [lineM_len (h2 e)]; rfl
      · rfl
    · split
      · rename_i e
        split
        · split
          · exact absurd rfl (h3 e)
          · rfl
        · rfl
      · split
        · rename_i e
          split
          · split
            · exact absurd rfl (h4 e)
            · rfl
          · rfl
        · split
          · rename_i e
            split
            · split
              · exact absurd rfl (h5 e)
              · rfl
            · rfl
          · rfl
structure GoodW (W : List (List UInt8)) : Prop where
  shape : ∃ w r, W = w :: r ∧ kwOk w r.length
  plain : ∀ x ∈ W, noS x = true ∧ noN x = true
theorem allW_good {p : Pn} (hf : FineP p) : ∀ W ∈ allW p, GoodW W := by
  have n1 := num_S (n := p.rate.toNat) (by have := hf.rate; omega)
  have n2 := num_S (n := p.room.toNat) (by have := hf.room; omega)
  have n3 := num_S (n := p.m0.toNat) (by have := hf.m0; omega)
  have n4 := num_S (n := p.m1.toNat) (by have := hf.m1; omega)
  have n5 := num_S (n := p.m2.toNat) (by have := hf.m2; omega)
  intro W hW
  unfold allW headW at hW
  simp only [List.mem_append, List.mem_map, List.mem_cons, List.not_mem_nil, or_false] at hW
  rcases hW with (⟨x, hx, rfl⟩ | ⟨x, hx, rfl⟩) | rfl | rfl | rfl
  · have h := hf.pl x hx
    refine ⟨⟨_, _, rfl, .inl ⟨rfl, rfl⟩⟩, fun y hy => ?_⟩
    simp only [List.mem_cons, List.not_mem_nil, or_false] at hy
    rcases hy with rfl | rfl | rfl
    · exact ⟨rfl, rfl⟩
    · exact pc_S (by omega)
    · cases x.2 <;> exact ⟨rfl, rfl⟩
  · obtain ⟨h1, h2, h3, h4⟩ := hf.ln x hx
    refine ⟨⟨_, _, rfl, .inr (.inl ⟨rfl, rfl⟩)⟩, fun y hy => ?_⟩
    simp only [List.mem_cons, List.not_mem_nil, or_false] at hy
    rcases hy with rfl | rfl | rfl | rfl | rfl
    · exact ⟨rfl, rfl⟩
    · exact pc_S (by omega)
    · exact pc_S (by omega)
    · exact num_S (by omega)
    · exact num_S (by omega)
  · refine ⟨⟨_, _, rfl, .inr (.inr (.inl ⟨rfl, rfl⟩))⟩, fun y hy => ?_⟩
    simp only [List.mem_cons, List.not_mem_nil, or_false] at hy
    rcases hy with rfl | rfl
    · exact ⟨rfl, rfl⟩
    · exact n1
  · refine ⟨⟨_, _, rfl, .inr (.inr (.inr (.inl ⟨rfl, rfl⟩)))⟩, fun y hy => ?_⟩
    simp only [List.mem_cons, List.not_mem_nil, or_false] at hy
    rcases hy with rfl | rfl
    · exact ⟨rfl, rfl⟩
    · exact n2
  · refine ⟨⟨_, _, rfl, .inr (.inr (.inr (.inr ⟨rfl, rfl⟩)))⟩, fun y hy => ?_⟩
    simp only [List.mem_cons, List.not_mem_nil, or_false] at hy
    rcases hy with rfl | rfl | rfl | rfl
    · exact ⟨rfl, rfl⟩
    · exact n3
    · exact n4
    · exact n5
theorem unw_snoc : ∀ W : List (List UInt8), W ≠ [] → unw (W ++ [[]]) = unw W ++ [32]
  | [], h => absurd rfl h
  | [a], _ => by simp [unw]
  | a :: b :: r, _ => by
    have h := unw_snoc (b :: r) (by simp)
    simp only [List.cons_append] at h ⊢
    simp only [unw]
    rw [h]
    simp
theorem good_noN {W : List (List UInt8)} (h : GoodW W) : noN (unw W) = true := unw_N W fun x hx => (h.plain x hx).2
theorem good_ne {W : List (List UInt8)} (h : GoodW W) : unw W ≠ [] := by
  obtain ⟨w, r, rfl, hk⟩ := h.shape
  have hw : w ≠ [] := by rcases hk with ⟨rfl, _⟩ | ⟨rfl, _⟩ | ⟨rfl, _⟩ | ⟨rfl, _⟩ | ⟨rfl, _⟩ <;> decide
  cases r with
  | nil => exact hw
  | cons y r => intro e; simp [unw] at e
/-- The four ways to spoil a line. -/
theorem spoil0 {W : List (List UInt8)} (h : GoodW W) (p : Pn) (part : Nat) : stepM p part (unw W ++ [32]) = none := by
  obtain ⟨w, r, rfl, hk⟩ := h.shape
  refine step_bad (w := w) (r := r ++ [[]]) ?_ (by rw [List.length_append]; exact bad_more hk)
  rw [← unw_snoc _ (by simp)]
  exact wds_unw _ (by simp) fun x hx => by
    rcases List.mem_append.1 hx with hx | hx
    · exact (h.plain x hx).1
    · obtain rfl := List.mem_singleton.1 hx; rfl
theorem spoil1 {W : List (List UInt8)} (h : GoodW W) (p : Pn) (part : Nat) : stepM p part (32 :: unw W) = none := by
  obtain ⟨w, r, rfl, hk⟩ := h.shape
  refine step_bad (w := []) (r := w :: r) ?_ (bad_nil _)
  have e : 32 :: unw (w :: r) = unw ([] :: w :: r) := rfl
  rw [e]
  exact wds_unw _ (by simp) fun x hx => by
    rcases List.mem_cons.1 hx with rfl | hx
    · rfl
    · exact (h.plain x hx).1
theorem unw_head (x : UInt8) (w : List UInt8) (r : List (List UInt8)) : x :: unw (w :: r) = unw ((x :: w) :: r) := by
  cases r <;> rfl
theorem spoil2 {W : List (List UInt8)} (h : GoodW W) (p : Pn) (part : Nat) : stepM p part (120 :: unw W) = none := by
  obtain ⟨w, r, rfl, hk⟩ := h.shape
  refine step_bad (w := 120 :: w) (r := r) ?_ (bad_x _ _)
  rw [unw_head]
  exact wds_unw _ (by simp) fun x hx => by
    rcases List.mem_cons.1 hx with rfl | hx
    · have := (h.plain w (by simp)).1
      unfold noS at this ⊢
      simpa using this
    · exact (h.plain x (by simp [hx])).1
/-- The first space doubled. -/
def dblS (l : List UInt8) : List UInt8 := l.takeWhile (· != 32) ++ 32 :: (l.dropWhile (· != 32))
theorem dblS_at : ∀ (w r : List UInt8), noS w = true → dblS (w ++ 32 :: r) = w ++ 32 :: 32 :: r
  | [], r, _ => by simp [dblS]
  | c :: w, r, h => by
    simp only [noS, List.all_cons, Bool.and_eq_true, bne_iff_ne, ne_eq] at h
    have ih := dblS_at w r (by simpa [noS] using h.2)
    unfold dblS at ih ⊢
    have hc : (c != 32) = true := by simpa using h.1
    rw [List.cons_append, List.takeWhile_cons, if_pos hc, List.dropWhile_cons, if_pos hc, List.cons_append, ih]
    rfl
theorem spoil3 {W : List (List UInt8)} (h : GoodW W) (p : Pn) (part : Nat) : stepM p part (dblS (unw W)) = none := by
  obtain ⟨w, r, rfl, hk⟩ := h.shape
  cases r with
  | nil => rcases hk with ⟨_, h9⟩ | ⟨_, h9⟩ | ⟨_, h9⟩ | ⟨_, h9⟩ | ⟨_, h9⟩ <;> cases h9
  | cons y r =>
    refine step_bad (w := w) (r := [] :: y :: r) ?_ (by have := bad_more hk; simpa using this)
    have e : dblS (unw (w :: y :: r)) = unw (w :: [] :: y :: r) := by
      show dblS (w ++ 32 :: unw (y :: r)) = _
      rw [dblS_at _ _ (h.plain w (by simp)).1]
      rfl
    rw [e]
    exact wds_unw _ (by simp) fun x hx => by
      rcases List.mem_cons.1 hx with rfl | hx
      · exact (h.plain x (by simp)).1
      · rcases List.mem_cons.1 hx with rfl | hx
        · rfl
        · exact (h.plain x (List.mem_cons_of_mem _ hx)).1
/-- Reading line by line. -/
def foldS (Ls : List (List UInt8)) (st : Option (Pn × Nat)) : Option (Pn × Nat) := Ls.foldl (fun st c => st.bind fun s => stepM s.1 s.2 c) st
theorem foldS_none : ∀ Ls, foldS Ls none = none
  | [] => rfl
  | _ :: Ls => foldS_none Ls
theorem foldS_append (a b : List (List UInt8)) (st : Option (Pn × Nat)) : foldS (a ++ b) st = foldS b (foldS a st) := by simp [foldS]
theorem foldS_cons (c : List UInt8) (Ls : List (List UInt8)) (p : Pn) (part : Nat) : foldS (c :: Ls) (some (p, part)) = foldS Ls (stepM p part c) := rfl
theorem read_pre : ∀ (Ls : List (List UInt8)) (f : Nat) (s : List UInt8) (n : Nat) (p : Pn) (part : Nat) (q : Pn) (part' : Nat), (∀ l ∈ Ls, noN l = true) → foldS Ls (some (p, part)) = some (q, part') →
    readF (f + Ls.length) (nlT Ls ++ s) n p part = readF f s (n + Ls.length) q part'
  | [], f, s, n, p, part, q, part', _, h => by
    obtain ⟨rfl, rfl⟩ := Prod.mk.inj (Option.some.inj h)
    rfl
  | c :: Ls, f, s, n, p, part, q, part', hn, h => by
    rw [foldS_cons] at h
    cases hs : stepM p part c with
    | none => rw [hs, foldS_none] at h; cases h
    | some m =>
      obtain ⟨p2, part2⟩ := m
      rw [hs] at h
      rw [nlT_cons, List.length_cons, show f + (Ls.length + 1) = (f + Ls.length) + 1 by omega, List.append_assoc, List.cons_append, readF_line _ _ _ n p p2 part part2 (hn c (by simp)) hs]
      rw [read_pre Ls f s (n + 1) p2 part2 q part' (fun l hl => hn l (by simp [hl])) h, show n + 1 + Ls.length = n + (Ls.length + 1) by omega]
theorem read_stop (f : Nat) (c rest : List UInt8) (n : Nat) (p : Pn) (part : Nat) (hc : c ≠ []) (hn : noN c = true) (hs : stepM p part c = none) : readF (f + 1) (c ++ 10 :: rest) n p part = .fault (n + 1) := by
  obtain ⟨e1, e2⟩ := take_nl c rest hn
  rw [readF, if_neg (by simp [hc]), e1, e2, if_neg (by simp), hs]
theorem fault_gen (pre : List (List UInt8)) (q : Pn) (part : Nat) (hn : ∀ l ∈ pre, noN l = true) (hf : foldS pre (some (emptyPn, 0)) = some (q, part)) (c rest : List UInt8) (hc : c ≠ []) (hcn : noN c = true) (hs : stepM q part c = none) :
    ∀ s, s = nlT pre ++ (c ++ 10 :: rest) → readF s.length s 0 emptyPn 0 = .fault (pre.length + 1) := by
  intro s e
  have h := read_pre pre (s.length + 1) (c ++ 10 :: rest) 0 emptyPn 0 q part hn hf
  rw [← e, read_stop _ _ _ _ _ _ hc hcn hs, Nat.zero_add] at h
  rw [← readF_any 0 emptyPn 0 (f := s.length + 1 + pre.length) (by omega)]
  exact h
theorem cut_gen (pre : List (List UInt8)) (q : Pn) (part : Nat) (hn : ∀ l ∈ pre, noN l = true) (hf : foldS pre (some (emptyPn, 0)) = some (q, part)) (h4 : part ≠ 4) :
    readF (nlT pre).length (nlT pre) 0 emptyPn 0 = .fault (pre.length + 1) := by
  have h := read_pre pre (nlT pre).length [] 0 emptyPn 0 q part hn hf
  rw [List.append_nil, Nat.zero_add] at h
  rw [← readF_any 0 emptyPn 0 (f := (nlT pre).length + pre.length) (by omega), h]
  cases (nlT pre).length with
  | zero => unfold readF; rw [if_neg (fun h => h4 h.2)]
  | succ k => unfold readF; rw [if_pos rfl, if_neg h4]
theorem plan_gen (pre : List (List UInt8)) (q : Pn) (hn : ∀ l ∈ pre, noN l = true) (hf : foldS pre (some (emptyPn, 0)) = some (q, 4)) : readF (nlT pre).length (nlT pre) 0 emptyPn 0 = .plan q := by
  have h := read_pre pre (nlT pre).length [] 0 emptyPn 0 q 4 hn hf
  rw [List.append_nil, Nat.zero_add] at h
  rw [← readF_any 0 emptyPn 0 (f := (nlT pre).length + pre.length) (by omega), h]
  cases (nlT pre).length with
  | zero => unfold readF; rw [if_pos ⟨rfl, rfl⟩]
  | succ k => unfold readF; rw [if_pos rfl, if_pos rfl]
theorem fold_places : ∀ (P : List (Int × Bool)) (p : Pn), (∀ x ∈ P, 0 ≤ x.1 ∧ x.1 ≤ 16383) → foldS ((P.map (fun x => [placeW, pcL x.1.toNat, if x.2 then transferW else endW])).map unw) (some (p, 0)) = some ({ p with P := p.P ++ P }, 0)
  | [], p, _ => by simp [foldS]
  | x :: P, p, h => by
    have hx := h x (by simp)
    rw [List.map_cons, List.map_cons, foldS_cons, step_place p x.1.toNat x.2 (by omega), fold_places P _ fun y hy => h y (List.mem_cons_of_mem _ hy)]
    rw [show ((x.1.toNat : Nat) : Int) = x.1 by omega]
    simp
theorem fold_lines : ∀ (L : List Ln) (p : Pn) (part : Nat), part ≤ 1 → (∀ x ∈ L, (0 ≤ x.A ∧ x.A ≤ 16383) ∧ (0 ≤ x.B ∧ x.B ≤ 16383) ∧ (0 ≤ x.C ∧ x.C < 256) ∧ (0 ≤ x.D ∧ x.D < 256)) →
    ∃ part', part' ≤ 1 ∧ foldS ((L.map (fun x => [lineW, pcL x.A.toNat, pcL x.B.toNat, numL x.C.toNat, numL x.D.toNat])).map unw) (some (p, part)) = some ({ p with L := p.L ++ L }, part')
  | [], p, part, hp, _ => ⟨part, hp, by simp [foldS]⟩
  | x :: L, p, part, hp, h => by
    obtain ⟨h1, h2, h3, h4⟩ := h x (by simp)
    obtain ⟨part', hp', hl⟩ := fold_lines L { p with L := p.L ++ [x] } 1 (by omega) fun y hy => h y (List.mem_cons_of_mem _ hy)
    refine ⟨part', hp', ?_⟩
    rw [List.map_cons, List.map_cons, foldS_cons, step_line p part x.A.toNat x.B.toNat x.C.toNat x.D.toNat hp (by omega) (by omega) (by omega) (by omega)]
    have e : (⟨((x.A.toNat : Nat) : Int), ((x.B.toNat : Nat) : Int), ((x.C.toNat : Nat) : Int), ((x.D.toNat : Nat) : Int)⟩ : Ln) = x := by
      cases x; simp only [Ln.mk.injEq]; simp only at h1 h2 h3 h4; omega
    rw [e, hl]
    simp
theorem fold_head {p : Pn} (hf : FineP p) : ∃ part, part ≤ 1 ∧ foldS (headL p) (some (emptyPn, 0)) = some ({ emptyPn with P := p.P, L := p.L }, part) := by
  obtain ⟨part, h1, h2⟩ := fold_lines p.L { emptyPn with P := p.P } 0 (by omega) hf.ln
  refine ⟨part, h1, ?_⟩
  unfold headL headW
  rw [List.map_append, foldS_append, fold_places p.P emptyPn hf.pl]
  simp only [emptyPn, List.nil_append] at h2 ⊢
  exact h2
theorem fold_rate {p : Pn} (hf : FineP p) : foldS (headL p ++ [rtL p]) (some (emptyPn, 0)) = some ({ emptyPn with P := p.P, L := p.L, rate := p.rate }, 2) := by
  obtain ⟨part, h1, h2⟩ := fold_head hf
  rw [foldS_append, h2, foldS_cons]
  have hr := hf.rate
  unfold rtL
  rw [step_rate _ part p.rate.toNat (by omega) (by omega), show ((p.rate.toNat : Nat) : Int) = p.rate by omega]
  rfl
theorem fold_room {p : Pn} (hf : FineP p) : foldS (headL p ++ [rtL p, rmL p]) (some (emptyPn, 0)) = some ({ emptyPn with P := p.P, L := p.L, rate := p.rate, room := p.room }, 3) := by
  rw [show headL p ++ [rtL p, rmL p] = (headL p ++ [rtL p]) ++ [rmL p] by simp, foldS_append, fold_rate hf, foldS_cons]
  have hr := hf.room
  unfold rmL
  rw [step_room _ p.room.toNat (by omega), show ((p.room.toNat : Nat) : Int) = p.room by omega]
  rfl
theorem fold_full {p : Pn} (hf : FineP p) : foldS (linesP p) (some (emptyPn, 0)) = some (p, 4) := by
  unfold linesP
  rw [show headL p ++ [rtL p, rmL p, mkL p] = (headL p ++ [rtL p, rmL p]) ++ [mkL p] by simp, foldS_append, fold_room hf, foldS_cons]
  have h1 := hf.m0
  have h2 := hf.m1
  have h3 := hf.m2
  unfold mkL
  rw [step_marks _ p.m0.toNat p.m1.toNat p.m2.toNat (by omega) (by omega) (by omega), show ((p.m0.toNat : Nat) : Int) = p.m0 by omega, show ((p.m1.toNat : Nat) : Int) = p.m1 by omega, show ((p.m2.toNat : Nat) : Int) = p.m2 by omega]
  rfl
/-- Behind the marks nothing may follow. -/
theorem step_four (p : Pn) (c : List UInt8) : stepM p 4 c = none := by
  unfold stepM
  split
  · rfl
  · split
    · rw [if_neg (by omega)]
    · split
      · rw [if_neg (by omega)]
      · split
        · rw [if_neg (by omega)]
        · split
          · rw [if_neg (by omega)]
          · split
            · rw [if_neg (by omega)]
            · rfl
theorem fold_take {p : Pn} (hf : FineP p) (i : Nat) : ∃ q part, foldS ((linesP p).take i) (some (emptyPn, 0)) = some (q, part) ∧ (i < (linesP p).length → part ≠ 4) := by
  have h := fold_full hf
  rw [← List.take_append_drop i (linesP p), foldS_append] at h
  cases hs : foldS ((linesP p).take i) (some (emptyPn, 0)) with
  | none => rw [hs, foldS_none] at h; cases h
  | some m =>
    obtain ⟨q, part⟩ := m
    refine ⟨q, part, rfl, fun hi e => ?_⟩
    subst e
    rw [hs] at h
    cases hd : (linesP p).drop i with
    | nil => have := congrArg List.length hd; simp at this; omega
    | cons c r => rw [hd, foldS_cons, step_four, foldS_none] at h; cases h
theorem lines_noN {p : Pn} (hf : FineP p) : ∀ l ∈ linesP p, noN l = true := fun l hl => by
  rw [linesP_W] at hl
  obtain ⟨W, hW, rfl⟩ := List.mem_map.1 hl
  exact good_noN (allW_good hf W hW)
end Go.Proofs.YthlckipcgogogaaGreatDoor
/- What reading finds in a changed text, case by case. -/
namespace Go.Proofs.YthlckipcgogogaaGreatDoor
set_option linter.unusedVariables false
open Go.RowKit

/-- Reading a text: the fault of a line, or a plan that is not valid. -/
def ResF (s : List UInt8) (E : Int) (K : Nat) : Prop := (readF s.length s 0 emptyPn 0 = .fault K ∧ E = 4) ∨ (∃ q, readF s.length s 0 emptyPn 0 = .plan q ∧ chkPl q = 1 ∧ E = 1 ∧ K = 0)
theorem linesP_len (p : Pn) : (linesP p).length = (headL p).length + 3 := by simp [linesP]
theorem headL_len (p : Pn) : (headL p).length = p.P.length + p.L.length := by simp [headL, headW]
theorem set_nl (LL : List (List UInt8)) (j : Nat) (c : List UInt8) (hj : j < LL.length) : nlT (LL.set j c) = nlT (LL.take j) ++ (c ++ 10 :: nlT (LL.drop (j + 1))) := by
  rw [List.set_eq_take_append_cons_drop, if_pos hj, nlT_append, nlT_cons]
theorem res_set {p : Pn} (hf : FineP p) (j : Nat) (c : List UInt8) (hj : j < (linesP p).length) (hc : c ≠ []) (hn : noN c = true) (hs : ∀ q part, stepM q part c = none) : ResF (nlT ((linesP p).set j c)) 4 (j + 1) := by
  obtain ⟨q, part, h1, _⟩ := fold_take hf j
  have h := fault_gen ((linesP p).take j) q part (fun l hl => lines_noN hf l (List.mem_of_mem_take hl)) h1 c _ hc hn (hs q part) _ (set_nl (linesP p) j c hj)
  rw [List.length_take, Nat.min_eq_left (Nat.le_of_lt hj)] at h
  exact .inl ⟨h, rfl⟩
theorem line_W {p : Pn} (hf : FineP p) {j : Nat} (hj : j < (linesP p).length) : ∃ W, GoodW W ∧ (linesP p).getD j [] = unw W := by
  have e := linesP_W p
  have hj2 : j < (allW p).length := by rw [e] at hj; simpa using hj
  refine ⟨(allW p)[j], allW_good hf _ (List.getElem_mem hj2), ?_⟩
  rw [e, List.getD_eq_getElem?_getD, List.getElem?_map, List.getElem?_eq_getElem hj2]
  rfl
theorem noN_cat {a b : List UInt8} (h1 : noN a = true) (h2 : noN b = true) : noN (a ++ b) = true := by
  unfold noN at *; rw [List.all_append, h1, h2]; rfl
theorem dblS_noN {l : List UInt8} (h : noN l = true) : noN (dblS l) = true := by
  unfold dblS
  have h0 := List.takeWhile_append_dropWhile (p := (· != (32 : UInt8))) (l := l)
  rw [← h0] at h
  unfold noN at h ⊢
  rw [List.all_append, Bool.and_eq_true] at h
  rw [List.all_append, List.all_cons, h.1, h.2]
  rfl
theorem res0 {p : Pn} (hf : FineP p) {j : Nat} (hj : j < (linesP p).length) : ResF (nlT ((linesP p).set j ((linesP p).getD j [] ++ [32]))) 4 (j + 1) := by
  obtain ⟨W, hW, e⟩ := line_W hf hj
  rw [e]
  exact res_set hf j _ hj (by simp) (noN_cat (good_noN hW) rfl) (spoil0 hW)
theorem res1 {p : Pn} (hf : FineP p) {j : Nat} (hj : j < (linesP p).length) : ResF (nlT ((linesP p).set j (32 :: (linesP p).getD j []))) 4 (j + 1) := by
  obtain ⟨W, hW, e⟩ := line_W hf hj
  rw [e]
  exact res_set hf j _ hj (by simp) (noN_cat (a := [32]) rfl (good_noN hW)) (spoil1 hW)
theorem res2 {p : Pn} (hf : FineP p) {j : Nat} (hj : j < (linesP p).length) : ResF (nlT ((linesP p).set j (120 :: (linesP p).getD j []))) 4 (j + 1) := by
  obtain ⟨W, hW, e⟩ := line_W hf hj
  rw [e]
  exact res_set hf j _ hj (by simp) (noN_cat (a := [120]) rfl (good_noN hW)) (spoil2 hW)
theorem res3 {p : Pn} (hf : FineP p) {j : Nat} (hj : j < (linesP p).length) : ResF (nlT ((linesP p).set j (dblS ((linesP p).getD j [])))) 4 (j + 1) := by
  obtain ⟨W, hW, e⟩ := line_W hf hj
  rw [e]
  exact res_set hf j _ hj (by simp [dblS]) (dblS_noN (good_noN hW)) (spoil3 hW)
theorem res4 {p : Pn} (hf : FineP p) {j : Nat} (hj : j < (linesP p).length) : ResF (nlT ((linesP p).take j)) 4 (j + 1) := by
  obtain ⟨q, part, h1, h2⟩ := fold_take hf j
  have h := cut_gen ((linesP p).take j) q part (fun l hl => lines_noN hf l (List.mem_of_mem_take hl)) h1 (h2 hj)
  rw [List.length_take, Nat.min_eq_left (Nat.le_of_lt hj)] at h
  exact .inl ⟨h, rfl⟩
def rate1 : List UInt8 := [114, 97, 116, 101, 32, 49]
theorem res5 {p : Pn} (hf : FineP p) : ResF (nlT (linesP p ++ [rate1])) 4 ((linesP p).length + 1) := by
  have h := fault_gen (linesP p) p 4 (lines_noN hf) (fold_full hf) rate1 [] (by decide) rfl (step_four _ _) (nlT (linesP p ++ [rate1])) (by rw [nlT_append, nlT_cons]; rfl)
  exact .inl ⟨h, rfl⟩
def marks7 : List UInt8 := [109, 97, 114, 107, 115, 32, 49, 32, 50, 32, 49, 50, 51, 52, 53, 54, 55]
theorem step_marks7 (q : Pn) (part : Nat) : stepM q part marks7 = none := by
  have hw : wds marks7 = [marksW, [49], [50], [49, 50, 51, 52, 53, 54, 55]] := by decide
  have h3 : numO [49, 50, 51, 52, 53, 54, 55] = none := by decide
  unfold stepM
  rw [hw]
  simp only
  rw [if_neg (by decide), if_neg (by decide), if_neg (by decide), if_neg (by decide), if_pos trivial]
  split
  · rw [h3]
    split
    · rename_i h _ _ e; cases e
    · rfl
  · rfl
theorem res6 {p : Pn} (hf : FineP p) : ResF (nlT ((linesP p).set ((linesP p).length - 1) marks7)) 4 (linesP p).length := by
  have hl := linesP_len p
  have h := res_set hf ((linesP p).length - 1) marks7 (by omega) (by decide) rfl step_marks7
  rw [show (linesP p).length - 1 + 1 = (linesP p).length by omega] at h
  exact h
theorem chk_numF {p q : Pn} (hv : ValidPl p) (hP : q.P = p.P) (hL : q.L = p.L) (hn : okNum q = false) : chkPl q = 1 := by
  have h1 := hv.np
  have h2 := hv.nl
  have h3 := hv.n0
  unfold chkPl
  rw [hP, hL, if_neg (by omega), if_neg (by omega), if_pos (all_range.2 hv.pl), if_pos (all_range.2 hv.ln), if_pos (all_range.2 hv.en), hn]
  rfl
theorem set_last (a : List (List UInt8)) (x y z c : List UInt8) : (a ++ [x, y, z]).set ((a ++ [x, y, z]).length - 1) c = a ++ [x, y, c] := by
  rw [List.set_append_right _ _ (by simp)]
  simp only [List.length_append, List.length_cons, List.length_nil]
  rw [show a.length + (0 + 1 + 1 + 1) - 1 - a.length = 2 by omega]
  rfl
theorem set_third (a : List (List UInt8)) (x y z c : List UInt8) : (a ++ [x, y, z]).set ((a ++ [x, y, z]).length - 3) c = a ++ [c, y, z] := by
  rw [List.set_append_right _ _ (by simp)]
  simp only [List.length_append, List.length_cons, List.length_nil]
  rw [show a.length + (0 + 1 + 1 + 1) - 3 - a.length = 0 by omega]
  rfl
theorem set_second (a : List (List UInt8)) (x y z c : List UInt8) : (a ++ [x, y, z]).set ((a ++ [x, y, z]).length - 2) c = a ++ [x, c, z] := by
  rw [List.set_append_right _ _ (by simp)]
  simp only [List.length_append, List.length_cons, List.length_nil]
  rw [show a.length + (0 + 1 + 1 + 1) - 2 - a.length = 1 by omega]
  rfl
theorem head_noN {p : Pn} (hf : FineP p) : ∀ l ∈ headL p, noN l = true := fun l hl => lines_noN hf l (by unfold linesP; simp [hl])
theorem tail_noN {p : Pn} (hf : FineP p) : noN (rtL p) = true ∧ noN (rmL p) = true ∧ noN (mkL p) = true :=
  ⟨lines_noN hf _ (by unfold linesP; simp), lines_noN hf _ (by unfold linesP; simp), lines_noN hf _ (by unfold linesP; simp)⟩
theorem three_noN {p : Pn} (hf : FineP p) {x y z : List UInt8} (h1 : noN x = true) (h2 : noN y = true) (h3 : noN z = true) : ∀ l ∈ headL p ++ [x, y, z], noN l = true := fun l hl => by
  rcases List.mem_append.1 hl with hl | hl
  · exact head_noN hf l hl
  · simp only [List.mem_cons, List.not_mem_nil, or_false] at hl
    rcases hl with rfl | rfl | rfl
    · exact h1
    · exact h2
    · exact h3
def marks3 : List UInt8 := [109, 97, 114, 107, 115, 32, 51, 32, 50, 32, 49]
theorem res7 {p : Pn} (hf : FineP p) (hv : ValidPl p) : ResF (nlT ((linesP p).set ((linesP p).length - 1) marks3)) 1 0 := by
  obtain ⟨h1, h2, h3⟩ := tail_noN hf
  have e : (linesP p).set ((linesP p).length - 1) marks3 = headL p ++ [rtL p, rmL p, marks3] := set_last _ _ _ _ _
  have hfold : foldS (headL p ++ [rtL p, rmL p, marks3]) (some (emptyPn, 0)) = some ({ p with m0 := 3, m1 := 2, m2 := 1 }, 4) := by
    rw [show headL p ++ [rtL p, rmL p, marks3] = (headL p ++ [rtL p, rmL p]) ++ [marks3] by simp, foldS_append, fold_room hf, foldS_cons, show marks3 = unw [marksW, numL 3, numL 2, numL 1] by decide, step_marks _ 3 2 1 (by omega) (by omega) (by omega)]
    rfl
  rw [e]
  exact .inr ⟨_, plan_gen _ _ (three_noN hf h1 h2 rfl) hfold, chk_numF hv rfl rfl (by simp [okNum]), rfl, rfl⟩
def rate0 : List UInt8 := [114, 97, 116, 101, 32, 48]
theorem res8 {p : Pn} (hf : FineP p) (hv : ValidPl p) : ResF (nlT ((linesP p).set ((linesP p).length - 3) rate0)) 1 0 := by
  obtain ⟨h1, h2, h3⟩ := tail_noN hf
  have e : (linesP p).set ((linesP p).length - 3) rate0 = headL p ++ [rate0, rmL p, mkL p] := set_third _ _ _ _ _
  have q1 := hf.room
  have q2 := hf.m0
  have q3 := hf.m1
  have q4 := hf.m2
  have hfold : foldS (headL p ++ [rate0, rmL p, mkL p]) (some (emptyPn, 0)) = some ({ p with rate := 0 }, 4) := by
    obtain ⟨part, g1, g2⟩ := fold_head hf
    rw [foldS_append, g2, foldS_cons, show rate0 = unw [rateW, numL 0] by decide, step_rate _ part 0 (by omega) (by omega), foldS_cons]
    unfold rmL
    rw [step_room _ p.room.toNat (by omega), foldS_cons]
    unfold mkL
    rw [step_marks _ p.m0.toNat p.m1.toNat p.m2.toNat (by omega) (by omega) (by omega), show ((p.room.toNat : Nat) : Int) = p.room by omega, show ((p.m0.toNat : Nat) : Int) = p.m0 by omega, show ((p.m1.toNat : Nat) : Int) = p.m1 by omega, show ((p.m2.toNat : Nat) : Int) = p.m2 by omega]
    rfl
  rw [e]
  exact .inr ⟨_, plan_gen _ _ (three_noN hf rfl h2 h3) hfold, chk_numF hv rfl rfl (by simp [okNum]), rfl, rfl⟩
theorem marks_two (q : Pn) (x : List (List UInt8)) (c : List UInt8) (hc : wds c = marksW :: x) : stepM q 2 c = none := by
  unfold stepM
  rw [hc]
  simp only
  rw [if_neg (by decide), if_neg (by decide), if_neg (by decide), if_neg (by decide), if_pos trivial, if_neg (by decide)]
theorem two_noN {p : Pn} (hf : FineP p) : ∀ l ∈ headL p ++ [rtL p], noN l = true := fun l hl => by
  rcases List.mem_append.1 hl with hl | hl
  · exact head_noN hf l hl
  · obtain rfl := List.mem_singleton.1 hl
    exact (tail_noN hf).1
theorem res9 {p : Pn} (hf : FineP p) : ResF (nlT ((linesP p).take ((linesP p).length - 2) ++ [(linesP p).getD ((linesP p).length - 1) []])) 4 ((linesP p).length - 1) := by
  obtain ⟨h1, h2, h3⟩ := tail_noN hf
  have e : (linesP p).take ((linesP p).length - 2) ++ [(linesP p).getD ((linesP p).length - 1) []] = headL p ++ [rtL p, mkL p] := by
    have hl := linesP_len p
    rw [hl]
    unfold linesP
    rw [List.take_append, show (headL p).length + 3 - 2 - (headL p).length = 1 by omega, List.take_of_length_le (by omega), List.getD_eq_getElem?_getD, List.getElem?_append_right (by omega), show (headL p).length + 3 - 1 - (headL p).length = 2 by omega]
    simp
  obtain ⟨W, hW, eW⟩ : ∃ W, GoodW W ∧ mkL p = unw W := ⟨_, allW_good hf [marksW, numL p.m0.toNat, numL p.m1.toNat, numL p.m2.toNat] (by unfold allW; simp), rfl⟩
  have hmk : wds (mkL p) = marksW :: [numL p.m0.toNat, numL p.m1.toNat, numL p.m2.toNat] := wds_unw _ (by simp) fun x hx => ((allW_good hf [marksW, numL p.m0.toNat, numL p.m1.toNat, numL p.m2.toNat] (by unfold allW; simp)).plain x hx).1
  have h := fault_gen (headL p ++ [rtL p]) _ 2 (two_noN hf) (fold_rate hf) (mkL p) [] (by rw [eW]; exact good_ne hW) h3 (marks_two _ _ _ hmk) (nlT (headL p ++ [rtL p, mkL p])) (by rw [show headL p ++ [rtL p, mkL p] = (headL p ++ [rtL p]) ++ [mkL p] by simp, nlT_append, nlT_cons]; rfl)
  rw [e, linesP_len]
  rw [List.length_append] at h
  exact .inl ⟨h, rfl⟩
theorem rate_two (q : Pn) : stepM q 2 rate1 = none := by
  have hw : wds rate1 = [rateW, [49]] := by decide
  unfold stepM
  rw [hw]
  simp only
  rw [if_neg (by decide), if_neg (by decide), if_pos trivial, if_neg (by omega)]
theorem res10 {p : Pn} (hf : FineP p) : ResF (nlT ((linesP p).set ((linesP p).length - 2) rate1)) 4 ((linesP p).length - 1) := by
  have e : (linesP p).set ((linesP p).length - 2) rate1 = headL p ++ [rtL p, rate1, mkL p] := set_second _ _ _ _ _
  have h := fault_gen (headL p ++ [rtL p]) _ 2 (two_noN hf) (fold_rate hf) rate1 (nlT [mkL p]) (by decide) rfl (rate_two _) (nlT (headL p ++ [rtL p, rate1, mkL p])) (by rw [show headL p ++ [rtL p, rate1, mkL p] = (headL p ++ [rtL p]) ++ [rate1, mkL p] by simp, nlT_append, nlT_cons])
  rw [e, linesP_len]
  rw [List.length_append] at h
  exact .inl ⟨h, rfl⟩
/-- The last line between places, and what its number becomes. -/
theorem last_line {p : Pn} (hm : 0 < p.L.length) : ∃ x ∈ p.L, (linesP p).getD ((linesP p).length - 4) [] = unw [lineW, pcL x.A.toNat, pcL x.B.toNat, numL x.C.toNat, numL x.D.toNat] := by
  have hl := linesP_len p
  have hh := headL_len p
  obtain ⟨L', x, hL⟩ : ∃ L' x, p.L = L' ++ [x] := by
    rcases List.eq_nil_or_concat p.L with h | ⟨L', x, h⟩
    · rw [h] at hm; simp at hm
    · exact ⟨L', x, by rw [h, List.concat_eq_append]⟩
  refine ⟨x, by rw [hL]; simp, ?_⟩
  have e : linesP p = ((p.P.map (fun x => [placeW, pcL x.1.toNat, if x.2 then transferW else endW]) ++ L'.map (fun x => [lineW, pcL x.A.toNat, pcL x.B.toNat, numL x.C.toNat, numL x.D.toNat])).map unw) ++ [unw [lineW, pcL x.A.toNat, pcL x.B.toNat, numL x.C.toNat, numL x.D.toNat], rtL p, rmL p, mkL p] := by
    unfold linesP headL headW
    rw [hL]
    simp
  rw [hL, List.length_append] at hh
  rw [hl, hh, e, List.getD_eq_getElem?_getD, List.getElem?_append_right (by simp)]
  simp only [List.length_map, List.length_append, List.length_cons, List.length_nil]
  rw [show p.P.length + (L'.length + (0 + 1)) + 3 - 4 - (p.P.length + L'.length) = 0 by omega]
  rfl
def n256 : List UInt8 := [50, 53, 54]
theorem step_256 (q : Pn) (part : Nat) (a b d : List UInt8) (hc : ∀ x ∈ [lineW, a, b, n256, d], noS x = true) : stepM q part (unw [lineW, a, b, n256, d]) = none := by
  have hw : wds (unw [lineW, a, b, n256, d]) = [lineW, a, b, n256, d] := wds_unw _ (by simp) hc
  have h3 : numO n256 = some 256 := by decide
  have hl : lineM q [a, b, n256, d] = none := by
    unfold lineM
    simp only
    rw [h3]
    cases pointO a <;> cases pointO b <;> cases numO d <;> rfl
  unfold stepM
  rw [hw]
  simp only
  rw [if_neg (by decide), if_pos trivial]
  split
  · rw [hl]; rfl
  · rfl
theorem res11 {p : Pn} (hf : FineP p) {x : Ln} (hx : x ∈ p.L) (hm : 0 < p.L.length) : ResF (nlT ((linesP p).set ((linesP p).length - 4) (unw [lineW, pcL x.A.toNat, pcL x.B.toNat, n256, numL x.D.toNat]))) 4 ((linesP p).length - 4 + 1) := by
  have hl := linesP_len p
  have hh := headL_len p
  obtain ⟨h1, h2, h3, h4⟩ := hf.ln x hx
  have hp : ∀ y ∈ [lineW, pcL x.A.toNat, pcL x.B.toNat, n256, numL x.D.toNat], noS y = true ∧ noN y = true := fun y hy => by
    simp only [List.mem_cons, List.not_mem_nil, or_false] at hy
    rcases hy with rfl | rfl | rfl | rfl | rfl
    · exact ⟨rfl, rfl⟩
    · exact pc_S (by omega)
    · exact pc_S (by omega)
    · exact ⟨rfl, rfl⟩
    · exact num_S (by omega)
  exact res_set hf _ _ (by omega) (by simp [unw, lineW]) (unw_N _ fun y hy => (hp y hy).2) fun q part => step_256 q part _ _ _ fun y hy => (hp y hy).1
end Go.Proofs.YthlckipcgogogaaGreatDoor
/- Contracts: strings.TrimSuffix at a line feed, strings.Replace of the first space. -/
namespace Go.Proofs.YthlckipcgogogaaGreatDoor
set_option linter.unusedVariables false
open Go.RowKit Go.Shelf

set_option maxRecDepth 100000 in
theorem trim0_any (c : List UInt8) (w : World) (hc : c.length ≤ 1048576) : Calls Tryz.prog 55 #[.string (bs (c ++ [10])), .string ⟨#[10]⟩] w fun e w' => e = .returned (.string (bs c)) ∧ w' = w := by
  have HI := Lib.hid (hassuf_snoc c 10 w hc)
  have hs : (bs (c ++ [10])).size = c.length + 1 := by rw [bs_len]; simp
  have hsl : ∀ w, (Instr.slice 9 (.string (bs (c ++ [10]))) none (some (.int .i64 (c.length : Int))) none).run Tryz.prog w = .ok (.string (bs c)) w := fun w => by
    rw [run_slice_string_h w 9 _ Tryz.underlying9 .i64 (c.length : Int) (by omega) (by rw [hs]; omega), Int.toNat_natCast]
    congr 2
    apply bs_of
    simp [bs]
  have hx1 : (bs (c ++ [10])).extract 0 c.length = bs c := by
    apply bs_of
    simp [bs]
  have h5 : ((10 : UInt8) == 10) = true := rfl
  rw [h5] at HI
  obtain ⟨S, hS⟩ : ∃ S, S = bs (c ++ [10]) := ⟨_, rfl⟩
  obtain ⟨T, hT⟩ : ∃ T, T = bs c := ⟨_, rfl⟩
  obtain ⟨m, hm⟩ : ∃ m : Nat, m = c.length := ⟨_, rfl⟩
  rw [← hS, ← hm] at hs hsl hx1
  rw [← hS] at HI
  rw [← hT] at hsl hx1
  rw [← hS, ← hT]
  have h1 : IntKind.i64.wrap ((m : Int) + 1 - 1) = (m : Int) := by rw [show (m : Int) + 1 - 1 = m by omega]; exact IntWalk.i64_in _ (by omega)
  have h4 : wrap64 (m : Int) = m := by rw [← IntWalk.i64_left]; exact IntWalk.i64_in _ (by omega)
  clear hS hT hm h5
  go_enter Tryz.func55, Tryz.ntmps55
  go_wp2_with fail
  refine HI.out.mono ?_
  rintro e w' ⟨rfl, hw⟩
  subst hw
  go_wp2
  go_ret
  exact ⟨rfl, rfl⟩
theorem trim_any (c : List UInt8) (w : World) (hc : c.length ≤ 1048576) : Calls Tryz.prog 16 #[.string (bs (c ++ [10])), .string ⟨#[10]⟩] w fun e w' => e = .returned (.string (bs c)) ∧ w' = w := by
  have HI := Lib.hid (trim0_any c w hc)
  go_enter Tryz.func16, Tryz.ntmps16
  go_wp2_with fail
  refine HI.out.mono ?_
  rintro e w' ⟨rfl, hw⟩
  subst hw
  go_wp2
  go_ret
  exact ⟨rfl, rfl⟩
theorem count32_any (s : List UInt8) (w : World) : Calls Tryz.prog 13 #[.string (bs s), .string ⟨#[32]⟩] w fun e w' => e = .returned (.int .i64 ((s.count 32 : Nat) : Int)) ∧ w = w' := by
  refine (Any.strings_Count_one { lay221 with } (bs s) 32 w).mono fun e w' ⟨he, hw⟩ => ⟨?_, hw.symm⟩
  rw [he]
  unfold Lib.countByte
  rw [bs_toList]
theorem index32_any (a b : List UInt8) (w : World) (ha : noS a = true) : Calls Tryz.prog 49 #[.string (bs (a ++ 32 :: b)), .string ⟨#[32]⟩] w fun e w' => e = .returned (.int .i64 ((a.length : Nat) : Int)) ∧ w = w' := by
  refine (Any.strings_Index_one { lay221 with } (bs (a ++ 32 :: b)) 32 w).mono fun e w' ⟨he, hw⟩ => ⟨?_, hw.symm⟩
  rw [he, bs_toList, index32_at a b ha]
theorem grow_any (b n : Nat) (w : World) (hbk : w.heap[b]? = some (.cells #[.pointer none, .slice none 0 0] 82 (0, 0))) (hn : n ≤ 281474976710656) :
    Calls Tryz.prog 56 #[.pointer (some ⟨b, 0, none⟩), .int .i64 n] w fun e w' => e = .returned (.tuple #[]) ∧ (Lib.BuilderAt 82 5 b b (.pointer (some ⟨b, 0, none⟩)) [] w' ∧ Below b w w') :=
  Any.Builder_Grow_fresh { layays156 with } ext156 b b n w (Nat.le_refl _) hbk (Nat.le_of_lt (Array.getElem?_eq_some_iff.1 hbk).1) hn
abbrev IsBd (b : Nat) (l : List UInt8) (w : World) : Prop := Lib.IsBuilder 82 5 b b (Lib.byteCells l) w
theorem write_b (b : Nat) (l x : List UInt8) (w : World) (h : IsBd b l w) (hlen : l.length + x.length ≤ 100000000) (hb : b ≤ w.heap.size) :
    Calls Tryz.prog 31 #[.pointer (some ⟨b, 0, none⟩), .string (bs x)] w fun e w' => e = .returned (.tuple #[.int .i64 (x.length : Nat), .nilIface]) ∧ IsBd b (l ++ x) w' ∧ Below b w w' := by
  refine (write_string b b (Lib.byteCells l) (bs x) w h (by rw [Lib.byteCells_length, bs_len]; omega) hb).mono fun e w' ⟨h1, h2, h3⟩ => ⟨?_, ?_, h3⟩
  · rw [h1, bs_len]
  · have h4 : Lib.BuilderAt 82 5 b b (.pointer (some ⟨b, 0, none⟩)) (Lib.byteCells (l ++ x)) w' := by
      rw [Lib.strCells_eq, bs_toList, ← Lib.byteCells_append] at h2
      exact h2
    exact .inr h4
set_option maxHeartbeats 4000000 in
set_option maxRecDepth 100000 in
theorem replace_any (a b : List UInt8) (w : World) (ha : noS a = true) (hl : a.length + b.length ≤ 1000000) :
    Calls Tryz.prog 17 #[.string (bs (a ++ 32 :: b)), .string ⟨#[32]⟩, .string ⟨#[32, 32]⟩, .int .i64 1] w fun e w' => e = .returned (.string (bs (a ++ 32 :: 32 :: b))) ∧ Below w.heap.size w w' := by
  have hsz : (bs (a ++ 32 :: b)).size = a.length + b.length + 1 := by rw [bs_len]; simp; omega
  have HC := Lib.hid (count32_any (a ++ 32 :: b) w)
  have hcn1 : 1 ≤ (a ++ 32 :: b).count 32 := by rw [List.count_append, List.count_cons]; simp; omega
  obtain ⟨cn, hcn⟩ : ∃ c, c = (a ++ 32 :: b).count 32 := ⟨_, rfl⟩
  rw [← hcn] at HC hcn1
  have hz : ((cn : Int) == 0) = false := by simp; omega
  have hlt : ¬ (cn : Int) < 1 := by omega
  have HI := Lib.hid (fun W => index32_any a b W ha)
  obtain ⟨m, hm⟩ : ∃ m : Nat, m = a.length := ⟨_, rfl⟩
  obtain ⟨m2, hm2⟩ : ∃ m : Nat, m = a.length + b.length + 1 := ⟨_, rfl⟩
  have x1 : (bs (a ++ 32 :: b)).extract 0 m2 = bs (a ++ 32 :: b) := by
    apply bs_of
    rw [hm2]
    simp only [bs, ByteArray.data_extract, Array.toList_extract, List.extract_eq_take_drop, List.drop_zero, Nat.sub_zero]
    exact List.take_of_length_le (by simp; omega)
  have x2 : (bs (a ++ 32 :: b)).extract 0 m = bs a := by
    apply bs_of
    rw [hm]
    simp [bs]
  have x3 : (bs (a ++ 32 :: b)).extract (m + 1) m2 = bs b := by
    apply bs_of
    rw [hm, hm2]
    simp [bs]
  rw [← hm2] at hsz
  rw [← hm] at HI
  have hM := Lib.hid (And.intro hm hm2)
  obtain ⟨S, hS⟩ : ∃ S, S = bs (a ++ 32 :: b) := ⟨_, rfl⟩
  obtain ⟨A, hA⟩ : ∃ S, S = bs a := ⟨_, rfl⟩
  obtain ⟨B, hB⟩ : ∃ S, S = bs b := ⟨_, rfl⟩
  rw [← hS] at hsz HC HI x1 x2 x3 ⊢
  rw [← hA] at x2
  rw [← hB] at x3
  have HAB := Lib.hid (And.intro hA hB)
  have b1 : (m : Int) ≤ (m2 : Int) := by omega
  have b2 : (m : Int) + 1 ≤ (m2 : Int) := by omega
  have w1 : IntKind.i64.wrap (m : Int) = (m : Int) := IntWalk.i64_in _ (by omega)
  have w2 : IntKind.i64.wrap ((m : Int) + 1) = (m : Int) + 1 := IntWalk.i64_in _ (by omega)
  have w3 : IntKind.i64.wrap ((m2 : Int) + 1) = (m2 : Int) + 1 := IntWalk.i64_in _ (by omega)
  have HLn := Lib.hid hl
  have hg := (grow_any w.heap.size (m2 + 1) (w.alloc (.cells #[.pointer none, .slice none 0 0] 82)) (heap_alloc_new w _) (by omega))
  rw [show ((m2 + 1 : Nat) : Int) = (m2 : Int) + 1 from rfl] at hg
  have HG := Lib.hid hg
  have HB0 := Lib.hid (below_alloc w (.cells #[.pointer none, .slice none 0 0] 82))
  have HW2 := Lib.hid (fun (l x : List UInt8) (X : World) (h : IsBd w.heap.size l X) (hl : l.length + x.length ≤ 100000000) (hb : w.heap.size ≤ X.heap.size) => write_b w.heap.size l x X h hl hb)
  have HSt := Lib.hid (fun (l : List UInt8) (X : World) (h : IsBd w.heap.size l X) (hb : w.heap.size ≤ X.heap.size) => builder_string w.heap.size w.heap.size l X h hb)
  clear hg
  clear hm hm2 hS hA hB hcn hl ha
  go_enter Tryz.func17, Tryz.ntmps17
  go_wp2_with fail
  refine HC.out.mono ?_
  rintro e w' ⟨rfl, rfl⟩
  go_wp2_with fail
  obtain ⟨bb, hbb⟩ : ∃ x, x = w.heap.size := ⟨_, rfl⟩
  rw [← hbb] at HG HW2 HSt ⊢
  have HBb := Lib.hid hbb
  clear hbb
  refine HG.out.mono ?_
  rintro e w1 ⟨rfl, h1, h2⟩
  have HI1 := Lib.hid (show IsBd bb [] w1 from .inr h1)
  have HX1 : Hid (Below w.heap.size w w1) := Lib.hid (HB0.out.trans (by rw [← HBb.out]; exact h2))
  clear h1 h2 HG
  go_wp2_with fail
  go_loopw [11, 53] (fun sv kv wr => ∃ l : List UInt8, ((sv = .int .i64 0 ∧ kv = .int .i64 0 ∧ l = []) ∨ (sv = .int .i64 ((m : Int) + 1) ∧ kv = .int .i64 1 ∧ l = a ++ [32, 32])) ∧ IsBd bb l wr ∧ Below w.heap.size w wr) (fun _ kv _ => 1 - (intOf kv).toNat)
  case atStart => exact ⟨[], .inl ⟨rfl, rfl, rfl⟩, HI1.out, HX1.out⟩
  case round =>
    obtain ⟨l, hc, hI, hb⟩ := hrel
    have HIr := Lib.hid hI
    have HXr := Lib.hid hb
    clear hI hb
    rcases hc with ⟨rfl, rfl, rfl⟩ | ⟨rfl, rfl, rfl⟩
    · go_wp2_with fail
      refine (HI.out _).mono ?_
      rintro e w' ⟨rfl, rfl⟩
      have hW := HW2.out [] a wr HIr.out (by have := HLn.out; simp; omega) (by rw [HBb.out]; exact HXr.out.size)
      rw [← HAB.out.1] at hW
      have HWa := Lib.hid hW
      clear hW
      go_wp2_with fail
      refine HWa.out.mono ?_
      rintro e w5 ⟨rfl, hi5, hb5⟩
      have HX5 : Hid (Below w.heap.size w w5) := Lib.hid (HXr.out.trans (by rw [← HBb.out]; exact hb5))
      have hW := HW2.out ([] ++ a) [32, 32] w5 hi5 (by have := HLn.out; simp; omega) (by rw [HBb.out]; exact HX5.out.size)
      have HWb := Lib.hid (show Calls Tryz.prog 31 #[.pointer (some ⟨bb, 0, none⟩), .string ⟨#[32, 32]⟩] w5 _ from hW)
      clear hW hi5 hb5
      go_wp2_with fail
      refine HWb.out.mono ?_
      rintro e w6 ⟨rfl, hi6, hb6⟩
      have HX6 : Hid (Below w.heap.size w w6) := Lib.hid (HX5.out.trans (by rw [← HBb.out]; exact hb6))
      have HI6 := Lib.hid hi6
      clear hi6 hb6
      go_wp2
      exact ⟨⟨[] ++ a ++ [32, 32], .inr ⟨rfl, rfl, rfl⟩, HI6.out, HX6.out⟩, by decide⟩
    · have hW := HW2.out (a ++ [32, 32]) b wr HIr.out (by have := HLn.out; simp; omega) (by rw [HBb.out]; exact HXr.out.size)
      rw [← HAB.out.2] at hW
      have HWa := Lib.hid hW
      clear hW
      go_wp2_with fail
      refine HWa.out.mono ?_
      rintro e w5 ⟨rfl, hi5, hb5⟩
      have HX5 : Hid (Below w.heap.size w w5) := Lib.hid (HXr.out.trans (by rw [← HBb.out]; exact hb5))
      have HS5 := Lib.hid (HSt.out _ w5 hi5 (by rw [HBb.out]; exact HX5.out.size))
      clear hi5 hb5
      go_wp2_with fail
      refine HS5.out.mono ?_
      rintro e w6 ⟨rfl, hb6⟩
      have HX6 : Hid (Below w.heap.size w w6) := Lib.hid (HX5.out.trans (by rw [← HBb.out]; exact hb6))
      clear hb6
      go_wp2
      go_ret
      exact ⟨rfl, HX6.out⟩
end Go.Proofs.YthlckipcgogogaaGreatDoor
/- PlansFaults: what the walk wants of its end. -/
namespace Go.Proofs.YthlckipcgogogaaGreatDoor
set_option linter.unusedVariables false
open Go.RowKit

/-- The row of strings. -/
def strC (Ls : List (List UInt8)) : List Value := Ls.map fun x => Value.string (bs x)
theorem strC_length (Ls : List (List UInt8)) : (strC Ls).length = Ls.length := by simp [strC]
theorem strC_set (Ls : List (List UInt8)) (j : Nat) (c : List UInt8) : (strC Ls).set j (.string (bs c)) = strC (Ls.set j c) := by simp [strC, List.map_set]
theorem strC_take (Ls : List (List UInt8)) (j : Nat) : (strC Ls).take j = strC (Ls.take j) := by simp [strC, List.map_take]
theorem strC_append (a b : List (List UInt8)) : strC (a ++ b) = strC a ++ strC b := by simp [strC]
theorem strC_getD (Ls : List (List UInt8)) (j : Nat) (h : j < Ls.length) : (strC Ls).getD j undef = .string (bs (Ls.getD j [])) := by
  simp [strC, List.getD_eq_getElem?_getD, h]
theorem bs_map (Ls : List (List UInt8)) : (Ls.map bs).map (·.data.toList) = Ls := by
  rw [List.map_map]
  have : ((fun x : ByteArray => x.data.toList) ∘ bs) = id := by funext x; exact bs_data x
  rw [this]; simp
theorem joinB_any (b c n : Nat) (xs : List Value) (Ls : List (List UInt8)) (sep : UInt8) (w : World) (hb : b < w.heap.size) (hx : xs = strC Ls) (hn : Ls.length = n) (hc : n ≤ c) (h1 : ∀ i, i < n → w.cell? ⟨b, i, none⟩ = some (xs.getD i undef)) (h2 : n ≤ 1048576) (h3 : (Lib.join Ls [sep]).length ≤ 1048576) :
    Calls Tryz.prog 18 #[.slice (some ⟨b, 0, none⟩) n c, .string ⟨#[sep]⟩] w fun e w' => e = .returned (.string (bs (Lib.join Ls [sep]))) ∧ Below w.heap.size w w' := by
  subst hx
  subst hn
  have h := join_any b 0 c (Ls.map bs) ⟨#[sep]⟩ w (fun j x hj => by
    rw [List.getElem?_map] at hj
    obtain ⟨l, hl, rfl⟩ : ∃ l, Ls[j]? = some l ∧ x = bs l := by
      cases e : Ls[j]? with
      | none => rw [e] at hj; simp at hj
      | some l => rw [e] at hj; exact ⟨l, rfl, by simpa using hj.symm⟩
    have hlt := (List.getElem?_eq_some_iff.1 hl).1
    rw [Nat.zero_add, h1 j hlt, strC_getD _ _ hlt, List.getD_eq_getElem?_getD, hl]
    rfl) hb (by rw [List.length_map]; omega) (by rw [List.length_map]; exact hc) (by rw [bs_map]; exact Nat.le_trans h3 (by decide))
  rw [bs_map, List.length_map] at h
  exact h
/-- A text with a fault. -/
theorem read_res {s : List UInt8} {E : Int} {K : Nat} (h : ResF s E K) (hs : s.length ≤ 1048576) (w : World) : Calls Tryz.prog 8 #[.string (bs s)] w fun e w' => e = .returned (.tuple #[zeroPl, .agg #[.int .i64 E, .int .i64 (K : Int)]]) ∧ Below w.heap.size w w' := by
  refine (Read_any s hs w).mono fun e w' ⟨hb, g⟩ => ?_
  rcases h with ⟨h1, h2⟩ | ⟨q, h1, h2, h3, h4⟩
  · rcases g with ⟨n, g1, g2⟩ | ⟨q, g1, g2, g3⟩ | ⟨q, aP, aL, g1, g2, g3⟩
    · rw [h1] at g1
      injection g1 with g1
      subst g1
      rw [h2]
      exact ⟨g2, hb⟩
    · rw [h1] at g1; cases g1
    · rw [h1] at g1; cases g1
  · rcases g with ⟨n, g1, g2⟩ | ⟨q', g1, g2, g3⟩ | ⟨q', aP, aL, g1, g2, g3⟩
    · rw [h1] at g1; cases g1
    · rw [h1] at g1
      injection g1 with g1
      subst g1
      rw [h2] at g3
      rw [h3, h4]
      exact ⟨g3, hb⟩
    · rw [h1] at g1
      injection g1 with g1
      subst g1
      rw [h2] at g2
      exact absurd g2 (by decide)
theorem read_resK {s : List UInt8} {E : Int} {K : Nat} (h : ResF s E K) (hs : s.length ≤ 1048576) {k : Int} (hk : (K : Int) = k) {S : ByteArray} (hS : S = bs s) (w : World) : Calls Tryz.prog 8 #[.string S] w fun e w' => e = .returned (.tuple #[.agg #[.slice none 0 0, .slice none 0 0, .int .i64 0, .int .i64 0, .int .i64 0, .int .i64 0, .int .i64 0], .agg #[.int .i64 E, .int .i64 k]]) ∧ Below w.heap.size w w' := by
  rw [hS, ← hk]
  exact read_res h hs w
theorem nlT_len : ∀ Ls : List (List UInt8), (nlT Ls).length = (Ls.map (·.length + 1)).sum
  | [] => rfl
  | a :: Ls => by rw [nlT_cons, List.length_append, List.length_cons, nlT_len Ls, List.map_cons, List.sum_cons]; omega
theorem nlT_set : ∀ (Ls : List (List UInt8)) (j : Nat) (c : List UInt8), (nlT (Ls.set j c)).length ≤ (nlT Ls).length + c.length
  | [], j, c => by simp
  | a :: Ls, 0, c => by rw [List.set_cons_zero, nlT_cons, nlT_cons, List.length_append, List.length_append, List.length_cons]; omega
  | a :: Ls, j + 1, c => by
    have h := nlT_set Ls j c
    rw [List.set_cons_succ, nlT_cons, nlT_cons, List.length_append, List.length_append, List.length_cons, List.length_cons]
    omega
theorem nlT_take (Ls : List (List UInt8)) (j : Nat) : (nlT (Ls.take j)).length ≤ (nlT Ls).length := by
  have h := congrArg (fun l => (nlT l).length) (List.take_append_drop j Ls)
  simp only [nlT_append, List.length_append] at h
  omega
theorem nlT_get : ∀ (Ls : List (List UInt8)) (j : Nat), (Ls.getD j []).length ≤ (nlT Ls).length
  | [], j => by simp
  | a :: Ls, 0 => by rw [nlT_cons]; simp
  | a :: Ls, j + 1 => by
    have h := nlT_get Ls j
    rw [nlT_cons, List.getD_cons_succ, List.length_append, List.length_cons]
    omega
theorem short_text {p : Pn} (h1 : p.P.length ≤ 6) (h2 : p.L.length ≤ 11) : (nlT (linesP p)).length ≤ 2000 := by
  have e1 : (p.P.flatMap plText).length ≤ 100 * p.P.length := flat_len fun x _ => by
    have h := pcL_len x.1.toNat
    unfold plText
    cases x.2 <;> simp only [unw, placeW, transferW, endW, List.length_append, List.length_cons, List.length_nil, if_true, Bool.false_eq_true, if_false] <;> omega
  have e2 : (p.L.flatMap lnText).length ≤ 100 * p.L.length := flat_len fun x _ => by
    have h := pcL_len x.A.toNat
    have h' := pcL_len x.B.toNat
    have h3 := numL_3 x.C.toNat
    have h4 := numL_3 x.D.toNat
    unfold lnText
    simp only [unw, lineW, List.length_append, List.length_cons, List.length_nil]
    omega
  have h3 := numL_3 p.rate.toNat
  have h4 := numL_3 p.room.toNat
  have h5 := numL_3 p.m0.toNat
  have h6 := numL_3 p.m1.toNat
  have h7 := numL_3 p.m2.toNat
  rw [← text_nl]
  unfold partText
  simp only [show (2 : Nat) ≤ 4 by omega, show (3 : Nat) ≤ 4 by omega, show (4 : Nat) ≤ 4 by omega, if_true, List.length_append, unw, rateW, roomW, marksW, List.length_cons, List.length_nil]
  omega
/-- The lines and the fault that is wanted, in one memory. -/
structure FS (w : World) (b0 wb : Nat) (Ls : List (List UInt8)) (E K : Int) (W : World) : Prop where
  bel : Below w.heap.size w W
  row : Own W b0 9 (strC Ls)
  want : Own W wb 37 [.int .i64 E, .int .i64 K]
  ne : b0 ≠ wb
  h0 : w.heap.size ≤ b0
  h1 : w.heap.size ≤ wb
theorem FS.line {w : World} {b0 wb : Nat} {Ls : List (List UInt8)} {E K : Int} {W : World} (h : FS w b0 wb Ls E K W) (j : Nat) (c : List UInt8) : FS w b0 wb (Ls.set j c) E K (W.setCell ⟨b0, j, none⟩ (.string (bs c))) :=
  ⟨h.bel.setCell (p := ⟨b0, j, none⟩) h.h0 _, by rw [← strC_set]; exact h.row.set j _, h.want.other ⟨b0, j, none⟩ (Ne.symm h.ne) _, h.ne, h.h0, h.h1⟩
theorem FS.num {w : World} {b0 wb : Nat} {Ls : List (List UInt8)} {E K : Int} {W : World} (h : FS w b0 wb Ls E K W) (n : Int) : FS w b0 wb Ls E n (W.setCell ⟨wb, 1, none⟩ (.int .i64 n)) :=
  ⟨h.bel.setCell (p := ⟨wb, 1, none⟩) h.h1 _, h.row.other ⟨wb, 1, none⟩ h.ne _, h.want.set 1 _, h.ne, h.h0, h.h1⟩
theorem FS.err {w : World} {b0 wb : Nat} {Ls : List (List UInt8)} {E K : Int} {W : World} (h : FS w b0 wb Ls E K W) (n : Int) : FS w b0 wb Ls n K (W.setCell ⟨wb, 0, none⟩ (.int .i64 n)) :=
  ⟨h.bel.setCell (p := ⟨wb, 0, none⟩) h.h1 _, h.row.other ⟨wb, 0, none⟩ h.ne _, h.want.set 0 _, h.ne, h.h0, h.h1⟩
theorem FS.later {w : World} {b0 wb : Nat} {Ls : List (List UInt8)} {E K : Int} {W W' : World} (h : FS w b0 wb Ls E K W) (hb : Below W.heap.size W W') : FS w b0 wb Ls E K W' :=
  ⟨h.bel.trans (hb.mono h.bel.size), h.row.below hb h.row.lt, h.want.below hb h.want.lt, h.ne, h.h0, h.h1⟩
theorem FS.cells {w : World} {b0 wb : Nat} {Ls : List (List UInt8)} {E K : Int} {W : World} (h : FS w b0 wb Ls E K W) : W.cell? ⟨wb, 0, none⟩ = some (.int .i64 E) ∧ W.cell? ⟨wb, 1, none⟩ = some (.int .i64 K) ∧ W.frozen? ⟨wb, 0, none⟩ = false ∧ W.frozen? ⟨wb, 1, none⟩ = false :=
  ⟨h.want.cell 0 (by simp), h.want.cell 1 (by simp), frozen_of_row _ _ _ _ _ h.want, frozen_of_row _ _ _ _ _ h.want⟩
theorem FS.elem {w : World} {b0 wb : Nat} {Ls : List (List UInt8)} {E K : Int} {W : World} (h : FS w b0 wb Ls E K W) (j : Nat) (hj : j < Ls.length) : W.cell? ⟨b0, j, none⟩ = some (.string (bs (Ls.getD j []))) ∧ W.frozen? ⟨b0, j, none⟩ = false :=
  ⟨by rw [h.row.cell j (by rw [strC_length]; exact hj), strC_getD _ _ hj], frozen_of_row _ _ _ _ _ h.row⟩
/-- The fault that is wanted alone. -/
structure FW (w : World) (wb : Nat) (E K : Int) (W : World) : Prop where
  bel : Below w.heap.size w W
  want : Own W wb 37 [.int .i64 E, .int .i64 K]
  h1 : w.heap.size ≤ wb
theorem FS.fw {w : World} {b0 wb : Nat} {Ls : List (List UInt8)} {E K : Int} {W : World} (h : FS w b0 wb Ls E K W) : FW w wb E K W := ⟨h.bel, h.want, h.h1⟩
theorem FW.later {w : World} {wb : Nat} {E K : Int} {W W' : World} (h : FW w wb E K W) (hb : Below W.heap.size W W') : FW w wb E K W' :=
  ⟨h.bel.trans (hb.mono h.bel.size), h.want.below hb h.want.lt, h.h1⟩
theorem FW.num {w : World} {wb : Nat} {E K : Int} {W : World} (h : FW w wb E K W) (n : Int) : FW w wb E n (W.setCell ⟨wb, 1, none⟩ (.int .i64 n)) :=
  ⟨h.bel.setCell (p := ⟨wb, 1, none⟩) h.h1 _, h.want.set 1 _, h.h1⟩
theorem FW.cells {w : World} {wb : Nat} {E K : Int} {W : World} (h : FW w wb E K W) : W.cell? ⟨wb, 0, none⟩ = some (.int .i64 E) ∧ W.cell? ⟨wb, 1, none⟩ = some (.int .i64 K) ∧ W.frozen? ⟨wb, 0, none⟩ = false ∧ W.frozen? ⟨wb, 1, none⟩ = false :=
  ⟨h.want.cell 0 (by simp), h.want.cell 1 (by simp), frozen_of_row _ _ _ _ _ h.want, frozen_of_row _ _ _ _ _ h.want⟩
/-- A line's first space. -/
theorem line_cut {p : Pn} (hf : FineP p) {j : Nat} (hj : j < (linesP p).length) : ∃ a b, noS a = true ∧ (linesP p).getD j [] = a ++ 32 :: b ∧ dblS ((linesP p).getD j []) = a ++ 32 :: 32 :: b := by
  obtain ⟨W, hW, e⟩ := line_W hf hj
  obtain ⟨w, r, rfl, hk⟩ := hW.shape
  cases r with
  | nil => unfold kwOk at hk; simp at hk
  | cons y r =>
    rw [e]
    refine ⟨w, unw (y :: r), (hW.plain w (by simp)).1, rfl, ?_⟩
    show dblS (w ++ 32 :: unw (y :: r)) = _
    rw [dblS_at _ _ (hW.plain w (by simp)).1]
theorem infoSt : (Tryz.prog.info? 9).map (fun i => (i.zero, i.size, i.bytes)) = some (some (.string ByteArray.empty), 1, 16) := by kernel_rfl
/-- append of some strings to a row of the call's own. -/
theorem wpList_append_strs {ops : Array Oper} {rest : List Oper} {o : Oper} {a : Act} {Q : Exit → Act → World → Prop} {w0 : World} (hgd : o.guard = none) (s x : Operand)
    (ho : o.op = .call { callee := .builtin .append, args := #[s, x], argTypes := #[46, 46] })
    (B : Nat) (v : Value) (n m : Nat) (xs cs : List Value) (hm : 0 < m) (hcl : cs.length = m) (h1 : ∀ u ∈ cs, u.oneCell' = true) (hs : a.eval s = v) (hown : w0.ownsRow B 9 1 v n xs) (hx : a.eval x = .slice (some ⟨w0.heap.size, 0, none⟩) m m)
    (hn : n + m ≤ 1000000) (hB : B ≤ w0.heap.size)
    (h : ∀ v' w', w'.ownsRow B 9 1 v' (n + m) (xs ++ cs) → Grow v w0 v' w' → wpList Tryz.prog ops Q rest (a.put o.dst v') w') :
    wpList Tryz.prog ops Q (o :: rest) a (w0.alloc (.cells cs.toArray 9)) := by
  obtain ⟨i0, hi, hz0, hz1, hz2⟩ := info_parts infoSt
  have hbb : (n + m) * 16 ≤ 140737488355328 := by omega
  refine wpList_append_lies _ hgd s x _ ho B _ i0 _ 1 16 Tryz.underlying46 hi hz0 hz1 hz2 rfl (by decide) v n xs hs (ownsK_below hown (below_alloc w0 _)) ⟨w0.heap.size, 0, none⟩ m m cs hx (by rw [Nat.mul_one]; exact hcl) (fun j u hj => ?_) h1 hm (by unfold maxLen; omega) hbb (by simp; omega) (w0.heap.size + 1) (by simp) ?_
  · have hj0 := (List.getElem?_eq_some_iff.1 hj).1
    have ho : Own (w0.alloc (.cells cs.toArray 9)) w0.heap.size 9 cs := heap_alloc_new w0 _
    have e1 : (⟨w0.heap.size, 0, none⟩ : Addr).add j = ⟨w0.heap.size, j, none⟩ := by unfold Addr.add; split <;> simp_all
    rw [e1, ho.cell j hj0, List.getD_eq_getElem?_getD, hj]; rfl
  · intro g cap w' h1 h2 h3 h4
    refine h _ w' h1 ⟨?_, ?_⟩
    · exact ((Exc.refl _ w0).alloc _).trans (Exc.of_grown h2) (fun _ _ hh => hh)
    · intro j hj
      simp only [Value.ownBlock, Option.some.injEq] at hj
      subst hj
      rcases h3 with h3 | h3
      · exact .inl h3
      · exact .inr (by omega)
/-- The first lines as a row of the call's own. -/
theorem FS.pre {w : World} {b0 wb : Nat} {Ls : List (List UInt8)} {E K : Int} {W : World} (h : FS w b0 wb Ls E K W) (n : Nat) (hn : n ≤ Ls.length) (hm : Ls.length ≤ 1000) : W.ownsRow w.heap.size 9 1 (.slice (some ⟨b0, 0, none⟩) n Ls.length) n (strC (Ls.take n)) := by
  refine ⟨by rw [strC_length, List.length_take]; omega, .inr ⟨b0, Ls.length, (strC Ls).toArray, rfl, h.h0, h.row, hn, by unfold maxLen; omega, by simp [strC_length], ?_⟩⟩
  rw [← strC_take]
  simp
theorem FS.grown {w : World} {b0 wb : Nat} {Ls : List (List UInt8)} {E K : Int} {W W' : World} (h : FS w b0 wb Ls E K W) {n c : Nat} {v' : Value} (g : Grow (.slice (some ⟨b0, 0, none⟩) n c) W v' W') : FW w wb E K W' :=
  ⟨h.bel.trans (g.below h.bel.size (fun k hk => by simp only [Value.ownBlock, Option.some.injEq] at hk; have := h.h0; omega)), Own.exc' h.want g.exc (fun hk => by simp only [Value.ownBlock, Option.some.injEq] at hk; exact h.ne hk), h.h1⟩
theorem join_row {w : World} {v : Value} {n B : Nat} {xs : List Value} {Lf : List (List UInt8)} (h : w.ownsRow B 9 1 v n xs) (hx : xs = strC Lf) (hn : 0 < n) (hm : n ≤ 1000) (h3 : (Lib.join Lf [10]).length ≤ 1048576) :
    ∃ b c, v = .slice (some ⟨b, 0, none⟩) n c ∧ Calls Tryz.prog 18 #[.slice (some ⟨b, 0, none⟩) n c, .string ⟨#[10]⟩] w fun e w' => e = .returned (.string (bs (Lib.join Lf [10]))) ∧ Below w.heap.size w w' := by
  obtain ⟨b, c, hv, hc, hmx, hB, hlt, hcells⟩ := ownsK_cells h hn
  have hl : Lf.length = n := by have := h.1; rw [hx, strC_length] at this; omega
  exact ⟨b, c, hv, joinB_any b c n xs Lf 10 w hlt hx hl hc (fun i hi => (hcells i (by omega)).1) (by omega) h3⟩
theorem join_row2 {w : World} {b c n B : Nat} {xs : List Value} {Lf : List (List UInt8)} (h : w.ownsRow B 9 1 (.slice (some ⟨b, 0, none⟩) n c) n xs) (hx : xs = strC Lf) (hn : 0 < n) (hm : n ≤ 1000) (h3 : (Lib.join Lf [10]).length ≤ 1048576) :
    Calls Tryz.prog 18 #[.slice (some ⟨b, 0, none⟩) n c, .string ⟨#[10]⟩] w fun e w' => e = .returned (.string (bs (Lib.join Lf [10]))) ∧ Below w.heap.size w w' := by
  obtain ⟨b2, c2, hv, hj⟩ := join_row h hx hn hm h3
  simp only [Value.slice.injEq, Option.some.injEq, Addr.mk.injEq, and_true, true_and] at hv
  obtain ⟨rfl, rfl⟩ := hv
  exact hj
theorem tree_pos (x : Nn) (k : Nat) : 0 < (treeN x (k + 2)).length := by
  rw [treeN, if_neg (by omega), putN_length]
  omega
theorem extra_pos (x : Nn) : ∀ j, 0 < (extraN x j).length
  | 0 => by rw [extraN, show x.n = x.many % 5 + 2 by unfold Nn.n; omega]; exact tree_pos x _
  | j + 1 => by
    rw [extraN]
    split
    · exact extra_pos x j
    · rw [putN_length]; omega
theorem lines_pos (x : Nn) : 0 < (planN x).L.length := extra_pos x _
end Go.Proofs.YthlckipcgogogaaGreatDoor
