/- Joined: TfSet TfNt TfTell TfTellA TfHear -/
import Derived.Test.YtppbcehcaeeocaaTfSts
import Derived.Test.YtppbcehcaeeocaaAggApp
import Derived.StillTailTactics
import Derived.Deep.Cut
/- A record's set; a table's Up and Down. -/
namespace Go.Proofs.Ytppbcehcaeeocaa
open Go.RowKit Go.Maps

section
variable {w : World} {ops : Array Oper} {rest : List Oper} {o : Oper} {a : Act} {Q : Exit → Act → World → Prop}
theorem wpList_rec_store (hg : o.guard = none) (m x v : Operand) (hop : o.op = Op.mapUpdate 84 m x v) (b : Nat) (T : Int → Int → Int) (hm : a.eval m = .map (some b)) (hat : RecAt w b T) (n d s : Int) (hn : (Lit.int .u16 n).wf = true) (hd : (Lit.int .u16 d).wf = true)
    (hx : a.eval x = .agg #[.int .u16 n, .int .u16 d]) (hv : a.eval v = .int .u8 s) (hK : ∀ w', RecAt w' b (upd2 T n d s) → Exc (fun k => k = b) w w' → wpList Try.prog ops Q rest (a.put o.dst undef) w') : wpList Try.prog ops Q (o :: rest) a w := by
  obtain ⟨f, h1, h2⟩ := hat
  obtain ⟨l, hl⟩ := key_pair hn hd
  refine wpList_store hg m x v _ hop _ _ law_pair Try.underlying84 b f hm h1 _ _ l hx hv hl fun w' g r1 r2 r3 r4 => ?_
  exact hK w' (RecAt.put h2 r1 (show (g (pairV n d)).getD _ = _ by rw [show g (pairV n d) = some (.int .u8 s) from r2]; rfl) r3) r4
theorem wpList_rec_strike (hg : o.guard = none) (m x : Operand) (hop : o.op = Op.call { callee := Callee.builtin Builtin.delete, args := #[m, x], argTypes := #[84, 124] }) (b : Nat) (T : Int → Int → Int) (hm : a.eval m = .map (some b)) (hat : RecAt w b T) (n d : Int) (hn : (Lit.int .u16 n).wf = true) (hd : (Lit.int .u16 d).wf = true)
    (hx : a.eval x = .agg #[.int .u16 n, .int .u16 d]) (hK : ∀ w', RecAt w' b (upd2 T n d 0) → Exc (fun k => k = b) w w' → wpList Try.prog ops Q rest (a.put o.dst (.tuple #[])) w') : wpList Try.prog ops Q (o :: rest) a w := by
  obtain ⟨f, h1, h2⟩ := hat
  obtain ⟨l, hl⟩ := key_pair hn hd
  refine wpList_strike hg m x _ _ hop _ law_pair Try.underlying84 b f hm h1 _ l hx hl fun w' g r1 r2 r3 r4 => ?_
  exact hK w' (RecAt.put h2 r1 (show (g (pairV n d)).getD _ = _ by rw [show g (pairV n d) = none from r2]; rfl) r3) r4
theorem wpList_ups_store (hg : o.guard = none) (m x v : Operand) (hop : o.op = Op.mapUpdate 82 m x v) (b : Nat) (N : List Int) (U : Int → Bool) (hm : a.eval m = .map (some b)) (hat : UpsAt w b N U) (n : Int) (s : Bool) (hn : (Lit.int .u16 n).wf = true) (hN : n ∈ N)
    (hx : a.eval x = .int .u16 n) (hv : a.eval v = .bool s) (hK : ∀ w', UpsAt w' b N (upd1 U n s) → Exc (fun k => k = b) w w' → wpList Try.prog ops Q rest (a.put o.dst undef) w') : wpList Try.prog ops Q (o :: rest) a w := by
  obtain ⟨f, h1, h2⟩ := hat
  refine wpList_store hg m x v _ hop _ _ law_pt Try.underlying82 b f hm h1 _ _ _ hx hv (key_pt hn) fun w' g r1 r2 r3 r4 => ?_
  refine hK w' ⟨g, r1, fun z hz => ?_⟩ r4
  by_cases e : z = n
  · subst e; rw [r2, if_pos hN, upd1_same]
  · rw [r3 _ (by simpa using e), h2 z hz, upd1_other e]
end
/-- What set leaves. -/
def SetOut (b : Nat) (T : Int → Int → Int) (w : World) (e : Ending) (w' : World) : Prop := e = .returned (.tuple #[]) ∧ RecAt w' b T ∧ Exc (fun k => k = b) w w'
set_option maxRecDepth 100000 in
theorem set_any (b : Nat) (T : Int → Int → Int) (n d s : Int) (w : World) (h : RecAt w b T) (hn : (Lit.int .u16 n).wf = true) (hd : (Lit.int .u16 d).wf = true) : Calls Try.prog 46 #[.map (some b), .agg #[.int .u16 n, .int .u16 d, .int .u8 s]] w (SetOut b (upd2 T n d s) w) := by
  have hx0 : Exc (fun k => k = b) w (w.alloc (.cells #[.int .u16 n, .int .u16 d, .int .u8 s] 54)) := (Exc.refl _ w).alloc _
  have HR := Lib.hid (h.exc (S := fun _ => False) ((Exc.refl _ w).alloc (.cells #[.int .u16 n, .int .u16 d, .int .u8 s] 54)) (fun h => h))
  have HX := Lib.hid hx0
  have HN := Lib.hid hn
  have HD := Lib.hid hd
  clear h hx0 hn hd
  by_cases hs : s = 0
  · subst hs
    have e0 : ((0 : Int) == 0) = true := by decide
    go_enter Try.func46, Try.ntmps46
    go_wp2_with (at_delete; refine wpList_rec_strike rfl _ _ rfl b T rfl HR.out n d HN.out HD.out rfl ?_; intro w1 h1 h2)
    have H := Lib.hid (And.intro h1 (HX.out.trans h2 (fun _ _ h => h)))
    clear h1 h2
    go_wp2
    go_end0
    exact ⟨rfl, H.out⟩
  · have e0 : (s == 0) = false := by simpa using hs
    go_enter Try.func46, Try.ntmps46
    go_wp2_with (at_mapUpdate; refine wpList_rec_store rfl _ _ _ rfl b T rfl HR.out n d s HN.out HD.out rfl rfl ?_; intro w1 h1 h2)
    have H := Lib.hid (And.intro h1 (HX.out.trans h2 (fun _ _ h => h)))
    clear h1 h2
    go_wp2
    go_end0
    exact ⟨rfl, H.out⟩
/-- What a method that changes the table leaves: the error, the table. -/
def MOut (y : Tl) (T : Tb) (E : Int) (w : World) (e : Ending) (w' : World) : Prop := e = .returned (.int .i64 E) ∧ TbAt w' y T ∧ Exc (Mut y) w w'
set_option maxRecDepth 100000 in
theorem up_nul (a : Option Addr) (n : Int) (w : World) (h : Nul w a) : Calls Try.prog 24 #[.pointer a, .int .u16 n] w fun e w' => e = .returned (.int .i64 2) ∧ w = w' := by
  have HE := Lib.hid (check_nul a n w h)
  clear h
  go_enter Try.func24, Try.ntmps24
  go_wp2_with fail
  with_reducible refine HE.out.mono ?_
  rintro e w' ⟨rfl, rfl⟩
  go_wp2
  go_ret
  exact ⟨rfl, rfl⟩
set_option maxRecDepth 100000 in
theorem down_nul (a : Option Addr) (n : Int) (w : World) (h : Nul w a) : Calls Try.prog 25 #[.pointer a, .int .u16 n] w fun e w' => e = .returned (.int .i64 2) ∧ w = w' := by
  have HE := Lib.hid (check_nul a n w h)
  clear h
  go_enter Try.func25, Try.ntmps25
  go_wp2_with fail
  with_reducible refine HE.out.mono ?_
  rintro e w' ⟨rfl, rfl⟩
  go_wp2
  go_ret
  exact ⟨rfl, rfl⟩
theorem no_hid {p : Prop} (h : ¬ p) (E F : Int) [Decidable p] : (if p then E else F) = F := if_neg h
set_option maxRecDepth 100000 in
theorem up_no {y : Tl} {T : Tb} (n : Int) (w : World) (h : TbAt w y T) (hn : (Lit.int .u16 n).wf = true) (hN : n ∉ T.N) : Calls Try.prog 24 #[.pointer (some ⟨y.tb, 0, none⟩), .int .u16 n] w fun e w' => e = .returned (.int .i64 7) ∧ Below w.heap.size w w' := by
  have hE := check_any n w h hn
  rw [if_neg hN] at hE
  have HE := Lib.hid hE
  clear h hn hN hE
  go_enter Try.func24, Try.ntmps24
  go_wp2_with fail
  with_reducible refine HE.out.mono ?_
  rintro e w' ⟨rfl, hb⟩
  have HB := Lib.hid hb
  clear hb
  go_wp2
  go_ret
  exact ⟨rfl, HB.out⟩
set_option maxRecDepth 100000 in
theorem down_no {y : Tl} {T : Tb} (n : Int) (w : World) (h : TbAt w y T) (hn : (Lit.int .u16 n).wf = true) (hN : n ∉ T.N) : Calls Try.prog 25 #[.pointer (some ⟨y.tb, 0, none⟩), .int .u16 n] w fun e w' => e = .returned (.int .i64 7) ∧ Below w.heap.size w w' := by
  have hE := check_any n w h hn
  rw [if_neg hN] at hE
  have HE := Lib.hid hE
  clear h hn hN hE
  go_enter Try.func25, Try.ntmps25
  go_wp2_with fail
  with_reducible refine HE.out.mono ?_
  rintro e w' ⟨rfl, hb⟩
  have HB := Lib.hid hb
  clear hb
  go_wp2
  go_ret
  exact ⟨rfl, HB.out⟩
set_option maxRecDepth 100000 in
theorem up_ok {y : Tl} {T : Tb} (n : Int) (w : World) (h : TbAt w y T) (hN : n ∈ T.N) : Calls Try.prog 24 #[.pointer (some ⟨y.tb, 0, none⟩), .int .u16 n] w (MOut y (T.ups n) 0 w) := by
  have hn := h.fix.nrow.wf n hN
  have hE := check_any n w h hn
  rw [if_pos hN] at hE
  have HE := Lib.hid hE
  have HA := Lib.hid (fun (W : World) (hb : Below w.heap.size w W) => h.below hb)
  have HN := Lib.hid hn
  have HNN := Lib.hid hN
  clear h hn hN hE
  go_enter Try.func24, Try.ntmps24
  go_wp2_with fail
  with_reducible refine HE.out.mono ?_
  rintro e w1 ⟨rfl, hb⟩
  have HB := Lib.hid hb
  obtain ⟨g0, g1, g2, g3, g4, g5, g6, g7⟩ := (HA.out w1 hb).cells
  clear hb
  go_wp2_with (at_mapUpdate; refine wpList_ups_store rfl _ _ _ rfl y.bu T.N T.up rfl (HA.out w1 HB.out).ups n true HN.out HNN.out rfl rfl ?_; intro w2 h1 h2)
  have H := Lib.hid (And.intro ((HA.out w1 HB.out).newUps h2 h1) ((Exc.of_below (S := Mut y) HB.out).trans (excMut h2 (.inl rfl)) (fun _ _ h => h)))
  clear h1 h2
  go_wp2
  go_ret
  exact ⟨rfl, H.out.1, H.out.2⟩
/-- What Down has struck after some destinations. -/
def Tb.downL (T : Tb) (n : Int) (L : List Int) : Tb := { T with up := upd1 T.up n false, told := fun x y => if x = n ∧ y ∈ L then 0 else T.told x y, said := fun x y => if x = n ∧ y ∈ L then 0 else T.said x y }
theorem upd2_take {f : Int → Int → Int} {n d : Int} {L : List Int} : upd2 (fun x y => if x = n ∧ y ∈ L then 0 else f x y) n d 0 = fun x y => if x = n ∧ y ∈ L ++ [d] then 0 else f x y := by
  funext x y
  unfold upd2
  by_cases h1 : x = n ∧ y = d
  · rw [if_pos h1, if_pos ⟨h1.1, by simp [h1.2]⟩]
  · rw [if_neg h1]
    by_cases h2 : x = n ∧ y ∈ L
    · show (if x = n ∧ y ∈ L then 0 else f x y) = _
      rw [if_pos h2, if_pos ⟨h2.1, by simp [h2.2]⟩]
    · show (if x = n ∧ y ∈ L then 0 else f x y) = _
      rw [if_neg h2, if_neg]
      rintro ⟨h3, h4⟩
      rcases List.mem_append.1 h4 with h5 | h5
      · exact h2 ⟨h3, h5⟩
      · exact h1 ⟨h3, by simpa using h5⟩
theorem take_one {L : List Int} {k : Nat} (hk : k < L.length) : L.take (k + 1) = L.take k ++ [L.getD k 0] := by
  rw [List.take_succ_eq_append_getElem hk]; simp [List.getD_eq_getElem?_getD, hk]
theorem Tb.downL_nil (T : Tb) (n : Int) : T.downL n [] = { T with up := upd1 T.up n false } := by simp [Tb.downL]
set_option maxRecDepth 100000 in
set_option maxHeartbeats 1000000 in
theorem down_ok {y : Tl} {T : Tb} (n : Int) (w : World) (h : TbAt w y T) (hN : n ∈ T.N) : Calls Try.prog 25 #[.pointer (some ⟨y.tb, 0, none⟩), .int .u16 n] w (MOut y (T.down n) 0 w) := by
  have hn := h.fix.nrow.wf n hN
  have hE := check_any n w h hn
  rw [if_pos hN] at hE
  have HE := Lib.hid hE
  have HA := Lib.hid (fun (W : World) (hb : Below w.heap.size w W) => h.below hb)
  have HN := Lib.hid hn
  have HNN := Lib.hid hN
  have HWD := Lib.hid h.fix.drow.wf
  obtain ⟨m, hm⟩ : ∃ m, m = T.D.length := ⟨_, rfl⟩
  have hmb : m ≤ 64 := by rw [hm]; exact h.wf.lenD
  have HM := Lib.hid hm
  clear h hn hN hE
  go_enter Try.func25, Try.ntmps25
  go_wp2_with fail
  with_reducible refine HE.out.mono ?_
  rintro e w1 ⟨rfl, hb⟩
  have HB := Lib.hid hb
  obtain ⟨g0, g1, g2, g3, g4, g5, g6, g7⟩ := (HA.out w1 hb).cells
  clear hb hm
  have e9 : (T.downL n []).D.length = m := HM.out.symm
  have HE9 := Lib.hid e9
  clear e9
  go_wp2_with (
    at_mapUpdate
    refine wpList_ups_store rfl _ _ _ rfl y.bu T.N T.up rfl (HA.out w1 HB.out).ups n false HN.out HNN.out rfl rfl ?_
    intro w2 h1 h2
    have hA2 := (HA.out w1 HB.out).newUps h2 h1
    have HX2 := Lib.hid ((Exc.of_below (S := Mut y) HB.out).trans (excMut h2 (.inl rfl)) (fun _ _ h => h))
    rw [← Tb.downL_nil] at hA2
    clear g0 g1 g2 g3 g4 g5 g6 g7 h1 h2
    obtain ⟨g0, g1, g2, g3, g4, g5, g6, g7⟩ := hA2.cells
    rw [HE9.out] at g3
    have HA2 := Lib.hid hA2
    clear hA2)
  clear g0 g1 g2 g3 g4 g5 g6 g7
  go_loopw [24] (fun kv wr => ∃ k : Nat, k ≤ m ∧ kv = .int .i64 k ∧ TbAt wr y (T.downL n (T.D.take k)) ∧ Exc (Mut y) w wr) (fun kv _ => m - (intOf kv).toNat)
  case atStart => exact ⟨0, Nat.zero_le _, rfl, HA2.out, HX2.out⟩
  case round =>
    obtain ⟨k, hk, rfl, hA3, hx3⟩ := hrel
    have HA3 := Lib.hid hA3
    have HX3 := Lib.hid hx3
    by_cases hkm : k < m
    · have hkl : k < T.D.length := by rw [← HM.out]; exact hkm
      have hrow := hA3.fix.drow
      obtain ⟨b, off, had, hc⟩ := hrow.cells.resolve_left (by show ¬ T.D.length = 0; omega)
      have c0 := hc k hkl
      have c9 : (T.downL n (T.D.take k)).D = T.D := rfl
      rw [c9] at c0
      have hwd := HWD.out _ (mem_getD (d := 0) hkl)
      have HT := Lib.hid (take_one hkl)
      obtain ⟨d, hd⟩ : ∃ d, d = T.D.getD k 0 := ⟨_, rfl⟩
      rw [← hd] at c0 hwd HT
      have HWd := Lib.hid hwd
      obtain ⟨g0, g1, g2, g3, g4, g5, g6, g7⟩ := hA3.cells
      have k1 : (k : Int) < (m : Int) := by omega
      have k2 : (0 : Int) ≤ (k : Int) := by omega
      have HAD := Lib.hid had
      rw [had]
      clear hd hc hrow hwd c9 hA3 hx3 had
      have HTo : Hid (∀ x z, 0 ≤ upd2 (T.downL n (T.D.take k)).told n d 0 x z ∧ upd2 (T.downL n (T.D.take k)).told n d 0 x z ≤ 2) := Lib.hid (fun x z => by
        unfold upd2; split
        · decide
        · exact HA3.out.wf.told x z)
      have tok : True := trivial
      go_wp2_with (first
        | (at_delete
           have _t := tok
           refine wpList_rec_strike rfl _ _ rfl y.bt _ rfl HA3.out.tol n d HN.out HWd.out rfl ?_
           intro w5 h1 h2
           have hA5 := HA3.out.newTol h2 (U := upd2 (T.downL n (T.D.take k)).told n d 0) HTo.out h1
           have HX5 := Lib.hid (HX3.out.trans (excMut h2 (.inr (.inl rfl))) (fun _ _ h => h))
           have HA5 := Lib.hid hA5
           clear g0 g1 g2 g3 g4 g5 g6 g7 h1 h2 c0 tok
           obtain ⟨g0, g1, g2, g3, g4, g5, g6, g7⟩ := hA5.cells
           clear hA5)
        | (at_delete
           refine wpList_rec_strike rfl _ _ rfl y.bs _ rfl HA5.out.sai n d HN.out HWd.out rfl ?_
           intro w6 h1 h2
           have hA6 := HA5.out.newSai h2 h1
           have HX6 := Lib.hid (HX5.out.trans (excMut h2 (.inr (.inr rfl))) (fun _ _ h => h))
           have HA6 := Lib.hid hA6
           clear g0 g1 g2 g3 g4 g5 g6 g7 h1 h2 hA6)
        | fail)
      go_wp2
      refine ⟨⟨k + 1, by omega, by go_num, ?_, HX6.out⟩, by simp [intOf]; omega⟩
      rw [HT.out]
      have h9 := HA6.out
      unfold Tb.downL at h9 ⊢
      simp only [upd2_take] at h9
      exact h9
    · obtain rfl : k = m := by omega
      have htk : T.D.take k = T.D := List.take_of_length_le (by rw [HM.out]; exact Nat.le_refl _)
      have hA := HA3.out
      rw [htk] at hA
      have HA4 := Lib.hid hA
      clear hA htk hA3 hx3
      go_wp2
      go_ret
      exact ⟨rfl, HA4.out, HX3.out⟩
end Go.Proofs.Ytppbcehcaeeocaa
/- Slices of notes: what they hold, how they grow. -/
namespace Go.Proofs.Ytppbcehcaeeocaa
open Go.RowKit Go.Maps

def encN (x : Int × Int × Int) : List Value := [.int .u16 x.1, .int .u16 x.2.1, .int .u8 x.2.2]
def cellsN (X : List (Int × Int × Int)) : List Value := X.flatMap encN
theorem cellsN_length (X : List (Int × Int × Int)) : (cellsN X).length = X.length * 3 := by
  induction X with
  | nil => rfl
  | cons x X ih => simp only [cellsN, List.flatMap_cons, List.length_append, encN, List.length_cons, List.length_nil] at *; omega
theorem cellsN_append (X Y : List (Int × Int × Int)) : cellsN (X ++ Y) = cellsN X ++ cellsN Y := by simp [cellsN]
theorem cellsN_one (X : List (Int × Int × Int)) : ∀ u ∈ cellsN X, u.oneCell' = true := by
  intro u hu
  simp only [cellsN, List.mem_flatMap, encN, List.mem_cons, List.not_mem_nil, or_false] at hu
  obtain ⟨l, _, rfl | rfl | rfl⟩ := hu <;> rfl
theorem cellsN_getD (X : List (Int × Int × Int)) (R : List Value) {i : Nat} (hi : i < X.length) : (cellsN X ++ R).getD (i * 3) undef = .int .u16 (X.getD i (0, 0, 0)).1 ∧ (cellsN X ++ R).getD (i * 3 + 1) undef = .int .u16 (X.getD i (0, 0, 0)).2.1 ∧ (cellsN X ++ R).getD (i * 3 + 2) undef = .int .u8 (X.getD i (0, 0, 0)).2.2 := by
  induction X generalizing i with
  | nil => cases hi
  | cons x X ih =>
    cases i with
    | zero => simp [cellsN, encN]
    | succ i =>
      have h := ih (i := i) (by simpa using hi)
      have e : cellsN (x :: X) ++ R = .int .u16 x.1 :: .int .u16 x.2.1 :: .int .u8 x.2.2 :: (cellsN X ++ R) := rfl
      rw [e, show (i + 1) * 3 = i * 3 + 1 + 1 + 1 by omega]
      simp only [List.getD_cons_succ]
      exact h
/-- A slice value reads in w as the notes X, in a block of a call's own. -/
structure NRow (w : World) (a : Option Addr) (n c : Nat) (X : List (Int × Int × Int)) : Prop where
  len : X.length = n
  le : n ≤ c
  max : c ≤ maxLen
  cells : n = 0 ∨ ∃ g R, a = some ⟨g, 0, none⟩ ∧ Own w g 54 (cellsN X ++ R)
  isNil : a = none → c = 0
theorem NRow.nil (w : World) : NRow w none 0 0 [] := ⟨rfl, Nat.le_refl _, Nat.zero_le _, .inl rfl, fun _ => rfl⟩
theorem NRow.exc {S : Nat → Prop} {w w' : World} {a : Option Addr} {n c : Nat} {X : List (Int × Int × Int)} (h : NRow w a n c X) (hx : Exc S w w') (hn : ∀ x, a = some x → ¬ S x.block) : NRow w' a n c X := by
  refine ⟨h.len, h.le, h.max, ?_, h.isNil⟩
  rcases h.cells with h0 | ⟨g, R, ha, ho⟩
  · exact .inl h0
  · refine .inr ⟨g, R, ha, ?_⟩
    unfold Own
    rw [hx.block _ ho.lt (hn _ ha)]
    exact ho
theorem NRow.later {w w' : World} {a : Option Addr} {n c : Nat} {X : List (Int × Int × Int)} (h : NRow w a n c X) (hb : Below w.heap.size w w') : NRow w' a n c X := h.exc (S := fun _ => False) (Exc.of_below hb) (fun _ _ h => h)
theorem NRow.at {w : World} {a : Option Addr} {n c : Nat} {X : List (Int × Int × Int)} (h : NRow w a n c X) (h0 : 0 < n) : ∃ g, a = some ⟨g, 0, none⟩ ∧ g < w.heap.size ∧ ∀ i, i < n → w.cell? ⟨g, i * 3, none⟩ = some (.int .u16 (X.getD i (0, 0, 0)).1) ∧ w.cell? ⟨g, i * 3 + 1, none⟩ = some (.int .u16 (X.getD i (0, 0, 0)).2.1) ∧ w.cell? ⟨g, i * 3 + 2, none⟩ = some (.int .u8 (X.getD i (0, 0, 0)).2.2) := by
  obtain ⟨g, R, ha, ho⟩ := h.cells.resolve_left (by omega)
  refine ⟨g, ha, ho.lt, fun i hi => ?_⟩
  have hl := h.len
  have hi2 : i < X.length := by omega
  obtain ⟨e1, e2, e3⟩ := cellsN_getD X R hi2
  have hlen : (cellsN X ++ R).length = X.length * 3 + R.length := by rw [List.length_append, cellsN_length]
  rw [ho.cell _ (by omega), ho.cell _ (by omega), ho.cell _ (by omega), e1, e2, e3]
  exact ⟨rfl, rfl, rfl⟩
theorem nrow_of {w : World} {B n : Nat} {v : Value} {X : List (Int × Int × Int)} (h : w.ownsRow B 54 3 v n (cellsN X)) (hX : X.length = n) : ∃ a c, v = .slice a n c ∧ NRow w a n c X ∧ ∀ z, a = some z → B ≤ z.block := by
  rcases h.2 with ⟨rfl, h0⟩ | ⟨g, cap, cur, rfl, hb, hg, hle, hc, hs, ht⟩
  · subst h0
    exact ⟨none, 0, rfl, ⟨hX, Nat.le_refl _, Nat.zero_le _, .inl rfl, fun _ => rfl⟩, fun _ h => by cases h⟩
  · refine ⟨_, cap, rfl, ⟨hX, hle, hc, .inr ⟨g, cur.toList.drop (n * 3), rfl, ?_⟩, by simp⟩, fun z hz => by cases hz; exact hb⟩
    unfold Own
    rw [hg, ← ht, List.take_append_drop]
theorem infoN : (Try.prog.info? 54).map (fun i => (i.zero, i.size, i.bytes)) = some (some (.agg #[.int .u16 0, .int .u16 0, .int .u8 0]), 3, 6) := by kernel_rfl
theorem nrow_cells {w : World} {a : Option Addr} {n c : Nat} {X : List (Int × Int × Int)} (h : NRow w a n c X) : ∀ ad, a = some ad → ∀ j u, (cellsN X)[j]? = some u → w.cell? (ad.add j) = some u := by
  intro ad ha j u hj
  have hlt := (List.getElem?_eq_some_iff.1 hj).1
  rw [cellsN_length, h.len] at hlt
  obtain ⟨g, R, hb, ho⟩ := h.cells.resolve_left (by omega)
  rw [hb] at ha
  cases ha
  have hadd : (⟨g, 0, none⟩ : Addr).add j = ⟨g, j, none⟩ := by unfold Addr.add; split <;> simp_all
  have hl := h.len
  rw [hadd, ho.cell j (by rw [List.length_append, cellsN_length]; omega), List.getD_eq_getElem?_getD, List.getElem?_append_left (by rw [cellsN_length]; omega), hj]
  rfl
/-- append(v, notes...). -/
theorem wpList_append_nts {w : World} {ops : Array Oper} {rest : List Oper} {o : Oper} {a : Act} {Q : Exit → Act → World → Prop} (hgd : o.guard = none) (s x : Operand)
    (ho : o.op = .call { callee := .builtin .append, args := #[s, x], argTypes := #[45, 45] })
    (B : Nat) (v : Value) (n : Nat) (X : List (Int × Int × Int)) (hs : a.eval s = v) (hown : w.ownsRow B 54 3 v n (cellsN X))
    (sa : Option Addr) (m c : Nat) (Y : List (Int × Int × Int)) (hx : a.eval x = .slice sa m c) (hrow : NRow w sa m c Y) (hnm : n + m ≤ 1000000) (hB : B ≤ w.heap.size)
    (h : ∀ v' w', w'.ownsRow B 54 3 v' (n + m) (cellsN (X ++ Y)) → w.grownBy w' v.ownBlock → wpList Try.prog ops Q rest (a.put o.dst v') w') : wpList Try.prog ops Q (o :: rest) a w :=
  wpList_plain hgd fun _ hK => by
    obtain ⟨i0, hi, hz0, hz1, hz2⟩ := info_parts infoN
    refine wp_append_rows s x _ ho B _ i0 _ 3 6 Try.underlying45 hi hz0 hz1 hz2 rfl (by decide) v n (cellsN X) hs hown sa m c (cellsN Y) hx (by rw [cellsN_length, hrow.len]) (nrow_cells hrow) (cellsN_one Y) (fun e => ⟨by have := hrow.isNil e; have := hrow.le; omega, hrow.isNil e⟩) (by unfold maxLen; omega) (by omega) hB ?_
    intro v' w' h2 h3
    exact hK _ _ (h v' w' (by rw [cellsN_append]; exact h2) h3)
end Go.Proofs.Ytppbcehcaeeocaa
/- A table's tellOne. -/
namespace Go.Proofs.Ytppbcehcaeeocaa
open Go.RowKit Go.Maps

/-- What is told, and the table behind it. -/
def NewsOut (y : Tl) (T : Tb) (X : List (Int × Int × Int)) (w : World) (e : Ending) (w' : World) : Prop :=
  ∃ a c, e = .returned (.slice a X.length c) ∧ NRow w' a X.length c X ∧ TbAt w' y T ∧ Exc (Mut y) w w' ∧ ∀ z, a = some z → w.heap.size ≤ z.block
theorem Tb.saidWith (T : Tb) : ({ T with said := T.said } : Tb) = T := rfl
theorem below_size {w w' : World} (h : Below w.heap.size w w') : w.heap.size ≤ w'.heap.size := h.size
set_option maxRecDepth 100000 in
theorem tellOne_no {y : Tl} {T : Tb} (n : Int) (w : World) (h : TbAt w y T) (ht : T.tr = false) : Calls Try.prog 45 #[.pointer (some ⟨y.tb, 0, none⟩), .int .u16 n] w (NewsOut y (T.told1 n) (T.news n) w) := by
  obtain ⟨g0, g1, g2, g3, g4, g5, g6, g7⟩ := h.cells
  have e1 : T.told1 n = T := by unfold Tb.told1; rw [if_neg (by simp [ht])]
  have e2 : T.news n = [] := by unfold Tb.news; simp [ht]
  rw [e1, e2]
  rw [ht] at g1
  have H := Lib.hid h
  clear h e1 e2 ht
  go_enter Try.func45, Try.ntmps45
  go_wp2
  go_ret
  exact ⟨none, 0, rfl, NRow.nil _, H.out, Exc.refl _ _, fun _ h => by cases h⟩
set_option maxRecDepth 100000 in
set_option maxHeartbeats 4000000 in
theorem tellOne_ok {y : Tl} {T : Tb} (n : Int) (w : World) (h : TbAt w y T) (ht : T.tr = true) (hn : (Lit.int .u16 n).wf = true) : Calls Try.prog 45 #[.pointer (some ⟨y.tb, 0, none⟩), .int .u16 n] w (NewsOut y (T.told1 n) (T.news n) w) := by
  obtain ⟨g0, g1, g2, g3, g4, g5, g6, g7⟩ := h.cells
  have e1 : T.told1 n = { T with said := T.saidL n T.D } := by unfold Tb.told1; simp [ht]
  have e2 : T.news n = T.newsL n T.D := by unfold Tb.news; simp [ht]
  rw [e1, e2]
  rw [ht] at g1
  have H := Lib.hid h
  have HN := Lib.hid hn
  have HWD := Lib.hid h.fix.drow.wf
  have HNod := Lib.hid h.wf.nodD
  obtain ⟨m, hm⟩ : ∃ m, m = T.D.length := ⟨_, rfl⟩
  have hmb : m ≤ 64 := by rw [hm]; exact h.wf.lenD
  have HM := Lib.hid hm
  have hhi := h.fix.hi
  rw [← hm] at g3
  clear h e1 e2 ht hn hm
  go_enter Try.func45, Try.ntmps45
  go_wp2_with fail
  clear g0 g1 g2 g3 g4 g5 g6 g7
  go_loopw [5, 19] (fun v kv wr => ∃ k : Nat, k ≤ m ∧ kv = .int .i64 k ∧ TbAt wr y { T with said := T.saidL n (T.D.take k) } ∧ Exc (Mut y) w wr ∧ wr.ownsRow w.heap.size 54 3 v (T.newsL n (T.D.take k)).length (cellsN (T.newsL n (T.D.take k)))) (fun _ kv _ => m - (intOf kv).toNat)
  case atStart => exact ⟨0, Nat.zero_le _, rfl, by rw [List.take_zero, Tb.saidL_nil]; exact H.out, Exc.refl _ _, by simpa [Tb.newsL, cellsN] using World.ownsRow_nil w w.heap.size 54 3⟩
  case round =>
    obtain ⟨k, hk, rfl, hA, hx, hown⟩ := hrel
    have HA := Lib.hid hA
    have HX := Lib.hid hx
    have hle := T.newsL_le n (T.D.take k)
    rw [List.length_take] at hle
    obtain ⟨N, hN⟩ : ∃ N, N = (T.newsL n (T.D.take k)).length := ⟨_, rfl⟩
    rw [← hN] at hown hle
    have hN64 : N ≤ 64 := by omega
    have HNl := Lib.hid hN
    have HW := Lib.hid hown
    have hsz := hx.size
    clear hown hx hN hle
    by_cases hkm : k < m
    · have hkl : k < T.D.length := by rw [← HM.out]; exact hkm
      obtain ⟨b, off, had, hc⟩ := hA.fix.drow.cells.resolve_left (by show ¬ T.D.length = 0; omega)
      have c0 : wr.cell? ⟨b, off + k, none⟩ = some (.int .u16 (T.D.getD k 0)) := hc k hkl
      have hmem := mem_getD (d := 0) hkl
      have hwd := HWD.out _ hmem
      have hnew : T.D.getD k 0 ∉ T.D.take k := fun hm => by
        obtain ⟨i, hi, e⟩ := List.getElem_of_mem hm
        rw [List.length_take] at hi
        rw [List.getElem_take, List.getD_eq_getElem?_getD, List.getElem?_eq_getElem hkl] at e
        have := (List.getElem_inj HNod.out).1 e
        omega
      have HT := Lib.hid (take_one hkl)
      obtain ⟨d, hd⟩ : ∃ d, d = T.D.getD k 0 := ⟨_, rfl⟩
      rw [← hd] at c0 hwd HT hnew hmem
      have HWd := Lib.hid hwd
      have HNew := Lib.hid hnew
      have hso := statusOf_any d wr hA hmem
      have hst9 : ({ T with said := T.saidL n (T.D.take k) } : Tb).st d = T.st d := rfl
      rw [hst9] at hso
      have hsr := T.st_range d
      obtain ⟨s, hs⟩ : ∃ s, s = T.st d := ⟨_, rfl⟩
      rw [← hs] at hso hsr
      have HSo := Lib.hid hso
      have HS := Lib.hid hs
      obtain ⟨g0, g1, g2, g3, g4, g5, g6, g7⟩ := hA.cells
      have k1 : (k : Int) < (m : Int) := by omega
      have k2 : (0 : Int) ≤ (k : Int) := by omega
      have HAd := Lib.hid had
      rw [had]
      clear hd hc hwd hA had hnew hmem hso hst9 hs
      go_wp2_with fail
      with_reducible refine HSo.out.mono ?_
      rintro e w1 ⟨rfl, hb⟩
      have HA1 := Lib.hid (HA.out.below hb)
      have HX1 := Lib.hid (excMut_below HX.out hb)
      have HW1 := Lib.hid (ownsK_below HW.out hb)
      obtain ⟨W, hW⟩ : ∃ W, W = w1.alloc (.cells #[.int .u16 n, .int .u16 d, .int .u8 s] 54) := ⟨_, rfl⟩
      obtain ⟨nb, hnb⟩ : ∃ nb, nb = w1.heap.size := ⟨_, rfl⟩
      have hbW : Below w1.heap.size w1 W := by rw [hW]; exact below_alloc _ _
      have hA2 := HA1.out.below hbW
      have ho2 : Own W nb 54 [.int .u16 n, .int .u16 d, .int .u8 s] := by rw [hW, hnb]; exact heap_alloc_new w1 _
      have HX2 := Lib.hid (excMut_below HX1.out hbW)
      have HW2 := Lib.hid (ownsK_below HW1.out hbW)
      have HA2 := Lib.hid hA2
      clear hb g0 g1 g2 g3 g4 g5 g6 g7 c0 HSo
      go_upto_region 8 with (fail)
      show Code.wp _ _ _ _ (w1.alloc (.cells #[.int .u16 n, .int .u16 d, .int .u8 s] 54))
      rw [← hW, ← hnb]
      obtain ⟨g0, g1, g2, g3, g4, g5, g6, g7⟩ := hA2.cells
      have n0 := ho2.cell 0 (by simp)
      have n1 := ho2.cell 1 (by simp)
      have n2 := ho2.cell 2 (by simp)
      simp only [List.getD_cons_zero, List.getD_cons_succ] at n0 n1 n2
      have HO2 := Lib.hid ho2
      have hlk := fun q => (hA2.below (below_draw W q)).sai.run HN.out HWd.out
      obtain ⟨v9, hv9⟩ : ∃ v9, v9 = T.saidL n (T.D.take k) n d := ⟨_, rfl⟩
      have hlk2 : ∀ q, (Instr.lookup 84 (.map (some y.bs)) (.agg #[.int .u16 n, .int .u16 d]) false).run Try.prog (W.drewN q) = .ok (.int .u8 v9) (W.drewN q) := by rw [hv9]; exact hlk
      have HV := Lib.hid (show v9 = T.said n d by rw [hv9]; exact T.saidL_new HNew.out)
      clear hlk hv9 hA2 ho2 hW hnb hbW
      by_cases hdn : d = n
      · have e1 : (d != n) = false := by simpa using hdn
        have HEnd : Hid (¬ (d ≠ n ∧ T.st d ≠ T.said n d)) := Lib.hid (fun h => h.1 hdn)
        clear hdn
        go_quiet (fail)
        go_wp2
        refine ⟨⟨k + 1, by omega, by go_num, ?_, HX2.out.drawN _, ?_⟩, by simp [intOf]; omega⟩
        · rw [HT.out, T.saidL_snoc_same HEnd.out]; exact HA2.out.below (below_draw _ _)
        · rw [HT.out, T.newsL_snoc, if_neg HEnd.out, List.append_nil, ← HNl.out]; exact ownsK_below HW2.out (below_draw _ _)
      · have e1 : (d != n) = true := by simpa using hdn
        by_cases hsv : s = v9
        · have e2 : (s != v9) = false := by simpa using hsv
          have HEnd : Hid (¬ (d ≠ n ∧ T.st d ≠ T.said n d)) := Lib.hid (fun h => h.2 (by rw [← HS.out, ← HV.out]; exact hsv))
          clear hdn hsv
          go_quiet (fail)
          go_wp2
          refine ⟨⟨k + 1, by omega, by go_num, ?_, HX2.out.drawN _, ?_⟩, by simp [intOf]; omega⟩
          · rw [HT.out, T.saidL_snoc_same HEnd.out]; exact HA2.out.below (below_draw _ _)
          · rw [HT.out, T.newsL_snoc, if_neg HEnd.out, List.append_nil, ← HNl.out]; exact ownsK_below HW2.out (below_draw _ _)
        · have e2 : (s != v9) = true := by simpa using hsv
          have HEnd : Hid (d ≠ n ∧ T.st d ≠ T.said n d) := Lib.hid ⟨hdn, by rw [← HS.out, ← HV.out]; exact hsv⟩
          clear hdn hsv
          go_quiet (fail)
          obtain ⟨W3, hW3⟩ : ∃ W3, W3 = W.drewN nq := ⟨_, rfl⟩
          rw [← hW3]
          have hbd : Below W.heap.size W W3 := by rw [hW3]; exact below_draw _ _
          have hA3 := HA2.out.below hbd
          have ho3 := HO2.out.below hbd HO2.out.lt
          have HX3 := Lib.hid (excMut_below HX2.out hbd)
          have HW3 := Lib.hid (ownsK_below HW2.out hbd)
          have HA3 := Lib.hid hA3
          have HO3 := Lib.hid ho3
          clear g0 g1 g2 g3 g4 g5 g6 g7 n0 n1 n2 hlk2 hbd hW3
          obtain ⟨g0, g1, g2, g3, g4, g5, g6, g7⟩ := hA3.cells
          have n0 := ho3.cell 0 (by simp)
          have n1 := ho3.cell 1 (by simp)
          have n2 := ho3.cell 2 (by simp)
          simp only [List.getD_cons_zero, List.getD_cons_succ] at n0 n1 n2
          have hset := set_any y.bs _ n d s W3.drew hA3.drew.sai HN.out HWd.out
          have HSet := Lib.hid hset
          clear hA3 ho3 hset
          go_wp2_with fail
          go_still_tail 5, (by kernel_rfl)
          repeat still_step
          change wpList _ _ _ _ _ W3.drew
          go_wp2_with fail
          with_reducible refine HSet.out.mono ?_
          rintro e w5 ⟨rfl, hR, hx5⟩
          have hA5 := (HA3.out.drew).newSai hx5 hR
          have HX5 := Lib.hid ((HX3.out.drawN 1).trans (excMut hx5 (.inr (.inr rfl))) (fun _ _ h => h))
          have hsz5 := HX5.out.size
          have hhi9 := HA.out.fix.hb.2.2.2.2
          have HW5 := Lib.hid (ownsK_exc (ownsK_below HW3.out (below_draw W3 1)) hx5 (fun j hj => by have := (ownsK_lt HW3.out hj).1; omega))
          have ho5 : Own w5 nb 54 [.int .u16 n, .int .u16 d, .int .u8 s] := by
            unfold Own
            rw [hx5.block nb (HO3.out.lt) (fun hh => by subst hh; exact own_map HO3.out HA3.out.sai.map.choose_spec.choose_spec)]
            exact HO3.out
          have HA5 := Lib.hid hA5
          have HO5 := Lib.hid ho5
          clear g0 g1 g2 g3 g4 g5 g6 g7 n0 n1 n2 hA5 hR hx5 HSet
          have n0 := ho5.cell 0 (by simp)
          have n1 := ho5.cell 1 (by simp)
          have n2 := ho5.cell 2 (by simp)
          simp only [List.getD_cons_zero, List.getD_cons_succ] at n0 n1 n2
          have hnlt := ho5.lt
          clear ho5 hhi9
          go_wp2_with (at_builtin; refine wpList_append_agg Try.underlying45 infoN rfl (by decide) (by decide) rfl _ _ rfl w.heap.size _ _ _ [.int .u16 n, .int .u16 d, .int .u8 s] rfl (fun u hu => by simp at hu; rcases hu with rfl | rfl | rfl <;> rfl) rfl (by exact HW5.out) rfl (by omega) hsz5 ?_; intro v1 w6 h1 h2 h3; have HW6 := Lib.hid h1; have HG6 := Lib.hid h2; clear h1 h2 h3 n0 n1 n2)
          go_wp2
          have hb6 : Exc (fun j => w.heap.size ≤ j) w5 w6 := HG6.out.exc.weak fun i _ hi => (ownsK_lt HW5.out hi).1
          refine ⟨⟨k + 1, by omega, by go_num, ?_, HX5.out.trans hb6 (fun i hi hh => by omega), ?_⟩, by simp [intOf]; omega⟩
          · rw [HT.out, T.saidL_snoc HEnd.out.1]
            have h9 := HA5.out.exc hb6 (fun i hi _ => .inl (Nat.le_trans hhi hi))
            rw [HS.out] at h9
            exact h9
          · rw [HT.out, T.newsL_snoc, if_pos HEnd.out, cellsN_append, List.length_append, ← HNl.out, ← HS.out]
            exact HW6.out
    · obtain rfl : k = m := by omega
      have htk : T.D.take k = T.D := List.take_of_length_le (by rw [HM.out]; exact Nat.le_refl _)
      have hown := HW.out
      have hAe := HA.out
      have hNe := HNl.out
      rw [htk] at hown hAe hNe
      obtain ⟨a2, c2, rfl, hr2, hfr⟩ := nrow_of hown hNe.symm
      have HR := Lib.hid hr2
      have HAe := Lib.hid hAe
      have HFr := Lib.hid hfr
      have HNe := Lib.hid hNe
      clear hown hAe hr2 hfr htk hNe hA
      go_wp2
      go_ret
      exact ⟨a2, c2, by rw [← HNe.out]; rfl, by rw [← HNe.out]; exact HR.out, HAe.out, HX.out, HFr.out⟩
end Go.Proofs.Ytppbcehcaeeocaa
/- A table's Tell, Greet and Ask. -/
namespace Go.Proofs.Ytppbcehcaeeocaa
open Go.RowKit Go.Maps

theorem tellOne_any {y : Tl} {T : Tb} (n : Int) (w : World) (h : TbAt w y T) (hn : (Lit.int .u16 n).wf = true) : Calls Try.prog 45 #[.pointer (some ⟨y.tb, 0, none⟩), .int .u16 n] w (NewsOut y (T.told1 n) (T.news n) w) := by
  cases ht : T.tr
  · exact tellOne_no n w h ht
  · exact tellOne_ok n w h ht hn
/-- Notes without spare capacity, in memory of the call's own, and the table behind them. -/
def NotesOut (y : Tl) (T : Tb) (X : List (Int × Int × Int)) (w : World) (e : Ending) (w' : World) : Prop :=
  ∃ a, e = .returned (.slice a X.length X.length) ∧ NRow w' a X.length X.length X ∧ TbAt w' y T ∧ Exc (Mut y) w w' ∧ ∀ z, a = some z → w.heap.size ≤ z.block
/-- .. with an error that is none. -/
def NotesOut2 (y : Tl) (T : Tb) (X : List (Int × Int × Int)) (w : World) (e : Ending) (w' : World) : Prop :=
  ∃ a, e = .returned (.tuple #[.slice a X.length X.length, .int .i64 0]) ∧ NRow w' a X.length X.length X ∧ TbAt w' y T ∧ Exc (Mut y) w w' ∧ ∀ z, a = some z → w.heap.size ≤ z.block
theorem NRow.clip {w : World} {a : Option Addr} {n c : Nat} {X : List (Int × Int × Int)} (h : NRow w a n c X) : NRow w a n n X := ⟨h.len, Nat.le_refl _, Nat.le_trans h.le h.max, h.cells, fun e => by have := h.isNil e; have := h.le; omega⟩
set_option maxRecDepth 100000 in
theorem tell_nul (a : Option Addr) (w : World) (h : Nul w a) : Calls Try.prog 27 #[.pointer a] w fun e w' => e = .returned (.slice none 0 0) ∧ w = w' := by
  have HE := Lib.hid (isEmpty_nul a w h)
  clear h
  go_enter Try.func27, Try.ntmps27
  go_wp2_with fail
  with_reducible refine HE.out.mono ?_
  rintro e w' ⟨rfl, rfl⟩
  go_wp2
  go_ret
  exact ⟨rfl, rfl⟩
set_option maxRecDepth 100000 in
theorem ask_nul (a : Option Addr) (w : World) (h : Nul w a) : Calls Try.prog 28 #[.pointer a] w fun e w' => e = .returned (.slice none 0 0) ∧ w = w' := by
  have HE := Lib.hid (isEmpty_nul a w h)
  clear h
  go_enter Try.func28, Try.ntmps28
  go_wp2_with fail
  with_reducible refine HE.out.mono ?_
  rintro e w' ⟨rfl, rfl⟩
  go_wp2
  go_ret
  exact ⟨rfl, rfl⟩
set_option maxRecDepth 100000 in
theorem greet_nul (a : Option Addr) (n : Int) (w : World) (h : Nul w a) : Calls Try.prog 22 #[.pointer a, .int .u16 n] w fun e w' => e = .returned (.tuple #[.slice none 0 0, .int .i64 2]) ∧ w = w' := by
  have HE := Lib.hid (check_nul a n w h)
  clear h
  go_enter Try.func22, Try.ntmps22
  go_wp2_with fail
  with_reducible refine HE.out.mono ?_
  rintro e w' ⟨rfl, rfl⟩
  go_wp2
  go_ret2
  exact ⟨rfl, rfl⟩
set_option maxRecDepth 100000 in
theorem greet_no {y : Tl} {T : Tb} (n : Int) (w : World) (h : TbAt w y T) (hn : (Lit.int .u16 n).wf = true) (hN : n ∉ T.N) : Calls Try.prog 22 #[.pointer (some ⟨y.tb, 0, none⟩), .int .u16 n] w fun e w' => e = .returned (.tuple #[.slice none 0 0, .int .i64 7]) ∧ Below w.heap.size w w' := by
  have hE := check_any n w h hn
  rw [if_neg hN] at hE
  have HE := Lib.hid hE
  clear h hn hN hE
  go_enter Try.func22, Try.ntmps22
  go_wp2_with fail
  with_reducible refine HE.out.mono ?_
  rintro e w' ⟨rfl, hb⟩
  have HB := Lib.hid hb
  clear hb
  go_wp2
  go_ret2
  exact ⟨rfl, HB.out⟩
set_option maxRecDepth 100000 in
theorem greet_ok {y : Tl} {T : Tb} (n : Int) (w : World) (h : TbAt w y T) (hN : n ∈ T.N) : Calls Try.prog 22 #[.pointer (some ⟨y.tb, 0, none⟩), .int .u16 n] w (NotesOut2 y (T.told1 n) (T.news n) w) := by
  have hn := h.fix.nrow.wf n hN
  have hE := check_any n w h hn
  rw [if_pos hN] at hE
  have HE := Lib.hid hE
  have HT := Lib.hid (fun (W : World) (hb : Below w.heap.size w W) => tellOne_any n W (h.below hb) hn)
  clear h hn hN hE
  go_enter Try.func22, Try.ntmps22
  go_wp2_with fail
  with_reducible refine HE.out.mono ?_
  rintro e w1 ⟨rfl, hb⟩
  have HB := Lib.hid hb
  clear hb
  go_wp2_with fail
  with_reducible refine (HT.out w1 HB.out).mono ?_
  rintro e w2 ⟨a, c, rfl, hr, hA, hx, hf⟩
  have HCl := Lib.hid (clipN_any a (T.news n).length c w2 hr.le hr.max)
  have HR := Lib.hid hr
  have HA := Lib.hid hA
  have HX := Lib.hid ((Exc.of_below (S := Mut y) HB.out).trans hx (fun _ _ h => h))
  have HF := Lib.hid (fun z hz => Nat.le_trans HB.out.size (hf z hz))
  clear hr hA hx hf
  go_wp2_with fail
  with_reducible refine HCl.out.mono ?_
  rintro e w' ⟨rfl, rfl⟩
  go_wp2
  go_ret2
  exact ⟨a, rfl, HR.out.clip, HA.out, HX.out, HF.out⟩
theorem notin_take {L : List Int} (h : L.Nodup) {k : Nat} (hk : k < L.length) : L.getD k 0 ∉ L.take k := fun hm => by
  obtain ⟨i, hi, e⟩ := List.getElem_of_mem hm
  rw [List.length_take] at hi
  rw [List.getElem_take, List.getD_eq_getElem?_getD, List.getElem?_eq_getElem hk] at e
  have := (List.getElem_inj h).1 e
  omega
set_option maxRecDepth 100000 in
set_option maxHeartbeats 4000000 in
theorem tell_any {y : Tl} {T : Tb} (w : World) (h : TbAt w y T) : Calls Try.prog 27 #[.pointer (some ⟨y.tb, 0, none⟩)] w (NotesOut y (T.toldL T.N) (T.tellL T.N) w) := by
  have HE := Lib.hid (isEmpty_any w h)
  obtain ⟨g0, g1, g2, g3, g4, g5, g6, g7⟩ := h.cells
  have H := Lib.hid h
  have HWN := Lib.hid h.fix.nrow.wf
  have HNod := Lib.hid h.wf.nodN
  have hhi := h.fix.hi
  have hlD := h.wf.lenD
  obtain ⟨m, hm⟩ : ∃ m, m = T.N.length := ⟨_, rfl⟩
  have hmb : m ≤ 1024 := by rw [hm]; exact h.wf.lenN
  have HM := Lib.hid hm
  rw [← hm] at g2
  clear h hm
  go_enter Try.func27, Try.ntmps27
  go_wp2_with fail
  with_reducible refine HE.out.mono ?_
  rintro e w' ⟨rfl, rfl⟩
  go_wp2_with fail
  clear g0 g1 g2 g3 g4 g5 g6 g7
  go_loopw [3, 13] (fun v kv wr => ∃ k : Nat, k ≤ m ∧ kv = .int .i64 k ∧ TbAt wr y (T.toldL (T.N.take k)) ∧ Exc (Mut y) w wr ∧ wr.ownsRow w.heap.size 54 3 v (T.tellL (T.N.take k)).length (cellsN (T.tellL (T.N.take k)))) (fun _ kv _ => m - (intOf kv).toNat)
  case atStart => exact ⟨0, Nat.zero_le _, rfl, by rw [List.take_zero, Tb.toldL_nil]; exact H.out, Exc.refl _ _, by simpa [Tb.tellL, cellsN] using World.ownsRow_nil w w.heap.size 54 3⟩
  case round =>
    obtain ⟨k, hk, rfl, hA, hx, hown⟩ := hrel
    have HA := Lib.hid hA
    have HX := Lib.hid hx
    have hle := T.tellL_le (T.N.take k)
    rw [List.length_take] at hle
    have hle2 : (T.tellL (T.N.take k)).length ≤ 1024 * 64 := Nat.le_trans hle (Nat.mul_le_mul (by omega) hlD)
    obtain ⟨N, hN⟩ : ∃ N, N = (T.tellL (T.N.take k)).length := ⟨_, rfl⟩
    rw [← hN] at hown hle2
    have HNl := Lib.hid hN
    have HW := Lib.hid hown
    have hsz := hx.size
    clear hown hx hN hle
    by_cases hkm : k < m
    · have hkl : k < T.N.length := by rw [← HM.out]; exact hkm
      obtain ⟨b, off, had, hc⟩ := hA.fix.nrow.cells.resolve_left (by show ¬ T.N.length = 0; omega)
      have c0 : wr.cell? ⟨b, off + k, none⟩ = some (.int .u16 (T.N.getD k 0)) := hc k hkl
      have hmem := mem_getD (d := 0) hkl
      have hwn := HWN.out _ hmem
      have hnew := notin_take HNod.out hkl
      have HT := Lib.hid (take_one hkl)
      obtain ⟨n, hn⟩ : ∃ n, n = T.N.getD k 0 := ⟨_, rfl⟩
      rw [← hn] at c0 hwn HT hnew hmem
      have HWn := Lib.hid hwn
      have HNew := Lib.hid hnew
      have hrun := hA.ups.run hwn
      have hmm : decide (n ∈ (T.toldL (T.N.take k)).N) = true := decide_eq_true hmem
      rw [hmm, Bool.true_and] at hrun
      have hup : (T.toldL (T.N.take k)).up n = T.up n := rfl
      rw [hup] at hrun
      obtain ⟨g0, g1, g2, g3, g4, g5, g6, g7⟩ := hA.cells
      have k1 : (k : Int) < (m : Int) := by omega
      have k2 : (0 : Int) ≤ (k : Int) := by omega
      rw [had]
      have HAd := Lib.hid had
      clear hn hc hwn hA had hnew hmem hmm hup
      cases hu : T.up n
      · rw [hu] at hrun
        have HU := Lib.hid hu
        clear hu
        go_wp2
        refine ⟨⟨k + 1, by omega, by go_num, ?_, HX.out, ?_⟩, by simp [intOf]; omega⟩
        · rw [HT.out, T.toldL_snoc_no HU.out]; exact HA.out
        · rw [HT.out, T.tellL_snoc, if_neg (by rw [HU.out]; decide), List.append_nil, ← HNl.out]; exact HW.out
      · rw [hu] at hrun
        have HU := Lib.hid hu
        have hcon := tellOne_any n wr HA.out HWn.out
        rw [T.toldL_news HNew.out, ← T.toldL_snoc HU.out, ← HT.out] at hcon
        have hnl := T.news_le n
        obtain ⟨M, hM⟩ : ∃ M, M = (T.news n).length := ⟨_, rfl⟩
        unfold NewsOut at hcon
        rw [← hM] at hcon hnl
        have HMl := Lib.hid hM
        have HCon := Lib.hid hcon
        clear hu hcon hM
        go_wp2_with fail
        with_reducible refine HCon.out.mono ?_
        rintro e w5 ⟨a5, c5, rfl, hr5, hA5, hx5, hf5⟩
        have HR5 := Lib.hid hr5
        have HA5 := Lib.hid hA5
        have HX5 := Lib.hid (excMut_trans HX.out hx5)
        have hb3 := HA.out.fix.hb
        have HW5 := Lib.hid (ownsK_exc HW.out hx5 (fun j hj hh => by
          have h7 := (ownsK_lt HW.out hj).1
          obtain ⟨_, _, q3, q4, q5⟩ := hb3
          rcases hh with e | e | e <;> omega))
        have hsz5 := HX5.out.size
        clear hr5 hA5 hx5 hf5 hb3 g0 g1 g2 g3 g4 g5 g6 g7 c0 hrun HCon
        go_wp2_with (at_builtin; refine wpList_append_nts rfl _ _ rfl w.heap.size _ _ _ rfl (by exact HW5.out) _ _ _ _ rfl (by exact HR5.out) (by omega) hsz5 ?_; intro v1 w6 h1 h2; have HW6 := Lib.hid h1; have HG6 := Lib.hid h2; clear h1 h2)
        go_wp2
        have hb6 : Exc (fun j => w.heap.size ≤ j) w5 w6 := (Exc.of_grown HG6.out).weak fun i _ hi => (ownsK_lt HW5.out hi).1
        refine ⟨⟨k + 1, by omega, by go_num, HA5.out.exc hb6 (fun i hi _ => .inl (Nat.le_trans hhi hi)), HX5.out.trans hb6 (fun i hi hh => by omega), ?_⟩, by simp [intOf]; omega⟩
        rw [HT.out, T.tellL_snoc, if_pos HU.out, List.length_append, ← HNl.out, ← HMl.out]
        exact HW6.out
    · obtain rfl : k = m := by omega
      have htk : T.N.take k = T.N := List.take_of_length_le (by rw [HM.out]; exact Nat.le_refl _)
      have hown := HW.out
      have hAe := HA.out
      have hNe := HNl.out
      rw [htk] at hown hAe hNe
      obtain ⟨a2, c2, rfl, hr2, hfr⟩ := nrow_of hown hNe.symm
      have HR := Lib.hid hr2
      have HAe := Lib.hid hAe
      have HFr := Lib.hid hfr
      have HNe := Lib.hid hNe
      have HCl := Lib.hid (clipN_any a2 N c2 wr hr2.le hr2.max)
      clear hown hAe hr2 hfr htk hNe hA
      go_wp2_with fail
      with_reducible refine HCl.out.mono ?_
      rintro e w' ⟨rfl, rfl⟩
      go_wp2
      go_ret
      exact ⟨a2, by rw [← HNe.out]; rfl, by rw [← HNe.out]; exact HR.out.clip, HAe.out, HX.out, HFr.out⟩
end Go.Proofs.Ytppbcehcaeeocaa
/- A table's Hear. -/
namespace Go.Proofs.Ytppbcehcaeeocaa
open Go.RowKit Go.Maps

def noteV (n d s : Int) : Value := .agg #[.int .u16 n, .int .u16 d, .int .u8 s]
theorem isDest_q {y : Tl} {T : Tb} (n : Int) (w : World) (h : TbAt w y T) (hn : (Lit.int .u16 n).wf = true) : Calls Try.prog 36 #[.pointer (some ⟨y.tb, 0, none⟩), .int .u16 n] w fun e w' => e = .returned (.bool (decide (n ∈ T.D))) ∧ w' = w :=
  (isDestination_same n w h hn).mono fun _ _ h => ⟨h.1, h.2.symm⟩
theorem isEmpty_q {y : Tl} {T : Tb} (w : World) (h : TbAt w y T) : Calls Try.prog 35 #[.pointer (some ⟨y.tb, 0, none⟩)] w fun e w' => e = .returned (.bool false) ∧ w' = w :=
  (isEmpty_any w h).mono fun _ _ h => ⟨h.1, h.2.symm⟩
set_option maxRecDepth 100000 in
theorem hear_nul (a : Option Addr) (n d s : Int) (w : World) (h : Nul w a) : Calls Try.prog 26 #[.pointer a, noteV n d s] w fun e w' => e = .returned (.int .i64 2) ∧ Below w.heap.size w w' := by
  have hb := below_alloc w (.cells #[.int .u16 n, .int .u16 d, .int .u8 s] 54)
  have HE := Lib.hid (check_nul a n _ (h.later hb))
  have HB := Lib.hid hb
  unfold noteV
  clear h hb
  go_enter Try.func26, Try.ntmps26
  go_wp2_with fail
  with_reducible refine HE.out.mono ?_
  rintro e w' ⟨rfl, rfl⟩
  go_wp2
  go_ret
  exact ⟨rfl, HB.out⟩
set_option maxRecDepth 100000 in
theorem hear_no {y : Tl} {T : Tb} (n d s : Int) (w : World) (h : TbAt w y T) (hn : (Lit.int .u16 n).wf = true) (hN : n ∉ T.N) : Calls Try.prog 26 #[.pointer (some ⟨y.tb, 0, none⟩), noteV n d s] w fun e w' => e = .returned (.int .i64 7) ∧ Below w.heap.size w w' := by
  obtain ⟨W, hW⟩ : ∃ W, W = w.alloc (.cells #[.int .u16 n, .int .u16 d, .int .u8 s] 54) := ⟨_, rfl⟩
  have hb : Below w.heap.size w W := by rw [hW]; exact below_alloc w _
  have ho : Own W w.heap.size 54 [.int .u16 n, .int .u16 d, .int .u8 s] := by rw [hW]; exact heap_alloc_new w _
  have hA := h.below hb
  have hE := check_any n W hA hn
  rw [if_neg hN] at hE
  have HE := Lib.hid hE
  have HB := Lib.hid hb
  have n0 := ho.cell 0 (by simp)
  have n1 := ho.cell 1 (by simp)
  have n2 := ho.cell 2 (by simp)
  simp only [List.getD_cons_zero, List.getD_cons_succ] at n0 n1 n2
  unfold noteV
  clear h hb hA hE ho hn hN
  go_enter Try.func26, Try.ntmps26
  go_upto_region 1 with (fail)
  show Code.wp _ _ _ _ (w.alloc (.cells #[.int .u16 n, .int .u16 d, .int .u8 s] 54))
  rw [← hW]
  clear hW
  go_wp2_with fail
  with_reducible refine HE.out.mono ?_
  rintro e w1 ⟨rfl, hb⟩
  have HB1 := Lib.hid (HB.out.trans (hb.mono HB.out.size))
  clear hb
  go_wp2
  go_ret
  exact ⟨rfl, HB1.out⟩
set_option maxRecDepth 100000 in
set_option maxHeartbeats 1000000 in
theorem hear_none {y : Tl} {T : Tb} (n d s : Int) (w : World) (h : TbAt w y T) (hN : n ∈ T.N) (hd : (Lit.int .u16 d).wf = true) (hm : d ≠ T.me) (hD : d ∉ T.D) : Calls Try.prog 26 #[.pointer (some ⟨y.tb, 0, none⟩), noteV n d s] w (fun e w' => e = .returned (.int .i64 7) ∧ Below w.heap.size w w') := by
  have hn := h.fix.nrow.wf n hN
  obtain ⟨W, hW⟩ : ∃ W, W = w.alloc (.cells #[.int .u16 n, .int .u16 d, .int .u8 s] 54) := ⟨_, rfl⟩
  have hb : Below w.heap.size w W := by rw [hW]; exact below_alloc w _
  have ho : Own W w.heap.size 54 [.int .u16 n, .int .u16 d, .int .u8 s] := by rw [hW]; exact heap_alloc_new w _
  have hA := h.below hb
  have hE := check_any n W hA hn
  rw [if_pos hN] at hE
  have HE := Lib.hid hE
  have HB := Lib.hid hb
  have HA := Lib.hid hA
  have HO := Lib.hid ho
  have HN := Lib.hid hn
  have HD := Lib.hid hd
  have e1 : (d != T.me) = true := by simpa using hm
  have HNo := Lib.hid hD
  clear hm hD
  have n0 := ho.cell 0 (by simp)
  have n1 := ho.cell 1 (by simp)
  have n2 := ho.cell 2 (by simp)
  simp only [List.getD_cons_zero, List.getD_cons_succ] at n0 n1 n2
  unfold noteV
  clear h hb hA hE ho hn hN hd
  go_enter Try.func26, Try.ntmps26
  go_upto_region 1 with (fail)
  show Code.wp _ _ _ _ (w.alloc (.cells #[.int .u16 n, .int .u16 d, .int .u8 s] 54))
  rw [← hW]
  clear hW
  go_wp2_with fail
  with_reducible refine HE.out.mono ?_
  rintro e w1 ⟨rfl, hb⟩
  have HB1 := Lib.hid (HB.out.trans (hb.mono HB.out.size))
  have hA1 := HA.out.below hb
  have ho1 := HO.out.below hb HO.out.lt
  have HO1 := Lib.hid ho1
  have HA1 := Lib.hid hA1
  clear hb n0 n1 n2
  obtain ⟨g0, g1, g2, g3, g4, g5, g6, g7⟩ := hA1.cells
  have n0 := ho1.cell 0 (by simp)
  have n1 := ho1.cell 1 (by simp)
  have n2 := ho1.cell 2 (by simp)
  simp only [List.getD_cons_zero, List.getD_cons_succ] at n0 n1 n2
  have HDe := Lib.hid (fun q => (isDest_q d (w1.drewN q) (hA1.below (below_draw w1 q)) HD.out).mono (R' := fun e w' => e = .returned (.bool false) ∧ w' = w1.drewN q) fun _ _ h => ⟨by rw [h.1, decide_eq_false HNo.out], h.2⟩)
  clear hA1 ho1
  go_wp2_with fail
  go_quiet ((go_at_call 36; exact Calls.quiet_of_same (HDe.out _)))
  go_wp2
  go_ret
  exact ⟨rfl, HB1.out.trans ((below_draw _ _).mono HB1.out.size)⟩
set_option maxRecDepth 100000 in
set_option maxHeartbeats 1000000 in
theorem hear_me_hi {y : Tl} {T : Tb} (n d s : Int) (w : World) (h : TbAt w y T) (hN : n ∈ T.N) (hd : (Lit.int .u16 d).wf = true) (hm : d = T.me) (hs : 2 < s) : Calls Try.prog 26 #[.pointer (some ⟨y.tb, 0, none⟩), noteV n d s] w (fun e w' => e = .returned (.int .i64 1) ∧ Below w.heap.size w w') := by
  have hn := h.fix.nrow.wf n hN
  obtain ⟨W, hW⟩ : ∃ W, W = w.alloc (.cells #[.int .u16 n, .int .u16 d, .int .u8 s] 54) := ⟨_, rfl⟩
  have hb : Below w.heap.size w W := by rw [hW]; exact below_alloc w _
  have ho : Own W w.heap.size 54 [.int .u16 n, .int .u16 d, .int .u8 s] := by rw [hW]; exact heap_alloc_new w _
  have hA := h.below hb
  have hE := check_any n W hA hn
  rw [if_pos hN] at hE
  have HE := Lib.hid hE
  have HB := Lib.hid hb
  have HA := Lib.hid hA
  have HO := Lib.hid ho
  have HN := Lib.hid hn
  have HD := Lib.hid hd
  have e1 : (d != T.me) = false := by simpa using hm
  have e2 : decide (2 < s) = true := decide_eq_true hs
  clear hm hs
  have n0 := ho.cell 0 (by simp)
  have n1 := ho.cell 1 (by simp)
  have n2 := ho.cell 2 (by simp)
  simp only [List.getD_cons_zero, List.getD_cons_succ] at n0 n1 n2
  unfold noteV
  clear h hb hA hE ho hn hN hd
  go_enter Try.func26, Try.ntmps26
  go_upto_region 1 with (fail)
  show Code.wp _ _ _ _ (w.alloc (.cells #[.int .u16 n, .int .u16 d, .int .u8 s] 54))
  rw [← hW]
  clear hW
  go_wp2_with fail
  with_reducible refine HE.out.mono ?_
  rintro e w1 ⟨rfl, hb⟩
  have HB1 := Lib.hid (HB.out.trans (hb.mono HB.out.size))
  have hA1 := HA.out.below hb
  have ho1 := HO.out.below hb HO.out.lt
  have HO1 := Lib.hid ho1
  have HA1 := Lib.hid hA1
  clear hb n0 n1 n2
  obtain ⟨g0, g1, g2, g3, g4, g5, g6, g7⟩ := hA1.cells
  have n0 := ho1.cell 0 (by simp)
  have n1 := ho1.cell 1 (by simp)
  have n2 := ho1.cell 2 (by simp)
  simp only [List.getD_cons_zero, List.getD_cons_succ] at n0 n1 n2
  clear hA1 ho1
  go_wp2_with fail
  go_quiet (fail)
  obtain ⟨W2, hW2⟩ : ∃ W2, W2 = w1.drewN nq := ⟨_, rfl⟩
  rw [← hW2]
  have hbd : Below w1.heap.size w1 W2 := by rw [hW2]; exact below_draw _ _
  have HB2 := Lib.hid (HB1.out.trans (hbd.mono HB1.out.size))
  have hA2 := HA1.out.below hbd
  have ho2 := HO1.out.below hbd HO1.out.lt
  have HA2 := Lib.hid hA2
  have HO2 := Lib.hid ho2
  clear g0 g1 g2 g3 g4 g5 g6 g7 n0 n1 n2 hW2 hbd
  obtain ⟨g0, g1, g2, g3, g4, g5, g6, g7⟩ := hA2.cells
  have n0 := ho2.cell 0 (by simp)
  have n1 := ho2.cell 1 (by simp)
  have n2 := ho2.cell 2 (by simp)
  simp only [List.getD_cons_zero, List.getD_cons_succ] at n0 n1 n2
  clear hA2 ho2
  go_wp2_with fail
  go_quiet (fail)
  go_wp2
  go_ret
  exact ⟨rfl, HB2.out.trans ((below_draw _ _).mono HB2.out.size)⟩
set_option maxRecDepth 100000 in
set_option maxHeartbeats 1000000 in
theorem hear_me_lo {y : Tl} {T : Tb} (n d s : Int) (w : World) (h : TbAt w y T) (hN : n ∈ T.N) (hd : (Lit.int .u16 d).wf = true) (hm : d = T.me) (hs : s ≤ 2) : Calls Try.prog 26 #[.pointer (some ⟨y.tb, 0, none⟩), noteV n d s] w (fun e w' => e = .returned (.int .i64 1) ∧ Below w.heap.size w w') := by
  have hn := h.fix.nrow.wf n hN
  obtain ⟨W, hW⟩ : ∃ W, W = w.alloc (.cells #[.int .u16 n, .int .u16 d, .int .u8 s] 54) := ⟨_, rfl⟩
  have hb : Below w.heap.size w W := by rw [hW]; exact below_alloc w _
  have ho : Own W w.heap.size 54 [.int .u16 n, .int .u16 d, .int .u8 s] := by rw [hW]; exact heap_alloc_new w _
  have hA := h.below hb
  have hE := check_any n W hA hn
  rw [if_pos hN] at hE
  have HE := Lib.hid hE
  have HB := Lib.hid hb
  have HA := Lib.hid hA
  have HO := Lib.hid ho
  have HN := Lib.hid hn
  have HD := Lib.hid hd
  have e1 : (d != T.me) = false := by simpa using hm
  have e3 : (d == T.me) = true := by simpa using hm
  have e2 : decide (2 < s) = false := decide_eq_false (by omega)
  clear hm hs
  have n0 := ho.cell 0 (by simp)
  have n1 := ho.cell 1 (by simp)
  have n2 := ho.cell 2 (by simp)
  simp only [List.getD_cons_zero, List.getD_cons_succ] at n0 n1 n2
  unfold noteV
  clear h hb hA hE ho hn hN hd
  go_enter Try.func26, Try.ntmps26
  go_upto_region 1 with (fail)
  show Code.wp _ _ _ _ (w.alloc (.cells #[.int .u16 n, .int .u16 d, .int .u8 s] 54))
  rw [← hW]
  clear hW
  go_wp2_with fail
  with_reducible refine HE.out.mono ?_
  rintro e w1 ⟨rfl, hb⟩
  have HB1 := Lib.hid (HB.out.trans (hb.mono HB.out.size))
  have hA1 := HA.out.below hb
  have ho1 := HO.out.below hb HO.out.lt
  have HO1 := Lib.hid ho1
  have HA1 := Lib.hid hA1
  clear hb n0 n1 n2
  obtain ⟨g0, g1, g2, g3, g4, g5, g6, g7⟩ := hA1.cells
  have n0 := ho1.cell 0 (by simp)
  have n1 := ho1.cell 1 (by simp)
  have n2 := ho1.cell 2 (by simp)
  simp only [List.getD_cons_zero, List.getD_cons_succ] at n0 n1 n2
  clear hA1 ho1
  go_wp2_with fail
  go_quiet (fail)
  obtain ⟨W2, hW2⟩ : ∃ W2, W2 = w1.drewN nq := ⟨_, rfl⟩
  rw [← hW2]
  have hbd : Below w1.heap.size w1 W2 := by rw [hW2]; exact below_draw _ _
  have HB2 := Lib.hid (HB1.out.trans (hbd.mono HB1.out.size))
  have hA2 := HA1.out.below hbd
  have ho2 := HO1.out.below hbd HO1.out.lt
  have HA2 := Lib.hid hA2
  have HO2 := Lib.hid ho2
  clear g0 g1 g2 g3 g4 g5 g6 g7 n0 n1 n2 hW2 hbd
  obtain ⟨g0, g1, g2, g3, g4, g5, g6, g7⟩ := hA2.cells
  have n0 := ho2.cell 0 (by simp)
  have n1 := ho2.cell 1 (by simp)
  have n2 := ho2.cell 2 (by simp)
  simp only [List.getD_cons_zero, List.getD_cons_succ] at n0 n1 n2
  clear hA2 ho2
  go_wp2_with fail
  go_quiet (fail)
  go_wp2
  go_ret
  exact ⟨rfl, HB2.out.trans ((below_draw _ _).mono HB2.out.size)⟩
set_option maxRecDepth 100000 in
set_option maxHeartbeats 1000000 in
theorem hear_hi {y : Tl} {T : Tb} (n d s : Int) (w : World) (h : TbAt w y T) (hN : n ∈ T.N) (hd : (Lit.int .u16 d).wf = true) (hm : d ≠ T.me) (hD : d ∈ T.D) (hs : 2 < s) : Calls Try.prog 26 #[.pointer (some ⟨y.tb, 0, none⟩), noteV n d s] w (fun e w' => e = .returned (.int .i64 1) ∧ Below w.heap.size w w') := by
  have hn := h.fix.nrow.wf n hN
  obtain ⟨W, hW⟩ : ∃ W, W = w.alloc (.cells #[.int .u16 n, .int .u16 d, .int .u8 s] 54) := ⟨_, rfl⟩
  have hb : Below w.heap.size w W := by rw [hW]; exact below_alloc w _
  have ho : Own W w.heap.size 54 [.int .u16 n, .int .u16 d, .int .u8 s] := by rw [hW]; exact heap_alloc_new w _
  have hA := h.below hb
  have hE := check_any n W hA hn
  rw [if_pos hN] at hE
  have HE := Lib.hid hE
  have HB := Lib.hid hb
  have HA := Lib.hid hA
  have HO := Lib.hid ho
  have HN := Lib.hid hn
  have HD := Lib.hid hd
  have e1 : (d != T.me) = true := by simpa using hm
  have e2 : decide (2 < s) = true := decide_eq_true hs
  have HYes := Lib.hid hD
  clear hm hs hD
  have n0 := ho.cell 0 (by simp)
  have n1 := ho.cell 1 (by simp)
  have n2 := ho.cell 2 (by simp)
  simp only [List.getD_cons_zero, List.getD_cons_succ] at n0 n1 n2
  unfold noteV
  clear h hb hA hE ho hn hN hd
  go_enter Try.func26, Try.ntmps26
  go_upto_region 1 with (fail)
  show Code.wp _ _ _ _ (w.alloc (.cells #[.int .u16 n, .int .u16 d, .int .u8 s] 54))
  rw [← hW]
  clear hW
  go_wp2_with fail
  with_reducible refine HE.out.mono ?_
  rintro e w1 ⟨rfl, hb⟩
  have HB1 := Lib.hid (HB.out.trans (hb.mono HB.out.size))
  have hA1 := HA.out.below hb
  have ho1 := HO.out.below hb HO.out.lt
  have HO1 := Lib.hid ho1
  have HA1 := Lib.hid hA1
  clear hb n0 n1 n2
  obtain ⟨g0, g1, g2, g3, g4, g5, g6, g7⟩ := hA1.cells
  have n0 := ho1.cell 0 (by simp)
  have n1 := ho1.cell 1 (by simp)
  have n2 := ho1.cell 2 (by simp)
  simp only [List.getD_cons_zero, List.getD_cons_succ] at n0 n1 n2
  have HDe := Lib.hid (fun q => (isDest_q d (w1.drewN q) (hA1.below (below_draw w1 q)) HD.out).mono (R' := fun e w' => e = .returned (.bool true) ∧ w' = w1.drewN q) fun _ _ h => ⟨by rw [h.1, decide_eq_true HYes.out], h.2⟩)
  clear hA1 ho1
  go_wp2_with fail
  go_quiet ((go_at_call 36; exact Calls.quiet_of_same (HDe.out _)))
  obtain ⟨W2, hW2⟩ : ∃ W2, W2 = w1.drewN nq := ⟨_, rfl⟩
  rw [← hW2]
  have hbd : Below w1.heap.size w1 W2 := by rw [hW2]; exact below_draw _ _
  have HB2 := Lib.hid (HB1.out.trans (hbd.mono HB1.out.size))
  have hA2 := HA1.out.below hbd
  have ho2 := HO1.out.below hbd HO1.out.lt
  have HA2 := Lib.hid hA2
  have HO2 := Lib.hid ho2
  clear g0 g1 g2 g3 g4 g5 g6 g7 n0 n1 n2 hW2 hbd
  obtain ⟨g0, g1, g2, g3, g4, g5, g6, g7⟩ := hA2.cells
  have n0 := ho2.cell 0 (by simp)
  have n1 := ho2.cell 1 (by simp)
  have n2 := ho2.cell 2 (by simp)
  simp only [List.getD_cons_zero, List.getD_cons_succ] at n0 n1 n2
  clear hA2 ho2
  go_wp2_with fail
  go_quiet (fail)
  go_wp2
  go_ret
  exact ⟨rfl, HB2.out.trans ((below_draw _ _).mono HB2.out.size)⟩
set_option maxRecDepth 100000 in
set_option maxHeartbeats 1000000 in
theorem hear_self {y : Tl} {T : Tb} (n d s : Int) (w : World) (h : TbAt w y T) (hN : n ∈ T.N) (hd : (Lit.int .u16 d).wf = true) (hm : d ≠ T.me) (hD : d ∈ T.D) (hs : s ≤ 2) (he : d = n) : Calls Try.prog 26 #[.pointer (some ⟨y.tb, 0, none⟩), noteV n d s] w (fun e w' => e = .returned (.int .i64 1) ∧ Below w.heap.size w w') := by
  have hn := h.fix.nrow.wf n hN
  obtain ⟨W, hW⟩ : ∃ W, W = w.alloc (.cells #[.int .u16 n, .int .u16 d, .int .u8 s] 54) := ⟨_, rfl⟩
  have hb : Below w.heap.size w W := by rw [hW]; exact below_alloc w _
  have ho : Own W w.heap.size 54 [.int .u16 n, .int .u16 d, .int .u8 s] := by rw [hW]; exact heap_alloc_new w _
  have hA := h.below hb
  have hE := check_any n W hA hn
  rw [if_pos hN] at hE
  have HE := Lib.hid hE
  have HB := Lib.hid hb
  have HA := Lib.hid hA
  have HO := Lib.hid ho
  have HN := Lib.hid hn
  have HD := Lib.hid hd
  have e1 : (d != T.me) = true := by simpa using hm
  have e3 : (d == T.me) = false := by simpa using hm
  have e2 : decide (2 < s) = false := decide_eq_false (by omega)
  have e4 : (d == n) = true := by simpa using he
  have HYes := Lib.hid hD
  clear hm hs hD he
  have n0 := ho.cell 0 (by simp)
  have n1 := ho.cell 1 (by simp)
  have n2 := ho.cell 2 (by simp)
  simp only [List.getD_cons_zero, List.getD_cons_succ] at n0 n1 n2
  unfold noteV
  clear h hb hA hE ho hn hN hd
  go_enter Try.func26, Try.ntmps26
  go_upto_region 1 with (fail)
  show Code.wp _ _ _ _ (w.alloc (.cells #[.int .u16 n, .int .u16 d, .int .u8 s] 54))
  rw [← hW]
  clear hW
  go_wp2_with fail
  with_reducible refine HE.out.mono ?_
  rintro e w1 ⟨rfl, hb⟩
  have HB1 := Lib.hid (HB.out.trans (hb.mono HB.out.size))
  have hA1 := HA.out.below hb
  have ho1 := HO.out.below hb HO.out.lt
  have HO1 := Lib.hid ho1
  have HA1 := Lib.hid hA1
  clear hb n0 n1 n2
  obtain ⟨g0, g1, g2, g3, g4, g5, g6, g7⟩ := hA1.cells
  have n0 := ho1.cell 0 (by simp)
  have n1 := ho1.cell 1 (by simp)
  have n2 := ho1.cell 2 (by simp)
  simp only [List.getD_cons_zero, List.getD_cons_succ] at n0 n1 n2
  have HDe := Lib.hid (fun q => (isDest_q d (w1.drewN q) (hA1.below (below_draw w1 q)) HD.out).mono (R' := fun e w' => e = .returned (.bool true) ∧ w' = w1.drewN q) fun _ _ h => ⟨by rw [h.1, decide_eq_true HYes.out], h.2⟩)
  clear hA1 ho1
  go_wp2_with fail
  go_quiet ((go_at_call 36; exact Calls.quiet_of_same (HDe.out _)))
  obtain ⟨W2, hW2⟩ : ∃ W2, W2 = w1.drewN nq := ⟨_, rfl⟩
  rw [← hW2]
  have hbd : Below w1.heap.size w1 W2 := by rw [hW2]; exact below_draw _ _
  have HB2 := Lib.hid (HB1.out.trans (hbd.mono HB1.out.size))
  have hA2 := HA1.out.below hbd
  have ho2 := HO1.out.below hbd HO1.out.lt
  have HA2 := Lib.hid hA2
  have HO2 := Lib.hid ho2
  clear g0 g1 g2 g3 g4 g5 g6 g7 n0 n1 n2 hW2 hbd
  obtain ⟨g0, g1, g2, g3, g4, g5, g6, g7⟩ := hA2.cells
  have n0 := ho2.cell 0 (by simp)
  have n1 := ho2.cell 1 (by simp)
  have n2 := ho2.cell 2 (by simp)
  simp only [List.getD_cons_zero, List.getD_cons_succ] at n0 n1 n2
  clear hA2 ho2
  go_wp2_with fail
  go_quiet (fail)
  go_wp2
  go_ret
  exact ⟨rfl, HB2.out.trans ((below_draw _ _).mono HB2.out.size)⟩
set_option maxRecDepth 100000 in
set_option maxHeartbeats 1000000 in
theorem hear_ok {y : Tl} {T : Tb} (n d s : Int) (w : World) (h : TbAt w y T) (hN : n ∈ T.N) (hd : (Lit.int .u16 d).wf = true) (hm : d ≠ T.me) (hD : d ∈ T.D) (h0 : 0 ≤ s) (hs : s ≤ 2) (he : d ≠ n) : Calls Try.prog 26 #[.pointer (some ⟨y.tb, 0, none⟩), noteV n d s] w (MOut y (T.hear n d s) 0 w) := by
  have hn := h.fix.nrow.wf n hN
  obtain ⟨W, hW⟩ : ∃ W, W = w.alloc (.cells #[.int .u16 n, .int .u16 d, .int .u8 s] 54) := ⟨_, rfl⟩
  have hb : Below w.heap.size w W := by rw [hW]; exact below_alloc w _
  have ho : Own W w.heap.size 54 [.int .u16 n, .int .u16 d, .int .u8 s] := by rw [hW]; exact heap_alloc_new w _
  have hA := h.below hb
  have hE := check_any n W hA hn
  rw [if_pos hN] at hE
  have HE := Lib.hid hE
  have HB := Lib.hid hb
  have HA := Lib.hid hA
  have HO := Lib.hid ho
  have HN := Lib.hid hn
  have HD := Lib.hid hd
  have e1 : (d != T.me) = true := by simpa using hm
  have e3 : (d == T.me) = false := by simpa using hm
  have e2 : decide (2 < s) = false := decide_eq_false (by omega)
  have e4 : (d == n) = false := by simpa using he
  have HYes := Lib.hid hD
  have HS := Lib.hid (And.intro h0 hs)
  clear hm hs hD he h0
  have n0 := ho.cell 0 (by simp)
  have n1 := ho.cell 1 (by simp)
  have n2 := ho.cell 2 (by simp)
  simp only [List.getD_cons_zero, List.getD_cons_succ] at n0 n1 n2
  unfold noteV
  clear h hb hA hE ho hn hN hd
  go_enter Try.func26, Try.ntmps26
  go_upto_region 1 with (fail)
  show Code.wp _ _ _ _ (w.alloc (.cells #[.int .u16 n, .int .u16 d, .int .u8 s] 54))
  rw [← hW]
  clear hW
  go_wp2_with fail
  with_reducible refine HE.out.mono ?_
  rintro e w1 ⟨rfl, hb⟩
  have HB1 := Lib.hid (HB.out.trans (hb.mono HB.out.size))
  have hA1 := HA.out.below hb
  have ho1 := HO.out.below hb HO.out.lt
  have HO1 := Lib.hid ho1
  have HA1 := Lib.hid hA1
  clear hb n0 n1 n2
  obtain ⟨g0, g1, g2, g3, g4, g5, g6, g7⟩ := hA1.cells
  have n0 := ho1.cell 0 (by simp)
  have n1 := ho1.cell 1 (by simp)
  have n2 := ho1.cell 2 (by simp)
  simp only [List.getD_cons_zero, List.getD_cons_succ] at n0 n1 n2
  have HDe := Lib.hid (fun q => (isDest_q d (w1.drewN q) (hA1.below (below_draw w1 q)) HD.out).mono (R' := fun e w' => e = .returned (.bool true) ∧ w' = w1.drewN q) fun _ _ h => ⟨by rw [h.1, decide_eq_true HYes.out], h.2⟩)
  clear hA1 ho1
  go_wp2_with fail
  go_quiet ((go_at_call 36; exact Calls.quiet_of_same (HDe.out _)))
  obtain ⟨W2, hW2⟩ : ∃ W2, W2 = w1.drewN nq := ⟨_, rfl⟩
  rw [← hW2]
  have hbd : Below w1.heap.size w1 W2 := by rw [hW2]; exact below_draw _ _
  have HB2 := Lib.hid (HB1.out.trans (hbd.mono HB1.out.size))
  have hA2 := HA1.out.below hbd
  have ho2 := HO1.out.below hbd HO1.out.lt
  have HA2 := Lib.hid hA2
  have HO2 := Lib.hid ho2
  clear g0 g1 g2 g3 g4 g5 g6 g7 n0 n1 n2 hW2 hbd
  obtain ⟨g0, g1, g2, g3, g4, g5, g6, g7⟩ := hA2.cells
  have n0 := ho2.cell 0 (by simp)
  have n1 := ho2.cell 1 (by simp)
  have n2 := ho2.cell 2 (by simp)
  simp only [List.getD_cons_zero, List.getD_cons_succ] at n0 n1 n2
  clear hA2 ho2
  go_wp2_with fail
  go_quiet (fail)
  obtain ⟨W3, hW3⟩ : ∃ W3, W3 = W2.drewN nq := ⟨_, rfl⟩
  rw [← hW3]
  have hbd : Below W2.heap.size W2 W3 := by rw [hW3]; exact below_draw _ _
  have HB3 := Lib.hid (HB2.out.trans (hbd.mono HB2.out.size))
  have hA3 := HA2.out.below hbd
  have ho3 := HO2.out.below hbd HO2.out.lt
  have HA3 := Lib.hid hA3
  clear g0 g1 g2 g3 g4 g5 g6 g7 n0 n1 n2 hW3 hbd
  obtain ⟨g0, g1, g2, g3, g4, g5, g6, g7⟩ := hA3.cells
  have n0 := ho3.cell 0 (by simp)
  have n1 := ho3.cell 1 (by simp)
  have n2 := ho3.cell 2 (by simp)
  simp only [List.getD_cons_zero, List.getD_cons_succ] at n0 n1 n2
  have HSet := Lib.hid (set_any y.bt _ n d s W3.drew hA3.drew.tol HN.out HD.out)
  clear hA3 ho3
  go_wp2_with fail
  go_still_tail 5, (by kernel_rfl)
  repeat still_step
  change wpList _ _ _ _ _ W3.drew
  go_wp2_with fail
  with_reducible refine HSet.out.mono ?_
  rintro e w5 ⟨rfl, hR, hx5⟩
  have HA5 := Lib.hid ((HA3.out.drew).newTol hx5 (fun a b => by
    unfold upd2; split
    · exact HS.out
    · exact HA3.out.wf.told a b) hR)
  have HX5 := Lib.hid (((Exc.of_below (S := Mut y) HB3.out).drawN 1).trans (excMut hx5 (.inr (.inl rfl))) (fun _ _ h => h))
  clear g0 g1 g2 g3 g4 g5 g6 g7 n0 n1 n2 hR hx5
  go_wp2
  go_ret
  exact ⟨rfl, HA5.out, HX5.out⟩
end Go.Proofs.Ytppbcehcaeeocaa
