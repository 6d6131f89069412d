/- Joined: TfSet PlMath. -/
import Derived.Test.YtdjmopipmeonlaaTfSts
import Derived.Test.YtdjmopipmeonlaaMath
/- A record's set; a table's Up and Down. -/
namespace Go.Proofs.Ytdjmopipmeonlaa
set_option linter.unusedVariables false
open Go.RowKit Go.Maps

section
variable {w : World} {ops : Array Oper} {rest : List Oper} {o : Oper} {a : Act} {Q : Exit → Act → World → Prop}
theorem wpList_rec_store (hg : o.guard = none) (m x v : Operand) (hop : o.op = Op.mapUpdate 84 m x v) (b : Nat) (T : Int → Int → Int) (hm : a.eval m = .map (some b)) (hat : RecAt w b T) (n d s : Int) (hn : (Lit.int .u16 n).wf = true) (hd : (Lit.int .u16 d).wf = true)
    (hx : a.eval x = .agg #[.int .u16 n, .int .u16 d]) (hv : a.eval v = .int .u8 s) (hK : ∀ w', RecAt w' b (upd2 T n d s) → Exc (fun k => k = b) w w' → wpList Try.prog ops Q rest (a.put o.dst undef) w') : wpList Try.prog ops Q (o :: rest) a w := by
  obtain ⟨f, h1, h2⟩ := hat
  obtain ⟨l, hl⟩ := key_pair hn hd
  refine wpList_store hg m x v _ hop _ _ law_pair Try.underlying84 b f hm h1 _ _ l hx hv hl fun w' g r1 r2 r3 r4 => ?_
  exact hK w' (RecAt.put h2 r1 (show (g (pairV n d)).getD _ = _ by rw [show g (pairV n d) = some (.int .u8 s) from r2]; rfl) r3) r4
theorem wpList_rec_strike (hg : o.guard = none) (m x : Operand) (hop : o.op = Op.call { callee := Callee.builtin Builtin.delete, args := #[m, x], argTypes := #[84, 124] }) (b : Nat) (T : Int → Int → Int) (hm : a.eval m = .map (some b)) (hat : RecAt w b T) (n d : Int) (hn : (Lit.int .u16 n).wf = true) (hd : (Lit.int .u16 d).wf = true)
    (hx : a.eval x = .agg #[.int .u16 n, .int .u16 d]) (hK : ∀ w', RecAt w' b (upd2 T n d 0) → Exc (fun k => k = b) w w' → wpList Try.prog ops Q rest (a.put o.dst (.tuple #[])) w') : wpList Try.prog ops Q (o :: rest) a w := by
  obtain ⟨f, h1, h2⟩ := hat
  obtain ⟨l, hl⟩ := key_pair hn hd
  refine wpList_strike hg m x _ _ hop _ law_pair Try.underlying84 b f hm h1 _ l hx hl fun w' g r1 r2 r3 r4 => ?_
  exact hK w' (RecAt.put h2 r1 (show (g (pairV n d)).getD _ = _ by rw [show g (pairV n d) = none from r2]; rfl) r3) r4
theorem wpList_ups_store (hg : o.guard = none) (m x v : Operand) (hop : o.op = Op.mapUpdate 82 m x v) (b : Nat) (N : List Int) (U : Int → Bool) (hm : a.eval m = .map (some b)) (hat : UpsAt w b N U) (n : Int) (s : Bool) (hn : (Lit.int .u16 n).wf = true) (hN : n ∈ N)
    (hx : a.eval x = .int .u16 n) (hv : a.eval v = .bool s) (hK : ∀ w', UpsAt w' b N (upd1 U n s) → Exc (fun k => k = b) w w' → wpList Try.prog ops Q rest (a.put o.dst undef) w') : wpList Try.prog ops Q (o :: rest) a w := by
  obtain ⟨f, h1, h2⟩ := hat
  refine wpList_store hg m x v _ hop _ _ law_pt Try.underlying82 b f hm h1 _ _ _ hx hv (key_pt hn) fun w' g r1 r2 r3 r4 => ?_
  refine hK w' ⟨g, r1, fun z hz => ?_⟩ r4
  by_cases e : z = n
  · subst e; rw [r2, if_pos hN, upd1_same]
  · rw [r3 _ (by simpa using e), h2 z hz, upd1_other e]
end
/-- What set leaves. -/
def SetOut (b : Nat) (T : Int → Int → Int) (w : World) (e : Ending) (w' : World) : Prop := e = .returned (.tuple #[]) ∧ RecAt w' b T ∧ Exc (fun k => k = b) w w'
set_option maxRecDepth 100000 in
theorem set_any (b : Nat) (T : Int → Int → Int) (n d s : Int) (w : World) (h : RecAt w b T) (hn : (Lit.int .u16 n).wf = true) (hd : (Lit.int .u16 d).wf = true) : Calls Try.prog 46 #[.map (some b), .agg #[.int .u16 n, .int .u16 d, .int .u8 s]] w (SetOut b (upd2 T n d s) w) := by
  have hx0 : Exc (fun k => k = b) w (w.alloc (.cells #[.int .u16 n, .int .u16 d, .int .u8 s] 54)) := (Exc.refl _ w).alloc _
  have HR := Lib.hid (h.exc (S := fun _ => False) ((Exc.refl _ w).alloc (.cells #[.int .u16 n, .int .u16 d, .int .u8 s] 54)) (fun h => h))
  have HX := Lib.hid hx0
  have HN := Lib.hid hn
  have HD := Lib.hid hd
  clear h hx0 hn hd
  by_cases hs : s = 0
  · subst hs
    have e0 : ((0 : Int) == 0) = true := by decide
    go_enter Try.func46, Try.ntmps46
    go_wp2_with (at_delete; refine wpList_rec_strike rfl _ _ rfl b T rfl HR.out n d HN.out HD.out rfl ?_; intro w1 h1 h2)
    have H := Lib.hid (And.intro h1 (HX.out.trans h2 (fun _ _ h => h)))
    clear h1 h2
    go_wp2
    go_end0
    exact ⟨rfl, H.out⟩
  · have e0 : (s == 0) = false := by simpa using hs
    go_enter Try.func46, Try.ntmps46
    go_wp2_with (at_mapUpdate; refine wpList_rec_store rfl _ _ _ rfl b T rfl HR.out n d s HN.out HD.out rfl rfl ?_; intro w1 h1 h2)
    have H := Lib.hid (And.intro h1 (HX.out.trans h2 (fun _ _ h => h)))
    clear h1 h2
    go_wp2
    go_end0
    exact ⟨rfl, H.out⟩
/-- What a method that changes the table leaves: the error, the table. -/
def MOut (y : Tl) (T : Tb) (E : Int) (w : World) (e : Ending) (w' : World) : Prop := e = .returned (.int .i64 E) ∧ TbAt w' y T ∧ Exc (Mut y) w w'
set_option maxRecDepth 100000 in
theorem up_nul (a : Option Addr) (n : Int) (w : World) (h : Nul w a) : Calls Try.prog 24 #[.pointer a, .int .u16 n] w fun e w' => e = .returned (.int .i64 2) ∧ w = w' := by
  have HE := Lib.hid (check_nul a n w h)
  clear h
  go_enter Try.func24, Try.ntmps24
  go_wp2_with fail
  with_reducible refine HE.out.mono ?_
  rintro e w' ⟨rfl, rfl⟩
  go_wp2
  go_ret
  exact ⟨rfl, rfl⟩
set_option maxRecDepth 100000 in
theorem down_nul (a : Option Addr) (n : Int) (w : World) (h : Nul w a) : Calls Try.prog 25 #[.pointer a, .int .u16 n] w fun e w' => e = .returned (.int .i64 2) ∧ w = w' := by
  have HE := Lib.hid (check_nul a n w h)
  clear h
  go_enter Try.func25, Try.ntmps25
  go_wp2_with fail
  with_reducible refine HE.out.mono ?_
  rintro e w' ⟨rfl, rfl⟩
  go_wp2
  go_ret
  exact ⟨rfl, rfl⟩
theorem no_hid {p : Prop} (h : ¬ p) (E F : Int) [Decidable p] : (if p then E else F) = F := if_neg h
set_option maxRecDepth 100000 in
theorem up_no {y : Tl} {T : Tb} (n : Int) (w : World) (h : TbAt w y T) (hn : (Lit.int .u16 n).wf = true) (hN : n ∉ T.N) : Calls Try.prog 24 #[.pointer (some ⟨y.tb, 0, none⟩), .int .u16 n] w fun e w' => e = .returned (.int .i64 7) ∧ Below w.heap.size w w' := by
  have hE := check_any n w h hn
  rw [if_neg hN] at hE
  have HE := Lib.hid hE
  clear h hn hN hE
  go_enter Try.func24, Try.ntmps24
  go_wp2_with fail
  with_reducible refine HE.out.mono ?_
  rintro e w' ⟨rfl, hb⟩
  have HB := Lib.hid hb
  clear hb
  go_wp2
  go_ret
  exact ⟨rfl, HB.out⟩
set_option maxRecDepth 100000 in
theorem down_no {y : Tl} {T : Tb} (n : Int) (w : World) (h : TbAt w y T) (hn : (Lit.int .u16 n).wf = true) (hN : n ∉ T.N) : Calls Try.prog 25 #[.pointer (some ⟨y.tb, 0, none⟩), .int .u16 n] w fun e w' => e = .returned (.int .i64 7) ∧ Below w.heap.size w w' := by
  have hE := check_any n w h hn
  rw [if_neg hN] at hE
  have HE := Lib.hid hE
  clear h hn hN hE
  go_enter Try.func25, Try.ntmps25
  go_wp2_with fail
  with_reducible refine HE.out.mono ?_
  rintro e w' ⟨rfl, hb⟩
  have HB := Lib.hid hb
  clear hb
  go_wp2
  go_ret
  exact ⟨rfl, HB.out⟩
set_option maxRecDepth 100000 in
theorem up_ok {y : Tl} {T : Tb} (n : Int) (w : World) (h : TbAt w y T) (hN : n ∈ T.N) : Calls Try.prog 24 #[.pointer (some ⟨y.tb, 0, none⟩), .int .u16 n] w (MOut y (T.ups n) 0 w) := by
  have hn := h.fix.nrow.wf n hN
  have hE := check_any n w h hn
  rw [if_pos hN] at hE
  have HE := Lib.hid hE
  have HA := Lib.hid (fun (W : World) (hb : Below w.heap.size w W) => h.below hb)
  have HN := Lib.hid hn
  have HNN := Lib.hid hN
  clear h hn hN hE
  go_enter Try.func24, Try.ntmps24
  go_wp2_with fail
  with_reducible refine HE.out.mono ?_
  rintro e w1 ⟨rfl, hb⟩
  have HB := Lib.hid hb
  obtain ⟨g0, g1, g2, g3, g4, g5, g6, g7⟩ := (HA.out w1 hb).cells
  clear hb
  go_wp2_with (at_mapUpdate; refine wpList_ups_store rfl _ _ _ rfl y.bu T.N T.up rfl (HA.out w1 HB.out).ups n true HN.out HNN.out rfl rfl ?_; intro w2 h1 h2)
  have H := Lib.hid (And.intro ((HA.out w1 HB.out).newUps h2 h1) ((Exc.of_below (S := Mut y) HB.out).trans (excMut h2 (.inl rfl)) (fun _ _ h => h)))
  clear h1 h2
  go_wp2
  go_ret
  exact ⟨rfl, H.out.1, H.out.2⟩
/-- What Down has struck after some destinations. -/
def Tb.downL (T : Tb) (n : Int) (L : List Int) : Tb := { T with up := upd1 T.up n false, told := fun x y => if x = n ∧ y ∈ L then 0 else T.told x y, said := fun x y => if x = n ∧ y ∈ L then 0 else T.said x y }
theorem upd2_take {f : Int → Int → Int} {n d : Int} {L : List Int} : upd2 (fun x y => if x = n ∧ y ∈ L then 0 else f x y) n d 0 = fun x y => if x = n ∧ y ∈ L ++ [d] then 0 else f x y := by
  funext x y
  unfold upd2
  by_cases h1 : x = n ∧ y = d
  · rw [if_pos h1, if_pos ⟨h1.1, by simp [h1.2]⟩]
  · rw [if_neg h1]
    by_cases h2 : x = n ∧ y ∈ L
    · show (if x = n ∧ y ∈ L then 0 else f x y) = _
      rw [if_pos h2, if_pos ⟨h2.1, by simp [h2.2]⟩]
    · show (if x = n ∧ y ∈ L then 0 else f x y) = _
      rw [if_neg h2, if_neg]
      rintro ⟨h3, h4⟩
      rcases List.mem_append.1 h4 with h5 | h5
      · exact h2 ⟨h3, h5⟩
      · exact h1 ⟨h3, by simpa using h5⟩
theorem take_one {L : List Int} {k : Nat} (hk : k < L.length) : L.take (k + 1) = L.take k ++ [L.getD k 0] := by
  rw [List.take_succ_eq_append_getElem hk]; simp [List.getD_eq_getElem?_getD, hk]
theorem Tb.downL_nil (T : Tb) (n : Int) : T.downL n [] = { T with up := upd1 T.up n false } := by simp [Tb.downL]
set_option maxRecDepth 100000 in
set_option maxHeartbeats 1000000 in
theorem down_ok {y : Tl} {T : Tb} (n : Int) (w : World) (h : TbAt w y T) (hN : n ∈ T.N) : Calls Try.prog 25 #[.pointer (some ⟨y.tb, 0, none⟩), .int .u16 n] w (MOut y (T.down n) 0 w) := by
  have hn := h.fix.nrow.wf n hN
  have hE := check_any n w h hn
  rw [if_pos hN] at hE
  have HE := Lib.hid hE
  have HA := Lib.hid (fun (W : World) (hb : Below w.heap.size w W) => h.below hb)
  have HN := Lib.hid hn
  have HNN := Lib.hid hN
  have HWD := Lib.hid h.fix.drow.wf
  obtain ⟨m, hm⟩ : ∃ m, m = T.D.length := ⟨_, rfl⟩
  have hmb : m ≤ 64 := by rw [hm]; exact h.wf.lenD
  have HM := Lib.hid hm
  clear h hn hN hE
  go_enter Try.func25, Try.ntmps25
  go_wp2_with fail
  with_reducible refine HE.out.mono ?_
  rintro e w1 ⟨rfl, hb⟩
  have HB := Lib.hid hb
  obtain ⟨g0, g1, g2, g3, g4, g5, g6, g7⟩ := (HA.out w1 hb).cells
  clear hb hm
  have e9 : (T.downL n []).D.length = m := HM.out.symm
  have HE9 := Lib.hid e9
  clear e9
  go_wp2_with (
    at_mapUpdate
    refine wpList_ups_store rfl _ _ _ rfl y.bu T.N T.up rfl (HA.out w1 HB.out).ups n false HN.out HNN.out rfl rfl ?_
    intro w2 h1 h2
    have hA2 := (HA.out w1 HB.out).newUps h2 h1
    have HX2 := Lib.hid ((Exc.of_below (S := Mut y) HB.out).trans (excMut h2 (.inl rfl)) (fun _ _ h => h))
    rw [← Tb.downL_nil] at hA2
    clear g0 g1 g2 g3 g4 g5 g6 g7 h1 h2
    obtain ⟨g0, g1, g2, g3, g4, g5, g6, g7⟩ := hA2.cells
    rw [HE9.out] at g3
    have HA2 := Lib.hid hA2
    clear hA2)
  clear g0 g1 g2 g3 g4 g5 g6 g7
  go_loopw [24] (fun kv wr => ∃ k : Nat, k ≤ m ∧ kv = .int .i64 k ∧ TbAt wr y (T.downL n (T.D.take k)) ∧ Exc (Mut y) w wr) (fun kv _ => m - (intOf kv).toNat)
  case atStart => exact ⟨0, Nat.zero_le _, rfl, HA2.out, HX2.out⟩
  case round =>
    obtain ⟨k, hk, rfl, hA3, hx3⟩ := hrel
    have HA3 := Lib.hid hA3
    have HX3 := Lib.hid hx3
    by_cases hkm : k < m
    · have hkl : k < T.D.length := by rw [← HM.out]; exact hkm
      have hrow := hA3.fix.drow
      obtain ⟨b, off, had, hc⟩ := hrow.cells.resolve_left (by show ¬ T.D.length = 0; omega)
      have c0 := hc k hkl
      have c9 : (T.downL n (T.D.take k)).D = T.D := rfl
      rw [c9] at c0
      have hwd := HWD.out _ (mem_getD (d := 0) hkl)
      have HT := Lib.hid (take_one hkl)
      obtain ⟨d, hd⟩ : ∃ d, d = T.D.getD k 0 := ⟨_, rfl⟩
      rw [← hd] at c0 hwd HT
      have HWd := Lib.hid hwd
      obtain ⟨g0, g1, g2, g3, g4, g5, g6, g7⟩ := hA3.cells
      have k1 : (k : Int) < (m : Int) := by omega
      have k2 : (0 : Int) ≤ (k : Int) := by omega
      have HAD := Lib.hid had
      rw [had]
      clear hd hc hrow hwd c9 hA3 hx3 had
      have HTo : Hid (∀ x z, 0 ≤ upd2 (T.downL n (T.D.take k)).told n d 0 x z ∧ upd2 (T.downL n (T.D.take k)).told n d 0 x z ≤ 2) := Lib.hid (fun x z => by
        unfold upd2; split
        · decide
        · exact HA3.out.wf.told x z)
      have tok : True := trivial
      go_wp2_with (first
        | (at_delete
           have _t := tok
           refine wpList_rec_strike rfl _ _ rfl y.bt _ rfl HA3.out.tol n d HN.out HWd.out rfl ?_
           intro w5 h1 h2
           have hA5 := HA3.out.newTol h2 (U := upd2 (T.downL n (T.D.take k)).told n d 0) HTo.out h1
           have HX5 := Lib.hid (HX3.out.trans (excMut h2 (.inr (.inl rfl))) (fun _ _ h => h))
           have HA5 := Lib.hid hA5
           clear g0 g1 g2 g3 g4 g5 g6 g7 h1 h2 c0 tok
           obtain ⟨g0, g1, g2, g3, g4, g5, g6, g7⟩ := hA5.cells
           clear hA5)
        | (at_delete
           refine wpList_rec_strike rfl _ _ rfl y.bs _ rfl HA5.out.sai n d HN.out HWd.out rfl ?_
           intro w6 h1 h2
           have hA6 := HA5.out.newSai h2 h1
           have HX6 := Lib.hid (HX5.out.trans (excMut h2 (.inr (.inr rfl))) (fun _ _ h => h))
           have HA6 := Lib.hid hA6
           clear g0 g1 g2 g3 g4 g5 g6 g7 h1 h2 hA6)
        | fail)
      go_wp2
      refine ⟨⟨k + 1, by omega, by go_num, ?_, HX6.out⟩, by simp [intOf]; omega⟩
      rw [HT.out]
      have h9 := HA6.out
      unfold Tb.downL at h9 ⊢
      simp only [upd2_take] at h9
      exact h9
    · obtain rfl : k = m := by omega
      have htk : T.D.take k = T.D := List.take_of_length_le (by rw [HM.out]; exact Nat.le_refl _)
      have hA := HA3.out
      rw [htk] at hA
      have HA4 := Lib.hid hA
      clear hA htk hA3 hx3
      go_wp2
      go_ret
      exact ⟨rfl, HA4.out, HX3.out⟩
end Go.Proofs.Ytdjmopipmeonlaa
/- Plans as plain data; distances as a relation with one solution; heights. -/
namespace Go.Proofs.Ytdjmopipmeonlaa
set_option linter.unusedVariables false

/-- A line: its ends, its code, its delay. -/
structure Ln where
  A : Int
  B : Int
  C : Int
  D : Int
  deriving DecidableEq
/-- A plan as plain data. -/
structure Pn where
  P : List (Int × Bool)
  L : List Ln
  rate : Int
  room : Int
  m0 : Int
  m1 : Int
  m2 : Int
  deriving DecidableEq
def Ln.zero : Ln := ⟨0, 0, 0, 0⟩
def pc (P : List (Int × Bool)) (i : Nat) : Int := (P.getD i (0, false)).1
def pt (P : List (Int × Bool)) (i : Nat) : Bool := (P.getD i (0, false)).2
def lnAt (L : List Ln) (i : Nat) : Ln := L.getD i Ln.zero
/-- A line joins two codes. -/
def joins (l : Ln) (a b : Int) : Bool := decide (l.A = a) && decide (l.B = b) || decide (l.A = b) && decide (l.B = a)
theorem joins_comm (l : Ln) (a b : Int) : joins l a b = joins l b a := by unfold joins; exact Bool.or_comm _ _
/-- The number of lines between two codes. -/
def nearN (L : List Ln) (a b : Int) : Nat := L.countP (fun l => joins l a b)
theorem nearN_comm (L : List Ln) (a b : Int) : nearN L a b = nearN L b a := by
  unfold nearN; congr 1; funext l; exact joins_comm l a b
theorem nearN_take (L : List Ln) (a b : Int) (k : Nat) (hk : k < L.length) : nearN (L.take (k + 1)) a b = nearN (L.take k) a b + (if joins (lnAt L k) a b then 1 else 0) := by
  unfold nearN lnAt
  rw [List.take_succ_eq_append_getElem hk, List.countP_append]
  simp [List.getD_eq_getElem?_getD, hk, List.countP_cons]
theorem nearN_le (L : List Ln) (a b : Int) : nearN L a b ≤ L.length := List.countP_le_length
/-- The first place with a code. -/
def fnd (P : List (Int × Bool)) (c : Int) : Option Nat := P.findIdx? (fun x => x.1 == c)
def idxI (P : List (Int × Bool)) (c : Int) : Int := match fnd P c with | some i => i | none => -1
theorem fnd_some {P : List (Int × Bool)} {c : Int} {k : Nat} (hk : k < P.length) (h : pc P k = c) (hb : ∀ j, j < k → pc P j ≠ c) : fnd P c = some k := by
  unfold fnd
  rw [List.findIdx?_eq_some_iff_getElem]
  refine ⟨hk, ?_, fun j hj => ?_⟩
  · simpa [pc, List.getD_eq_getElem?_getD, hk] using h
  · have := hb j hj
    simpa [pc, List.getD_eq_getElem?_getD, show j < P.length by omega] using this
theorem fnd_none {P : List (Int × Bool)} {c : Int} (hb : ∀ j, j < P.length → pc P j ≠ c) : fnd P c = none := by
  unfold fnd
  rw [List.findIdx?_eq_none_iff]
  intro x hx
  obtain ⟨j, hj, rfl⟩ := List.getElem_of_mem hx
  have := hb j hj
  simpa [pc, List.getD_eq_getElem?_getD, hj] using this
theorem fnd_some_iff {P : List (Int × Bool)} {c : Int} {k : Nat} : fnd P c = some k ↔ k < P.length ∧ pc P k = c ∧ ∀ j, j < k → pc P j ≠ c := by
  constructor
  · intro h
    unfold fnd at h
    rw [List.findIdx?_eq_some_iff_getElem] at h
    obtain ⟨hk, h1, h2⟩ := h
    refine ⟨hk, by simpa [pc, List.getD_eq_getElem?_getD, hk] using h1, fun j hj => ?_⟩
    have := h2 j hj
    simpa [pc, List.getD_eq_getElem?_getD, show j < P.length by omega] using this
  · rintro ⟨h1, h2, h3⟩; exact fnd_some h1 h2 h3
/-- Strictly ascending codes. -/
def Asc (P : List (Int × Bool)) : Prop := ∀ i j, i < j → j < P.length → pc P i < pc P j
theorem Asc.fnd {P : List (Int × Bool)} (h : Asc P) {k : Nat} (hk : k < P.length) : fnd P (pc P k) = some k :=
  fnd_some hk rfl fun j hj => by have := h j k hj hk; omega
theorem Asc.inj {P : List (Int × Bool)} (h : Asc P) {i j : Nat} (hi : i < P.length) (hj : j < P.length) (e : pc P i = pc P j) : i = j := by
  rcases Nat.lt_trichotomy i j with h1 | h1 | h1
  · have := h i j h1 hj; omega
  · exact h1
  · have := h j i h1 hi; omega
/-- From place i one may step to place k on a way to code t. -/
def stepB (P : List (Int × Bool)) (L : List Ln) (t : Int) (i k : Nat) : Bool := decide (0 < nearN L (pc P i) (pc P k)) && (pt P k || decide (pc P k = t))
/-- D holds the distances from t; 99: no way. -/
structure Dist (P : List (Int × Bool)) (L : List Ln) (t : Int) (D : Nat → Int) : Prop where
  zero : ∀ i, i < P.length → pc P i = t → D i = 0
  pos : ∀ i, i < P.length → pc P i ≠ t → 0 < D i
  low : ∀ i k, i < P.length → k < P.length → stepB P L t i k = true → D i ≤ D k + 1
  att : ∀ i, i < P.length → D i < 99 → pc P i ≠ t → ∃ k, k < P.length ∧ stepB P L t i k = true ∧ D i = D k + 1
  top : ∀ i, i < P.length → D i ≤ 99
theorem Dist.nonneg {P : List (Int × Bool)} {L : List Ln} {t : Int} {D : Nat → Int} (h : Dist P L t D) {i : Nat} (hi : i < P.length) : 0 ≤ D i := by
  by_cases e : pc P i = t
  · rw [h.zero i hi e]; decide
  · have := h.pos i hi e; omega
/-- What attains lies above whatever is low. -/
theorem Dist.le {P : List (Int × Bool)} {L : List Ln} {t : Int} {D E : Nat → Int} (h : Dist P L t D) (hz : ∀ i, i < P.length → pc P i = t → E i = 0)
    (hl : ∀ i k, i < P.length → k < P.length → stepB P L t i k = true → E i ≤ E k + 1) : ∀ n : Nat, ∀ i, i < P.length → D i = n → n < 99 → E i ≤ n := by
  intro n
  induction n with
  | zero =>
    intro i hi hd _
    by_cases e : pc P i = t
    · rw [hz i hi e]; decide
    · have := h.pos i hi e; omega
  | succ n ih =>
    intro i hi hd hn
    have e : pc P i ≠ t := fun e => by have := h.zero i hi e; omega
    obtain ⟨k, hk, hs, hD⟩ := h.att i hi (by omega) e
    have h1 := ih k hk (by omega) (by omega)
    have h2 := hl i k hi hk hs
    omega
theorem Dist.uniq {P : List (Int × Bool)} {L : List Ln} {t : Int} {D E : Nat → Int} (h : Dist P L t D) (g : Dist P L t E) {i : Nat} (hi : i < P.length) : D i = E i := by
  have h0 := h.nonneg hi
  have g0 := g.nonneg hi
  have h9 := h.top i hi
  have g9 := g.top i hi
  have a1 : D i < 99 → E i ≤ D i := fun hlt => by
    have := h.le g.zero g.low (D i).toNat i hi (by omega) (by omega); omega
  have a2 : E i < 99 → D i ≤ E i := fun hlt => by
    have := g.le h.zero h.low (E i).toNat i hi (by omega) (by omega); omega
  by_cases x : D i < 99 <;> by_cases y : E i < 99
  · have := a1 x; have := a2 y; omega
  · have := a1 x; omega
  · have := a2 y; omega
  · omega
/-- The place with index k has a smaller distance than i, or the same and a lower index. -/
def lowerB (D : Nat → Int) (k i : Nat) : Bool := decide (D k < D i) || decide (D k = D i) && decide (k < i)
/-- The height: how many places lie lower; only for a place with a way. -/
def htN (n : Nat) (D : Nat → Int) (i : Nat) : Nat := (List.range n).countP (fun k => lowerB D k i)
theorem lowerB_trans {D : Nat → Int} {a b c : Nat} (h : lowerB D a b = true) (g : lowerB D b c = true) : lowerB D a c = true := by
  simp only [lowerB, Bool.or_eq_true, Bool.and_eq_true, decide_eq_true_eq] at *; omega
theorem lowerB_irrefl {D : Nat → Int} {a : Nat} : lowerB D a a = false := by simp [lowerB]
theorem lowerB_total {D : Nat → Int} {a b : Nat} (h : a ≠ b) : lowerB D a b = true ∨ lowerB D b a = true := by
  simp only [lowerB, Bool.or_eq_true, Bool.and_eq_true, decide_eq_true_eq]; omega
theorem countP_lt {p q : Nat → Bool} : ∀ {l : List Nat}, (∀ x ∈ l, p x = true → q x = true) → (∃ x ∈ l, q x = true ∧ p x = false) → l.countP p < l.countP q
  | [], _, h => by obtain ⟨x, hx, _⟩ := h; simp at hx
  | y :: l, h, g => by
    have hle : l.countP p ≤ l.countP q := List.countP_mono_left fun x hx => h x (List.mem_cons_of_mem _ hx)
    obtain ⟨x, hx, h1, h2⟩ := g
    rcases List.mem_cons.1 hx with rfl | hx
    · simp only [List.countP_cons, h1, h2, Bool.false_eq_true, if_false, if_true]; omega
    · have := countP_lt (fun x hx => h x (List.mem_cons_of_mem _ hx)) ⟨x, hx, h1, h2⟩
      have hy := h y (List.mem_cons_self)
      simp only [List.countP_cons]
      cases hp : p y
      · simp only [Bool.false_eq_true, if_false]
        split <;> omega
      · simp only [hy hp, if_true]
        omega
theorem htN_lt {n : Nat} {D : Nat → Int} {a b : Nat} (ha : a < n) (h : lowerB D a b = true) : htN n D a < htN n D b := by
  refine countP_lt (fun x _ hx => lowerB_trans hx h) ⟨a, List.mem_range.2 ha, h, lowerB_irrefl⟩
theorem htN_lt_iff {n : Nat} {D : Nat → Int} {a b : Nat} (ha : a < n) (hb : b < n) : htN n D a < htN n D b ↔ lowerB D a b = true := by
  constructor
  · intro h
    by_cases e : a = b
    · subst e; omega
    · rcases lowerB_total (D := D) e with h1 | h1
      · exact h1
      · have := htN_lt hb h1; omega
  · exact htN_lt ha
theorem htN_le {n : Nat} {D : Nat → Int} {i : Nat} : htN n D i ≤ n := by
  have := List.countP_le_length (p := fun k => lowerB D k i) (l := List.range n); simpa [htN] using this
theorem htN_lt_n {n : Nat} {D : Nat → Int} {i : Nat} (hi : i < n) : htN n D i < n := by
  have : (List.range n).countP (fun k => lowerB D k i) < (List.range n).countP (fun _ => true) := countP_lt (fun _ _ _ => rfl) ⟨i, List.mem_range.2 hi, rfl, lowerB_irrefl⟩
  simpa [htN] using this
theorem htN_succ (n : Nat) (D : Nat → Int) (i : Nat) : htN (n + 1) D i = htN n D i + (if lowerB D n i then 1 else 0) := by
  simp [htN, List.range_succ, List.countP_append, List.countP_cons]
end Go.Proofs.Ytdjmopipmeonlaa
