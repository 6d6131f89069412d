/- Joined: TfNt TfTell. -/
import Derived.Test.YtdjmopipmeonlaaPlMath
import Derived.Test.YtdjmopipmeonlaaAggApp
import Derived.StillTailTactics
import Derived.Deep.Cut
/- Slices of notes: what they hold, how they grow. -/
namespace Go.Proofs.Ytdjmopipmeonlaa
set_option linter.unusedVariables false
open Go.RowKit Go.Maps

def encN (x : Int × Int × Int) : List Value := [.int .u16 x.1, .int .u16 x.2.1, .int .u8 x.2.2]
def cellsN (X : List (Int × Int × Int)) : List Value := X.flatMap encN
theorem cellsN_length (X : List (Int × Int × Int)) : (cellsN X).length = X.length * 3 := by
  induction X with
  | nil => rfl
  | cons x X ih => simp only [cellsN, List.flatMap_cons, List.length_append, encN, List.length_cons, List.length_nil] at *; omega
theorem cellsN_append (X Y : List (Int × Int × Int)) : cellsN (X ++ Y) = cellsN X ++ cellsN Y := by simp [cellsN]
theorem cellsN_one (X : List (Int × Int × Int)) : ∀ u ∈ cellsN X, u.oneCell' = true := by
  intro u hu
  simp only [cellsN, List.mem_flatMap, encN, List.mem_cons, List.not_mem_nil, or_false] at hu
  obtain ⟨l, _, rfl | rfl | rfl⟩ := hu <;> rfl
theorem cellsN_getD (X : List (Int × Int × Int)) (R : List Value) {i : Nat} (hi : i < X.length) : (cellsN X ++ R).getD (i * 3) undef = .int .u16 (X.getD i (0, 0, 0)).1 ∧ (cellsN X ++ R).getD (i * 3 + 1) undef = .int .u16 (X.getD i (0, 0, 0)).2.1 ∧ (cellsN X ++ R).getD (i * 3 + 2) undef = .int .u8 (X.getD i (0, 0, 0)).2.2 := by
  induction X generalizing i with
  | nil => cases hi
  | cons x X ih =>
    cases i with
    | zero => simp [cellsN, encN]
    | succ i =>
      have h := ih (i := i) (by simpa using hi)
      have e : cellsN (x :: X) ++ R = .int .u16 x.1 :: .int .u16 x.2.1 :: .int .u8 x.2.2 :: (cellsN X ++ R) := rfl
      rw [e, show (i + 1) * 3 = i * 3 + 1 + 1 + 1 by omega]
      simp only [List.getD_cons_succ]
      exact h
/-- A slice value reads in w as the notes X, in a block of a call's own. -/
structure NRow (w : World) (a : Option Addr) (n c : Nat) (X : List (Int × Int × Int)) : Prop where
  len : X.length = n
  le : n ≤ c
  max : c ≤ maxLen
  cells : n = 0 ∨ ∃ g R, a = some ⟨g, 0, none⟩ ∧ Own w g 54 (cellsN X ++ R)
  isNil : a = none → c = 0
theorem NRow.nil (w : World) : NRow w none 0 0 [] := ⟨rfl, Nat.le_refl _, Nat.zero_le _, .inl rfl, fun _ => rfl⟩
theorem NRow.exc {S : Nat → Prop} {w w' : World} {a : Option Addr} {n c : Nat} {X : List (Int × Int × Int)} (h : NRow w a n c X) (hx : Exc S w w') (hn : ∀ x, a = some x → ¬ S x.block) : NRow w' a n c X := by
  refine ⟨h.len, h.le, h.max, ?_, h.isNil⟩
  rcases h.cells with h0 | ⟨g, R, ha, ho⟩
  · exact .inl h0
  · refine .inr ⟨g, R, ha, ?_⟩
    unfold Own
    rw [hx.block _ ho.lt (hn _ ha)]
    exact ho
theorem NRow.later {w w' : World} {a : Option Addr} {n c : Nat} {X : List (Int × Int × Int)} (h : NRow w a n c X) (hb : Below w.heap.size w w') : NRow w' a n c X := h.exc (S := fun _ => False) (Exc.of_below hb) (fun _ _ h => h)
theorem NRow.at {w : World} {a : Option Addr} {n c : Nat} {X : List (Int × Int × Int)} (h : NRow w a n c X) (h0 : 0 < n) : ∃ g, a = some ⟨g, 0, none⟩ ∧ g < w.heap.size ∧ ∀ i, i < n → w.cell? ⟨g, i * 3, none⟩ = some (.int .u16 (X.getD i (0, 0, 0)).1) ∧ w.cell? ⟨g, i * 3 + 1, none⟩ = some (.int .u16 (X.getD i (0, 0, 0)).2.1) ∧ w.cell? ⟨g, i * 3 + 2, none⟩ = some (.int .u8 (X.getD i (0, 0, 0)).2.2) := by
  obtain ⟨g, R, ha, ho⟩ := h.cells.resolve_left (by omega)
  refine ⟨g, ha, ho.lt, fun i hi => ?_⟩
  have hl := h.len
  have hi2 : i < X.length := by omega
  obtain ⟨e1, e2, e3⟩ := cellsN_getD X R hi2
  have hlen : (cellsN X ++ R).length = X.length * 3 + R.length := by rw [List.length_append, cellsN_length]
  rw [ho.cell _ (by omega), ho.cell _ (by omega), ho.cell _ (by omega), e1, e2, e3]
  exact ⟨rfl, rfl, rfl⟩
theorem nrow_of {w : World} {B n : Nat} {v : Value} {X : List (Int × Int × Int)} (h : w.ownsRow B 54 3 v n (cellsN X)) (hX : X.length = n) : ∃ a c, v = .slice a n c ∧ NRow w a n c X ∧ ∀ z, a = some z → B ≤ z.block := by
  rcases h.2 with ⟨rfl, h0⟩ | ⟨g, cap, cur, rfl, hb, hg, hle, hc, hs, ht⟩
  · subst h0
    exact ⟨none, 0, rfl, ⟨hX, Nat.le_refl _, Nat.zero_le _, .inl rfl, fun _ => rfl⟩, fun _ h => by cases h⟩
  · refine ⟨_, cap, rfl, ⟨hX, hle, hc, .inr ⟨g, cur.toList.drop (n * 3), rfl, ?_⟩, by simp⟩, fun z hz => by cases hz; exact hb⟩
    unfold Own
    rw [hg, ← ht, List.take_append_drop]
theorem infoN : (Try.prog.info? 54).map (fun i => (i.zero, i.size, i.bytes)) = some (some (.agg #[.int .u16 0, .int .u16 0, .int .u8 0]), 3, 6) := by kernel_rfl
theorem nrow_cells {w : World} {a : Option Addr} {n c : Nat} {X : List (Int × Int × Int)} (h : NRow w a n c X) : ∀ ad, a = some ad → ∀ j u, (cellsN X)[j]? = some u → w.cell? (ad.add j) = some u := by
  intro ad ha j u hj
  have hlt := (List.getElem?_eq_some_iff.1 hj).1
  rw [cellsN_length, h.len] at hlt
  obtain ⟨g, R, hb, ho⟩ := h.cells.resolve_left (by omega)
  rw [hb] at ha
  cases ha
  have hadd : (⟨g, 0, none⟩ : Addr).add j = ⟨g, j, none⟩ := by unfold Addr.add; split <;> simp_all
  have hl := h.len
  rw [hadd, ho.cell j (by rw [List.length_append, cellsN_length]; omega), List.getD_eq_getElem?_getD, List.getElem?_append_left (by rw [cellsN_length]; omega), hj]
  rfl
/-- append(v, notes...). -/
theorem wpList_append_nts {w : World} {ops : Array Oper} {rest : List Oper} {o : Oper} {a : Act} {Q : Exit → Act → World → Prop} (hgd : o.guard = none) (s x : Operand)
    (ho : o.op = .call { callee := .builtin .append, args := #[s, x], argTypes := #[45, 45] })
    (B : Nat) (v : Value) (n : Nat) (X : List (Int × Int × Int)) (hs : a.eval s = v) (hown : w.ownsRow B 54 3 v n (cellsN X))
    (sa : Option Addr) (m c : Nat) (Y : List (Int × Int × Int)) (hx : a.eval x = .slice sa m c) (hrow : NRow w sa m c Y) (hnm : n + m ≤ 1000000) (hB : B ≤ w.heap.size)
    (h : ∀ v' w', w'.ownsRow B 54 3 v' (n + m) (cellsN (X ++ Y)) → w.grownBy w' v.ownBlock → wpList Try.prog ops Q rest (a.put o.dst v') w') : wpList Try.prog ops Q (o :: rest) a w :=
  wpList_plain hgd fun _ hK => by
    obtain ⟨i0, hi, hz0, hz1, hz2⟩ := info_parts infoN
    refine wp_append_rows s x _ ho B _ i0 _ 3 6 Try.underlying45 hi hz0 hz1 hz2 rfl (by decide) v n (cellsN X) hs hown sa m c (cellsN Y) hx (by rw [cellsN_length, hrow.len]) (nrow_cells hrow) (cellsN_one Y) (fun e => ⟨by have := hrow.isNil e; have := hrow.le; omega, hrow.isNil e⟩) (by unfold maxLen; omega) (by omega) hB ?_
    intro v' w' h2 h3
    exact hK _ _ (h v' w' (by rw [cellsN_append]; exact h2) h3)
end Go.Proofs.Ytdjmopipmeonlaa
/- A table's tellOne. -/
namespace Go.Proofs.Ytdjmopipmeonlaa
set_option linter.unusedVariables false
open Go.RowKit Go.Maps

/-- What is told, and the table behind it. -/
def NewsOut (y : Tl) (T : Tb) (X : List (Int × Int × Int)) (w : World) (e : Ending) (w' : World) : Prop :=
  ∃ a c, e = .returned (.slice a X.length c) ∧ NRow w' a X.length c X ∧ TbAt w' y T ∧ Exc (Mut y) w w' ∧ ∀ z, a = some z → w.heap.size ≤ z.block
theorem Tb.saidWith (T : Tb) : ({ T with said := T.said } : Tb) = T := rfl
theorem below_size {w w' : World} (h : Below w.heap.size w w') : w.heap.size ≤ w'.heap.size := h.size
set_option maxRecDepth 100000 in
theorem tellOne_no {y : Tl} {T : Tb} (n : Int) (w : World) (h : TbAt w y T) (ht : T.tr = false) : Calls Try.prog 45 #[.pointer (some ⟨y.tb, 0, none⟩), .int .u16 n] w (NewsOut y (T.told1 n) (T.news n) w) := by
  obtain ⟨g0, g1, g2, g3, g4, g5, g6, g7⟩ := h.cells
  have e1 : T.told1 n = T := by unfold Tb.told1; rw [if_neg (by simp [ht])]
  have e2 : T.news n = [] := by unfold Tb.news; simp [ht]
  rw [e1, e2]
  rw [ht] at g1
  have H := Lib.hid h
  clear h e1 e2 ht
  go_enter Try.func45, Try.ntmps45
  go_wp2
  go_ret
  exact ⟨none, 0, rfl, NRow.nil _, H.out, Exc.refl _ _, fun _ h => by cases h⟩
set_option maxRecDepth 100000 in
set_option maxHeartbeats 4000000 in
theorem tellOne_ok {y : Tl} {T : Tb} (n : Int) (w : World) (h : TbAt w y T) (ht : T.tr = true) (hn : (Lit.int .u16 n).wf = true) : Calls Try.prog 45 #[.pointer (some ⟨y.tb, 0, none⟩), .int .u16 n] w (NewsOut y (T.told1 n) (T.news n) w) := by
  obtain ⟨g0, g1, g2, g3, g4, g5, g6, g7⟩ := h.cells
  have e1 : T.told1 n = { T with said := T.saidL n T.D } := by unfold Tb.told1; simp [ht]
  have e2 : T.news n = T.newsL n T.D := by unfold Tb.news; simp [ht]
  rw [e1, e2]
  rw [ht] at g1
  have H := Lib.hid h
  have HN := Lib.hid hn
  have HWD := Lib.hid h.fix.drow.wf
  have HNod := Lib.hid h.wf.nodD
  obtain ⟨m, hm⟩ : ∃ m, m = T.D.length := ⟨_, rfl⟩
  have hmb : m ≤ 64 := by rw [hm]; exact h.wf.lenD
  have HM := Lib.hid hm
  have hhi := h.fix.hi
  rw [← hm] at g3
  clear h e1 e2 ht hn hm
  go_enter Try.func45, Try.ntmps45
  go_wp2_with fail
  clear g0 g1 g2 g3 g4 g5 g6 g7
  go_loopw [5, 19] (fun v kv wr => ∃ k : Nat, k ≤ m ∧ kv = .int .i64 k ∧ TbAt wr y { T with said := T.saidL n (T.D.take k) } ∧ Exc (Mut y) w wr ∧ wr.ownsRow w.heap.size 54 3 v (T.newsL n (T.D.take k)).length (cellsN (T.newsL n (T.D.take k)))) (fun _ kv _ => m - (intOf kv).toNat)
  case atStart => exact ⟨0, Nat.zero_le _, rfl, by rw [List.take_zero, Tb.saidL_nil]; exact H.out, Exc.refl _ _, by simpa [Tb.newsL, cellsN] using World.ownsRow_nil w w.heap.size 54 3⟩
  case round =>
    obtain ⟨k, hk, rfl, hA, hx, hown⟩ := hrel
    have HA := Lib.hid hA
    have HX := Lib.hid hx
    have hle := T.newsL_le n (T.D.take k)
    rw [List.length_take] at hle
    obtain ⟨N, hN⟩ : ∃ N, N = (T.newsL n (T.D.take k)).length := ⟨_, rfl⟩
    rw [← hN] at hown hle
    have hN64 : N ≤ 64 := by omega
    have HNl := Lib.hid hN
    have HW := Lib.hid hown
    have hsz := hx.size
    clear hown hx hN hle
    by_cases hkm : k < m
    · have hkl : k < T.D.length := by rw [← HM.out]; exact hkm
      obtain ⟨b, off, had, hc⟩ := hA.fix.drow.cells.resolve_left (by show ¬ T.D.length = 0; omega)
      have c0 : wr.cell? ⟨b, off + k, none⟩ = some (.int .u16 (T.D.getD k 0)) := hc k hkl
      have hmem := mem_getD (d := 0) hkl
      have hwd := HWD.out _ hmem
      have hnew : T.D.getD k 0 ∉ T.D.take k := fun hm => by
        obtain ⟨i, hi, e⟩ := List.getElem_of_mem hm
        rw [List.length_take] at hi
        rw [List.getElem_take, List.getD_eq_getElem?_getD, List.getElem?_eq_getElem hkl] at e
        have := (List.getElem_inj HNod.out).1 e
        omega
      have HT := Lib.hid (take_one hkl)
      obtain ⟨d, hd⟩ : ∃ d, d = T.D.getD k 0 := ⟨_, rfl⟩
      rw [← hd] at c0 hwd HT hnew hmem
      have HWd := Lib.hid hwd
      have HNew := Lib.hid hnew
      have hso := statusOf_any d wr hA hmem
      have hst9 : ({ T with said := T.saidL n (T.D.take k) } : Tb).st d = T.st d := rfl
      rw [hst9] at hso
      have hsr := T.st_range d
      obtain ⟨s, hs⟩ : ∃ s, s = T.st d := ⟨_, rfl⟩
      rw [← hs] at hso hsr
      have HSo := Lib.hid hso
      have HS := Lib.hid hs
      obtain ⟨g0, g1, g2, g3, g4, g5, g6, g7⟩ := hA.cells
      have k1 : (k : Int) < (m : Int) := by omega
      have k2 : (0 : Int) ≤ (k : Int) := by omega
      have HAd := Lib.hid had
      rw [had]
      clear hd hc hwd hA had hnew hmem hso hst9 hs
      go_wp2_with fail
      with_reducible refine HSo.out.mono ?_
      rintro e w1 ⟨rfl, hb⟩
      have HA1 := Lib.hid (HA.out.below hb)
      have HX1 := Lib.hid (excMut_below HX.out hb)
      have HW1 := Lib.hid (ownsK_below HW.out hb)
      obtain ⟨W, hW⟩ : ∃ W, W = w1.alloc (.cells #[.int .u16 n, .int .u16 d, .int .u8 s] 54) := ⟨_, rfl⟩
      obtain ⟨nb, hnb⟩ : ∃ nb, nb = w1.heap.size := ⟨_, rfl⟩
      have hbW : Below w1.heap.size w1 W := by rw [hW]; exact below_alloc _ _
      have hA2 := HA1.out.below hbW
      have ho2 : Own W nb 54 [.int .u16 n, .int .u16 d, .int .u8 s] := by rw [hW, hnb]; exact heap_alloc_new w1 _
      have HX2 := Lib.hid (excMut_below HX1.out hbW)
      have HW2 := Lib.hid (ownsK_below HW1.out hbW)
      have HA2 := Lib.hid hA2
      clear hb g0 g1 g2 g3 g4 g5 g6 g7 c0 HSo
      go_upto_region 8 with (fail)
      show Code.wp _ _ _ _ (w1.alloc (.cells #[.int .u16 n, .int .u16 d, .int .u8 s] 54))
      rw [← hW, ← hnb]
      obtain ⟨g0, g1, g2, g3, g4, g5, g6, g7⟩ := hA2.cells
      have n0 := ho2.cell 0 (by simp)
      have n1 := ho2.cell 1 (by simp)
      have n2 := ho2.cell 2 (by simp)
      simp only [List.getD_cons_zero, List.getD_cons_succ] at n0 n1 n2
      have HO2 := Lib.hid ho2
      have hlk := fun q => (hA2.below (below_draw W q)).sai.run HN.out HWd.out
      obtain ⟨v9, hv9⟩ : ∃ v9, v9 = T.saidL n (T.D.take k) n d := ⟨_, rfl⟩
      have hlk2 : ∀ q, (Instr.lookup 84 (.map (some y.bs)) (.agg #[.int .u16 n, .int .u16 d]) false).run Try.prog (W.drewN q) = .ok (.int .u8 v9) (W.drewN q) := by rw [hv9]; exact hlk
      have HV := Lib.hid (show v9 = T.said n d by rw [hv9]; exact T.saidL_new HNew.out)
      clear hlk hv9 hA2 ho2 hW hnb hbW
      by_cases hdn : d = n
      · have e1 : (d != n) = false := by simpa using hdn
        have HEnd : Hid (¬ (d ≠ n ∧ T.st d ≠ T.said n d)) := Lib.hid (fun h => h.1 hdn)
        clear hdn
        go_quiet (fail)
        go_wp2
        refine ⟨⟨k + 1, by omega, by go_num, ?_, HX2.out.drawN _, ?_⟩, by simp [intOf]; omega⟩
        · rw [HT.out, T.saidL_snoc_same HEnd.out]; exact HA2.out.below (below_draw _ _)
        · rw [HT.out, T.newsL_snoc, if_neg HEnd.out, List.append_nil, ← HNl.out]; exact ownsK_below HW2.out (below_draw _ _)
      · have e1 : (d != n) = true := by simpa using hdn
        by_cases hsv : s = v9
        · have e2 : (s != v9) = false := by simpa using hsv
          have HEnd : Hid (¬ (d ≠ n ∧ T.st d ≠ T.said n d)) := Lib.hid (fun h => h.2 (by rw [← HS.out, ← HV.out]; exact hsv))
          clear hdn hsv
          go_quiet (fail)
          go_wp2
          refine ⟨⟨k + 1, by omega, by go_num, ?_, HX2.out.drawN _, ?_⟩, by simp [intOf]; omega⟩
          · rw [HT.out, T.saidL_snoc_same HEnd.out]; exact HA2.out.below (below_draw _ _)
          · rw [HT.out, T.newsL_snoc, if_neg HEnd.out, List.append_nil, ← HNl.out]; exact ownsK_below HW2.out (below_draw _ _)
        · have e2 : (s != v9) = true := by simpa using hsv
          have HEnd : Hid (d ≠ n ∧ T.st d ≠ T.said n d) := Lib.hid ⟨hdn, by rw [← HS.out, ← HV.out]; exact hsv⟩
          clear hdn hsv
          go_quiet (fail)
          obtain ⟨W3, hW3⟩ : ∃ W3, W3 = W.drewN nq := ⟨_, rfl⟩
          rw [← hW3]
          have hbd : Below W.heap.size W W3 := by rw [hW3]; exact below_draw _ _
          have hA3 := HA2.out.below hbd
          have ho3 := HO2.out.below hbd HO2.out.lt
          have HX3 := Lib.hid (excMut_below HX2.out hbd)
          have HW3 := Lib.hid (ownsK_below HW2.out hbd)
          have HA3 := Lib.hid hA3
          have HO3 := Lib.hid ho3
          clear g0 g1 g2 g3 g4 g5 g6 g7 n0 n1 n2 hlk2 hbd hW3
          obtain ⟨g0, g1, g2, g3, g4, g5, g6, g7⟩ := hA3.cells
          have n0 := ho3.cell 0 (by simp)
          have n1 := ho3.cell 1 (by simp)
          have n2 := ho3.cell 2 (by simp)
          simp only [List.getD_cons_zero, List.getD_cons_succ] at n0 n1 n2
          have hset := set_any y.bs _ n d s W3.drew hA3.drew.sai HN.out HWd.out
          have HSet := Lib.hid hset
          clear hA3 ho3 hset
          go_wp2_with fail
          go_still_tail 5, (by kernel_rfl)
          repeat still_step
          change wpList _ _ _ _ _ W3.drew
          go_wp2_with fail
          with_reducible refine HSet.out.mono ?_
          rintro e w5 ⟨rfl, hR, hx5⟩
          have hA5 := (HA3.out.drew).newSai hx5 hR
          have HX5 := Lib.hid ((HX3.out.drawN 1).trans (excMut hx5 (.inr (.inr rfl))) (fun _ _ h => h))
          have hsz5 := HX5.out.size
          have hhi9 := HA.out.fix.hb.2.2.2.2
          have HW5 := Lib.hid (ownsK_exc (ownsK_below HW3.out (below_draw W3 1)) hx5 (fun j hj => by have := (ownsK_lt HW3.out hj).1; omega))
          have ho5 : Own w5 nb 54 [.int .u16 n, .int .u16 d, .int .u8 s] := by
            unfold Own
            rw [hx5.block nb (HO3.out.lt) (fun hh => by subst hh; exact own_map HO3.out HA3.out.sai.map.choose_spec.choose_spec)]
            exact HO3.out
          have HA5 := Lib.hid hA5
          have HO5 := Lib.hid ho5
          clear g0 g1 g2 g3 g4 g5 g6 g7 n0 n1 n2 hA5 hR hx5 HSet
          have n0 := ho5.cell 0 (by simp)
          have n1 := ho5.cell 1 (by simp)
          have n2 := ho5.cell 2 (by simp)
          simp only [List.getD_cons_zero, List.getD_cons_succ] at n0 n1 n2
          have hnlt := ho5.lt
          clear ho5 hhi9
          go_wp2_with (at_builtin; refine wpList_append_agg Try.underlying45 infoN rfl (by decide) (by decide) rfl _ _ rfl w.heap.size _ _ _ [.int .u16 n, .int .u16 d, .int .u8 s] rfl (fun u hu => by simp at hu; rcases hu with rfl | rfl | rfl <;> rfl) rfl (by exact HW5.out) rfl (by omega) hsz5 ?_; intro v1 w6 h1 h2 h3; have HW6 := Lib.hid h1; have HG6 := Lib.hid h2; clear h1 h2 h3 n0 n1 n2)
          go_wp2
          have hb6 : Exc (fun j => w.heap.size ≤ j) w5 w6 := HG6.out.exc.weak fun i _ hi => (ownsK_lt HW5.out hi).1
          refine ⟨⟨k + 1, by omega, by go_num, ?_, HX5.out.trans hb6 (fun i hi hh => by omega), ?_⟩, by simp [intOf]; omega⟩
          · rw [HT.out, T.saidL_snoc HEnd.out.1]
            have h9 := HA5.out.exc hb6 (fun i hi _ => .inl (Nat.le_trans hhi hi))
            rw [HS.out] at h9
            exact h9
          · rw [HT.out, T.newsL_snoc, if_pos HEnd.out, cellsN_append, List.length_append, ← HNl.out, ← HS.out]
            exact HW6.out
    · obtain rfl : k = m := by omega
      have htk : T.D.take k = T.D := List.take_of_length_le (by rw [HM.out]; exact Nat.le_refl _)
      have hown := HW.out
      have hAe := HA.out
      have hNe := HNl.out
      rw [htk] at hown hAe hNe
      obtain ⟨a2, c2, rfl, hr2, hfr⟩ := nrow_of hown hNe.symm
      have HR := Lib.hid hr2
      have HAe := Lib.hid hAe
      have HFr := Lib.hid hfr
      have HNe := Lib.hid hNe
      clear hown hAe hr2 hfr htk hNe hA
      go_wp2
      go_ret
      exact ⟨a2, c2, by rw [← HNe.out]; rfl, by rw [← HNe.out]; exact HR.out, HAe.out, HX.out, HFr.out⟩
end Go.Proofs.Ytdjmopipmeonlaa
