import Derived.Test.YtdjmopipmeonlaaTfTell
/- A table's Tell, Greet and Ask. -/
namespace Go.Proofs.Ytdjmopipmeonlaa
set_option linter.unusedVariables false
open Go.RowKit Go.Maps

theorem tellOne_any {y : Tl} {T : Tb} (n : Int) (w : World) (h : TbAt w y T) (hn : (Lit.int .u16 n).wf = true) : Calls Try.prog 45 #[.pointer (some ⟨y.tb, 0, none⟩), .int .u16 n] w (NewsOut y (T.told1 n) (T.news n) w) := by
  cases ht : T.tr
  · exact tellOne_no n w h ht
  · exact tellOne_ok n w h ht hn
/-- Notes without spare capacity, in memory of the call's own, and the table behind them. -/
def NotesOut (y : Tl) (T : Tb) (X : List (Int × Int × Int)) (w : World) (e : Ending) (w' : World) : Prop :=
  ∃ a, e = .returned (.slice a X.length X.length) ∧ NRow w' a X.length X.length X ∧ TbAt w' y T ∧ Exc (Mut y) w w' ∧ ∀ z, a = some z → w.heap.size ≤ z.block
/-- .. with an error that is none. -/
def NotesOut2 (y : Tl) (T : Tb) (X : List (Int × Int × Int)) (w : World) (e : Ending) (w' : World) : Prop :=
  ∃ a, e = .returned (.tuple #[.slice a X.length X.length, .int .i64 0]) ∧ NRow w' a X.length X.length X ∧ TbAt w' y T ∧ Exc (Mut y) w w' ∧ ∀ z, a = some z → w.heap.size ≤ z.block
theorem NRow.clip {w : World} {a : Option Addr} {n c : Nat} {X : List (Int × Int × Int)} (h : NRow w a n c X) : NRow w a n n X := ⟨h.len, Nat.le_refl _, Nat.le_trans h.le h.max, h.cells, fun e => by have := h.isNil e; have := h.le; omega⟩
set_option maxRecDepth 100000 in
theorem tell_nul (a : Option Addr) (w : World) (h : Nul w a) : Calls Try.prog 27 #[.pointer a] w fun e w' => e = .returned (.slice none 0 0) ∧ w = w' := by
  have HE := Lib.hid (isEmpty_nul a w h)
  clear h
  go_enter Try.func27, Try.ntmps27
  go_wp2_with fail
  with_reducible refine HE.out.mono ?_
  rintro e w' ⟨rfl, rfl⟩
  go_wp2
  go_ret
  exact ⟨rfl, rfl⟩
set_option maxRecDepth 100000 in
theorem ask_nul (a : Option Addr) (w : World) (h : Nul w a) : Calls Try.prog 28 #[.pointer a] w fun e w' => e = .returned (.slice none 0 0) ∧ w = w' := by
  have HE := Lib.hid (isEmpty_nul a w h)
  clear h
  go_enter Try.func28, Try.ntmps28
  go_wp2_with fail
  with_reducible refine HE.out.mono ?_
  rintro e w' ⟨rfl, rfl⟩
  go_wp2
  go_ret
  exact ⟨rfl, rfl⟩
set_option maxRecDepth 100000 in
theorem greet_nul (a : Option Addr) (n : Int) (w : World) (h : Nul w a) : Calls Try.prog 22 #[.pointer a, .int .u16 n] w fun e w' => e = .returned (.tuple #[.slice none 0 0, .int .i64 2]) ∧ w = w' := by
  have HE := Lib.hid (check_nul a n w h)
  clear h
  go_enter Try.func22, Try.ntmps22
  go_wp2_with fail
  with_reducible refine HE.out.mono ?_
  rintro e w' ⟨rfl, rfl⟩
  go_wp2
  go_ret2
  exact ⟨rfl, rfl⟩
set_option maxRecDepth 100000 in
theorem greet_no {y : Tl} {T : Tb} (n : Int) (w : World) (h : TbAt w y T) (hn : (Lit.int .u16 n).wf = true) (hN : n ∉ T.N) : Calls Try.prog 22 #[.pointer (some ⟨y.tb, 0, none⟩), .int .u16 n] w fun e w' => e = .returned (.tuple #[.slice none 0 0, .int .i64 7]) ∧ Below w.heap.size w w' := by
  have hE := check_any n w h hn
  rw [if_neg hN] at hE
  have HE := Lib.hid hE
  clear h hn hN hE
  go_enter Try.func22, Try.ntmps22
  go_wp2_with fail
  with_reducible refine HE.out.mono ?_
  rintro e w' ⟨rfl, hb⟩
  have HB := Lib.hid hb
  clear hb
  go_wp2
  go_ret2
  exact ⟨rfl, HB.out⟩
set_option maxRecDepth 100000 in
theorem greet_ok {y : Tl} {T : Tb} (n : Int) (w : World) (h : TbAt w y T) (hN : n ∈ T.N) : Calls Try.prog 22 #[.pointer (some ⟨y.tb, 0, none⟩), .int .u16 n] w (NotesOut2 y (T.told1 n) (T.news n) w) := by
  have hn := h.fix.nrow.wf n hN
  have hE := check_any n w h hn
  rw [if_pos hN] at hE
  have HE := Lib.hid hE
  have HT := Lib.hid (fun (W : World) (hb : Below w.heap.size w W) => tellOne_any n W (h.below hb) hn)
  clear h hn hN hE
  go_enter Try.func22, Try.ntmps22
  go_wp2_with fail
  with_reducible refine HE.out.mono ?_
  rintro e w1 ⟨rfl, hb⟩
  have HB := Lib.hid hb
  clear hb
  go_wp2_with fail
  with_reducible refine (HT.out w1 HB.out).mono ?_
  rintro e w2 ⟨a, c, rfl, hr, hA, hx, hf⟩
  have HCl := Lib.hid (clipN_any a (T.news n).length c w2 hr.le hr.max)
  have HR := Lib.hid hr
  have HA := Lib.hid hA
  have HX := Lib.hid ((Exc.of_below (S := Mut y) HB.out).trans hx (fun _ _ h => h))
  have HF := Lib.hid (fun z hz => Nat.le_trans HB.out.size (hf z hz))
  clear hr hA hx hf
  go_wp2_with fail
  with_reducible refine HCl.out.mono ?_
  rintro e w' ⟨rfl, rfl⟩
  go_wp2
  go_ret2
  exact ⟨a, rfl, HR.out.clip, HA.out, HX.out, HF.out⟩
theorem notin_take {L : List Int} (h : L.Nodup) {k : Nat} (hk : k < L.length) : L.getD k 0 ∉ L.take k := fun hm => by
  obtain ⟨i, hi, e⟩ := List.getElem_of_mem hm
  rw [List.length_take] at hi
  rw [List.getElem_take, List.getD_eq_getElem?_getD, List.getElem?_eq_getElem hk] at e
  have := (List.getElem_inj h).1 e
  omega
set_option maxRecDepth 100000 in
set_option maxHeartbeats 4000000 in
theorem tell_any {y : Tl} {T : Tb} (w : World) (h : TbAt w y T) : Calls Try.prog 27 #[.pointer (some ⟨y.tb, 0, none⟩)] w (NotesOut y (T.toldL T.N) (T.tellL T.N) w) := by
  have HE := Lib.hid (isEmpty_any w h)
  obtain ⟨g0, g1, g2, g3, g4, g5, g6, g7⟩ := h.cells
  have H := Lib.hid h
  have HWN := Lib.hid h.fix.nrow.wf
  have HNod := Lib.hid h.wf.nodN
  have hhi := h.fix.hi
  have hlD := h.wf.lenD
  obtain ⟨m, hm⟩ : ∃ m, m = T.N.length := ⟨_, rfl⟩
  have hmb : m ≤ 1024 := by rw [hm]; exact h.wf.lenN
  have HM := Lib.hid hm
  rw [← hm] at g2
  clear h hm
  go_enter Try.func27, Try.ntmps27
  go_wp2_with fail
  with_reducible refine HE.out.mono ?_
  rintro e w' ⟨rfl, rfl⟩
  go_wp2_with fail
  clear g0 g1 g2 g3 g4 g5 g6 g7
  go_loopw [3, 13] (fun v kv wr => ∃ k : Nat, k ≤ m ∧ kv = .int .i64 k ∧ TbAt wr y (T.toldL (T.N.take k)) ∧ Exc (Mut y) w wr ∧ wr.ownsRow w.heap.size 54 3 v (T.tellL (T.N.take k)).length (cellsN (T.tellL (T.N.take k)))) (fun _ kv _ => m - (intOf kv).toNat)
  case atStart => exact ⟨0, Nat.zero_le _, rfl, by rw [List.take_zero, Tb.toldL_nil]; exact H.out, Exc.refl _ _, by simpa [Tb.tellL, cellsN] using World.ownsRow_nil w w.heap.size 54 3⟩
  case round =>
    obtain ⟨k, hk, rfl, hA, hx, hown⟩ := hrel
    have HA := Lib.hid hA
    have HX := Lib.hid hx
    have hle := T.tellL_le (T.N.take k)
    rw [List.length_take] at hle
    have hle2 : (T.tellL (T.N.take k)).length ≤ 1024 * 64 := Nat.le_trans hle (Nat.mul_le_mul (by omega) hlD)
    obtain ⟨N, hN⟩ : ∃ N, N = (T.tellL (T.N.take k)).length := ⟨_, rfl⟩
    rw [← hN] at hown hle2
    have HNl := Lib.hid hN
    have HW := Lib.hid hown
    have hsz := hx.size
    clear hown hx hN hle
    by_cases hkm : k < m
    · have hkl : k < T.N.length := by rw [← HM.out]; exact hkm
      obtain ⟨b, off, had, hc⟩ := hA.fix.nrow.cells.resolve_left (by show ¬ T.N.length = 0; omega)
      have c0 : wr.cell? ⟨b, off + k, none⟩ = some (.int .u16 (T.N.getD k 0)) := hc k hkl
      have hmem := mem_getD (d := 0) hkl
      have hwn := HWN.out _ hmem
      have hnew := notin_take HNod.out hkl
      have HT := Lib.hid (take_one hkl)
      obtain ⟨n, hn⟩ : ∃ n, n = T.N.getD k 0 := ⟨_, rfl⟩
      rw [← hn] at c0 hwn HT hnew hmem
      have HWn := Lib.hid hwn
      have HNew := Lib.hid hnew
      have hrun := hA.ups.run hwn
      have hmm : decide (n ∈ (T.toldL (T.N.take k)).N) = true := decide_eq_true hmem
      rw [hmm, Bool.true_and] at hrun
      have hup : (T.toldL (T.N.take k)).up n = T.up n := rfl
      rw [hup] at hrun
      obtain ⟨g0, g1, g2, g3, g4, g5, g6, g7⟩ := hA.cells
      have k1 : (k : Int) < (m : Int) := by omega
      have k2 : (0 : Int) ≤ (k : Int) := by omega
      rw [had]
      have HAd := Lib.hid had
      clear hn hc hwn hA had hnew hmem hmm hup
      cases hu : T.up n
      · rw [hu] at hrun
        have HU := Lib.hid hu
        clear hu
        go_wp2
        refine ⟨⟨k + 1, by omega, by go_num, ?_, HX.out, ?_⟩, by simp [intOf]; omega⟩
        · rw [HT.out, T.toldL_snoc_no HU.out]; exact HA.out
        · rw [HT.out, T.tellL_snoc, if_neg (by rw [HU.out]; decide), List.append_nil, ← HNl.out]; exact HW.out
      · rw [hu] at hrun
        have HU := Lib.hid hu
        have hcon := tellOne_any n wr HA.out HWn.out
        rw [T.toldL_news HNew.out, ← T.toldL_snoc HU.out, ← HT.out] at hcon
        have hnl := T.news_le n
        obtain ⟨M, hM⟩ : ∃ M, M = (T.news n).length := ⟨_, rfl⟩
        unfold NewsOut at hcon
        rw [← hM] at hcon hnl
        have HMl := Lib.hid hM
        have HCon := Lib.hid hcon
        clear hu hcon hM
        go_wp2_with fail
        with_reducible refine HCon.out.mono ?_
        rintro e w5 ⟨a5, c5, rfl, hr5, hA5, hx5, hf5⟩
        have HR5 := Lib.hid hr5
        have HA5 := Lib.hid hA5
        have HX5 := Lib.hid (excMut_trans HX.out hx5)
        have hb3 := HA.out.fix.hb
        have HW5 := Lib.hid (ownsK_exc HW.out hx5 (fun j hj hh => by
          have h7 := (ownsK_lt HW.out hj).1
          obtain ⟨_, _, q3, q4, q5⟩ := hb3
          rcases hh with e | e | e <;> omega))
        have hsz5 := HX5.out.size
        clear hr5 hA5 hx5 hf5 hb3 g0 g1 g2 g3 g4 g5 g6 g7 c0 hrun HCon
        go_wp2_with (at_builtin; refine wpList_append_nts rfl _ _ rfl w.heap.size _ _ _ rfl (by exact HW5.out) _ _ _ _ rfl (by exact HR5.out) (by omega) hsz5 ?_; intro v1 w6 h1 h2; have HW6 := Lib.hid h1; have HG6 := Lib.hid h2; clear h1 h2)
        go_wp2
        have hb6 : Exc (fun j => w.heap.size ≤ j) w5 w6 := (Exc.of_grown HG6.out).weak fun i _ hi => (ownsK_lt HW5.out hi).1
        refine ⟨⟨k + 1, by omega, by go_num, HA5.out.exc hb6 (fun i hi _ => .inl (Nat.le_trans hhi hi)), HX5.out.trans hb6 (fun i hi hh => by omega), ?_⟩, by simp [intOf]; omega⟩
        rw [HT.out, T.tellL_snoc, if_pos HU.out, List.length_append, ← HNl.out, ← HMl.out]
        exact HW6.out
    · obtain rfl : k = m := by omega
      have htk : T.N.take k = T.N := List.take_of_length_le (by rw [HM.out]; exact Nat.le_refl _)
      have hown := HW.out
      have hAe := HA.out
      have hNe := HNl.out
      rw [htk] at hown hAe hNe
      obtain ⟨a2, c2, rfl, hr2, hfr⟩ := nrow_of hown hNe.symm
      have HR := Lib.hid hr2
      have HAe := Lib.hid hAe
      have HFr := Lib.hid hfr
      have HNe := Lib.hid hNe
      have HCl := Lib.hid (clipN_any a2 N c2 wr hr2.le hr2.max)
      clear hown hAe hr2 hfr htk hNe hA
      go_wp2_with fail
      with_reducible refine HCl.out.mono ?_
      rintro e w' ⟨rfl, rfl⟩
      go_wp2
      go_ret
      exact ⟨a2, by rw [← HNe.out]; rfl, by rw [← HNe.out]; exact HR.out.clip, HAe.out, HX.out, HFr.out⟩
end Go.Proofs.Ytdjmopipmeonlaa
