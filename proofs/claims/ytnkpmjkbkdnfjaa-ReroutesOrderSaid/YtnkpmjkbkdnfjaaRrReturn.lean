/- Gates of layer 17: Return. -/
import Derived.Test.YtnkpmjkbkdnfjaaRrOffer
import Derived.Laws.MakeOwn
namespace Go.Proofs.Ytnkpmjkbkdnfjaa
open Go.RowKit

/-- An item without the place of its contents. -/
def It.bare (y : It) : It := { y with loc := Option.none }
/-- Items handed in: the i-th has the capacity cp i. -/
structure ArgIts (w : World) (a : Option Addr) (n : Nat) (L : List It) (cp : Nat → Nat) : Prop where
  len : L.length = n
  cells : n = 0 ∨ ∃ k o, a = some ⟨k, o, none⟩ ∧ ∀ i, i < n → w.cell? ⟨k, o + i * 8, none⟩ = some (.int .i64 (L.getD i It.none).num) ∧ w.cell? ⟨k, o + i * 8 + 1, none⟩ = some (.int .u8 (L.getD i It.none).sv) ∧ w.cell? ⟨k, o + i * 8 + 2, none⟩ = some (.int .u8 (L.getD i It.none).nw) ∧ w.cell? ⟨k, o + i * 8 + 3, none⟩ = some (.int .u8 (L.getD i It.none).pr) ∧
      w.cell? ⟨k, o + i * 8 + 4, none⟩ = some (.int .u16 (L.getD i It.none).tp) ∧ w.cell? ⟨k, o + i * 8 + 5, none⟩ = some (.int .u16 (L.getD i It.none).fr) ∧ w.cell? ⟨k, o + i * 8 + 6, none⟩ = some (.int .u8 (L.getD i It.none).sl) ∧ w.cell? ⟨k, o + i * 8 + 7, none⟩ = some (.slice (L.getD i It.none).loc (L.getD i It.none).dat.length (cp i))
  row : ∀ i, i < n → Row .u8 w (L.getD i It.none).loc (L.getD i It.none).dat.length (cp i) (L.getD i It.none).dat
  few : ∀ i, i < n → (L.getD i It.none).dat.length ≤ 1000000
theorem ArgIts.nil (w : World) (a : Option Addr) : ArgIts w a 0 [] (fun _ => 0) := ⟨rfl, .inl rfl, fun i hi => by omega, fun i hi => by omega⟩
theorem ArgIts.later {w w' : World} {a : Option Addr} {n : Nat} {L : List It} {cp : Nat → Nat} (h : ArgIts w a n L cp) (hb : Below w.heap.size w w') : ArgIts w' a n L cp := by
  refine ⟨h.len, ?_, fun i hi => (h.row i hi).later hb, h.few⟩
  rcases h.cells with h0 | ⟨k, o, ha, hc⟩
  · exact .inl h0
  · refine .inr ⟨k, o, ha, fun i hi => ?_⟩
    obtain ⟨q0, q1, q2, q3, q4, q5, q6, q7⟩ := hc i hi
    have key : ∀ j v, w.cell? ⟨k, j, none⟩ = some v → w'.cell? ⟨k, j, none⟩ = some v := fun j v hv => (hb.cell (World.block_lt_of_cell? w _ hv)).trans hv
    exact ⟨key _ _ q0, key _ _ q1, key _ _ q2, key _ _ q3, key _ _ q4, key _ _ q5, key _ _ q6, key _ _ q7⟩
/-- What has been copied so far. -/
structure RetIn (w0 wr : World) (L : List It) (k : Nat) (g : Option Nat) (a : Option Addr) (c : Nat) (C : List It) : Prop where
  len : C.length = k
  bare : C.map It.bare = (L.take k).map It.bare
  buf : Buf wr 56 8 g a k c (cellsIt C)
  gl : ∀ j, g = some j → w0.heap.size ≤ j
  its : ItsAt wr (fun j => g = some j) C
  locs : ∀ y ∈ C, ∀ z, y.loc = some z → w0.heap.size ≤ z.block
  bel : Below w0.heap.size w0 wr
theorem RetIn.later {w0 wr w' : World} {L : List It} {k : Nat} {g : Option Nat} {a : Option Addr} {c : Nat} {C : List It} (h : RetIn w0 wr L k g a c C) (hb : Below wr.heap.size wr w') : RetIn w0 w' L k g a c C :=
  ⟨h.len, h.bare, h.buf.later hb, h.gl, h.its.exc (S := fun _ => False) (Exc.of_below hb) (fun _ hh => hh.elim), h.locs, h.bel.trans (hb.mono h.bel.size)⟩
theorem RetIn.step {w0 w1 w2 w3 : World} {L : List It} {k : Nat} {g g' : Option Nat} {a a' : Option Addr} {c c' : Nat} {C : List It} {y : It} {s : Option Addr} (h : RetIn w0 w1 L k g a c C) (hb : Below w1.heap.size w1 w2)
    (hs : ∀ z, s = some z → w1.heap.size ≤ z.block ∧ z.block < w2.heap.size) (hr : Row .u8 w2 s y.dat.length y.dat.length y.dat) (hL : k < L.length) (hy : (L.getD k It.none).bare = y.bare)
    (hB : Buf w3 56 8 g' a' (k + 1) c' (cellsIt C ++ encIt { y with loc := s })) (hx : Exc (fun j => g = some j) w2 w3) (hg : ∀ j, g' = some j → g = some j ∨ w2.heap.size ≤ j) : RetIn w0 w3 L (k + 1) g' a' c' (C ++ [{ y with loc := s }]) := by
  have hb1 := h.bel.size
  have hb2 := hb.size
  refine ⟨by rw [List.length_append, h.len]; rfl, ?_, by rw [cellsIt_append, cellsIt_one]; exact hB, fun j hj => ?_, ⟨fun z hz => ?_, fun z hz u hu => ?_⟩, fun z hz u hu => ?_, h.bel.trans ?_⟩
  · rw [List.map_append, h.bare]
    have e : L.take (k + 1) = L.take k ++ [L.getD k It.none] := by
      rw [List.take_add_one, List.getD_eq_getElem?_getD, List.getElem?_eq_getElem hL]; rfl
    rw [e, List.map_append, List.map_singleton, List.map_singleton, hy]
    rfl
  · rcases hg j hj with h1 | h1
    · exact h.gl j h1
    · omega
  · rcases List.mem_append.1 hz with hm | hm
    · exact ((h.its.row z hm).later hb).exc hx (fun u hu hh => (h.its.off z hm u hu).1 hh)
    · rw [List.mem_singleton.1 hm]
      exact hr.exc hx (fun u hu hh => by have := h.buf.lt hh; have := (hs u hu).1; omega)
  · rcases List.mem_append.1 hz with hm | hm
    · have h1 := h.its.off z hm u hu
      refine ⟨fun hh => ?_, Nat.lt_of_lt_of_le h1.2 (Nat.le_trans hb2 hx.size)⟩
      rcases hg _ hh with h2 | h2
      · exact h1.1 h2
      · have := h1.2; omega
    · rw [List.mem_singleton.1 hm] at hu
      have h1 := hs u hu
      refine ⟨fun hh => ?_, Nat.lt_of_lt_of_le h1.2 hx.size⟩
      rcases hg _ hh with h2 | h2
      · have := h.buf.lt h2; omega
      · omega
  · rcases List.mem_append.1 hz with hm | hm
    · exact h.locs z hm u hu
    · rw [List.mem_singleton.1 hm] at hu
      have := (hs u hu).1; omega
  · exact (hb.mono hb1).trans (hx.below (Nat.le_trans hb1 hb2) fun i _ hi => h.gl i hi)
theorem Buf.src {P : Program} {w : World} {t sz : Nat} {g : Option Nat} {a : Option Addr} {n c : Nat} {cs : List Value} (h : Buf w t sz g a n c cs) {tx e' : TypeId} (hk : P.underlying tx = some (.slice e')) (ho : ∀ u ∈ cs, u.oneCell' = true) : Src P sz tx (.slice a n c) n cs w := by
  rcases h.lies with ⟨h1, h2, h3⟩ | ⟨k, o, rs, h1, h2, h3, h4, h5⟩
  · have hle := h.le
    obtain rfl : n = 0 := by omega
    have : cs = [] := List.eq_nil_of_length_eq_zero (by rw [h.len, Nat.zero_mul])
    subst this
    rw [h1]
    exact Src.ofNil w hk c
  · rw [h1]
    have hle : n * sz ≤ c * sz := Nat.mul_le_mul_right sz h.le
    refine Src.ofSlice w hk ⟨k, o, none⟩ n c cs h.len (fun j u hu => ?_) ho
    have hj : j < n * sz := by have := (List.getElem?_eq_some_iff.1 hu).1; rwa [h.len] at this
    rw [Addr.add_lit, h3.cell (o + j) (by omega), h5 j hj, List.getD_eq_getElem?_getD, hu]
    rfl
theorem cellsIt_cell (l : List It) : ∀ u ∈ cellsIt l, u.oneCell' = true := by
  intro u hu
  obtain ⟨y, _, hy⟩ := List.mem_flatMap.1 hu
  exact encIt_one y u hy
theorem zs_it : (Value.agg zeroIt.toArray).cells.size = 8 := rfl
theorem make_its (N : Nat) (hN : N ≤ 100000) (w : World) : (Instr.makeSlice 41 (.int .i64 0) (.int .i64 (N : Int))).run Try.prog w = .ok (.slice (some ⟨w.heap.size, 0, none⟩) 0 N) (w.alloc (.cells (madeCells zeroIt.toArray (N * 8)) 56)) := by
  obtain ⟨i, hi, hz0, hz1, hz2⟩ := info_parts info_it
  have h := run_make (P := Try.prog) w 41 56 i _ und_it hi hz0 .i64 .i64 0 N (by omega) (by omega) (by rw [hz2]; omega) (by omega)
  rw [hz1] at h
  simpa [Value.cells] using h
theorem made_size (z : Array Value) (n : Nat) : (madeCells z n).toList.length = n := by simp [madeCells]
theorem ret_start (w : World) (L : List It) (N : Nat) (hN : N ≤ 100000) (w0 : World) (hb : Below w0.heap.size w0 w) : RetIn w0 (w.alloc (.cells (madeCells zeroIt.toArray (N * 8)) 56)) L 0 (some w.heap.size) (some ⟨w.heap.size, 0, none⟩) N [] := by
  refine ⟨rfl, by simp, ⟨rfl, Nat.zero_le _, by unfold maxLen; omega, .inr ⟨w.heap.size, 0, (madeCells zeroIt.toArray (N * 8)).toList, rfl, rfl, Blk.fresh w _ _ _ (by simp), by rw [made_size]; omega, fun j hj => by omega⟩⟩, fun j hj => ?_, ItsAt.nil _ _, by simp, hb.trans ((below_alloc w _).mono hb.size)⟩
  cases hj
  exact hb.size
def ReturnOut (w : World) (b : Nat) (x : Gt) (L : List It) (e : Ending) (w' : World) : Prop :=
  e = .returned (.int .i64 0) ∧ ∃ C g a c, C.map It.bare = L.map It.bare ∧ GtTo w b x { x with its := C ++ x.its, g := g, a := a, c := c, ph := 4 } w'
theorem GtAt.back {w w1 w2 w3 : World} {b n m : Nat} {x : Gt} {L C : List It} {g g' : Option Nat} {a a' : Option Addr} {c c' : Nat} (h : GtAt w b x) (hr : RetIn w w1 L n g a c C) (hx : Exc (fun j => g = some j) w1 w2) (hm : m = x.its.length)
    (hB : Buf w2 56 8 g' a' (n + m) c' (cellsIt C ++ cellsIt x.its)) (hg : ∀ j, g' = some j → g = some j ∨ w1.heap.size ≤ j) (hx3 : Exc (fun k => k = b) w2 w3) (hf : n + m ≤ 60000)
    (ho : Own w3 b 71 (gtCells { x with its := C ++ x.its, g := g', a := a', c := c', ph := 4 })) : GtTo w b x { x with its := C ++ x.its, g := g', a := a', c := c', ph := 4 } w3 := by
  have hbs := h.own.lt
  have hs1 := hr.bel.size
  have hs2 := hx.size
  have hs3 := hx3.size
  have hl : (C ++ x.its).length = n + m := by rw [List.length_append, hr.len, hm]
  have hg0 : ∀ j, g' = some j → w.heap.size ≤ j := fun j hj => by
    rcases hg j hj with h1 | h1
    · exact hr.gl j h1
    · omega
  have hxx : Exc (x.T b) w w3 := ((Exc.of_below (hr.bel.trans (hx.below hs1 fun i _ hi => hr.gl i hi))).trans (S' := x.T b) (hx3.weak fun i _ hi => .inl hi) (fun _ _ hh => hh))
  refine ⟨⟨ho, ?_, ⟨fun y hy => ?_, fun y hy z hz => ?_⟩, fun k hk => by have := hg0 k hk; omega, by show (C ++ x.its).length ≤ 60000; omega, by show 1 ≤ 4; decide, by show 4 ≤ 4; decide, h.hold, h.wf⟩, hxx, fun k hk => ?_⟩
  · show Buf w3 _ 8 g' a' (C ++ x.its).length c' (cellsIt (C ++ x.its))
    rw [hl, cellsIt_append]
    exact hB.exc hx3 (fun k hk => by have := hg0 k hk; omega)
  · rcases List.mem_append.1 hy with hm | hm
    · exact ((hr.its.row y hm).exc hx (fun z hz hh => (hr.its.off y hm z hz).1 hh)).exc hx3 (fun z hz hh => by have := hr.locs y hm z hz; omega)
    · exact (h.its.row y hm).exc hxx (fun z hz hh => (h.its.off y hm z hz).1 hh)
  · rcases List.mem_append.1 hy with hm | hm
    · have h1 := hr.its.off y hm z hz
      have h2 := hr.locs y hm z hz
      refine ⟨?_, by omega⟩
      rintro (hh | hh)
      · omega
      · rcases hg _ hh with h3 | h3
        · exact h1.1 h3
        · omega
    · have h1 := h.its.off y hm z hz
      refine ⟨?_, by omega⟩
      rintro (hh | hh)
      · exact h1.1 (.inl hh)
      · have := hg0 _ hh; omega
  · rcases hk with (hk | hk) | ⟨y, hy, z, hz, rfl⟩
    · exact .inl (.inl (.inl hk))
    · exact .inr (hg0 k hk)
    · rcases List.mem_append.1 hy with hm | hm
      · exact .inr (hr.locs y hm z hz)
      · exact .inl (.inr ⟨y, hm, z, hz, rfl⟩)
set_option maxHeartbeats 1000000 in
set_option maxRecDepth 100000 in
theorem return_bad (b : Nat) (x : Gt) (a : Option Addr) (n c : Nat) (w : World) (h : GtAt w b x) (h3 : x.ph ≠ 3) : Calls Try.prog 22 #[.pointer (some ⟨b, 0, none⟩), .slice a n c] w fun e w' => e = .returned (.int .i64 6) ∧ ∃ q, w' = w.drewN q := by
  obtain ⟨_, _, c2, _⟩ := h.cells
  have HN := Lib.hid (isNone_any b x.ph w c2 h.ph1)
  have HW := Lib.hid (fun n => waits_any b x (w.drewN n) (h.later (below_draw w n)))
  have e1 : decide (x.ph = 3) = false := by simp [h3]
  rw [e1] at HW
  clear h c2 h3 e1
  go_enter Try.func22, Try.ntmps22
  go_wp2_with fail
  refine HN.out.mono ?_
  rintro e w' ⟨rfl, q, rfl⟩
  go_wp2_with fail
  refine (HW.out _).mono ?_
  rintro e w' ⟨rfl, q2, rfl⟩
  go_wp2
  go_ret
  exact ⟨rfl, _, rfl⟩
set_option maxHeartbeats 4000000 in
set_option maxRecDepth 100000 in
theorem return_ok (b : Nat) (x : Gt) (a : Option Addr) (n c m : Nat) (L : List It) (cp : Nat → Nat) (w : World) (h : GtAt w b x) (h3 : x.ph = 3) (hA : ArgIts w a n L cp) (hm : m = x.its.length) (hf : n + m ≤ 60000) :
    Calls Try.prog 22 #[.pointer (some ⟨b, 0, none⟩), .slice a n c] w fun e w' => ReturnOut w b x L e w' := by
  obtain ⟨_, _, c2, _⟩ := h.cells
  have HN := Lib.hid (isNone_any b x.ph w c2 h.ph1)
  have HW := Lib.hid (fun n => waits_any b x (w.drewN n) (h.later (below_draw w n)))
  have e1 : decide (x.ph = 3) = true := by simp [h3]
  rw [e1] at HW
  have H := Lib.hid h
  have HA := Lib.hid hA
  have HM := Lib.hid hm
  have HF := Lib.hid hf
  have hbs := h.own.lt
  clear h c2 e1 h3 hA
  go_enter Try.func22, Try.ntmps22
  go_wp2_with fail
  refine HN.out.mono ?_
  rintro e w' ⟨rfl, q, rfl⟩
  go_wp2_with fail
  refine (HW.out _).mono ?_
  rintro e w' ⟨rfl, q2, rfl⟩
  generalize hW : (w.drewN _).drewN _ = W
  have h0 : Below w.heap.size w W := by rw [← hW]; exact below_drewN (below_draw w _) _
  have h := H.out.later h0
  obtain ⟨_, c1, _⟩ := h.cells
  have f1 := h.own.frozen 1
  have f2 := h.own.frozen 2
  rw [← hm] at c1
  have HH := Lib.hid h
  have HB := Lib.hid h0
  have w1 : IntKind.i64.wrap (65536 - (m : Int)) = 65536 - (m : Int) := IntWalk.i64_in _ (by omega)
  have l1 : ¬ 65536 - (m : Int) < (n : Int) := by omega
  have l2 : decide (65536 - (m : Int) < (n : Int)) = false := by simp; omega
  have w2 : IntKind.i64.wrap ((n : Int) + (m : Int)) = ((n + m : Nat) : Int) := by rw [IntWalk.i64_in _ (by omega)]; push_cast; rfl
  obtain ⟨N, hN⟩ : ∃ N, N = n + m := ⟨_, rfl⟩
  rw [← hN] at w2
  have hmk := fun W => make_its N (by omega) W
  have hst := ret_start W L N (by omega) w h0
  have HS := Lib.hid hst
  have HNn := Lib.hid hN
  clear hst hW h0 h hN hm hf
  go_wp2_with fail
  go_loopw [5, 33] (fun hv kv wr => ∃ k : Nat, k ≤ n ∧ kv = .int .i64 (k : Int) ∧ ∃ g a1 c1 C, hv = .slice a1 k c1 ∧ RetIn w wr L k g a1 c1 C) (fun _ kv _ => n - (intOf kv).toNat)
  case atStart => exact ⟨0, Nat.zero_le _, rfl, _, _, _, _, rfl, HS.out⟩
  case round =>
    obtain ⟨k, hk, rfl, g, a1, C1, C, rfl, hr⟩ := hrel
    have HR := Lib.hid hr
    by_cases hkn : k < n
    · have hkM : (k : Int) < (n : Int) := by omega
      have hk0 : (0 : Int) ≤ (k : Int) := by omega
      have hAr := HA.out.later hr.bel
      obtain ⟨kb, o, rfl, hc⟩ := hAr.cells.resolve_left (by omega)
      obtain ⟨q0, q1, q2, q3, q4, q5, q6, q7⟩ := hc k hkn
      have hrow := hAr.row k hkn
      have hfew := hAr.few k hkn
      have hbare : (L.getD k It.none).bare = (L.getD k It.none).bare := rfl
      generalize hY : L.getD k It.none = y at q0 q1 q2 q3 q4 q5 q6 q7 hrow hfew hbare
      generalize hCp : cp k = K at q7 hrow
      have HY := Lib.hid (show (L.getD k It.none).bare = y.bare by rw [hY])
      clear hAr hc hr hY hCp hbare
      have hba := below_alloc wr (.cells #[.int .i64 y.num, .int .u8 y.sv, .int .u8 y.nw, .int .u8 y.pr, .int .u16 y.tp, .int .u16 y.fr, .int .u8 y.sl, .slice y.loc y.dat.length K] 56)
      have HCo := Lib.hid (copied_any y.num y.sv y.nw y.pr y.tp y.fr y.sl y.loc y.dat.length K y.dat _ (hrow.later hba) hfew)
      obtain ⟨i0, hi, hz0, hz1', hz2⟩ := info_parts info_it
      have HI := Lib.hid (And.intro hi (And.intro hz0 (And.intro hz1' hz2)))
      have hnn : k + 1 ≤ maxLen := by have := HF.out; unfold maxLen; omega
      have hbb : (k + 1) * 48 ≤ 140737488355328 := by have := HF.out; omega
      have HNn2 := Lib.hid (And.intro hnn hbb)
      have HBa := Lib.hid hba
      clear hi hz0 hz1' hz2 hnn hbb hba hrow hfew
      go_wp2_with fail
      with_reducible refine HCo.out.mono ?_
      rintro e w3 ⟨s, rfl, hr3, hz3, hb3⟩
      have hb13 := HBa.out.trans (hb3.mono HBa.out.size)
      have hb34 := below_alloc w3 (.cells #[.int .i64 y.num, .int .u8 y.sv, .int .u8 y.nw, .int .u8 y.pr, .int .u16 y.tp, .int .u16 y.fr, .int .u8 y.sl, .slice s y.dat.length y.dat.length] 56)
      have hr4 := hr3.later hb34
      have hb14 := hb13.trans (hb34.mono hb13.size)
      have hz4 : ∀ z, s = some z → wr.heap.size ≤ z.block ∧ z.block < (w3.alloc (.cells #[.int .i64 y.num, .int .u8 y.sv, .int .u8 y.nw, .int .u8 y.pr, .int .u16 y.tp, .int .u16 y.fr, .int .u8 y.sl, .slice s y.dat.length y.dat.length] 56)).heap.size := fun z hz => ⟨Nat.le_trans HBa.out.size (hz3 z hz).1, Nat.lt_of_lt_of_le (hz3 z hz).2 hb34.size⟩
      have hsrc := src_it (y := { y with loc := s }) (own_lit w3 56 #[.int .i64 y.num, .int .u8 y.sv, .int .u8 y.nw, .int .u8 y.pr, .int .u16 y.tp, .int .u16 y.fr, .int .u8 y.sl, .slice s y.dat.length y.dat.length] (encIt { y with loc := s }) rfl)
      have HBf := Lib.hid (HR.out.buf.later hb14)
      have HSr := Lib.hid hsrc
      have HK := Lib.hid (And.intro hr4 (And.intro hz4 hb14))
      clear hr3 hz3 hb3 hb13 hb34 hr4 hz4 hb14 hsrc
      dsimp only [encIt]
      go_wp2_with (refine wpList_append_buf rfl _ _ 41 41 rfl 56 i0 (.agg zeroIt.toArray) 8 48 und_it HI.out.1 HI.out.2.1 HI.out.2.2.1 HI.out.2.2.2 zs_it (by decide) g a1 k C1 (cellsIt C) rfl HBf.out (.slice (some ⟨w3.heap.size, 0, none⟩) 1 1) 1 (encIt { y with loc := s }) rfl HSr.out HNn2.out.1 HNn2.out.2 ?_)
      intro g5 a5 c5 w5 r1 r2 r3
      have hK := HK.out
      have hR5 := HR.out.step hK.2.2 hK.2.1 hK.1 (by rw [HA.out.len]; exact hkn) HY.out r1 r2 (fun j hj => by rw [World.size_alloc]; exact r3 j hj)
      have HR5 := Lib.hid hR5
      clear r1 r2 r3 hK hR5 HK HSr HBf HBa HCo
      go_wp2
      exact ⟨⟨k + 1, by omega, by go_num, g5, a5, c5, _, rfl, HR5.out⟩, by simp [intOf]; omega⟩
    · obtain rfl : k = n := by omega
      have hbr := hr.bel
      have hxw : Below w.heap.size W W := Below.refl _ _
      clear hr
      have hH7 := H.out.later hbr
      obtain ⟨_, c1', _⟩ := hH7.cells
      have f1' := hH7.own.frozen 1
      have f2' := hH7.own.frozen 2
      rw [← HM.out] at c1'
      have HO7 := Lib.hid hH7.own
      have HB7 := Lib.hid hH7.buf
      obtain ⟨i0, hi, hz0, hz1', hz2⟩ := info_parts info_it
      have HI := Lib.hid (And.intro hi (And.intro hz0 (And.intro hz1' hz2)))
      have hnn : k + m ≤ maxLen := by have := HF.out; unfold maxLen; omega
      have hbb : (k + m) * 48 ≤ 140737488355328 := by have := HF.out; omega
      have HNn2 := Lib.hid (And.intro hnn hbb)
      have hsrc := hH7.buf.src (P := Try.prog) (tx := 41) und_it (cellsIt_cell _)
      rw [← HM.out] at hsrc
      have HSr := Lib.hid hsrc
      clear hi hz0 hz1' hz2 hnn hbb hsrc hH7 hxw hbr
      go_wp2_with (refine wpList_append_buf rfl _ _ 41 41 rfl 56 i0 (.agg zeroIt.toArray) 8 48 und_it HI.out.1 HI.out.2.1 HI.out.2.2.1 HI.out.2.2.2 zs_it (by decide) g a1 k C1 (cellsIt C) rfl HR.out.buf (.slice x.a m x.c) m (cellsIt x.its) rfl HSr.out HNn2.out.1 HNn2.out.2 ?_)
      intro g5 a5 c5 w5 r1 r2 r3
      have hb5 : b < w5.heap.size := Nat.lt_of_lt_of_le HO7.out.lt r2.size
      have hgn : ¬ g = some b := fun hh => by have := HR.out.gl b hh; omega
      have ho5 := HO7.out.exc r2 hgn
      have f51 := ho5.frozen 1
      have f52 := ho5.frozen 2
      have k51 := ho5.cell 1 (by simp [gtCells])
      have k52 := ho5.cell 2 (by simp [gtCells])
      simp only [gtCells, List.getD_cons_zero, List.getD_cons_succ] at k51 k52
      have HQ := Lib.hid (And.intro r1 (And.intro r2 r3))
      have HO5 := Lib.hid ho5
      clear r1 r2 r3 ho5 hgn c1' f1' f2' HSr HB7
      go_wp2
      have hx3 : Exc (fun k => k = b) w5 ((w5.setCell ⟨b, 1, none⟩ (.slice a5 (k + m) c5)).setCell ⟨b, 2, none⟩ (.int .u8 4)) := Blk.more (Blk.exc b 1 _ w5) 2 _
      have ho : Own ((w5.setCell ⟨b, 1, none⟩ (.slice a5 (k + m) c5)).setCell ⟨b, 2, none⟩ (.int .u8 4)) b 71 (gtCells { x with its := C ++ x.its, g := g5, a := a5, c := c5, ph := 4 }) := by
        have e : (C ++ x.its).length = k + m := by rw [List.length_append, HR.out.len, HM.out]
        have h5 := (HO5.out.set 1 (.slice a5 (k + m) c5)).set 2 (.int .u8 4)
        unfold gtCells
        simp only [e]
        exact h5
      go_ret
      exact ⟨rfl, C, g5, a5, c5, by rw [HR.out.bare, ← HA.out.len, List.take_length], H.out.back HR.out HQ.out.2.1 HM.out HQ.out.1 HQ.out.2.2 hx3 HF.out ho⟩
end Go.Proofs.Ytnkpmjkbkdnfjaa
