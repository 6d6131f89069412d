import Derived.Test.YthlckipcgogogaaGreatDoorPcRep
import Derived.Test.YthlckipcgogogaaGreatDoorPcCheck
import Derived.Deep.Cut
import Derived.Deep.RegionHeld3
import Derived.Deep.CutBlock
/- The code's distancesOf. -/
namespace Go.Proofs.YthlckipcgogogaaGreatDoor
set_option linter.unusedVariables false
open Go.RowKit

def toF (F : List Nat) : List Int := F.map fun (k : Nat) => (k : Int)
theorem toF_length (F : List Nat) : (toF F).length = F.length := by simp [toF]
theorem toF_getD (F : List Nat) {a : Nat} (h : a < F.length) : (toF F).getD a 0 = ((F.getD a 0 : Nat) : Int) := by simp [toF, List.getD_eq_getElem?_getD, h]
theorem toF_snoc (F : List Nat) (i : Nat) : toF (F ++ [i]) = toF F ++ [(i : Int)] := by simp [toF]
/-- What the distances are. -/
structure DisOk (p : Pn) (t : Int) (l : List Int) : Prop where
  len : l.length = p.P.length
  dist : Dist p.P p.L t (fun i => d99 (l.getD i 0))
  small : ∀ i, i < p.P.length → -1 ≤ l.getD i 0 ∧ l.getD i 0 < 64
def DisOut (p : Pn) (t : Int) (w : World) (e : Ending) (w' : World) : Prop := ∃ g l n, p.P.length = n ∧ DisOk p t l ∧ e = .returned (.slice (some ⟨g, 0, none⟩) n n) ∧ Own w' g 3 (nums .i64 l) ∧ w.heap.size ≤ g ∧ Below w.heap.size w w'
theorem Bfs.ok {p : Pn} {t : Int} {s : Nat} {F : List Nat} {l : List Int} {K : Nat} {done : List Int} (h : Bfs p.P p.L t s F l K done) (hv : ValidPl p) (he : F.length ≤ K ∨ F.length = p.P.length) : DisOk p t l :=
  ⟨h.len, h.dist hv.asc hv.np he, h.small hv.np⟩
/-- The search in memory: B parts the distances' block g from the places found. -/
structure SrAt (W : World) (B g : Nat) (v : Value) (F : List Nat) (l : List Int) (wr : World) : Prop where
  below : Below W.heap.size W wr
  own : Own wr g 3 (nums .i64 l)
  row : wr.ownsRow B 3 1 v F.length (nums .i64 (toF F))
theorem SrAt.later {W : World} {B g : Nat} {v : Value} {F : List Nat} {l : List Int} {wr w' : World} (h : SrAt W B g v F l wr) (hb : Below wr.heap.size wr w') : SrAt W B g v F l w' :=
  ⟨h.below.trans (hb.mono h.below.size), h.own.below hb h.own.lt, ownsRow_below h.row hb⟩
theorem SrAt.store {W : World} {B g : Nat} {v : Value} {F : List Nat} {l : List Int} {wr : World} (h : SrAt W B g v F l wr) (hg : W.heap.size ≤ g) (hgB : g < B) (i : Nat) (x : Int) : SrAt W B g v F (l.set i x) (wr.setCell ⟨g, i, none⟩ (.int .i64 x)) :=
  ⟨h.below.setCell hg _, by have := h.own.set i (.int .i64 x); rwa [nums_set] at this, ownsRow_exc (S := fun k => k = g) h.row ((Exc.refl (fun k => k = g) wr).setCell ⟨g, i, none⟩ (.inl rfl) _) (fun k hk e => by have := (ownBlock_lt h.row hk).1; omega)⟩
theorem SrAt.add {W : World} {B g : Nat} {v v' : Value} {F : List Nat} {l : List Int} {wr w' : World} (h : SrAt W B g v F l wr) (hWB : W.heap.size ≤ B) (hgB : g < B) {i : Nat} (h1 : w'.ownsRow B 3 1 v' (F.length + 1) (nums .i64 (toF F ++ [(i : Int)]))) (h2 : Grow v wr v' w') : SrAt W B g v' (F ++ [i]) l w' :=
  ⟨h.below.trans (h2.below h.below.size fun k hk => Nat.le_trans hWB (ownBlock_lt h.row hk).1), by
    unfold Own
    rw [h2.exc.block g h.own.lt (fun e => by have := (ownBlock_lt h.row e).1; omega)]; exact h.own, by
    rw [toF_snoc, List.length_append]; exact h1⟩
theorem dis_end {p : Pn} {t : Int} {w W : World} {B g n : Nat} {v : Value} {F : List Nat} {l : List Int} {wr : World} (hB : Below w.heap.size w W) (hg : W.heap.size ≤ g) (hn : p.P.length = n) (ho : DisOk p t l) (h : SrAt W B g v F l wr) : DisOut p t w (.returned (.slice (some ⟨g, 0, none⟩) n n)) wr :=
  ⟨g, l, n, hn, ho, rfl, h.own, Nat.le_trans hB.size hg, hB.trans (h.below.mono hB.size)⟩
theorem row_cell {w : World} {B e n : Nat} {v : Value} {xs : List Int} (h : w.ownsRow B e 1 v n (nums .i64 xs)) (hn : xs.length = n) {i : Nat} (hi : i < n) :
    ∃ b c, v = .slice (some ⟨b, 0, none⟩) n c ∧ n ≤ c ∧ c ≤ maxLen ∧ w.cell? ⟨b, i, none⟩ = some (.int .i64 (xs.getD i 0)) ∧ B ≤ b := by
  rcases h.2 with ⟨rfl, h0⟩ | ⟨g, cap, cur, rfl, hb, hg, hle, hc, hs, ht⟩
  · omega
  · refine ⟨g, cap, rfl, hle, hc, ?_, hb⟩
    rw [cell_of_row w g i cur e _ hg]
    have hh := congrArg (fun z => z[i]?) ht
    simp only [List.getElem?_take, Nat.mul_one, hi, if_true] at hh
    rw [← Array.getElem?_toList, hh]
    simp [nums, show i < xs.length by omega]
theorem row_len {w : World} {B e n : Nat} {v : Value} {xs : List Value} (h : w.ownsRow B e 1 v n xs) : ∃ a c, v = .slice a n c := by
  rcases h.2 with ⟨rfl, h0⟩ | ⟨g, cap, cur, rfl, hb, hg, hle, hc, hs, ht⟩
  · subst h0; exact ⟨none, 0, rfl⟩
  · exact ⟨_, cap, rfl⟩
set_option maxRecDepth 20000 in
set_option maxHeartbeats 8000000 in
theorem distancesOf_any (p : Pn) (a : Option Addr) (n c : Nat) (a' : Option Addr) (n' c' : Nat) (t : Int) (s : Nat) (w : World) (hP : PRow w a n c p.P) (hL : LRow w a' n' c' p.L) (hv : ValidPl p) (hs : fnd p.P t = some s) :
    Calls Tryz.prog 60 #[planV a n c a' n' c' p, .int .u16 t] w (DisOut p t w) := by
  obtain ⟨W, hW⟩ : ∃ W, W = w.alloc (.cells (planCells a n c a' n' c' p).toArray 31) := ⟨_, rfl⟩
  have hB : Below w.heap.size w W := by rw [hW]; exact below_alloc _ _
  have hA : PlanAt W w.heap.size a n c a' n' c' p := by rw [hW]; exact PlanAt.new _ _ _ _ _ _ _ _
  have hn : p.P.length = n := hP.len
  have hn64 : n ≤ 64 := by have := hv.np; omega
  have hn1 : 1 ≤ n := by have := hv.n0; omega
  obtain ⟨hsn, hst, _⟩ := fnd_some_iff.1 hs
  have hI := fun (W : World) (x : Int) (h : PRow W a n c p.P) => cindex_any p a n c a' n' c' x W h
  have hN := fun (W : World) (x : Int) (h : LRow W a' n' c' p.L) => neighborsOf_any p a n c a' n' c' x W h hv
  unfold planV at *
  have HI := Lib.hid hI
  have HN := Lib.hid hN
  have HP := Lib.hid (hP.later hB)
  have HL := Lib.hid (hL.later hB)
  have HV := Lib.hid hv
  have HAsc := Lib.hid hv.asc
  have HB := Lib.hid hB
  have HA := Lib.hid hA
  have HIs := Lib.hid (idN_some hs)
  have HPl := Lib.hid hn
  have HSt := Lib.hid (And.intro hsn hst)
  obtain ⟨g0, g1, g2, g3, g4, g5, g6⟩ := hA.cells
  have hmx := hP.max
  have hle := hP.le
  unfold maxLen at hmx
  have hwW : w.heap.size < W.heap.size := hA.lt
  clear hI hN hP hL hv hB hA hs hsn hst hn
  go_enter Tryz.func60, Tryz.ntmps60
  go_wp2_with fail
  show Code.wp _ _ _ _ (w.alloc (.cells (planCells a n c a' n' c' p).toArray 31))
  rw [← hW]
  clear hW
  go_step3
  go_wp2_with fail
  have ho1 : Own (W.alloc (.cells #[.int .i64 (-1)] 3)) W.heap.size 3 [.int .i64 (-1)] := own_alloc W [.int .i64 (-1)] 3
  have HR := Lib.hid (repeat_any W.heap.size (-1) n _ hn64 hn1 ho1)
  have HBa := Lib.hid (below_alloc W (.cells #[.int .i64 (-1)] 3))
  clear ho1
  with_reducible refine HR.out.mono ?_
  rintro e W2 ⟨g, rfl, ho, hge, hb⟩
  have HO2 := Lib.hid ho
  have HB2 := Lib.hid (HBa.out.trans (hb.mono HBa.out.size))
  have hgW : W.heap.size ≤ g := Nat.le_trans HBa.out.size hge
  have hgl : g < W2.heap.size := ho.lt
  clear ho hge hb HR HBa g0 g1 g2 g3 g4 g5 g6
  obtain ⟨g0, g1, g2, g3, g4, g5, g6⟩ := (HA.out.later HB2.out).cells
  go_wp2_with fail
  have hI := HI.out W2 t (HP.out.later HB2.out)
  rw [HIs.out.1, HIs.out.2] at hI
  have HI2 := Lib.hid hI
  clear hI
  with_reducible refine HI2.out.mono ?_
  rintro e W3 ⟨rfl, hb⟩
  have HB3 := Lib.hid (HB2.out.trans (hb.mono HB2.out.size))
  have HO3 := Lib.hid (HO2.out.below hb HO2.out.lt)
  have hgl3 : g < W3.heap.size := HO3.out.lt
  clear hb HI2 g0 g1 g2 g3 g4 g5 g6 hgl
  have si1 : (s : Int) < (n : Int) := by have := HSt.out.1; have := HPl.out; omega
  have si2 : (0 : Int) ≤ (s : Int) := by omega
  have sn : s < n := by omega
  have sc := HO3.out.cell s (by rw [nums_length, List.length_replicate]; exact sn)
  have sf := HO3.out.frozen s
  rw [nums_getD _ _ _ (by rw [List.length_replicate]; exact sn)] at sc
  generalize (List.replicate n (-1 : Int)).getD s 0 = sx at sc
  go_upto_region 4 with (fail)
  have ho4 : Own (W3.setCell ⟨g, s, none⟩ (.int .i64 0)) g 3 (nums .i64 ((List.replicate p.P.length (-1)).set s 0)) := by
    have := HO3.out.set s (.int .i64 0)
    rw [nums_set] at this
    rw [HPl.out]; exact this
  have hb4 : Below W.heap.size W (W3.setCell ⟨g, s, none⟩ (.int .i64 0)) := HB3.out.setCell hgW _
  have hsz4 : (W3.setCell ⟨g, s, none⟩ (.int .i64 0)).heap.size = W3.heap.size := by simp [World.setCell]
  generalize W3.setCell ⟨g, s, none⟩ (.int .i64 0) = W4 at ho4 hb4 hsz4 ⊢
  have hg4 : g < W4.heap.size := ho4.lt
  have hr5 : (W4.alloc (.cells #[.int .i64 (s : Int)] 3)).ownsRow W4.heap.size 3 1 (.slice (some ⟨W4.heap.size, 0, none⟩) 1 1) [s].length (nums .i64 (toF [s])) :=
    ⟨by simp [nums, toF], .inr ⟨W4.heap.size, 1, #[.int .i64 (s : Int)], rfl, Nat.le_refl _, heap_alloc_new W4 _, Nat.le_refl _, by unfold maxLen; decide, by simp, by simp [nums, toF]⟩⟩
  have HS5 : Hid (SrAt W W4.heap.size g (.slice (some ⟨W4.heap.size, 0, none⟩) 1 1) [s] ((List.replicate p.P.length (-1)).set s 0) (W4.alloc (.cells #[.int .i64 (s : Int)] 3))) :=
    Lib.hid ⟨hb4.trans ((below_alloc W4 _).mono hb4.size), ho4.below (below_alloc W4 _) hg4, hr5⟩
  obtain ⟨B, hBdef⟩ : ∃ B, B = W4.heap.size := ⟨_, rfl⟩
  have HBd := Lib.hid hBdef
  have hgB : g < B := by omega
  have hWB : W.heap.size ≤ B := by omega
  clear hBdef
  clear ho4 hb4 hsz4 hr5 sc sf HO3 HB3 HO2 HB2
  go_wp2_with fail
  obtain ⟨W5, hW5⟩ : ∃ W5, W5 = W4.alloc (.cells #[.int .i64 (s : Int)] 3) := ⟨_, rfl⟩
  rw [← hW5] at HS5 ⊢
  clear hW5 hg4
  go_step3
  go_wp2_with fail
  go_loopw [8, 9] (fun v kv wr => ∃ (F : List Nat) (l : List Int) (K : Nat), kv = .int .i64 K ∧ K ≤ F.length ∧ SrAt W B g v F l wr ∧ Bfs p.P p.L t s F l K []) (fun _ kv _ => n - (intOf kv).toNat)
  case atStart => exact ⟨[s], _, 0, rfl, by simp, by rw [HBd.out]; exact HS5.out, Bfs.start HSt.out.1 HSt.out.2⟩
  case round =>
    obtain ⟨F, l, K, rfl, hK, hsr, hbf⟩ := hrel
    have HS := Lib.hid hsr
    have HF := Lib.hid hbf
    have hFn : F.length ≤ n := by have := hbf.count; have := HPl.out; omega
    clear hsr hbf
    by_cases hKF : K < F.length
    · obtain ⟨bF, cF, rfl, hF1, hF2, hcell, hBF⟩ := row_cell HS.out.row (toF_length F) hKF
      rw [toF_getD F hKF] at hcell
      obtain ⟨at', hat⟩ : ∃ x, x = F.getD K 0 := ⟨_, rfl⟩
      have hatn : at' < n := by have := (HF.out.lt hKF).2; rw [← hat] at this; have := HPl.out; omega
      rw [← hat] at hcell
      have HAt := Lib.hid hat
      clear hat
      obtain ⟨g0, g1, g2, g3, g4, g5, g6⟩ := (HA.out.later HS.out.below).cells
      obtain ⟨b, off, rfl, hc⟩ := (HP.out.later HS.out.below).cells.resolve_left (by omega)
      obtain ⟨c0, c1⟩ := hc at' hatn
      have HC := Lib.hid hc
      clear hc
      have i1 : (K : Int) < (F.length : Int) := by omega
      have i2 : (0 : Int) ≤ (K : Int) := by omega
      have i3 : (at' : Int) < (n : Int) := by omega
      have i4 : (0 : Int) ≤ (at' : Int) := by omega
      obtain ⟨x, hx⟩ : ∃ x, x = pc p.P at' := ⟨_, rfl⟩
      obtain ⟨y, hy⟩ : ∃ y, y = pt p.P at' := ⟨_, rfl⟩
      have HX := Lib.hid hx
      have HY := Lib.hid hy
      rw [← hx] at c0
      rw [← hy] at c1
      clear hx hy
      by_cases hskip : at' ≠ s ∧ y = false
      · obtain ⟨hs1, rfl⟩ := hskip
        have hne : ((at' : Int) != (s : Int)) = true := by simp; omega
        have HNX := Lib.hid (HF.out.next hKF (fun i hi hst => by
          exfalso
          rw [← HAt.out] at hst
          unfold stepB at hst
          rw [← HY.out] at hst
          simp only [Bool.false_or, Bool.and_eq_true, decide_eq_true_eq] at hst
          have := HAsc.out.inj (by have := HPl.out; omega) HSt.out.1 (hst.2.trans HSt.out.2.symm)
          exact hs1 this))
        have HS1 := Lib.hid hs1
        clear hs1
        go_wp2
        exact ⟨⟨F, l, K + 1, by go_num, by omega, HS.out, HNX.out⟩, by simp [intOf]; omega⟩
      · have HPASS : Hid (y = true ∨ x = t) := Lib.hid (by
          by_cases hs0 : at' = s
          · right; rw [HX.out, hs0]; exact HSt.out.2
          · left
            cases y
            · exact absurd ⟨hs0, rfl⟩ hskip
            · rfl)
        clear hskip
        by_cases hs0 : at' = s
        · have hse : ((at' : Int) != (s : Int)) = false := by simp [hs0]
          have hse2 : (at' != s) = false := by simp [hs0]
          have HS0 := Lib.hid hs0
          clear hs0
          go_wp2_with fail
          obtain ⟨nb, hnb⟩ : ∃ nb, nb = nbrs p x := ⟨_, rfl⟩
          obtain ⟨m, hm⟩ : ∃ m, m = nb.length := ⟨_, rfl⟩
          have hbx := World.block_lt_of_cell? wr _ c0
          have hbw := World.block_lt_of_cell? wr _ g0
          have HNc := Lib.hid ((HN.out wr.drew x (HL.out.later (HS.out.below.trans ((below_draw wr 1).mono HS.out.below.size)))).mono (R' := fun e w' => (∃ a2, e = .returned (.slice a2 m m) ∧ Row .u16 w' a2 m m nb ∧ (∀ z, a2 = some z → wr.heap.size ≤ z.block)) ∧ Below wr.heap.size wr w' ∧ w'.cell? ⟨w.heap.size, 0, none⟩ = some (.slice (some ⟨b, off, none⟩) n c) ∧ w'.cell? ⟨w.heap.size, 1, none⟩ = some (.slice a' n' c') ∧ w'.cell? ⟨w.heap.size, 2, none⟩ = some (.int .i64 p.rate) ∧ w'.cell? ⟨w.heap.size, 3, none⟩ = some (.int .i64 p.room) ∧ w'.cell? ⟨w.heap.size, 4, none⟩ = some (.int .i64 p.m0) ∧ w'.cell? ⟨w.heap.size, 5, none⟩ = some (.int .i64 p.m1) ∧ w'.cell? ⟨w.heap.size, 6, none⟩ = some (.int .i64 p.m2) ∧ w'.cell? ⟨b, off + at' * 2, none⟩ = some (.int .u16 x)) fun e w' h => by
            obtain ⟨a2, h1, h2, h3, h4⟩ := h
            have hb9 : Below wr.heap.size wr w' := (below_draw wr 1).trans h3
            rw [← hnb, ← hm] at h1 h2
            exact ⟨⟨a2, h1, h2, h4⟩, hb9, (hb9.cell (p := ⟨w.heap.size, 0, none⟩) hbw).trans g0, (hb9.cell (p := ⟨w.heap.size, 1, none⟩) hbw).trans g1, (hb9.cell (p := ⟨w.heap.size, 2, none⟩) hbw).trans g2, (hb9.cell (p := ⟨w.heap.size, 3, none⟩) hbw).trans g3, (hb9.cell (p := ⟨w.heap.size, 4, none⟩) hbw).trans g4, (hb9.cell (p := ⟨w.heap.size, 5, none⟩) hbw).trans g5, (hb9.cell (p := ⟨w.heap.size, 6, none⟩) hbw).trans g6, (hb9.cell (p := ⟨b, off + at' * 2, none⟩) hbx).trans c0⟩)
          have hmb : m ≤ 1024 := by have := nbrs_none p x; have := HV.out.nl; rw [hm, hnb]; omega
          have HNb := Lib.hid hnb
          have HM := Lib.hid hm
          clear hnb hm
          go_region_held3 (fun W' => W'.cell? ⟨w.heap.size, 0, none⟩ = some (.slice (some ⟨b, off, none⟩) n c) ∧ W'.cell? ⟨w.heap.size, 1, none⟩ = some (.slice a' n' c') ∧ W'.cell? ⟨w.heap.size, 2, none⟩ = some (.int .i64 p.rate) ∧ W'.cell? ⟨w.heap.size, 3, none⟩ = some (.int .i64 p.room) ∧ W'.cell? ⟨w.heap.size, 4, none⟩ = some (.int .i64 p.m0) ∧ W'.cell? ⟨w.heap.size, 5, none⟩ = some (.int .i64 p.m1) ∧ W'.cell? ⟨w.heap.size, 6, none⟩ = some (.int .i64 p.m2) ∧ W'.cell? ⟨b, off + at' * 2, none⟩ = some (.int .u16 x)) (first | go_keep | assumption)
            (first
              | (go_at_call 59; ((with_reducible refine HNc.out.mono ?_); rintro e w1 ⟨⟨a2, rfl, hr, hfr⟩, hb1, s0, s1, s2, s3, s4, s5, s6, s7⟩); have HB1 := Lib.hid hb1; have HR1 := Lib.hid hr; have HFr := Lib.hid hfr; clear hb1 hr hfr)
              | fail)
          clear s0 s1 s2 s3 s4 s5 s6 s7 g0 g1 g2 g3 g4 g5 g6 c0 c1 hcell
          have HS1 := Lib.hid (HS.out.later HB1.out)
          have HInR : Hid (∀ z, a2 = some z → z.block ≠ g ∧ Value.ownBlock (.slice (some ⟨bF, 0, none⟩) F.length cF) ≠ some z.block ∧ (0 < m → z.block < w1.heap.size)) := Lib.hid (fun z hz => by
            have h1 := HFr.out z hz
            have h2 := HS.out.own.lt
            refine ⟨by omega, fun e => ?_, fun hm0 => ?_⟩
            · have := (ownBlock_lt HS.out.row e).2; omega
            · rcases HR1.out.cells with h0 | ⟨b9, o9, e9, hc9⟩
              · omega
              · have := World.block_lt_of_cell? w1 _ (hc9 0 hm0)
                rw [e9] at hz; cases hz; exact this)
          go_wp2_with fail
          go_loopw [8, 62] (fun v jv wr2 => ∃ (F : List Nat) (l : List Int) (j : Nat), jv = .int .i64 j ∧ j ≤ m ∧ K < F.length ∧ F.getD K 0 = at' ∧ SrAt W B g v F l wr2 ∧ Bfs p.P p.L t s F l K (nb.take j) ∧ Row .u16 wr2 a2 m m nb ∧ (∀ z, a2 = some z → z.block ≠ g ∧ v.ownBlock ≠ some z.block ∧ (0 < m → z.block < wr2.heap.size))) (fun _ jv _ => m - (intOf jv).toNat)
          case atStart => exact ⟨F, l, 0, rfl, Nat.zero_le _, hKF, HAt.out.symm, HS1.out, by rw [List.take_zero]; exact HF.out, HR1.out, HInR.out⟩
          case round =>
            clear HS HF HS1 HInR HR1 HFr HB1 HNc HAt
            obtain ⟨F2, l2, j, rfl, hj, hKF2, hat2, hsr, hbf, hrow, hin⟩ := hrel
            have HS := Lib.hid hsr
            have HF := Lib.hid hbf
            have HRo := Lib.hid hrow
            have HIn := Lib.hid hin
            have HAt := Lib.hid hat2
            have hFn2 : F2.length ≤ n := by have := hbf.count; have := HPl.out; omega
            clear hsr hbf hrow hin hat2
            obtain ⟨bF2, cF2, rfl, hF21, hF22, hcell, hBF2⟩ := row_cell HS.out.row (toF_length F2) hKF2
            clear hcell
            by_cases hjm : j < m
            · obtain ⟨b2, o2, rfl, hc2⟩ := HRo.out.cells.resolve_left (by omega)
              have d0 := hc2 j hjm
              clear hc2
              obtain ⟨q, hq⟩ : ∃ q, q = nb.getD j 0 := ⟨_, rfl⟩
              rw [← hq] at d0
              have hjl : j < nb.length := by rw [← HM.out]; exact hjm
              have hqm : q ∈ nbrs p x := by rw [hq, ← HNb.out, List.getD_eq_getElem?_getD, List.getElem?_eq_getElem hjl]; exact List.getElem_mem _
              have htake : nb.take (j + 1) = nb.take j ++ [q] := by rw [List.take_succ_eq_append_getElem hjl, hq, List.getD_eq_getElem?_getD, List.getElem?_eq_getElem hjl]; rfl
              have HTk := Lib.hid htake
              obtain ⟨i, hin, hiq, hfi⟩ := nbrs_place HV.out hqm
              have hii : i < n := by have := HPl.out; omega
              have HIq := Lib.hid hiq
              have HFi := Lib.hid (idN_some hfi)
              have HQm := Lib.hid ((mem_nbrs HV.out).1 hqm)
              clear hq hqm htake hiq hfi
              obtain ⟨g0, g1, g2, g3, g4, g5, g6⟩ := (HA.out.later HS.out.below).cells
              have j1 : (j : Int) < (m : Int) := by omega
              have j2 : (0 : Int) ≤ (j : Int) := by omega
              by_cases hfull : F2.length = n
              · have HOK := Lib.hid (HF.out.ok HV.out (.inr (by have := HPl.out; omega)))
                have hfe : ((F2.length : Int) == (n : Int)) = true := by simp [hfull]
                have hfe2 : (F2.length == n) = true := by simp [hfull]
                have HFull := Lib.hid hfull
                clear hfull
                go_wp2_with fail
                with_reducible refine (clipI_any (some ⟨g, 0, none⟩) n n wr (Nat.le_refl _) (by unfold maxLen; omega)).mono ?_
                rintro e w9 ⟨rfl, rfl⟩
                go_wp2
                rw [Exit.noGoto_ret]
                go_ret
                exact dis_end HB.out hgW HPl.out HOK.out HS.out
              · have hfe : ((F2.length : Int) == (n : Int)) = false := by simp; omega
                have hfe2 : (F2.length == n) = false := by simpa using hfull
                have HFull := Lib.hid hfull
                clear hfull
                go_wp2_with fail
                have hI := HI.out wr q (HP.out.later HS.out.below)
                rw [HFi.out.1, HFi.out.2] at hI
                have HI2 := Lib.hid hI
                clear hI d0
                with_reducible refine HI2.out.mono ?_
                rintro e w3 ⟨rfl, hb⟩
                have HS3 := Lib.hid (HS.out.later hb)
                have HRo3 := Lib.hid (HRo.out.later hb)
                have hszw := hb.size
                clear hb HI2 g0 g1 g2 g3 g4 g5 g6
                have e1 := HS3.out.own.cell i (by rw [nums_length, HF.out.len]; exact hin)
                rw [nums_getD _ _ _ (by rw [HF.out.len]; exact hin)] at e1
                have e2 := HS3.out.own.cell at' (by rw [nums_length, HF.out.len, HPl.out]; exact hatn)
                rw [nums_getD _ _ _ (by rw [HF.out.len, HPl.out]; exact hatn)] at e2
                have ef := HS3.out.own.frozen i
                obtain ⟨y1, hy1⟩ : ∃ y1, y1 = l2.getD i 0 := ⟨_, rfl⟩
                obtain ⟨y2, hy2⟩ : ∃ y2, y2 = l2.getD at' 0 := ⟨_, rfl⟩
                rw [← hy1] at e1
                rw [← hy2] at e2
                have hsm := HF.out.small HV.out.np at' (by rw [HPl.out]; exact hatn)
                rw [← hy2] at hsm
                have z1 : (i : Int) < (n : Int) := by omega
                have z2 : (0 : Int) ≤ (i : Int) := by omega
                have HY1 := Lib.hid hy1
                have HY2 := Lib.hid hy2
                clear hy1 hy2
                by_cases hold : y1 = -1
                · have hwr : IntKind.i64.wrap (y2 + 1) = y2 + 1 := IntWalk.i64_in _ (by omega)
                  have hst : stepB p.P p.L t i (F2.getD K 0) = true := by
                    rw [HAt.out]
                    unfold stepB
                    rw [HIq.out, ← HX.out, ← HY.out, nearN_comm]
                    simp only [Bool.and_eq_true, Bool.or_eq_true, decide_eq_true_eq]
                    exact ⟨HQm.out, HPASS.out⟩
                  have HNew := Lib.hid (HF.out.new HAsc.out hKF2 hin (by rw [← HY1.out]; exact hold) hst)
                  subst hold
                  clear hst hsm
                  go_upto_region 17 with (fail)
                  have HS4 := Lib.hid (HS3.out.store hgW hgB i (y2 + 1))
                  have HRo4 : Hid (Row .u16 (w3.setCell ⟨g, i, none⟩ (.int .i64 (y2 + 1))) (some ⟨b2, o2, none⟩) m m nb) := Lib.hid (HRo3.out.exc (S := fun k => k = g) ((Exc.refl (fun k => k = g) w3).setCell ⟨g, i, none⟩ (.inl rfl) _) (fun z hz => (HIn.out z hz).1))
                  have HSz : Hid (wr.heap.size ≤ (w3.setCell ⟨g, i, none⟩ (.int .i64 (y2 + 1))).heap.size) := Lib.hid (by simpa [World.setCell] using hszw)
                  generalize w3.setCell ⟨g, i, none⟩ (.int .i64 (y2 + 1)) = w4 at HS4 HRo4 HSz ⊢
                  clear e1 e2 ef HS3 HRo3 HS
                  have hB4 : B ≤ w4.heap.size := Nat.le_trans hBF2 (Nat.le_of_lt (ownBlock_lt HS4.out.row rfl).2)
                  clear hF21 hF22
                  generalize Value.slice (some ⟨bF2, 0, none⟩) F2.length cF2 = v0 at HS4 HIn ⊢
                  go_wp2_with (at_builtin; refine wpList_append_one Tryz.underlying58 info64 (by decide) rfl _ _ rfl B _ _ _ _ rfl (by exact HS4.out.row) rfl (by omega) hB4 ?_)
                  intro v1 w5 h1 h2 gx cx h3
                  have HS5 := Lib.hid (HS4.out.add hWB hgB h1 h2)
                  have HRo5 := Lib.hid (HRo4.out.exc h2.exc (fun z hz => (HIn.out z hz).2.1))
                  have HIn5 : Hid (∀ z, (some ⟨b2, o2, none⟩ : Option Addr) = some z → z.block ≠ g ∧ v1.ownBlock ≠ some z.block ∧ (0 < m → z.block < w5.heap.size)) := Lib.hid (fun z hz => by
                    have q1 := HIn.out z hz
                    have q2 : z.block < w4.heap.size := Nat.lt_of_lt_of_le (q1.2.2 (by omega)) HSz.out
                    have q3 := h2.exc.size
                    refine ⟨q1.1, fun e => ?_, fun _ => by omega⟩
                    rcases h2.lies _ e with e | e
                    · exact q1.2.1 e
                    · omega)
                  have HNew2 := Lib.hid (show Bfs p.P p.L t s (F2 ++ [i]) (l2.set i (y2 + 1)) K (nb.take (j + 1)) by
                    have := HNew.out
                    rw [HAt.out, ← HY2.out, HIq.out, ← HTk.out] at this
                    exact this)
                  clear h1 h2 h3 HS4 HRo4 HIn HNew
                  go_wp2
                  refine ⟨⟨F2 ++ [i], l2.set i (y2 + 1), j + 1, by go_num, by omega, by rw [List.length_append]; omega, by rw [getD_snoc_lt hKF2]; exact HAt.out, HS5.out, HNew2.out, HRo5.out, HIn5.out⟩, by simp [intOf]; omega⟩
                · have hold2 : (y1 == -1) = false := by simpa using hold
                  have HOld := Lib.hid (show Bfs p.P p.L t s F2 l2 K (nb.take (j + 1)) by
                    have := HF.out.old HAsc.out hin (by rw [← HY1.out]; exact hold)
                    rwa [HIq.out, ← HTk.out] at this)
                  have HIn3 : Hid (∀ z, (some ⟨b2, o2, none⟩ : Option Addr) = some z → z.block ≠ g ∧ Value.ownBlock (.slice (some ⟨bF2, 0, none⟩) F2.length cF2) ≠ some z.block ∧ (0 < m → z.block < w3.heap.size)) := Lib.hid (fun z hz => by
                    have q1 := HIn.out z hz
                    exact ⟨q1.1, q1.2.1, fun h0 => Nat.lt_of_lt_of_le (q1.2.2 h0) hszw⟩)
                  clear hold hsm
                  go_wp2
                  refine ⟨⟨F2, l2, j + 1, by go_num, by omega, hKF2, HAt.out, HS3.out, HOld.out, HRo3.out, HIn3.out⟩, by simp [intOf]; omega⟩
            · have hje : j = m := by omega
              have HNext := Lib.hid (HF.out.next hKF2 (fun i hi hst => by
                rw [hje, HM.out, List.take_length, HNb.out, mem_nbrs HV.out, HX.out, ← HAt.out, nearN_comm]
                unfold stepB at hst
                simp only [Bool.and_eq_true, decide_eq_true_eq] at hst
                exact hst.1))
              have jn : ¬ (j : Int) < (m : Int) := by omega
              clear hje
              go_wp2
              exact ⟨⟨F2, l2, K + 1, by go_num, by omega, HS.out, HNext.out⟩, by simp [intOf]; omega⟩
        · have hyt : y = true := by
            rcases HPASS.out with h | h
            · exact h
            · exfalso
              exact hs0 (HAsc.out.inj (by have := HPl.out; omega) HSt.out.1 (by rw [← HX.out, h]; exact HSt.out.2.symm))
          have hse : ((at' : Int) != (s : Int)) = true := by simp; omega
          have HS0 := Lib.hid hs0
          clear hs0
          subst hyt
          go_wp2_with fail
          obtain ⟨nb, hnb⟩ : ∃ nb, nb = nbrs p x := ⟨_, rfl⟩
          obtain ⟨m, hm⟩ : ∃ m, m = nb.length := ⟨_, rfl⟩
          have hbx := World.block_lt_of_cell? wr _ c0
          have hbw := World.block_lt_of_cell? wr _ g0
          have HNc := Lib.hid ((HN.out wr.drew x (HL.out.later (HS.out.below.trans ((below_draw wr 1).mono HS.out.below.size)))).mono (R' := fun e w' => (∃ a2, e = .returned (.slice a2 m m) ∧ Row .u16 w' a2 m m nb ∧ (∀ z, a2 = some z → wr.heap.size ≤ z.block)) ∧ Below wr.heap.size wr w' ∧ w'.cell? ⟨w.heap.size, 0, none⟩ = some (.slice (some ⟨b, off, none⟩) n c) ∧ w'.cell? ⟨w.heap.size, 1, none⟩ = some (.slice a' n' c') ∧ w'.cell? ⟨w.heap.size, 2, none⟩ = some (.int .i64 p.rate) ∧ w'.cell? ⟨w.heap.size, 3, none⟩ = some (.int .i64 p.room) ∧ w'.cell? ⟨w.heap.size, 4, none⟩ = some (.int .i64 p.m0) ∧ w'.cell? ⟨w.heap.size, 5, none⟩ = some (.int .i64 p.m1) ∧ w'.cell? ⟨w.heap.size, 6, none⟩ = some (.int .i64 p.m2) ∧ w'.cell? ⟨b, off + at' * 2, none⟩ = some (.int .u16 x)) fun e w' h => by
            obtain ⟨a2, h1, h2, h3, h4⟩ := h
            have hb9 : Below wr.heap.size wr w' := (below_draw wr 1).trans h3
            rw [← hnb, ← hm] at h1 h2
            exact ⟨⟨a2, h1, h2, h4⟩, hb9, (hb9.cell (p := ⟨w.heap.size, 0, none⟩) hbw).trans g0, (hb9.cell (p := ⟨w.heap.size, 1, none⟩) hbw).trans g1, (hb9.cell (p := ⟨w.heap.size, 2, none⟩) hbw).trans g2, (hb9.cell (p := ⟨w.heap.size, 3, none⟩) hbw).trans g3, (hb9.cell (p := ⟨w.heap.size, 4, none⟩) hbw).trans g4, (hb9.cell (p := ⟨w.heap.size, 5, none⟩) hbw).trans g5, (hb9.cell (p := ⟨w.heap.size, 6, none⟩) hbw).trans g6, (hb9.cell (p := ⟨b, off + at' * 2, none⟩) hbx).trans c0⟩)
          have hmb : m ≤ 1024 := by have := nbrs_none p x; have := HV.out.nl; rw [hm, hnb]; omega
          have HNb := Lib.hid hnb
          have HM := Lib.hid hm
          clear hnb hm
          go_region_held3 (fun W' => W'.cell? ⟨w.heap.size, 0, none⟩ = some (.slice (some ⟨b, off, none⟩) n c) ∧ W'.cell? ⟨w.heap.size, 1, none⟩ = some (.slice a' n' c') ∧ W'.cell? ⟨w.heap.size, 2, none⟩ = some (.int .i64 p.rate) ∧ W'.cell? ⟨w.heap.size, 3, none⟩ = some (.int .i64 p.room) ∧ W'.cell? ⟨w.heap.size, 4, none⟩ = some (.int .i64 p.m0) ∧ W'.cell? ⟨w.heap.size, 5, none⟩ = some (.int .i64 p.m1) ∧ W'.cell? ⟨w.heap.size, 6, none⟩ = some (.int .i64 p.m2) ∧ W'.cell? ⟨b, off + at' * 2, none⟩ = some (.int .u16 x)) (first | go_keep | assumption)
            (first
              | (go_at_call 59; ((with_reducible refine HNc.out.mono ?_); rintro e w1 ⟨⟨a2, rfl, hr, hfr⟩, hb1, s0, s1, s2, s3, s4, s5, s6, s7⟩); have HB1 := Lib.hid hb1; have HR1 := Lib.hid hr; have HFr := Lib.hid hfr; clear hb1 hr hfr)
              | fail)
          clear s0 s1 s2 s3 s4 s5 s6 s7 g0 g1 g2 g3 g4 g5 g6 c0 c1 hcell
          have HS1 := Lib.hid (HS.out.later HB1.out)
          have HInR : Hid (∀ z, a2 = some z → z.block ≠ g ∧ Value.ownBlock (.slice (some ⟨bF, 0, none⟩) F.length cF) ≠ some z.block ∧ (0 < m → z.block < w1.heap.size)) := Lib.hid (fun z hz => by
            have h1 := HFr.out z hz
            have h2 := HS.out.own.lt
            refine ⟨by omega, fun e => ?_, fun hm0 => ?_⟩
            · have := (ownBlock_lt HS.out.row e).2; omega
            · rcases HR1.out.cells with h0 | ⟨b9, o9, e9, hc9⟩
              · omega
              · have := World.block_lt_of_cell? w1 _ (hc9 0 hm0)
                rw [e9] at hz; cases hz; exact this)
          go_wp2_with fail
          go_loopw [8, 62] (fun v jv wr2 => ∃ (F : List Nat) (l : List Int) (j : Nat), jv = .int .i64 j ∧ j ≤ m ∧ K < F.length ∧ F.getD K 0 = at' ∧ SrAt W B g v F l wr2 ∧ Bfs p.P p.L t s F l K (nb.take j) ∧ Row .u16 wr2 a2 m m nb ∧ (∀ z, a2 = some z → z.block ≠ g ∧ v.ownBlock ≠ some z.block ∧ (0 < m → z.block < wr2.heap.size))) (fun _ jv _ => m - (intOf jv).toNat)
          case atStart => exact ⟨F, l, 0, rfl, Nat.zero_le _, hKF, HAt.out.symm, HS1.out, by rw [List.take_zero]; exact HF.out, HR1.out, HInR.out⟩
          case round =>
            clear HS HF HS1 HInR HR1 HFr HB1 HNc HAt
            obtain ⟨F2, l2, j, rfl, hj, hKF2, hat2, hsr, hbf, hrow, hin⟩ := hrel
            have HS := Lib.hid hsr
            have HF := Lib.hid hbf
            have HRo := Lib.hid hrow
            have HIn := Lib.hid hin
            have HAt := Lib.hid hat2
            have hFn2 : F2.length ≤ n := by have := hbf.count; have := HPl.out; omega
            clear hsr hbf hrow hin hat2
            obtain ⟨bF2, cF2, rfl, hF21, hF22, hcell, hBF2⟩ := row_cell HS.out.row (toF_length F2) hKF2
            clear hcell
            by_cases hjm : j < m
            · obtain ⟨b2, o2, rfl, hc2⟩ := HRo.out.cells.resolve_left (by omega)
              have d0 := hc2 j hjm
              clear hc2
              obtain ⟨q, hq⟩ : ∃ q, q = nb.getD j 0 := ⟨_, rfl⟩
              rw [← hq] at d0
              have hjl : j < nb.length := by rw [← HM.out]; exact hjm
              have hqm : q ∈ nbrs p x := by rw [hq, ← HNb.out, List.getD_eq_getElem?_getD, List.getElem?_eq_getElem hjl]; exact List.getElem_mem _
              have htake : nb.take (j + 1) = nb.take j ++ [q] := by rw [List.take_succ_eq_append_getElem hjl, hq, List.getD_eq_getElem?_getD, List.getElem?_eq_getElem hjl]; rfl
              have HTk := Lib.hid htake
              obtain ⟨i, hin, hiq, hfi⟩ := nbrs_place HV.out hqm
              have hii : i < n := by have := HPl.out; omega
              have HIq := Lib.hid hiq
              have HFi := Lib.hid (idN_some hfi)
              have HQm := Lib.hid ((mem_nbrs HV.out).1 hqm)
              clear hq hqm htake hiq hfi
              obtain ⟨g0, g1, g2, g3, g4, g5, g6⟩ := (HA.out.later HS.out.below).cells
              have j1 : (j : Int) < (m : Int) := by omega
              have j2 : (0 : Int) ≤ (j : Int) := by omega
              by_cases hfull : F2.length = n
              · have HOK := Lib.hid (HF.out.ok HV.out (.inr (by have := HPl.out; omega)))
                have hfe : ((F2.length : Int) == (n : Int)) = true := by simp [hfull]
                have hfe2 : (F2.length == n) = true := by simp [hfull]
                have HFull := Lib.hid hfull
                clear hfull
                go_wp2_with fail
                with_reducible refine (clipI_any (some ⟨g, 0, none⟩) n n wr (Nat.le_refl _) (by unfold maxLen; omega)).mono ?_
                rintro e w9 ⟨rfl, rfl⟩
                go_wp2
                rw [Exit.noGoto_ret]
                go_ret
                exact dis_end HB.out hgW HPl.out HOK.out HS.out
              · have hfe : ((F2.length : Int) == (n : Int)) = false := by simp; omega
                have hfe2 : (F2.length == n) = false := by simpa using hfull
                have HFull := Lib.hid hfull
                clear hfull
                go_wp2_with fail
                have hI := HI.out wr q (HP.out.later HS.out.below)
                rw [HFi.out.1, HFi.out.2] at hI
                have HI2 := Lib.hid hI
                clear hI d0
                with_reducible refine HI2.out.mono ?_
                rintro e w3 ⟨rfl, hb⟩
                have HS3 := Lib.hid (HS.out.later hb)
                have HRo3 := Lib.hid (HRo.out.later hb)
                have hszw := hb.size
                clear hb HI2 g0 g1 g2 g3 g4 g5 g6
                have e1 := HS3.out.own.cell i (by rw [nums_length, HF.out.len]; exact hin)
                rw [nums_getD _ _ _ (by rw [HF.out.len]; exact hin)] at e1
                have e2 := HS3.out.own.cell at' (by rw [nums_length, HF.out.len, HPl.out]; exact hatn)
                rw [nums_getD _ _ _ (by rw [HF.out.len, HPl.out]; exact hatn)] at e2
                have ef := HS3.out.own.frozen i
                obtain ⟨y1, hy1⟩ : ∃ y1, y1 = l2.getD i 0 := ⟨_, rfl⟩
                obtain ⟨y2, hy2⟩ : ∃ y2, y2 = l2.getD at' 0 := ⟨_, rfl⟩
                rw [← hy1] at e1
                rw [← hy2] at e2
                have hsm := HF.out.small HV.out.np at' (by rw [HPl.out]; exact hatn)
                rw [← hy2] at hsm
                have z1 : (i : Int) < (n : Int) := by omega
                have z2 : (0 : Int) ≤ (i : Int) := by omega
                have HY1 := Lib.hid hy1
                have HY2 := Lib.hid hy2
                clear hy1 hy2
                by_cases hold : y1 = -1
                · have hwr : IntKind.i64.wrap (y2 + 1) = y2 + 1 := IntWalk.i64_in _ (by omega)
                  have hst : stepB p.P p.L t i (F2.getD K 0) = true := by
                    rw [HAt.out]
                    unfold stepB
                    rw [HIq.out, ← HX.out, ← HY.out, nearN_comm]
                    simp only [Bool.and_eq_true, Bool.or_eq_true, decide_eq_true_eq]
                    exact ⟨HQm.out, HPASS.out⟩
                  have HNew := Lib.hid (HF.out.new HAsc.out hKF2 hin (by rw [← HY1.out]; exact hold) hst)
                  subst hold
                  clear hst hsm
                  go_upto_region 17 with (fail)
                  have HS4 := Lib.hid (HS3.out.store hgW hgB i (y2 + 1))
                  have HRo4 : Hid (Row .u16 (w3.setCell ⟨g, i, none⟩ (.int .i64 (y2 + 1))) (some ⟨b2, o2, none⟩) m m nb) := Lib.hid (HRo3.out.exc (S := fun k => k = g) ((Exc.refl (fun k => k = g) w3).setCell ⟨g, i, none⟩ (.inl rfl) _) (fun z hz => (HIn.out z hz).1))
                  have HSz : Hid (wr.heap.size ≤ (w3.setCell ⟨g, i, none⟩ (.int .i64 (y2 + 1))).heap.size) := Lib.hid (by simpa [World.setCell] using hszw)
                  generalize w3.setCell ⟨g, i, none⟩ (.int .i64 (y2 + 1)) = w4 at HS4 HRo4 HSz ⊢
                  clear e1 e2 ef HS3 HRo3 HS
                  have hB4 : B ≤ w4.heap.size := Nat.le_trans hBF2 (Nat.le_of_lt (ownBlock_lt HS4.out.row rfl).2)
                  clear hF21 hF22
                  generalize Value.slice (some ⟨bF2, 0, none⟩) F2.length cF2 = v0 at HS4 HIn ⊢
                  go_wp2_with (at_builtin; refine wpList_append_one Tryz.underlying58 info64 (by decide) rfl _ _ rfl B _ _ _ _ rfl (by exact HS4.out.row) rfl (by omega) hB4 ?_)
                  intro v1 w5 h1 h2 gx cx h3
                  have HS5 := Lib.hid (HS4.out.add hWB hgB h1 h2)
                  have HRo5 := Lib.hid (HRo4.out.exc h2.exc (fun z hz => (HIn.out z hz).2.1))
                  have HIn5 : Hid (∀ z, (some ⟨b2, o2, none⟩ : Option Addr) = some z → z.block ≠ g ∧ v1.ownBlock ≠ some z.block ∧ (0 < m → z.block < w5.heap.size)) := Lib.hid (fun z hz => by
                    have q1 := HIn.out z hz
                    have q2 : z.block < w4.heap.size := Nat.lt_of_lt_of_le (q1.2.2 (by omega)) HSz.out
                    have q3 := h2.exc.size
                    refine ⟨q1.1, fun e => ?_, fun _ => by omega⟩
                    rcases h2.lies _ e with e | e
                    · exact q1.2.1 e
                    · omega)
                  have HNew2 := Lib.hid (show Bfs p.P p.L t s (F2 ++ [i]) (l2.set i (y2 + 1)) K (nb.take (j + 1)) by
                    have := HNew.out
                    rw [HAt.out, ← HY2.out, HIq.out, ← HTk.out] at this
                    exact this)
                  clear h1 h2 h3 HS4 HRo4 HIn HNew
                  go_wp2
                  refine ⟨⟨F2 ++ [i], l2.set i (y2 + 1), j + 1, by go_num, by omega, by rw [List.length_append]; omega, by rw [getD_snoc_lt hKF2]; exact HAt.out, HS5.out, HNew2.out, HRo5.out, HIn5.out⟩, by simp [intOf]; omega⟩
                · have hold2 : (y1 == -1) = false := by simpa using hold
                  have HOld := Lib.hid (show Bfs p.P p.L t s F2 l2 K (nb.take (j + 1)) by
                    have := HF.out.old HAsc.out hin (by rw [← HY1.out]; exact hold)
                    rwa [HIq.out, ← HTk.out] at this)
                  have HIn3 : Hid (∀ z, (some ⟨b2, o2, none⟩ : Option Addr) = some z → z.block ≠ g ∧ Value.ownBlock (.slice (some ⟨bF2, 0, none⟩) F2.length cF2) ≠ some z.block ∧ (0 < m → z.block < w3.heap.size)) := Lib.hid (fun z hz => by
                    have q1 := HIn.out z hz
                    exact ⟨q1.1, q1.2.1, fun h0 => Nat.lt_of_lt_of_le (q1.2.2 h0) hszw⟩)
                  clear hold hsm
                  go_wp2
                  refine ⟨⟨F2, l2, j + 1, by go_num, by omega, hKF2, HAt.out, HS3.out, HOld.out, HRo3.out, HIn3.out⟩, by simp [intOf]; omega⟩
            · have hje : j = m := by omega
              have HNext := Lib.hid (HF.out.next hKF2 (fun i hi hst => by
                rw [hje, HM.out, List.take_length, HNb.out, mem_nbrs HV.out, HX.out, ← HAt.out, nearN_comm]
                unfold stepB at hst
                simp only [Bool.and_eq_true, decide_eq_true_eq] at hst
                exact hst.1))
              have jn : ¬ (j : Int) < (m : Int) := by omega
              clear hje
              go_wp2
              exact ⟨⟨F2, l2, K + 1, by go_num, by omega, HS.out, HNext.out⟩, by simp [intOf]; omega⟩
    · have hKe : K = F.length := by omega
      have HOK := Lib.hid (HF.out.ok HV.out (.inl (by omega)))
      obtain ⟨aF, cF, rfl⟩ := row_len HS.out.row
      have hni : ¬ (K : Int) < (F.length : Int) := by omega
      have hnn : ¬ K < F.length := hKF
      clear hKe
      go_wp2_with fail
      with_reducible refine (clipI_any (some ⟨g, 0, none⟩) n n wr (Nat.le_refl _) (by unfold maxLen; omega)).mono ?_
      rintro e w9 ⟨rfl, rfl⟩
      go_wp2
      rw [Exit.noGoto_ret]
      go_ret
      exact dis_end HB.out hgW HPl.out HOK.out HS.out
end Go.Proofs.YthlckipcgogogaaGreatDoor
