import Derived.Test.YthlckipcgogogaaGreatDoorPcWriteB
import Derived.Test.YthlckipcgogogaaGreatDoorPrMath
/- Write of a valid plan, its text said exactly. -/
namespace Go.Proofs.YthlckipcgogogaaGreatDoor
set_option linter.unusedVariables false
open Go.RowKit Go.Lib

def WtOut (p : Pn) (w : World) (e : Ending) (w' : World) : Prop := e = .returned (.tuple #[.string (bs (partText p 4)), .int .i64 0]) ∧ Below w.heap.size w w'
theorem bs_toList (l : List UInt8) : (bs l).data.toList = l := by simp [bs]
theorem place_text {p : Pn} {k um : Nat} {u : Int} {t : Bool} {K : ByteArray} (hk : k < p.P.length) (hu : u = pc p.P k) (ht : t = pt p.P k) (hum : u = (um : Int)) (hK : K.data.toList = if t then transferW else endW) :
    (p.P.take k).flatMap plText ++ lineL ([placeB, bs (pcL um), K].map (·.data.toList)) = (p.P.take (k + 1)).flatMap plText := by
  rw [List.take_succ_eq_append_getElem hk, List.flatMap_append]
  congr 1
  have e1 : p.P[k].1 = (um : Int) := by rw [← hum, hu]; simp [pc, List.getD_eq_getElem?_getD, hk]
  have e2 : p.P[k].2 = t := by rw [ht]; simp [pt, List.getD_eq_getElem?_getD, hk]
  simp only [List.flatMap_cons, List.flatMap_nil, List.append_nil, plText, e1, e2, List.map_cons, List.map_nil, hK, bs_toList, Int.toNat_natCast]
  unfold lineL
  rw [join3]
  simp [unw, placeB, placeW]
theorem line_text {p : Pn} {j : Nat} {Am Bm Cm Dm : Nat} {M : List UInt8} (hj : j < p.L.length) (hx : (⟨(Am : Int), (Bm : Int), (Cm : Int), (Dm : Int)⟩ : Ln) = lnAt p.L j) :
    (M ++ (p.L.take j).flatMap lnText) ++ lineL ([lineB, bs (pcL Am), bs (pcL Bm), bs (numL Cm), bs (numL Dm)].map (·.data.toList)) = M ++ (p.L.take (j + 1)).flatMap lnText := by
  rw [List.take_succ_eq_append_getElem hj, List.flatMap_append, List.append_assoc]
  congr 2
  have e1 : p.L[j] = ⟨(Am : Int), (Bm : Int), (Cm : Int), (Dm : Int)⟩ := by rw [hx]; simp [lnAt, List.getD_eq_getElem?_getD, hj]
  simp only [List.flatMap_cons, List.flatMap_nil, List.append_nil, lnText, e1, List.map_cons, List.map_nil, bs_toList, Int.toNat_natCast]
  unfold lineL
  rw [join5]
  simp [unw, lineB, lineW]
theorem end_text {p : Pn} {j : Nat} {l2 : List UInt8} {Ra Ro M0 M1 M2 : Nat} (hl : l2 = p.P.flatMap plText ++ (p.L.take j).flatMap lnText) (hj : p.L.length ≤ j) (h1 : p.rate = (Ra : Int)) (h2 : p.room = (Ro : Int)) (h3 : p.m0 = (M0 : Int)) (h4 : p.m1 = (M1 : Int)) (h5 : p.m2 = (M2 : Int)) :
    partText p 4 = ((l2 ++ lineL ([rateB, bs (numL Ra)].map (·.data.toList))) ++ lineL ([roomB, bs (numL Ro)].map (·.data.toList))) ++ lineL ([marksB, bs (numL M0), bs (numL M1), bs (numL M2)].map (·.data.toList)) := by
  rw [List.take_of_length_le hj] at hl
  subst hl
  unfold partText
  rw [if_pos (by decide), if_pos (by decide), if_pos (by decide), h1, h2, h3, h4, h5]
  simp only [List.map_cons, List.map_nil, bs_toList, Int.toNat_natCast]
  unfold lineL
  rw [join2, join2, join4]
  simp [unw, rateB, rateW, roomB, roomW, marksB, marksW]
set_option maxRecDepth 20000 in
set_option maxHeartbeats 4000000 in
theorem write_text (p : Pn) (a : Option Addr) (n c : Nat) (a' : Option Addr) (n' c' : Nat) (w : World) (hP : PRow w a n c p.P) (hL : LRow w a' n' c' p.L) (hv : ValidPl p) (hp : PowOk w) :
    Calls Tryz.prog 7 #[planV a n c a' n' c' p] w (WtOut p w) := by
  obtain ⟨W, hW⟩ : ∃ W, W = w.alloc (.cells (planCells a n c a' n' c' p).toArray 31) := ⟨_, rfl⟩
  have hB : Below w.heap.size w W := by rw [hW]; exact below_alloc _ _
  have hA : PlanAt W w.heap.size a n c a' n' c' p := by rw [hW]; exact PlanAt.new _ _ _ _ _ _ _ _
  have hC := fun (W : World) (h : PRow W a n c p.P) (h' : LRow W a' n' c' p.L) => ccheck_any p a n c a' n' c' W h h'
  rw [show chkPl p = 0 from chkPl_zero.2 hv] at hC
  unfold planV at hC ⊢
  have HC := Lib.hid hC
  have HB := Lib.hid hB
  have HA := Lib.hid hA
  have HP := Lib.hid (hP.later hB)
  have HL := Lib.hid (hL.later hB)
  have HPo := Lib.hid (hp.later hB)
  have HV := Lib.hid hv
  have hlt := hA.lt
  obtain ⟨g0, g1, g2, g3, g4, g5, g6⟩ := hA.cells
  clear hC hB hA hP hL hp hv
  go_enter Tryz.func7, Tryz.ntmps7
  go_upto_region 1 with (fail)
  show Code.wp _ _ _ _ (w.alloc (.cells (planCells a n c a' n' c' p).toArray 31))
  rw [← hW]
  clear hW
  go_wp2_with fail
  with_reducible refine (HC.out _ HP.out HL.out).mono ?_
  rintro e w1 ⟨rfl, hb⟩
  have HA1 := Lib.hid (HA.out.later hb)
  have HP1 := Lib.hid (HP.out.later hb)
  have HL1 := Lib.hid (HL.out.later hb)
  have HPo1 := Lib.hid (HPo.out.later hb)
  have HB1 := Lib.hid (HB.out.trans (hb.mono HB.out.size))
  have hlt1 : w.heap.size < w1.heap.size := Nat.lt_of_lt_of_le hlt hb.size
  clear hb g0 g1 g2 g3 g4 g5 g6
  obtain ⟨B, hBz⟩ : ∃ B, B = w1.heap.size := ⟨_, rfl⟩
  obtain ⟨w2, hw2⟩ : ∃ w2, w2 = w1.alloc (.cells #[.pointer none, .slice none 0 0] 82) := ⟨_, rfl⟩
  have hI : IsBK B B [] w2 := by
    rw [hw2, hBz]
    refine .inl ⟨Nat.le_refl _, .slice none 0 0, heap_alloc_new w1 _, ?_, by simp [Value.ownBlock]⟩
    exact World.ownsRowF_nil _ _ _ _
  have hb2 : Below w1.heap.size w1 w2 := by rw [hw2]; exact below_alloc _ _
  have HI := Lib.hid hI
  have HB2 := Lib.hid hb2
  have HBz := Lib.hid hBz
  obtain ⟨g0, g1, g2, g3, g4, g5, g6⟩ := (HA1.out.later hb2).cells
  have hBs : B < w2.heap.size := by rw [hw2, hBz]; simp
  go_upto_region 6 with (fail)
  rw [← hw2, ← hBz]
  clear hI hb2 hw2 hBz
  have hcap := HP1.out.le
  have hmx := HP1.out.max
  unfold maxLen at hmx
  go_wp2_with fail
  clear g0 g1 g2 g3 g4 g5 g6
  go_loopw [20] (fun iv wr => ∃ (k : Nat) (l : List UInt8), k ≤ n ∧ iv = .int .i64 k ∧ (l.length ≤ 10001 * k ∧ l = (p.P.take k).flatMap plText) ∧ IsBK B B l wr ∧ Below B w2 wr) (fun iv _ => n - (RowKit.intOf iv).toNat)
  case atStart => exact ⟨0, [], Nat.zero_le _, rfl, ⟨by simp, by simp⟩, HI.out, Below.refl _ _⟩
  case round =>
    obtain ⟨k, l, hk, rfl, ⟨hll, hlt1e⟩, hI, hb⟩ := hrel
    have HLe := Lib.hid hlt1e
    clear hlt1e
    by_cases hkn : k < n
    · have HIr := Lib.hid hI
      have HBr := Lib.hid hb
      have hBW : Below w1.heap.size w1 wr := HB2.out.trans (hb.mono (by rw [HBz.out]; exact Nat.le_refl _))
      have HPr := Lib.hid (HP1.out.later hBW)
      have HPor := Lib.hid (HPo1.out.later hBW)
      have hltI := isBK_lt hI
      clear hI hb hBW
      obtain ⟨bp, off, rfl, hcs⟩ := HPr.out.cells.resolve_left (by omega)
      obtain ⟨v1, v2⟩ := hcs k hkn
      have hul : pc p.P k ≤ 16383 := by
        have h9 := HV.out.pl k (by rw [HPr.out.len]; exact hkn)
        unfold okPl at h9
        simp only [Bool.and_eq_true, decide_eq_true_eq] at h9
        exact h9.1
      have hn64 : n ≤ 64 := by have h9 := HV.out.np; rw [HPr.out.len] at h9; exact h9
      have hu0 : 0 ≤ pc p.P k := (prow_wfB HPr.out hkn).1
      obtain ⟨u, hu⟩ : ∃ u, u = pc p.P k := ⟨_, rfl⟩
      obtain ⟨t, ht⟩ : ∃ t, t = pt p.P k := ⟨_, rfl⟩
      rw [← hu] at hul hu0
      rw [← hu] at v1
      rw [← ht] at v2
      clear hcs
      have d1 : (k : Int) < n := by omega
      have d2 : (0 : Int) ≤ k := by omega
      go_upto_region 9 with (fail)
      rw [← hu, ← ht]
      obtain ⟨W0, hW0⟩ : ∃ W0, W0 = wr.alloc (.cells #[.int .u16 u, .bool t] 72) := ⟨_, rfl⟩
      obtain ⟨b0, hb0⟩ : ∃ b0, b0 = wr.heap.size := ⟨_, rfl⟩
      have hbW : Below wr.heap.size wr W0 := by rw [hW0]; exact below_alloc _ _
      have ho0 : Own W0 b0 72 [.int .u16 u, .bool t] := by rw [hW0, hb0]; exact heap_alloc_new wr _
      have c0 : W0.cell? ⟨b0, 0, none⟩ = some (.int .u16 u) := ho0.cell 0 (by simp)
      have c1 : W0.cell? ⟨b0, 1, none⟩ = some (.bool t) := ho0.cell 1 (by simp)
      rw [← hW0, ← hb0]
      obtain ⟨um, hum⟩ : ∃ um : Nat, u = (um : Int) := ⟨u.toNat, by omega⟩
      have humx : um ≤ 16383 := by omega
      have hI0 := isBK_below HIr.out hbW hltI.2
      have HB0 := Lib.hid ((HBr.out).trans (hbW.mono (Nat.le_of_lt (Nat.lt_of_le_of_lt hltI.1 hltI.2))))
      have hPo0 := HPor.out.later hbW
      have hBW0 : B ≤ W0.heap.size := Nat.le_of_lt (Nat.lt_of_lt_of_le hltI.2 hbW.size)
      have HT := Lib.hid (fun (X : World) (hX : Below W0.heap.size W0 X) => text_any um X humx (hPo0.later hX))
      have HL := Lib.hid (fun (X : World) (hX : Below W0.heap.size W0 X) (K : ByteArray) (hK : K.size ≤ 8) => place_line B B l (bs (pcL um)) K X (isBK_below hI0 hX (isBK_lt hI0).2) (Nat.le_trans hBW0 hX.size) (by simpa [bs, ByteArray.size] using pcL_len um) hK (by omega))
      obtain ⟨K, hK⟩ : ∃ K : ByteArray, K = if t then ⟨#[116, 114, 97, 110, 115, 102, 101, 114]⟩ else ⟨#[101, 110, 100]⟩ := ⟨_, rfl⟩
      have hKs : K.size ≤ 8 := by rw [hK]; cases t <;> decide
      have HKe : Hid (K.data.toList = if t then transferW else endW) := Lib.hid (by rw [hK]; cases t <;> rfl)
      have HUt := Lib.hid (And.intro hu (And.intro ht hum))
      have HK := Lib.hid (fun X => kind_any t X)
      rw [← hK] at HK
      rw [hum] at c0 ⊢
      have HC01 := Lib.hid (And.intro c0 c1)
      have HD := Lib.hid (show Below W0.heap.size W0 W0.drew from below_draw W0 1)
      have HH0 := Lib.hid (show W0.heap[b0]? = some (.cells #[.int .u16 (um : Int), .bool t] 72 (0, 0)) by rw [← hum]; exact ho0)
      have hneB : b0 ≠ B := by omega
      clear hK hI0 hPo0 ho0 hbW hW0 v1 v2 hum hu ht hb0 hul hu0
      go_region_held3 (fun W' => W'.cell? ⟨b0, 0, none⟩ = some (.int .u16 (um : Int)) ∧ W'.cell? ⟨b0, 1, none⟩ = some (.bool t)) (first | exact HC01.out | (go_keep; done))
        (first
          | ((with_reducible refine (HT.out _ HD.out).mono ?_); rintro e w5 ⟨rfl, hb⟩; have HX := Lib.hid (HD.out.trans (hb.mono HD.out.size)); have HC01 := Lib.hid (two_cells (at_below HH0.out HX.out)); clear hb)
          | ((with_reducible refine (HK.out _).mono ?_); rintro e w6 ⟨rfl, rfl⟩)
          | ((with_reducible refine (HL.out _ HX.out K hKs).mono ?_); rintro e w7 ⟨rfl, hI7, hb7, hk7⟩; have HI7 := Lib.hid hI7; have HB7 := Lib.hid hb7; have HC01 := Lib.hid (two_cells (at_kept (at_below HH0.out HX.out) hk7 hneB (by decide))); clear hI7 hb7 hk7)
          | fail)
      all_goals
        have wk : IntKind.i64.wrap ((k : Int) + 1) = (k : Int) + 1 := IntWalk.i64_in _ (by omega)
        have HE := Lib.hid (show ∃ (k' : Nat) (l' : List UInt8), k' ≤ n ∧ Value.int .i64 ((k : Int) + 1) = .int .i64 (k' : Int) ∧ (l'.length ≤ 10001 * k' ∧ l' = (p.P.take k').flatMap plText) ∧ IsBK B B l' w7 ∧ Below B w2 w7 from
          ⟨k + 1, l ++ lineL ([placeB, bs (pcL um), K].map (·.data.toList)), by omega, rfl, ⟨by
            have h9 := place_len (bs (pcL um)) K (by simpa [bs, ByteArray.size] using pcL_len um) hKs
            unfold lineL
            simp only [List.length_append, List.length_cons, List.length_nil]
            omega, by rw [HLe.out]; exact place_text (by rw [HPr.out.len]; exact hkn) HUt.out.1 HUt.out.2.1 HUt.out.2.2 HKe.out⟩, HI7.out, HB0.out.trans ((HX.out.mono hBW0).trans HB7.out)⟩)
        go_wp2
        exact ⟨HE.out, by simp [RowKit.intOf]; omega⟩
    · obtain rfl : k = n := by omega
      obtain ⟨V1, rfl⟩ : ∃ V1, V1 = wr := ⟨_, rfl⟩
      have hn64 : k ≤ 64 := by have h9 := HV.out.np; rw [HP1.out.len] at h9; exact h9
      have hcap' := HL1.out.le
      have hmx' := HL1.out.max
      have hn1k : n' ≤ 1024 := by have h9 := HV.out.nl; rw [HL1.out.len] at h9; exact h9
      unfold maxLen at hmx'
      have hBW : Below w1.heap.size w1 V1 := HB2.out.trans (hb.mono (by rw [HBz.out]; exact Nat.le_refl _))
      have HLr := Lib.hid (HL1.out.later hBW)
      have HPor := Lib.hid (HPo1.out.later hBW)
      have HAr := Lib.hid (HA1.out.later hBW)
      have hltI := isBK_lt hI
      have HIr := Lib.hid hI
      have HBr := Lib.hid hb
      obtain ⟨g0, g1, g2, g3, g4, g5, g6⟩ := HAr.out.cells
      have hll64 : l.length ≤ 640064 := by omega
      have HLf : Hid (l = p.P.flatMap plText) := Lib.hid (by rw [HLe.out, List.take_of_length_le (by rw [HP1.out.len]; exact Nat.le_refl _)])
      have HBW1 := Lib.hid hBW
      clear hI hb hBW hll
      go_wp2_with fail
      clear g0 g1 g2 g3 g4 g5 g6
      go_loopw [37] (fun iv wr2 => ∃ (j : Nat) (l2 : List UInt8), j ≤ n' ∧ iv = .int .i64 j ∧ (l2.length ≤ 640064 + 10001 * j ∧ l2 = p.P.flatMap plText ++ (p.L.take j).flatMap lnText) ∧ IsBK B B l2 wr2 ∧ Below B V1 wr2) (fun iv _ => n' - (RowKit.intOf iv).toNat)
      case atStart => exact ⟨0, l, Nat.zero_le _, rfl, ⟨by omega, by rw [HLf.out]; simp⟩, HIr.out, Below.refl _ _⟩
      case round =>
        obtain ⟨j, l2, hj, rfl, ⟨hll2, hl2e⟩, hI, hb⟩ := hrel
        have HLe2 := Lib.hid hl2e
        clear hl2e
        by_cases hjn : j < n'
        · have HI2 := Lib.hid hI
          have HBr2 := Lib.hid hb
          have hBW := HBW1.out.trans (hb.mono (by rw [HBz.out]; exact Nat.le_refl _))
          have HLr2 := Lib.hid (HL1.out.later hBW)
          have HPor2 := Lib.hid (HPo1.out.later hBW)
          have hltI2 := isBK_lt hI
          clear hI hb hBW
          obtain ⟨bl, offl, rfl, hcs⟩ := HLr2.out.cells.resolve_left (by omega)
          obtain ⟨v1, v2, v3, v4⟩ := hcs j hjn
          have hv := valid_ln HV.out (k := j) (by rw [HLr2.out.len]; exact hjn)
          have hw := lrow_wfB HLr2.out hjn
          obtain ⟨x, hx⟩ : ∃ x, x = lnAt p.L j := ⟨_, rfl⟩
          rw [← hx] at v1 v2 v3 v4 hv hw
          have HXe := Lib.hid hx
          clear hcs hx
          obtain ⟨A, Bb, C, D⟩ := x
          simp only at v1 v2 v3 v4 hv hw
          obtain ⟨q1, q2, q3, q4, q5⟩ := hv
          obtain ⟨q6, q7, q8⟩ := hw
          obtain ⟨Am, rfl⟩ : ∃ Am : Nat, A = (Am : Int) := ⟨A.toNat, by omega⟩
          obtain ⟨Bm, rfl⟩ : ∃ Bm : Nat, Bb = (Bm : Int) := ⟨Bb.toNat, by omega⟩
          obtain ⟨Cm, rfl⟩ : ∃ Cm : Nat, C = (Cm : Int) := ⟨C.toNat, by omega⟩
          obtain ⟨Dm, rfl⟩ : ∃ Dm : Nat, D = (Dm : Int) := ⟨D.toNat, by omega⟩
          have d1 : (j : Int) < n' := by omega
          have d2 : (0 : Int) ≤ j := by omega
          go_upto_region 14 with (fail)
          obtain ⟨W0, hW0⟩ : ∃ W0, W0 = wr.alloc (.cells #[.int .u16 (Am : Int), .int .u16 (Bm : Int), .int .u8 (Cm : Int), .int .i64 (Dm : Int)] 76) := ⟨_, rfl⟩
          obtain ⟨b0, hb0⟩ : ∃ b0, b0 = wr.heap.size := ⟨_, rfl⟩
          have hbW : Below wr.heap.size wr W0 := by rw [hW0]; exact below_alloc _ _
          have HH0 := Lib.hid (show W0.heap[b0]? = some (.cells #[.int .u16 (Am : Int), .int .u16 (Bm : Int), .int .u8 (Cm : Int), .int .i64 (Dm : Int)] 76 (0, 0)) by rw [hW0, hb0]; exact heap_alloc_new wr _)
          rw [← hW0, ← hb0]
          have hI0 := isBK_below HI2.out hbW hltI2.2
          have HB0 := Lib.hid ((HBr2.out).trans (hbW.mono (Nat.le_of_lt (Nat.lt_of_le_of_lt hltI2.1 hltI2.2))))
          have hPo0 := HPor2.out.later hbW
          have hBW0 : B ≤ W0.heap.size := Nat.le_of_lt (Nat.lt_of_lt_of_le hltI2.2 hbW.size)
          have HT1 := Lib.hid (fun (X : World) (hX : Below W0.heap.size W0 X) => text_any Am X (by omega) (hPo0.later hX))
          have HT2 := Lib.hid (fun (X : World) (hX : Below W0.heap.size W0 X) => text_any Bm X (by omega) (hPo0.later hX))
          have HT3 := Lib.hid (fun (X : World) (hX : Below W0.heap.size W0 X) => itoa_any Cm X (by omega) (hPo0.later hX))
          have HT4 := Lib.hid (fun (X : World) (hX : Below W0.heap.size W0 X) => itoa_any Dm X (by omega) (hPo0.later hX))
          have HL := Lib.hid (fun (X : World) (hX : Below W0.heap.size W0 X) => line_line B B l2 (bs (pcL Am)) (bs (pcL Bm)) (bs (numL Cm)) (bs (numL Dm)) X (isBK_below hI0 hX (isBK_lt hI0).2) (Nat.le_trans hBW0 hX.size) (bs_pc _) (bs_pc _) (bs_num _) (bs_num _) (by omega))
          have HC01 := Lib.hid (four_cells HH0.out)
          have HD := Lib.hid (show Below W0.heap.size W0 W0.drew from below_draw W0 1)
          have hneB : b0 ≠ B := by omega
          have wC : IntKind.i64.wrap (Cm : Int) = (Cm : Int) := IntWalk.i64_in _ (by omega)
          have c0 := HC01.out.1
          have c1 := HC01.out.2.1
          have c2 := HC01.out.2.2.1
          have c3 := HC01.out.2.2.2
          clear hI0 hPo0 hbW hW0 v1 v2 v3 v4 hb0
          go_region_held3 (fun W' => W'.cell? ⟨b0, 0, none⟩ = some (.int .u16 (Am : Int)) ∧ W'.cell? ⟨b0, 1, none⟩ = some (.int .u16 (Bm : Int)) ∧ W'.cell? ⟨b0, 2, none⟩ = some (.int .u8 (Cm : Int)) ∧ W'.cell? ⟨b0, 3, none⟩ = some (.int .i64 (Dm : Int))) (first | exact HC01.out | (go_keep; done))
            (first
              | ((with_reducible refine (HT1.out _ HD.out).mono ?_); rintro e w3 ⟨rfl, hb⟩; have HX1 := Lib.hid (HD.out.trans (hb.mono HD.out.size)); have HC01 := Lib.hid (four_cells (at_below HH0.out HX1.out)); clear hb)
              | ((with_reducible refine (HT2.out _ HX1.out).mono ?_); rintro e w4 ⟨rfl, hb⟩; have HX2 := Lib.hid (HX1.out.trans (hb.mono HX1.out.size)); have HC01 := Lib.hid (four_cells (at_below HH0.out HX2.out)); clear hb)
              | ((with_reducible refine (HT3.out _ HX2.out).mono ?_); rintro e w5 ⟨rfl, hb⟩; have HX3 := Lib.hid (HX2.out.trans (hb.mono HX2.out.size)); have HC01 := Lib.hid (four_cells (at_below HH0.out HX3.out)); clear hb)
              | ((with_reducible refine (HT4.out _ HX3.out).mono ?_); rintro e w6 ⟨rfl, hb⟩; have HX4 := Lib.hid (HX3.out.trans (hb.mono HX3.out.size)); have HC01 := Lib.hid (four_cells (at_below HH0.out HX4.out)); clear hb)
              | ((with_reducible refine (HL.out _ HX4.out).mono ?_); rintro e w7 ⟨rfl, hI7, hb7, hk7⟩; have HI7 := Lib.hid hI7; have HB7 := Lib.hid hb7; have HC01 := Lib.hid (four_cells (at_kept (at_below HH0.out HX4.out) hk7 hneB (by decide))); clear hI7 hb7 hk7)
              | fail)
          all_goals
            have wk : IntKind.i64.wrap ((j : Int) + 1) = (j : Int) + 1 := IntWalk.i64_in _ (by omega)
            have HE := Lib.hid (show ∃ (k' : Nat) (l' : List UInt8), k' ≤ n' ∧ Value.int .i64 ((j : Int) + 1) = .int .i64 (k' : Int) ∧ (l'.length ≤ 640064 + 10001 * k' ∧ l' = p.P.flatMap plText ++ (p.L.take k').flatMap lnText) ∧ IsBK B B l' w7 ∧ Below B V1 w7 from
              ⟨j + 1, l2 ++ lineL ([lineB, bs (pcL Am), bs (pcL Bm), bs (numL Cm), bs (numL Dm)].map (·.data.toList)), by omega, rfl, ⟨by
                have h9 := line5_len (bs (pcL Am)) (bs (pcL Bm)) (bs (numL Cm)) (bs (numL Dm)) (bs_pc _) (bs_pc _) (bs_num _) (bs_num _)
                unfold lineL
                simp only [List.length_append, List.length_cons, List.length_nil]
                omega, by rw [HLe2.out]; exact line_text (by rw [HLr2.out.len]; exact hjn) HXe.out⟩, HI7.out, HB0.out.trans ((HX4.out.mono hBW0).trans HB7.out)⟩)
            go_wp2
            exact ⟨HE.out, by simp [RowKit.intOf]; omega⟩
        · obtain rfl : j = n' := by omega
          have HBX := Lib.hid (HBW1.out.trans (hb.mono (by rw [HBz.out]; exact Nat.le_refl _)))
          have hBz : B ≤ w1.heap.size := by rw [HBz.out]; exact Nat.le_refl _
          have HI2 := Lib.hid hI
          have hBwr : B ≤ wr.heap.size := Nat.le_of_lt (isBK_lt hI).2
          have hl2 : l2.length ≤ 50000000 := by omega
          obtain ⟨⟨_, r1⟩, ⟨_, r2⟩, ⟨_, r3⟩, ⟨_, r4⟩, ⟨_, r5⟩⟩ := valid_nums HV.out
          obtain ⟨Ra, hRa⟩ : ∃ Ra : Nat, p.rate = (Ra : Int) := ⟨p.rate.toNat, by omega⟩
          obtain ⟨Ro, hRo⟩ : ∃ Ro : Nat, p.room = (Ro : Int) := ⟨p.room.toNat, by omega⟩
          obtain ⟨M0, hM0⟩ : ∃ M0 : Nat, p.m0 = (M0 : Int) := ⟨p.m0.toNat, by omega⟩
          obtain ⟨M1, hM1⟩ : ∃ M1 : Nat, p.m1 = (M1 : Int) := ⟨p.m1.toNat, by omega⟩
          obtain ⟨M2, hM2⟩ : ∃ M2 : Nat, p.m2 = (M2 : Int) := ⟨p.m2.toNat, by omega⟩
          rw [hRa] at r1
          rw [hRo] at r2
          rw [hM0] at r3
          rw [hM1] at r4
          rw [hM2] at r5
          have HG := Lib.hid (fun (X : World) (hX : Below w1.heap.size w1 X) => show X.cell? ⟨w.heap.size, 2, none⟩ = some (.int .i64 (Ra : Int)) ∧ X.cell? ⟨w.heap.size, 3, none⟩ = some (.int .i64 (Ro : Int)) ∧ X.cell? ⟨w.heap.size, 4, none⟩ = some (.int .i64 (M0 : Int)) ∧ X.cell? ⟨w.heap.size, 5, none⟩ = some (.int .i64 (M1 : Int)) ∧ X.cell? ⟨w.heap.size, 6, none⟩ = some (.int .i64 (M2 : Int)) by
            obtain ⟨g0, g1, g2, g3, g4, g5, g6⟩ := (HA1.out.later hX).cells
            rw [hRa] at g2
            rw [hRo] at g3
            rw [hM0] at g4
            rw [hM1] at g5
            rw [hM2] at g6
            exact ⟨g2, g3, g4, g5, g6⟩)
          have HEnd := Lib.hid (end_text HLe2.out (by rw [HL1.out.len]; exact Nat.le_refl _) hRa hRo hM0 hM1 hM2)
          clear hRa hRo hM0 hM1 hM2 hI hb hll2
          obtain ⟨g2, g3, g4, g5, g6⟩ := HG.out _ HBX.out
          go_wp2_with fail
          with_reducible refine (itoa_any Ra _ (by omega) (HPo1.out.later HBX.out)).mono ?_
          rintro e w3 ⟨rfl, hb⟩
          have HB3 := Lib.hid (HBX.out.trans (hb.mono HBX.out.size))
          have hI3 := isBK_below HI2.out hb (isBK_lt HI2.out).2
          have HL3 := Lib.hid (rate_line B B l2 (bs (numL Ra)) w3 hI3 (Nat.le_trans hBz HB3.out.size) (bs_num _) (by omega))
          clear hb hI3 g2 g3 g4 g5 g6
          obtain ⟨g2, g3, g4, g5, g6⟩ := HG.out _ HB3.out
          go_wp2_with fail
          with_reducible refine HL3.out.mono ?_
          rintro e w4 ⟨rfl, hI4, hb, hk4⟩
          have HB4 := Lib.hid (HB3.out.trans (show Below w1.heap.size w3 w4 by rw [← HBz.out]; exact hb))
          have HI4 := Lib.hid hI4
          have hl4 := word_len rateB (bs (numL Ra)) (by decide) (bs_num _)
          clear hb hI4 hk4 g2 g3 g4 g5 g6
          obtain ⟨g2, g3, g4, g5, g6⟩ := HG.out _ HB4.out
          go_wp2_with fail
          with_reducible refine (itoa_any Ro _ (by omega) (HPo1.out.later HB4.out)).mono ?_
          rintro e w5 ⟨rfl, hb⟩
          have HB5 := Lib.hid (HB4.out.trans (hb.mono HB4.out.size))
          have hI5 := isBK_below HI4.out hb (isBK_lt HI4.out).2
          obtain ⟨l4, hl4e⟩ : ∃ l4, l4 = l2 ++ lineL ([rateB, bs (numL Ra)].map (·.data.toList)) := ⟨_, rfl⟩
          have hl4s : l4.length ≤ 50010001 := by rw [hl4e]; unfold lineL; simp only [List.length_append, List.length_cons, List.length_nil]; omega
          rw [← hl4e] at hI5
          have HL4e := Lib.hid hl4e
          have HL5 := Lib.hid (room_line B B l4 (bs (numL Ro)) w5 hI5 (Nat.le_trans hBz HB5.out.size) (bs_num _) (by omega))
          clear hb hI5 hl4e hl4 g2 g3 g4 g5 g6
          obtain ⟨g2, g3, g4, g5, g6⟩ := HG.out _ HB5.out
          go_wp2_with fail
          with_reducible refine HL5.out.mono ?_
          rintro e w6 ⟨rfl, hI6, hb, hk6⟩
          have HB6 := Lib.hid (HB5.out.trans (show Below w1.heap.size w5 w6 by rw [← HBz.out]; exact hb))
          have hl6 := word_len roomB (bs (numL Ro)) (by decide) (bs_num _)
          obtain ⟨l6, hl6e⟩ : ∃ l6, l6 = l4 ++ lineL ([roomB, bs (numL Ro)].map (·.data.toList)) := ⟨_, rfl⟩
          have hl6s : l6.length ≤ 50020002 := by rw [hl6e]; unfold lineL; simp only [List.length_append, List.length_cons, List.length_nil]; omega
          rw [← hl6e] at hI6
          have HL6e := Lib.hid hl6e
          have HI6 := Lib.hid hI6
          clear hb hI6 hk6 hl6 hl6e g2 g3 g4 g5 g6
          obtain ⟨g2, g3, g4, g5, g6⟩ := HG.out _ HB6.out
          have HD := Lib.hid (show Below w6.heap.size w6 w6.drew from below_draw w6 1)
          have HT := Lib.hid (fun (X : World) (hX : Below w6.heap.size w6 X) (M : Nat) (hM : M < 256) => itoa_any M X hM ((HPo1.out.later HB6.out).later hX))
          have HL := Lib.hid (fun (X : World) (hX : Below w6.heap.size w6 X) => marks_line B B l6 (bs (numL M0)) (bs (numL M1)) (bs (numL M2)) X (isBK_below HI6.out hX (isBK_lt HI6.out).2) (Nat.le_trans hBz (Nat.le_trans HB6.out.size hX.size)) (bs_num _) (bs_num _) (bs_num _) (by omega))
          have HC := Lib.hid (fun (X : World) (hX : Below w1.heap.size w1 X) => (HG.out X hX).2.2)
          have HC01 := Lib.hid (HC.out _ HB6.out)
          have HM := Lib.hid (show M0 < 256 ∧ M1 < 256 ∧ M2 < 256 by omega)
          clear g2 g3
          go_wp2_with fail
          go_region_held3 (fun W' => W'.cell? ⟨w.heap.size, 4, none⟩ = some (.int .i64 (M0 : Int)) ∧ W'.cell? ⟨w.heap.size, 5, none⟩ = some (.int .i64 (M1 : Int)) ∧ W'.cell? ⟨w.heap.size, 6, none⟩ = some (.int .i64 (M2 : Int))) (first | exact HC01.out | (go_keep; done))
            (first
              | ((with_reducible refine (HT.out _ HD.out M0 HM.out.1).mono ?_); rintro e w7 ⟨rfl, hb⟩; have HX1 := Lib.hid (HD.out.trans (hb.mono HD.out.size)); have HC01 := Lib.hid (HC.out _ (HB6.out.trans (HX1.out.mono HB6.out.size))); clear hb)
              | ((with_reducible refine (HT.out _ HX1.out M1 HM.out.2.1).mono ?_); rintro e w8 ⟨rfl, hb⟩; have HX2 := Lib.hid (HX1.out.trans (hb.mono HX1.out.size)); have HC01 := Lib.hid (HC.out _ (HB6.out.trans (HX2.out.mono HB6.out.size))); clear hb)
              | ((with_reducible refine (HT.out _ HX2.out M2 HM.out.2.2).mono ?_); rintro e w9 ⟨rfl, hb⟩; have HX3 := Lib.hid (HX2.out.trans (hb.mono HX2.out.size)); have HC01 := Lib.hid (HC.out _ (HB6.out.trans (HX3.out.mono HB6.out.size))); clear hb)
              | ((with_reducible refine (HL.out _ HX3.out).mono ?_); rintro e w10 ⟨rfl, hI10, hb10, hk10⟩; have HI10 := Lib.hid hI10; have HB10 := Lib.hid ((HB6.out.trans (HX3.out.mono HB6.out.size)).trans (show Below w1.heap.size w9 w10 by rw [← HBz.out]; exact hb10)); have HC01 := Lib.hid (HC.out _ HB10.out); clear hI10 hb10 hk10)
              | fail)
          all_goals
            go_wp2_with fail
            with_reducible refine (builder_stringK B B _ w10 HI10.out (Nat.le_trans hBz HB10.out.size)).mono ?_
            rintro e w11 ⟨rfl, hI11, hb11, hk11⟩
            have HB11 := Lib.hid (HB10.out.trans (show Below w1.heap.size w10 w11 by rw [← HBz.out]; exact hb11))
            clear hI11 hb11 hk11
            go_wp2
            go_ret2
            refine ⟨?_, HB1.out.trans (HB11.out.mono (Nat.le_of_lt hlt1))⟩
            have h9 := HEnd.out
            rw [← HL4e.out, ← HL6e.out] at h9
            rw [h9]
            rfl
end Go.Proofs.YthlckipcgogogaaGreatDoor
