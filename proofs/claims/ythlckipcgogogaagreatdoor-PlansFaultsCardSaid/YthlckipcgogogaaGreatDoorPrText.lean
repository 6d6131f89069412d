/- Joined: PrPoint PrText. -/
import Derived.Test.YthlckipcgogogaaGreatDoorLbText
import Derived.Test.YthlckipcgogogaaGreatDoorPcWriteT
/- The statements' own function Point. -/
namespace Go.Proofs.YthlckipcgogogaaGreatDoor
set_option linter.unusedVariables false
open Go.RowKit

theorem pcL_len_big (p : Nat) : (pcL p).length ≤ 9223372036854775806 := by
  have h1 := numL_3 (p / 2048)
  have h2 := numL_3 (p / 8 % 256)
  have h3 := numL_3 (p % 8)
  simp [pcL]
  omega
set_option maxHeartbeats 1000000 in
theorem lpoint_any (p : Nat) (w : World) (h : p ≤ 16383) (hp : PowOk w) :
    Calls Tryz.prog 41 #[.int .u16 (p : Int)] w fun e w' => e = .returned (.string (bs (pcL p))) ∧ Below w.heap.size w w' := by
  obtain ⟨S1, S2, S3, S4, r1, r2, r3, r4, o1, o2, o3, o4, eS⟩ := glue_runs (p / 2048) (p / 8 % 256) (p % 8)
  have HS := Lib.hid eS
  obtain ⟨a, ha⟩ : ∃ a, a = p / 2048 := ⟨_, rfl⟩
  obtain ⟨b, hb⟩ : ∃ b, b = p / 8 % 256 := ⟨_, rfl⟩
  obtain ⟨c, hc⟩ : ∃ c, c = p % 8 := ⟨_, rfl⟩
  rw [← ha] at r1 o1
  rw [← hb] at r2 o2
  rw [← hc] at r4 o4
  have e1 : (p : Int) / 2048 = (a : Int) := by omega
  have e2 : (p : Int) / 8 % 256 = (b : Int) := by omega
  have e3 : (p : Int) % 8 = (c : Int) := by omega
  have I1 := Lib.hid (fun W (hW : PowOk W) => itoa_any a W (by omega) hW)
  have I2 := Lib.hid (fun W (hW : PowOk W) => itoa_any b W (by omega) hW)
  have I3 := Lib.hid (fun W (hW : PowOk W) => itoa_any c W (by omega) hW)
  have HP := Lib.hid hp
  clear eS ha hb hc hp
  go_enter Tryz.func41, Tryz.ntmps41
  go_wp2_with fail
  refine (I1.out _ HP.out).mono ?_
  rintro e w1 ⟨rfl, hb1⟩
  have P1 := Lib.hid (HP.out.later hb1)
  have B1 := Lib.hid hb1
  clear hb1
  go_wp2_with fail
  refine (I2.out _ P1.out).mono ?_
  rintro e w2 ⟨rfl, hb2⟩
  have P2 := Lib.hid (P1.out.later hb2)
  have B2 := Lib.hid (B1.out.trans (hb2.mono B1.out.size))
  clear hb2
  go_wp2_with fail
  refine (I3.out _ P2.out).mono ?_
  rintro e w3 ⟨rfl, hb3⟩
  have B3 := Lib.hid (B2.out.trans (hb3.mono B2.out.size))
  clear hb3
  go_wp2
  go_ret
  exact ⟨congrArg (fun z => Ending.returned (Value.string z)) HS.out, B3.out⟩
end Go.Proofs.YthlckipcgogogaaGreatDoor
/- The statements' own function Text: a plan's text by definition. -/
namespace Go.Proofs.YthlckipcgogogaaGreatDoor
set_option linter.unusedVariables false
open Go.RowKit Go.Lib

theorem cat_str (x y : ByteArray) (h : x.size + y.size ≤ 1000000000) : ∃ S : ByteArray, S = x ++ y ∧ S.size = x.size + y.size ∧ (∀ W, (binOp .add 9 (.string x) (.string y)).run Tryz.prog W = .ok (.string S) W) ∧ (∀ W, (Op.stringOp .add x y).run Tryz.prog W = .ok (.string S) W) := by
  have o : ∀ W, (Op.stringOp .add x y).run Tryz.prog W = .ok (.string (x ++ y)) W := fun W => run_string_add_sum W x y (by omega)
  exact ⟨x ++ y, rfl, ByteArray.size_append, fun W => by rw [binOp_string_add]; exact o W, o⟩
theorem bs_lit {x : ByteArray} {l : List UInt8} (h : x.data.toList = l) : x = bs l := by
  cases x with
  | mk d => subst h; simp [bs]
def TxOut (p : Pn) (w : World) (e : Ending) (w' : World) : Prop := e = .returned (.string (bs (partText p 4))) ∧ Below w.heap.size w w' 
set_option maxRecDepth 20000 in
set_option maxHeartbeats 4000000 in
theorem ltext_any (p : Pn) (a : Option Addr) (n c : Nat) (a' : Option Addr) (n' c' : Nat) (w : World) (hP : PRow w a n c p.P) (hL : LRow w a' n' c' p.L) (hv : ValidPl p) (hp : PowOk w) :
    Calls Tryz.prog 9 #[planV a n c a' n' c' p] w (TxOut p w) := by
  obtain ⟨W, hW⟩ : ∃ W, W = w.alloc (.cells (planCells a n c a' n' c' p).toArray 31) := ⟨_, rfl⟩
  have hB : Below w.heap.size w W := by rw [hW]; exact below_alloc _ _
  have hA : PlanAt W w.heap.size a n c a' n' c' p := by rw [hW]; exact PlanAt.new _ _ _ _ _ _ _ _
  unfold planV
  have HB := Lib.hid hB
  have HA := Lib.hid hA
  have HP := Lib.hid (hP.later hB)
  have HL := Lib.hid (hL.later hB)
  have HPo := Lib.hid (hp.later hB)
  have HV := Lib.hid hv
  obtain ⟨g0, g1, g2, g3, g4, g5, g6⟩ := hA.cells
  clear hB hA hP hL hp hv
  go_enter Tryz.func9, Tryz.ntmps9
  go_upto_region 1 with (fail)
  show Code.wp _ _ _ _ (w.alloc (.cells (planCells a n c a' n' c' p).toArray 31))
  rw [← hW]
  clear hW
  have hcap := HP.out.le
  have hmx := HP.out.max
  unfold maxLen at hmx
  have hcap' := HL.out.le
  have hmx' := HL.out.max
  unfold maxLen at hmx'
  have hn64 : n ≤ 64 := by have h9 := HV.out.np; rw [HP.out.len] at h9; exact h9
  have hn1k : n' ≤ 1024 := by have h9 := HV.out.nl; rw [HL.out.len] at h9; exact h9
  obtain ⟨pb, hpb⟩ : ∃ pb, pb = w.heap.size := ⟨_, rfl⟩
  rw [← hpb] at HA ⊢
  have HG := Lib.hid (fun (X : World) (hX : Below W.heap.size W X) => (HA.out.later hX).cells)
  rw [← hpb] at g0 g1 g2 g3 g4 g5 g6
  clear hpb
  go_wp2_with fail
  clear g0 g1 g2 g3 g4 g5 g6
  go_loopw [3, 4] (fun sv iv wr => ∃ (k : Nat) (l : List UInt8), k ≤ n ∧ iv = .int .i64 k ∧ sv = .string (bs l) ∧ (l.length ≤ 100 * k ∧ l = (p.P.take k).flatMap plText) ∧ Below W.heap.size W wr) (fun _ iv _ => n - (RowKit.intOf iv).toNat)
  case atStart => exact ⟨0, [], Nat.zero_le _, rfl, rfl, ⟨by simp, by simp⟩, Below.refl _ _⟩
  case round =>
    obtain ⟨k, l, hk, rfl, rfl, ⟨hll, hle⟩, hb⟩ := hrel
    have HLe := Lib.hid hle
    have HBr := Lib.hid hb
    obtain ⟨g0, g1, g2, g3, g4, g5, g6⟩ := HG.out _ hb
    clear hle
    by_cases hkn : k < n
    · have HPr := Lib.hid (HP.out.later hb)
      have HPor := Lib.hid (HPo.out.later hb)
      obtain ⟨bp, off, rfl, hcs⟩ := HPr.out.cells.resolve_left (by omega)
      obtain ⟨v1, v2⟩ := hcs k hkn
      have hul : pc p.P k ≤ 16383 := valid_pl HV.out (by rw [HPr.out.len]; exact hkn)
      have hu0 : 0 ≤ pc p.P k := (prow_wfB HPr.out hkn).1
      obtain ⟨u, hu⟩ : ∃ u, u = pc p.P k := ⟨_, rfl⟩
      obtain ⟨t, ht⟩ : ∃ t, t = pt p.P k := ⟨_, rfl⟩
      rw [← hu] at hul hu0 v1
      rw [← ht] at v2
      obtain ⟨um, hum⟩ : ∃ um : Nat, u = (um : Int) := ⟨u.toNat, by omega⟩
      have humx : um ≤ 16383 := by omega
      have HUt := Lib.hid (And.intro hu (And.intro ht hum))
      rw [hum] at v1
      have d1 : (k : Int) < n := by omega
      have d2 : (0 : Int) ≤ k := by omega
      have wk : IntKind.i64.wrap ((k : Int) + 1) = (k : Int) + 1 := IntWalk.i64_in _ (by omega)
      have HK := Lib.hid hkn
      have sT : (bs (pcL um)).size ≤ 11 := bs_pc um
      have HT := Lib.hid (lpoint_any um wr humx HPor.out)
      obtain ⟨T, hT⟩ : ∃ T, T = bs (pcL um) := ⟨_, rfl⟩
      rw [← hT] at sT HT
      have HTe := Lib.hid hT
      have sl : (bs l).size ≤ 6400 := by rw [bs_len]; omega
      obtain ⟨s, hs⟩ : ∃ s, s = bs l := ⟨_, rfl⟩
      rw [← hs] at sl ⊢
      have HSe := Lib.hid hs
      have HLl := Lib.hid hll
      clear hcs hu ht hum hul hu0 hb hT hs hll hk
      cases t
      · have s1 : (⟨#[112, 108, 97, 99, 101, 32]⟩ : ByteArray).size = 6 := rfl
        have s2 : (⟨#[32, 101, 110, 100, 10]⟩ : ByteArray).size = 5 := rfl
        obtain ⟨A1, eA1, zA1, bA1, oA1⟩ := cat_str ⟨#[112, 108, 97, 99, 101, 32]⟩ T (by omega)
        obtain ⟨A2, eA2, zA2, bA2, oA2⟩ := cat_str A1 ⟨#[32, 101, 110, 100, 10]⟩ (by omega)
        obtain ⟨A3, eA3, zA3, bA3, oA3⟩ := cat_str s A2 (by omega)
        have HE := Lib.hid (And.intro eA1 (And.intro eA2 eA3))
        clear eA1 eA2 eA3 zA1 zA2 zA3 s1 s2 sT sl
        go_wp2_with fail
        refine HT.out.mono ?_
        rintro e w5 ⟨rfl, hb⟩
        have HB5 := Lib.hid (HBr.out.trans (hb.mono HBr.out.size))
        clear hb g0 g1 g2 g3 g4 g5 g6
        go_wp2
        refine ⟨⟨k + 1, l ++ lineL ([placeB, bs (pcL um), bs endW].map (·.data.toList)), by have := HK.out; omega, by go_num, ?_, ⟨?_, ?_⟩, HB5.out⟩, by simp [RowKit.intOf]; have := HK.out; omega⟩
        · rw [HE.out.2.2, HE.out.2.1, HE.out.1, HTe.out, HSe.out, bs_lit (x := ⟨#[112, 108, 97, 99, 101, 32]⟩) rfl, bs_lit (x := ⟨#[32, 101, 110, 100, 10]⟩) rfl, bs_cat, bs_cat, bs_cat]
          unfold lineL
          simp only [List.map_cons, List.map_nil, bs_toList]
          rw [join3]
          simp [placeB, endW]
        · have h9 := pcL_len um
          have h8 := HLl.out
          unfold lineL
          simp only [List.map_cons, List.map_nil, bs_toList]
          rw [join3]
          simp only [List.length_append, List.length_cons, List.length_nil, placeB, endW]
          omega
        · rw [HLe.out]; exact place_text (by rw [HP.out.len]; exact HK.out) HUt.out.1 HUt.out.2.1 HUt.out.2.2 (by rw [bs_toList]; rfl)
      · have s1 : (⟨#[112, 108, 97, 99, 101, 32]⟩ : ByteArray).size = 6 := rfl
        have s2 : (⟨#[32, 116, 114, 97, 110, 115, 102, 101, 114, 10]⟩ : ByteArray).size = 10 := rfl
        obtain ⟨A1, eA1, zA1, bA1, oA1⟩ := cat_str ⟨#[112, 108, 97, 99, 101, 32]⟩ T (by omega)
        obtain ⟨A2, eA2, zA2, bA2, oA2⟩ := cat_str A1 ⟨#[32, 116, 114, 97, 110, 115, 102, 101, 114, 10]⟩ (by omega)
        obtain ⟨A3, eA3, zA3, bA3, oA3⟩ := cat_str s A2 (by omega)
        have HE := Lib.hid (And.intro eA1 (And.intro eA2 eA3))
        clear eA1 eA2 eA3 zA1 zA2 zA3 s1 s2 sT sl
        go_wp2_with fail
        refine HT.out.mono ?_
        rintro e w5 ⟨rfl, hb⟩
        have HB5 := Lib.hid (HBr.out.trans (hb.mono HBr.out.size))
        clear hb g0 g1 g2 g3 g4 g5 g6
        go_wp2
        refine ⟨⟨k + 1, l ++ lineL ([placeB, bs (pcL um), bs transferW].map (·.data.toList)), by have := HK.out; omega, by go_num, ?_, ⟨?_, ?_⟩, HB5.out⟩, by simp [RowKit.intOf]; have := HK.out; omega⟩
        · rw [HE.out.2.2, HE.out.2.1, HE.out.1, HTe.out, HSe.out, bs_lit (x := ⟨#[112, 108, 97, 99, 101, 32]⟩) rfl, bs_lit (x := ⟨#[32, 116, 114, 97, 110, 115, 102, 101, 114, 10]⟩) rfl, bs_cat, bs_cat, bs_cat]
          unfold lineL
          simp only [List.map_cons, List.map_nil, bs_toList]
          rw [join3]
          simp [placeB, transferW]
        · have h9 := pcL_len um
          have h8 := HLl.out
          unfold lineL
          simp only [List.map_cons, List.map_nil, bs_toList]
          rw [join3]
          simp only [List.length_append, List.length_cons, List.length_nil, placeB, transferW]
          omega
        · rw [HLe.out]; exact place_text (by rw [HP.out.len]; exact HK.out) HUt.out.1 HUt.out.2.1 HUt.out.2.2 (by rw [bs_toList]; rfl)
    · obtain rfl : k = n := by omega
      have HLf : Hid (l = p.P.flatMap plText) := Lib.hid (by rw [HLe.out, List.take_of_length_le (by rw [HP.out.len]; exact Nat.le_refl _)])
      have hll64 : l.length ≤ 6400 := by omega
      obtain ⟨V1, hV1⟩ : ∃ V1, V1 = wr := ⟨_, rfl⟩
      subst hV1
      clear hb
      go_wp2_with fail
      clear g0 g1 g2 g3 g4 g5 g6
      go_loopw [3, 6] (fun sv iv wr => ∃ (j : Nat) (l2 : List UInt8), j ≤ n' ∧ iv = .int .i64 j ∧ sv = .string (bs l2) ∧ (l2.length ≤ 6400 + 100 * j ∧ l2 = p.P.flatMap plText ++ (p.L.take j).flatMap lnText) ∧ Below W.heap.size W wr) (fun _ iv _ => n' - (RowKit.intOf iv).toNat)
      case atStart => exact ⟨0, l, Nat.zero_le _, rfl, rfl, ⟨by omega, by rw [HLf.out]; simp⟩, HBr.out⟩
      case round =>
        obtain ⟨j, l2, hj, rfl, rfl, ⟨hll2, hl2e⟩, hb⟩ := hrel
        have HLe2 := Lib.hid hl2e
        have HBj := Lib.hid hb
        obtain ⟨g0, g1, g2, g3, g4, g5, g6⟩ := HG.out _ hb
        clear hl2e
        by_cases hjn : j < n'
        · have HLr2 := Lib.hid (HL.out.later hb)
          have HPor2 := Lib.hid (HPo.out.later hb)
          clear hb
          obtain ⟨bl, offl, rfl, hcs⟩ := HLr2.out.cells.resolve_left (by omega)
          obtain ⟨v1, v2, v3, v4⟩ := hcs j hjn
          have hv := valid_ln HV.out (k := j) (by rw [HLr2.out.len]; exact hjn)
          have hw := lrow_wfB HLr2.out hjn
          obtain ⟨x, hx⟩ : ∃ x, x = lnAt p.L j := ⟨_, rfl⟩
          rw [← hx] at v1 v2 v3 v4 hv hw
          have HXe := Lib.hid hx
          clear hcs hx
          obtain ⟨A, Bb, C, D⟩ := x
          simp only at v1 v2 v3 v4 hv hw
          obtain ⟨q1, q2, q3, q4, q5⟩ := hv
          obtain ⟨q6, q7, q8⟩ := hw
          obtain ⟨Am, rfl⟩ : ∃ Am : Nat, A = (Am : Int) := ⟨A.toNat, by omega⟩
          obtain ⟨Bm, rfl⟩ : ∃ Bm : Nat, Bb = (Bm : Int) := ⟨Bb.toNat, by omega⟩
          obtain ⟨Cm, rfl⟩ : ∃ Cm : Nat, C = (Cm : Int) := ⟨C.toNat, by omega⟩
          obtain ⟨Dm, rfl⟩ : ∃ Dm : Nat, D = (Dm : Int) := ⟨D.toNat, by omega⟩
          have d1 : (j : Int) < n' := by omega
          have d2 : (0 : Int) ≤ j := by omega
          go_upto_region 13 with (fail)
          obtain ⟨W0, hW0⟩ : ∃ W0, W0 = wr.alloc (.cells #[.int .u16 (Am : Int), .int .u16 (Bm : Int), .int .u8 (Cm : Int), .int .i64 (Dm : Int)] 76) := ⟨_, rfl⟩
          obtain ⟨b0, hb0⟩ : ∃ b0, b0 = wr.heap.size := ⟨_, rfl⟩
          have hbW : Below wr.heap.size wr W0 := by rw [hW0]; exact below_alloc _ _
          have HH0 := Lib.hid (show W0.heap[b0]? = some (.cells #[.int .u16 (Am : Int), .int .u16 (Bm : Int), .int .u8 (Cm : Int), .int .i64 (Dm : Int)] 76 (0, 0)) by rw [hW0, hb0]; exact heap_alloc_new wr _)
          rw [← hW0, ← hb0]
          have HB0 := Lib.hid (HBj.out.trans (hbW.mono HBj.out.size))
          have hPo0 := HPor2.out.later hbW
          have sA : (bs (pcL Am)).size ≤ 11 := bs_pc Am
          have sB : (bs (pcL Bm)).size ≤ 11 := bs_pc Bm
          have sC : (bs (numL Cm)).size ≤ 3 := bs_num Cm
          have sD : (bs (numL Dm)).size ≤ 3 := bs_num Dm
          have HT1 := Lib.hid (fun (X : World) (hX : Below W0.heap.size W0 X) => lpoint_any Am X (by omega) (hPo0.later hX))
          have HT2 := Lib.hid (fun (X : World) (hX : Below W0.heap.size W0 X) => lpoint_any Bm X (by omega) (hPo0.later hX))
          have HT3 := Lib.hid (fun (X : World) (hX : Below W0.heap.size W0 X) => itoa_any Cm X (by omega) (hPo0.later hX))
          have HT4 := Lib.hid (fun (X : World) (hX : Below W0.heap.size W0 X) => itoa_any Dm X (by omega) (hPo0.later hX))
          obtain ⟨TA, hTA⟩ : ∃ T, T = bs (pcL Am) := ⟨_, rfl⟩
          obtain ⟨TB, hTB⟩ : ∃ T, T = bs (pcL Bm) := ⟨_, rfl⟩
          obtain ⟨TC, hTC⟩ : ∃ T, T = bs (numL Cm) := ⟨_, rfl⟩
          obtain ⟨TD, hTD⟩ : ∃ T, T = bs (numL Dm) := ⟨_, rfl⟩
          have sl : (bs l2).size ≤ 200000 := by rw [bs_len]; omega
          obtain ⟨s, hs⟩ : ∃ s, s = bs l2 := ⟨_, rfl⟩
          rw [← hTA] at sA HT1
          rw [← hTB] at sB HT2
          rw [← hTC] at sC HT3
          rw [← hTD] at sD HT4
          rw [← hs] at sl ⊢
          have HTe := Lib.hid (And.intro hTA (And.intro hTB (And.intro hTC (And.intro hTD hs))))
          have s1 : (⟨#[108, 105, 110, 101, 32]⟩ : ByteArray).size = 5 := rfl
          have s2 : (⟨#[32]⟩ : ByteArray).size = 1 := rfl
          have s3 : (⟨#[10]⟩ : ByteArray).size = 1 := rfl
          obtain ⟨B1, eB1, zB1, bB1, oB1⟩ := cat_str ⟨#[108, 105, 110, 101, 32]⟩ TA (by omega)
          obtain ⟨B2, eB2, zB2, bB2, oB2⟩ := cat_str B1 ⟨#[32]⟩ (by omega)
          obtain ⟨B3, eB3, zB3, bB3, oB3⟩ := cat_str B2 TB (by omega)
          obtain ⟨B4, eB4, zB4, bB4, oB4⟩ := cat_str B3 ⟨#[32]⟩ (by omega)
          obtain ⟨B5, eB5, zB5, bB5, oB5⟩ := cat_str B4 TC (by omega)
          obtain ⟨B6, eB6, zB6, bB6, oB6⟩ := cat_str B5 ⟨#[32]⟩ (by omega)
          obtain ⟨B7, eB7, zB7, bB7, oB7⟩ := cat_str B6 TD (by omega)
          obtain ⟨B8, eB8, zB8, bB8, oB8⟩ := cat_str B7 ⟨#[10]⟩ (by omega)
          obtain ⟨B9, eB9, zB9, bB9, oB9⟩ := cat_str s B8 (by omega)
          have HEB := Lib.hid (And.intro eB1 (And.intro eB2 (And.intro eB3 (And.intro eB4 (And.intro eB5 (And.intro eB6 (And.intro eB7 (And.intro eB8 (eB9)))))))))
          clear eB1 zB1 eB2 zB2 eB3 zB3 eB4 zB4 eB5 zB5 eB6 zB6 eB7 zB7 eB8 zB8 eB9 zB9
          have HC01 := Lib.hid (four_cells HH0.out)
          have HD := Lib.hid (show Below W0.heap.size W0 W0.drew from below_draw W0 1)
          have wC : IntKind.i64.wrap (Cm : Int) = (Cm : Int) := IntWalk.i64_in _ (by omega)
          have wk : IntKind.i64.wrap ((j : Int) + 1) = (j : Int) + 1 := IntWalk.i64_in _ (by omega)
          have c0 := HC01.out.1
          have c1 := HC01.out.2.1
          have c2 := HC01.out.2.2.1
          have c3 := HC01.out.2.2.2
          have HJ := Lib.hid (And.intro hjn hll2)
          have HQ := Lib.hid (And.intro q1 (And.intro q2 (And.intro q3 q5)))
          clear hPo0 hbW hW0 v1 v2 v3 v4 hb0 hTA hTB hTC hTD hs sA sB sC sD sl s1 s2 s3 hll2 hj g0 g1 g2 g3 g4 g5 g6
          go_region_held3 (fun W' => W'.cell? ⟨b0, 0, none⟩ = some (.int .u16 (Am : Int)) ∧ W'.cell? ⟨b0, 1, none⟩ = some (.int .u16 (Bm : Int)) ∧ W'.cell? ⟨b0, 2, none⟩ = some (.int .u8 (Cm : Int)) ∧ W'.cell? ⟨b0, 3, none⟩ = some (.int .i64 (Dm : Int))) (first | exact HC01.out | (go_keep; done))
            (first
              | ((with_reducible refine (HT1.out _ HD.out).mono ?_); rintro e w3 ⟨rfl, hb⟩; have HX1 := Lib.hid (HD.out.trans (hb.mono HD.out.size)); have HC01 := Lib.hid (four_cells (at_below HH0.out HX1.out)); clear hb)
              | ((with_reducible refine (HT2.out _ HX1.out).mono ?_); rintro e w4 ⟨rfl, hb⟩; have HX2 := Lib.hid (HX1.out.trans (hb.mono HX1.out.size)); have HC01 := Lib.hid (four_cells (at_below HH0.out HX2.out)); clear hb)
              | ((with_reducible refine (HT3.out _ HX2.out).mono ?_); rintro e w5 ⟨rfl, hb⟩; have HX3 := Lib.hid (HX2.out.trans (hb.mono HX2.out.size)); have HC01 := Lib.hid (four_cells (at_below HH0.out HX3.out)); clear hb)
              | ((with_reducible refine (HT4.out _ HX3.out).mono ?_); rintro e w6 ⟨rfl, hb⟩; have HX4 := Lib.hid (HX3.out.trans (hb.mono HX3.out.size)); have HC01 := Lib.hid (four_cells (at_below HH0.out HX4.out)); clear hb)
              | fail)
          all_goals
            go_wp2
            refine ⟨⟨j + 1, l2 ++ lineL ([lineB, bs (pcL Am), bs (pcL Bm), bs (numL Cm), bs (numL Dm)].map (·.data.toList)), by have := HJ.out; omega, by go_num, ?_, ⟨?_, ?_⟩, HB0.out.trans (HX4.out.mono HB0.out.size)⟩, by simp [RowKit.intOf]; have := HJ.out; omega⟩
            · rw [HEB.out.2.2.2.2.2.2.2.2, HEB.out.2.2.2.2.2.2.2.1, HEB.out.2.2.2.2.2.2.1, HEB.out.2.2.2.2.2.1, HEB.out.2.2.2.2.1, HEB.out.2.2.2.1, HEB.out.2.2.1, HEB.out.2.1, HEB.out.1, HTe.out.1, HTe.out.2.1, HTe.out.2.2.1, HTe.out.2.2.2.1, HTe.out.2.2.2.2, bs_lit (x := ⟨#[108, 105, 110, 101, 32]⟩) rfl, bs_lit (x := ⟨#[32]⟩) rfl, bs_lit (x := ⟨#[10]⟩) rfl]
              simp only [bs_cat]
              unfold lineL
              simp only [List.map_cons, List.map_nil, bs_toList]
              rw [join5]
              simp [lineB]
            · have h9 := pcL_len Am
              have h8 := pcL_len Bm
              have h7 := numL_3 Cm
              have h6 := numL_3 Dm
              have h5 := HJ.out.2
              unfold lineL
              simp only [List.map_cons, List.map_nil, bs_toList]
              rw [join5]
              simp only [List.length_append, List.length_cons, List.length_nil, lineB]
              omega
            · rw [HLe2.out]; exact line_text (by rw [HL.out.len]; exact HJ.out.1) HXe.out
        · obtain rfl : j = n' := by omega
          obtain ⟨V2, hV2⟩ : ∃ V2, V2 = wr := ⟨_, rfl⟩
          subst hV2
          obtain ⟨⟨_, r1⟩, ⟨_, r2⟩, ⟨_, r3⟩, ⟨_, r4⟩, ⟨_, r5⟩⟩ := valid_nums HV.out
          obtain ⟨Ra, hRa⟩ : ∃ Ra : Nat, p.rate = (Ra : Int) := ⟨p.rate.toNat, by omega⟩
          obtain ⟨Ro, hRo⟩ : ∃ Ro : Nat, p.room = (Ro : Int) := ⟨p.room.toNat, by omega⟩
          obtain ⟨M0, hM0⟩ : ∃ M0 : Nat, p.m0 = (M0 : Int) := ⟨p.m0.toNat, by omega⟩
          obtain ⟨M1, hM1⟩ : ∃ M1 : Nat, p.m1 = (M1 : Int) := ⟨p.m1.toNat, by omega⟩
          obtain ⟨M2, hM2⟩ : ∃ M2 : Nat, p.m2 = (M2 : Int) := ⟨p.m2.toNat, by omega⟩
          rw [hRa] at r1
          rw [hRo] at r2
          rw [hM0] at r3
          rw [hM1] at r4
          rw [hM2] at r5
          have HGc := Lib.hid (fun (X : World) (hX : Below W.heap.size W X) => show X.cell? ⟨pb, 2, none⟩ = some (.int .i64 (Ra : Int)) ∧ X.cell? ⟨pb, 3, none⟩ = some (.int .i64 (Ro : Int)) ∧ X.cell? ⟨pb, 4, none⟩ = some (.int .i64 (M0 : Int)) ∧ X.cell? ⟨pb, 5, none⟩ = some (.int .i64 (M1 : Int)) ∧ X.cell? ⟨pb, 6, none⟩ = some (.int .i64 (M2 : Int)) by
            obtain ⟨g0, g1, g2, g3, g4, g5, g6⟩ := HG.out X hX
            rw [hRa] at g2
            rw [hRo] at g3
            rw [hM0] at g4
            rw [hM1] at g5
            rw [hM2] at g6
            exact ⟨g2, g3, g4, g5, g6⟩)
          have HEnd := Lib.hid (end_text HLe2.out (by rw [HL.out.len]; exact Nat.le_refl _) hRa hRo hM0 hM1 hM2)
          rw [hRa] at g2
          rw [hRo] at g3
          rw [hM0] at g4
          rw [hM1] at g5
          rw [hM2] at g6
          have hPo2 := HPo.out.later hb
          have HT := Lib.hid (fun (X : World) (hX : Below V2.heap.size V2 X) (M : Nat) (hM : M < 256) => itoa_any M X hM (hPo2.later hX))
          have HM := Lib.hid (show Ra < 256 ∧ Ro < 256 ∧ M0 < 256 ∧ M1 < 256 ∧ M2 < 256 by omega)
          have s0 : (bs (numL Ra)).size ≤ 3 := bs_num Ra
          have s4 : (bs (numL Ro)).size ≤ 3 := bs_num Ro
          have s5 : (bs (numL M0)).size ≤ 3 := bs_num M0
          have s6 : (bs (numL M1)).size ≤ 3 := bs_num M1
          have s7 : (bs (numL M2)).size ≤ 3 := bs_num M2
          have sl : (bs l2).size ≤ 200000 := by rw [bs_len]; omega
          have s1 : (⟨#[114, 97, 116, 101, 32]⟩ : ByteArray).size = 5 := rfl
          have s2 : (⟨#[10, 114, 111, 111, 109, 32]⟩ : ByteArray).size = 6 := rfl
          have s3 : (⟨#[10, 109, 97, 114, 107, 115, 32]⟩ : ByteArray).size = 7 := rfl
          have s8 : (⟨#[32]⟩ : ByteArray).size = 1 := rfl
          have s9 : (⟨#[10]⟩ : ByteArray).size = 1 := rfl
          obtain ⟨R1, eR1, zR1, bR1, oR1⟩ := cat_str (bs l2) ⟨#[114, 97, 116, 101, 32]⟩ (by omega)
          obtain ⟨R2, eR2, zR2, bR2, oR2⟩ := cat_str R1 (bs (numL Ra)) (by omega)
          obtain ⟨R3, eR3, zR3, bR3, oR3⟩ := cat_str R2 ⟨#[10, 114, 111, 111, 109, 32]⟩ (by omega)
          obtain ⟨R4, eR4, zR4, bR4, oR4⟩ := cat_str R3 (bs (numL Ro)) (by omega)
          obtain ⟨R5, eR5, zR5, bR5, oR5⟩ := cat_str R4 ⟨#[10, 109, 97, 114, 107, 115, 32]⟩ (by omega)
          obtain ⟨R6, eR6, zR6, bR6, oR6⟩ := cat_str R5 (bs (numL M0)) (by omega)
          obtain ⟨R7, eR7, zR7, bR7, oR7⟩ := cat_str R6 ⟨#[32]⟩ (by omega)
          obtain ⟨R8, eR8, zR8, bR8, oR8⟩ := cat_str R7 (bs (numL M1)) (by omega)
          obtain ⟨R9, eR9, zR9, bR9, oR9⟩ := cat_str R8 ⟨#[32]⟩ (by omega)
          obtain ⟨R10, eR10, zR10, bR10, oR10⟩ := cat_str R9 (bs (numL M2)) (by omega)
          obtain ⟨R11, eR11, zR11, bR11, oR11⟩ := cat_str R10 ⟨#[10]⟩ (by omega)
          have HER := Lib.hid (And.intro eR1 (And.intro eR2 (And.intro eR3 (And.intro eR4 (And.intro eR5 (And.intro eR6 (And.intro eR7 (And.intro eR8 (And.intro eR9 (And.intro eR10 (eR11)))))))))))
          clear eR1 zR1 eR2 zR2 eR3 zR3 eR4 zR4 eR5 zR5 eR6 zR6 eR7 zR7 eR8 zR8 eR9 zR9 eR10 zR10 eR11 zR11
          have HC01 := Lib.hid (HGc.out _ hb)
          have HD := Lib.hid (show Below V2.heap.size V2 V2.drew from below_draw V2 1)
          have HKp := Lib.hid (fun (X : World) (hX : Below V2.heap.size V2 X) => HGc.out X (hb.trans (hX.mono hb.size)))
          have HBz := Lib.hid hb
          clear hb hRa hRo hM0 hM1 hM2 r1 r2 r3 r4 r5 hPo2 s0 s1 s2 s3 s4 s5 s6 s7 s8 s9 sl hll2 hj hjn
          go_upto_region 14 with (fail)
          go_region_held3 (fun W' => W'.cell? ⟨pb, 2, none⟩ = some (.int .i64 (Ra : Int)) ∧ W'.cell? ⟨pb, 3, none⟩ = some (.int .i64 (Ro : Int)) ∧ W'.cell? ⟨pb, 4, none⟩ = some (.int .i64 (M0 : Int)) ∧ W'.cell? ⟨pb, 5, none⟩ = some (.int .i64 (M1 : Int)) ∧ W'.cell? ⟨pb, 6, none⟩ = some (.int .i64 (M2 : Int))) (first | exact HC01.out | (go_keep; done))
            (first
              | ((with_reducible refine (HT.out _ HD.out Ra HM.out.1).mono ?_); rintro e w3 ⟨rfl, hb⟩; have HX1 := Lib.hid (HD.out.trans (hb.mono HD.out.size)); have HC01 := Lib.hid (HKp.out _ HX1.out); clear hb)
              | ((with_reducible refine (HT.out _ HX1.out Ro HM.out.2.1).mono ?_); rintro e w4 ⟨rfl, hb⟩; have HX2 := Lib.hid (HX1.out.trans (hb.mono HX1.out.size)); have HC01 := Lib.hid (HKp.out _ HX2.out); clear hb)
              | ((with_reducible refine (HT.out _ HX2.out M0 HM.out.2.2.1).mono ?_); rintro e w5 ⟨rfl, hb⟩; have HX3 := Lib.hid (HX2.out.trans (hb.mono HX2.out.size)); have HC01 := Lib.hid (HKp.out _ HX3.out); clear hb)
              | ((with_reducible refine (HT.out _ HX3.out M1 HM.out.2.2.2.1).mono ?_); rintro e w6 ⟨rfl, hb⟩; have HX4 := Lib.hid (HX3.out.trans (hb.mono HX3.out.size)); have HC01 := Lib.hid (HKp.out _ HX4.out); clear hb)
              | ((with_reducible refine (HT.out _ HX4.out M2 HM.out.2.2.2.2).mono ?_); rintro e w7 ⟨rfl, hb⟩; have HX5 := Lib.hid (HX4.out.trans (hb.mono HX4.out.size)); have HC01 := Lib.hid (HKp.out _ HX5.out); clear hb)
              | fail)
          all_goals
            go_wp2
            go_ret
            refine ⟨congrArg (fun z => Ending.returned (Value.string z)) ?_, HB.out.trans ((HBz.out.trans (HX5.out.mono HBz.out.size)).mono HB.out.size)⟩
            rw [HEnd.out, HER.out.2.2.2.2.2.2.2.2.2.2, HER.out.2.2.2.2.2.2.2.2.2.1, HER.out.2.2.2.2.2.2.2.2.1, HER.out.2.2.2.2.2.2.2.1, HER.out.2.2.2.2.2.2.1, HER.out.2.2.2.2.2.1, HER.out.2.2.2.2.1, HER.out.2.2.2.1, HER.out.2.2.1, HER.out.2.1, HER.out.1, bs_lit (x := ⟨#[114, 97, 116, 101, 32]⟩) rfl, bs_lit (x := ⟨#[10, 114, 111, 111, 109, 32]⟩) rfl, bs_lit (x := ⟨#[10, 109, 97, 114, 107, 115, 32]⟩) rfl, bs_lit (x := ⟨#[32]⟩) rfl, bs_lit (x := ⟨#[10]⟩) rfl]
            simp only [bs_cat]
            unfold lineL
            simp only [List.map_cons, List.map_nil, bs_toList]
            rw [join2, join2, join4]
            simp [rateB, roomB, marksB]
end Go.Proofs.YthlckipcgogogaaGreatDoor
