/- Contract of package labels: Encode. -/
import Derived.Test.YtcojjhokcebogaaDoorLbMsg
import Derived.Test.YtcojjhokcebogaaDoorLbSlice
import Derived.StillTailTactics
import Derived.Laws.CopyOwn
import Derived.Deep.Cut
namespace Go.Proofs.YtcojjhokcebogaaDoor
open Go.RowKit

/-- The first octet, the number of the label and its octets; the octets of a message. -/
def hdM (sv nw pr : Int) : Int := sv + 16 * pr + 64 * nw
def numM (to fr sl : Int) : Int := to + 16384 * fr + 268435456 * sl
def fr4 (N : Int) : Nat → List Int
  | 0 => [0, 0, 0, 0]
  | 1 => [N % 256, 0, 0, 0]
  | 2 => [N % 256, N / 256 % 256, 0, 0]
  | 3 => [N % 256, N / 256 % 256, N / 65536 % 256, 0]
  | _ => [N % 256, N / 256 % 256, N / 65536 % 256, N / 16777216 % 256]
def stg (e0 N : Int) (n k : Nat) : List Int := e0 :: (fr4 N k ++ List.replicate n 0)
def encM (sv nw pr to fr sl : Int) (l : List Int) : List Int := hdM sv nw pr :: (fr4 (numM to fr sl) 4 ++ l)
theorem fr4_length (N : Int) (k : Nat) : (fr4 N k).length = 4 := by unfold fr4; split <;> rfl
theorem stg_length (e0 N : Int) (n k : Nat) : (stg e0 N n k).length = 5 + n := by simp [stg, fr4_length]; omega
theorem encM_length (sv nw pr to fr sl : Int) (l : List Int) : (encM sv nw pr to fr sl l).length = 5 + l.length := by simp [encM, fr4_length]; omega
theorem stg_fill (e0 N : Int) (l : List Int) : splice (nums .u8 (stg e0 N l.length 4)) 5 (nums .u8 l) = nums .u8 (e0 :: (fr4 N 4 ++ l)) := by
  have e : 5 + (nums .u8 l).length = l.length + 5 := by rw [nums_length]; omega
  rw [splice, e]
  simp [nums, stg, fr4]
theorem hd_bits : ∀ a : Fin 16, ∀ b c : Fin 4, bits .or .u8 (bits .or .u8 (a.val : Int) ((b.val : Int) * 16)) ((c.val : Int) * 64) = (a.val : Int) + 16 * (b.val : Int) + 64 * (c.val : Int) := by decide +kernel
theorem hd_or {sv nw pr : Int} (h0 : 0 ≤ sv) (h0' : sv ≤ 15) (h1 : 0 ≤ nw) (h1' : nw ≤ 3) (h2 : 0 ≤ pr) (h2' : pr ≤ 3) : bits .or .u8 (bits .or .u8 sv (pr * 16)) (nw * 64) = hdM sv nw pr := by
  have h := hd_bits ⟨sv.toNat, by omega⟩ ⟨pr.toNat, by omega⟩ ⟨nw.toNat, by omega⟩
  simp only [show ((sv.toNat : Nat) : Int) = sv by omega, show ((nw.toNat : Nat) : Int) = nw by omega, show ((pr.toNat : Nat) : Int) = pr by omega] at h
  exact h
theorem encode_err (sv nw pr to fr sl : Int) (a : Option Addr) (n c : Nat) (E : Int) (w : World) (hn : n ≤ 9223372036854775807) (hE : chkM sv nw pr to fr sl n = E) (hne : E ≠ 0) :
    Calls Tryd.prog 17 #[.agg #[.int .u8 sv, .int .u8 nw, .int .u8 pr, .int .u16 to, .int .u16 fr, .int .u8 sl, .slice a n c]] w fun e w' => e = .returned (.tuple #[.slice none 0 0, .int .i64 E]) ∧ Below w.heap.size w w' := by
  have hck := fun W => check_any sv nw pr to fr sl a n c W hn
  rw [hE] at hck
  have HC := Lib.hid hck
  have hb : (E != 0) = true := by simpa using hne
  clear hck hE hne
  go_enter Tryd.func17, Tryd.ntmps17
  go_wp2_with fail
  refine (HC.out _).mono ?_
  rintro e w1 ⟨rfl, hb1⟩
  have HB := Lib.hid (below_call hb1)
  clear hb1
  go_wp2
  go_ret2
  exact ⟨rfl, HB.out⟩
set_option maxHeartbeats 2000000 in
set_option maxRecDepth 100000 in
theorem encode_ok (sv nw pr to fr sl : Int) (a : Option Addr) (n c : Nat) (l : List Int) (w : World) (h : Row .u8 w a n c l) (hF : chkM sv nw pr to fr sl n = 0) (h0 : 0 ≤ sv) (h1 : 0 ≤ nw) (h2 : 0 ≤ pr) (h3 : 0 ≤ to) (h4 : 0 ≤ fr) (h5 : 0 ≤ sl) :
    Calls Tryd.prog 17 #[.agg #[.int .u8 sv, .int .u8 nw, .int .u8 pr, .int .u16 to, .int .u16 fr, .int .u8 sl, .slice a n c]] w fun e w' =>
      ∃ g, e = .returned (.tuple #[.slice (some ⟨g, 0, none⟩) (5 + n) (5 + n), .int .i64 0]) ∧ w.heap.size ≤ g ∧ Own w' g 5 (nums .u8 (encM sv nw pr to fr sl l)) ∧ Below w.heap.size w w' := by
  obtain ⟨hl, hle, hmx, hw, hcc, _⟩ := id h
  unfold maxLen at hmx
  rcases chkM_cases sv nw pr to fr sl n with ⟨e, _⟩ | ⟨e, _⟩ | ⟨_, hfb, hn⟩
  · rw [hF] at e; exact absurd e (by decide)
  · rw [hF] at e; exact absurd e (by decide)
  obtain ⟨f0, f1, f2, f3, f4, f5⟩ := fieldsB_iff.1 hfb
  have hck := fun W => check_any sv nw pr to fr sl a n c W (by omega)
  rw [hF] at hck
  have HC := Lib.hid hck
  have HNu := Lib.hid (fun W => numberOf_any to fr sl W h3 f3 h4 f4 h5 f5)
  have hor := hd_or h0 f0 h1 f1 h2 f2
  have hmk := make8 (5 + n) (by omega)
  rw [show (((5 + n : Nat)) : Int) = 5 + (n : Int) by omega] at hmk
  obtain ⟨N, hN⟩ : ∃ N, N = numM to fr sl := ⟨_, rfl⟩
  have hN2 : to + 16384 * fr + 268435456 * sl = N := by rw [hN]; rfl
  rw [hN2] at HNu
  have hN0 : 0 ≤ N ∧ N ≤ 4294967295 := by omega
  obtain ⟨E0, hE0⟩ : ∃ E0, E0 = hdM sv nw pr := ⟨_, rfl⟩
  rw [← hE0] at hor
  have HR := Lib.hid h
  have HE0 := Lib.hid hE0
  have HN := Lib.hid hN
  clear hck hF hfb h hcc hw hN2 hE0 hN
  go_enter Tryd.func17, Tryd.ntmps17
  go_wp2_with fail
  refine (HC.out _).mono ?_
  rintro e w1 ⟨rfl, hb1⟩
  have ob1 := (own_lit w 38 #[.int .u8 sv, .int .u8 nw, .int .u8 pr, .int .u16 to, .int .u16 fr, .int .u8 sl, .slice a n c] _ rfl).below hb1 (by simp)
  have bb1 := below_call hb1
  have s1 := hb1.size
  rw [World.size_alloc] at s1
  obtain ⟨c0, c1, c2, c3, c4, c5, c6⟩ := unit_cells ob1
  have HO1 := Lib.hid ob1
  have HB1 := Lib.hid bb1
  clear hb1 bb1 ob1
  go_upto_region 5 with fail
  have og2 := own_made .u8 (5 + n) 5 w1
  have hb2 := below_alloc w1 (.cells (madeCells #[.int .u8 0] (5 + n)) 5)
  have ob2 := HO1.out.below hb2 (by omega)
  have s2 := hb2.size
  have HB2 := Lib.hid (HB1.out.trans (hb2.mono HB1.out.size))
  obtain ⟨d0, d1, d2, d3, d4, d5, d6⟩ := unit_cells ob2
  have hlt2 := og2.lt
  clear c0 c1 c2 c3 c4 c5 c6 hb2
  generalize (w1.alloc (.cells (madeCells #[.int .u8 0] (5 + n)) 5)) = W2 at *
  generalize hG : w1.heap.size = g at *
  have k0 := og2.cell 0 (by simp [nums]; omega)
  have z0 := og2.frozen 0
  have HG2 := Lib.hid og2
  have HO2 := Lib.hid ob2
  clear og2 ob2
  go_wp2_with fail
  have og3 : Own (W2.setCell ⟨g, 0, none⟩ (.int .u8 E0)) g 5 (nums .u8 (stg E0 N n 0)) := by
    have := HG2.out.set 0 (.int .u8 E0)
    rw [nums_set, Nat.add_comm 5 n] at this
    exact this
  have ob3 := HO2.out.other ⟨g, 0, none⟩ (by simp; omega) (.int .u8 E0)
  have hb3 := HB2.out.setCell (p := ⟨g, 0, none⟩) (by show w.heap.size ≤ g; omega) (.int .u8 E0)
  have hs3 : (W2.setCell ⟨g, 0, none⟩ (.int .u8 E0)).heap.size = W2.heap.size := by simp
  have HG3 := Lib.hid og3
  have HO3 := Lib.hid ob3
  have HB3 := Lib.hid hb3
  clear og3 ob3 hb3 HG2 HO2 HB2 d0 d1 d2 d3 d4 d5 d6 k0 z0
  generalize (W2.setCell ⟨g, 0, none⟩ (.int .u8 E0)) = W3 at *
  refine (HNu.out _).mono ?_
  rintro e w4 ⟨rfl, hb4⟩
  have og4 := HG3.out.below hb4 (by omega)
  have ob4 := HO3.out.below hb4 (by omega)
  have s4 := hb4.size
  have HG4 := Lib.hid og4
  have HO4 := Lib.hid ob4
  have HB4 := Lib.hid (HB3.out.trans (hb4.mono HB3.out.size))
  clear og4 ob4 hb4 HG3 HO3 HB3
  go_wp2_with fail
  go_loopw [33] (fun i wr => ∃ k : Nat, k ≤ 4 ∧ i = .int .i64 (k : Int) ∧ Own wr g 5 (nums .u8 (stg E0 N n k)) ∧ Below g w4 wr) (fun i _ => 4 - (intOf i).toNat)
  case atStart => exact ⟨0, by omega, rfl, HG4.out, Below.refl _ _⟩
  case round =>
    obtain ⟨k, hk, rfl, hg, hbr⟩ := hrel
    have HG := Lib.hid hg
    have HB := Lib.hid hbr
    have hgl := hg.lt
    rcases (by omega : k = 0 ∨ k = 1 ∨ k = 2 ∨ k = 3 ∨ k = 4) with rfl | rfl | rfl | rfl | rfl
    · have q := hg.cell 1 (by rw [nums_length, stg_length]; omega)
      have z := hg.frozen 1
      clear hg hbr hk
      go_wp2
      go_roundw
      case rel =>
        have := HG.out.set 1 (.int .u8 (N % 256))
        rw [nums_set] at this
        exact ⟨1, by omega, by go_num, this, HB.out.setCell (p := ⟨g, 1, none⟩) (Nat.le_refl _) _⟩
      case measure => simp [intOf]
    · have q := hg.cell 2 (by rw [nums_length, stg_length]; omega)
      have z := hg.frozen 2
      clear hg hbr hk
      go_wp2
      go_roundw
      case rel =>
        have := HG.out.set 2 (.int .u8 (N / 256 % 256))
        rw [nums_set] at this
        exact ⟨2, by omega, by go_num, this, HB.out.setCell (p := ⟨g, 2, none⟩) (Nat.le_refl _) _⟩
      case measure => simp [intOf]
    · have q := hg.cell 3 (by rw [nums_length, stg_length]; omega)
      have z := hg.frozen 3
      clear hg hbr hk
      go_wp2
      go_roundw
      case rel =>
        have := HG.out.set 3 (.int .u8 (N / 65536 % 256))
        rw [nums_set] at this
        exact ⟨3, by omega, by go_num, this, HB.out.setCell (p := ⟨g, 3, none⟩) (Nat.le_refl _) _⟩
      case measure => simp [intOf]
    · have q := hg.cell 4 (by rw [nums_length, stg_length]; omega)
      have z := hg.frozen 4
      clear hg hbr hk
      go_wp2
      go_roundw
      case rel =>
        have := HG.out.set 4 (.int .u8 (N / 16777216 % 256))
        rw [nums_set, show N / 16777216 % 256 = N / 16777216 by omega] at this
        have e4 : (stg E0 N n 3).set 4 (N / 16777216) = stg E0 N n 4 := by
          show E0 :: (_ :: _ :: _ :: (N / 16777216) :: List.replicate n 0) = E0 :: (_ :: _ :: _ :: (N / 16777216 % 256) :: List.replicate n 0)
          rw [show N / 16777216 % 256 = N / 16777216 by omega]
        rw [e4] at this
        exact ⟨4, by omega, by go_num, this, HB.out.setCell (p := ⟨g, 4, none⟩) (Nat.le_refl _) _⟩
      case measure => simp [intOf]
    · obtain ⟨A, r1, r2, hA, _⟩ := cut_low (some ⟨g, 0, none⟩) (5 + n) (5 + n) 5 (by omega) (Nat.le_refl _)
      rw [Nat.add_sub_cancel_left] at r1 r2
      simp only [show ((5 : Nat) : Int) = 5 from rfl] at r1 r2
      have hrow := HR.out.later (HB4.out.trans (hbr.mono (by omega)))
      have ob := HO4.out.below hbr (by omega)
      obtain ⟨d0, d1, d2, d3, d4, d5, d6⟩ := unit_cells ob
      have HRow := Lib.hid hrow
      have HA := Lib.hid hA
      clear hg hbr hk ob hrow hA
      go_upto_region 12 with fail
      go_still_tail 4, (by kernel_rfl)
      change wpList _ _ _ _ _ wr.drew
      obtain ⟨cs, hcs⟩ : ∃ cs, cs = nums .u8 l := ⟨_, rfl⟩
      have hlen : cs.length = n := by rw [hcs, nums_length, hl]
      have HCs := Lib.hid hcs
      clear hcs
      refine wpList_copy_splice rfl (.tmp 47) (.tmp 49) 36 36 rfl 5 Tryd.underlying36 size8 _ _ n n n c rfl rfl g 5 (nums .u8 (stg E0 N n 4)) 5 ?_ cs ?_ ?_ ?_ ?_ g wr.drew ?_ (Nat.le_refl _) ?_
      · exact HG.out
      · rw [hlen]; simp
      · intro hpos
        rw [hlen] at hpos
        refine ⟨by simpa using HA.out (by omega) g 0 rfl, ?_⟩
        rcases HRow.out.cells with h0 | ⟨b, o, ha, hcc⟩
        · omega
        · refine ⟨⟨b, o, none⟩, ha, fun j v hj => ?_⟩
          have hjn : j < n := by rw [← hlen]; exact (List.getElem?_eq_some_iff.1 hj).1
          have e := hcc j hjn
          have e2 : v = .int .u8 (l.getD j 0) := by
            rw [HCs.out, nums, List.getElem?_map, List.getElem?_eq_getElem (by omega)] at hj
            simp at hj
            rw [← hj, List.getD_eq_getElem?_getD, List.getElem?_eq_getElem (by omega)]; rfl
          have ea : (⟨b, o, none⟩ : Addr).add j = ⟨b, o + j, none⟩ := by unfold Addr.add; split <;> simp_all
          rw [e2, ea]
          exact e
      · rw [hlen, nums_length, stg_length]; omega
      · intro v hv
        rw [HCs.out, nums, List.mem_map] at hv
        obtain ⟨y, _, rfl⟩ := hv
        rfl
      · exact Below.refl _ _
      · intro w' hg hb
        have hown : Own w' g 5 (nums .u8 (encM sv nw pr to fr sl l)) := by
          unfold Own
          rw [hg.out, HCs.out]
          congr 3
          rw [← hl, stg_fill, HE0.out, HN.out]
          rfl
        have HOwn := Lib.hid hown
        have HB5 := Lib.hid (HB4.out.trans ((HB.out.trans ((Below.refl g wr).drew.trans hb)).mono (by omega)))
        have hgw : w.heap.size ≤ g := by omega
        clear hg hb hown
        go_wp2
        go_ret2
        exact ⟨g, rfl, hgw, HOwn.out, HB5.out⟩
end Go.Proofs.YtcojjhokcebogaaDoor
