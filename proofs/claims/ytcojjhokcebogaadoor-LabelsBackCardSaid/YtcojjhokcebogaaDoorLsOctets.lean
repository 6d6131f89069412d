/- The statements' own function Octets. -/
import Derived.Test.YtcojjhokcebogaaDoorLbEnc
namespace Go.Proofs.YtcojjhokcebogaaDoor
open Go.RowKit

/-- The octets of the definition, in a slice of the call's own. -/
def OctOut (w : World) (sv nw pr to fr sl : Int) (n : Nat) (l : List Int) (e : Ending) (w' : World) : Prop :=
  ∃ s q, e = .returned (.slice s (5 + n) q) ∧ Row .u8 w' s (5 + n) q (encM sv nw pr to fr sl l) ∧ Below w.heap.size w w'
def nk (N : Int) : Nat → Int
  | 0 => N
  | 1 => N / 256
  | 2 => N / 65536
  | 3 => N / 16777216
  | _ => N / 16777216 / 256
theorem owns_one {w : World} {g e B : Nat} {x : Int} (h : Own w g e (nums .u8 [x])) (hB : B ≤ g) : w.ownsRow B e 1 (.slice (some ⟨g, 0, none⟩) 1 1) 1 (nums .u8 [x]) :=
  ⟨rfl, .inr ⟨g, 1, _, rfl, hB, h, Nat.le_refl _, by unfold maxLen; omega, rfl, rfl⟩⟩
set_option maxHeartbeats 4000000 in
set_option maxRecDepth 100000 in
theorem octets_any (sv nw pr to fr sl : Int) (a : Option Addr) (n c : Nat) (l : List Int) (w : World) (h : Row .u8 w a n c l) (hn : n ≤ 1000) (h0 : 0 ≤ sv) (h0' : sv ≤ 15) (h1 : 0 ≤ nw) (h1' : nw ≤ 3) (h2 : 0 ≤ pr) (h2' : pr ≤ 3) (h3 : 0 ≤ to) (h3' : to ≤ 16383) (h4 : 0 ≤ fr) (h4' : fr ≤ 16383) (h5 : 0 ≤ sl) (h5' : sl ≤ 15) :
    Calls Tryd.prog 20 #[.agg #[.int .u8 sv, .int .u8 nw, .int .u8 pr, .int .u16 to, .int .u16 fr, .int .u8 sl, .slice a n c]] w fun e w' => OctOut w sv nw pr to fr sl n l e w' := by
  obtain ⟨E0, hE⟩ : ∃ E, E = hdM sv nw pr := ⟨_, rfl⟩
  obtain ⟨N, hN⟩ : ∃ N, N = numM to fr sl := ⟨_, rfl⟩
  have eE : sv + 16 * pr + 64 * nw = E0 := by rw [hE]; rfl
  have eN : to + 16384 * fr + 268435456 * sl = N := by rw [hN]; rfl
  have rE : 0 ≤ E0 ∧ E0 ≤ 255 := by omega
  have rN : 0 ≤ N ∧ N ≤ 4294967295 := by omega
  have b1 : 16 * pr ≤ 48 := by omega
  have b2 : sv + 16 * pr ≤ 63 := by omega
  have b3 : 64 * nw ≤ 192 := by omega
  have b4 : 16384 * fr ≤ 268419072 := by omega
  have b5 : to + 16384 * fr ≤ 268435455 := by omega
  have b6 : 268435456 * sl ≤ 4026531840 := by omega
  have q1 : N / 256 / 256 = N / 65536 := by omega
  have q2 : N / 65536 / 256 = N / 16777216 := by omega
  obtain ⟨i0, hi, hz0, hz1, hz2⟩ := info_parts info8
  have HI := Lib.hid (And.intro hi (And.intro hz0 (And.intro hz1 hz2)))
  have hb0 := below_alloc w (.cells #[.int .u8 sv, .int .u8 nw, .int .u8 pr, .int .u16 to, .int .u16 fr, .int .u8 sl, .slice a n c] 38)
  have ob := own_lit w 38 #[.int .u8 sv, .int .u8 nw, .int .u8 pr, .int .u16 to, .int .u16 fr, .int .u8 sl, .slice a n c] _ rfl
  have hwf := h.wf
  have hln := h.len
  have HR := Lib.hid (h.later hb0)
  have HE := Lib.hid hE
  have HN := Lib.hid hN
  have HWf := Lib.hid hwf
  clear h hi hz0 hz1 hz2 hE hN hwf
  go_enter Tryd.func20, Tryd.ntmps20
  go_upto_region 1 with fail
  generalize w.alloc (.cells #[.int .u8 sv, .int .u8 nw, .int .u8 pr, .int .u16 to, .int .u16 fr, .int .u8 sl, .slice a n c] 38) = W0 at *
  obtain ⟨pb, hpb⟩ : ∃ p, p = w.heap.size := ⟨_, rfl⟩
  rw [← hpb] at ob ⊢
  have hwp : w.heap.size ≤ pb := by omega
  have hob := ob.lt
  obtain ⟨c0, c1, c2, c3, c4, c5, c6⟩ := unit_cells ob
  have B0 := Lib.hid hb0
  have O0 := Lib.hid ob
  clear hpb ob hb0
  go_upto_region 2 with fail
  have hb1 := below_alloc W0 (.cells #[.int .u8 E0] 5)
  have oe := own_lit W0 5 #[.int .u8 E0] _ rfl
  have ob1 := O0.out.below hb1 hob
  generalize W0.alloc (.cells #[.int .u8 E0] 5) = W1 at *
  clear c0 c1 c2 c3 c4 c5 c6
  obtain ⟨c0, c1, c2, c3, c4, c5, c6⟩ := unit_cells ob1
  have hown1 := owns_one oe (Nat.le_refl _)
  have HO1 := Lib.hid hown1
  have HB1 := Lib.hid hb1
  clear oe ob1 hown1 hb1
  go_wp2_with fail
  go_loopw [3, 4, 5] (fun v nn i wr => ∃ k : Nat, k ≤ 4 ∧ i = .int .i64 (k : Int) ∧ nn = .int .u64 (nk N k) ∧ wr.ownsRow W0.heap.size 5 1 v (1 + k) (nums .u8 (E0 :: (fr4 N 4).take k)) ∧ Below W0.heap.size W0 wr) (fun _ _ i _ => 4 - (intOf i).toNat)
  case atStart => exact ⟨0, by omega, rfl, rfl, HO1.out, HB1.out⟩
  case round =>
    obtain ⟨k, hk, rfl, rfl, hown, hbr⟩ := hrel
    have hszr := hbr.size
    have HOw := Lib.hid hown
    have HBr := Lib.hid hbr
    clear hown hbr
    rcases (by omega : k = 0 ∨ k = 1 ∨ k = 2 ∨ k = 3 ∨ k = 4) with rfl | rfl | rfl | rfl | rfl
    · simp only [nk] at *
      clear hk
      go_wp2_with (at_builtin; refine wpList_append_one Tryd.underlying36 info8 (by decide) rfl (.tmp 37) (.tmp 41) rfl W0.heap.size _ 1 (E0 :: (fr4 N 4).take 0) (N % 256) rfl (by exact HOw.out) rfl (by decide) hszr ?_)
      intro v2 w2 h2 h3 _ _ _
      have hb2 := HBr.out.trans (h3.below (B := W0.heap.size) hszr (fun j hj => (World.ownsRow.lt HOw.out j hj).1))
      have h2' : w2.ownsRow W0.heap.size 5 1 v2 (1 + 1) (nums .u8 (E0 :: (fr4 N 4).take 1)) := by
        simpa [fr4] using h2
      have HO2 := Lib.hid h2'
      have HB2 := Lib.hid hb2
      clear h2 h2' h3 hb2
      go_wp2
      go_roundw
      case rel => exact ⟨1, by omega, by go_num, rfl, HO2.out, HB2.out⟩
      case measure => simp [intOf]
    · simp only [nk] at *
      clear hk
      go_wp2_with (at_builtin; refine wpList_append_one Tryd.underlying36 info8 (by decide) rfl (.tmp 37) (.tmp 41) rfl W0.heap.size _ 2 (E0 :: (fr4 N 4).take 1) (N / 256 % 256) rfl (by exact HOw.out) rfl (by decide) hszr ?_)
      intro v2 w2 h2 h3 _ _ _
      have hb2 := HBr.out.trans (h3.below (B := W0.heap.size) hszr (fun j hj => (World.ownsRow.lt HOw.out j hj).1))
      have h2' : w2.ownsRow W0.heap.size 5 1 v2 (1 + 2) (nums .u8 (E0 :: (fr4 N 4).take 2)) := by
        simpa [fr4] using h2
      have HO2 := Lib.hid h2'
      have HB2 := Lib.hid hb2
      clear h2 h2' h3 hb2
      go_wp2
      go_roundw
      case rel => exact ⟨2, by omega, by go_num, congrArg (Value.int .u64) (show N / 256 / 256 = N / 65536 from q1), HO2.out, HB2.out⟩
      case measure => simp [intOf]
    · simp only [nk] at *
      clear hk
      go_wp2_with (at_builtin; refine wpList_append_one Tryd.underlying36 info8 (by decide) rfl (.tmp 37) (.tmp 41) rfl W0.heap.size _ 3 (E0 :: (fr4 N 4).take 2) (N / 65536 % 256) rfl (by exact HOw.out) rfl (by decide) hszr ?_)
      intro v2 w2 h2 h3 _ _ _
      have hb2 := HBr.out.trans (h3.below (B := W0.heap.size) hszr (fun j hj => (World.ownsRow.lt HOw.out j hj).1))
      have h2' : w2.ownsRow W0.heap.size 5 1 v2 (1 + 3) (nums .u8 (E0 :: (fr4 N 4).take 3)) := by
        simpa [fr4] using h2
      have HO2 := Lib.hid h2'
      have HB2 := Lib.hid hb2
      clear h2 h2' h3 hb2
      go_wp2
      go_roundw
      case rel => exact ⟨3, by omega, by go_num, congrArg (Value.int .u64) (show N / 65536 / 256 = N / 16777216 from q2), HO2.out, HB2.out⟩
      case measure => simp [intOf]
    · simp only [nk] at *
      clear hk
      go_wp2_with (at_builtin; refine wpList_append_one Tryd.underlying36 info8 (by decide) rfl (.tmp 37) (.tmp 41) rfl W0.heap.size _ 4 (E0 :: (fr4 N 4).take 3) (N / 16777216 % 256) rfl (by exact HOw.out) rfl (by decide) hszr ?_)
      intro v2 w2 h2 h3 _ _ _
      have hb2 := HBr.out.trans (h3.below (B := W0.heap.size) hszr (fun j hj => (World.ownsRow.lt HOw.out j hj).1))
      have h2' : w2.ownsRow W0.heap.size 5 1 v2 (1 + 4) (nums .u8 (E0 :: (fr4 N 4).take 4)) := by
        simpa [fr4] using h2
      have HO2 := Lib.hid h2'
      have HB2 := Lib.hid hb2
      clear h2 h2' h3 hb2
      go_wp2
      go_roundw
      case rel => exact ⟨4, by omega, by go_num, rfl, HO2.out, HB2.out⟩
      case measure => simp [intOf]
    · simp only [nk] at *
      clear hk
      have ob2 := O0.out.below HBr.out hob
      clear c0 c1 c2 c3 c4 c5 c6
      obtain ⟨c0, c1, c2, c3, c4, c5, c6⟩ := unit_cells ob2
      have HR2 := Lib.hid (HR.out.later HBr.out)
      clear ob2
      go_wp2_with (at_builtin; refine wpList_append_list rfl (.tmp 45) (.tmp 47) 36 rfl W0.heap.size 5 i0 (.int .u8 0) 1 Tryd.underlying36 HI.out.1 HI.out.2.1 HI.out.2.2.1 HI.out.2.2.2 rfl .u8 _ 5 (E0 :: (fr4 N 4).take 4) rfl (by exact HOw.out) a n c l rfl HR2.out ?_ ?_ hszr ?_)
      · unfold maxLen; omega
      · omega
      intro v3 w3 h3 hg3
      have hb3 : Below W0.heap.size W0 w3 := HBr.out.grown hg3 hszr (fun j hj => (World.ownsRow.lt HOw.out j hj).1)
      have e3 : (E0 :: (fr4 N 4).take 4) ++ l = encM sv nw pr to fr sl l := by
        rw [HE.out, HN.out]; rfl
      have h3' : w3.ownsRow W0.heap.size 5 1 v3 (5 + n) (nums .u8 (encM sv nw pr to fr sl l)) := by
        rw [← e3]
        simpa [fr4] using h3
      obtain ⟨s3, q3, rfl, hrow, _⟩ := ownsRow_rowN .u8 h3' (by
        intro x hx
        rw [← e3] at hx
        rw [List.mem_append] at hx
        rcases hx with hx | hx
        · simp only [fr4, List.take_succ_cons, List.take_zero, List.mem_cons, List.not_mem_nil, or_false] at hx
          exact wf_u8.2 (by omega)
        · exact HWf.out x hx)
      have HRow := Lib.hid hrow
      have HB3 := Lib.hid (B0.out.trans (hb3.mono B0.out.size))
      clear h3 h3' hg3 hb3 hrow e3
      go_wp2
      go_ret
      exact ⟨s3, q3, rfl, HRow.out, HB3.out⟩
end Go.Proofs.YtcojjhokcebogaaDoor
