/- CongestionsHear: the level of each destination is the last that was told, lowered as time passes. -/
import Derived.Test.YtahkmadapojjkaaCgMarks
import Derived.Test.YtahkmadapojjkaaFnRow
import Derived.Test.YtahkmadapojjkaaOpenTri
import Derived.Deep.RegionHeld3
namespace Go.Proofs.Ytahkmadapojjkaa
open Go.RowKit Go.Maps

def dom8 : List Int := [0, 1, 2, 3, 4, 5, 6, 7]
theorem dom8_ok : dom8.Nodup ∧ (∀ n, n ∈ dom8 → (Lit.int .u16 n).wf = true) ∧ dom8.length ≤ 1000 := by decide
theorem dom8_mem {i : Int} (h : 0 ≤ i ∧ i < 8) : i ∈ dom8 := by
  have : i = 0 ∨ i = 1 ∨ i = 2 ∨ i = 3 ∨ i = 4 ∨ i = 5 ∨ i = 6 ∨ i = 7 := by omega
  rcases this with rfl | rfl | rfl | rfl | rfl | rfl | rfl | rfl <;> decide
def ctB (R : Int → Int × Int) (b : Int) : Ct := ⟨dom8, R, b⟩
theorem ctB_err (R : Int → Int × Int) (b now k n : Int) (hk : 0 ≤ k ∧ k < 8) (hn : -1 ≤ n ∧ n ≤ 3) : (ctB R b).err now k n = if n < 0 then 1 else 0 := by
  unfold Ct.err
  have h1 : (ctB R b).others now k ≤ 8 := List.countP_le_length
  by_cases h : n < 0
  · rw [if_pos (.inl h), if_pos h]
  · rw [if_neg (by omega), if_neg h, if_neg (by omega)]
def atF (R : Int → Int × Int) (k : Nat) : Value := .int .i64 (R k).2
def lvF (R : Int → Int × Int) (k : Nat) : Value := .int .i64 (R k).1
theorem lowM_at (r : Int × Int) (b : Int) : lowM r (r.2 - 1) b = r.1 := by unfold lowM; rw [if_pos (by omega)]
/-- The level that the statement reckons. -/
theorem lowM_want (r : Int × Int) (t b : Int) (hb : 1 ≤ b) (ht : r.2 ≤ t) (hl : 0 ≤ r.1) : lowM r t b = if r.1 - (t - r.2) / b < 0 then 0 else r.1 - (t - r.2) / b := by
  have h0 := Int.ediv_nonneg (a := t - r.2) (b := b) (by omega) (by omega)
  unfold lowM
  by_cases h : t ≤ r.2
  · rw [if_pos h, show t - r.2 = 0 by omega, Int.zero_ediv, if_neg (by omega)]; omega
  · rw [if_neg h]
    split <;> omega
/-- Between two reports. -/
structure HrAt (W : World) (cb bm d1 d2 : Nat) (R : Int → Int × Int) (b now : Int) : Prop where
  c : CtAt W cb bm (ctB R b)
  ats : FR W d1 44 8 (atF R)
  lvs : FR W d2 44 8 (lvF R)
  le : ∀ k : Nat, k < 8 → 0 ≤ (R k).2 ∧ (R k).2 ≤ now
theorem HrAt.below {W W' : World} {cb bm d1 d2 : Nat} {R : Int → Int × Int} {b now : Int} (h : HrAt W cb bm d1 d2 R b now) (hb : Below W.heap.size W W') : HrAt W' cb bm d1 d2 R b now :=
  ⟨h.c.below hb, h.ats.below hb, h.lvs.below hb, h.le⟩
set_option maxHeartbeats 8000000 in
set_option maxRecDepth 100000 in
theorem hear_walk (base : Int) (a : Option Addr) (N c : Nat) (l : List (Int × Int × Int)) (w : World) (h0 : (Lit.int .u8 base).wf = true) (h : Tris .u8 .u8 .u8 w a N c l) :
    Calls Try.prog 6 #[.int .u8 base, .slice a N c] w fun e w' => e = .returned (.bool true) ∧ Below w.heap.size w w' := by
  have HR := Lib.hid h
  have hlen := h.len
  have HL := Lib.hid hlen
  have hb0 := wf8.1 h0
  have t0 : base.tmod 64 = base % 64 := Int.tmod_eq_emod_of_nonneg hb0.1
  obtain ⟨r, hr⟩ : ∃ r, r = base % 64 := ⟨_, rfl⟩
  rw [← hr] at t0
  have u0 : IntKind.u8.wrap r = r := by simp only [IntKind.wrap_u8]; omega
  have n0 : IntKind.i64.wrap r = r := IntWalk.i64_in _ (by omega)
  obtain ⟨b, hb⟩ : ∃ b, b = 1 + r := ⟨_, rfl⟩
  have j0 : IntKind.i64.wrap (1 + r) = b := by rw [IntWalk.i64_in _ (by omega), hb]
  have HBn := Lib.hid (show 1 ≤ b ∧ b ≤ 64 by omega)
  clear h0 h hlen hb0 hr hb
  by_cases hbig : (100 : Int) < (N : Int)
  · go_enter Try.func6, Try.ntmps6
    go_wp2_with fail
    refine (lives_any w).mono ?_
    rintro e wz ⟨rfl, hb⟩
    have HBz := Lib.hid hb
    clear hb
    go_wp2
    go_ret
    exact ⟨rfl, HBz.out⟩
  have HS := Lib.hid (show N ≤ 100 by omega)
  go_enter Try.func6, Try.ntmps6
  go_wp2_with fail
  refine (newC_any dom8 b w (wf_i64.2 (by have := HBn.out; omega)) dom8_ok).mono ?_
  rintro e w1 ⟨hb, h⟩
  rcases h with ⟨_, cb, bm, rfl, hc, hlc, hlb⟩ | ⟨hbad, _⟩
  rotate_left
  · exact absurd HBn.out.1 hbad
  have HX1 := Lib.hid hb
  have HC1 := Lib.hid (show CtAt w1 cb bm (ctB (fun _ => (0, 0)) b) from hc)
  have HLo := Lib.hid (show w.heap.size ≤ cb ∧ w.heap.size ≤ bm ∧ cb < w1.heap.size ∧ bm < w1.heap.size from ⟨hlc, hlb, hc.lt, hc.ltm⟩)
  clear hb hc hlc hlb hbig
  go_upto_region 8 with fail
  have x2 := below_alloc w1 (.cells #[.int .i64 0, .int .i64 0, .int .i64 0, .int .i64 0, .int .i64 0, .int .i64 0, .int .i64 0, .int .i64 0] 44)
  have o2 : FR (w1.alloc (.cells #[.int .i64 0, .int .i64 0, .int .i64 0, .int .i64 0, .int .i64 0, .int .i64 0, .int .i64 0, .int .i64 0] 44)) w1.heap.size 44 8 (atF (fun _ => (0, 0))) := heap_alloc_new w1 _
  have s2 : (w1.alloc (.cells #[.int .i64 0, .int .i64 0, .int .i64 0, .int .i64 0, .int .i64 0, .int .i64 0, .int .i64 0, .int .i64 0] 44)).heap.size = w1.heap.size + 1 := World.size_alloc w1 _
  have x3 := below_alloc (w1.alloc (.cells #[.int .i64 0, .int .i64 0, .int .i64 0, .int .i64 0, .int .i64 0, .int .i64 0, .int .i64 0, .int .i64 0] 44)) (.cells #[.int .i64 0, .int .i64 0, .int .i64 0, .int .i64 0, .int .i64 0, .int .i64 0, .int .i64 0, .int .i64 0] 44)
  have o3 : FR ((w1.alloc (.cells #[.int .i64 0, .int .i64 0, .int .i64 0, .int .i64 0, .int .i64 0, .int .i64 0, .int .i64 0, .int .i64 0] 44)).alloc (.cells #[.int .i64 0, .int .i64 0, .int .i64 0, .int .i64 0, .int .i64 0, .int .i64 0, .int .i64 0, .int .i64 0] 44)) (w1.alloc (.cells #[.int .i64 0, .int .i64 0, .int .i64 0, .int .i64 0, .int .i64 0, .int .i64 0, .int .i64 0, .int .i64 0] 44)).heap.size 44 8 (lvF (fun _ => (0, 0))) := heap_alloc_new _ _
  have o2' := o2.below x3
  rw [s2] at o3
  have x4 := x2.trans (x3.mono x2.size)
  obtain ⟨d1, hd1⟩ : ∃ d, d = w1.heap.size := ⟨_, rfl⟩
  obtain ⟨d2, hd2⟩ : ∃ d, d = w1.heap.size + 1 := ⟨_, rfl⟩
  rw [← hd2] at o3 ⊢
  rw [← hd1] at o2' ⊢
  clear o2 x2 x3 s2
  generalize (w1.alloc (.cells #[.int .i64 0, .int .i64 0, .int .i64 0, .int .i64 0, .int .i64 0, .int .i64 0, .int .i64 0, .int .i64 0] 44)).alloc (.cells #[.int .i64 0, .int .i64 0, .int .i64 0, .int .i64 0, .int .i64 0, .int .i64 0, .int .i64 0, .int .i64 0] 44) = w3 at o2' o3 x4 ⊢
  have HX3 := Lib.hid (HX1.out.trans (x4.mono HX1.out.size))
  have HR3 := Lib.hid (HR.out.later HX3.out)
  have HA3 : Hid (HrAt w3 cb bm d1 d2 (fun _ => (0, 0)) b 0) := Lib.hid ⟨HC1.out.below x4, o2', o3, fun k _ => ⟨Int.le_refl _, Int.le_refl _⟩⟩
  have HD := Lib.hid (show d1 ≠ cb ∧ d1 ≠ bm ∧ d2 ≠ cb ∧ d2 ≠ bm ∧ d1 ≠ d2 ∧ w.heap.size ≤ d1 ∧ w.heap.size ≤ d2 by have h1 := HLo.out; have h2 := HX1.out.size; omega)
  clear o2' o3 x4 hd1 hd2
  go_wp2_with fail
  go_loopw [10, 11] (fun u v wr => ∃ (i : Nat) (z : Int) (R : Int → Int × Int), i ≤ N ∧ v = .int .i64 i ∧ u = .int .i64 z ∧ (0 ≤ z ∧ z ≤ i * 255) ∧ HrAt wr cb bm d1 d2 R b z ∧ Exc (fun j => j = cb ∨ j = bm ∨ j = d1 ∨ j = d2) w3 wr) (fun _ v _ => N - (intOf v).toNat)
  case atStart => exact ⟨0, 0, _, Nat.zero_le _, rfl, rfl, ⟨by omega, by simp⟩, HA3.out, Exc.refl _ _⟩
  case round =>
    obtain ⟨i, z, R, hi, rfl, rfl, hz, ha, hx⟩ := hrel
    have HA := Lib.hid ha
    have HX := Lib.hid hx
    by_cases hin : i < N
    · have i1 : (i : Int) < (N : Int) := by omega
      have i2 : (0 : Int) ≤ (i : Int) := by omega
      have HI := Lib.hid hin
      have HZ := Lib.hid hz
      have iw : IntKind.i64.wrap ((i : Int) + 1) = (i : Int) + 1 := IntWalk.i64_in _ (by have := HS.out; omega)
      obtain ⟨bl, off, had, hc⟩ := HR3.out.cells.resolve_left (by omega)
      have hbl : bl < w.heap.size := by
        obtain ⟨b', off', had', hc'⟩ := HR.out.cells.resolve_left (by omega)
        rw [had] at had'
        obtain ⟨rfl, _, _⟩ := Addr.mk.inj (Option.some.inj had')
        exact World.block_lt_of_cell? w _ (hc' i hin).1
      have hnb : ¬ (bl = cb ∨ bl = bm ∨ bl = d1 ∨ bl = d2) := by have h1 := HD.out; have h2 := HLo.out; omega
      have e0 := hx.cell (hc i hin).1 hnb
      have e1 := hx.cell (hc i hin).2.1 hnb
      have e2 := hx.cell (hc i hin).2.2 hnb
      have hyw := HR3.out.wf _ (show l.getD i (0, 0, 0) ∈ l by rw [List.getD_eq_getElem?_getD, List.getElem?_eq_getElem (show i < l.length by rw [HL.out]; exact hin)]; exact List.getElem_mem _)
      obtain ⟨y0, hy0⟩ : ∃ y, y = (l.getD i (0, 0, 0)).1 := ⟨_, rfl⟩
      obtain ⟨y1, hy1⟩ : ∃ y, y = (l.getD i (0, 0, 0)).2.1 := ⟨_, rfl⟩
      obtain ⟨y2, hy2⟩ : ∃ y, y = (l.getD i (0, 0, 0)).2.2 := ⟨_, rfl⟩
      rw [← hy0, ← hy1, ← hy2] at hyw
      rw [← hy0] at e0
      rw [← hy1] at e1
      rw [← hy2] at e2
      have q0 := wf8.1 hyw.1
      have q1 := wf8.1 hyw.2.1
      have q2 := wf8.1 hyw.2.2
      have w0 : IntKind.i64.wrap y0 = y0 := IntWalk.i64_in _ (by omega)
      obtain ⟨now, hnow⟩ : ∃ x, x = z + y0 := ⟨_, rfl⟩
      have w1' : IntKind.i64.wrap (z + y0) = now := by rw [hnow]; exact IntWalk.i64_in _ (by have := HS.out; omega)
      have t1 : y1.tmod 8 = y1 % 8 := Int.tmod_eq_emod_of_nonneg q1.1
      obtain ⟨to1, hto⟩ : ∃ k : Nat, (k : Int) = y1 % 8 := ⟨(y1 % 8).toNat, by omega⟩
      rw [← hto] at t1
      have w2 : IntKind.u8.wrap (to1 : Int) = (to1 : Int) := by simp only [IntKind.wrap_u8]; omega
      have w3' : IntKind.i64.wrap (to1 : Int) = (to1 : Int) := IntWalk.i64_in _ (by omega)
      have w4 : IntKind.u16.wrap (to1 : Int) = (to1 : Int) := by simp only [IntKind.wrap_u16]; omega
      have t2 : y2.tmod 5 = y2 % 5 := Int.tmod_eq_emod_of_nonneg q2.1
      obtain ⟨m, hm⟩ : ∃ k, k = y2 % 5 := ⟨_, rfl⟩
      rw [← hm] at t2
      have w5 : IntKind.u8.wrap m = m := by simp only [IntKind.wrap_u8]; omega
      have w6 : IntKind.i64.wrap m = m := IntWalk.i64_in _ (by omega)
      obtain ⟨lev, hlev⟩ : ∃ x, x = m - 1 := ⟨_, rfl⟩
      have w7 : IntKind.i64.wrap (m - 1) = lev := by rw [hlev]; exact IntWalk.i64_in _ (by omega)
      have HNw := Lib.hid (show z ≤ now ∧ 0 ≤ now ∧ now ≤ (i + 1) * 255 ∧ now ≤ 100000 by have := HS.out; omega)
      have HLv := Lib.hid (show -1 ≤ lev ∧ lev ≤ 3 by omega)
      have HTo := Lib.hid (show to1 < 8 by omega)
      have to2 : (0 : Int) ≤ (to1 : Int) := by omega
      have to3 : (to1 : Int) < 8 := by omega
      subst had
      clear hy0 hy1 hy2 hyw q0 q1 q2 hnow hto hm hlev hc hx hin hi hz ha hnb hbl
      go_wp2_with fail
      refine (hear_any now to1 lev wr HA.out.c (wf_i64.2 (by have := HNw.out; omega)) (dom8_mem (by have := HTo.out; omega))).mono ?_
      rintro e v6 ⟨rfl, hc, hx⟩
      rw [ctB_err R b now to1 lev (by have := HTo.out; omega) HLv.out] at hc ⊢
      have HX6 := Lib.hid (HX.out.trans (hx.weak (S' := fun j => j = cb ∨ j = bm ∨ j = d1 ∨ j = d2) (fun j _ hj => by rcases hj with hj | hj; exact .inl hj; exact .inr (.inl hj))) (fun _ _ h => h))
      have HF1 := Lib.hid (HA.out.ats.exc hx (show ¬ Cu cb bm d1 by unfold Cu; have := HD.out; omega))
      have HF2 := Lib.hid (HA.out.lvs.exc hx (show ¬ Cu cb bm d2 by unfold Cu; have := HD.out; omega))
      clear hx e0 e1 e2
      by_cases hneg : lev < 0
      · have hneg2 : ¬ 0 ≤ lev := by omega
        have hneg3 : decide (0 ≤ lev) = false := decide_eq_false hneg2
        rw [if_pos hneg] at hc ⊢
        rw [if_neg (by decide)] at hc
        have HA7 : Hid (HrAt v6 cb bm d1 d2 R b now) := Lib.hid ⟨hc, HF1.out, HF2.out, fun k hk => by have h1 := HA.out.le k hk; have h2 := HNw.out; omega⟩
        clear hc HF1 HF2 HA hneg
        go_wp2_with fail
        go_loopw [15] (fun v wv => ∃ k : Nat, k ≤ 8 ∧ v = .int .i64 k ∧ Below v6.heap.size v6 wv) (fun v _ => 8 - (intOf v).toNat)
        case atStart => exact ⟨0, by omega, rfl, Below.refl _ _⟩
        case round =>
          obtain ⟨k, hk, rfl, hb⟩ := hrel
          have HBk := Lib.hid hb
          clear hb
          by_cases hk8 : k < 8
          · have k1 : (k : Int) < 8 := by omega
            have k2 : (0 : Int) ≤ (k : Int) := by omega
            have kw : IntKind.i64.wrap ((k : Int) + 1) = (k : Int) + 1 := IntWalk.i64_in _ (by omega)
            have ku : IntKind.u16.wrap (k : Int) = (k : Int) := by simp only [IntKind.wrap_u16]; omega
            have HK := Lib.hid hk8
            have hb3 : IntKind.i64.wrap (3 * b) = 3 * b := IntWalk.i64_in _ (by have := HBn.out; omega)
            have hb1 : IntKind.i64.wrap (b - 1) = b - 1 := IntWalk.i64_in _ (by have := HBn.out; omega)
            have HT := Lib.hid (HA7.out.le k hk8)
            have HVl := Lib.hid (HA7.out.c.lev k)
            clear hk
            go_wp2_with fail
            go_loopw [16] (fun v wu => ∃ t : Int, (0 ≤ t ∧ t ≤ 3 * b + 70) ∧ v = .int .i64 t ∧ Below v6.heap.size v6 wu) (fun v _ => (400 - intOf v).toNat)
            case atStart => exact ⟨0, ⟨by omega, by have := HBn.out; omega⟩, rfl, HBk.out⟩
            case round =>
              obtain ⟨t, ht, rfl, hb⟩ := hrel
              have HBt := Lib.hid hb
              have HTt := Lib.hid ht
              have HAr := Lib.hid (HA7.out.below hb)
              clear hb
              have cA := HAr.out.ats.cell HK.out
              have cL := HAr.out.lvs.cell HK.out
              unfold atF at cA
              unfold lvF at cL
              by_cases h3 : t < 3 * b
              · have hwant := lowM_want (R k) (now + t) b HBn.out.1 (by have h1 := HT.out; omega) HVl.out.1
                have hq0 := Int.ediv_nonneg (a := now + t - (R k).2) (b := b) (by have h1 := HT.out; omega) (by have h1 := HBn.out; omega)
                have hq1 := Int.ediv_le_self (a := now + t - (R k).2) b (by have h1 := HT.out; omega)
                have htd : (now + t - (R k).2).tdiv b = (now + t - (R k).2) / b := Int.tdiv_eq_ediv_of_nonneg (by have h1 := HT.out; omega)
                have HLow := Lib.hid (fun W (hW : CtAt W cb bm (ctB R b)) => clevel_any (now + t) k W hW (wf_i64.2 (by have h1 := HNw.out; have h2 := HBn.out; omega)) (by simp [Lit.wf, IntKind.min, IntKind.max, IntKind.bits, IntKind.signed]; have := HK.out; omega))
                have hT0 := HT.out
                have hV0 := HVl.out
                obtain ⟨V, hV⟩ : ∃ x, x = (R k).1 := ⟨_, rfl⟩
                obtain ⟨T, hTT⟩ : ∃ x, x = (R k).2 := ⟨_, rfl⟩
                have hV1 : 0 ≤ V ∧ V ≤ 3 := by rw [hV]; exact hV0
                rw [← hTT] at cA hwant hq0 hq1 htd hT0
                rw [← hV] at cL hwant
                obtain ⟨q, hq⟩ : ∃ q, q = (now + t - T) / b := ⟨_, rfl⟩
                rw [← hq] at hwant hq0 hq1 htd
                have s1 : IntKind.i64.wrap (now + t) = now + t := IntWalk.i64_in _ (by have h1 := HNw.out; have h2 := HBn.out; omega)
                have s2 : IntKind.i64.wrap (now + t - T) = now + t - T := IntWalk.i64_in _ (by have h1 := HNw.out; have h2 := HBn.out; omega)
                have s3 : IntKind.i64.wrap q = q := IntWalk.i64_in _ (by have h1 := HNw.out; have h2 := HBn.out; omega)
                have s4 : IntKind.i64.wrap (V - q) = V - q := IntWalk.i64_in _ (by have h1 := HNw.out; have h2 := HBn.out; omega)
                have z1 : (b == 0) = false := by have h2 := HBn.out; simp; omega
                have z2 : ¬ b = 0 := by have h2 := HBn.out; omega
                have m1 : t.tmod 2 = t % 2 := Int.tmod_eq_emod_of_nonneg ht.1
                obtain ⟨m2, hm2⟩ : ∃ x, x = t % 2 := ⟨_, rfl⟩
                rw [← hm2] at m1
                have hm3 : 0 ≤ m2 ∧ m2 ≤ 1 := by omega
                have s5 : IntKind.i64.wrap m2 = m2 := IntWalk.i64_in _ (by omega)
                have s6 : IntKind.i64.wrap (b - 1 + m2) = b - 1 + m2 := IntWalk.i64_in _ (by have h2 := HBn.out; omega)
                have s7 : IntKind.i64.wrap (b - 1 + m2 + 1) = b - 1 + m2 + 1 := IntWalk.i64_in _ (by have h2 := HBn.out; omega)
                have s8 : IntKind.i64.wrap (t + (b - 1 + m2 + 1)) = t + (b - 1 + m2 + 1) := IntWalk.i64_in _ (by have h2 := HBn.out; omega)
                have HM3 := Lib.hid hm3
                have HH3 := Lib.hid h3
                have HWant := Lib.hid hwant
                clear hwant hq0 hq1 hT0 hV0 hV hTT hV1 hq hm2 hm3 ht
                by_cases hn : V - q < 0
                · have HWv := Lib.hid (HWant.out.trans (if_pos hn))
                  clear HWant
                  go_wp2_with go_quiet (fail)
                  have hb9 : ∀ q, Below wr.heap.size wr (wr.drewN q) := fun q => below_drewN (Below.refl _ wr) q
                  refine (HLow.out _ (HAr.out.c.below (hb9 _))).mono ?_
                  rintro e v8 ⟨rfl, hb⟩
                  rw [show lowM ((ctB R b).R k) (now + t) (ctB R b).base = 0 from HWv.out]
                  have HB8 : Hid (Below v6.heap.size v6 v8) := Lib.hid ((HBt.out.trans ((hb9 _).mono HBt.out.size)).trans (hb.mono (HBt.out.trans ((hb9 _).mono HBt.out.size)).size))
                  clear hb hb9 cA cL
                  go_wp2
                  refine ⟨⟨t + (b - 1 + m2 + 1), by have h1 := HTt.out; have h2 := HM3.out; have h3 := HBn.out; have h4 := HH3.out; omega, rfl, HB8.out⟩, ?_⟩
                  have h1 := HTt.out; have h2 := HM3.out; have h3 := HBn.out; have h4 := HH3.out
                  simp only [intOf]
                  omega
                · have HWv := Lib.hid (HWant.out.trans (if_neg hn))
                  clear HWant
                  go_wp2_with go_quiet (fail)
                  have hb9 : ∀ q, Below wr.heap.size wr (wr.drewN q) := fun q => below_drewN (Below.refl _ wr) q
                  refine (HLow.out _ (HAr.out.c.below (hb9 _))).mono ?_
                  rintro e v8 ⟨rfl, hb⟩
                  rw [show lowM ((ctB R b).R k) (now + t) (ctB R b).base = V - q from HWv.out]
                  have HB8 : Hid (Below v6.heap.size v6 v8) := Lib.hid ((HBt.out.trans ((hb9 _).mono HBt.out.size)).trans (hb.mono (HBt.out.trans ((hb9 _).mono HBt.out.size)).size))
                  clear hb hb9 cA cL
                  go_wp2
                  refine ⟨⟨t + (b - 1 + m2 + 1), by have h1 := HTt.out; have h2 := HM3.out; have h3 := HBn.out; have h4 := HH3.out; omega, rfl, HB8.out⟩, ?_⟩
                  have h1 := HTt.out; have h2 := HM3.out; have h3 := HBn.out; have h4 := HH3.out
                  simp only [intOf]
                  omega
              · have HLow := Lib.hid (fun W (hW : CtAt W cb bm (ctB R b)) => clevel_any ((R k).2 - 1) k W hW (wf_i64.2 (by have h1 := HNw.out; have h2 := HT.out; omega)) (by simp [Lit.wf, IntKind.min, IntKind.max, IntKind.bits, IntKind.signed]; have := HK.out; omega))
                have hlw : lowM ((ctB R b).R k) ((R k).2 - 1) (ctB R b).base = (R k).1 := lowM_at (R k) b
                have hT0 := HT.out
                obtain ⟨V, hV⟩ : ∃ x, x = (R k).1 := ⟨_, rfl⟩
                obtain ⟨T, hTT⟩ : ∃ x, x = (R k).2 := ⟨_, rfl⟩
                rw [← hV] at hlw cL
                rw [← hTT] at hlw cA hT0 HLow
                have HLw := Lib.hid hlw
                have s1 : IntKind.i64.wrap (T - 1) = T - 1 := IntWalk.i64_in _ (by have h1 := HNw.out; omega)
                have HKeep := Lib.hid (And.intro cA cL)
                have HC8 := Lib.hid ((HLow.out wr.drew (HAr.out.c.below (below_drewN (Below.refl _ wr) 1))).mono (R' := fun e v8 => e = .returned (.int .i64 V) ∧ HrAt v8 cb bm d1 d2 R b now ∧ Below v6.heap.size v6 v8 ∧ v8.cell? ⟨d1, k, none⟩ = some (.int .i64 T) ∧ v8.cell? ⟨d2, k, none⟩ = some (.int .i64 V)) (fun e v8 ⟨he, hb⟩ => by
                  have h1 : Below wr.heap.size wr v8 := (below_drewN (Below.refl _ wr) 1).trans hb
                  have h2 := HAr.out.below h1
                  have c1 := h2.ats.cell HK.out
                  have c2 := h2.lvs.cell HK.out
                  unfold atF at c1
                  unfold lvF at c2
                  rw [← hTT] at c1
                  rw [← hV] at c2
                  exact ⟨by rw [he, hlw], h2, HBt.out.trans (h1.mono HBt.out.size), c1, c2⟩))
                clear hlw hV hTT hT0 ht
                go_upto_region 30 with fail
                go_region_held3 (fun X => X.cell? ⟨d1, k, none⟩ = some (.int .i64 T) ∧ X.cell? ⟨d2, k, none⟩ = some (.int .i64 V)) (exact HKeep.out)
                  (first
                    | ((with_reducible refine HC8.out.mono ?_); rintro e v8 ⟨rfl, hA8, hB8, cA, cL⟩; have HA8 := Lib.hid hA8; have HB8 := Lib.hid hB8; have HKeep := Lib.hid (And.intro cA cL); clear hA8 hB8)
                    | fail)
                have hvv : (V != V) = false := by simp
                clear HKeep cA cL
                go_wp2
                exact ⟨⟨k + 1, by have := HK.out; omega, by go_num, HB8.out⟩, by simp [intOf]; have := HK.out; omega⟩
          · obtain rfl : k = 8 := by omega
            clear hk hk8
            go_wp2
            exact ⟨⟨i + 1, now, R, by have := HI.out; omega, by go_num, rfl, by have := HNw.out; omega, HA7.out.below HBk.out, HX6.out.trans (Exc.of_below HBk.out) (fun _ _ h => h)⟩, by simp [intOf]; have := HI.out; omega⟩
      · have hneg2 : 0 ≤ lev := by omega
        rw [if_neg hneg] at hc ⊢
        rw [if_pos rfl] at hc
        have HC6 := Lib.hid (show CtAt v6 cb bm (ctB (updR R to1 (lev, now)) b) from hc)
        have HLn := Lib.hid hneg2
        have f1 := HF1.out.frozen to1
        have f2 := HF2.out.frozen to1
        have f2b := (HF2.out.exc (S := fun j => j = d1) ((Exc.refl (fun j => j = d1) v6).setCell ⟨d1, to1, none⟩ (.inl rfl) (.int .i64 now)) (show ¬ d2 = d1 by have := HD.out; omega)).frozen to1
        have k1 := HF1.out.cell HTo.out
        have k2 := (HF2.out.exc (S := fun j => j = d1) ((Exc.refl (fun j => j = d1) v6).setCell ⟨d1, to1, none⟩ (.inl rfl) (.int .i64 now)) (show ¬ d2 = d1 by have := HD.out; omega)).cell HTo.out
        clear hc hneg
        go_upto_region 21 with fail
        clear k1 k2
        have hxA : Exc (fun j => j = d1) v6 (v6.setCell ⟨d1, to1, none⟩ (.int .i64 now)) := (Exc.refl (fun j => j = d1) v6).setCell ⟨d1, to1, none⟩ (.inl rfl) _
        have hxB : Exc (fun j => j = d2) (v6.setCell ⟨d1, to1, none⟩ (.int .i64 now)) ((v6.setCell ⟨d1, to1, none⟩ (.int .i64 now)).setCell ⟨d2, to1, none⟩ (.int .i64 lev)) := (Exc.refl (fun j => j = d2) _).setCell ⟨d2, to1, none⟩ (.inl rfl) _
        have hA7 : HrAt ((v6.setCell ⟨d1, to1, none⟩ (.int .i64 now)).setCell ⟨d2, to1, none⟩ (.int .i64 lev)) cb bm d1 d2 (updR R to1 (lev, now)) b now := by
          have hD := HD.out
          refine ⟨(HC6.out.exc hxA (show ¬ cb = d1 by omega) (show ¬ bm = d1 by omega)).exc hxB (show ¬ cb = d2 by omega) (show ¬ bm = d2 by omega), ?_, ?_, fun k hk => ?_⟩
          · refine ((HF1.out.set to1 (.int .i64 now)).exc hxB (show ¬ d1 = d2 by omega)).congr fun k hk => ?_
            unfold atF updR
            by_cases e : k = to1
            · rw [if_pos e, if_pos (by omega)]
            · rw [if_neg e, if_neg (by omega)]
          · refine ((HF2.out.exc hxA (show ¬ d2 = d1 by omega)).set to1 (.int .i64 lev)).congr fun k hk => ?_
            unfold lvF updR
            by_cases e : k = to1
            · rw [if_pos e, if_pos (by omega)]
            · rw [if_neg e, if_neg (by omega)]
          · unfold updR
            have h1 := HA.out.le k hk; have h2 := HNw.out
            split
            · exact ⟨h2.2.1, Int.le_refl _⟩
            · omega
        have hX7 : Exc (fun j => j = cb ∨ j = bm ∨ j = d1 ∨ j = d2) w3 ((v6.setCell ⟨d1, to1, none⟩ (.int .i64 now)).setCell ⟨d2, to1, none⟩ (.int .i64 lev)) := (HX6.out.setCell ⟨d1, to1, none⟩ (.inl (.inr (.inr (.inl rfl)))) _).setCell ⟨d2, to1, none⟩ (.inl (.inr (.inr (.inr rfl)))) _
        generalize (v6.setCell ⟨d1, to1, none⟩ (.int .i64 now)).setCell ⟨d2, to1, none⟩ (.int .i64 lev) = v7 at hA7 hX7 ⊢
        generalize updR R to1 (lev, now) = R7 at hA7 HC6 ⊢
        have HA7 := Lib.hid hA7
        have HX7 := Lib.hid hX7
        clear hA7 hX7 hxA hxB f1 f2 f2b HC6 HF1 HF2 HA HX6
        go_wp2_with fail
        go_loopw [15] (fun v wv => ∃ k : Nat, k ≤ 8 ∧ v = .int .i64 k ∧ Below v7.heap.size v7 wv) (fun v _ => 8 - (intOf v).toNat)
        case atStart => exact ⟨0, by omega, rfl, Below.refl _ _⟩
        case round =>
          obtain ⟨k, hk, rfl, hb⟩ := hrel
          have HBk := Lib.hid hb
          clear hb
          by_cases hk8 : k < 8
          · have k1 : (k : Int) < 8 := by omega
            have k2 : (0 : Int) ≤ (k : Int) := by omega
            have kw : IntKind.i64.wrap ((k : Int) + 1) = (k : Int) + 1 := IntWalk.i64_in _ (by omega)
            have ku : IntKind.u16.wrap (k : Int) = (k : Int) := by simp only [IntKind.wrap_u16]; omega
            have HK := Lib.hid hk8
            have hb3 : IntKind.i64.wrap (3 * b) = 3 * b := IntWalk.i64_in _ (by have := HBn.out; omega)
            have hb1 : IntKind.i64.wrap (b - 1) = b - 1 := IntWalk.i64_in _ (by have := HBn.out; omega)
            have HT := Lib.hid (HA7.out.le k hk8)
            have HVl := Lib.hid (HA7.out.c.lev k)
            clear hk
            go_wp2_with fail
            go_loopw [16] (fun v wu => ∃ t : Int, (0 ≤ t ∧ t ≤ 3 * b + 70) ∧ v = .int .i64 t ∧ Below v7.heap.size v7 wu) (fun v _ => (400 - intOf v).toNat)
            case atStart => exact ⟨0, ⟨by omega, by have := HBn.out; omega⟩, rfl, HBk.out⟩
            case round =>
              obtain ⟨t, ht, rfl, hb⟩ := hrel
              have HBt := Lib.hid hb
              have HTt := Lib.hid ht
              have HAr := Lib.hid (HA7.out.below hb)
              clear hb
              have cA := HAr.out.ats.cell HK.out
              have cL := HAr.out.lvs.cell HK.out
              unfold atF at cA
              unfold lvF at cL
              by_cases h3 : t < 3 * b
              · have hwant := lowM_want (R7 k) (now + t) b HBn.out.1 (by have h1 := HT.out; omega) HVl.out.1
                have hq0 := Int.ediv_nonneg (a := now + t - (R7 k).2) (b := b) (by have h1 := HT.out; omega) (by have h1 := HBn.out; omega)
                have hq1 := Int.ediv_le_self (a := now + t - (R7 k).2) b (by have h1 := HT.out; omega)
                have htd : (now + t - (R7 k).2).tdiv b = (now + t - (R7 k).2) / b := Int.tdiv_eq_ediv_of_nonneg (by have h1 := HT.out; omega)
                have HLow := Lib.hid (fun W (hW : CtAt W cb bm (ctB R7 b)) => clevel_any (now + t) k W hW (wf_i64.2 (by have h1 := HNw.out; have h2 := HBn.out; omega)) (by simp [Lit.wf, IntKind.min, IntKind.max, IntKind.bits, IntKind.signed]; have := HK.out; omega))
                have hT0 := HT.out
                have hV0 := HVl.out
                obtain ⟨V, hV⟩ : ∃ x, x = (R7 k).1 := ⟨_, rfl⟩
                obtain ⟨T, hTT⟩ : ∃ x, x = (R7 k).2 := ⟨_, rfl⟩
                have hV1 : 0 ≤ V ∧ V ≤ 3 := by rw [hV]; exact hV0
                rw [← hTT] at cA hwant hq0 hq1 htd hT0
                rw [← hV] at cL hwant
                obtain ⟨q, hq⟩ : ∃ q, q = (now + t - T) / b := ⟨_, rfl⟩
                rw [← hq] at hwant hq0 hq1 htd
                have s1 : IntKind.i64.wrap (now + t) = now + t := IntWalk.i64_in _ (by have h1 := HNw.out; have h2 := HBn.out; omega)
                have s2 : IntKind.i64.wrap (now + t - T) = now + t - T := IntWalk.i64_in _ (by have h1 := HNw.out; have h2 := HBn.out; omega)
                have s3 : IntKind.i64.wrap q = q := IntWalk.i64_in _ (by have h1 := HNw.out; have h2 := HBn.out; omega)
                have s4 : IntKind.i64.wrap (V - q) = V - q := IntWalk.i64_in _ (by have h1 := HNw.out; have h2 := HBn.out; omega)
                have z1 : (b == 0) = false := by have h2 := HBn.out; simp; omega
                have z2 : ¬ b = 0 := by have h2 := HBn.out; omega
                have m1 : t.tmod 2 = t % 2 := Int.tmod_eq_emod_of_nonneg ht.1
                obtain ⟨m2, hm2⟩ : ∃ x, x = t % 2 := ⟨_, rfl⟩
                rw [← hm2] at m1
                have hm3 : 0 ≤ m2 ∧ m2 ≤ 1 := by omega
                have s5 : IntKind.i64.wrap m2 = m2 := IntWalk.i64_in _ (by omega)
                have s6 : IntKind.i64.wrap (b - 1 + m2) = b - 1 + m2 := IntWalk.i64_in _ (by have h2 := HBn.out; omega)
                have s7 : IntKind.i64.wrap (b - 1 + m2 + 1) = b - 1 + m2 + 1 := IntWalk.i64_in _ (by have h2 := HBn.out; omega)
                have s8 : IntKind.i64.wrap (t + (b - 1 + m2 + 1)) = t + (b - 1 + m2 + 1) := IntWalk.i64_in _ (by have h2 := HBn.out; omega)
                have HM3 := Lib.hid hm3
                have HH3 := Lib.hid h3
                have HWant := Lib.hid hwant
                clear hwant hq0 hq1 hT0 hV0 hV hTT hV1 hq hm2 hm3 ht
                by_cases hn : V - q < 0
                · have HWv := Lib.hid (HWant.out.trans (if_pos hn))
                  clear HWant
                  go_wp2_with go_quiet (fail)
                  have hb9 : ∀ q, Below wr.heap.size wr (wr.drewN q) := fun q => below_drewN (Below.refl _ wr) q
                  refine (HLow.out _ (HAr.out.c.below (hb9 _))).mono ?_
                  rintro e v8 ⟨rfl, hb⟩
                  rw [show lowM ((ctB R7 b).R k) (now + t) (ctB R7 b).base = 0 from HWv.out]
                  have HB8 : Hid (Below v7.heap.size v7 v8) := Lib.hid ((HBt.out.trans ((hb9 _).mono HBt.out.size)).trans (hb.mono (HBt.out.trans ((hb9 _).mono HBt.out.size)).size))
                  clear hb hb9 cA cL
                  go_wp2
                  refine ⟨⟨t + (b - 1 + m2 + 1), by have h1 := HTt.out; have h2 := HM3.out; have h3 := HBn.out; have h4 := HH3.out; omega, rfl, HB8.out⟩, ?_⟩
                  have h1 := HTt.out; have h2 := HM3.out; have h3 := HBn.out; have h4 := HH3.out
                  simp only [intOf]
                  omega
                · have HWv := Lib.hid (HWant.out.trans (if_neg hn))
                  clear HWant
                  go_wp2_with go_quiet (fail)
                  have hb9 : ∀ q, Below wr.heap.size wr (wr.drewN q) := fun q => below_drewN (Below.refl _ wr) q
                  refine (HLow.out _ (HAr.out.c.below (hb9 _))).mono ?_
                  rintro e v8 ⟨rfl, hb⟩
                  rw [show lowM ((ctB R7 b).R k) (now + t) (ctB R7 b).base = V - q from HWv.out]
                  have HB8 : Hid (Below v7.heap.size v7 v8) := Lib.hid ((HBt.out.trans ((hb9 _).mono HBt.out.size)).trans (hb.mono (HBt.out.trans ((hb9 _).mono HBt.out.size)).size))
                  clear hb hb9 cA cL
                  go_wp2
                  refine ⟨⟨t + (b - 1 + m2 + 1), by have h1 := HTt.out; have h2 := HM3.out; have h3 := HBn.out; have h4 := HH3.out; omega, rfl, HB8.out⟩, ?_⟩
                  have h1 := HTt.out; have h2 := HM3.out; have h3 := HBn.out; have h4 := HH3.out
                  simp only [intOf]
                  omega
              · have HLow := Lib.hid (fun W (hW : CtAt W cb bm (ctB R7 b)) => clevel_any ((R7 k).2 - 1) k W hW (wf_i64.2 (by have h1 := HNw.out; have h2 := HT.out; omega)) (by simp [Lit.wf, IntKind.min, IntKind.max, IntKind.bits, IntKind.signed]; have := HK.out; omega))
                have hlw : lowM ((ctB R7 b).R k) ((R7 k).2 - 1) (ctB R7 b).base = (R7 k).1 := lowM_at (R7 k) b
                have hT0 := HT.out
                obtain ⟨V, hV⟩ : ∃ x, x = (R7 k).1 := ⟨_, rfl⟩
                obtain ⟨T, hTT⟩ : ∃ x, x = (R7 k).2 := ⟨_, rfl⟩
                rw [← hV] at hlw cL
                rw [← hTT] at hlw cA hT0 HLow
                have HLw := Lib.hid hlw
                have s1 : IntKind.i64.wrap (T - 1) = T - 1 := IntWalk.i64_in _ (by have h1 := HNw.out; omega)
                have HKeep := Lib.hid (And.intro cA cL)
                have HC8 := Lib.hid ((HLow.out wr.drew (HAr.out.c.below (below_drewN (Below.refl _ wr) 1))).mono (R' := fun e v8 => e = .returned (.int .i64 V) ∧ HrAt v8 cb bm d1 d2 R7 b now ∧ Below v7.heap.size v7 v8 ∧ v8.cell? ⟨d1, k, none⟩ = some (.int .i64 T) ∧ v8.cell? ⟨d2, k, none⟩ = some (.int .i64 V)) (fun e v8 ⟨he, hb⟩ => by
                  have h1 : Below wr.heap.size wr v8 := (below_drewN (Below.refl _ wr) 1).trans hb
                  have h2 := HAr.out.below h1
                  have c1 := h2.ats.cell HK.out
                  have c2 := h2.lvs.cell HK.out
                  unfold atF at c1
                  unfold lvF at c2
                  rw [← hTT] at c1
                  rw [← hV] at c2
                  exact ⟨by rw [he, hlw], h2, HBt.out.trans (h1.mono HBt.out.size), c1, c2⟩))
                clear hlw hV hTT hT0 ht
                go_upto_region 30 with fail
                go_region_held3 (fun X => X.cell? ⟨d1, k, none⟩ = some (.int .i64 T) ∧ X.cell? ⟨d2, k, none⟩ = some (.int .i64 V)) (exact HKeep.out)
                  (first
                    | ((with_reducible refine HC8.out.mono ?_); rintro e v8 ⟨rfl, hA8, hB8, cA, cL⟩; have HA8 := Lib.hid hA8; have HB8 := Lib.hid hB8; have HKeep := Lib.hid (And.intro cA cL); clear hA8 hB8)
                    | fail)
                have hvv : (V != V) = false := by simp
                clear HKeep cA cL
                go_wp2
                exact ⟨⟨k + 1, by have := HK.out; omega, by go_num, HB8.out⟩, by simp [intOf]; have := HK.out; omega⟩
          · obtain rfl : k = 8 := by omega
            clear hk hk8
            go_wp2
            exact ⟨⟨i + 1, now, R7, by have := HI.out; omega, by go_num, rfl, by have := HNw.out; omega, HA7.out.below HBk.out, HX7.out.trans (Exc.of_below HBk.out) (fun _ _ h => h)⟩, by simp [intOf]; have := HI.out; omega⟩
    · obtain rfl : i = N := by omega
      have HXf := Lib.hid (HX3.out.trans (hx.below HX3.out.size (fun j _ hj => by have h1 := HD.out; have h2 := HLo.out; rcases hj with hj | hj | hj | hj <;> omega)))
      clear hx hin hi hz ha
      go_wp2_with fail
      refine (lives_any _).mono ?_
      rintro e wz ⟨rfl, hb⟩
      have HBz := Lib.hid (HXf.out.trans (hb.mono HXf.out.size))
      clear hb
      go_wp2
      go_ret
      exact ⟨rfl, HBz.out⟩
end Go.Proofs.Ytahkmadapojjkaa
