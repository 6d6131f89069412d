/- Joined: Itoa LbCut. -/
import Derived.Test.YthlckipcgogogaaGreatDoorPlCells
import Derived.Test.YthlckipcgogogaaGreatDoorUnMath
import Derived.Lib.ItoaNum
import Derived.Lib.ItoaWalk
import Derived.Lib.BitFns
import Derived.Lib.Strings
import Derived.Lib.Small
import Derived.Lib.Walk
import Derived.RegionTactic
import Derived.ChangeAlike
import Derived.Test.YthlckipcgogogaaGreatDoorUnBase
import Derived.Test.YthlckipcgogogaaGreatDoorLbMath
import Derived.Lib.CutLaws
import Derived.BigQuiet
/- Contracts: strconv.Itoa of the numbers below 256. -/
namespace Go.Proofs.YthlckipcgogogaaGreatDoor
set_option linter.unusedVariables false
open Go.RowKit

theorem bs_data (l : List UInt8) : (bs l).data.toList = l := by simp [bs]
theorem bs_of {x : ByteArray} {l : List UInt8} (h : x.data.toList = l) : x = bs l := by
  subst h
  cases x
  simp [bs]
/-- The table of the powers of ten, at 2. -/
def PowOk (w : World) : Prop := w.cell? ⟨3, 2, none⟩ = some (.int .u64 100)
theorem PowOk.later {w w' : World} (h : PowOk w) (hb : Below w.heap.size w w') : PowOk w' := by
  unfold PowOk at h ⊢
  rw [hb.cell (World.block_lt_of_cell? w _ h)]; exact h
set_option maxHeartbeats 2000000 in
set_option maxRecDepth 100000 in
theorem small_any (i : Nat) (w : World) (h : i < 100) :
    Calls Tryz.prog 123 #[.int .i64 (i : Int)] w fun e w' => e = .returned (.string (bs (numL i))) ∧ w = w' := by
  have key : ∀ j : Fin 100, if j.val < 10 then (Lib.digits36.extract j.val (j.val + 1)).data.toList = numL j.val else (Lib.smalls.extract (j.val * 2) (j.val * 2 + 2)).data.toList = numL j.val := by decide +kernel
  have hk := key ⟨i, h⟩
  simp only at hk
  clear key
  go_enter Tryz.func123, Tryz.ntmps123
  go_name_bytes_deep 45 SM hSM
  have eSM : SM = Lib.smalls := by rw [← hSM]; decide +kernel
  subst eSM
  clear hSM
  go_name_bytes_deep 30 DG hDG
  have eDG : DG = Lib.digits36 := by rw [← hDG]; decide +kernel
  subst eDG
  clear hDG
  by_cases h10 : i < 10
  · rw [if_pos h10] at hk
    have HK := Lib.hid (bs_of hk)
    clear hk
    have hsl : ∀ w, (Instr.slice 9 (.string Lib.digits36) (some (.int .i64 (i : Int))) (some (.int .i64 ((i : Int) + 1))) none).run Tryz.prog w = .ok (.string (Lib.digits36.extract i (i + 1))) w := fun w => by
      rw [run_slice_string w 9 Lib.digits36 .i64 .i64 _ _ Tryz.underlying9 (by omega) (by omega) (by rw [Lib.digits36_size]; omega), show ((i : Int)).toNat = i by omega, show ((i : Int) + 1).toNat = i + 1 by omega]
    go_wp2
    go_ret
    refine ⟨?_, rfl⟩
    show Ending.returned (Value.string (Lib.digits36.extract i (i + 1))) = _
    rw [HK.out]
  · rw [if_neg h10] at hk
    have HK := Lib.hid (bs_of hk)
    clear hk
    have hsl : ∀ w, (Instr.slice 9 (.string Lib.smalls) (some (.int .i64 ((i : Int) * 2))) (some (.int .i64 ((i : Int) * 2 + 2))) none).run Tryz.prog w = .ok (.string (Lib.smalls.extract (i * 2) (i * 2 + 2))) w := fun w => by
      rw [run_slice_string w 9 Lib.smalls .i64 .i64 _ _ Tryz.underlying9 (by omega) (by omega) (by rw [Lib.smalls_size]; omega), show ((i : Int) * 2).toNat = i * 2 by omega, show ((i : Int) * 2 + 2).toNat = i * 2 + 2 by omega]
    go_wp2
    go_ret
    refine ⟨?_, rfl⟩
    show Ending.returned (Value.string (Lib.smalls.extract (i * 2) (i * 2 + 2))) = _
    rw [HK.out]
set_option maxHeartbeats 1000000 in
set_option maxRecDepth 100000 in
theorem len64_7 (x : Int) (w : World) (h0 : 100 ≤ x) (h1 : x ≤ 255) :
    Calls Tryz.prog 122 #[.int .u64 x] w fun e w' => e = .returned (.int .i64 (if x < 128 then 7 else 8)) ∧ w = w' := by
  have e : Lib.len8 x = if x < 128 then 7 else 8 := by
    have : ∀ j : Fin 256, 100 ≤ j.val → Lib.len8 (j.val : Int) = if (j.val : Int) < 128 then 7 else 8 := by decide +kernel
    have h := this ⟨x.toNat, by omega⟩ (by simp; omega)
    have e : ((x.toNat : Nat) : Int) = x := by omega
    simpa only [e] using h
  obtain ⟨L, hL⟩ : ∃ L : Int, L = if x < 128 then 7 else 8 := ⟨_, rfl⟩
  rw [← hL] at e ⊢
  have hL2 : L = 7 ∨ L = 8 := by rw [hL]; split <;> simp
  have HL2 := Lib.hid hL2
  clear hL hL2
  have hsz : x.toNat < Lib.len8tab.size := by rw [Lib.len8tab_size]; omega
  have HE0 := Lib.hid e
  simp only [Lib.len8, ByteArray.getElem?_lt' _ _ hsz, Option.getD_some] at e
  have HE := Lib.hid e
  have h2 : 0 ≤ x := by omega
  clear e
  go_enter Tryz.func122, Tryz.ntmps122
  go_name_bytes_deep 45 T hT
  have eT : T = Lib.len8tab := by rw [← hT]; decide +kernel
  subst eT
  clear hT
  go_wp2
  go_ret
  refine ⟨ret_int ?_, rfl⟩
  first | rw [HE0.out] | rw [HE.out]
  rcases HL2.out with rfl | rfl <;> decide +kernel
set_option maxRecDepth 100000 in
theorem log10_8 (w : World) : Calls Tryz.prog 141 #[.int .i64 8] w fun e w' => e = .returned (.int .i64 2) ∧ w = w' := by
  go_enter Tryz.func141, Tryz.ntmps141
  go_wp2
  go_ret
  exact ⟨rfl, rfl⟩
set_option maxRecDepth 100000 in
theorem log10_7 (w : World) : Calls Tryz.prog 141 #[.int .i64 7] w fun e w' => e = .returned (.int .i64 2) ∧ w = w' := by
  go_enter Tryz.func141, Tryz.ntmps141
  go_wp2
  go_ret
  exact ⟨rfl, rfl⟩
set_option maxHeartbeats 1000000 in
set_option maxRecDepth 100000 in
theorem numDigits_3 (u : Nat) (w : World) (h0 : 100 ≤ u) (h1 : u < 256) (hp : PowOk w) :
    Calls Tryz.prog 124 #[.int .u64 (u : Int)] w fun e w' => e = .returned (.int .i64 3) ∧ w = w' := by
  unfold PowOk at hp
  have hge : (100 : Int) ≤ (u : Int) := by omega
  by_cases h : (u : Int) < 128
  · have hL := len64_7 (u : Int) w (by omega) (by omega)
    rw [if_pos h] at hL
    have HL := Lib.hid hL
    clear hL h
    go_enter Tryz.func124, Tryz.ntmps124
    go_wp2_with (first
      | (go_at_call 122; refine (HL.out).mono ?_; rintro e w' ⟨rfl, rfl⟩)
      | (go_at_call 141; refine (log10_7 _).mono ?_; rintro e w' ⟨rfl, rfl⟩)
      | go_in)
    go_ret
    exact ⟨rfl, rfl⟩
  · have hL := len64_7 (u : Int) w (by omega) (by omega)
    rw [if_neg h] at hL
    have HL := Lib.hid hL
    clear hL h
    go_enter Tryz.func124, Tryz.ntmps124
    go_wp2_with (first
      | (go_at_call 122; refine (HL.out).mono ?_; rintro e w' ⟨rfl, rfl⟩)
      | (go_at_call 141; refine (log10_8 _).mono ?_; rintro e w' ⟨rfl, rfl⟩)
      | go_in)
    go_ret
    exact ⟨rfl, rfl⟩
theorem smalls_at : ∀ j : Fin 100, (Lib.smalls[j.val * 2]?).getD 0 = 48 + UInt8.ofNat (j.val / 10) ∧ (Lib.smalls[j.val * 2 + 1]?).getD 0 = 48 + UInt8.ofNat (j.val % 10) := by decide +kernel
theorem run_index_smalls (i : Int) (k : IntKind) (h0 : 0 ≤ i) (h1 : i ≤ 199) (w : World) :
    (Instr.index 9 (.string Lib.smalls) (.int k i)).run Tryz.prog w = .ok (.int .u8 ((((Lib.smalls[i.toNat]?).getD 0).toNat : Nat) : Int)) w := by
  have hi : 0 ≤ i ∧ i < (Lib.smalls.size : Int) := by rw [Lib.smalls_size]; omega
  have h2 : i.toNat < Lib.smalls.size := by rw [Lib.smalls_size]; omega
  rw [run_index_string w 9 Lib.smalls k i Tryz.underlying9, dif_pos hi]
  simp only [ByteArray.getElem?_lt' _ _ h2, Option.getD_some]
set_option maxHeartbeats 4000000 in
set_option maxRecDepth 100000 in
theorem format_3a (u g c : Nat) (w : World) (h0 : 100 ≤ u) (h1 : u < 200) (ho : Own w g 180 (List.replicate 24 (.int .u8 0))) :
    Calls Tryz.prog 125 #[.slice (some ⟨g, 1, none⟩) 3 c, .int .u64 (u : Int)] w fun e w' => e = .returned (.tuple #[]) ∧ Exc (fun k => k = g) w w' ∧
      w'.cell? ⟨g, 1, none⟩ = some (.int .u8 ((48 + UInt8.ofNat (u / 100)).toNat : Int)) ∧ w'.cell? ⟨g, 2, none⟩ = some (.int .u8 ((48 + UInt8.ofNat (u / 10 % 10)).toNat : Int)) ∧ w'.cell? ⟨g, 3, none⟩ = some (.int .u8 ((48 + UInt8.ofNat (u % 10)).toNat : Int)) := by
  have c1 := ho.cell 1 (by simp)
  have c2 := ho.cell 2 (by simp)
  have c3 := ho.cell 3 (by simp)
  have f1 := ho.frozen 1
  have f2 := ho.frozen 2
  have f3 := ho.frozen 3
  simp at c1 c2 c3
  clear ho
  obtain ⟨m, rfl⟩ : ∃ m, u = m + 100 := ⟨u - 100, by omega⟩
  have hm : m < 100 := by omega
  have i1 := run_index_smalls ((m : Int) * 2) .u32 (by omega) (by omega)
  have i2 := run_index_smalls ((m : Int) * 2 + 1) .u32 (by omega) (by omega)
  obtain ⟨s1, s2⟩ := smalls_at ⟨m, by omega⟩
  rw [show ((m : Int) * 2).toNat = m * 2 by omega, s1] at i1
  rw [show ((m : Int) * 2 + 1).toNat = m * 2 + 1 by omega, s2] at i2
  obtain ⟨y1, hy1⟩ : ∃ y : Int, y = (((48 + UInt8.ofNat (m / 10)).toNat : Nat) : Int) := ⟨_, rfl⟩
  obtain ⟨y2, hy2⟩ : ∃ y : Int, y = (((48 + UInt8.ofNat (m % 10)).toNat : Nat) : Int) := ⟨_, rfl⟩
  rw [← hy1] at i1
  rw [← hy2] at i2
  have e1 : (m + 100) / 100 = 1 := by omega
  have e2 : (m + 100) / 10 % 10 = m / 10 := by omega
  have e3 : (m + 100) % 10 = m % 10 := by omega
  rw [e1, e2, e3, ← hy1, ← hy2]
  have HY1 := Lib.hid hy1
  have HY2 := Lib.hid hy2
  have q1 : ((m : Int) + 100) % 100 = m := by omega
  have q2 : ((m : Int) + 100) / 100 = 1 := by omega
  clear s1 s2 hy1 hy2 e1 e2 e3 h0 h1
  go_enter Tryz.func125, Tryz.ntmps125
  go_name_bytes SM hSM
  have eSM : SM = Lib.smalls := by rw [← hSM]; decide +kernel
  subst eSM
  clear hSM
  go_wp2
  go_loop [1, 4] (fun x v => x = .int .u64 ((m : Int) + 100) ∧ v = .int .i64 3) (fun _ _ => 0)
  case atStart => exact ⟨rfl, rfl⟩
  case round =>
    obtain ⟨rfl, rfl⟩ := hrel
    go_wp2
    go_region
    clear i1 i2
    go_wp2
    go_end0
    have hx : Exc (fun k => k = g) w ((((w.setCell ⟨g, 3, none⟩ (.int .u8 y2)).setCell ⟨g, 2, none⟩ (.int .u8 y1)).setCell ⟨g, 1, none⟩ (.int .u8 49)).drewN 1) :=
      ((((Exc.refl (fun k => k = g) w).setCell ⟨g, 3, none⟩ (.inl rfl) (.int .u8 y2)).setCell ⟨g, 2, none⟩ (.inl rfl) (.int .u8 y1)).setCell ⟨g, 1, none⟩ (.inl rfl) (.int .u8 49)).drawN 1
    have e49 : (((48 + UInt8.ofNat 1 : UInt8).toNat : Nat) : Int) = 49 := by decide
    refine ⟨rfl, hx, ?_, ?_, ?_⟩
    · rw [e49]; go_simp
    · go_simp
    · go_simp
set_option maxHeartbeats 4000000 in
set_option maxRecDepth 100000 in
theorem format_3b (u g c : Nat) (w : World) (h0 : 200 ≤ u) (h1 : u < 256) (ho : Own w g 180 (List.replicate 24 (.int .u8 0))) :
    Calls Tryz.prog 125 #[.slice (some ⟨g, 1, none⟩) 3 c, .int .u64 (u : Int)] w fun e w' => e = .returned (.tuple #[]) ∧ Exc (fun k => k = g) w w' ∧
      w'.cell? ⟨g, 1, none⟩ = some (.int .u8 ((48 + UInt8.ofNat (u / 100)).toNat : Int)) ∧ w'.cell? ⟨g, 2, none⟩ = some (.int .u8 ((48 + UInt8.ofNat (u / 10 % 10)).toNat : Int)) ∧ w'.cell? ⟨g, 3, none⟩ = some (.int .u8 ((48 + UInt8.ofNat (u % 10)).toNat : Int)) := by
  have c1 := ho.cell 1 (by simp)
  have c2 := ho.cell 2 (by simp)
  have c3 := ho.cell 3 (by simp)
  have f1 := ho.frozen 1
  have f2 := ho.frozen 2
  have f3 := ho.frozen 3
  simp at c1 c2 c3
  clear ho
  obtain ⟨m, rfl⟩ : ∃ m, u = m + 200 := ⟨u - 200, by omega⟩
  have hm : m < 56 := by omega
  have i1 := run_index_smalls ((m : Int) * 2) .u32 (by omega) (by omega)
  have i2 := run_index_smalls ((m : Int) * 2 + 1) .u32 (by omega) (by omega)
  obtain ⟨s1, s2⟩ := smalls_at ⟨m, by omega⟩
  rw [show ((m : Int) * 2).toNat = m * 2 by omega, s1] at i1
  rw [show ((m : Int) * 2 + 1).toNat = m * 2 + 1 by omega, s2] at i2
  obtain ⟨y1, hy1⟩ : ∃ y : Int, y = (((48 + UInt8.ofNat (m / 10)).toNat : Nat) : Int) := ⟨_, rfl⟩
  obtain ⟨y2, hy2⟩ : ∃ y : Int, y = (((48 + UInt8.ofNat (m % 10)).toNat : Nat) : Int) := ⟨_, rfl⟩
  rw [← hy1] at i1
  rw [← hy2] at i2
  have e1 : (m + 200) / 100 = 2 := by omega
  have e2 : (m + 200) / 10 % 10 = m / 10 := by omega
  have e3 : (m + 200) % 10 = m % 10 := by omega
  rw [e1, e2, e3, ← hy1, ← hy2]
  have HY1 := Lib.hid hy1
  have HY2 := Lib.hid hy2
  have q1 : ((m : Int) + 200) % 100 = m := by omega
  have q2 : ((m : Int) + 200) / 100 = 2 := by omega
  clear s1 s2 hy1 hy2 e1 e2 e3 h0 h1
  go_enter Tryz.func125, Tryz.ntmps125
  go_name_bytes SM hSM
  have eSM : SM = Lib.smalls := by rw [← hSM]; decide +kernel
  subst eSM
  clear hSM
  go_wp2
  go_loop [1, 4] (fun x v => x = .int .u64 ((m : Int) + 200) ∧ v = .int .i64 3) (fun _ _ => 0)
  case atStart => exact ⟨rfl, rfl⟩
  case round =>
    obtain ⟨rfl, rfl⟩ := hrel
    go_wp2
    go_region
    clear i1 i2
    go_wp2
    go_end0
    have hx : Exc (fun k => k = g) w ((((w.setCell ⟨g, 3, none⟩ (.int .u8 y2)).setCell ⟨g, 2, none⟩ (.int .u8 y1)).setCell ⟨g, 1, none⟩ (.int .u8 50)).drewN 1) :=
      ((((Exc.refl (fun k => k = g) w).setCell ⟨g, 3, none⟩ (.inl rfl) (.int .u8 y2)).setCell ⟨g, 2, none⟩ (.inl rfl) (.int .u8 y1)).setCell ⟨g, 1, none⟩ (.inl rfl) (.int .u8 50)).drawN 1
    have e50 : (((48 + UInt8.ofNat 2 : UInt8).toNat : Nat) : Int) = 50 := by decide
    refine ⟨rfl, hx, ?_, ?_, ?_⟩
    · rw [e50]; go_simp
    · go_simp
    · go_simp
theorem format_3 (u g c : Nat) (w : World) (h0 : 100 ≤ u) (h1 : u < 256) (ho : Own w g 180 (List.replicate 24 (.int .u8 0))) :
    Calls Tryz.prog 125 #[.slice (some ⟨g, 1, none⟩) 3 c, .int .u64 (u : Int)] w fun e w' => e = .returned (.tuple #[]) ∧ Exc (fun k => k = g) w w' ∧
      w'.cell? ⟨g, 1, none⟩ = some (.int .u8 ((48 + UInt8.ofNat (u / 100)).toNat : Int)) ∧ w'.cell? ⟨g, 2, none⟩ = some (.int .u8 ((48 + UInt8.ofNat (u / 10 % 10)).toNat : Int)) ∧ w'.cell? ⟨g, 3, none⟩ = some (.int .u8 ((48 + UInt8.ofNat (u % 10)).toNat : Int)) := by
  by_cases h : u < 200
  · exact format_3a u g c w h0 h ho
  · exact format_3b u g c w (by omega) h1 ho
set_option maxHeartbeats 4000000 in
set_option maxRecDepth 100000 in
theorem fmt_3 (u : Nat) (w : World) (h0 : 100 ≤ u) (h1 : u < 256) (hp : PowOk w) :
    Calls Tryz.prog 100 #[.int .i64 (u : Int), .int .i64 10] w fun e w' => e = .returned (.string (bs (numL u))) ∧ Below w.heap.size w w' := by
  have hge : ¬ ((u : Int) < 100) := by omega
  have hN : numL u = [48 + UInt8.ofNat (u / 100), 48 + UInt8.ofNat (u / 10 % 10), 48 + UInt8.ofNat (u % 10)] := by
    unfold numL; rw [if_neg (by omega), if_neg (by omega)]
  have HP := Lib.hid (hp.later (below_alloc w (.cells (List.replicate 24 (Value.int .u8 0)).toArray 180)))
  have HN := Lib.hid hN
  clear hp hN
  go_enter Tryz.func100, Tryz.ntmps100
  go_wp2_with fail
  refine (numDigits_3 u _ h0 h1 (by exact HP.out)).mono ?_
  rintro e w' ⟨rfl, rfl⟩
  go_wp2_with fail
  refine (format_3 u w.heap.size _ _ h0 h1 (own_lit w 180 _ _ rfl)).mono ?_
  rintro e w1 ⟨rfl, hx, k1, k2, k3⟩
  have hcv : (convert 80 9 (.slice (some ⟨w.heap.size, 1, none⟩) 3 23)).run Tryz.prog w1 = .ok (.string (bs (numL u))) w1 := by
    rw [HN.out]
    have h := run_convert_bytes_back (P := Tryz.prog) w1 80 9 5 ⟨w.heap.size, 1, none⟩ 23 [48 + UInt8.ofNat (u / 100), 48 + UInt8.ofNat (u / 10 % 10), 48 + UInt8.ofNat (u % 10)] Tryz.underlying80 Tryz.underlying5 Tryz.underlying9 (fun j hj => by
      have : j = 0 ∨ j = 1 ∨ j = 2 := by simp at hj; omega
      rcases this with rfl | rfl | rfl
      · exact k1
      · exact k2
      · exact k3)
    exact h
  have hb := (below_alloc w (.cells (List.replicate 24 (Value.int .u8 0)).toArray 180)).trans (hx.below (by simp) (fun i _ hi => by omega))
  have HB := Lib.hid hb
  clear hx k1 k2 k3 hb
  go_wp2
  go_ret
  exact ⟨rfl, HB.out⟩
theorem itoa_any (n : Nat) (w : World) (h : n < 256) (hp : PowOk w) :
    Calls Tryz.prog 34 #[.int .i64 (n : Int)] w fun e w' => e = .returned (.string (bs (numL n))) ∧ Below w.heap.size w w' := by
  by_cases hs : n < 100
  · go_enter Tryz.func34, Tryz.ntmps34
    go_wp2_with (first
      | (go_at_call 123; refine (small_any n _ hs).mono ?_; rintro e w' ⟨rfl, rfl⟩)
      | go_in)
    go_ret
    exact ⟨rfl, Below.refl _ _⟩
  · have HP := Lib.hid hp
    clear hp
    go_enter Tryz.func34, Tryz.ntmps34
    go_wp2_with (go_at_call 72; go_in)
    refine (fmt_3 n _ (by omega) h HP.out).mono ?_
    rintro e w1 ⟨rfl, hb⟩
    have HB := Lib.hid hb
    clear hb
    go_wp2
    go_ret
    exact ⟨rfl, HB.out⟩
end Go.Proofs.YthlckipcgogogaaGreatDoor
/- Contracts: strings.Cut at "-". -/
namespace Go.Proofs.YthlckipcgogogaaGreatDoor
set_option linter.unusedVariables false
open Go.RowKit

theorem bs_cat (a b : List UInt8) : bs a ++ bs b = bs (a ++ b) := by
  apply bs_of
  simp [bs, ByteArray.data_append]
theorem bs_len (l : List UInt8) : (bs l).size = l.length := by simp [bs, ByteArray.size]
theorem bs_eq {a b : List UInt8} (h : bs a = bs b) : a = b := by
  have := congrArg (fun z : ByteArray => z.data.toList) h
  simpa [bs] using this
theorem bs_list (l : List UInt8) : (bs l).toList = l := ByteArray.toList_mk l
theorem index_no : ∀ l : List UInt8, l.all (· != 45) = true → Lib.indexByte l 45 = -1
  | [], _ => rfl
  | c :: l, h => by
    simp only [List.all_cons, Bool.and_eq_true] at h
    have e := index_no l h.2
    have hc : (c == 45) = false := by
      have := h.1
      simp only [bne_iff_ne, ne_eq] at this
      simpa using this
    rw [Lib.indexByte, hc, e]
    rfl
theorem index_at : ∀ (a b : List UInt8), a.all (· != 45) = true → Lib.indexByte (a ++ 45 :: b) 45 = a.length
  | [], b, _ => by simp [Lib.indexByte]
  | c :: l, b, h => by
    simp only [List.all_cons, Bool.and_eq_true] at h
    have e := index_at l b h.2
    have hc : (c == 45) = false := by
      have := h.1
      simp only [bne_iff_ne, ne_eq] at this
      simpa using this
    have h2 : ((l.length : Int) == -1) = false := by simp
    rw [List.cons_append, Lib.indexByte, hc, e, h2]
    simp
theorem lcut_no (l : List UInt8) (w : World) (h : l.all (· != 45) = true) :
    Calls Tryz.prog 151 #[.string (bs l), .string ⟨#[45]⟩] w fun e w' => e = .returned (.tuple #[.string (bs l), .string ⟨#[]⟩, .bool false]) ∧ ∃ n, w' = w.drewN n := by
  have hi := fun W => Any.stringslite_Index_one lay219 (bs l) 45 W
  rw [bs_data, index_no l h] at hi
  have HI := Lib.hid (show ∀ W, Calls Tryz.prog 80 #[.string (bs l), .string ⟨#[45]⟩] W fun e w' => e = .returned (.int .i64 (-1)) ∧ w' = W from hi)
  clear hi h
  go_enter Tryz.func151, Tryz.ntmps151
  go_wp2_with fail
  refine (HI.out _).mono ?_
  rintro e w' ⟨rfl, rfl⟩
  go_wp2
  go_ret3
  exact ⟨rfl, 0, rfl⟩
theorem bs_front (a b : List UInt8) : (bs (a ++ 45 :: b)).extract 0 a.length = bs a := by
  apply bs_of
  simp [bs]
theorem bs_back (a b : List UInt8) : (bs (a ++ 45 :: b)).extract (a.length + 1) (a.length + 1 + b.length) = bs b := by
  apply bs_of
  simp [bs]
theorem lcut_at (a b : List UInt8) (w : World) (h : a.all (· != 45) = true) (hs : (a ++ 45 :: b).length ≤ 9223372036854775806) :
    Calls Tryz.prog 151 #[.string (bs (a ++ 45 :: b)), .string ⟨#[45]⟩] w fun e w' => e = .returned (.tuple #[.string (bs a), .string (bs b), .bool true]) ∧ ∃ n, w' = w.drewN n := by
  have hi := fun W => Any.stringslite_Index_one lay219 (bs (a ++ 45 :: b)) 45 W
  rw [bs_data, index_at a b h] at hi
  have HI := Lib.hid (show ∀ W, Calls Tryz.prog 80 #[.string (bs (a ++ 45 :: b)), .string ⟨#[45]⟩] W fun e w' => e = .returned (.int .i64 (a.length : Int)) ∧ w' = W from hi)
  have hl : (bs (a ++ 45 :: b)).size = a.length + 1 + b.length := by rw [bs_len]; simp; omega
  simp only [List.length_append, List.length_cons] at hs
  have s1 : ∀ w, (Instr.slice 9 (.string (bs (a ++ 45 :: b))) none (some (.int .i64 (a.length : Int))) none).run Tryz.prog w = .ok (.string (bs a)) w := fun w => by
    rw [run_slice_string_h w 9 _ Tryz.underlying9 .i64 (a.length : Int) (by omega) (by rw [hl]; omega), Int.toNat_natCast, bs_front]
  have s2 : ∀ w, (Instr.slice 9 (.string (bs (a ++ 45 :: b))) (some (.int .i64 ((a.length : Int) + 1))) none none).run Tryz.prog w = .ok (.string (bs b)) w := fun w => by
    rw [run_slice_string_l w 9 _ Tryz.underlying9 .i64 ((a.length : Int) + 1) (by omega) (by rw [hl]; omega), show ((a.length : Int) + 1).toNat = a.length + 1 by omega, hl, bs_back]
  obtain ⟨S, hS⟩ : ∃ S, S = bs (a ++ 45 :: b) := ⟨_, rfl⟩
  obtain ⟨k, hk⟩ : ∃ k : Nat, k = a.length := ⟨_, rfl⟩
  rw [← hS, ← hk] at s1 s2
  rw [← hS, ← hk] at HI
  rw [← hS]
  have h0 : (0 : Int) ≤ k := by omega
  have h1 : (k : Int) + 1 ≤ 9223372036854775807 := by omega
  clear hi h hl hS hk hs
  go_enter Tryz.func151, Tryz.ntmps151
  go_wp2_with fail
  refine (HI.out _).mono ?_
  rintro e w' ⟨rfl, rfl⟩
  go_wp2
  go_quiet (fail)
  go_wp2
  go_ret3
  exact ⟨rfl, _, rfl⟩
theorem cut_no (l : List UInt8) (w : World) (h : l.all (· != 45) = true) :
    Calls Tryz.prog 145 #[.string (bs l), .string ⟨#[45]⟩] w fun e w' => e = .returned (.tuple #[.string (bs l), .string ⟨#[]⟩, .bool false]) ∧ ∃ n, w' = w.drewN n := by
  have HI := Lib.hid (fun W => lcut_no l W h)
  clear h
  go_enter Tryz.func145, Tryz.ntmps145
  go_wp2_with fail
  refine (HI.out _).mono ?_
  rintro e w' ⟨rfl, n, rfl⟩
  go_wp2
  go_ret3
  exact ⟨rfl, n, rfl⟩
theorem cut_at (a b : List UInt8) (w : World) (h : a.all (· != 45) = true) (hs : (a ++ 45 :: b).length ≤ 9223372036854775806) :
    Calls Tryz.prog 145 #[.string (bs (a ++ 45 :: b)), .string ⟨#[45]⟩] w fun e w' => e = .returned (.tuple #[.string (bs a), .string (bs b), .bool true]) ∧ ∃ n, w' = w.drewN n := by
  have HI := Lib.hid (fun W => lcut_at a b W h hs)
  clear h hs
  go_enter Tryz.func145, Tryz.ntmps145
  go_wp2_with fail
  refine (HI.out _).mono ?_
  rintro e w' ⟨rfl, n, rfl⟩
  go_wp2
  go_ret3
  exact ⟨rfl, n, rfl⟩
/-- strings.Cut at "-": what stands in front of the first one, and behind it. -/
theorem cut_any (l : List UInt8) (w : World) (hs : l.length ≤ 9223372036854775806) :
    Calls Tryz.prog 145 #[.string (bs l), .string ⟨#[45]⟩] w fun e w' => (∃ b, e = .returned (.tuple #[.string (bs (hd l)), .string (bs (tl l)), .bool b])) ∧ ∃ n, w' = w.drewN n := by
  rcases cut_cases l with h | ⟨a, b, h, rfl⟩
  · obtain ⟨e1, e2⟩ := hd_no l h
    rw [e1, e2]
    exact (cut_no l w h).mono fun _ _ ⟨p, q⟩ => ⟨⟨false, p⟩, q⟩
  · obtain ⟨e1, e2⟩ := hd_at a b h
    rw [e1, e2]
    exact (cut_at a b w h hs).mono fun _ _ ⟨p, q⟩ => ⟨⟨true, p⟩, q⟩
end Go.Proofs.YthlckipcgogogaaGreatDoor
