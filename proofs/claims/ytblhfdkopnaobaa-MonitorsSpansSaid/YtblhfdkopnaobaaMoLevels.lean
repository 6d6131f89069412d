/- Statements of layer 8: the text of levels. -/
import Derived.Test.YtblhfdkopnaobaaMoFirst
import Derived.Test.YtblhfdkopnaobaaMoUnits
import Derived.Laws.IdiomStrings
import Derived.Deep.RegionHeld3
namespace Go.Proofs.Ytblhfdkopnaobaa
open Go.RowKit

/-- The digits of the levels behind each unit. -/
def digits (m : Mo) : List Bool → List UInt8
  | [] => []
  | b :: l => UInt8.ofNat (48 + (m.count b).lvl % 10) :: digits (m.count b) l
theorem digits_append (m : Mo) (l k : List Bool) : digits m (l ++ k) = digits m l ++ digits (m.run l) k := by
  induction l generalizing m with
  | nil => rfl
  | cons b l ih => show _ :: digits (m.count b) (l ++ k) = _; rw [ih]; rfl
theorem digits_snoc (m : Mo) (l : List Bool) (b : Bool) : digits m (l ++ [b]) = digits m l ++ [UInt8.ofNat (48 + ((m.run l).count b).lvl % 10)] := digits_append m l [b]
theorem digits_length (m : Mo) (l : List Bool) : (digits m l).length = l.length := by
  induction l generalizing m with
  | nil => rfl
  | cons b l ih => show (digits _ l).length + 1 = _; rw [ih]; rfl
def levText (m : Mo) (l : List Bool) : List UInt8 := digits m l ++ (if (m.run l).over then [111] else [])
def bstr (l : List UInt8) : ByteArray := ⟨l.toArray⟩
theorem bstr_append (l k : List UInt8) : bstr l ++ bstr k = bstr (l ++ k) := by
  apply ByteArray.ext
  simp [bstr]
theorem bstr_size (l : List UInt8) : (bstr l).size = l.length := by simp [bstr, ByteArray.size]
set_option maxHeartbeats 2000000 in
set_option maxRecDepth 100000 in
theorem levels_any (g : Nat) (m : Mo) (s : ByteArray) (w : World) (hm : MoAt w g m) (hs : s.size ≤ 1000) :
    Calls Try.prog 18 #[.iface m.kd.ptr (.pointer (some ⟨g, 0, none⟩)), .string s] w fun e w' => e = .returned (.string (bstr (levText m (unitsOf s)))) ∧ MoAt w' g (m.run (unitsOf s)) ∧ Exc (fun k => k = g) w w' := by
  have hmf : ∀ (fn : Fn) (first cap : Array Value) (w : World), (Instr.makeFunc fn first cap).run Try.prog w = .ok (.func fn first cap) w := fun _ _ _ _ => rfl
  have HU := Lib.hid (units_any s w (by omega))
  have HM0 := Lib.hid hm
  have hlen := unitsOf_length s
  obtain ⟨l, hl⟩ : ∃ l, l = unitsOf s := ⟨_, rfl⟩
  obtain ⟨n, hn⟩ : ∃ n, n = s.size := ⟨_, rfl⟩
  rw [← hl] at hlen HU ⊢
  rw [← hn] at hlen HU hs
  have mo := meth_over m.kd g
  have mc := meth_count m.kd g
  have ml := meth_level m.kd g
  have ec := enter_count m.kd
  have na := ahead_count m.kd g
  obtain ⟨T, hT⟩ : ∃ T, T = m.kd.ptr := ⟨_, rfl⟩
  obtain ⟨K, hK⟩ : ∃ K, K = m.kd.fCount := ⟨_, rfl⟩
  rw [← hT] at mo mc ml na ⊢
  rw [← hK] at mc ec
  have hct : ∀ (mj : Mo) (W : World), mj.kd = m.kd → MoAt W g mj → ∀ ok, Calls Try.prog K #[.pointer (some ⟨g, 0, none⟩), .bool ok] W fun e w' => e = .returned (.tuple #[]) ∧ MoAt w' g (mj.count ok) ∧ Exc (fun k => k = g) W w' := by
    intro mj W e h ok
    rw [hK, ← e]
    exact count_any g mj ok W h
  have HCt := Lib.hid hct
  have HLn := Lib.hid hlen
  have hglt := hm.lt
  have HGl := Lib.hid hglt
  clear hT hK hct hm hlen hl hn hglt
  go_enter Try.func18, Try.ntmps18
  go_wp2_with fail
  with_reducible refine HU.out.mono ?_
  rintro e w1 ⟨a, c, rfl, hrow, hfar, hnil, hb1⟩
  have HM1 := Lib.hid (HM0.out.below hb1)
  have HX1 := Lib.hid (Exc.of_below (S := fun k => k = g) hb1)
  have HR := Lib.hid hrow
  have HFar := Lib.hid (fun x (h : a = some x) => (by have := hfar x h; have := HGl.out; omega : ¬ x.block = g))
  clear hrow hfar hnil hb1 HU HM0
  go_wp2_with fail
  go_loopw [5, 7] (fun o i wr => ∃ j : Nat, j ≤ n ∧ i = .int .i64 j ∧ o = .string (bstr (digits m (l.take j))) ∧ MoAt wr g (m.run (l.take j)) ∧ Exc (fun k => k = g) w1 wr) (fun _ i _ => n - (intOf i).toNat)
  case atStart => exact ⟨0, Nat.zero_le _, rfl, rfl, HM1.out, Exc.refl _ _⟩
  case round =>
    obtain ⟨j, hj, rfl, rfl, hmj, hxj⟩ := hrel
    obtain ⟨mj, hmj1⟩ : ∃ x, x = m.run (l.take j) := ⟨_, rfl⟩
    obtain ⟨D, hD⟩ : ∃ D, D = bstr (digits m (l.take j)) := ⟨_, rfl⟩
    rw [← hmj1] at hmj
    rw [← hD]
    by_cases hlt : j < n
    · have hji : (j : Int) < (n : Int) := by omega
      have j0 : (0 : Int) ≤ (j : Int) := by omega
      obtain ⟨sb, so, rfl, hcells⟩ := (HR.out.exc hxj HFar.out).at (by omega)
      have hcj := hcells j hlt
      obtain ⟨ok, hok⟩ : ∃ ok, ok = l.getD j true := ⟨_, rfl⟩
      rw [← hok] at hcj
      have hcnt := HCt.out mj wr.drew (by rw [hmj1, Mo.run_kd]) (hmj.below (below_draw wr 1)) ok
      have HCn := Lib.hid hcnt
      have HX := Lib.hid hxj
      have HMj := Lib.hid hmj
      have HOk := Lib.hid (And.intro hok hmj1)
      have HD := Lib.hid hD
      have HNs := Lib.hid (show ¬ sb = g from HFar.out _ rfl)
      have hcd : wr.drew.cell? ⟨sb, so + j, none⟩ = some (.bool ok) := hcj
      have HCd := Lib.hid hcd
      clear hmj hxj hcells hok hmj1 hcnt hD hcd
      go_wp2_with fail
      go_region_held3 (fun W => W.cell? ⟨sb, so + j, none⟩ = some (.bool ok)) (first | assumption | go_keep)
        (first
          | ((with_reducible refine HCn.out.mono ?_); rintro e w2 ⟨rfl, hm2, hx2⟩; have k2 := hx2.cell HCd.out HNs.out; have HM2 := Lib.hid hm2; have HX2 := Lib.hid hx2; clear hm2 hx2)
          | fail)
      go_wp2_with fail
      with_reducible refine (level_any g (mj.count ok) w2 HM2.out).mono ?_
      rintro e w3 ⟨rfl, rfl⟩
      obtain ⟨L, hL⟩ : ∃ L, L = (mj.count ok).lvl := ⟨_, rfl⟩
      rw [← hL]
      obtain ⟨Q, hQ⟩ : ∃ Q, Q = L % 10 := ⟨_, rfl⟩
      obtain ⟨C, hC⟩ : ∃ C, C = 48 + Q := ⟨_, rfl⟩
      have l0 : (0 : Int) ≤ (L : Int) := by omega
      have l1 : (L : Int) % 10 = (Q : Int) := by omega
      have l2 : IntKind.i64.wrap (48 + (Q : Int)) = (C : Int) := by rw [IntWalk.i64_in _ (by omega)]; omega
      have l3 : IntKind.u8.wrap (C : Int) = (C : Int) := IntWalk.u8_in _ (by omega)
      have l4 : (C : Int) ≤ 255 := by omega
      have l5 : (0 : Int) ≤ (C : Int) := by omega
      obtain ⟨X, hX⟩ : ∃ X, X = bstr [UInt8.ofNat C] := ⟨_, rfl⟩
      have hcv : (convert 60 9 (.slice (some ⟨w3.heap.size, 0, none⟩) 1 1)).run Try.prog (w3.alloc (.cells #[.int .u8 (C : Int)] 5)) = .ok (.string X) (w3.alloc (.cells #[.int .u8 (C : Int)] 5)) := by
        have h := run_convert_bytes_back (P := Try.prog) (w3.alloc (.cells #[.int .u8 (C : Int)] 5)) 60 9 5 ⟨w3.heap.size, 0, none⟩ 1 [UInt8.ofNat C] Try.underlying60 Try.underlying5 Try.underlying9 (fun j hj => by
          obtain rfl : j = 0 := by simpa using hj
          have e : (⟨w3.heap.size, 0, none⟩ : Addr).add 0 = ⟨w3.heap.size, 0, none⟩ := by unfold Addr.add; split <;> simp_all
          rw [e, (own_new w3 5 #[.int .u8 (C : Int)] _ rfl).cell 0 (by simp)]
          have : (UInt8.ofNat C).toNat = C := by simp [UInt8.toNat_ofNat']; omega
          simp [this])
        rw [hX]; exact h
      obtain ⟨Z, hZ⟩ : ∃ Z, Z = D ++ X := ⟨_, rfl⟩
      have hsz : D.size + X.size ≤ 9223372036854775807 := by
        rw [HD.out, hX, bstr_size, bstr_size, digits_length, List.length_take]
        simp only [List.length_cons, List.length_nil]; omega
      have r1 : ∀ W, (binOp .add 9 (.string D) (.string X)).run Try.prog W = .ok (.string Z) W := fun W => by rw [binOp_string_add, run_string_add_sum W D X hsz, ← hZ]
      have o1 : ∀ W, (Op.stringOp .add D X).run Try.prog W = .ok (.string Z) W := fun W => by rw [run_string_add_sum W D X hsz, ← hZ]
      have HQ := Lib.hid (And.intro hL (And.intro hQ (And.intro hC (And.intro hX hZ))))
      obtain ⟨J, hJ⟩ : ∃ J, J = j + 1 := ⟨_, rfl⟩
      have hw1 : IntKind.i64.wrap ((j : Int) + 1) = (J : Int) := by rw [IntWalk.i64_in _ (by omega)]; omega
      have HJ := Lib.hid (And.intro hJ hlt)
      clear hL hQ hC hX hZ hsz hJ hlt hj
      go_wp2_with fail
      obtain ⟨q1, q2, q3, q4, q5⟩ := HQ.out
      have hjl : j < l.length := by rw [HLn.out]; exact HJ.out.2
      refine ⟨⟨J, by have := HJ.out; omega, by rfl, ?_, ?_, ?_⟩, by simp only [intOf]; have := HJ.out; omega⟩
      · rw [HJ.out.1, q5, HD.out, q4, bstr_append, take_snoc l j true hjl, digits_snoc, ← HOk.out.2, ← HOk.out.1, ← q1, ← q2, ← q3]
      · have := HM2.out.below (below_alloc w3 (.cells #[.int .u8 (C : Int)] 5))
        rw [HJ.out.1, Mo.run_take_succ _ _ _ hjl, ← HOk.out.2, ← HOk.out.1]
        exact this
      · exact ((HX.out.drawN 1).trans HX2.out (fun _ _ h => h)).alloc _
    · obtain rfl : j = n := by omega
      have hji : ¬ (j : Int) < (j : Int) := by omega
      have e1 : l.take j = l := by rw [← HLn.out, List.take_length]
      rw [e1] at hmj1 hD
      have HOv := Lib.hid (over_any g mj wr hmj)
      have hsz : D.size + 1 ≤ 9223372036854775807 := by
        rw [hD, bstr_size, digits_length, HLn.out]; omega
      have HX := Lib.hid hxj
      have HMj := Lib.hid hmj
      have HD := Lib.hid (And.intro hD hmj1)
      clear hmj hxj hmj1 hlt hj hD e1
      go_wp2_with fail
      with_reducible refine HOv.out.mono ?_
      rintro e w2 ⟨rfl, q, rfl⟩
      have h2 := HMj.out.below (below_draw wr q)
      have x2 := HX.out.drawN q
      generalize wr.drewN q = W2 at h2 x2 ⊢
      have HM2 := Lib.hid h2
      have HX2 := Lib.hid (HX1.out.trans x2 (fun _ _ h => h))
      clear h2 x2 HX HMj HOv
      cases hov : mj.over
      · have HOv := Lib.hid hov
        clear hov hsz
        go_wp2
        go_ret
        obtain ⟨d1, d2⟩ := HD.out
        rw [← d2]
        have e3 : bstr (levText m l) = D := by unfold levText; rw [← d2, HOv.out, d1]; simp
        refine ⟨?_, HM2.out, HX2.out⟩
        rw [e3]; rfl
      · have HOv := Lib.hid hov
        obtain ⟨Z, hZ⟩ : ∃ Z, Z = D ++ ⟨#[111]⟩ := ⟨_, rfl⟩
        have r1 : ∀ W, (binOp .add 9 (.string D) (.string ⟨#[111]⟩)).run Try.prog W = .ok (.string Z) W := fun W => by rw [binOp_string_add, run_string_add_sum W D ⟨#[111]⟩ hsz, ← hZ]
        have o1 : ∀ W, (Op.stringOp .add D ⟨#[111]⟩).run Try.prog W = .ok (.string Z) W := fun W => by rw [run_string_add_sum W D ⟨#[111]⟩ hsz, ← hZ]
        have HZ := Lib.hid hZ
        clear hov hsz hZ
        go_wp2
        go_ret
        obtain ⟨d1, d2⟩ := HD.out
        rw [← d2]
        have e3 : bstr (levText m l) = Z := by
          unfold levText; rw [← d2, HOv.out, HZ.out, d1, if_pos rfl, ← bstr_append]; rfl
        refine ⟨?_, HM2.out, HX2.out⟩
        rw [e3]; rfl
end Go.Proofs.Ytblhfdkopnaobaa
