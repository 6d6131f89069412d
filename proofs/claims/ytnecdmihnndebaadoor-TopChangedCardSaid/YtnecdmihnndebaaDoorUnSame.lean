/- Contracts: bytes.Equal, units.Same, After, Ahead; the statements' own check, same. -/
import Derived.Test.YtnecdmihnndebaaDoorUnBase
import Derived.Test.YtnecdmihnndebaaDoorUnMath
import Derived.Test.YtnecdmihnndebaaDoorLawBytes
import Derived.Laws.BytesString
namespace Go.Proofs.YtnecdmihnndebaaDoor
open Go.RowKit

def ofI (l : List Int) : List UInt8 := l.map fun x => UInt8.ofNat x.toNat
theorem ofI_inj : ∀ {l k : List Int}, (∀ x ∈ l, 0 ≤ x ∧ x ≤ 255) → (∀ x ∈ k, 0 ≤ x ∧ x ≤ 255) → ofI l = ofI k → l = k
  | [], [], _, _, _ => rfl
  | [], _ :: _, _, _, h => by simp [ofI] at h
  | _ :: _, [], _, _, h => by simp [ofI] at h
  | x :: l, y :: k, hl, hk, h => by
    simp only [ofI, List.map_cons, List.cons.injEq] at h
    have hx := hl x (by simp)
    have hy := hk y (by simp)
    have e1 := congrArg UInt8.toNat h.1
    simp only [UInt8.toNat_ofNat'] at e1
    have e2 := ofI_inj (fun z hz => hl z (by simp [hz])) (fun z hz => hk z (by simp [hz])) h.2
    rw [e2, show x = y by omega]
theorem bs_inj {a b : List UInt8} (h : bs a = bs b) : a = b := by
  have := congrArg (fun z : ByteArray => z.data.toList) h
  simpa [bs] using this
theorem bs_toList (l : List UInt8) : (bs l).toList = l := ByteArray.toList_mk l
theorem row_string (a : Option Addr) (n c : Nat) (l : List Int) (w : World) (h : Row .u8 w a n c l) :
    (convert 23 9 (.slice a n c)).run Tryd.prog w = .ok (.string (bs (ofI l))) w := by
  have hl := h.len
  have hoct := fun x hx => wf_u8.1 (h.wf x hx)
  rcases Nat.eq_zero_or_pos n with h0 | h0
  · subst h0
    have := List.eq_nil_of_length_eq_zero hl
    subst this
    rw [run_convert_bytes_string w 23 9 5 _ 0 c Tryd.underlying23 Tryd.underlying5 Tryd.underlying9]
    cases a <;> simp [Conv.bytesToString, loadCells]
    all_goals rfl
  · rcases h.cells with h1 | ⟨b, o, rfl, hc⟩
    · omega
    have hlen : (ofI l).length = n := by simp [ofI, hl]
    have h := run_convert_bytes_back (P := Tryd.prog) w 23 9 5 ⟨b, o, none⟩ c (ofI l) Tryd.underlying23 Tryd.underlying5 Tryd.underlying9 (fun j hj => by
      have e : (⟨b, o, none⟩ : Addr).add j = ⟨b, o + j, none⟩ := by unfold Addr.add; split <;> simp_all
      have hjl : j < l.length := by rw [hlen] at hj; omega
      have ho := hoct l[j] (List.getElem_mem hjl)
      rw [e, hc j (by omega), List.getD_eq_getElem?_getD, List.getElem?_eq_getElem hjl, Option.getD_some]
      simp only [ofI, List.getElem_map, UInt8.toNat_ofNat']
      congr 2
      omega)
    rw [hlen] at h
    exact h
set_option maxRecDepth 100000 in
theorem bytesEqual_any (a1 a2 : Option Addr) (n1 c1 n2 c2 : Nat) (l1 l2 : List Int) (w : World) (h1 : Row .u8 w a1 n1 c1 l1) (h2 : Row .u8 w a2 n2 c2 l2) :
    Calls Tryd.prog 27 #[.slice a1 n1 c1, .slice a2 n2 c2] w fun e w' => e = .returned (.bool (decide (l1 = l2))) ∧ w = w' := by
  have r1 := row_string a1 n1 c1 l1 w h1
  have r2 := row_string a2 n2 c2 l2 w h2
  have o1 := fun x hx => wf_u8.1 (h1.wf x hx)
  have o2 := fun x hx => wf_u8.1 (h2.wf x hx)
  by_cases he : l1 = l2
  · subst he
    rw [decide_eq_true rfl]
    clear h1 h2 o1 o2
    go_enter Tryd.func27, Tryd.ntmps27
    go_wp2
    go_ret
    exact ⟨by simp, rfl⟩
  · have hne : bs (ofI l1) ≠ bs (ofI l2) := fun hh => he (ofI_inj o1 o2 (bs_inj hh))
    rw [decide_eq_false he]
    have hb : ((bs (ofI l1)).toList == (bs (ofI l2)).toList) = false := by
      rw [bs_toList, bs_toList]
      simpa using fun hh => hne (by rw [hh])
    clear h1 h2 o1 o2 hne he
    go_enter Tryd.func27, Tryd.ntmps27
    go_wp2
    go_ret
    exact ⟨rfl, rfl⟩
def sameU (a0 : Int) (b1 : Bool) (a2 : Int) (b3 : Bool) (a4 a5 : Int) (l : List Int) (c0 : Int) (d1 : Bool) (c2 : Int) (d3 : Bool) (c4 c5 : Int) (k : List Int) : Prop :=
  a0 = c0 ∧ b1 = d1 ∧ a2 = c2 ∧ b3 = d3 ∧ a4 = c4 ∧ a5 = c5 ∧ l = k
instance (a0 : Int) (b1 : Bool) (a2 : Int) (b3 : Bool) (a4 a5 : Int) (l : List Int) (c0 : Int) (d1 : Bool) (c2 : Int) (d3 : Bool) (c4 c5 : Int) (k : List Int) : Decidable (sameU a0 b1 a2 b3 a4 a5 l c0 d1 c2 d3 c4 c5 k) := by
  unfold sameU; infer_instance
set_option maxHeartbeats 2000000 in
set_option maxRecDepth 100000 in
theorem usame_any (a0 : Int) (b1 : Bool) (a2 : Int) (b3 : Bool) (a4 a5 : Int) (s : Option Addr) (n c : Nat) (l : List Int) (c0 : Int) (d1 : Bool) (c2 : Int) (d3 : Bool) (c4 c5 : Int) (s2 : Option Addr) (m d : Nat) (k : List Int) (w : World)
    (h : Row .u8 w s n c l) (h' : Row .u8 w s2 m d k) :
    Calls Tryd.prog 12 #[.agg #[.int .u8 a0, .bool b1, .int .u8 a2, .bool b3, .int .u8 a4, .int .u8 a5, .slice s n c], .agg #[.int .u8 c0, .bool d1, .int .u8 c2, .bool d3, .int .u8 c4, .int .u8 c5, .slice s2 m d]] w
      fun e w' => e = .returned (.bool (decide (sameU a0 b1 a2 b3 a4 a5 l c0 d1 c2 d3 c4 c5 k))) ∧ Below w.heap.size w w' := by
  have hbz : Below w.heap.size w ((w.alloc (.cells #[.int .u8 a0, .bool b1, .int .u8 a2, .bool b3, .int .u8 a4, .int .u8 a5, .slice s n c] 29)).alloc (.cells #[.int .u8 c0, .bool d1, .int .u8 c2, .bool d3, .int .u8 c4, .int .u8 c5, .slice s2 m d] 29)) :=
    ((Below.refl _ _).alloc (Nat.le_refl _) _).alloc (by simp) _
  have HQ := Lib.hid (bytesEqual_any s s2 n c m d l k _ (h.later hbz) (h'.later hbz))
  have HB := Lib.hid hbz
  clear h h' hbz
  obtain ⟨D, hD⟩ : ∃ D, D = decide (l = k) := ⟨_, rfl⟩
  rw [← hD] at HQ
  have HD := Lib.hid hD
  clear hD
  cases t0 : (a0 == c0)
  · rw [decide_eq_false (fun hh => by obtain ⟨e0, e1, e2, e3, e4, e5, e6⟩ := hh; simp [e0] at t0)]
    go_enter Tryd.func12, Tryd.ntmps12
    go_wp2
    go_ret
    exact ⟨rfl, HB.out⟩
  cases t1 : (b1 == d1)
  · rw [decide_eq_false (fun hh => by obtain ⟨e0, e1, e2, e3, e4, e5, e6⟩ := hh; simp [e1] at t1)]
    go_enter Tryd.func12, Tryd.ntmps12
    go_wp2
    go_ret
    exact ⟨rfl, HB.out⟩
  cases t2 : (a2 == c2)
  · rw [decide_eq_false (fun hh => by obtain ⟨e0, e1, e2, e3, e4, e5, e6⟩ := hh; simp [e2] at t2)]
    go_enter Tryd.func12, Tryd.ntmps12
    go_wp2
    go_ret
    exact ⟨rfl, HB.out⟩
  cases t3 : (b3 == d3)
  · rw [decide_eq_false (fun hh => by obtain ⟨e0, e1, e2, e3, e4, e5, e6⟩ := hh; simp [e3] at t3)]
    go_enter Tryd.func12, Tryd.ntmps12
    go_wp2
    go_ret
    exact ⟨rfl, HB.out⟩
  cases t4 : (a4 == c4)
  · rw [decide_eq_false (fun hh => by obtain ⟨e0, e1, e2, e3, e4, e5, e6⟩ := hh; simp [e4] at t4)]
    go_enter Tryd.func12, Tryd.ntmps12
    go_wp2
    go_ret
    exact ⟨rfl, HB.out⟩
  cases t5 : (a5 == c5)
  · rw [decide_eq_false (fun hh => by obtain ⟨e0, e1, e2, e3, e4, e5, e6⟩ := hh; simp [e5] at t5)]
    go_enter Tryd.func12, Tryd.ntmps12
    go_wp2
    go_ret
    exact ⟨rfl, HB.out⟩
  have hd : decide (sameU a0 b1 a2 b3 a4 a5 l c0 d1 c2 d3 c4 c5 k) = D := by
    rw [HD.out]
    simp only [beq_iff_eq] at t0 t1 t2 t3 t4 t5
    exact decide_eq_decide.2 ⟨fun hh => hh.2.2.2.2.2.2, fun hh => ⟨t0, t1, t2, t3, t4, t5, hh⟩⟩
  rw [hd]
  clear hd
  go_enter Tryd.func12, Tryd.ntmps12
  go_wp2_with fail
  refine (HQ.out).mono ?_
  rintro e w' ⟨rfl, rfl⟩
  go_wp2
  go_ret
  exact ⟨rfl, HB.out⟩
end Go.Proofs.YtnecdmihnndebaaDoor
