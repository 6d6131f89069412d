/- Contracts: RefOctets. -/
import Derived.Test.YtohhocndicnegaaDoorRefValue
namespace Go.Proofs.YtohhocndicnegaaDoor
open Go.RowKit

set_option maxHeartbeats 400000 in
theorem refOctets_any (a : Option Addr) (n c : Nat) (l : List Int) (w : World) (h : Row .u8 w a n c l) (hbits : isBits l = true) (hn : n ≤ 1048576) :
    Calls Tryd.prog 42 #[.slice a n c] w fun e w' => (∃ a' c', e = .returned (.slice a' (octs l).length c') ∧ Row .u8 w' a' (octs l).length c' (octs l) ∧ ∀ z, a' = some z → w.heap.size ≤ z.block ∧ z.block < w'.heap.size) ∧ Below w.heap.size w w' := by
  have hle := h.le
  have hmx := h.max
  unfold maxLen at hmx
  have H01 := Lib.hid (h.bits hbits)
  have HR := Lib.hid h
  have HB := Lib.hid hbits
  obtain ⟨i0, hi, hz0, hz1, hz2⟩ := info_parts info8
  have HI := Lib.hid hi
  have HZ0 := Lib.hid hz0
  have HZ1 := Lib.hid hz1
  have HZ2 := Lib.hid hz2
  clear h hi hz0 hz1 hz2 hbits
  go_enter Tryd.func42, Tryd.ntmps42
  go_wp2_with fail
  go_loopw [3, 4] (fun v i wr => ∃ k : Nat, 8 * k ≤ n ∧ i = .int .i64 (8 * (k : Int)) ∧ Below w.heap.size w wr ∧ wr.ownsRow w.heap.size 5 1 v k (nums .u8 ((List.range k).map fun i => val ((l.drop (8 * i)).take 8)))) (fun _ i _ => n - (intOf i).toNat)
  case atStart => exact ⟨0, Nat.zero_le _, rfl, Below.refl _ _, by have := World.ownsRow_nil w w.heap.size 5 1; simpa [nums] using this⟩
  case round =>
    obtain ⟨k, hk, rfl, hbel, hown⟩ := hrel
    by_cases hlt : 8 * k + 8 ≤ n
    · obtain ⟨b, o, rfl⟩ : ∃ b o, a = some ⟨b, o, none⟩ := by
        rcases HR.out.cells with h0 | ⟨b, o, ha, _⟩
        · omega
        · exact ⟨b, o, ha⟩
      have hrow := (HR.out.later hbel).piece (8 * k) 8 (by omega)
      have hv := val_oct H01.out (8 * k)
      have hval := value_any _ _ _ _ wr hrow (isBits_take (isBits_drop HB.out (8 * k)) 8) (by omega)
      obtain ⟨x, hx⟩ : ∃ x, x = val ((l.drop (8 * k)).take 8) := ⟨_, rfl⟩
      rw [← hx] at hv hval
      obtain ⟨hv0, hv1⟩ := hv
      have HV := Lib.hid hval
      have HX := Lib.hid hx
      have HO2 := Lib.hid hown
      have HBel2 := Lib.hid hbel
      have hsz := hbel.size
      have h88 : 8 * k + 8 - 8 * k = 8 := by omega
      clear hval hown hbel hx hrow
      go_wp2_with fail
      refine HV.out.mono ?_
      rintro e w' ⟨rfl, rfl⟩
      go_wp2_with (at_builtin; refine wpList_append_own _ rfl _ _ 22 rfl w.heap.size 5 i0 (.int .u8 0) 1 1 Tryd.underlying22 HI.out HZ0.out HZ1.out HZ2.out rfl (by decide) _ _ _ rfl (HO2.out.alloc _) ⟨wr.heap.size, 0, none⟩ 1 1 [.int .u8 x] rfl rfl ?c1 ?c2 ?c3 ?c4 ?c5 ?_)
      case c1 => exact cell_one_new wr _ _
      case c2 => intro u hu; simp at hu; subst hu; rfl
      case c3 => unfold maxLen; omega
      case c4 => omega
      case c5 => simp; omega
      · intro v' w1 hown' hgrow _
        have hbel' : Below w.heap.size w w1 := by
          have hb0 : Below w.heap.size w (wr.alloc (Obj.cells #[Value.int IntKind.u8 x] 5)) := HBel2.out.alloc hsz _
          exact hb0.grown hgrow (by simp; omega) (fun g hg => (World.ownsRow.lt HO2.out g hg).1)
        have HB' := Lib.hid hbel'
        have HO' := Lib.hid hown'
        clear hown' hgrow hbel'
        go_wp2
        refine ⟨⟨k + 1, by omega, by go_num, HB'.out, ?_⟩, by simp [intOf]; omega⟩
        rw [octs_snoc, ← HX.out, nums, List.map_append]
        exact HO'.out
    · have hk8 : k = n / 8 := by omega
      have ho : (List.range k).map (fun i => val ((l.drop (8 * i)).take 8)) = octs l := by
        unfold octs
        rw [HR.out.len, hk8]
      rw [ho] at hown
      have hlen : (octs l).length = k := by rw [← ho]; simp
      rw [← hlen] at hown
      obtain ⟨a', c', rfl, hrow, _⟩ := ownsRow_row .u8 hown (by
        intro x hx
        unfold octs at hx
        obtain ⟨i, _, rfl⟩ := List.mem_map.1 hx
        exact wf_u8.2 (val_oct H01.out _))
      have hlow : ∀ z, a' = some z → w.heap.size ≤ z.block ∧ z.block < wr.heap.size := fun z hz => by subst hz; exact World.ownsRow.lt hown _ rfl
      have HO := Lib.hid hrow
      have HBel := Lib.hid hbel
      have HLow := Lib.hid hlow
      clear hown hbel hrow hlen hk8 ho hlow
      go_wp2
      go_ret
      exact ⟨⟨a', c', rfl, HO.out, HLow.out⟩, HBel.out⟩
theorem refOctets_n (a : Option Addr) (n c m : Nat) (l : List Int) (w : World) (h : Row .u8 w a n c l) (hbits : isBits l = true) (hn : n ≤ 1048576) (hm : n / 8 = m) :
    Calls Tryd.prog 42 #[.slice a n c] w fun e w' => (∃ a' c', e = .returned (.slice a' m c') ∧ Row .u8 w' a' m c' (octs l)) ∧ Below w.heap.size w w' := by
  refine (refOctets_any a n c l w h hbits hn).mono ?_
  rintro e w' ⟨⟨a', c', rfl, hr, _⟩, hb⟩
  have : (octs l).length = m := by simp [octs, h.len, hm]
  rw [this] at hr ⊢
  exact ⟨⟨a', c', rfl, hr⟩, hb⟩
end Go.Proofs.YtohhocndicnegaaDoor
