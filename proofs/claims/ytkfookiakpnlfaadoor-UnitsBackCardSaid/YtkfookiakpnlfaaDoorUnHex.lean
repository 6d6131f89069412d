/- Contracts of package units: numberText, hexText. -/
import Derived.Test.YtkfookiakpnlfaaDoorItoa
import Derived.Test.YtkfookiakpnlfaaDoorStepNum
namespace Go.Proofs.YtkfookiakpnlfaaDoor
open Go.RowKit

theorem bs_append (a b : List UInt8) : bs a ++ bs b = bs (a ++ b) := by
  apply bs_of
  simp [bs, ByteArray.data_append]
theorem numL_len (n : Nat) : (numL n).length ≤ 3 := by
  unfold numL
  split
  · simp
  · split <;> simp
theorem bs_size (l : List UInt8) : (bs l).size = l.length := by simp [bs, ByteArray.size]
set_option maxHeartbeats 1000000 in
set_option maxRecDepth 100000 in
theorem numberText_any (x : Int) (b : Bool) (w : World) (h0 : 0 ≤ x) (h1 : x ≤ 127) (hp : PowOk w) :
    Calls Tryd.prog 35 #[.int .u8 x, .bool b] w fun e w' => e = .returned (.string (bs (numT x b))) ∧ Below w.heap.size w w' := by
  obtain ⟨n, rfl⟩ : ∃ n : Nat, x = n := ⟨x.toNat, by omega⟩
  have hit := itoa_any n w (by omega) hp
  have HI := Lib.hid hit
  have hc : ∀ b : Bool, bs (numL n) ++ bs [signU b] = bs (numT n b) := fun b => bs_append _ _
  have HC := Lib.hid hc
  have hsz : (bs (numL n)).size ≤ 3 := by rw [bs_size]; exact numL_len n
  clear hit hc hp
  cases b
  all_goals
    go_enter Tryd.func35, Tryd.ntmps35
    go_wp2_with fail
    refine (HI.out).mono ?_
    rintro e w1 ⟨rfl, hb⟩
    have HB := Lib.hid hb
    clear hb
    go_wp2
    go_ret
    refine ⟨?_, HB.out⟩
    first
      | exact congrArg (fun z => Ending.returned (Value.string z)) (HC.out false)
      | exact congrArg (fun z => Ending.returned (Value.string z)) (HC.out true)
def hexDigits : ByteArray := "0123456789abcdef".toUTF8
theorem hexDigits_size : hexDigits.size = 16 := by decide +kernel
theorem hexDigits_at : ∀ j : Fin 16, (hexDigits[j.val]?).getD 0 = hexd j.val := by decide +kernel
theorem run_index_hex (i : Int) (k : IntKind) (h0 : 0 ≤ i) (h1 : i ≤ 15) (w : World) :
    (Instr.index 9 (.string hexDigits) (.int k i)).run Tryd.prog w = .ok (.int .u8 (((hexd i.toNat).toNat : Nat) : Int)) w := by
  have hi : 0 ≤ i ∧ i < (hexDigits.size : Int) := by rw [hexDigits_size]; omega
  have h2 : i.toNat < hexDigits.size := by rw [hexDigits_size]; omega
  have h3 := hexDigits_at ⟨i.toNat, by omega⟩
  rw [run_index_string w 9 hexDigits k i Tryd.underlying9, dif_pos hi]
  simp only [ByteArray.getElem?_lt' _ _ h2, Option.getD_some] at h3
  rw [h3]
def toI (l : List UInt8) : List Int := l.map fun c => (c.toNat : Int)
theorem toI_append (a b : List UInt8) : toI (a ++ b) = toI a ++ toI b := by simp [toI]
theorem toI_length (a : List UInt8) : (toI a).length = a.length := by simp [toI]
theorem step_append_two {k : IntKind} {t e : TypeId} {bytes : Nat} (ht : Tryd.prog.underlying t = some (.slice e)) (hin : (Tryd.prog.info? e).map (fun i => (i.zero, i.size, i.bytes)) = some (some (.int k 0), 1, bytes)) (hby8 : bytes ≤ 8)
    {ops : Array Oper} {o : Oper} {a : Act} {K : Act → World → Prop} {Q : Exit → Act → World → Prop} {E : Prop} {wx : World} (hgd : o.guard = none) (s x : Operand)
    (ho : o.op = .call { callee := .builtin .append, args := #[s, x], argTypes := #[t, t] })
    (B : Nat) (v : Value) (n : Nat) (xs : List Int) (y z : Int) (hs : a.eval s = v) (hown : wx.ownsRow B e 1 v n (nums k xs))
    (e0 : Nat) (hx : a.eval x = .slice (some ⟨e0, 0, none⟩) 2 2) (hc : wx.cell? ⟨e0, 0, none⟩ = some (.int k y)) (hc2 : wx.cell? ⟨e0, 1, none⟩ = some (.int k z))
    (hn : n + 2 ≤ 2199023255552) (hB : B ≤ wx.heap.size)
    (h : ∀ v' w', w'.ownsRow B e 1 v' (n + 2) (nums k (xs ++ [y, z])) → Grow v wx v' w' → K (a.put o.dst v') w') :
    if Region.wanted o (yielded ops a.tmps) = true then Oper.wp Tryd.prog o a wx K Q else E := by
  obtain ⟨i0, hi, hz0, hz1, hz2⟩ := info_parts hin
  have hbb : (n + 2) * bytes ≤ 140737488355328 := by
    have : (n + 2) * bytes ≤ 2199023255552 * 8 := Nat.mul_le_mul hn hby8
    omega
  refine step_append_lies wx hgd s x _ ho B _ i0 (.int k 0) 1 bytes ht hi hz0 hz1 hz2 rfl (by decide) v n (nums k xs) hs hown ⟨e0, 0, none⟩ 2 2 [.int k y, .int k z] hx rfl ?_ (fun u' hu' => by simp at hu'; rcases hu' with rfl | rfl <;> rfl) (by decide) (by unfold maxLen; omega) hbb hB wx.heap.size rfl ?_
  · intro j u' hj
    have hj0 : j = 0 ∨ j = 1 := by
      have := (List.getElem?_eq_some_iff.1 hj).1
      simp at this
      omega
    rcases hj0 with rfl | rfl
    · simp at hj
      subst hj
      exact hc
    · simp at hj
      subst hj
      exact hc2
  intro g cap w' h1 h2 h3 h4
  have e1 : nums k (xs ++ [y, z]) = nums k xs ++ [.int k y, .int k z] := by simp [nums]
  refine h _ w' (by rw [e1]; exact h1) ⟨Exc.of_grown h2, ?_⟩
  intro j hj
  simp only [Value.ownBlock, Option.some.injEq] at hj
  subst hj
  rcases h3 with h3 | h3
  · exact .inl h3
  · exact .inr (by omega)
set_option maxHeartbeats 2000000 in
set_option maxRecDepth 100000 in
theorem hexText_any (s : Option Addr) (n c : Nat) (l : List Int) (w : World) (h : Row .u8 w s n c l) (hn : 0 < n) (hn2 : n ≤ 1000) :
    Calls Tryd.prog 47 #[.slice s n c] w fun e w' => e = .returned (.string (bs (hexL l))) ∧ Below w.heap.size w w' := by
  have hl := h.len
  have hoct := fun x hx => wf_u8.1 (h.wf x hx)
  have hle := h.le
  have hcm := h.max
  unfold maxLen at hcm
  obtain ⟨b, o, rfl, hc⟩ : ∃ b off, s = some ⟨b, off, none⟩ ∧ ∀ i, i < n → w.cell? ⟨b, off + i, none⟩ = some (.int .u8 (l.getD i 0)) := by
    rcases h.cells with h0 | h0
    · omega
    · exact h0
  have hmk := make80 (2 * n) (by omega)
  rw [show (((2 * n : Nat)) : Int) = 2 * (n : Int) by omega] at hmk
  have hblt : b < w.heap.size := World.block_lt_of_cell? w _ (hc 0 hn)
  have HCell := Lib.hid hc
  have HL := Lib.hid hl
  have HO := Lib.hid hoct
  clear h hl hoct hc
  go_enter Tryd.func47, Tryd.ntmps47
  go_name_bytes_deep 12 DG hDG
  have eDG : DG = hexDigits := by rw [← hDG]; decide +kernel
  subst eDG
  clear hDG
  go_wp2_with fail
  clear hmk
  go_loopw [3, 12] (fun v i wr => ∃ k : Nat, k ≤ n ∧ i = .int .i64 k ∧ Below w.heap.size w wr ∧ wr.ownsRow w.heap.size 5 1 v (2 * k) (nums .u8 (toI (hexL (l.take k))))) (fun _ i _ => n - (intOf i).toNat)
  case atStart => exact ⟨0, Nat.zero_le _, rfl, below_alloc _ _, owns_made80 w w.heap.size (2 * n) (Nat.le_refl _) (by omega)⟩
  case round =>
    obtain ⟨k, hk, rfl, hbel, hown⟩ := hrel
    by_cases hlt : k < n
    · have g0 := HCell.out k hlt
      obtain ⟨x, hx⟩ : ∃ x, x = l.getD k 0 := ⟨_, rfl⟩
      rw [← hx] at g0
      have g1 : wr.cell? ⟨b, o + k, none⟩ = some (.int .u8 x) := by rw [hbel.cell (p := ⟨b, o + k, none⟩) hblt]; exact g0
      have hxo : 0 ≤ x ∧ x ≤ 255 := by
        have := HL.out
        rw [hx, List.getD_eq_getElem?_getD, List.getElem?_eq_getElem (by omega), Option.getD_some]
        exact HO.out _ (List.getElem_mem _)
      obtain ⟨hx0, hx1⟩ := hxo
      have i1 := run_index_hex (x / 16) .u8 (by omega) (by omega)
      have i2 := run_index_hex (x % 16) .u8 (by omega) (by omega)
      have hnib := and_nib hx0 hx1
      have ht : hexL (l.take (k + 1)) = hexL (l.take k) ++ [hexd (x / 16).toNat, hexd (x % 16).toNat] := by
        have := HL.out
        rw [take_succ' (by omega), ← hx, hexL_append]; rfl
      obtain ⟨y1, hy1⟩ : ∃ y : Int, y = (((hexd (x / 16).toNat).toNat : Nat) : Int) := ⟨_, rfl⟩
      obtain ⟨y2, hy2⟩ : ∃ y : Int, y = (((hexd (x % 16).toNat).toNat : Nat) : Int) := ⟨_, rfl⟩
      rw [← hy1] at i1
      rw [← hy2] at i2
      have hti : toI (hexL (l.take (k + 1))) = toI (hexL (l.take k)) ++ [y1, y2] := by rw [ht, toI_append, hy1, hy2]; rfl
      have HT := Lib.hid hti
      have HB := Lib.hid hbel
      have HW := Lib.hid hown
      have hsz := hbel.size
      clear hbel hown hx ht hy1 hy2 hti g0
      go_wp2
      go_region_held3 (fun _ => True) (trivial)
        (first
          | (refine step_append_two Tryd.underlying23 info8 (by decide) (by rfl) _ _ (by rfl) w.heap.size _ _ _ y1 y2 (by rfl) (by exact World.ownsRow.alloc HW.out _) wr.heap.size (by rfl) (by exact (show (wr.alloc (.cells #[.int .u8 y1, .int .u8 y2] 5)).cell? ⟨wr.heap.size, 0, none⟩ = some (.int .u8 y1) from by rw [cell_of_row _ _ 0 _ _ _ (heap_alloc_new wr _)]; rfl)) (by exact (show (wr.alloc (.cells #[.int .u8 y1, .int .u8 y2] 5)).cell? ⟨wr.heap.size, 1, none⟩ = some (.int .u8 y2) from by rw [cell_of_row _ _ 1 _ _ _ (heap_alloc_new wr _)]; rfl)) (by omega) (by simp <;> omega) ?_; intro v3 W3 q1 q2)
          | fail)
      all_goals
        have hgb := q2.below (B := w.heap.size) (by simp <;> omega) (fun k hk => (ownBlock_lt HW.out hk).1)
        have hbw : Below w.heap.size w W3 := (HB.out.trans (((below_alloc wr (.cells #[.int .u8 y1, .int .u8 y2] 5)).mono hsz).drew)).trans hgb
        have HB3 := Lib.hid hbw
        have HW3 := Lib.hid q1
        clear q1 q2 hgb hbw i1 i2 hnib
        go_wp2
        refine ⟨⟨k + 1, by omega, by go_num, HB3.out, ?_⟩, by simp [intOf]; omega⟩
        rw [HT.out]
        exact HW3.out
    · obtain rfl : k = n := by omega
      rw [List.take_of_length_le (by rw [HL.out]; exact Nat.le_refl _)] at hown
      have hlen : (hexL l).length = 2 * k := by rw [hexL_length, HL.out]
      obtain ⟨g, cc, rest, rfl, hg, ho⟩ := ownsRow_own hown (by omega)
      have hcv : (convert 23 9 (.slice (some ⟨g, 0, none⟩) (2 * k) cc)).run Tryd.prog wr = .ok (.string (bs (hexL l))) wr := by
        have h := run_convert_bytes_back (P := Tryd.prog) wr 23 9 5 ⟨g, 0, none⟩ cc (hexL l) Tryd.underlying23 Tryd.underlying5 Tryd.underlying9 (fun j hj => by
          have hc := ho.cell j (by rw [List.length_append, nums_length, toI_length]; omega)
          have e : (⟨g, 0, none⟩ : Addr).add j = ⟨g, j, none⟩ := by unfold Addr.add; split <;> simp_all
          rw [e, hc, List.getD_eq_getElem?_getD, List.getElem?_append_left (by rw [nums_length, toI_length]; exact hj)]
          simp [nums, toI, hj])
        rw [hlen] at h
        exact h
      have HB := Lib.hid hbel
      clear hbel hown ho hlen
      go_wp2
      go_ret
      exact ⟨rfl, HB.out⟩
end Go.Proofs.YtkfookiakpnlfaaDoor
