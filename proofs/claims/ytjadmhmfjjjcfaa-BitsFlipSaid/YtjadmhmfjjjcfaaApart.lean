/- Contracts: bits.Apart. -/
import Derived.Test.YtjadmhmfjjjcfaaBytes
namespace Go.Proofs.Ytjadmhmfjjjcfaa
open Go.RowKit

theorem info64 : (Try.prog.info? 3).map (fun i => (i.zero, i.size, i.bytes)) = some (some (.int .i64 0), 1, 8) := by kernel_rfl

set_option maxHeartbeats 400000 in
theorem clip_any (a : Option Addr) (n c : Nat) (w : World) (h : n ≤ c) (_hm : c ≤ 9223372036854775807) (ha : ∀ x, a = some x → x.spot = none) :
    Calls Try.prog 37 #[.slice a n c] w fun e w' => e = .returned (.slice a n n) ∧ w = w' := by
  rcases a with _ | ⟨b, o, sp⟩
  · go_enter Try.func37, Try.ntmps37
    go_wp2
    go_ret
    exact ⟨by simp, rfl⟩
  · have := ha _ rfl
    simp at this
    subst this
    clear ha
    go_enter Try.func37, Try.ntmps37
    go_wp2
    all_goals
      go_ret
      exact ⟨by simp, rfl⟩

/-- The positions below k at which two lists differ. -/
def diffs (l1 l2 : List Int) (k : Nat) : List Int := ((List.range k).filter fun j => l1.getD j 0 != l2.getD j 0).map Int.ofNat
theorem diffs_length (l1 l2 : List Int) (k : Nat) : (diffs l1 l2 k).length ≤ k := by
  unfold diffs
  rw [List.length_map]
  have := List.length_filter_le (fun j => l1.getD j 0 != l2.getD j 0) (List.range k)
  rw [List.length_range] at this
  exact this
theorem diffs_yes {l1 l2 : List Int} {k : Nat} (h : l1.getD k 0 ≠ l2.getD k 0) : diffs l1 l2 (k + 1) = diffs l1 l2 k ++ [(k : Int)] := by
  unfold diffs
  rw [List.range_succ, List.filter_append, List.map_append, List.filter_cons, if_pos (by rw [bne_iff_ne]; exact h)]
  rfl
theorem diffs_no {l1 l2 : List Int} {k : Nat} (h : l1.getD k 0 = l2.getD k 0) : diffs l1 l2 (k + 1) = diffs l1 l2 k := by
  unfold diffs
  rw [List.range_succ, List.filter_append, List.map_append, List.filter_cons, if_neg (by rw [bne_iff_ne]; exact not_not_intro h)]
  simp

/-- The error of Apart. -/
def apartErr (l1 l2 : List Int) : Int := if ¬ errOf l1 = 0 then errOf l1 else if ¬ errOf l2 = 0 then errOf l2 else if l1.length = l2.length then 0 else 5

set_option maxHeartbeats 400000 in
theorem apart_err (a1 a2 : Option Addr) (n1 c1 n2 c2 : Nat) (l1 l2 : List Int) (w : World) (h1 : Row .u8 w a1 n1 c1 l1) (h2 : Row .u8 w a2 n2 c2 l2) (he : apartErr l1 l2 ≠ 0) :
    Calls Try.prog 26 #[.slice a1 n1 c1, .slice a2 n2 c2] w fun e w' => e = .returned (.tuple #[.slice none 0 0, .int .i64 (apartErr l1 l2)]) ∧ w = w' := by
  have hc1 := check_any a1 n1 c1 l1 w h1
  have hc2 := check_any a2 n2 c2 l2 w h2
  by_cases e1 : errOf l1 = 0
  · by_cases e2 : errOf l2 = 0
    · have hn1 := (errOf_zero e1).1
      have hn2 := (errOf_zero e2).1
      have hfin0 : apartErr l1 l2 = if n1 = n2 then 0 else 5 := by
        unfold apartErr
        rw [if_neg (by simp [e1]), if_neg (by simp [e2]), h1.len, h2.len]
      rw [h1.len] at hn1
      rw [h2.len] at hn2
      have hne : n1 ≠ n2 := by
        intro h; rw [hfin0, if_pos h] at he; exact he rfl
      have hb : ((n1 : Int) != (n2 : Int)) = true := by rw [bne_iff_ne]; omega
      rw [hfin0, if_neg hne]
      rw [e1] at hc1
      rw [e2] at hc2
      have H1 := Lib.hid hc1
      have H2 := Lib.hid hc2
      clear hc1 hc2 hfin0 he e1 e2 h1 h2 hne
      go_enter Try.func26, Try.ntmps26
      go_wp2_with fail
      refine H1.out.mono ?_
      rintro e w' ⟨rfl, rfl⟩
      go_wp2_with fail
      refine H2.out.mono ?_
      rintro e w' ⟨rfl, rfl⟩
      go_wp2
      go_ret2
      exact ⟨rfl, rfl⟩
    · have hfin : apartErr l1 l2 = errOf l2 := by
        unfold apartErr
        rw [if_neg (by simp [e1]), if_pos e2]
      rw [hfin]
      obtain ⟨x, hx⟩ : ∃ x, x = errOf l2 := ⟨_, rfl⟩
      rw [← hx] at hc2 e2 ⊢
      rw [e1] at hc1
      have hne' : (x != 0) = true := by simpa using e2
      have H1 := Lib.hid hc1
      have H2 := Lib.hid hc2
      clear hc1 hc2 hfin he e1 e2 h1 h2 hx
      go_enter Try.func26, Try.ntmps26
      go_wp2_with fail
      refine H1.out.mono ?_
      rintro e w' ⟨rfl, rfl⟩
      go_wp2_with fail
      refine H2.out.mono ?_
      rintro e w' ⟨rfl, rfl⟩
      go_wp2
      go_ret2
      exact ⟨rfl, rfl⟩
  · have hfin : apartErr l1 l2 = errOf l1 := by
      unfold apartErr
      rw [if_pos e1]
    rw [hfin]
    obtain ⟨x, hx⟩ : ∃ x, x = errOf l1 := ⟨_, rfl⟩
    rw [← hx] at hc1 e1 ⊢
    have hne' : (x != 0) = true := by simpa using e1
    have H1 := Lib.hid hc1
    clear hc1 hc2 hfin he e1 h1 h2 hx
    go_enter Try.func26, Try.ntmps26
    go_wp2_with fail
    refine H1.out.mono ?_
    rintro e w' ⟨rfl, rfl⟩
    go_wp2
    go_ret2
    exact ⟨rfl, rfl⟩

def ApartSays (l1 l2 : List Int) (e : Ending) (w' : World) : Prop :=
  ∃ a, e = .returned (.tuple #[.slice a (diffs l1 l2 l1.length).length (diffs l1 l2 l1.length).length, .int .i64 0]) ∧ Row .i64 w' a (diffs l1 l2 l1.length).length (diffs l1 l2 l1.length).length (diffs l1 l2 l1.length)

set_option maxHeartbeats 400000 in
theorem apart_ok (a1 a2 : Option Addr) (n1 c1 n2 c2 : Nat) (l1 l2 : List Int) (w : World) (h1 : Row .u8 w a1 n1 c1 l1) (h2 : Row .u8 w a2 n2 c2 l2) (he : apartErr l1 l2 = 0) :
    Calls Try.prog 26 #[.slice a1 n1 c1, .slice a2 n2 c2] w fun e w' => ApartSays l1 l2 e w' ∧ Below w.heap.size w w' := by
  have hc1 := check_any a1 n1 c1 l1 w h1
  have hc2 := check_any a2 n2 c2 l2 w h2
  obtain ⟨e1, e2, hll⟩ : errOf l1 = 0 ∧ errOf l2 = 0 ∧ l1.length = l2.length := by
    unfold apartErr at he
    split at he
    · contradiction
    · split at he
      · contradiction
      · split at he
        · rename_i g1 g2 g3
          exact ⟨Decidable.not_not.1 g1, Decidable.not_not.1 g2, g3⟩
        · omega
  have hn1 := (errOf_zero e1).1
  rw [h1.len, h2.len] at hll
  subst hll
  rw [h1.len] at hn1
  rw [e1] at hc1
  rw [e2] at hc2
  have hb : ((n1 : Int) != (n1 : Int)) = false := by simp
  have H1 := Lib.hid hc1
  have H2 := Lib.hid hc2
  have HR1 := Lib.hid h1
  have HR2 := Lib.hid h2
  have hle1 := h1.le
  have hmx1 := h1.max
  have hle2 := h2.le
  have hmx2 := h2.max
  unfold maxLen at hmx1 hmx2
  obtain ⟨i0, hi, hz0, hz1, hz2⟩ := info_parts info64
  have HI := Lib.hid hi
  have HZ0 := Lib.hid hz0
  have HZ1 := Lib.hid hz1
  have HZ2 := Lib.hid hz2
  clear hc1 hc2 e1 e2 he h1 h2 hi hz0 hz1 hz2
  go_enter Try.func26, Try.ntmps26
  go_wp2_with fail
  refine H1.out.mono ?_
  rintro e w' ⟨rfl, rfl⟩
  go_wp2_with fail
  refine H2.out.mono ?_
  rintro e w' ⟨rfl, rfl⟩
  go_wp2_with fail
  go_loopw [8, 9, 27] (fun v _ i wr => ∃ k : Nat, k ≤ n1 ∧ i = .int .i64 k ∧ Below w.heap.size w wr ∧ wr.ownsRow w.heap.size 3 1 v (diffs l1 l2 k).length (nums .i64 (diffs l1 l2 k))) (fun _ _ i _ => n1 - (intOf i).toNat)
  case atStart => exact ⟨0, Nat.zero_le _, rfl, Below.refl _ _, by have := World.ownsRow_nil w w.heap.size 3 1; simpa [diffs, nums] using this⟩
  case round =>
    obtain ⟨k, hk, rfl, hbel, hown⟩ := hrel
    by_cases hlt : k < n1
    · obtain ⟨b1, o1, rfl, g1⟩ : ∃ b o, a1 = some ⟨b, o, none⟩ ∧ wr.cell? ⟨b, o + k, none⟩ = some (.int .u8 (l1.getD k 0)) := by
        rcases (HR1.out.later hbel).cells with h0 | ⟨b, o, ha, hc⟩
        · omega
        · exact ⟨b, o, ha, hc k hlt⟩
      obtain ⟨b2, o2, rfl, g2⟩ : ∃ b o, a2 = some ⟨b, o, none⟩ ∧ wr.cell? ⟨b, o + k, none⟩ = some (.int .u8 (l2.getD k 0)) := by
        rcases (HR2.out.later hbel).cells with h0 | ⟨b, o, ha, hc⟩
        · omega
        · exact ⟨b, o, ha, hc k hlt⟩
      obtain ⟨x, hx⟩ : ∃ x, x = l1.getD k 0 := ⟨_, rfl⟩
      obtain ⟨y, hy⟩ : ∃ y, y = l2.getD k 0 := ⟨_, rfl⟩
      rw [← hx] at g1
      rw [← hy] at g2
      have hd := diffs_length l1 l2 k
      by_cases hxy : x = y
      · have hne : (x != y) = false := by simp [hxy]
        have hdn := diffs_no (l1 := l1) (l2 := l2) (k := k) (by rw [← hx, ← hy]; exact hxy)
        have HD := Lib.hid hdn
        have HO := Lib.hid hown
        have HBel := Lib.hid hbel
        clear hdn hown hbel hx hy hxy
        go_wp2
        go_quiet (fail)
        go_wp2
        refine ⟨⟨k + 1, by omega, by go_num, below_drewN HBel.out _, ?_⟩, by simp [intOf]; omega⟩
        rw [HD.out]
        exact HO.out
      · have hne : (x != y) = true := by simp [hxy]
        have hdy := diffs_yes (l1 := l1) (l2 := l2) (k := k) (by rw [← hx, ← hy]; exact hxy)
        have HD := Lib.hid hdy
        have HO := Lib.hid hown
        have HBel := Lib.hid hbel
        clear hdy hown hbel hx hy hxy
        go_wp2
        go_quiet (fail)
        have hown2 : (wr.drewN nq).ownsRow w.heap.size 3 1 u8 (diffs l1 l2 k).length (nums .i64 (diffs l1 l2 k)) := HO.out
        have HO2 := Lib.hid hown2
        have hsz := HBel.out.size
        clear hown2
        go_wp2_with (at_builtin; refine wpList_append_own _ rfl _ _ 44 rfl w.heap.size 3 i0 (.int .i64 0) 1 8 Try.underlying44 HI.out HZ0.out HZ1.out HZ2.out rfl (by decide) _ _ _ rfl (HO2.out.alloc _) ⟨wr.heap.size, 0, none⟩ 1 1 [.int .i64 k] rfl rfl ?c1 ?c2 ?c3 ?c4 ?c5 ?_)
        case c1 => exact cell_one_new (wr.drewN nq) _ _
        case c2 => intro u hu; simp at hu; subst hu; rfl
        case c3 => unfold maxLen; omega
        case c4 => omega
        case c5 => simp; omega
        · intro v' w1 hown' hgrow _
          have hbel' : Below w.heap.size w w1 := by
            have hb0 : Below w.heap.size w ((wr.drewN nq).alloc (Obj.cells #[Value.int IntKind.i64 ↑k] 3)) := (below_drewN HBel.out nq).alloc hsz _
            exact hb0.grown hgrow (by simp; omega) (fun g hg => (World.ownsRow.lt HO.out g hg).1)
          have HB' := Lib.hid hbel'
          have HO' := Lib.hid hown'
          clear hown' hgrow hbel'
          go_wp2
          refine ⟨⟨k + 1, by omega, by go_num, HB'.out, ?_⟩, by simp [intOf]; omega⟩
          rw [HD.out, List.length_append, nums, List.map_append]
          exact HO'.out
    · obtain rfl : k = n1 := by omega
      have hd := diffs_length l1 l2 k
      have hwf : ∀ x ∈ diffs l1 l2 k, (Lit.int .i64 x).wf = true := by
        intro x hx
        unfold diffs at hx
        rw [List.mem_map] at hx
        obtain ⟨j, hj, rfl⟩ := hx
        have := List.mem_range.1 (List.mem_filter.1 hj).1
        rw [wf_i64]
        have e : (Int.ofNat j : Int) = (j : Int) := rfl
        rw [e]; omega
      obtain ⟨a, c, rfl, hrow, hspot⟩ := ownsRow_row .i64 hown hwf
      have hle := hrow.le
      have hmx := hrow.max
      unfold maxLen at hmx
      have hcl := clip_any a (diffs l1 l2 k).length c wr hle (by omega) hspot
      have HCl := Lib.hid hcl
      have HRow := Lib.hid hrow
      have HBel := Lib.hid hbel
      have HSp := Lib.hid hspot
      have hlen : (diffs l1 l2 l1.length).length = (diffs l1 l2 k).length := by rw [HR1.out.len]
      have HLen := Lib.hid hlen
      clear hcl hrow hbel hown hspot hwf hlen
      go_wp2_with fail
      refine HCl.out.mono ?_
      rintro e w' ⟨rfl, rfl⟩
      go_wp2
      go_ret2
      refine ⟨⟨a, ?_, ?_⟩, HBel.out⟩
      · rw [HLen.out]; rfl
      · rw [HLen.out]
        have := HRow.out
        have e : diffs l1 l2 l1.length = diffs l1 l2 k := by rw [HR1.out.len]
        rw [e]
        exact ⟨this.len, Nat.le_refl _, Nat.le_trans this.le this.max, this.wf, this.cells, fun h => by have h1 := this.isNil h; have h2 := this.le; omega⟩
end Go.Proofs.Ytjadmhmfjjjcfaa
