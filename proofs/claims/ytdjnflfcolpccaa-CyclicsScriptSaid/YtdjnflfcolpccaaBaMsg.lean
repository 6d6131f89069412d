/- Contracts: of the statements of cyclics: Message, number, list. -/
import Derived.Test.YtdjnflfcolpccaaBaseFr
import Derived.Test.YtdjnflfcolpccaaBaEnd
import Derived.Test.YtdjnflfcolpccaaAppendZeros
import Derived.Test.YtdjnflfcolpccaaUnBase
namespace Go.Proofs.Ytdjnflfcolpccaa
open Go.RowKit

theorem loadK_octs (k : Nat) : ∀ x ∈ loadK k, 0 ≤ x ∧ x ≤ 255 := by
  intro x hx
  simp only [loadK, List.mem_append, List.mem_cons, List.not_mem_nil, or_false, List.mem_replicate] at hx
  rcases hx with (rfl | rfl) | ⟨_, rfl⟩ <;> omega
theorem loadK_wf (k : Nat) : ∀ x ∈ loadK k, (Lit.int .u8 x).wf = true := fun x hx => wf_u8.2 (loadK_octs k x hx)
/-- append(v, make([]T, 0)...): v as it is. -/
theorem run_append_none {P : Program} (w : World) (t ti ty e : TypeId) (i : TypeInfo) (z : Value) (ht : P.underlying t = some (.slice e)) (hti : P.underlying ti = some (.int .i64)) (hi : P.info? e = some i) (hz : i.zero = some z) (hzc : z.cells = #[z])
    (g n c : Nat) (hn : n ≤ c) : (Builtin.append_ #[t, ti] ty #[.slice (some ⟨g, 0, none⟩) n c, .int .i64 0]).run P w = .ok (.slice (some ⟨g, 0, none⟩) n c) w := by
  have hwrap : IntKind.i64.wrap (0 : Int) = 0 := by decide
  simp [Builtin.append_, run_underlying ht, run_underlying hti, sizeOf, typeInfo, zeroValue, hi, hz, hzc, Builtin.lenOf, asInt, asIntOf, hwrap, hn, Builtin.zeroCells, storeCells]
theorem wpList_append_none {P : Program} {w : World} {ops : Array Oper} {rest : List Oper} {o : Oper} {a : Act} {Q : Exit → Act → World → Prop} (hgd : o.guard = none) (s x : Operand) (t ti : TypeId)
    (ho : o.op = .call { callee := .builtin .append, args := #[s, x], argTypes := #[t, ti] })
    (e : TypeId) (i : TypeInfo) (z : Value) (ht : P.underlying t = some (.slice e)) (hti : P.underlying ti = some (.int .i64)) (hi : P.info? e = some i) (hz : i.zero = some z) (hzc : z.cells = #[z])
    (g n c : Nat) (hs : a.eval s = .slice (some ⟨g, 0, none⟩) n c) (hx : a.eval x = .int .i64 0) (hn : n ≤ c)
    (h : wpList P ops Q rest (a.put o.dst (.slice (some ⟨g, 0, none⟩) n c)) w) : wpList P ops Q (o :: rest) a w := by
  have hr := run_append_none (P := P) w t ti o.type e i z ht hti hi hz hzc g n c hn
  refine wpList_plain hgd fun _ hK => ?_
  unfold Oper.wp execOp
  simp only [ho, resolve, invoke, builtin, Sem.run_bind, Sem.run_pure, Result.andThen_ok, List.map_toArray, List.map_cons, List.map_nil, hs, hx, hr]
  exact hK _ _ h
theorem own_owns {w : World} {g B e : Nat} {x y : Value} (h : Own w g e [x, y]) (hB : B ≤ g) : w.ownsRow B e 1 (.slice (some ⟨g, 0, none⟩) 2 2) 2 [x, y] :=
  ⟨rfl, .inr ⟨g, 2, #[x, y], rfl, hB, h, Nat.le_refl _, by unfold maxLen; omega, rfl, rfl⟩⟩
theorem kmsg_any (k : Nat) (w : World) (hk : k ≤ 1000000) :
    Calls Try.prog 9 #[.int .i64 (k : Int)] w fun e w' => (∃ g c, e = .returned (.slice (some ⟨g, 0, none⟩) (mlen k) c) ∧ Row .u8 w' (some ⟨g, 0, none⟩) (mlen k) c (loadK k) ∧ w.heap.size ≤ g ∧ g < w'.heap.size) ∧ Below w.heap.size w w' := by
  have h0 : (0 : Int) ≤ k := by omega
  have h1 : (k : Int) ≤ 1000000 := by omega
  obtain ⟨M, hM⟩ : ∃ M, M = k % 4 := ⟨_, rfl⟩
  have hmi : (k : Int) % 4 = (M : Int) := by omega
  have hM4 : (M : Int) ≤ 3 := by omega
  have hM0 : (0 : Int) ≤ (M : Int) := by omega
  obtain ⟨i0, hi, hz0, hz1, hz2⟩ := info_parts info8
  have HI := Lib.hid (And.intro hi (And.intro hz0 (And.intro hz1 hz2)))
  have hml : mlen k = 2 + M := by unfold mlen; omega
  have hlk : loadK k = [((k % 256 : Nat) : Int), ((k / 256 % 256 : Nat) : Int)] ++ List.replicate M 0 := by unfold loadK; rw [hM]
  have HML := Lib.hid hml
  have HLK := Lib.hid hlk
  have hwf := loadK_wf k
  have HWF := Lib.hid hwf
  have e1 : (((k % 256 : Nat) : Int)) = (k : Int) % 256 := by omega
  have e2 : (((k / 256 % 256 : Nat) : Int)) = (k : Int) / 256 % 256 := by omega
  have HE := Lib.hid (And.intro e1 e2)
  have HM := Lib.hid hM
  clear hi hz0 hz1 hz2 hM hml hlk hwf e1 e2
  go_enter Try.func9, Try.ntmps9
  have ho1 := own_lit w 5 #[.int .u8 ((k : Int) % 256), .int .u8 ((k : Int) / 256 % 256)] [.int .u8 ((k : Int) % 256), .int .u8 ((k : Int) / 256 % 256)] rfl
  have hb1 := below_alloc w (.cells #[.int .u8 ((k : Int) % 256), .int .u8 ((k : Int) / 256 % 256)] 5)
  have HO1 := Lib.hid ho1
  have HB1 := Lib.hid hb1
  clear ho1 hb1
  rcases Nat.eq_zero_or_pos M with hz | hp
  · subst hz
    go_wp2_with (at_builtin; refine wpList_append_none rfl _ _ _ _ rfl 5 i0 (.int .u8 0) Try.underlying36 Try.underlying3 HI.out.1 HI.out.2.1 rfl w.heap.size 2 2 rfl (by exact congrArg (Value.int .i64) hmi) (Nat.le_refl _) ?_)
    go_wp2
    go_ret
    obtain ⟨e1, e2⟩ := HE.out
    have hl : loadK k = [(k : Int) % 256, (k : Int) / 256 % 256] := by rw [HLK.out, e1, e2]; rfl
    have hm2 : mlen k = 2 := HML.out
    rw [hm2]
    refine ⟨⟨w.heap.size, 2, rfl, ?_, Nat.le_refl _, HO1.out.lt⟩, HB1.out⟩
    have hr : Own (w.alloc (.cells #[.int .u8 ((k : Int) % 256), .int .u8 ((k : Int) / 256 % 256)] 5)) w.heap.size 5 (nums .u8 (loadK k)) := by rw [hl]; exact HO1.out
    exact hr.row0 2 2 (by rw [hl]; rfl) (Nat.le_refl _) (by unfold maxLen; omega) HWF.out
  · have hpi : ¬ (M : Int) = 0 := by omega
    have hbz : w.heap.size ≤ (w.alloc (.cells #[.int .u8 ((k : Int) % 256), .int .u8 ((k : Int) / 256 % 256)] 5)).heap.size := HB1.out.size
    have HBZ := Lib.hid hbz
    clear hbz
    go_wp2_with (at_builtin; refine wpList_append_zeros rfl _ _ _ _ rfl w.heap.size 5 i0 (.int .u8 0) 1 Try.underlying36 Try.underlying3 HI.out.1 HI.out.2.1 HI.out.2.2.1 HI.out.2.2.2 rfl rfl _ 2 _ rfl (own_owns HO1.out (Nat.le_refl _)) M (by exact congrArg (Value.int .i64) hmi) hp (by omega) (by decide) HBZ.out ?_)
    intro v3 w3 hown3 hg3
    have hb3 : Below w.heap.size w w3 := HB1.out.grown hg3 HBZ.out (fun g hg => by simp [Value.ownBlock] at hg; omega)
    have hl : Value.int .u8 ((k : Int) % 256) :: Value.int .u8 ((k : Int) / 256 % 256) :: List.replicate M (Value.int .u8 0) = nums .u8 (loadK k) := by
      obtain ⟨e1, e2⟩ := HE.out
      rw [HLK.out, e1, e2]; simp [nums]
    rw [hl] at hown3
    obtain ⟨a4, c4, hv4, hrow, _⟩ := ownsRow_rowN .u8 hown3 HWF.out
    obtain ⟨g, c, rest, hv, hgB, hown⟩ := ownsRow_own hown3 (by omega)
    have hgl := hown.lt
    rw [hv] at hv4
    cases hv4
    subst hv
    have H3 := Lib.hid hrow
    have HB3 := Lib.hid hb3
    clear hown3 hg3 hb3 hl hrow hown
    go_wp2
    go_ret
    rw [HML.out]
    exact ⟨⟨g, _, rfl, H3.out, hgB, hgl⟩, HB3.out⟩
theorem kmsg_row (k : Nat) (w : World) (hk : k ≤ 1000000) :
    Calls Try.prog 9 #[.int .i64 (k : Int)] w fun e w' => (∃ g m c, e = .returned (.slice (some ⟨g, 0, none⟩) m c) ∧ RowV w' (fun j => w.heap.size ≤ j ∧ j < w'.heap.size) false (.slice (some ⟨g, 0, none⟩) m c) (loadK k)) ∧ Below w.heap.size w w' := by
  refine (kmsg_any k w hk).mono ?_
  rintro e w' ⟨⟨g, c, rfl, hr, hg, hl⟩, hb⟩
  rw [← loadK_length] at hr ⊢
  refine ⟨⟨g, _, c, rfl, _, c, rfl, hr, fun hh => Bool.noConfusion hh, fun z hz => ?_⟩, hb⟩
  cases hz
  exact ⟨hg, hl⟩
theorem kmsg_acc (k : Nat) (w : World) (hk : k ≤ 1000000) :
    Calls Try.prog 9 #[.int .i64 (k : Int)] w fun e w' => (∃ g m c, e = .returned (.slice (some ⟨g, 0, none⟩) m c) ∧ (m = mlen k ∧ w.heap.size ≤ g ∧ Row .u8 w' (some ⟨g, 0, none⟩) m c (loadK k))) ∧ Below w.heap.size w w' := by
  refine (kmsg_any k w hk).mono ?_
  rintro e w' ⟨⟨g, c, rfl, hr, hg, hl⟩, hb⟩
  exact ⟨⟨g, _, c, rfl, rfl, hg, hr⟩, hb⟩
theorem mlen_ge (k : Nat) : 2 ≤ mlen k := by unfold mlen; omega
theorem knum_any (k : Nat) (w : World) (hk : k ≤ 1000000) :
    Calls Try.prog 14 #[.int .i64 (k : Int)] w fun e w' => e = .returned (.int .u8 ((num k : Nat) : Int)) ∧ w = w' := by
  have h0 : (0 : Int) ≤ k := by omega
  have h1 : (k : Int) ≤ 1000000 := by omega
  go_enter Try.func14, Try.ntmps14
  go_wp2
  go_ret
  exact ⟨ret_int (by unfold num; omega), rfl⟩
set_option maxHeartbeats 1000000 in
/-- The loads from one number to another one. -/
theorem klist_any (a b : Nat) (w : World) (hab : a ≤ b) (hb : b ≤ 1000000) :
    Calls Try.prog 22 #[.int .i64 (a : Int), .int .i64 (b : Int)] w fun e w' => (∃ x c, e = .returned (.slice x (b - a) c) ∧ Mat w' (fun j => w.heap.size ≤ j ∧ j < w'.heap.size) false x (b - a) c (listL a b)) ∧ Below w.heap.size w w' := by
  have h1 : (b : Int) ≤ 1000000 := by omega
  go_enter Try.func22, Try.ntmps22
  go_wp2_with fail
  go_loopw [5, 6] (fun v i wr => ∃ k : Nat, a ≤ k ∧ k ≤ b ∧ i = .int .i64 k ∧ Below w.heap.size w wr ∧ Gath w.heap.size false v (listL a k) wr) (fun _ i _ => b - (intOf i).toNat)
  case atStart => exact ⟨a, Nat.le_refl _, hab, rfl, Below.refl _ _, by rw [listL_nil]; exact Gath.nil _ _ _⟩
  case round =>
    obtain ⟨k, hak, hk, rfl, hbel, hg⟩ := hrel
    by_cases hlt : k < b
    · have hcon := kmsg_row k wr (by omega)
      have HC := Lib.hid hcon
      have HB := Lib.hid hbel
      have HG := Lib.hid hg
      clear hcon hbel hg
      go_wp2_with fail
      refine HC.out.mono ?_
      rintro e w1 ⟨⟨rg, rm, rc, rfl, hr⟩, hb1⟩
      have hs := HB.out.size
      have hlen : (listL a k).length = k - a := listL_length a k
      have hall := And.intro (HG.out.later hb1) (And.intro (HB.out.trans (hb1.mono hs)) (HG.out.row hs hr (fun _ h => h)))
      have HA := Lib.hid hall
      have HL := Lib.hid hlen
      have hsz2 := hall.2.1.size
      clear hb1 hr hall hlen
      go_wp2_with (at_builtin; refine wpList_append_row rfl _ _ rfl w.heap.size _ false _ _ _ _ rfl (by exact HA.out.1.mat) (by exact HA.out.2.2) (by exact fun _ hj hh => hh.2.1 hj) rfl (by rw [HL.out]; omega) hsz2 ?_)
      intro v' w2 m1 m2
      have hg2 := Gath.add m1 m2
      rw [listL_snoc hak] at hg2
      have hb2 := m2.below (B := w.heap.size) hsz2 (fun j hj => (HA.out.1.lt j hj).1)
      have H5 := Lib.hid hg2
      have H6 := Lib.hid (HA.out.2.1.trans hb2)
      clear hg2 hb2 m1 m2
      go_wp2
      exact ⟨⟨k + 1, by omega, by omega, by go_num, H6.out, H5.out⟩, by simp [intOf]; omega⟩
    · obtain rfl : k = b := by omega
      obtain ⟨x, c, hv, hm, _⟩ := hg.done
      rw [listL_length] at hv hm
      subst hv
      have HM := Lib.hid hm
      have HB := Lib.hid hbel
      clear hm hbel hg
      go_wp2
      go_ret
      exact ⟨⟨_, _, rfl, HM.out⟩, HB.out⟩
end Go.Proofs.Ytdjnflfcolpccaa
