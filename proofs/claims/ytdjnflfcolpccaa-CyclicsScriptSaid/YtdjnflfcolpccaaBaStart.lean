/- Contracts: a pair of ends: start. -/
import Derived.Test.YtdjnflfcolpccaaBaPairL
namespace Go.Proofs.Ytdjnflfcolpccaa
open Go.RowKit

/-- The colours of a new pair. -/
noncomputable def newCol (n p : Nat) (S0 S1 : Nat → Prop) (k : Nat) : Nat := open Classical in if k < n then 8 else if k = p then 0 else if S0 k then 1 else if S1 k then 2 else 7
theorem newCol_low {n p : Nat} {S0 S1 : Nat → Prop} {k : Nat} (h : k < n) : newCol n p S0 S1 k = 8 := by unfold newCol; rw [if_pos h]
theorem newCol_p {n p : Nat} {S0 S1 : Nat → Prop} (h : n ≤ p) : newCol n p S0 S1 p = 0 := by unfold newCol; rw [if_neg (by omega), if_pos rfl]
theorem newCol_0 {n p : Nat} {S0 S1 : Nat → Prop} {k : Nat} (h : n ≤ p) (hk : p < k) (hs : S0 k) : newCol n p S0 S1 k = 1 := by unfold newCol; rw [if_neg (by omega), if_neg (by omega), if_pos hs]
theorem newCol_1 {n p : Nat} {S0 S1 : Nat → Prop} {k : Nat} (h : n ≤ p) (hk : p < k) (hn : ¬ S0 k) (hs : S1 k) : newCol n p S0 S1 k = 2 := by unfold newCol; rw [if_neg (by omega), if_neg (by omega), if_neg hn, if_pos hs]
def PSt.zero (lm lo : Nat) : PSt := ⟨En.zero lm lo, En.zero lm lo, [], [], 0, 0, [], []⟩
/-- The limits of plain data. -/
def zLm (a : Nat) : Nat := 1 + a % 127
def zLo (b : Nat) : Nat := 1 + b % 65535
theorem zLm_in (a : Nat) : 1 ≤ zLm a ∧ zLm a ≤ 127 := by unfold zLm; omega
theorem zLo_in (b : Nat) : 1 ≤ zLo b ∧ zLo b ≤ 65535 := by unfold zLo; omega
theorem of_any (a b : Nat) (w : World) (ha : a ≤ 255) (hb : b ≤ 65535) :
    Calls Try.prog 6 #[.agg #[.int .u8 (a : Int), .int .u16 (b : Int)]] w fun e w' => e = .returned (.tuple #[.int .i64 (zLm a : Int), .int .i64 (zLo b : Int)]) ∧ Below w.heap.size w w' := by
  have e1 : (1 : Int) + (a : Int) % 127 = ((zLm a : Nat) : Int) := by unfold zLm; omega
  have e2 : (1 : Int) + (b : Int) % 65535 = ((zLo b : Nat) : Int) := by unfold zLo; omega
  have h0 : (0 : Int) ≤ a := by omega
  have h1 : (a : Int) ≤ 255 := by omega
  have h2 : (0 : Int) ≤ b := by omega
  have h3 : (b : Int) ≤ 65535 := by omega
  have HE := Lib.hid (And.intro e1 e2)
  clear e1 e2
  go_enter Try.func6, Try.ntmps6
  go_wp2_with fail
  go_region
  go_wp2
  refine bodyPost_ret (v := .tuple #[.int .i64 (zLm a : Int), .int .i64 (zLo b : Int)]) (by simp [results, Try.results6, go_sem, HE.out.1, HE.out.2]) rfl ?_
  exact ⟨rfl, (below_alloc _ _).drew⟩
abbrev pair0 (a b : Value) : List Value := [a, b, .slice none 0 0, .slice none 0 0, .int .i64 0, .int .i64 0, .slice none 0 0, .slice none 0 0, .bool false]
set_option maxHeartbeats 1000000 in
theorem start_any (I : EndFace) (a b : Nat) (w : World) (ha : a ≤ 255) (hb : b ≤ 65535) :
    Calls Try.prog 23 #[.agg #[.int .u8 (a : Int), .int .u16 (b : Int)]] w fun e w' => (∃ p L, L.B = w.heap.size ∧ e = .returned (.pointer (some ⟨p, 0, none⟩)) ∧ PairAt I w' p (PSt.zero (zLm a) (zLo b)) L) ∧ Below w.heap.size w w' := by
  obtain ⟨l1, l2⟩ := zLm_in a
  obtain ⟨l3, l4⟩ := zLo_in b
  have HO := Lib.hid (fun W => of_any a b W ha hb)
  obtain ⟨lm, hlm⟩ : ∃ x, x = zLm a := ⟨_, rfl⟩
  obtain ⟨lo, hlo⟩ : ∃ x, x = zLo b := ⟨_, rfl⟩
  rw [← hlm, ← hlo] at HO ⊢
  rw [← hlm] at l1 l2
  rw [← hlo] at l3 l4
  clear hlm hlo
  have HN := Lib.hid (fun W => I.new W lm lo l1 l2 l3 l4)
  go_enter Try.func23, Try.ntmps23
  obtain ⟨p, hp⟩ : ∃ p, p = w.heap.size + 1 := ⟨_, rfl⟩
  obtain ⟨w0, hw0⟩ : ∃ X, X = (w.alloc (.cells #[.int .u8 (a : Int), .int .u16 (b : Int)] 24)).alloc (.cells (pair0 (.pointer none) (.pointer none)).toArray 69) := ⟨_, rfl⟩
  have ou0 : Own w0 p 69 (pair0 (.pointer none) (.pointer none)) := by
    have hh := own_lit (w.alloc (.cells #[.int .u8 (a : Int), .int .u16 (b : Int)] 24)) 69 (pair0 (.pointer none) (.pointer none)).toArray _ rfl
    rw [World.size_alloc] at hh
    rw [hw0, hp]; exact hh
  have hb0 : Below w.heap.size w w0 := by rw [hw0]; exact (below_alloc _ _).alloc (by simp) _
  have HOu := Lib.hid ou0
  have HB0 := Lib.hid hb0
  have HW0 := Lib.hid hw0
  have HP := Lib.hid hp
  clear ou0 hb0 hw0 hp
  go_wp2_with fail
  rw [← HP.out]
  rw [← HW0.out]
  refine (HO.out w0).mono ?_
  rintro e w1 ⟨rfl, hb1⟩
  have HB1 := Lib.hid (HB0.out.trans (hb1.mono HB0.out.size))
  have HO1 := Lib.hid (HOu.out.below hb1 HOu.out.lt)
  clear hb1 HB0 HOu HW0
  go_wp2_with fail
  go_loopw [6] (fun i wr => Below w.heap.size w wr ∧ ((i = .int .i64 0 ∧ Own wr p 69 (pair0 (.pointer none) (.pointer none))) ∨
      (∃ b0 S0, i = .int .i64 1 ∧ I.At wr b0 S0 (En.zero lm lo) ∧ (∀ k, S0 k → p < k) ∧ Own wr p 69 (pair0 (.pointer (some ⟨b0, 0, none⟩)) (.pointer none))) ∨
      (∃ b0 S0 b1 S1, i = .int .i64 2 ∧ I.At wr b0 S0 (En.zero lm lo) ∧ (∀ k, S0 k → p < k) ∧ I.At wr b1 S1 (En.zero lm lo) ∧ (∀ k, S1 k → p < k ∧ ¬ S0 k) ∧ Own wr p 69 (pair0 (.pointer (some ⟨b0, 0, none⟩)) (.pointer (some ⟨b1, 0, none⟩)))))) (fun i _ => 2 - (intOf i).toNat)
  case atStart => exact ⟨HB1.out, .inl ⟨rfl, HO1.out⟩⟩
  case round =>
    clear HB1 HO1
    obtain ⟨hbel, hrel⟩ := hrel
    rcases hrel with ⟨rfl, ho⟩ | ⟨b0, S0, rfl, ha0, hs0, ho⟩ | ⟨b0, S0, b1, S1, rfl, ha0, hs0, ha1, hs1, ho⟩
    · have HB := Lib.hid hbel
      have HQ := Lib.hid ho
      clear hbel ho
      go_wp2_with fail
      refine (HN.out _).mono ?_
      rintro e w2 ⟨⟨b0, S0, rfl, ha0, hs0⟩, hb2⟩
      have hlt := HQ.out.lt
      have ho2 := HQ.out.below hb2 hlt
      have hlt2 := ho2.lt
      have f0 := ho2.frozen 0
      have k0 := ho2.cell 0 (by simp)
      have f8 := ho2.frozen 8
      have k8 := ho2.cell 8 (by simp)
      simp only [List.getD_cons_succ, List.getD_cons_zero] at k0 k8
      have HB2 := Lib.hid (HB.out.trans (hb2.mono HB.out.size))
      have HO2 := Lib.hid ho2
      have HA := Lib.hid ha0
      have HS := Lib.hid (fun k hk => Nat.lt_of_lt_of_le hlt (hs0 k hk))
      clear hb2 ho2 ha0 hs0 HB HQ
      go_wp2_with fail
      have hx : Exc (fun k => k = p) w2 ((w2.setCell ⟨p, 0, none⟩ (.pointer (some ⟨b0, 0, none⟩))).setCell ⟨p, 8, none⟩ (.bool false)) := ((Exc.refl (fun k => k = p) w2).setCell ⟨p, 0, none⟩ (.inl rfl) _).setCell ⟨p, 8, none⟩ (.inl rfl) _
      exact ⟨⟨HB2.out.trans (hx.below HB2.out.size (fun i _ hi => by have := HP.out; omega)), .inr (.inl ⟨b0, S0, rfl, I.exc HA.out hx (fun k hk hh => by have := HS.out k hk; omega), HS.out, (HO2.out.set 0 _).set 8 _⟩)⟩, by simp [intOf]⟩
    · have HB := Lib.hid hbel
      have HQ := Lib.hid ho
      have HA0 := Lib.hid ha0
      have HS0 := Lib.hid hs0
      clear hbel ho ha0 hs0
      go_wp2_with fail
      refine (HN.out _).mono ?_
      rintro e w2 ⟨⟨b1, S1, rfl, ha1, hs1⟩, hb2⟩
      have hlt := HQ.out.lt
      have hs0l := I.lt HA0.out
      have ho2 := HQ.out.below hb2 hlt
      have hlt2 := ho2.lt
      have f0 := ho2.frozen 1
      have k0 := ho2.cell 1 (by simp)
      have f8 := ho2.frozen 8
      have k8 := ho2.cell 8 (by simp)
      simp only [List.getD_cons_succ, List.getD_cons_zero] at k0 k8
      have HB2 := Lib.hid (HB.out.trans (hb2.mono HB.out.size))
      have HO2 := Lib.hid ho2
      have HA2 := Lib.hid (I.exc (S := S0) (T := fun _ => False) HA0.out (Exc.of_below hb2) (fun _ _ hh => hh))
      have HA1 := Lib.hid ha1
      have HS1 := Lib.hid (fun k hk => (⟨Nat.lt_of_lt_of_le hlt (hs1 k hk), fun h0 => absurd (hs0l k h0) (Nat.not_lt.2 (hs1 k hk))⟩ : p < k ∧ ¬ S0 k))
      clear hb2 ho2 ha1 hs1 HB HQ hs0l HA0
      go_wp2_with fail
      have hx : Exc (fun k => k = p) w2 ((w2.setCell ⟨p, 1, none⟩ (.pointer (some ⟨b1, 0, none⟩))).setCell ⟨p, 8, none⟩ (.bool false)) := ((Exc.refl (fun k => k = p) w2).setCell ⟨p, 1, none⟩ (.inl rfl) _).setCell ⟨p, 8, none⟩ (.inl rfl) _
      exact ⟨⟨HB2.out.trans (hx.below HB2.out.size (fun i _ hi => by have := HP.out; omega)), .inr (.inr ⟨b0, S0, b1, S1, rfl, I.exc HA2.out hx (fun k hk hh => by have := HS0.out k hk; omega), HS0.out, I.exc HA1.out hx (fun k hk hh => by have := (HS1.out k hk).1; omega), HS1.out, (HO2.out.set 1 _).set 8 _⟩)⟩, by simp [intOf]⟩
    · have HB := Lib.hid hbel
      have HQ := Lib.hid ho
      have HA0 := Lib.hid ha0
      have HA1 := Lib.hid ha1
      clear hbel ho ha0 ha1
      go_wp2_with fail
      go_ret
      have hpw : w.heap.size ≤ p := by have := HP.out; omega
      refine ⟨⟨p, ⟨b0, b1, S0, S1, none, none, none, none, none, none, none, none, 0, 0, 0, 0, w.heap.size, newCol w.heap.size p S0 S1⟩, rfl, rfl, ?_⟩, HB.out⟩
      exact ⟨HQ.out, HA0.out, HA1.out, WayAt.nil _ _, WayAt.nil _ _, TakAt.nil _ _, TakAt.nil _ _, newCol_p hpw, fun k hk => newCol_0 hpw (hs0 k hk) hk, fun k hk => newCol_1 hpw (hs1 k hk).1 (hs1 k hk).2 hk, nofun, nofun, nofun, nofun, fun k hk => newCol_low hk, HB.out.size⟩
end Go.Proofs.Ytdjnflfcolpccaa
