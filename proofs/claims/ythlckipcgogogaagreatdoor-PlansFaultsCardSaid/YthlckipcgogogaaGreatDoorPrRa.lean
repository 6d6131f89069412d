import Derived.Test.YthlckipcgogogaaGreatDoorPrClip
import Derived.Test.YthlckipcgogogaaGreatDoorPcCheck
/- Read. -/
namespace Go.Proofs.YthlckipcgogogaaGreatDoor
set_option linter.unusedVariables false
open Go.RowKit Go.Shelf
attribute [local go_sem] Oper.semAt_some

def zeroPl : Value := .agg #[.slice none 0 0, .slice none 0 0, .int .i64 0, .int .i64 0, .int .i64 0, .int .i64 0, .int .i64 0]
/-- What Read leaves. -/
def ReadOut (s : List UInt8) (w : World) (e : Ending) (w' : World) : Prop :=
  Below w.heap.size w w' ∧ ((∃ n, readF s.length s 0 emptyPn 0 = .fault n ∧ e = .returned (.tuple #[zeroPl, .agg #[.int .i64 4, .int .i64 (n : Int)]])) ∨
    (∃ p, readF s.length s 0 emptyPn 0 = .plan p ∧ chkPl p ≠ 0 ∧ e = .returned (.tuple #[zeroPl, .agg #[.int .i64 (chkPl p), .int .i64 0]])) ∨
    (∃ p aP aL, readF s.length s 0 emptyPn 0 = .plan p ∧ chkPl p = 0 ∧ e = .returned (.tuple #[.agg #[.slice aP p.P.length p.P.length, .slice aL p.L.length p.L.length, .int .i64 p.rate, .int .i64 p.room, .int .i64 p.m0, .int .i64 p.m1, .int .i64 p.m2], .agg #[.int .i64 0, .int .i64 0]]) ∧
      PRow w' aP p.P.length p.P.length p.P ∧ LRow w' aL p.L.length p.L.length p.L))
theorem own_drewR {W : World} {b t : Nat} {cs : List Value} (h : Own W b t cs) : Own W.drew b t cs := h
theorem exc_drewR {S : Nat → Prop} {a W : World} (h : Exc S a W) : Exc S a W.drew := h.drawN 1
/-- The stores of a fault. -/
def badW (W : World) (b2 b3 : Nat) (k : Int) : World :=
  ((((((((((W.setCell ⟨b2, 0, none⟩ (.slice none 0 0)).setCell ⟨b2, 1, none⟩ (.slice none 0 0)).setCell ⟨b2, 2, none⟩ (.int .i64 0)).setCell ⟨b2, 3, none⟩ (.int .i64 0)).setCell ⟨b2, 4, none⟩ (.int .i64 0)).setCell ⟨b2, 5, none⟩ (.int .i64 0)).setCell ⟨b2, 6, none⟩ (.int .i64 0)).setCell ⟨b3, 0, none⟩ (.int .i64 4)).setCell ⟨b3, 1, none⟩ (.int .i64 k)).drew)
theorem badW_own {W : World} {b2 b3 : Nat} (k : Int) (h2 : Own W b2 31 [.slice none 0 0, .slice none 0 0, .int .i64 0, .int .i64 0, .int .i64 0, .int .i64 0, .int .i64 0]) (h3 : Own W b3 37 [.int .i64 0, .int .i64 0]) (hne : b2 ≠ b3) :
    Own (badW W b2 b3 k) b2 31 [.slice none 0 0, .slice none 0 0, .int .i64 0, .int .i64 0, .int .i64 0, .int .i64 0, .int .i64 0] ∧ Own (badW W b2 b3 k) b3 37 [.int .i64 4, .int .i64 k] ∧ Exc (fun i => i = b2 ∨ i = b3) W (badW W b2 b3 k) ∧ KeepsOthers W (badW W b2 b3 k) := by
  have a2 := (((((((((h2.set 0 (.slice none 0 0)).set 1 (.slice none 0 0)).set 2 (.int .i64 0)).set 3 (.int .i64 0)).set 4 (.int .i64 0)).set 5 (.int .i64 0)).set 6 (.int .i64 0)).other ⟨b3, 0, none⟩ hne (.int .i64 4)).other ⟨b3, 1, none⟩ hne (.int .i64 k))
  have a3 := ((((((((h3.other ⟨b2, 0, none⟩ hne.symm (.slice none 0 0)).other ⟨b2, 1, none⟩ hne.symm (.slice none 0 0)).other ⟨b2, 2, none⟩ hne.symm (.int .i64 0)).other ⟨b2, 3, none⟩ hne.symm (.int .i64 0)).other ⟨b2, 4, none⟩ hne.symm (.int .i64 0)).other ⟨b2, 5, none⟩ hne.symm (.int .i64 0)).other ⟨b2, 6, none⟩ hne.symm (.int .i64 0)).set 0 (.int .i64 4)).set 1 (.int .i64 k)
  have x0 := Exc.refl (fun i => i = b2 ∨ i = b3) W
  have x1 := (((((((((x0.setCell ⟨b2, 0, none⟩ (.inl (.inl rfl)) (.slice none 0 0)).setCell ⟨b2, 1, none⟩ (.inl (.inl rfl)) (.slice none 0 0)).setCell ⟨b2, 2, none⟩ (.inl (.inl rfl)) (.int .i64 0)).setCell ⟨b2, 3, none⟩ (.inl (.inl rfl)) (.int .i64 0)).setCell ⟨b2, 4, none⟩ (.inl (.inl rfl)) (.int .i64 0)).setCell ⟨b2, 5, none⟩ (.inl (.inl rfl)) (.int .i64 0)).setCell ⟨b2, 6, none⟩ (.inl (.inl rfl)) (.int .i64 0)).setCell ⟨b3, 0, none⟩ (.inl (.inr rfl)) (.int .i64 4)).setCell ⟨b3, 1, none⟩ (.inl (.inr rfl)) (.int .i64 k))
  simp only [List.set_cons_zero, List.set_cons_succ] at a2 a3
  unfold badW
  refine ⟨own_drewR a2, own_drewR a3, exc_drewR x1, ?_⟩
  exact ((((((((((KeepsOthers.setCell _ _ _).trans (KeepsOthers.setCell _ _ _)).trans (KeepsOthers.setCell _ _ _)).trans (KeepsOthers.setCell _ _ _)).trans (KeepsOthers.setCell _ _ _)).trans (KeepsOthers.setCell _ _ _)).trans (KeepsOthers.setCell _ _ _)).trans (KeepsOthers.setCell _ _ _)).trans (KeepsOthers.setCell _ _ _)).trans (KeepsOthers.drew _))
/-- The results stored: a plan's seven cells, a fault's two. -/
def resW (W : World) (b2 b3 : Nat) (a0 a1 a2 a3 a4 a5 a6 f0 f1 : Value) : World :=
  ((((((((W.setCell ⟨b2, 0, none⟩ a0).setCell ⟨b2, 1, none⟩ a1).setCell ⟨b2, 2, none⟩ a2).setCell ⟨b2, 3, none⟩ a3).setCell ⟨b2, 4, none⟩ a4).setCell ⟨b2, 5, none⟩ a5).setCell ⟨b2, 6, none⟩ a6).setCell ⟨b3, 0, none⟩ f0).setCell ⟨b3, 1, none⟩ f1
theorem resW_own {W : World} {b2 b3 : Nat} {x0 x1 x2 x3 x4 x5 x6 y0 y1 : Value} (a0 a1 a2 a3 a4 a5 a6 f0 f1 : Value) (h2 : Own W b2 31 [x0, x1, x2, x3, x4, x5, x6]) (h3 : Own W b3 37 [y0, y1]) (hne : b2 ≠ b3) :
    Own (resW W b2 b3 a0 a1 a2 a3 a4 a5 a6 f0 f1) b2 31 [a0, a1, a2, a3, a4, a5, a6] ∧ Own (resW W b2 b3 a0 a1 a2 a3 a4 a5 a6 f0 f1) b3 37 [f0, f1] ∧ Exc (fun i => i = b2 ∨ i = b3) W (resW W b2 b3 a0 a1 a2 a3 a4 a5 a6 f0 f1) ∧ KeepsOthers W (resW W b2 b3 a0 a1 a2 a3 a4 a5 a6 f0 f1) := by
  have q2 := (((((((((h2.set 0 a0).set 1 a1).set 2 a2).set 3 a3).set 4 a4).set 5 a5).set 6 a6).other ⟨b3, 0, none⟩ hne f0).other ⟨b3, 1, none⟩ hne f1)
  have q3 := ((((((((h3.other ⟨b2, 0, none⟩ hne.symm a0).other ⟨b2, 1, none⟩ hne.symm a1).other ⟨b2, 2, none⟩ hne.symm a2).other ⟨b2, 3, none⟩ hne.symm a3).other ⟨b2, 4, none⟩ hne.symm a4).other ⟨b2, 5, none⟩ hne.symm a5).other ⟨b2, 6, none⟩ hne.symm a6).set 0 f0).set 1 f1
  have x0 := Exc.refl (fun i => i = b2 ∨ i = b3) W
  have x1 := (((((((((x0.setCell ⟨b2, 0, none⟩ (.inl (.inl rfl)) a0).setCell ⟨b2, 1, none⟩ (.inl (.inl rfl)) a1).setCell ⟨b2, 2, none⟩ (.inl (.inl rfl)) a2).setCell ⟨b2, 3, none⟩ (.inl (.inl rfl)) a3).setCell ⟨b2, 4, none⟩ (.inl (.inl rfl)) a4).setCell ⟨b2, 5, none⟩ (.inl (.inl rfl)) a5).setCell ⟨b2, 6, none⟩ (.inl (.inl rfl)) a6).setCell ⟨b3, 0, none⟩ (.inl (.inr rfl)) f0).setCell ⟨b3, 1, none⟩ (.inl (.inr rfl)) f1)
  simp only [List.set_cons_zero, List.set_cons_succ] at q2 q3
  unfold resW
  refine ⟨q2, q3, x1, ?_⟩
  exact (((((((((KeepsOthers.setCell _ _ _).trans (KeepsOthers.setCell _ _ _)).trans (KeepsOthers.setCell _ _ _)).trans (KeepsOthers.setCell _ _ _)).trans (KeepsOthers.setCell _ _ _)).trans (KeepsOthers.setCell _ _ _)).trans (KeepsOthers.setCell _ _ _)).trans (KeepsOthers.setCell _ _ _)).trans (KeepsOthers.setCell _ _ _))
theorem rd_keeps {B : Nat} {w w' : World} {rb : Nat} {vP vL : Value} {p : Pn} {part : Nat} (h : RdAt B w rb vP vL p part) (hx : Exc (RdS rb vP vL) w w') : KeepsOthers w w' := by
  refine ⟨hx.size, fun k o hk ho => ?_⟩
  have hlt := (Array.getElem?_eq_some_iff.1 hk).1
  have cells : ∀ {e j n : Nat} {v : Value} {xs : List Value}, w.ownsRow B e j v n xs → v.ownBlock = some k → False := fun {e j n v xs} hr hv => by
    rcases hr.2 with ⟨hnil, _⟩ | ⟨g, cap, cur, hv2, _, hc, _⟩
    · rw [hnil] at hv; cases hv
    · rw [hv2] at hv
      obtain rfl : g = k := Option.some.inj hv
      rw [hk] at hc
      cases hc
      cases ho
  rw [hx.block k hlt fun hs => ?_]
  · exact hk
  · rcases hs with hs | hs | hs
    · subst hs
      have h2 := h.own
      unfold Own at h2
      rw [hk] at h2
      cases h2
      cases ho
    · exact cells h.ps hs
    · exact cells h.ls hs
set_option maxHeartbeats 4000000 in
set_option maxRecDepth 100000 in
theorem Read_any (s : List UInt8) (hs : s.length ≤ 1048576) (w : World) : Calls Tryz.prog 8 #[.string (bs s)] w (ReadOut s w) := by
  refine (callsIn_wide (n := 3)).1 ?_
  have h1 : 1 ≤ 3 := by omega
  have hsz : (bs s).size = s.length := bs_len s
  obtain ⟨S, hS⟩ : ∃ S, S = bs s := ⟨_, rfl⟩
  obtain ⟨m, hm⟩ : ∃ m, m = s.length := ⟨_, rfl⟩
  rw [← hS, ← hm] at hsz
  rw [← hS]
  have hle : (m : Int) ≤ 1048576 := by omega
  have HS := Lib.hid hS
  have HM := Lib.hid hm
  have HLi := Lib.hid (fun W => lines_any S W)
  have Hs := Lib.hid hs
  clear hS hm hs
  refine callsIn_of_wp_marks Tryz.func8 rfl trivial ?_ rfl
  simp only [Tryz.ntmps8, List.size_toArray, List.length_cons, List.length_nil, Nat.reduceAdd, Nat.reduceSub, Array.replicate_succ, Array.replicate_zero, List.push_toArray, List.append_toArray, List.nil_append, List.cons_append]
  gi_wp2_with fail
  refine ⟨trivial, (callsIn_wide.2 (HLi.out _)).mono ?_⟩
  rintro e w5 ⟨rfl, hw5⟩
  gi_wp2_with fail
  have s1 := World.size_alloc w (.cells #[.slice none 0 0, .slice none 0 0, .int .i64 0, .int .i64 0, .int .i64 0, .int .i64 0, .int .i64 0] 31)
  obtain ⟨u1, hu1⟩ : ∃ x, x = w.alloc (.cells #[.slice none 0 0, .slice none 0 0, .int .i64 0, .int .i64 0, .int .i64 0, .int .i64 0, .int .i64 0] 31) := ⟨_, rfl⟩
  rw [← hu1] at s1 hw5 ⊢
  have o1 : Own u1 w.heap.size 31 [.slice none 0 0, .slice none 0 0, .int .i64 0, .int .i64 0, .int .i64 0, .int .i64 0, .int .i64 0] := by rw [hu1]; exact heap_alloc_new w _
  have x1 : Below w.heap.size w u1 := by rw [hu1]; exact below_alloc w _
  have s2 := World.size_alloc u1 (.cells #[.int .i64 0, .int .i64 0] 37)
  obtain ⟨u2, hu2⟩ : ∃ x, x = u1.alloc (.cells #[.int .i64 0, .int .i64 0] 37) := ⟨_, rfl⟩
  rw [← hu2] at s2 hw5 ⊢
  have o2 : Own u2 u1.heap.size 37 [.int .i64 0, .int .i64 0] := by rw [hu2]; exact heap_alloc_new u1 _
  have x2 : Below u1.heap.size u1 u2 := by rw [hu2]; exact below_alloc u1 _
  have s3 := World.size_alloc u2 (.cells #[.slice none 0 0, .slice none 0 0, .int .i64 0, .int .i64 0, .int .i64 0, .int .i64 0, .int .i64 0, .int .i64 0] 93)
  obtain ⟨u3, hu3⟩ : ∃ x, x = u2.alloc (.cells #[.slice none 0 0, .slice none 0 0, .int .i64 0, .int .i64 0, .int .i64 0, .int .i64 0, .int .i64 0, .int .i64 0] 93) := ⟨_, rfl⟩
  rw [← hu3] at s3 hw5 ⊢
  have o3 : Own u3 u2.heap.size 93 [.slice none 0 0, .slice none 0 0, .int .i64 0, .int .i64 0, .int .i64 0, .int .i64 0, .int .i64 0, .int .i64 0] := by rw [hu3]; exact heap_alloc_new u2 _
  have x3 : Below u2.heap.size u2 u3 := by rw [hu3]; exact below_alloc u2 _
  have s4 := World.size_alloc u3 (.cells #[.int .i64 0] 3)
  obtain ⟨u4, hu4⟩ : ∃ x, x = u3.alloc (.cells #[.int .i64 0] 3) := ⟨_, rfl⟩
  rw [← hu4] at s4 hw5 ⊢
  have o4 : Own u4 u3.heap.size 3 [.int .i64 0] := by rw [hu4]; exact heap_alloc_new u3 _
  have x4 : Below u3.heap.size u3 u4 := by rw [hu4]; exact below_alloc u3 _
  have s5 : w5.heap.size = u4.heap.size + 1 := by rw [hw5]; exact World.size_alloc u4 _
  have o5 : Own w5 u4.heap.size 9 [.string S] := by rw [hw5]; exact heap_alloc_new u4 _
  have x5 : Below u4.heap.size u4 w5 := by rw [hw5]; exact below_alloc u4 _
  rw [← hw5]
  rw [s1] at s2 o2
  rw [s2] at s3 o3
  rw [s3] at s4 o4
  rw [s4] at s5 o5
  obtain ⟨b2, hb2⟩ : ∃ x, x = w.heap.size := ⟨_, rfl⟩
  obtain ⟨b3, hb3⟩ : ∃ x, x = w.heap.size + 1 := ⟨_, rfl⟩
  obtain ⟨rb, hrb⟩ : ∃ x, x = w.heap.size + 1 + 1 := ⟨_, rfl⟩
  obtain ⟨bc, hbc⟩ : ∃ x, x = w.heap.size + 1 + 1 + 1 := ⟨_, rfl⟩
  obtain ⟨cb, hcb⟩ : ∃ x, x = w.heap.size + 1 + 1 + 1 + 1 := ⟨_, rfl⟩
  rw [← hcb, ← hbc, ← hrb, ← hb3]
  rw [← hb2] at o1
  rw [← hb3] at o2
  rw [← hrb] at o3
  rw [← hbc] at o4
  rw [← hcb] at o5
  have HNum := Lib.hid (show b2 = w.heap.size ∧ b3 = w.heap.size + 1 ∧ rb = w.heap.size + 2 ∧ bc = w.heap.size + 3 ∧ cb = w.heap.size + 4 ∧ w5.heap.size = w.heap.size + 5 from ⟨hb2, hb3, hrb, hbc, hcb, by rw [s5]⟩)
  have xx := ((x1.trans (x2.mono x1.size)).trans (x3.mono (Nat.le_trans x1.size x2.size))).trans (x4.mono (Nat.le_trans (Nat.le_trans x1.size x2.size) x3.size))
  have xw := xx.trans (x5.mono (by omega))
  have y5 : Own w5 b2 31 _ := (((o1.below x2 o1.lt).below x3 (by omega)).below x4 (by omega)).below x5 (by omega)
  have y6 : Own w5 b3 37 _ := ((o2.below x3 o2.lt).below x4 (by omega)).below x5 (by omega)
  have y7 : Own w5 rb 93 _ := (o3.below x4 o3.lt).below x5 (by omega)
  have y8 : Own w5 bc 3 _ := o4.below x5 o4.lt
  have hcap : Cap w5 cb s := by unfold Cap; rw [← HS.out]; exact o5
  have hI0 : RdI w w5.heap.size rb b2 b3 bc [] w5 := ⟨⟨emptyPn, 0, .slice none 0 0, .slice none 0 0, rfl, ⟨y7, World.ownsRow_nil _ _ _ _, World.ownsRow_nil _ _ _ _, fun j hj => (by cases hj), by omega, Nat.le_refl _⟩⟩, y8, y5, y6, xw⟩
  have HI0 := Lib.hid hI0
  have hlt5 : cb < w5.heap.size := by omega
  have HSeq := Lib.hid (lines_seq 2 cb (by omega) s Hs.out w5 hlt5 hcap)
  clear hI0 hcap y5 y6 y7 y8 xx xw o1 o2 o3 o4 o5 x1 x2 x3 x4 x5 s1 s2 s3 s4 s5 hu1 hu2 hu3 hu4 hw5 hb2 hb3 hrb hbc hcb hle hsz
  refine wpIn_range_cell rfl (show 1 ≤ 3 by omega) (gf := 73) (lb := #[.pointer (some ⟨cb, 0, none⟩)]) rfl trivial (enters_of Tryz.func73 (by kernel_rfl) rfl) (encs := encSt) (cb := cb) (Kp := KpC cb) HSeq.out hlt5
    (fun h k => Eq.trans k h) (fun W l o hl => World.putObj_heap_other (by omega)) (Below.refl _ _) (fun _ => rfl) (RdI w w5.heap.size rb b2 b3 bc) (RdX w b2 b3)
    (rdI_abides hlt5 (by have := HNum.out; omega) (by have := HNum.out; omega) (by have := HNum.out; omega) (by have := HNum.out; omega) (by have := HNum.out; omega))
    (fun c => rdX_abides c (by have := HNum.out; omega) (by have := HNum.out; omega) (by have := HNum.out; omega)) HI0.out
    (fun x => { tmps := #[.string S, undef, .pointer (some ⟨w.heap.size, 0, none⟩), .pointer (some ⟨b3, 0, none⟩), .pointer (some ⟨rb, 0, none⟩), .pointer (some ⟨bc, 0, none⟩), .string (bs x.1), undef, undef, undef, .string S, .int .i64 (m : Int), .bool (decide ((1048576 : Int) < (m : Int))), undef, undef, .string S, .func (.func 73) #[] #[.pointer (some ⟨cb, 0, none⟩)], .string (bs x.1), undef, undef, undef, undef, undef, undef, undef, undef, undef, undef, undef, undef, undef, undef, undef, undef, undef, undef, undef, undef, undef, undef, undef, undef, undef, undef, undef, undef, undef, undef, undef, undef, undef, undef, undef, undef, undef, undef, undef, undef, undef, undef, undef, undef, undef, undef, undef], defers := [] }) ?assign ?body ?done ?stop
  case assign =>
    intro l x W K hK
    simp only [encSt]
    gi_wp2
    exact hK
  case body =>
    rintro l pre x W hl hI hlen
    have HI := Lib.hid hI
    obtain ⟨p, part, vP, vL, hst, hrd⟩ := hI.st
    have HSt := Lib.hid hst
    have HRd := Lib.hid hrd
    have c0 := hI.cnt.cell 0 (by simp)
    simp only [List.getD_cons_zero] at c0
    have f0 := hI.cnt.frozen 0
    have kw : IntKind.i64.wrap ((pre.length : Int) + 1) = (pre.length : Int) + 1 := IntWalk.i64_in _ (by have := Hs.out; omega)
    have HLen := Lib.hid hlen
    clear hI hst hrd hlen
    have HCs := Lib.hid (fun V => cutsuf_any x.1 V x.2)
    gi_wp2_with fail
    refine ⟨trivial, (CallsIn.inRound l (callsIn_wide.2 (HCs.out _))).mono ?_⟩
    rintro e w' ⟨rfl, hw⟩
    subst hw
    have HX1 : Hid (Exc (fun k => k = bc) W (W.setCell ⟨bc, 0, none⟩ (.int .i64 ((pre.length : Int) + 1)))) := Lib.hid ((Exc.refl (fun k => k = bc) W).setCell ⟨bc, 0, none⟩ (.inl rfl) _)
    have HC1 := Lib.hid (HI.out.cnt.set 0 (.int .i64 ((pre.length : Int) + 1)))
    have HR2 := Lib.hid (HI.out.r2.exc' HX1.out (by have := HNum.out; omega))
    have HR3 := Lib.hid (HI.out.r3.exc' HX1.out (by have := HNum.out; omega))
    have HRd1 := Lib.hid (HRd.out.exc HX1.out (fun k hk e => by
      subst e
      have h9 := HNum.out
      rcases hk with hk | hk | hk
      · omega
      · have := (ownsK_lt HRd.out.ps hk).1; omega
      · have := (ownsK_lt HRd.out.ls hk).1; omega))
    clear c0 f0 kw
    have c1 := HC1.out.cell 0 (by simp)
    simp only [List.set_cons_zero, List.getD_cons_zero] at c1
    by_cases hend : x.1.getLast? = some 10
    · have e9 : decide (x.1.getLast? = some 10) = true := decide_eq_true hend
      rw [e9]
      have hg := rdS_grow _ p part HSt.out
      have hpl : (pre.map (·.1)).length = pre.length := by simp
      rw [hpl] at hg
      have hsl : (sufC x.1).length ≤ 1048576 := by have h1 := x.2; unfold sufC; split <;> simp <;> omega
      have HRead := Lib.hid (read_any HRd1.out hg.1 (sufC x.1) hsl (by have := HLen.out; have := Hs.out; omega) (by have := HLen.out; have := Hs.out; omega))
      obtain ⟨M, hM⟩ : ∃ M, M = stepM p part (sufC x.1) := ⟨_, rfl⟩
      have HRs : Hid (rdS ((pre ++ [x]).map (·.1)) = M) := Lib.hid (by
        rw [List.map_append, List.map_cons, List.map_nil, rdS_snoc, HSt.out, hM]
        exact if_pos hend)
      rw [← hM] at HRead
      clear hend e9 hg hpl hsl hM c1
      gi_wp2_with fail
      refine ⟨trivial, (CallsIn.inRound l (callsIn_wide.2 HRead.out)).mono ?_⟩
      rintro e w3 ⟨rfl, hx3, hq3⟩
      have HX3 := Lib.hid hx3
      have HQ3 := Lib.hid hq3
      have HK3 := Lib.hid ((KeepsOthers.setCell W ⟨bc, 0, none⟩ (.int .i64 ((pre.length : Int) + 1))).trans (rd_keeps HRd1.out hx3))
      have HNr : Hid (∀ k, k < w5.heap.size → k ≠ rb → ¬ RdS rb vP vL k) := Lib.hid (fun k hk hr hh => by
        rcases hh with hh | hh | hh
        · exact hr hh
        · have := (ownsK_lt HRd1.out.ps hh).1; omega
        · have := (ownsK_lt HRd1.out.ls hh).1; omega)
      have HC3 := Lib.hid (HC1.out.exc' hx3 (HNr.out bc (by have := HNum.out; omega) (by have := HNum.out; omega)))
      have HS2 := Lib.hid (HR2.out.exc' hx3 (HNr.out b2 (by have := HNum.out; omega) (by have := HNum.out; omega)))
      have HS3 := Lib.hid (HR3.out.exc' hx3 (HNr.out b3 (by have := HNum.out; omega) (by have := HNum.out; omega)))
      have HXw : Hid (Exc (fun k => k = bc ∨ RdS rb vP vL k) W w3) := Lib.hid ((HX1.out.weak (S' := fun k => k = bc ∨ RdS rb vP vL k) (fun _ _ h => .inl h)).trans hx3 (fun _ _ h => .inr h))
      have HB3 : Hid (Below w.heap.size w w3) := Lib.hid (HI.out.bel.trans (HXw.out.below HI.out.bel.size (fun i _ hi => by
        have h9 := HNum.out
        rcases hi with hi | hi | hi | hi
        · omega
        · omega
        · have := (ownsK_lt HRd1.out.ps hi).1; omega
        · have := (ownsK_lt HRd1.out.ls hi).1; omega)))
      clear hx3 hq3
      cases M
      · have HNo := HRs
        have c1 := HC3.out.cell 0 (by simp)
        simp only [List.set_cons_zero, List.getD_cons_zero] at c1
        obtain ⟨a0, a1, a2, a3, a4, a5, a6⟩ : _ ∧ _ ∧ _ ∧ _ ∧ _ ∧ _ ∧ _ := ⟨HS2.out.cell 0 (by simp), HS2.out.cell 1 (by simp), HS2.out.cell 2 (by simp), HS2.out.cell 3 (by simp), HS2.out.cell 4 (by simp), HS2.out.cell 5 (by simp), HS2.out.cell 6 (by simp)⟩
        obtain ⟨b0, b1⟩ : _ ∧ _ := ⟨HS3.out.cell 0 (by simp), HS3.out.cell 1 (by simp)⟩
        obtain ⟨p0, p1, p2, p3, p4, p5, p6⟩ : _ ∧ _ ∧ _ ∧ _ ∧ _ ∧ _ ∧ _ := ⟨HS2.out.frozen 0, HS2.out.frozen 1, HS2.out.frozen 2, HS2.out.frozen 3, HS2.out.frozen 4, HS2.out.frozen 5, HS2.out.frozen 6⟩
        obtain ⟨q0, q1⟩ : _ ∧ _ := ⟨HS3.out.frozen 0, HS3.out.frozen 1⟩
        simp only [List.getD_cons_zero, List.getD_cons_succ] at a0 a1 a2 a3 a4 a5 a6 b0 b1
        have hn23 : w.heap.size ≠ b3 ∧ b3 ≠ w.heap.size ∧ bc ≠ w.heap.size ∧ bc ≠ b3 ∧ w.heap.size ≠ bc ∧ b3 ≠ bc := by have := HNum.out; omega
        obtain ⟨n1, n2, n3, n4, n5, n6⟩ := hn23
        rw [HNum.out.1] at a0 a1 a2 a3 a4 a5 a6 p0 p1 p2 p3 p4 p5 p6
        have hmx : Tryz.prog.follows .mixedOrders = true := by kernel_rfl
        gi_wp2
        gi_region_o
        all_goals gi_wp2
        all_goals
          have hbw := badW_own ((pre.length : Int) + 1) HS2.out HS3.out (by have := HNum.out; omega)
          rw [HNum.out.1] at hbw
          refine ⟨HK3.out.trans hbw.2.2.2, rfl, ⟨pre, x, rfl, ⟨_, HSt.out⟩, HNo.out⟩, by rw [HNum.out.1]; exact hbw.1, ?_, HB3.out.trans (hbw.2.2.1.below HB3.out.size (fun i _ hi => by have := HNum.out; rcases hi with hi | hi <;> omega))⟩
          rw [List.length_append]
          exact hbw.2.1
      · rename_i M
        obtain ⟨q, part'⟩ := M
        gi_wp2
        refine ⟨HK3.out, ?_, ?_, ?_, HS2.out, HS3.out, HB3.out⟩
        · exact HXw.out.block cb (by have := HI.out.bel.size; have := HRd.out.sz; have := HNum.out; omega) (fun hh => by
            have h9 := HNum.out
            rcases hh with hh | hh
            · omega
            · exact HNr.out cb (by omega) (by omega) hh)
        · obtain ⟨vP', vL', h9⟩ := HQ3.out q part' rfl
          exact ⟨q, part', vP', vL', HRs.out, h9⟩
        · rw [List.length_append]
          exact HC3.out
    · have e9 : decide (x.1.getLast? = some 10) = false := decide_eq_false hend
      rw [e9]
      have HNo : Hid (rdS ((pre ++ [x]).map (·.1)) = none) := Lib.hid (by
        rw [List.map_append, List.map_cons, List.map_nil, rdS_snoc, HSt.out]
        exact if_neg hend)
      clear hend e9
      have HK1 := Lib.hid (KeepsOthers.setCell W ⟨bc, 0, none⟩ (.int .i64 ((pre.length : Int) + 1)))
      have HB1 : Hid (Below w.heap.size w (W.setCell ⟨bc, 0, none⟩ (.int .i64 ((pre.length : Int) + 1)))) := Lib.hid (HI.out.bel.trans (HX1.out.below HI.out.bel.size (fun i _ hi => by have := HNum.out; omega)))
      obtain ⟨a0, a1, a2, a3, a4, a5, a6⟩ : _ ∧ _ ∧ _ ∧ _ ∧ _ ∧ _ ∧ _ := ⟨HR2.out.cell 0 (by simp), HR2.out.cell 1 (by simp), HR2.out.cell 2 (by simp), HR2.out.cell 3 (by simp), HR2.out.cell 4 (by simp), HR2.out.cell 5 (by simp), HR2.out.cell 6 (by simp)⟩
      obtain ⟨b0, b1⟩ : _ ∧ _ := ⟨HR3.out.cell 0 (by simp), HR3.out.cell 1 (by simp)⟩
      obtain ⟨p0, p1, p2, p3, p4, p5, p6⟩ : _ ∧ _ ∧ _ ∧ _ ∧ _ ∧ _ ∧ _ := ⟨HR2.out.frozen 0, HR2.out.frozen 1, HR2.out.frozen 2, HR2.out.frozen 3, HR2.out.frozen 4, HR2.out.frozen 5, HR2.out.frozen 6⟩
      obtain ⟨q0, q1⟩ : _ ∧ _ := ⟨HR3.out.frozen 0, HR3.out.frozen 1⟩
      simp only [List.getD_cons_zero, List.getD_cons_succ] at a0 a1 a2 a3 a4 a5 a6 b0 b1
      have hn23 : w.heap.size ≠ b3 ∧ b3 ≠ w.heap.size ∧ bc ≠ w.heap.size ∧ bc ≠ b3 ∧ w.heap.size ≠ bc ∧ b3 ≠ bc := by have := HNum.out; omega
      obtain ⟨n1, n2, n3, n4, n5, n6⟩ := hn23
      rw [HNum.out.1] at a0 a1 a2 a3 a4 a5 a6 p0 p1 p2 p3 p4 p5 p6
      have hmx : Tryz.prog.follows .mixedOrders = true := by kernel_rfl
      gi_wp2_with fail
      refine ⟨trivial, ?_⟩
      gi_wp2
      gi_region_o
      all_goals gi_wp2
      all_goals
        have hbw := badW_own ((pre.length : Int) + 1) HR2.out HR3.out (by have := HNum.out; omega)
        rw [HNum.out.1] at hbw
        refine ⟨HK1.out.trans hbw.2.2.2, rfl, ⟨pre, x, rfl, ⟨_, HSt.out⟩, HNo.out⟩, by rw [HNum.out.1]; exact hbw.1, ?_, HB1.out.trans (hbw.2.2.1.below HB1.out.size (fun i _ hi => by have := HNum.out; rcases hi with hi | hi <;> omega))⟩
        rw [List.length_append]
        exact hbw.2.1
  case done =>
    rintro D xs W hD hxs hI hK
    have HI := Lib.hid hI
    obtain ⟨p, part, vP, vL, hst, hrd⟩ := hI.st
    rw [hxs] at hst
    have HSt := Lib.hid hst
    have HRd := Lib.hid hrd
    have HRf := Lib.hid (readF_all s.length s 0 emptyPn 0 p part (Nat.le_refl _) hst)
    have hxl : (linesL s.length s).length = xs.length := by rw [← hxs]; simp
    have HXl := Lib.hid hxl
    have HPart := Lib.hid (rdS_grow _ p part hst)
    have c7 := hrd.own.cell 7 (by simp [rdCells])
    simp only [rdCells, List.getD_cons_zero, List.getD_cons_succ] at c7
    have hkb : ∀ V, Exc (fun i => i = D ∨ i = w.heap.size ∨ i = b3) W V → True := fun _ _ => trivial
    clear hst hrd hI hxs hxl hkb
    by_cases h4 : part = 4
    · subst h4
      have H2 := HRd.out
      have hrng := rdS_rng _ p 4 HSt.out
      obtain ⟨aP, cP, rfl, hrP, hbP⟩ := prow_of_owns H2.ps rfl hrng.1
      obtain ⟨aL, cL, rfl, hrL, hbL⟩ := lrow_of_owns H2.ls rfl hrng.2.1
      have g0 := H2.own.cell 0 (by simp [rdCells])
      have g1 := H2.own.cell 1 (by simp [rdCells])
      have g2 := H2.own.cell 2 (by simp [rdCells])
      have g3 := H2.own.cell 3 (by simp [rdCells])
      have g4 := H2.own.cell 4 (by simp [rdCells])
      have g5 := H2.own.cell 5 (by simp [rdCells])
      have g6 := H2.own.cell 6 (by simp [rdCells])
      simp only [rdCells, List.getD_cons_zero, List.getD_cons_succ] at g0 g1 g2 g3 g4 g5 g6
      have HCk := Lib.hid (ccheck_any p aP p.P.length cP aL p.L.length cL W hrP hrL)
      have HKd := Lib.hid hK
      have HDs := Lib.hid hD
      have HPr := Lib.hid (And.intro hrP hbP)
      have HLr := Lib.hid (And.intro hrL hbL)
      clear H2 hK hD hrng hrP hbP hrL hbL
      gi_wp2_with fail
      refine ⟨trivial, (callsIn_wide.2 HCk.out).mono ?_⟩
      rintro e v1 ⟨rfl, hb⟩
      have HB1 := Lib.hid hb
      have HRd1 := Lib.hid (HRd.out.below hb)
      have HR2 := Lib.hid (HI.out.r2.below hb HI.out.r2.lt)
      have HR3 := Lib.hid (HI.out.r3.below hb HI.out.r3.lt)
      obtain ⟨E, hE⟩ : ∃ E, E = chkPl p := ⟨_, rfl⟩
      rw [← hE]
      have HE := Lib.hid hE
      clear g0 g1 g2 g3 g4 g5 g6 hb c7 hE
      obtain ⟨a0, a1, a2, a3, a4, a5, a6⟩ : _ ∧ _ ∧ _ ∧ _ ∧ _ ∧ _ ∧ _ := ⟨HR2.out.cell 0 (by simp), HR2.out.cell 1 (by simp), HR2.out.cell 2 (by simp), HR2.out.cell 3 (by simp), HR2.out.cell 4 (by simp), HR2.out.cell 5 (by simp), HR2.out.cell 6 (by simp)⟩
      obtain ⟨b0, b1⟩ : _ ∧ _ := ⟨HR3.out.cell 0 (by simp), HR3.out.cell 1 (by simp)⟩
      obtain ⟨p0, p1, p2, p3, p4, p5, p6⟩ : _ ∧ _ ∧ _ ∧ _ ∧ _ ∧ _ ∧ _ := ⟨HR2.out.frozen 0, HR2.out.frozen 1, HR2.out.frozen 2, HR2.out.frozen 3, HR2.out.frozen 4, HR2.out.frozen 5, HR2.out.frozen 6⟩
      obtain ⟨q0, q1⟩ : _ ∧ _ := ⟨HR3.out.frozen 0, HR3.out.frozen 1⟩
      simp only [List.getD_cons_zero, List.getD_cons_succ] at a0 a1 a2 a3 a4 a5 a6 b0 b1
      have hn23 : w.heap.size ≠ b3 ∧ b3 ≠ w.heap.size ∧ bc ≠ w.heap.size ∧ bc ≠ b3 ∧ w.heap.size ≠ bc ∧ b3 ≠ bc := by have := HNum.out; omega
      obtain ⟨n1, n2, n3, n4, n5, n6⟩ := hn23
      rw [HNum.out.1] at a0 a1 a2 a3 a4 a5 a6 p0 p1 p2 p3 p4 p5 p6
      have HBw := Lib.hid (HI.out.bel.trans (HB1.out.mono HI.out.bel.size))
      have HKd1 : Hid (v1.heap[D]? = some (.deferred (some []))) := Lib.hid ((HB1.out.block D (Array.getElem?_eq_some_iff.1 HKd.out).1).trans HKd.out)
      by_cases hE0 : E = 0
      · have HE0 := Lib.hid hE0
        have hE1 : (E != 0) = false := by simpa using hE0
        have e0 := HRd1.out.own.cell 0 (by simp [rdCells])
        have e1 := HRd1.out.own.cell 1 (by simp [rdCells])
        have e2 := HRd1.out.own.cell 2 (by simp [rdCells])
        have e3 := HRd1.out.own.cell 3 (by simp [rdCells])
        have e4 := HRd1.out.own.cell 4 (by simp [rdCells])
        have e5 := HRd1.out.own.cell 5 (by simp [rdCells])
        have e6 := HRd1.out.own.cell 6 (by simp [rdCells])
        simp only [rdCells, List.getD_cons_zero, List.getD_cons_succ] at e0 e1 e2 e3 e4 e5 e6
        have r0 := HRd1.out.own.frozen 0
        have r1 := HRd1.out.own.frozen 1
        have hrbn : rb ≠ w.heap.size ∧ w.heap.size ≠ rb ∧ rb ≠ b3 ∧ b3 ≠ rb := by have := HNum.out; omega
        obtain ⟨m1, m2, m3, m4⟩ := hrbn
        clear hE0
        gi_wp2_with fail
        refine ⟨trivial, (callsIn_wide.2 (clipPl_any aP p.P.length cP v1 HPr.out.1.le HPr.out.1.max)).mono ?_⟩
        rintro e v2 ⟨rfl, rfl⟩
        gi_wp2_with fail
        have HC2 := Lib.hid (clipLn_any aL p.L.length cL (v1.setCell ⟨rb, 0, none⟩ (.slice aP p.P.length p.P.length)) HLr.out.1.le HLr.out.1.max)
        refine ⟨trivial, (callsIn_wide.2 HC2.out).mono ?_⟩
        rintro e v2 ⟨rfl, hv2⟩
        subst hv2
        have hrA := HRd1.out.own.set 0 (.slice aP p.P.length p.P.length)
        have hrB := hrA.set 1 (.slice aL p.L.length p.L.length)
        simp only [rdCells, List.set_cons_zero, List.set_cons_succ] at hrA hrB
        have hxr : Exc (fun i => i = rb) v1 ((v1.setCell ⟨rb, 0, none⟩ (.slice aP p.P.length p.P.length)).setCell ⟨rb, 1, none⟩ (.slice aL p.L.length p.L.length)) := ((Exc.refl (fun i => i = rb) v1).setCell ⟨rb, 0, none⟩ (.inl rfl) _).setCell ⟨rb, 1, none⟩ (.inl rfl) _
        have HXr := Lib.hid hxr
        have hkr : KeepsOthers v1 ((v1.setCell ⟨rb, 0, none⟩ (.slice aP p.P.length p.P.length)).setCell ⟨rb, 1, none⟩ (.slice aL p.L.length p.L.length)) := (KeepsOthers.setCell _ _ _).trans (KeepsOthers.setCell _ _ _)
        have HKr := Lib.hid hkr
        have HR2b := Lib.hid (HR2.out.exc' hxr (by have := HNum.out; omega))
        have HR3b := Lib.hid (HR3.out.exc' hxr (by have := HNum.out; omega))
        have HRB := Lib.hid hrB
        have e0' := hrA.cell 1 (by simp)
        have r1' := hrA.frozen 1
        simp only [List.getD_cons_zero, List.getD_cons_succ] at e0'
        obtain ⟨w0, w1, w2, w3, w4, w5', w6⟩ : _ ∧ _ ∧ _ ∧ _ ∧ _ ∧ _ ∧ _ := ⟨hrB.cell 0 (by simp), hrB.cell 1 (by simp), hrB.cell 2 (by simp), hrB.cell 3 (by simp), hrB.cell 4 (by simp), hrB.cell 5 (by simp), hrB.cell 6 (by simp)⟩
        simp only [List.getD_cons_zero, List.getD_cons_succ] at w0 w1 w2 w3 w4 w5' w6
        clear hrA hrB hxr hkr
        gi_wp2
        have hbw := resW_own (.slice aP p.P.length p.P.length) (.slice aL p.L.length p.L.length) (.int .i64 p.rate) (.int .i64 p.room) (.int .i64 p.m0) (.int .i64 p.m1) (.int .i64 p.m2) (.int .i64 0) (.int .i64 0) HR2b.out HR3b.out (by have := HNum.out; omega)
        rw [HNum.out.1] at hbw
        have hDn : w.heap.size ≠ D ∧ b3 ≠ D ∧ rb ≠ D := by have := HNum.out; have := HDs.out; omega
        refine ⟨by simp, .inl ⟨_, _, rfl, run_takeDeferred (hbw.2.2.2.same D _ (HKr.out.same D _ HKd1.out rfl) rfl), ?_⟩⟩
        have hgr : ∀ V : World, Exc (fun i => i = D) V (V.putObj D (.deferred none)) := fun V => Exc.of_grown (grownBy_putObj' V D _) |>.weak (fun i _ hi => (Option.some.inj hi).symm)
        have r2 := hbw.1.exc' (hgr _) hDn.1
        have r3 := hbw.2.1.exc' (hgr _) hDn.2.1
        have hxf := ((HXr.out.weak (S' := fun i => i = w.heap.size ∨ i = b3 ∨ i = D ∨ i = rb) (fun i _ h => .inr (.inr (.inr h)))).trans (hbw.2.2.1.weak (S' := fun i => i = w.heap.size ∨ i = b3 ∨ i = D ∨ i = rb) (fun i _ h => by rcases h with h | h; exact .inl h; exact .inr (.inl h))) (fun _ _ h => h)).trans (S' := fun i => i = w.heap.size ∨ i = b3 ∨ i = D ∨ i = rb) ((hgr _).weak (fun _ _ h => .inr (.inr (.inl h)))) (fun _ _ h => h)
        have hbl := HBw.out.trans (hxf.below HBw.out.size (fun i _ hi => by have := HNum.out; have := HDs.out; rcases hi with hi | hi | hi | hi <;> omega))
        have hkeep : ∀ z : Addr, w5.heap.size ≤ z.block → ∀ i v, W.cell? ⟨z.block, i, none⟩ = some v → (resW ((v1.setCell ⟨rb, 0, none⟩ (.slice aP p.P.length p.P.length)).setCell ⟨rb, 1, none⟩ (.slice aL p.L.length p.L.length)) w.heap.size b3 (.slice aP p.P.length p.P.length) (.slice aL p.L.length p.L.length) (.int .i64 p.rate) (.int .i64 p.room) (.int .i64 p.m0) (.int .i64 p.m1) (.int .i64 p.m2) (.int .i64 0) (.int .i64 0) |>.putObj D (.deferred none)).cell? ⟨z.block, i, none⟩ = some v := fun z hz i v hc => by
          have h1 : v1.cell? ⟨z.block, i, none⟩ = some v := by rw [HB1.out.cell (p := ⟨z.block, i, none⟩) (World.block_lt_of_cell? W _ hc)]; exact hc
          refine hxf.cell h1 ?_
          rintro (h | h | h | h)
          · have h2 : z.block = w.heap.size := h; have := HNum.out; omega
          · have h2 : z.block = b3 := h; have := HNum.out; omega
          · have h2 : z.block = D := h
            rw [h2] at h1
            unfold World.cell? at h1
            rw [HKd1.out] at h1
            cases h1
          · have h2 : z.block = rb := h; have := HNum.out; omega
        have hPf := prow_keep HPr.out.1 (fun z hz => hkeep z (HPr.out.2 z hz))
        have hLf := lrow_keep HLr.out.1 (fun z hz => hkeep z (HLr.out.2 z hz))
        clear a0 a1 a2 a3 a4 a5 a6 b0 b1 p0 p1 p2 p3 p4 p5 p6 q0 q1 hkeep hxf
        obtain ⟨a0, a1, a2, a3, a4, a5, a6⟩ : _ ∧ _ ∧ _ ∧ _ ∧ _ ∧ _ ∧ _ := ⟨r2.cell 0 (by simp), r2.cell 1 (by simp), r2.cell 2 (by simp), r2.cell 3 (by simp), r2.cell 4 (by simp), r2.cell 5 (by simp), r2.cell 6 (by simp)⟩
        obtain ⟨c0, c1⟩ : _ ∧ _ := ⟨r3.cell 0 (by simp), r3.cell 1 (by simp)⟩
        simp only [List.getD_cons_zero, List.getD_cons_succ] at a0 a1 a2 a3 a4 a5 a6 c0 c1
        unfold resW at a0 a1 a2 a3 a4 a5 a6 c0 c1 hbl hPf hLf
        refine ⟨.tuple #[.agg #[.slice aP p.P.length p.P.length, .slice aL p.L.length p.L.length, .int .i64 p.rate, .int .i64 p.room, .int .i64 p.m0, .int .i64 p.m1, .int .i64 p.m2], .agg #[.int .i64 0, .int .i64 0]], ?_, hbl, .inr (.inr ⟨p, aP, aL, ?_, ?_, rfl, hPf, hLf⟩)⟩
        · simp [results, Tryz.f8, go_sem, a0, a1, a2, a3, a4, a5, a6, c0, c1]
        · rw [HRf.out]; exact if_pos trivial
        · rw [← HE.out]; exact HE0.out
      · have hE1 : (E != 0) = true := by simpa using hE0
        have HE0 := Lib.hid hE0
        clear hE0
        gi_wp2
        have hbw := resW_own (.slice none 0 0) (.slice none 0 0) (.int .i64 0) (.int .i64 0) (.int .i64 0) (.int .i64 0) (.int .i64 0) (.int .i64 E) (.int .i64 0) HR2.out HR3.out (by have := HNum.out; omega)
        rw [HNum.out.1] at hbw
        have hDn : w.heap.size ≠ D ∧ b3 ≠ D := by have := HNum.out; have := HDs.out; omega
        refine ⟨by simp, .inl ⟨_, _, rfl, run_takeDeferred (hbw.2.2.2.same D _ HKd1.out rfl), ?_⟩⟩
        have hgr : ∀ V : World, Exc (fun i => i = D) V (V.putObj D (.deferred none)) := fun V => Exc.of_grown (grownBy_putObj' V D _) |>.weak (fun i _ hi => (Option.some.inj hi).symm)
        have r2 := hbw.1.exc' (hgr _) hDn.1
        have r3 := hbw.2.1.exc' (hgr _) hDn.2
        have hbl := HBw.out.trans (((hbw.2.2.1.weak (S' := fun i => i = w.heap.size ∨ i = b3 ∨ i = D) (fun i _ h => by rcases h with h | h; exact .inl h; exact .inr (.inl h))).trans (S' := fun i => i = w.heap.size ∨ i = b3 ∨ i = D) ((hgr _).weak (fun _ _ h => .inr (.inr h))) (fun _ _ h => h)).below HBw.out.size (fun i _ hi => by have := HNum.out; have := HDs.out; rcases hi with hi | hi | hi <;> omega))
        clear a0 a1 a2 a3 a4 a5 a6 b0 b1 p0 p1 p2 p3 p4 p5 p6 q0 q1
        obtain ⟨a0, a1, a2, a3, a4, a5, a6⟩ : _ ∧ _ ∧ _ ∧ _ ∧ _ ∧ _ ∧ _ := ⟨r2.cell 0 (by simp), r2.cell 1 (by simp), r2.cell 2 (by simp), r2.cell 3 (by simp), r2.cell 4 (by simp), r2.cell 5 (by simp), r2.cell 6 (by simp)⟩
        obtain ⟨c0, c1⟩ : _ ∧ _ := ⟨r3.cell 0 (by simp), r3.cell 1 (by simp)⟩
        simp only [List.getD_cons_zero, List.getD_cons_succ] at a0 a1 a2 a3 a4 a5 a6 c0 c1
        unfold resW at a0 a1 a2 a3 a4 a5 a6 c0 c1 hbl
        refine ⟨.tuple #[zeroPl, .agg #[.int .i64 E, .int .i64 0]], ?_, hbl, .inr (.inl ⟨p, ?_, ?_, by rw [HE.out]⟩)⟩
        · unfold zeroPl
          simp [results, Tryz.f8, go_sem, a0, a1, a2, a3, a4, a5, a6, c0, c1]
        · rw [HRf.out]; exact if_pos trivial
        · rw [← HE.out]; exact HE0.out
    · have h4i : ((part : Int) != 4) = true := by simp; omega
      have d0 := HI.out.cnt.cell 0 (by simp)
      simp only [List.getD_cons_zero] at d0
      have kw : IntKind.i64.wrap ((xs.length : Int) + 1) = (xs.length : Int) + 1 := IntWalk.i64_in _ (by have h1 := linesL_length s.length s; have h2 := HXl.out; have h3 := Hs.out; omega)
      obtain ⟨a0, a1, a2, a3, a4, a5, a6⟩ : _ ∧ _ ∧ _ ∧ _ ∧ _ ∧ _ ∧ _ := ⟨HI.out.r2.cell 0 (by simp), HI.out.r2.cell 1 (by simp), HI.out.r2.cell 2 (by simp), HI.out.r2.cell 3 (by simp), HI.out.r2.cell 4 (by simp), HI.out.r2.cell 5 (by simp), HI.out.r2.cell 6 (by simp)⟩
      obtain ⟨b0, b1⟩ : _ ∧ _ := ⟨HI.out.r3.cell 0 (by simp), HI.out.r3.cell 1 (by simp)⟩
      obtain ⟨p0, p1, p2, p3, p4, p5, p6⟩ : _ ∧ _ ∧ _ ∧ _ ∧ _ ∧ _ ∧ _ := ⟨HI.out.r2.frozen 0, HI.out.r2.frozen 1, HI.out.r2.frozen 2, HI.out.r2.frozen 3, HI.out.r2.frozen 4, HI.out.r2.frozen 5, HI.out.r2.frozen 6⟩
      obtain ⟨q0, q1⟩ : _ ∧ _ := ⟨HI.out.r3.frozen 0, HI.out.r3.frozen 1⟩
      simp only [List.getD_cons_zero, List.getD_cons_succ] at a0 a1 a2 a3 a4 a5 a6 b0 b1
      have hn23 : w.heap.size ≠ b3 ∧ b3 ≠ w.heap.size ∧ bc ≠ w.heap.size ∧ bc ≠ b3 ∧ w.heap.size ≠ bc ∧ b3 ≠ bc := by have := HNum.out; omega
      obtain ⟨n1, n2, n3, n4, n5, n6⟩ := hn23
      rw [HNum.out.1] at a0 a1 a2 a3 a4 a5 a6 p0 p1 p2 p3 p4 p5 p6
      have hmx : Tryz.prog.follows .mixedOrders = true := by kernel_rfl
      have HKd := Lib.hid hK
      have H4 := Lib.hid h4
      have HDs := Lib.hid hD
      clear hK h4 hD
      gi_wp2
      gi_region_o
      all_goals gi_wp2
      all_goals
        have hbw := badW_own ((xs.length : Int) + 1) HI.out.r2 HI.out.r3 (by have := HNum.out; omega)
        rw [HNum.out.1] at hbw
        refine ⟨by simp, .inl ⟨_, _, rfl, run_takeDeferred (hbw.2.2.2.same D _ HKd.out rfl), ?_⟩⟩
        have hgr : Exc (fun i => i = D) (badW W w.heap.size b3 ((xs.length : Int) + 1)) ((badW W w.heap.size b3 ((xs.length : Int) + 1)).putObj D (.deferred none)) := Exc.of_grown (grownBy_putObj' _ D _) |>.weak (fun i _ hi => (Option.some.inj hi).symm)
        have hDn : w.heap.size ≠ D ∧ b3 ≠ D := by have := HNum.out; have := HDs.out; omega
        have r2 := hbw.1.exc' hgr hDn.1
        have r3 := hbw.2.1.exc' hgr hDn.2
        have hbl : Below w.heap.size w ((badW W w.heap.size b3 ((xs.length : Int) + 1)).putObj D (.deferred none)) := HI.out.bel.trans (((hbw.2.2.1.weak (S' := fun i => i = w.heap.size ∨ i = b3 ∨ i = D) (fun i _ h => by rcases h with h | h; exact .inl h; exact .inr (.inl h))).trans (S' := fun i => i = w.heap.size ∨ i = b3 ∨ i = D) (hgr.weak (fun _ _ h => .inr (.inr h))) (fun _ _ h => h)).below HI.out.bel.size (fun i _ hi => by have := HNum.out; have := HDs.out; rcases hi with hi | hi | hi <;> omega))
        clear a0 a1 a2 a3 a4 a5 a6 b0 b1 p0 p1 p2 p3 p4 p5 p6 q0 q1
        obtain ⟨a0, a1, a2, a3, a4, a5, a6⟩ : _ ∧ _ ∧ _ ∧ _ ∧ _ ∧ _ ∧ _ := ⟨r2.cell 0 (by simp), r2.cell 1 (by simp), r2.cell 2 (by simp), r2.cell 3 (by simp), r2.cell 4 (by simp), r2.cell 5 (by simp), r2.cell 6 (by simp)⟩
        obtain ⟨c0, c1⟩ : _ ∧ _ := ⟨r3.cell 0 (by simp), r3.cell 1 (by simp)⟩
        simp only [List.getD_cons_zero, List.getD_cons_succ] at a0 a1 a2 a3 a4 a5 a6 c0 c1
        unfold badW at a0 a1 a2 a3 a4 a5 a6 c0 c1 hbl
        refine ⟨.tuple #[zeroPl, .agg #[.int .i64 4, .int .i64 ((xs.length : Int) + 1)]], ?_, hbl, .inl ⟨xs.length + 1, ?_, rfl⟩⟩
        · unfold zeroPl
          simp [results, Tryz.f8, go_sem, a0, a1, a2, a3, a4, a5, a6, c0, c1]
        · rw [HRf.out, if_neg H4.out, HXl.out]
          simp
  case stop =>
    rintro D c pre W hD hpre hX hK
    obtain ⟨rfl, ⟨q, x, hq, ⟨st, hst⟩, hno⟩, hr2, hr3, hbel⟩ := hX
    gi_wp2
    refine ⟨by simp, .inl ⟨_, _, rfl, run_takeDeferred hK, ?_⟩⟩
    have hgr : Exc (fun i => i = D) W (W.putObj D (.deferred none)) := Exc.of_grown (grownBy_putObj' W D _) |>.weak (fun i _ hi => (Option.some.inj hi).symm)
    have hDn : b2 ≠ D ∧ b3 ≠ D := by have := HNum.out; omega
    have r2 := hr2.exc' hgr hDn.1
    have r3 := hr3.exc' hgr hDn.2
    rw [HNum.out.1] at r2
    obtain ⟨a0, a1, a2, a3, a4, a5, a6⟩ : _ ∧ _ ∧ _ ∧ _ ∧ _ ∧ _ ∧ _ := ⟨r2.cell 0 (by simp), r2.cell 1 (by simp), r2.cell 2 (by simp), r2.cell 3 (by simp), r2.cell 4 (by simp), r2.cell 5 (by simp), r2.cell 6 (by simp)⟩
    obtain ⟨c0, c1⟩ : _ ∧ _ := ⟨r3.cell 0 (by simp), r3.cell 1 (by simp)⟩
    simp only [List.getD_cons_zero, List.getD_cons_succ] at a0 a1 a2 a3 a4 a5 a6 c0 c1
    refine ⟨.tuple #[zeroPl, .agg #[.int .i64 4, .int .i64 (pre.length : Int)]], ?_, ?_⟩
    · unfold zeroPl
      simp [results, Tryz.f8, go_sem, a0, a1, a2, a3, a4, a5, a6, c0, c1]
    · refine ⟨hbel.trans (hgr.below hbel.size (fun i _ hi => by have := HNum.out; omega)), .inl ⟨pre.length, ?_, rfl⟩⟩
      have hp2 : ((q.map fun y : LnT => y.1) ++ [x.1]) <+: linesL s.length s := by rw [hq, List.map_append, List.map_cons, List.map_nil] at hpre; exact hpre
      have h9 := readF_line_bad s.length s 0 emptyPn 0 (q.map fun y : LnT => y.1) x.1 st (Nat.le_refl _) hp2 hst (by rw [hq, List.map_append, List.map_cons, List.map_nil, rdS_snoc, hst] at hno; exact hno)
      rw [h9, hq]
      simp
end Go.Proofs.YthlckipcgogogaaGreatDoor
