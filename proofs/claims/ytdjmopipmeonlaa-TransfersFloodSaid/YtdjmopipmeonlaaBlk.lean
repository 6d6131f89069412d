/- Joined: TfAsk UnBase Blk. -/
import Derived.Test.YtdjmopipmeonlaaTfHear
import Derived.Test.YtdjmopipmeonlaaTfMap
import Derived.OwnWalk
import Derived.Deep.MidRow
import Derived.Deep.CutBlock
import Derived.WalkSpells
import Derived.Deep.LoopGhost
import Derived.Deep.Draws
/- A table's Ask. -/
namespace Go.Proofs.Ytdjmopipmeonlaa
set_option linter.unusedVariables false
open Go.RowKit Go.Maps

/-- Notes in memory of the call's own; the table is as it was. -/
def AskOut (X : List (Int × Int × Int)) (w : World) (e : Ending) (w' : World) : Prop :=
  ∃ a, e = .returned (.slice a X.length X.length) ∧ NRow w' a X.length X.length X ∧ Below w.heap.size w w' ∧ ∀ z, a = some z → w.heap.size ≤ z.block
set_option maxRecDepth 100000 in
set_option maxHeartbeats 4000000 in
theorem ask_any {y : Tl} {T : Tb} (w : World) (h : TbAt w y T) : Calls Try.prog 28 #[.pointer (some ⟨y.tb, 0, none⟩)] w (AskOut (T.askL T.N) w) := by
  have HE := Lib.hid (isEmpty_any w h)
  obtain ⟨g0, g1, g2, g3, g4, g5, g6, g7⟩ := h.cells
  have H := Lib.hid (fun (W : World) (hb : Below w.heap.size w W) => h.below hb)
  have HWN := Lib.hid h.fix.nrow.wf
  have HWD := Lib.hid h.fix.drow.wf
  obtain ⟨m, hm⟩ : ∃ m, m = T.N.length := ⟨_, rfl⟩
  have hmb : m ≤ 1024 := by rw [hm]; exact h.wf.lenN
  obtain ⟨q, hq⟩ : ∃ q, q = T.D.length := ⟨_, rfl⟩
  have hqb : q ≤ 64 := by rw [hq]; exact h.wf.lenD
  have HM := Lib.hid hm
  have HQ := Lib.hid hq
  rw [← hm] at g2
  clear h hm hq
  go_enter Try.func28, Try.ntmps28
  go_wp2_with fail
  with_reducible refine HE.out.mono ?_
  rintro e w' ⟨rfl, rfl⟩
  go_wp2_with fail
  clear g0 g1 g2 g3 g4 g5 g6 g7
  go_loopw [3, 16] (fun v kv wr => ∃ k : Nat, k ≤ m ∧ kv = .int .i64 k ∧ Below w.heap.size w wr ∧ wr.ownsRow w.heap.size 54 3 v (T.askL (T.N.take k)).length (cellsN (T.askL (T.N.take k)))) (fun _ kv _ => m - (intOf kv).toNat)
  case atStart => exact ⟨0, Nat.zero_le _, rfl, Below.refl _ _, by simpa [Tb.askL, cellsN] using World.ownsRow_nil w w.heap.size 54 3⟩
  case round =>
    obtain ⟨k, hk, rfl, hb, hown⟩ := hrel
    obtain ⟨w5, hw5⟩ : ∃ x, x = wr := ⟨_, rfl⟩
    subst hw5
    have HB := Lib.hid hb
    have HW := Lib.hid hown
    have hA := H.out w5 hb
    clear hb hown
    by_cases hkm : k < m
    · have hkl : k < T.N.length := by rw [← HM.out]; exact hkm
      obtain ⟨b, off, had, hc⟩ := hA.fix.nrow.cells.resolve_left (by omega)
      have c0 : w5.cell? ⟨b, off + k, none⟩ = some (.int .u16 (T.N.getD k 0)) := hc k hkl
      have hmem := mem_getD (d := 0) hkl
      have hwn := HWN.out _ hmem
      have HT := Lib.hid (take_one hkl)
      have HLe := Lib.hid (T.askL_le (T.N.take k))
      obtain ⟨n, hn⟩ : ∃ n, n = T.N.getD k 0 := ⟨_, rfl⟩
      rw [← hn] at c0 hwn HT hmem
      have HWn := Lib.hid hwn
      have HMem := Lib.hid hmem
      obtain ⟨g0, g1, g2, g3, g4, g5, g6, g7⟩ := hA.cells
      have k1 : (k : Int) < (m : Int) := by omega
      have k2 : (0 : Int) ≤ (k : Int) := by omega
      rw [had]
      have HAd := Lib.hid had
      rw [← HQ.out] at g3
      clear hn hc hwn hA had hmem
      go_wp2_with fail
      clear g0 g1 g2 g3 g4 g5 g6 g7 c0
      go_loopw [3, 25] (fun v jv wr => ∃ j : Nat, j ≤ q ∧ jv = .int .i64 j ∧ Below w.heap.size w wr ∧ wr.ownsRow w.heap.size 54 3 v (T.askL (T.N.take k) ++ T.askD n (T.D.take j)).length (cellsN (T.askL (T.N.take k) ++ T.askD n (T.D.take j)))) (fun _ jv _ => q - (intOf jv).toNat)
      case atStart => exact ⟨0, Nat.zero_le _, rfl, HB.out, by simpa [Tb.askD] using HW.out⟩
      case round =>
        obtain ⟨j, hj, rfl, hb, hown⟩ := hrel
        have HB2 := Lib.hid hb
        have hA := H.out wr hb
        obtain ⟨N, hN⟩ : ∃ N, N = (T.askL (T.N.take k) ++ T.askD n (T.D.take j)).length := ⟨_, rfl⟩
        have hN2 : N ≤ 1024 * 64 + 64 := by
          rw [hN, List.length_append]
          have h1 := HLe.out
          have h2 := T.askD_le n (T.D.take j)
          rw [List.length_take] at h1 h2
          have h3 : min k T.N.length * T.D.length ≤ 1024 * 64 := Nat.mul_le_mul (by omega) (by rw [← HQ.out]; exact hqb)
          omega
        rw [← hN] at hown
        have HN := Lib.hid hN
        have HW2 := Lib.hid hown
        have hsz : w.heap.size ≤ wr.heap.size := hb.size
        clear hb hown hN
        by_cases hjq : j < q
        · have hjl : j < T.D.length := by rw [← HQ.out]; exact hjq
          obtain ⟨b7, off7, had7, hc⟩ := hA.fix.drow.cells.resolve_left (by omega)
          have c0 : wr.cell? ⟨b7, off7 + j, none⟩ = some (.int .u16 (T.D.getD j 0)) := hc j hjl
          have hmem := mem_getD (d := 0) hjl
          have hwd := HWD.out _ hmem
          have HT2 := Lib.hid (take_one hjl)
          obtain ⟨d, hd⟩ : ∃ d, d = T.D.getD j 0 := ⟨_, rfl⟩
          rw [← hd] at c0 hwd HT2 hmem
          have hru := hA.ups.run HWn.out
          rw [decide_eq_true HMem.out, Bool.true_and] at hru
          have hrt := hA.tol.run HWn.out hwd
          obtain ⟨g0, g1, g2, g3, g4, g5, g6, g7⟩ := hA.cells
          have j1 : (j : Int) < (q : Int) := by omega
          have j2 : (0 : Int) ≤ (j : Int) := by omega
          have HIf := Lib.hid (T.askD_snoc n (T.D.take j) d)
          have hup : T.isUp n = T.up n := by unfold Tb.isUp; rw [decide_eq_true HMem.out, Bool.true_and]
          rw [hup] at HIf
          obtain ⟨u, hu⟩ : ∃ u, u = T.up n := ⟨_, rfl⟩
          obtain ⟨s, hs⟩ : ∃ s, s = T.told n d := ⟨_, rfl⟩
          rw [← hu] at hru
          rw [← hs] at hrt
          rw [← hu, ← hs] at HIf
          rw [had7]
          have HAd7 := Lib.hid had7
          clear hd hc hwd hA had7 hmem hup hu hs
          cases u
          · have HNo : Hid (T.askD n (T.D.take j ++ [d]) = T.askD n (T.D.take j)) := Lib.hid (by rw [HIf.out, if_neg (fun h => by cases h.1), List.append_nil])
            go_wp2
            refine ⟨⟨j + 1, by omega, by go_num, HB2.out, ?_⟩, by simp [intOf]; omega⟩
            rw [HT2.out, HNo.out, ← HN.out]; exact HW2.out
          · by_cases hs0 : s = 0
            · have e0 : (s != 0) = false := by simpa using hs0
              have HNo : Hid (T.askD n (T.D.take j ++ [d]) = T.askD n (T.D.take j)) := Lib.hid (by rw [HIf.out, if_neg (fun h => h.2 hs0), List.append_nil])
              clear hs0
              go_wp2
              refine ⟨⟨j + 1, by omega, by go_num, HB2.out, ?_⟩, by simp [intOf]; omega⟩
              rw [HT2.out, HNo.out, ← HN.out]; exact HW2.out
            · have e0 : (s != 0) = true := by simpa using hs0
              have HYes : Hid (T.askD n (T.D.take j ++ [d]) = T.askD n (T.D.take j) ++ [(n, d, s)]) := Lib.hid (by rw [HIf.out, if_pos ⟨rfl, hs0⟩])
              clear hs0
              go_wp2_with (at_builtin; refine wpList_append_agg Try.underlying45 infoN rfl (by decide) (by decide) rfl _ _ rfl w.heap.size _ _ _ [.int .u16 n, .int .u16 d, .int .u8 s] rfl (fun u hu => by simp at hu; rcases hu with rfl | rfl | rfl <;> rfl) rfl (by exact HW2.out) rfl (by omega) hsz ?_; intro v1 w6 h1 h2 h3; have HW6 := Lib.hid h1; have HG6 := Lib.hid h2; clear h1 h2 h3)
              go_wp2
              refine ⟨⟨j + 1, by omega, by go_num, HB2.out.trans (HG6.out.below hsz (fun i hi => (ownsK_lt HW2.out hi).1)), ?_⟩, by simp [intOf]; omega⟩
              rw [HT2.out, HYes.out, ← List.append_assoc, cellsN_append, List.length_append, ← HN.out]
              exact HW6.out
        · obtain rfl : j = q := by omega
          have htk : T.D.take j = T.D := List.take_of_length_le (by rw [HQ.out]; exact Nat.le_refl _)
          have HEnd : Hid (T.askL (T.N.take k) ++ T.askD n (T.D.take j) = T.askL (T.N.take (k + 1))) := Lib.hid (by rw [HT.out, T.askL_snoc, htk])
          clear htk hA
          go_wp2
          refine ⟨⟨k + 1, by omega, by go_num, HB2.out, ?_⟩, by simp [intOf]; omega⟩
          rw [← HEnd.out, ← HN.out]; exact HW2.out
    · obtain rfl : k = m := by omega
      have htk : T.N.take k = T.N := List.take_of_length_le (by rw [HM.out]; exact Nat.le_refl _)
      have hown := HW.out
      rw [htk] at hown
      obtain ⟨N, hN⟩ : ∃ N, N = (T.askL T.N).length := ⟨_, rfl⟩
      rw [← hN] at hown
      obtain ⟨a2, c2, rfl, hr2, hfr⟩ := nrow_of hown hN.symm
      have HR := Lib.hid hr2
      have HFr := Lib.hid hfr
      have HNe := Lib.hid hN
      have HCl := Lib.hid (clipN_any a2 N c2 w5 hr2.le hr2.max)
      clear hown hr2 hfr htk hN hA
      go_wp2_with fail
      with_reducible refine HCl.out.mono ?_
      rintro e w' ⟨rfl, rfl⟩
      go_wp2
      go_ret
      exact ⟨a2, by rw [← HNe.out]; rfl, by rw [← HNe.out]; exact HR.out.clip, HB.out, HFr.out⟩
end Go.Proofs.Ytdjmopipmeonlaa
/- What the walks of units share: single octets, blocks laid by a literal, loads of a call's own. -/
namespace Go.Proofs.Ytdjmopipmeonlaa
set_option linter.unusedVariables false
open Go.RowKit

theorem Own.exc {S : Nat → Prop} {w w' : World} {b t : Nat} {cs : List Value} (h : Own w b t cs) (hx : Exc S w w') (hn : ¬ S b) : Own w' b t cs := by
  unfold Own
  rw [hx.block b h.lt hn]
  exact h
theorem or_mark {x : Int} (h0 : 0 ≤ x) (h1 : x ≤ 127) : bits BinOp.or IntKind.u8 x 128 = x + 128 := by
  have : ∀ i : Fin 128, bits BinOp.or IntKind.u8 (i.val : Int) 128 = (i.val : Int) + 128 := by decide +kernel
  have h := this ⟨x.toNat, by omega⟩
  have e : ((x.toNat : Nat) : Int) = x := by omega
  simp only [e] at h
  exact h
theorem andNot_mark {x : Int} (h0 : 0 ≤ x) (h1 : x ≤ 255) : bits BinOp.andNot IntKind.u8 x 128 = x % 128 := by
  have : ∀ i : Fin 256, bits BinOp.andNot IntKind.u8 (i.val : Int) 128 = (i.val : Int) % 128 := by decide +kernel
  have h := this ⟨x.toNat, by omega⟩
  have e : ((x.toNat : Nat) : Int) = x := by omega
  simp only [e] at h
  exact h
theorem and_mark {x : Int} (h0 : 0 ≤ x) (h1 : x ≤ 255) : bits BinOp.and IntKind.u8 x 128 = if 128 ≤ x then 128 else 0 := by
  have : ∀ i : Fin 256, bits BinOp.and IntKind.u8 (i.val : Int) 128 = if 128 ≤ (i.val : Int) then 128 else 0 := by decide +kernel
  have h := this ⟨x.toNat, by omega⟩
  have e : ((x.toNat : Nat) : Int) = x := by omega
  simp only [e] at h
  exact h
theorem and_last {x : Int} (h0 : 0 ≤ x) (h1 : x ≤ 255) : bits BinOp.and IntKind.u8 x 127 = x % 128 := by
  have : ∀ i : Fin 256, bits BinOp.and IntKind.u8 (i.val : Int) 127 = (i.val : Int) % 128 := by decide +kernel
  have h := this ⟨x.toNat, by omega⟩
  have e : ((x.toNat : Nat) : Int) = x := by omega
  simp only [e] at h
  exact h
theorem and_nib {x : Int} (h0 : 0 ≤ x) (h1 : x ≤ 255) : bits BinOp.and IntKind.u8 x 15 = x % 16 := by
  have : ∀ i : Fin 256, bits BinOp.and IntKind.u8 (i.val : Int) 15 = (i.val : Int) % 16 := by decide +kernel
  have h := this ⟨x.toNat, by omega⟩
  have e : ((x.toNat : Nat) : Int) = x := by omega
  simp only [e] at h
  exact h
theorem own_lit (w : World) (t : Nat) (cs : Array Value) (l : List Value) (h : cs = l.toArray) : Own (w.alloc (.cells cs t)) w.heap.size t l := by subst h; exact heap_alloc_new w _
/-- A load of the call's own, or none. -/
def LoadAt (w : World) (B : Nat) (s : Option Addr) (l : List Int) : Prop := (s = none ∧ l = []) ∨ ∃ g, s = some ⟨g, 0, none⟩ ∧ B ≤ g ∧ Own w g 5 (nums .u8 l)
theorem LoadAt.later {w w' : World} {B : Nat} {s : Option Addr} {l : List Int} (h : LoadAt w B s l) (hb : Below w.heap.size w w') : LoadAt w' B s l := by
  rcases h with h | ⟨g, h1, h2, h3⟩
  · exact .inl h
  · exact .inr ⟨g, h1, h2, h3.below hb h3.lt⟩
theorem LoadAt.row {w : World} {B : Nat} {s : Option Addr} {l : List Int} (h : LoadAt w B s l) (hl : l.length ≤ 1000) (ho : ∀ x ∈ l, 0 ≤ x ∧ x ≤ 255) : Row .u8 w s l.length l.length l := by
  rcases h with ⟨rfl, rfl⟩ | ⟨g, rfl, _, h3⟩
  · exact Row.of_nil _ _
  · exact h3.row0 _ _ rfl (Nat.le_refl _) (by unfold maxLen; omega) (fun x hx => wf_u8.2 (ho x hx))
/-- A string of the bytes l. -/
def bs (l : List UInt8) : ByteArray := ⟨l.toArray⟩
theorem unit_cells {w : World} {b t : Nat} {v0 v1 v2 v3 v4 v5 v6 : Value} (h : Own w b t [v0, v1, v2, v3, v4, v5, v6]) :
    w.cell? ⟨b, 0, none⟩ = some v0 ∧ w.cell? ⟨b, 1, none⟩ = some v1 ∧ w.cell? ⟨b, 2, none⟩ = some v2 ∧ w.cell? ⟨b, 3, none⟩ = some v3 ∧ w.cell? ⟨b, 4, none⟩ = some v4 ∧ w.cell? ⟨b, 5, none⟩ = some v5 ∧ w.cell? ⟨b, 6, none⟩ = some v6 :=
  ⟨h.cell 0 (by simp), h.cell 1 (by simp), h.cell 2 (by simp), h.cell 3 (by simp), h.cell 4 (by simp), h.cell 5 (by simp), h.cell 6 (by simp)⟩
theorem unit_frozen {w : World} {b t : Nat} {cs : List Value} (h : Own w b t cs) :
    w.frozen? ⟨b, 0, none⟩ = false ∧ w.frozen? ⟨b, 1, none⟩ = false ∧ w.frozen? ⟨b, 2, none⟩ = false ∧ w.frozen? ⟨b, 3, none⟩ = false ∧ w.frozen? ⟨b, 4, none⟩ = false ∧ w.frozen? ⟨b, 5, none⟩ = false ∧ w.frozen? ⟨b, 6, none⟩ = false :=
  ⟨h.frozen 0, h.frozen 1, h.frozen 2, h.frozen 3, h.frozen 4, h.frozen 5, h.frozen 6⟩
end Go.Proofs.Ytdjmopipmeonlaa
/- A block of one struct: a store of one cell, of all cells; blocks laid anew. -/
namespace Go.Proofs.Ytdjmopipmeonlaa
set_option linter.unusedVariables false
open Go.RowKit

namespace Blk
theorem exc (b j : Nat) (v : Value) (w : World) : Exc (fun k => k = b) w (w.setCell ⟨b, j, none⟩ v) := Exc.setCell (S := fun k => k = b) (Exc.refl _ w) ⟨b, j, none⟩ (.inl rfl) v
theorem more {b : Nat} {a w : World} (h : Exc (fun k => k = b) a w) (j : Nat) (v : Value) : Exc (fun k => k = b) a (w.setCell ⟨b, j, none⟩ v) := Exc.setCell (S := fun k => k = b) h ⟨b, j, none⟩ (.inl rfl) v
theorem fresh (w : World) (t : Nat) (cs : Array Value) (l : List Value) (h : cs = l.toArray) : Own (w.alloc (.cells cs t)) w.heap.size t l := by subst h; exact heap_alloc_new w _
theorem drawn {w : World} {b t : Nat} {cs : List Value} (h : Own w b t cs) (q : Nat) : Own (w.drewN q) b t cs := h.below (below_draw w q) h.lt
/-- A list with the values put in from o on. -/
def put (cs : List Value) : Nat → List Value → List Value
  | _, [] => cs
  | o, v :: r => put (cs.set o v) (o + 1) r
theorem own_put {b t : Nat} : ∀ (vs : List Value) (o : Nat) (cs : List Value) (w : World), Own w b t cs → Own (w.setCells b o vs) b t (put cs o vs)
  | [], _, _, _, h => h
  | v :: r, o, _, _, h => own_put r (o + 1) _ _ (h.set o v)
theorem exc_put {b : Nat} {a : World} : ∀ (vs : List Value) (o : Nat) (w : World), Exc (fun k => k = b) a w → Exc (fun k => k = b) a (w.setCells b o vs)
  | [], _, _, h => h
  | v :: r, o, _, h => exc_put r (o + 1) _ (Exc.setCell (S := fun k => k = b) h ⟨b, o, none⟩ (.inl rfl) v)
theorem there {w : World} {b t : Nat} {cs : List Value} (h : Own w b t cs) : w.there b 0 cs.length := fun j hj => by
  rw [Nat.zero_add]
  exact ⟨by rw [h.cell j hj]; rfl, h.frozen j⟩
end Blk
end Go.Proofs.Ytdjmopipmeonlaa
