/- Statement text: CyclicsScript. -/
import Derived.Test.YtdjnflfcolpccaaSAt
import Derived.Test.YtdjnflfcolpccaaUnSame
import Derived.Test.YtdjnflfcolpccaaUnUOf
import Derived.Deep.CutBlock
import Derived.Deep.LoopGhost
import Derived.Deep.RegionHeld3
import Derived.StillTailTactics
namespace Go.Proofs.Ytdjnflfcolpccaa
open Go.RowKit

/-- An act as plain data. -/
structure AcV where
  kd : Nat
  n0 : Nat
  n1 : Nat
  n2 : Nat
  n3 : Nat
  sz : Nat
  s : Option Addr
  n : Nat
  c : Nat
  l : List Int
structure AcOk (w : World) (x : AcV) : Prop where
  k : x.kd ≤ 255
  b0 : x.n0 ≤ 255
  b1 : x.n1 ≤ 255
  b2 : x.n2 ≤ 255
  b3 : x.n3 ≤ 255
  bs : x.sz ≤ 65535
  row : Row .u8 w x.s x.n x.c x.l
/-- A slice value reads in w as the acts L. -/
structure AcsAt (w : World) (a : Option Addr) (n c : Nat) (L : List AcV) : Prop where
  len : L.length = n
  le : n ≤ c
  max : c ≤ maxLen
  cells : ∀ i x, L[i]? = some x → AcOk w x ∧ ∃ b o, a = some ⟨b, o, none⟩ ∧ w.cell? ⟨b, o + i * 7, none⟩ = some (.int .u8 (x.kd : Int)) ∧ w.cell? ⟨b, o + i * 7 + 1, none⟩ = some (.int .u8 (x.n0 : Int)) ∧ w.cell? ⟨b, o + i * 7 + 2, none⟩ = some (.int .u8 (x.n1 : Int)) ∧
    w.cell? ⟨b, o + i * 7 + 3, none⟩ = some (.int .u8 (x.n2 : Int)) ∧ w.cell? ⟨b, o + i * 7 + 4, none⟩ = some (.int .u8 (x.n3 : Int)) ∧ w.cell? ⟨b, o + i * 7 + 5, none⟩ = some (.int .u16 (x.sz : Int)) ∧ w.cell? ⟨b, o + i * 7 + 6, none⟩ = some (.slice x.s x.n x.c)
theorem md_give {w : World} {p : Nat} {m : Md} (h : MdAt w p m) (hok : Md.Ok { m with given := m.given + 1 }) (hsm : m.given + 1 ≤ 100000) :
    MdAt (w.setCell ⟨p, 2, none⟩ (.int .i64 ((m.given : Int) + 1))) p { m with given := m.given + 1 } := by
  refine ⟨?_, hok, hsm⟩
  have hh := h.own.set 2 (.int .i64 ((m.given : Int) + 1))
  simpa [mdCells] using hh
theorem Md.next_given (m : Md) : m.next.2.given = m.given := by
  unfold Md.next Md.go Md.pre
  (repeat' split) <;> rfl
theorem Md.next_load (m : Md) : m.next.1.load.length ≤ 1000 := by
  have h : ∀ k, (loadK k).length ≤ 1000 := fun k => by rw [loadK_length]; unfold mlen; omega
  unfold Md.next Md.go
  split
  · exact h _
  · split
    · exact h _
    · exact Nat.zero_le _
theorem same_refl (a0 : Int) (b1 : Bool) (a2 : Int) (b3 : Bool) (a4 a5 : Int) (s : Option Addr) (n c : Nat) (l : List Int) (s2 : Option Addr) (m d : Nat) (w : World) (h : Row .u8 w s n c l) (h' : Row .u8 w s2 m d l) :
    Calls Try.prog 11 #[.agg #[.int .u8 a0, .bool b1, .int .u8 a2, .bool b3, .int .u8 a4, .int .u8 a5, .slice s n c], .agg #[.int .u8 a0, .bool b1, .int .u8 a2, .bool b3, .int .u8 a4, .int .u8 a5, .slice s2 m d]] w
      fun e w' => e = .returned (.bool true) ∧ Below w.heap.size w w' := by
  have hh := usame_any a0 b1 a2 b3 a4 a5 s n c l a0 b1 a2 b3 a4 a5 s2 m d l w h h'
  rw [decide_eq_true (show sameU a0 b1 a2 b3 a4 a5 l a0 b1 a2 b3 a4 a5 l from ⟨rfl, rfl, rfl, rfl, rfl, rfl, rfl⟩)] at hh
  exact hh
theorem mat_row {w : World} {a : Option Addr} {n c : Nat} {l : List Int} (h : Row .u8 w a n c l) : Mat (w.alloc (.cells #[.slice a n c] 36)) (fun _ => True) false (some ⟨w.heap.size, 0, none⟩) 1 1 [l] := by
  have hl := h.len
  subst hl
  refine ⟨rfl, Nat.le_refl _, by unfold maxLen; omega, .inr ⟨_, 0, rfl, trivial, fun i hi => ?_⟩, by simp⟩
  obtain rfl : i = 0 := by omega
  have ho : Own (w.alloc (.cells #[.slice a l.length c] 36)) w.heap.size 36 [.slice a l.length c] := own_lit w _ _ _ rfl
  exact ⟨_, ho.cell 0 (by simp), _, _, rfl, h.later (below_alloc _ _), (fun hh => Bool.noConfusion hh), fun _ _ => trivial⟩
/-- The load of the unit that the script lets hear. -/
def hLoad (n2 size : Nat) (l : List Int) : List Int := if n2 % 3 = 2 then (msgL size l).take 2 else []
theorem hLoad_length (n2 size : Nat) (l : List Int) : (hLoad n2 size l).length = if n2 % 3 = 2 then 2 else 0 := by
  unfold hLoad
  split
  · rw [List.length_take, msgL_length]; omega
  · rfl
theorem uStat_nat (n2 n3 : Nat) : uStat (n2 : Int) (n3 : Int) = ((if n2 % 3 = 1 then n3 % 6 else 0 : Nat) : Int) := by
  unfold uStat
  by_cases h : n2 % 3 = 1
  · rw [if_pos (by omega), if_pos h]; omega
  · rw [if_neg (by omega), if_neg h]; rfl
set_option maxHeartbeats 200000000 in
set_option maxRecDepth 100000 in
theorem script_any (hl : LivesOk) (z1 z2 : Nat) (hz1 : z1 ≤ 255) (hz2 : z2 ≤ 65535) (w : World) (s : Option Addr) (n c : Nat) (l : List AcV) (h : AcsAt w s n c l) :
    Calls Try.prog 3 #[.agg #[.int .u8 (z1 : Int), .int .u16 (z2 : Int)], .slice s n c] w fun e w' => e = .returned (.bool true) ∧ Below w.heap.size w w' := by
  have hnc := h.le
  have hmx := h.max
  unfold maxLen at hmx
  have H := Lib.hid h
  have HL := Lib.hid hl
  obtain ⟨W0, hW0⟩ : ∃ X, X = w.alloc (.cells #[.int .u8 (z1 : Int), .int .u16 (z2 : Int)] 24) := ⟨_, rfl⟩
  have hb0 : Below w.heap.size w W0 := by rw [hW0]; exact below_alloc _ _
  have oz0 : Own W0 w.heap.size 24 [.int .u8 (z1 : Int), .int .u16 (z2 : Int)] := by rw [hW0]; exact own_lit w _ _ _ rfl
  have HW0 := Lib.hid hW0
  have HB0 := Lib.hid hb0
  have HZ0 := Lib.hid oz0
  clear h hl hW0 hb0 oz0
  by_cases hbig : 120 < n
  · have hbi : (120 : Int) < (n : Int) := by omega
    go_enter Try.func3, Try.ntmps3
    go_wp2_with fail
    rw [← HW0.out]
    with_reducible refine (HL.out _).mono ?_
    rintro e w1 ⟨rfl, hb⟩
    have HB := Lib.hid (HB0.out.trans (Below.mono hb HB0.out.size))
    clear hb
    go_wp2
    go_ret
    exact ⟨rfl, HB.out⟩
  · have hbi : ¬ (120 : Int) < (n : Int) := by omega
    have hn : n ≤ 120 := by omega
    have hbd : decide ((120 : Int) < (n : Int)) = false := decide_eq_false hbi
    have hZ0s : W0.heap.size = w.heap.size + 1 := by rw [HW0.out]; simp
    obtain ⟨W1, hW1⟩ : ∃ X, X = W0.alloc (.cells #[.int .i64 0, .int .i64 0, .int .i64 0, .int .i64 0, .int .i64 0, .int .i64 0, .bool false, .int .u8 127, .bool false, .bool false, .bool false] 29) := ⟨_, rfl⟩
    have hb1 : Below w.heap.size w W1 := by rw [hW1]; exact HB0.out.alloc HB0.out.size _
    have om1 : Own W1 (w.heap.size + 1) 29 [.int .i64 0, .int .i64 0, .int .i64 0, .int .i64 0, .int .i64 0, .int .i64 0, .bool false, .int .u8 127, .bool false, .bool false, .bool false] := by rw [hW1, ← hZ0s]; exact own_lit W0 _ _ _ rfl
    have oz1 : Own W1 w.heap.size 24 [.int .u8 (z1 : Int), .int .u16 (z2 : Int)] := by rw [hW1]; exact HZ0.out.below (below_alloc _ _) HZ0.out.lt
    have hOf := fun W => of_any z1 z2 W hz1 hz2
    obtain ⟨l1, l2⟩ := zLm_in z1
    obtain ⟨l3, l4⟩ := zLo_in z2
    obtain ⟨lm, hlm⟩ : ∃ x, x = zLm z1 := ⟨_, rfl⟩
    obtain ⟨lo, hlo⟩ : ∃ x, x = zLo z2 := ⟨_, rfl⟩
    simp only [← hlm, ← hlo] at hOf
    rw [← hlm] at l1 l2
    rw [← hlo] at l3 l4
    have s0 := oz1.cell 0 (by simp)
    have s1 := oz1.cell 1 (by simp)
    simp only [List.getD_cons_succ, List.getD_cons_zero] at s0 s1
    have HW1 := Lib.hid hW1
    have HB1 := Lib.hid hb1
    have HM1 := Lib.hid om1
    have HOf := Lib.hid hOf
    have HNw := Lib.hid (fun W => enew_any W lm lo l1 l2 l3 l4)
    have HLim := Lib.hid (And.intro l1 (And.intro l2 (And.intro l3 l4)))
    clear hW1 hb1 om1 oz1 hOf hlm hlo hbig l1 l2 l3 l4 hz1 hz2
    go_enter Try.func3, Try.ntmps3
    go_wp2_with fail
    rw [← HW0.out, ← HW1.out]
    with_reducible refine (HOf.out W1).mono ?_
    rintro e w2 ⟨rfl, hb2⟩
    have om2 := HM1.out.below hb2 HM1.out.lt
    have om3 : ∀ w3, w3 = (w2.setCell ⟨w.heap.size + 1, 0, none⟩ (.int .i64 (lm : Int))).setCell ⟨w.heap.size + 1, 1, none⟩ (.int .i64 (lo : Int)) → Own w3 (w.heap.size + 1) 29 (mdCells (Md.fresh lm lo)) := by
      rintro w3 rfl
      exact (om2.set 0 _).set 1 _
    have hx3 : Exc (fun k => k = w.heap.size + 1) w2 ((w2.setCell ⟨w.heap.size + 1, 0, none⟩ (.int .i64 (lm : Int))).setCell ⟨w.heap.size + 1, 1, none⟩ (.int .i64 (lo : Int))) := ((Exc.refl (fun k => k = w.heap.size + 1) w2).setCell ⟨w.heap.size + 1, 0, none⟩ (.inl rfl) _).setCell ⟨w.heap.size + 1, 1, none⟩ (.inl rfl) _
    have m0 := om2.cell 0 (by simp)
    have m1 := om2.cell 1 (by simp)
    have z0 := om2.frozen 0
    have z1' := om2.frozen 1
    simp only [List.getD_cons_succ, List.getD_cons_zero] at m0 m1
    have HB2 := Lib.hid (HB1.out.trans (Below.mono hb2 HB1.out.size))
    have HM3 := Lib.hid om3
    have HX3 := Lib.hid hx3
    clear s0 s1 hb2 om2 om3 hx3 HB1 HM1 HOf HZ0 HB0
    go_wp2_with fail
    have om3 := HM3.out _ rfl
    have hx3 := HX3.out
    generalize (w2.setCell ⟨w.heap.size + 1, 0, none⟩ (.int .i64 (lm : Int))).setCell ⟨w.heap.size + 1, 1, none⟩ (.int .i64 (lo : Int)) = w3 at om3 hx3 ⊢
    have HB3 := Lib.hid (HB2.out.trans (hx3.below HB2.out.size (fun i _ h => by rw [h]; omega)))
    have HO3 := Lib.hid om3
    clear m0 m1 z0 z1' HM3 HX3 om3 hx3 HB2
    go_wp2_with fail
    with_reducible refine (HNw.out w3).mono ?_
    rintro e w4 ⟨rfl, he4, hb4⟩
    obtain ⟨B, hB⟩ : ∃ B, B = w3.heap.size := ⟨_, rfl⟩
    obtain ⟨p, hp⟩ : ∃ p, p = w.heap.size + 1 := ⟨_, rfl⟩
    rw [← hB]
    rw [← hB] at he4
    rw [← hp] at HO3
    have hpB : p < B := by rw [hB]; exact HO3.out.lt
    have hok := Md.fresh_ok HLim.out.1 HLim.out.2.1 HLim.out.2.2.1 HLim.out.2.2.2
    have hm4 : MdAt w4 p (Md.fresh lm lo) := ⟨HO3.out.below hb4 HO3.out.lt, hok, Nat.zero_le _⟩
    have hs4 : SAt w w4 B p (Md.fresh lm lo) ELay.none := by
      refine ⟨?_, fun k hk => ?_, hok, HB3.out.trans (Below.mono hb4 HB3.out.size), hm4.own.lt⟩
      · rw [Md.fresh_en]; exact he4
      · have hwB : w.heap.size ≤ B := by rw [hB]; exact HB3.out.size
        rcases hk with hk | hk | hk | hk
        · exact ⟨by omega, by omega⟩
        · simp [ELay.none] at hk
        · simp [ELay.none] at hk
        · exact hk.elim
    have HM4 := Lib.hid hm4
    have HS4 := Lib.hid hs4
    have HPW : Hid (w.heap.size ≤ p) := Lib.hid (by rw [hp]; omega)
    clear hm4 hs4 hok he4 hb4 HO3 HB3 HNw HLim hB HW0 HW1 hZ0s
    go_wp2_with fail
    rw [← hp]
    clear hp
    go_loopg [8] n (fun gg i wr => ∃ (k : Nat) (m : Md) (L : ELay), gg + k = n ∧ i = .int .i64 (k : Nat) ∧ m.given ≤ k ∧ SAt w wr B p m L ∧ MdAt wr p m)
    case atStart => exact ⟨0, Md.fresh lm lo, ELay.none, Nat.add_zero _, rfl, Nat.le_refl _, HS4.out, HM4.out⟩
    case round =>
      obtain ⟨k, m, L, hk, rfl, hgk, hs, hm⟩ := hrel
      clear HM4 HS4
      by_cases hlt : k < n
      · have hki : (k : Int) < (n : Int) := by omega
        have hlen := H.out.len
        obtain ⟨x, hx⟩ : ∃ x, l[k]? = some x := ⟨l[k]'(by omega), List.getElem?_eq_getElem _⟩
        obtain ⟨hax, b, o, hsl, d0, d1, d2, d3, d4, d5, d6⟩ := H.out.cells k x hx
        obtain rfl := hsl
        have hbel := hs.bel
        replace d0 := hbel.cell (World.block_lt_of_cell? w _ d0) ▸ d0
        replace d1 := hbel.cell (World.block_lt_of_cell? w _ d1) ▸ d1
        replace d2 := hbel.cell (World.block_lt_of_cell? w _ d2) ▸ d2
        replace d3 := hbel.cell (World.block_lt_of_cell? w _ d3) ▸ d3
        replace d4 := hbel.cell (World.block_lt_of_cell? w _ d4) ▸ d4
        replace d5 := hbel.cell (World.block_lt_of_cell? w _ d5) ▸ d5
        replace d6 := hbel.cell (World.block_lt_of_cell? w _ d6) ▸ d6
        have hrow := hax.row.later hbel
        obtain ⟨b0, b1, b2, b3, b4, b5⟩ := (⟨hax.k, hax.b0, hax.b1, hax.b2, hax.b3, hax.bs⟩ : x.kd ≤ 255 ∧ x.n0 ≤ 255 ∧ x.n1 ≤ 255 ∧ x.n2 ≤ 255 ∧ x.n3 ≤ 255 ∧ x.sz ≤ 65535)
        obtain ⟨kd, n0, n1, n2, n3, sz, xs, xn, xc, xl⟩ := x
        simp only at d0 d1 d2 d3 d4 d5 d6 hrow b0 b1 b2 b3 b4 b5
        obtain ⟨q, hq⟩ : ∃ q : Nat, q = kd % 3 := ⟨_, rfl⟩
        have hqi : (kd : Int) % 3 = (q : Int) := by omega
        have hq3 : q < 3 := by omega
        have HRw := Lib.hid hrow
        have HS := Lib.hid hs
        have HM := Lib.hid hm
        obtain ⟨⟨e0, e1, e2, e3, e4, e5, e6, e7, e8, e9, e10⟩, hfz⟩ := hm.cells
        have har := hm.ok.ap; have hrs := hm.ok.ps; have hsg := hm.ok.sg; have hsma := hm.small
        have hwin := hm.ok.win; have hque := hm.ok.que
        have HFz := Lib.hid hfz
        clear hrow hax hx hs hm hbel hq hfz e0 e1 e5 e6 e8 e9
        obtain ⟨WF, hWF⟩ : ∃ WF : Int, WF = if m.failed = true then 6 else 0 := ⟨_, rfl⟩
        have HWF := Lib.hid hWF
        clear hWF
        go_upto_if 53 with fail
        go_cut [9] from 46 to 250 (fun v9 wx => v9 = .int .i64 WF ∧ wr = wx)
        case first =>
          cases hfl : m.failed
          · go_wp2_with fail
            go_meet
            exact ⟨by rw [HWF.out, hfl]; rfl, rfl⟩
          · go_wp2_with fail
            go_meet
            exact ⟨by rw [HWF.out, hfl]; rfl, rfl⟩
        case rest =>
          obtain ⟨rfl, rfl⟩ := hcut
          go_upto_block 2 with fail
          go_cut [] from 46 to 250 (fun wx => ∃ (m' : Md) (L' : ELay), m'.given ≤ k + 1 ∧ SAt w wx B p m' L' ∧ MdAt wx p m')
          case first =>
            rcases (by omega : q = 0 ∨ q = 1 ∨ q = 2) with rfl | rfl | rfl
            · as_aux_lemma =>
              clear d1 d2 d3 d4 d5 d6
              have hgi : (m.given : Int) ≤ 100000 := by omega
              have hsi : (m.sent : Int) ≤ (m.given : Int) := by omega
              have hwr : IntKind.i64.wrap ((m.given : Int) - (m.sent : Int)) = (m.given : Int) - (m.sent : Int) := by rw [IntKind.wrap_i64]; omega
              cases hfl : m.failed
              · rw [hfl] at e10
                obtain rfl : WF = 0 := by rw [HWF.out, hfl]; rfl
                by_cases hfu : m.given = m.sent + 64
                · have hfb : ((m.given : Int) - (m.sent : Int) == 64) = true := by simp; omega
                  have HFu := Lib.hid hfu
                  clear hfu
                  go_wp2_with fail
                  with_reducible refine (kmsg_any m.given wr (by omega)).mono ?_
                  rintro e w4 ⟨⟨g4, c4, rfl, _, _, _⟩, hb4⟩
                  have HS4 := Lib.hid (HS.out.later hb4)
                  have HM4 := Lib.hid (HM.out.later hb4)
                  clear hb4
                  go_wp2_with fail
                  refine (s_full HS4.out hfl HFu.out (k := m.given) rfl).mono ?_
                  rintro e w5 ⟨rfl, hb5⟩
                  have HS5 := Lib.hid (HS4.out.later hb5)
                  have HM5 := Lib.hid (HM4.out.later hb5)
                  clear hb5 HS4 HM4
                  go_wp2_with fail
                  go_meet
                  exact ⟨m, L, Nat.le_succ_of_le hgk, HS5.out, HM5.out⟩
                · have hfb : ((m.given : Int) - (m.sent : Int) == 64) = false := by simp; omega
                  have HFu := Lib.hid hfu
                  clear hfu
                  go_wp2_with fail
                  with_reducible refine (kmsg_any m.given wr (by omega)).mono ?_
                  rintro e w4 ⟨⟨g4, c4, rfl, hrow4, _, _⟩, hb4⟩
                  have HS4 := Lib.hid (HS.out.later hb4)
                  have HM4 := Lib.hid (HM.out.later hb4)
                  have HR4 := Lib.hid hrow4
                  clear hb4 hrow4
                  go_wp2_with fail
                  refine (s_accept HS4.out hfl (by have := HFu.out; omega) rfl HR4.out).mono ?_
                  rintro e w5 ⟨rfl, L5, hs5, hx5⟩
                  have HS5 := Lib.hid hs5
                  have HM5 := Lib.hid (HM4.out.exc hx5 HS4.out.np)
                  clear hs5 hx5 HS4 HM4 HR4 HFu e2 e3 e4 e7 e10
                  obtain ⟨⟨_, _, e2, e3, e4, _, _, e7, _, _, e10⟩, hfz5⟩ := HM5.out.cells
                  have z2 := hfz5 2
                  go_wp2_with fail
                  go_meet
                  exact ⟨{ m with given := m.given + 1 }, L5, by show m.given + 1 ≤ k + 1; omega, HS5.out.exc ((Exc.refl (fun j => j = p) _).setCell _ (.inl rfl) _) (fun j hj => by rw [hj]; exact ⟨HS5.out.np, HPW.out⟩), md_give HM5.out HS5.out.ok (by omega)⟩
              · rw [hfl] at e10
                obtain rfl : WF = 6 := by rw [HWF.out, hfl]; rfl
                go_wp2_with fail
                with_reducible refine (kmsg_any m.given wr (by omega)).mono ?_
                rintro e w4 ⟨⟨g4, c4, rfl, _, _, _⟩, hb4⟩
                have HS4 := Lib.hid (HS.out.later hb4)
                have HM4 := Lib.hid (HM.out.later hb4)
                clear hb4
                go_wp2_with fail
                refine (accept_failed _ _ _ _ _ HS4.out.e hfl).mono ?_
                rintro e w5 ⟨rfl, q5, hq5⟩
                have hb5 : Below w4.heap.size w4 w5 := by rw [hq5]; exact below_draw _ _
                have HS5 := Lib.hid (HS4.out.later hb5)
                have HM5 := Lib.hid (HM4.out.later hb5)
                clear hb5 hq5 HS4 HM4
                go_wp2_with fail
                go_meet
                exact ⟨m, L, Nat.le_succ_of_le hgk, HS5.out, HM5.out⟩
            · as_aux_lemma =>
              clear d1 d2 d3 d4 d5 d6
              cases hfl : m.failed
              · rw [hfl] at e10
                obtain rfl : WF = 0 := by rw [HWF.out, hfl]; rfl
                go_wp2_with fail
                refine (s_next HS.out hfl).mono ?_
                rintro e w4 ⟨s4, rfl, hr4, hz4, L4, hs4, hx4⟩
                have HS4 := Lib.hid hs4
                have HM4 := Lib.hid (HM.out.exc hx4 HS.out.np)
                have HR4 := Lib.hid hr4
                have HZp := Lib.hid (fun z (hz : s4 = some z) => show ¬ z.block = p from by have := hz4 z hz; have := HM.out.own.lt; omega)
                clear hs4 hr4 hz4 hx4 e2 e3 e4 e7 e10
                obtain ⟨y, hy⟩ : ∃ y, y = m.next.1 := ⟨_, rfl⟩
                rw [← hy] at HR4 ⊢
                have HY := Lib.hid hy
                clear hy
                simp only [unCells]
                go_wp2_with fail
                generalize hW5 : w4.alloc (.cells #[.int .u8 (y.back : Int), .bool y.bb, .int .u8 (y.fore : Int), .bool y.fb, .int .u8 (y.kind : Int), .int .u8 (y.state : Int), .slice s4 y.load.length y.load.length] 45) = W5
                have ou5 : Own W5 w4.heap.size 45 (unCells y s4 y.load.length y.load.length) := by rw [← hW5]; exact own_lit w4 _ _ _ rfl
                have hb5 : Below w4.heap.size w4 W5 := by rw [← hW5]; exact below_alloc _ _
                have HS5 := Lib.hid (HS4.out.later hb5)
                have HM5 := Lib.hid (HM4.out.later hb5)
                have HR5 := Lib.hid (HR4.out.later hb5)
                have hpq : ¬ w4.heap.size = p := by have := HM4.out.own.lt; omega
                have hNx : ∀ W, Below W5.heap.size W5 W → Calls Try.prog 12 #[.pointer (some ⟨p, 0, none⟩)] W fun e w' => ∃ s6 c6, e = .returned (.agg #[.int .u8 (y.back : Int), .bool y.bb, .int .u8 (y.fore : Int), .bool y.fb, .int .u8 (y.kind : Int), .int .u8 (y.state : Int), .slice s6 y.load.length c6]) ∧ Row .u8 w' s6 y.load.length c6 y.load ∧ MdAt w' p m.next.2 ∧ Exc (fun j => j = p) W w' := fun W hb => by
                  refine (mnext_any p m W (HM5.out.later hb)).mono ?_
                  rintro e w' ⟨⟨s6, c6, rfl, hr6, _⟩, hm6, hx6⟩
                  rw [← HY.out] at hr6 ⊢
                  exact ⟨s6, c6, rfl, hr6, hm6, hx6⟩
                have hCl : ∀ W, Exc (fun j => j = p) W5 W → Exc (fun j => j = p) W5 W ∧ W.cell? ⟨w4.heap.size, 0, none⟩ = some (.int .u8 (y.back : Int)) ∧ W.cell? ⟨w4.heap.size, 1, none⟩ = some (.bool y.bb) ∧ W.cell? ⟨w4.heap.size, 2, none⟩ = some (.int .u8 (y.fore : Int)) ∧ W.cell? ⟨w4.heap.size, 3, none⟩ = some (.bool y.fb) ∧ W.cell? ⟨w4.heap.size, 4, none⟩ = some (.int .u8 (y.kind : Int)) ∧ W.cell? ⟨w4.heap.size, 5, none⟩ = some (.int .u8 (y.state : Int)) ∧ W.cell? ⟨w4.heap.size, 6, none⟩ = some (.slice s4 y.load.length y.load.length) := fun W hx => by
                  have hh := ou5.exc hx hpq
                  exact ⟨hx, hh.cell 0 (by simp [unCells]), hh.cell 1 (by simp [unCells]), hh.cell 2 (by simp [unCells]), hh.cell 3 (by simp [unCells]), hh.cell 4 (by simp [unCells]), hh.cell 5 (by simp [unCells]), hh.cell 6 (by simp [unCells])⟩
                have hSm : ∀ s6 c6 W, Exc (fun j => j = p) W5 W → Row .u8 W s6 y.load.length c6 y.load → Calls Try.prog 11 #[.agg #[.int .u8 (y.back : Int), .bool y.bb, .int .u8 (y.fore : Int), .bool y.fb, .int .u8 (y.kind : Int), .int .u8 (y.state : Int), .slice s4 y.load.length y.load.length], .agg #[.int .u8 (y.back : Int), .bool y.bb, .int .u8 (y.fore : Int), .bool y.fb, .int .u8 (y.kind : Int), .int .u8 (y.state : Int), .slice s6 y.load.length c6]] W fun e w' => e = .returned (.bool true) ∧ Below W.heap.size W w' := fun s6 c6 W hx hr => same_refl _ _ _ _ _ _ _ _ _ _ _ _ _ _ (HR5.out.exc hx (fun z hz => HZp.out z hz)) hr
                have hC5 := hCl W5 (Exc.refl _ _)
                have hbw : Below W5.heap.size W5 W5.drew := below_draw W5 1
                have hxw : Exc (fun j => j = p) W5 W5.drew := Exc.of_below hbw
                have hCw := hCl _ hxw
                have HNx := Lib.hid hNx
                have HCl := Lib.hid hCl
                have HSm := Lib.hid hSm
                clear hNx hCl hSm hW5 hb5 ou5 hpq
                refine wp_region_held_drew (S := (fun W => Exc (fun j => j = p) W5 W ∧ W.cell? ⟨w4.heap.size, 0, none⟩ = some (.int .u8 (y.back : Int)) ∧ W.cell? ⟨w4.heap.size, 1, none⟩ = some (.bool y.bb) ∧ W.cell? ⟨w4.heap.size, 2, none⟩ = some (.int .u8 (y.fore : Int)) ∧ W.cell? ⟨w4.heap.size, 3, none⟩ = some (.bool y.fb) ∧ W.cell? ⟨w4.heap.size, 4, none⟩ = some (.int .u8 (y.kind : Int)) ∧ W.cell? ⟨w4.heap.size, 5, none⟩ = some (.int .u8 (y.state : Int)) ∧ W.cell? ⟨w4.heap.size, 6, none⟩ = some (.slice s4 y.load.length y.load.length))) (by kernel_rfl) ?_ (fun hHeld => ?_)
                · try dsimp only
                  first | assumption | exact HCl.out _ (Exc.refl _ _) | exact HCl.out _ ((Exc.refl _ _).drawN _)
                refine wpAnyH_take (i := 0) (oi := { dst := some 171, op := Op.move (Operand.tmp 11), type := 33, pos := "law.go:182", after := #[], guard := none }) (v := ?_) rfl (by kernel_rfl) (by kernel_rfl) (by kernel_rfl) (fun _ _ _ h => h) (Or.inl ⟨by rfl, ?_⟩) (by assumption) ?_
                rotate_left 1
                · intro w hSw
                  (try dsimp only at hSw)
                  go_simp
                  try with_reducible rfl
                try simp only [Act.put, List.setIfInBounds_toArray, List.set_cons_zero, List.set_cons_succ]
                refine wpAnyH_take (i := 1) (oi := { dst := some 172, op := Op.move (Operand.tmp 9), type := 33, pos := "law.go:182", after := #[], guard := none }) (v := ?_) rfl (by kernel_rfl) (by kernel_rfl) (by kernel_rfl) (fun _ _ _ h => h) (Or.inl ⟨by rfl, ?_⟩) (by assumption) ?_
                rotate_left 1
                · intro w hSw
                  (try dsimp only at hSw)
                  go_simp
                  try with_reducible rfl
                try simp only [Act.put, List.setIfInBounds_toArray, List.set_cons_zero, List.set_cons_succ]
                refine wpAnyH_take (i := 2) (oi := { dst := some 173, op := Op.binOp BinOp.neq 33 (Operand.tmp 171) (Operand.tmp 172) 33, type := 4, pos := "law.go:182", after := #[{ on := 0, ground := Ground.data }, { on := 1, ground := Ground.data }], guard := none }) (v := ?_) rfl (by kernel_rfl) (by kernel_rfl) (by kernel_rfl) (fun _ _ _ h => h) (Or.inl ⟨by rfl, ?_⟩) (by assumption) ?_
                rotate_left 1
                · intro w hSw
                  (try dsimp only at hSw)
                  go_simp
                  try with_reducible rfl
                try simp only [Act.put, List.setIfInBounds_toArray, List.set_cons_zero, List.set_cons_succ]
                refine wpAnyH_take (i := 3) (oi := { dst := some 174, op := Op.move (Operand.tmp 173), type := 4, pos := "law.go:182", after := #[{ on := 2, ground := Ground.data }], guard := none }) (v := ?_) rfl (by kernel_rfl) (by kernel_rfl) (by kernel_rfl) (fun _ _ _ h => h) (Or.inl ⟨by rfl, ?_⟩) (by assumption) ?_
                rotate_left 1
                · intro w hSw
                  (try dsimp only at hSw)
                  go_simp
                  try with_reducible rfl
                try simp only [Act.put, List.setIfInBounds_toArray, List.set_cons_zero, List.set_cons_succ]
                refine wpAnyH_take (i := 4) (oi := { dst := some 175, op := Op.move (Operand.tmp 9), type := 33, pos := "law.go:182", after := #[{ on := 3, ground := Ground.guard }], guard := some (3, false) }) (v := ?_) rfl (by kernel_rfl) (by kernel_rfl) (by kernel_rfl) (fun _ _ _ h => h) (Or.inl ⟨by rfl, ?_⟩) (by assumption) ?_
                rotate_left 1
                · intro w hSw
                  (try dsimp only at hSw)
                  go_simp
                  try with_reducible rfl
                try simp only [Act.put, List.setIfInBounds_toArray, List.set_cons_zero, List.set_cons_succ]
                refine wpAnyH_take (i := 5) (oi := { dst := some 176, op := Op.binOp BinOp.eql 33 (Operand.tmp 175) (Operand.const (Value.int IntKind.i64 0)) 33, type := 4, pos := "law.go:182", after := #[{ on := 4, ground := Ground.data }, { on := 3, ground := Ground.guard }], guard := some (3, false) }) (v := ?_) rfl (by kernel_rfl) (by kernel_rfl) (by kernel_rfl) (fun _ _ _ h => h) (Or.inl ⟨by rfl, ?_⟩) (by assumption) ?_
                rotate_left 1
                · intro w hSw
                  (try dsimp only at hSw)
                  go_simp
                  try with_reducible rfl
                try simp only [Act.put, List.setIfInBounds_toArray, List.set_cons_zero, List.set_cons_succ]
                refine wpAnyH_take (i := 6) (oi := { dst := some 177, op := Op.move (Operand.tmp 176), type := 4, pos := "law.go:182", after := #[{ on := 5, ground := Ground.data }, { on := 3, ground := Ground.chain }, { on := 3, ground := Ground.guard }], guard := some (3, false) }) (v := ?_) rfl (by kernel_rfl) (by kernel_rfl) (by kernel_rfl) (fun _ _ _ h => h) (Or.inl ⟨by rfl, ?_⟩) (by assumption) ?_
                rotate_left 1
                · intro w hSw
                  (try dsimp only at hSw)
                  go_simp
                  try with_reducible rfl
                try simp only [Act.put, List.setIfInBounds_toArray, List.set_cons_zero, List.set_cons_succ]
                refine wpAnyH_take (i := 7) (oi := { dst := some 178, op := Op.load 45 (Operand.tmp 10), type := 45, pos := "law.go:182", after := #[{ on := 6, ground := Ground.guard }], guard := some (6, true) }) (v := ?_) rfl (by kernel_rfl) (by kernel_rfl) (by kernel_rfl) (fun _ _ _ h => h) (Or.inl ⟨by rfl, ?_⟩) (by assumption) ?_
                rotate_left 1
                · intro w hSw
                  (try dsimp only at hSw)
                  go_simp
                  try with_reducible rfl
                try simp only [Act.put, List.setIfInBounds_toArray, List.set_cons_zero, List.set_cons_succ]
                refine wpAnyH_ready (rs := [8]) (by kernel_rfl) (by simp) ?_
                refine AllReadyH.cons (o := { dst := some 179, op := Op.call { callee := Callee.value (Operand.func 12), args := #[Operand.tmp 5], argTypes := #[29] }, type := 45, pos := "law.go:182", after := #[{ on := 6, ground := Ground.chain }, { on := 6, ground := Ground.guard }], guard := some (6, true) }) rfl (fun K hK => ?_) AllReadyH.nil
                go_simp
                (go_at_call 12; ((with_reducible refine (HNx.out _ (by first | exact hbw | exact Below.refl _ _)).mono ?_); rintro e w6 ⟨s6, c6, rfl, hr6, hm6, hx6⟩); have hC6 := HCl.out w6 (by first | exact Exc.trans hxw hx6 (fun _ _ h => h) | exact hx6); have HR6 := Lib.hid hr6; have HM6 := Lib.hid hm6; clear hr6 hm6 hx6)
                go_wp2_with fail
                refine hK.out _ _ ?_ (fun hHeld => ?_)
                · try dsimp only
                  first | assumption | exact HCl.out _ (Exc.refl _ _) | exact HCl.out _ ((Exc.refl _ _).drawN _)
                clear hK K
                try simp only [Act.put, List.setIfInBounds_toArray, List.set_cons_zero, List.set_cons_succ]
                refine wpAnyH_ready (rs := [9]) (by kernel_rfl) (by simp) ?_
                refine AllReadyH.cons (o := { dst := some 180, op := Op.call { callee := Callee.value (Operand.func 11), args := #[Operand.tmp 178, Operand.tmp 179], argTypes := #[45, 45] }, type := 4, pos := "law.go:182", after := #[{ on := 7, ground := Ground.data }, { on := 8, ground := Ground.data }, { on := 8, ground := Ground.chain }, { on := 6, ground := Ground.guard }], guard := some (6, true) }) rfl (fun K hK => ?_) AllReadyH.nil
                go_simp
                (go_at_call 11; ((with_reducible refine (HSm.out _ _ _ hC6.1 HR6.out).mono ?_); rintro e w7 ⟨rfl, hb7⟩); have hC7 := HCl.out w7 (hC6.1.trans (Exc.of_below hb7) (fun _ _ h => h)); have HM7 := Lib.hid (HM6.out.later hb7); clear hb7)
                go_wp2_with fail
                refine hK.out _ _ ?_ (fun hHeld => ?_)
                · try dsimp only
                  first | assumption | exact HCl.out _ (Exc.refl _ _) | exact HCl.out _ ((Exc.refl _ _).drawN _)
                clear hK K
                try simp only [Act.put, List.setIfInBounds_toArray, List.set_cons_zero, List.set_cons_succ]
                refine wpAnyH_take (i := 10) (oi := { dst := some 181, op := Op.unOp UnOp.not 4 (Operand.tmp 180), type := 4, pos := "law.go:182", after := #[{ on := 9, ground := Ground.data }, { on := 6, ground := Ground.guard }], guard := some (6, true) }) (v := ?_) rfl (by kernel_rfl) (by kernel_rfl) (by kernel_rfl) (fun _ _ _ h => h) (Or.inl ⟨by rfl, ?_⟩) (by assumption) ?_
                rotate_left 1
                · intro w hSw
                  (try dsimp only at hSw)
                  go_simp
                  try with_reducible rfl
                try simp only [Act.put, List.setIfInBounds_toArray, List.set_cons_zero, List.set_cons_succ]
                refine wpAnyH_take (i := 11) (oi := { dst := some 182, op := Op.pick (Operand.tmp 177) (Operand.tmp 181) (Operand.const (Value.bool false)), type := 4, pos := "law.go:182", after := #[{ on := 6, ground := Ground.data }, { on := 10, ground := Ground.data }, { on := 3, ground := Ground.guard }], guard := some (3, false) }) (v := ?_) rfl (by kernel_rfl) (by kernel_rfl) (by kernel_rfl) (fun _ _ _ h => h) (Or.inl ⟨by rfl, ?_⟩) (by assumption) ?_
                rotate_left 1
                · intro w hSw
                  (try dsimp only at hSw)
                  go_simp
                  try with_reducible rfl
                try simp only [Act.put, List.setIfInBounds_toArray, List.set_cons_zero, List.set_cons_succ]
                refine wpAnyH_take (i := 12) (oi := { dst := some 183, op := Op.pick (Operand.tmp 174) (Operand.const (Value.bool true)) (Operand.tmp 182), type := 4, pos := "law.go:182", after := #[{ on := 3, ground := Ground.data }, { on := 11, ground := Ground.data }], guard := none }) (v := ?_) rfl (by kernel_rfl) (by kernel_rfl) (by kernel_rfl) (fun _ _ _ h => h) (Or.inl ⟨by rfl, ?_⟩) (by assumption) ?_
                rotate_left 1
                · intro w hSw
                  (try dsimp only at hSw)
                  go_simp
                  try with_reducible rfl
                try simp only [Act.put, List.setIfInBounds_toArray, List.set_cons_zero, List.set_cons_succ]
                refine wpAnyH_take (i := 13) (oi := { dst := some 184, op := Op.move (Operand.tmp 183), type := 4, pos := "law.go:182", after := #[{ on := 12, ground := Ground.data }, { on := 9, ground := Ground.chain }], guard := none }) (v := ?_) rfl (by kernel_rfl) (by kernel_rfl) (by kernel_rfl) (fun _ _ _ h => h) (Or.inl ⟨by rfl, ?_⟩) (by assumption) ?_
                rotate_left 1
                · intro w hSw
                  (try dsimp only at hSw)
                  go_simp
                  try with_reducible rfl
                try simp only [Act.put, List.setIfInBounds_toArray, List.set_cons_zero, List.set_cons_succ]
                refine wpAnyH_take (i := 14) (oi := { dst := some 185, op := Op.move (Operand.tmp 9), type := 33, pos := "law.go:182", after := #[{ on := 13, ground := Ground.guard }], guard := some (13, false) }) (v := ?_) rfl (by kernel_rfl) (by kernel_rfl) (by kernel_rfl) (fun _ _ _ h => h) (Or.inl ⟨by rfl, ?_⟩) (by assumption) ?_
                rotate_left 1
                · intro w hSw
                  (try dsimp only at hSw)
                  go_simp
                  try with_reducible rfl
                try simp only [Act.put, List.setIfInBounds_toArray, List.set_cons_zero, List.set_cons_succ]
                refine wpAnyH_take (i := 15) (oi := { dst := some 186, op := Op.binOp BinOp.neq 33 (Operand.tmp 185) (Operand.const (Value.int IntKind.i64 0)) 33, type := 4, pos := "law.go:182", after := #[{ on := 14, ground := Ground.data }, { on := 13, ground := Ground.guard }], guard := some (13, false) }) (v := ?_) rfl (by kernel_rfl) (by kernel_rfl) (by kernel_rfl) (fun _ _ _ h => h) (Or.inl ⟨by rfl, ?_⟩) (by assumption) ?_
                rotate_left 1
                · intro w hSw
                  (try dsimp only at hSw)
                  go_simp
                  try with_reducible rfl
                try simp only [Act.put, List.setIfInBounds_toArray, List.set_cons_zero, List.set_cons_succ]
                refine wpAnyH_take (i := 16) (oi := { dst := some 187, op := Op.move (Operand.tmp 186), type := 4, pos := "law.go:182", after := #[{ on := 15, ground := Ground.data }, { on := 13, ground := Ground.chain }, { on := 13, ground := Ground.guard }], guard := some (13, false) }) (v := ?_) rfl (by kernel_rfl) (by kernel_rfl) (by kernel_rfl) (fun _ _ _ h => h) (Or.inl ⟨by rfl, ?_⟩) (by assumption) ?_
                rotate_left 1
                · intro w hSw
                  (try dsimp only at hSw)
                  go_simp
                  try with_reducible rfl
                try simp only [Act.put, List.setIfInBounds_toArray, List.set_cons_zero, List.set_cons_succ]
                refine wpAnyH_take (i := 17) (oi := { dst := some 188, op := Op.load 45 (Operand.tmp 10), type := 45, pos := "law.go:182", after := #[{ on := 16, ground := Ground.guard }], guard := some (16, true) }) (v := undef) rfl (by kernel_rfl) (by kernel_rfl) (by kernel_rfl) (fun _ _ _ h => h) (Or.inr ⟨by rfl, rfl⟩) (by assumption) ?_
                try simp only [Act.put, List.setIfInBounds_toArray, List.set_cons_zero, List.set_cons_succ]
                refine wpAnyH_take (i := 18) (oi := { dst := some 189, op := Op.build 45 #[], type := 45, pos := "law.go:182", after := #[{ on := 16, ground := Ground.guard }], guard := some (16, true) }) (v := undef) rfl (by kernel_rfl) (by kernel_rfl) (by kernel_rfl) (fun _ _ _ h => h) (Or.inr ⟨by rfl, rfl⟩) (by assumption) ?_
                try simp only [Act.put, List.setIfInBounds_toArray, List.set_cons_zero, List.set_cons_succ]
                refine wpAnyH_take (i := 19) (oi := { dst := some 190, op := Op.call { callee := Callee.value (Operand.func 11), args := #[Operand.tmp 188, Operand.tmp 189], argTypes := #[45, 45] }, type := 4, pos := "law.go:182", after := #[{ on := 17, ground := Ground.data }, { on := 18, ground := Ground.data }, { on := 16, ground := Ground.chain }, { on := 16, ground := Ground.guard }], guard := some (16, true) }) (v := undef) rfl (by kernel_rfl) (by kernel_rfl) (by kernel_rfl) (fun _ _ _ h => h) (Or.inr ⟨by rfl, rfl⟩) (by assumption) ?_
                try simp only [Act.put, List.setIfInBounds_toArray, List.set_cons_zero, List.set_cons_succ]
                refine wpAnyH_take (i := 20) (oi := { dst := some 191, op := Op.unOp UnOp.not 4 (Operand.tmp 190), type := 4, pos := "law.go:182", after := #[{ on := 19, ground := Ground.data }, { on := 16, ground := Ground.guard }], guard := some (16, true) }) (v := undef) rfl (by kernel_rfl) (by kernel_rfl) (by kernel_rfl) (fun _ _ _ h => h) (Or.inr ⟨by rfl, rfl⟩) (by assumption) ?_
                try simp only [Act.put, List.setIfInBounds_toArray, List.set_cons_zero, List.set_cons_succ]
                refine wpAnyH_take (i := 21) (oi := { dst := some 192, op := Op.pick (Operand.tmp 187) (Operand.tmp 191) (Operand.const (Value.bool false)), type := 4, pos := "law.go:182", after := #[{ on := 16, ground := Ground.data }, { on := 20, ground := Ground.data }, { on := 13, ground := Ground.guard }], guard := some (13, false) }) (v := ?_) rfl (by kernel_rfl) (by kernel_rfl) (by kernel_rfl) (fun _ _ _ h => h) (Or.inl ⟨by rfl, ?_⟩) (by assumption) ?_
                rotate_left 1
                · intro w hSw
                  (try dsimp only at hSw)
                  go_simp
                  try with_reducible rfl
                try simp only [Act.put, List.setIfInBounds_toArray, List.set_cons_zero, List.set_cons_succ]
                refine wpAnyH_take (i := 22) (oi := { dst := some 193, op := Op.pick (Operand.tmp 184) (Operand.const (Value.bool true)) (Operand.tmp 192), type := 4, pos := "law.go:182", after := #[{ on := 13, ground := Ground.data }, { on := 21, ground := Ground.data }], guard := none }) (v := ?_) rfl (by kernel_rfl) (by kernel_rfl) (by kernel_rfl) (fun _ _ _ h => h) (Or.inl ⟨by rfl, ?_⟩) (by assumption) ?_
                rotate_left 1
                · intro w hSw
                  (try dsimp only at hSw)
                  go_simp
                  try with_reducible rfl
                try simp only [Act.put, List.setIfInBounds_toArray, List.set_cons_zero, List.set_cons_succ]
                refine wpAnyH_done (by kernel_rfl) ?_ _
                all_goals (
                  have HX7 := Lib.hid hC7.1
                  clear hC5 hC6 hC7 hCw hbw hxw
                  go_wp2_with fail
                  go_meet
                  exact ⟨m.next.2, L4, by rw [Md.next_given]; omega, HS5.out.exc HX7.out (fun j hj => by rw [hj]; exact ⟨HS5.out.np, HPW.out⟩), HM7.out⟩)
              · rw [hfl] at e10
                obtain rfl : WF = 6 := by rw [HWF.out, hfl]; rfl
                go_wp2_with fail
                refine (next_failed _ _ _ _ HS.out.e hfl).mono ?_
                rintro e w4 ⟨rfl, hb4⟩
                have HS4 := Lib.hid (HS.out.later hb4)
                have HM4 := Lib.hid (HM.out.later hb4)
                clear hb4 e2 e3 e4 e7 e10
                simp only [zeroUnit]
                go_wp2_with fail
                generalize hW5 : w4.alloc (.cells #[.int .u8 0, .bool false, .int .u8 0, .bool false, .int .u8 0, .int .u8 0, .slice none 0 0] 45) = W5
                have ou5 : Own W5 w4.heap.size 45 zeroUnit := by rw [← hW5]; exact own_lit w4 _ _ _ rfl
                have hb5 : Below w4.heap.size w4 W5 := by rw [← hW5]; exact below_alloc _ _
                have HS5 := Lib.hid (HS4.out.later hb5)
                have HM5 := Lib.hid (HM4.out.later hb5)
                have hCl : ∀ W, Below W5.heap.size W5 W → Below W5.heap.size W5 W ∧ W.cell? ⟨w4.heap.size, 0, none⟩ = some (.int .u8 0) ∧ W.cell? ⟨w4.heap.size, 1, none⟩ = some (.bool false) ∧ W.cell? ⟨w4.heap.size, 2, none⟩ = some (.int .u8 0) ∧ W.cell? ⟨w4.heap.size, 3, none⟩ = some (.bool false) ∧ W.cell? ⟨w4.heap.size, 4, none⟩ = some (.int .u8 0) ∧ W.cell? ⟨w4.heap.size, 5, none⟩ = some (.int .u8 0) ∧ W.cell? ⟨w4.heap.size, 6, none⟩ = some (.slice none 0 0) := fun W hx => by
                  have hh := ou5.below hx ou5.lt
                  exact ⟨hx, hh.cell 0 (by simp [zeroUnit]), hh.cell 1 (by simp [zeroUnit]), hh.cell 2 (by simp [zeroUnit]), hh.cell 3 (by simp [zeroUnit]), hh.cell 4 (by simp [zeroUnit]), hh.cell 5 (by simp [zeroUnit]), hh.cell 6 (by simp [zeroUnit])⟩
                have hSm : ∀ W, Calls Try.prog 11 #[.agg #[.int .u8 0, .bool false, .int .u8 0, .bool false, .int .u8 0, .int .u8 0, .slice none 0 0], .agg #[.int .u8 0, .bool false, .int .u8 0, .bool false, .int .u8 0, .int .u8 0, .slice none 0 0]] W fun e w' => e = .returned (.bool true) ∧ Below W.heap.size W w' := fun W => same_refl _ _ _ _ _ _ _ _ _ _ _ _ _ _ (Row.of_nil _ _) (Row.of_nil _ _)
                have hbw : Below W5.heap.size W5 W5.drew := below_draw W5 1
                have hxw := hbw
                have hCw := hCl _ hbw
                have hC5 := hCl W5 (Below.refl _ _)
                have HCl := Lib.hid hCl
                have HSm := Lib.hid hSm
                have i0 : ((6 : Int) != 6) = false := by decide
                have i1 : ((6 : Int) == 0) = false := by decide
                have i2 : ((6 : Int) != 0) = true := by decide
                clear hCl hSm hW5 hb5 ou5
                refine wp_region_held_drew (S := (fun W => Below W5.heap.size W5 W ∧ W.cell? ⟨w4.heap.size, 0, none⟩ = some (.int .u8 0) ∧ W.cell? ⟨w4.heap.size, 1, none⟩ = some (.bool false) ∧ W.cell? ⟨w4.heap.size, 2, none⟩ = some (.int .u8 0) ∧ W.cell? ⟨w4.heap.size, 3, none⟩ = some (.bool false) ∧ W.cell? ⟨w4.heap.size, 4, none⟩ = some (.int .u8 0) ∧ W.cell? ⟨w4.heap.size, 5, none⟩ = some (.int .u8 0) ∧ W.cell? ⟨w4.heap.size, 6, none⟩ = some (.slice none 0 0))) (by kernel_rfl) ?_ (fun hHeld => ?_)
                · try dsimp only
                  first | assumption | exact HCl.out _ (Below.refl _ _) | exact HCl.out _ (below_draw _ _)
                refine wpAnyH_take (i := 0) (oi := { dst := some 171, op := Op.move (Operand.tmp 11), type := 33, pos := "law.go:182", after := #[], guard := none }) (v := ?_) rfl (by kernel_rfl) (by kernel_rfl) (by kernel_rfl) (fun _ _ _ h => h) (Or.inl ⟨by rfl, ?_⟩) (by assumption) ?_
                rotate_left 1
                · intro w hSw
                  (try dsimp only at hSw)
                  go_simp
                  try with_reducible rfl
                try simp only [Act.put, List.setIfInBounds_toArray, List.set_cons_zero, List.set_cons_succ]
                refine wpAnyH_take (i := 1) (oi := { dst := some 172, op := Op.move (Operand.tmp 9), type := 33, pos := "law.go:182", after := #[], guard := none }) (v := ?_) rfl (by kernel_rfl) (by kernel_rfl) (by kernel_rfl) (fun _ _ _ h => h) (Or.inl ⟨by rfl, ?_⟩) (by assumption) ?_
                rotate_left 1
                · intro w hSw
                  (try dsimp only at hSw)
                  go_simp
                  try with_reducible rfl
                try simp only [Act.put, List.setIfInBounds_toArray, List.set_cons_zero, List.set_cons_succ]
                refine wpAnyH_take (i := 2) (oi := { dst := some 173, op := Op.binOp BinOp.neq 33 (Operand.tmp 171) (Operand.tmp 172) 33, type := 4, pos := "law.go:182", after := #[{ on := 0, ground := Ground.data }, { on := 1, ground := Ground.data }], guard := none }) (v := ?_) rfl (by kernel_rfl) (by kernel_rfl) (by kernel_rfl) (fun _ _ _ h => h) (Or.inl ⟨by rfl, ?_⟩) (by assumption) ?_
                rotate_left 1
                · intro w hSw
                  (try dsimp only at hSw)
                  go_simp
                  try with_reducible rfl
                try simp only [Act.put, List.setIfInBounds_toArray, List.set_cons_zero, List.set_cons_succ]
                refine wpAnyH_take (i := 3) (oi := { dst := some 174, op := Op.move (Operand.tmp 173), type := 4, pos := "law.go:182", after := #[{ on := 2, ground := Ground.data }], guard := none }) (v := ?_) rfl (by kernel_rfl) (by kernel_rfl) (by kernel_rfl) (fun _ _ _ h => h) (Or.inl ⟨by rfl, ?_⟩) (by assumption) ?_
                rotate_left 1
                · intro w hSw
                  (try dsimp only at hSw)
                  go_simp
                  try with_reducible rfl
                try simp only [Act.put, List.setIfInBounds_toArray, List.set_cons_zero, List.set_cons_succ]
                refine wpAnyH_take (i := 4) (oi := { dst := some 175, op := Op.move (Operand.tmp 9), type := 33, pos := "law.go:182", after := #[{ on := 3, ground := Ground.guard }], guard := some (3, false) }) (v := ?_) rfl (by kernel_rfl) (by kernel_rfl) (by kernel_rfl) (fun _ _ _ h => h) (Or.inl ⟨by rfl, ?_⟩) (by assumption) ?_
                rotate_left 1
                · intro w hSw
                  (try dsimp only at hSw)
                  go_simp
                  try with_reducible rfl
                try simp only [Act.put, List.setIfInBounds_toArray, List.set_cons_zero, List.set_cons_succ]
                refine wpAnyH_take (i := 5) (oi := { dst := some 176, op := Op.binOp BinOp.eql 33 (Operand.tmp 175) (Operand.const (Value.int IntKind.i64 0)) 33, type := 4, pos := "law.go:182", after := #[{ on := 4, ground := Ground.data }, { on := 3, ground := Ground.guard }], guard := some (3, false) }) (v := ?_) rfl (by kernel_rfl) (by kernel_rfl) (by kernel_rfl) (fun _ _ _ h => h) (Or.inl ⟨by rfl, ?_⟩) (by assumption) ?_
                rotate_left 1
                · intro w hSw
                  (try dsimp only at hSw)
                  go_simp
                  try with_reducible rfl
                try simp only [Act.put, List.setIfInBounds_toArray, List.set_cons_zero, List.set_cons_succ]
                refine wpAnyH_take (i := 6) (oi := { dst := some 177, op := Op.move (Operand.tmp 176), type := 4, pos := "law.go:182", after := #[{ on := 5, ground := Ground.data }, { on := 3, ground := Ground.chain }, { on := 3, ground := Ground.guard }], guard := some (3, false) }) (v := ?_) rfl (by kernel_rfl) (by kernel_rfl) (by kernel_rfl) (fun _ _ _ h => h) (Or.inl ⟨by rfl, ?_⟩) (by assumption) ?_
                rotate_left 1
                · intro w hSw
                  (try dsimp only at hSw)
                  go_simp
                  try with_reducible rfl
                try simp only [Act.put, List.setIfInBounds_toArray, List.set_cons_zero, List.set_cons_succ]
                refine wpAnyH_take (i := 7) (oi := { dst := some 178, op := Op.load 45 (Operand.tmp 10), type := 45, pos := "law.go:182", after := #[{ on := 6, ground := Ground.guard }], guard := some (6, true) }) (v := undef) rfl (by kernel_rfl) (by kernel_rfl) (by kernel_rfl) (fun _ _ _ h => h) (Or.inr ⟨by rfl, rfl⟩) (by assumption) ?_
                try simp only [Act.put, List.setIfInBounds_toArray, List.set_cons_zero, List.set_cons_succ]
                refine wpAnyH_take (i := 8) (oi := { dst := some 179, op := Op.call { callee := Callee.value (Operand.func 12), args := #[Operand.tmp 5], argTypes := #[29] }, type := 45, pos := "law.go:182", after := #[{ on := 6, ground := Ground.chain }, { on := 6, ground := Ground.guard }], guard := some (6, true) }) (v := undef) rfl (by kernel_rfl) (by kernel_rfl) (by kernel_rfl) (fun _ _ _ h => h) (Or.inr ⟨by rfl, rfl⟩) (by assumption) ?_
                try simp only [Act.put, List.setIfInBounds_toArray, List.set_cons_zero, List.set_cons_succ]
                refine wpAnyH_take (i := 9) (oi := { dst := some 180, op := Op.call { callee := Callee.value (Operand.func 11), args := #[Operand.tmp 178, Operand.tmp 179], argTypes := #[45, 45] }, type := 4, pos := "law.go:182", after := #[{ on := 7, ground := Ground.data }, { on := 8, ground := Ground.data }, { on := 8, ground := Ground.chain }, { on := 6, ground := Ground.guard }], guard := some (6, true) }) (v := undef) rfl (by kernel_rfl) (by kernel_rfl) (by kernel_rfl) (fun _ _ _ h => h) (Or.inr ⟨by rfl, rfl⟩) (by assumption) ?_
                try simp only [Act.put, List.setIfInBounds_toArray, List.set_cons_zero, List.set_cons_succ]
                refine wpAnyH_take (i := 10) (oi := { dst := some 181, op := Op.unOp UnOp.not 4 (Operand.tmp 180), type := 4, pos := "law.go:182", after := #[{ on := 9, ground := Ground.data }, { on := 6, ground := Ground.guard }], guard := some (6, true) }) (v := undef) rfl (by kernel_rfl) (by kernel_rfl) (by kernel_rfl) (fun _ _ _ h => h) (Or.inr ⟨by rfl, rfl⟩) (by assumption) ?_
                try simp only [Act.put, List.setIfInBounds_toArray, List.set_cons_zero, List.set_cons_succ]
                refine wpAnyH_take (i := 11) (oi := { dst := some 182, op := Op.pick (Operand.tmp 177) (Operand.tmp 181) (Operand.const (Value.bool false)), type := 4, pos := "law.go:182", after := #[{ on := 6, ground := Ground.data }, { on := 10, ground := Ground.data }, { on := 3, ground := Ground.guard }], guard := some (3, false) }) (v := ?_) rfl (by kernel_rfl) (by kernel_rfl) (by kernel_rfl) (fun _ _ _ h => h) (Or.inl ⟨by rfl, ?_⟩) (by assumption) ?_
                rotate_left 1
                · intro w hSw
                  (try dsimp only at hSw)
                  go_simp
                  try with_reducible rfl
                try simp only [Act.put, List.setIfInBounds_toArray, List.set_cons_zero, List.set_cons_succ]
                refine wpAnyH_take (i := 12) (oi := { dst := some 183, op := Op.pick (Operand.tmp 174) (Operand.const (Value.bool true)) (Operand.tmp 182), type := 4, pos := "law.go:182", after := #[{ on := 3, ground := Ground.data }, { on := 11, ground := Ground.data }], guard := none }) (v := ?_) rfl (by kernel_rfl) (by kernel_rfl) (by kernel_rfl) (fun _ _ _ h => h) (Or.inl ⟨by rfl, ?_⟩) (by assumption) ?_
                rotate_left 1
                · intro w hSw
                  (try dsimp only at hSw)
                  go_simp
                  try with_reducible rfl
                try simp only [Act.put, List.setIfInBounds_toArray, List.set_cons_zero, List.set_cons_succ]
                refine wpAnyH_take (i := 13) (oi := { dst := some 184, op := Op.move (Operand.tmp 183), type := 4, pos := "law.go:182", after := #[{ on := 12, ground := Ground.data }, { on := 9, ground := Ground.chain }], guard := none }) (v := ?_) rfl (by kernel_rfl) (by kernel_rfl) (by kernel_rfl) (fun _ _ _ h => h) (Or.inl ⟨by rfl, ?_⟩) (by assumption) ?_
                rotate_left 1
                · intro w hSw
                  (try dsimp only at hSw)
                  go_simp
                  try with_reducible rfl
                try simp only [Act.put, List.setIfInBounds_toArray, List.set_cons_zero, List.set_cons_succ]
                refine wpAnyH_take (i := 14) (oi := { dst := some 185, op := Op.move (Operand.tmp 9), type := 33, pos := "law.go:182", after := #[{ on := 13, ground := Ground.guard }], guard := some (13, false) }) (v := ?_) rfl (by kernel_rfl) (by kernel_rfl) (by kernel_rfl) (fun _ _ _ h => h) (Or.inl ⟨by rfl, ?_⟩) (by assumption) ?_
                rotate_left 1
                · intro w hSw
                  (try dsimp only at hSw)
                  go_simp
                  try with_reducible rfl
                try simp only [Act.put, List.setIfInBounds_toArray, List.set_cons_zero, List.set_cons_succ]
                refine wpAnyH_take (i := 15) (oi := { dst := some 186, op := Op.binOp BinOp.neq 33 (Operand.tmp 185) (Operand.const (Value.int IntKind.i64 0)) 33, type := 4, pos := "law.go:182", after := #[{ on := 14, ground := Ground.data }, { on := 13, ground := Ground.guard }], guard := some (13, false) }) (v := ?_) rfl (by kernel_rfl) (by kernel_rfl) (by kernel_rfl) (fun _ _ _ h => h) (Or.inl ⟨by rfl, ?_⟩) (by assumption) ?_
                rotate_left 1
                · intro w hSw
                  (try dsimp only at hSw)
                  go_simp
                  try with_reducible rfl
                try simp only [Act.put, List.setIfInBounds_toArray, List.set_cons_zero, List.set_cons_succ]
                refine wpAnyH_take (i := 16) (oi := { dst := some 187, op := Op.move (Operand.tmp 186), type := 4, pos := "law.go:182", after := #[{ on := 15, ground := Ground.data }, { on := 13, ground := Ground.chain }, { on := 13, ground := Ground.guard }], guard := some (13, false) }) (v := ?_) rfl (by kernel_rfl) (by kernel_rfl) (by kernel_rfl) (fun _ _ _ h => h) (Or.inl ⟨by rfl, ?_⟩) (by assumption) ?_
                rotate_left 1
                · intro w hSw
                  (try dsimp only at hSw)
                  go_simp
                  try with_reducible rfl
                try simp only [Act.put, List.setIfInBounds_toArray, List.set_cons_zero, List.set_cons_succ]
                refine wpAnyH_take (i := 17) (oi := { dst := some 188, op := Op.load 45 (Operand.tmp 10), type := 45, pos := "law.go:182", after := #[{ on := 16, ground := Ground.guard }], guard := some (16, true) }) (v := ?_) rfl (by kernel_rfl) (by kernel_rfl) (by kernel_rfl) (fun _ _ _ h => h) (Or.inl ⟨by rfl, ?_⟩) (by assumption) ?_
                rotate_left 1
                · intro w hSw
                  (try dsimp only at hSw)
                  go_simp
                  try with_reducible rfl
                try simp only [Act.put, List.setIfInBounds_toArray, List.set_cons_zero, List.set_cons_succ]
                refine wpAnyH_take (i := 18) (oi := { dst := some 189, op := Op.build 45 #[], type := 45, pos := "law.go:182", after := #[{ on := 16, ground := Ground.guard }], guard := some (16, true) }) (v := ?_) rfl (by kernel_rfl) (by kernel_rfl) (by kernel_rfl) (fun _ _ _ h => h) (Or.inl ⟨by rfl, ?_⟩) (by assumption) ?_
                rotate_left 1
                · intro w hSw
                  (try dsimp only at hSw)
                  go_simp
                  try with_reducible rfl
                try simp only [Act.put, List.setIfInBounds_toArray, List.set_cons_zero, List.set_cons_succ]
                refine wpAnyH_ready (rs := [19]) (by kernel_rfl) (by simp) ?_
                refine AllReadyH.cons (o := { dst := some 190, op := Op.call { callee := Callee.value (Operand.func 11), args := #[Operand.tmp 188, Operand.tmp 189], argTypes := #[45, 45] }, type := 4, pos := "law.go:182", after := #[{ on := 17, ground := Ground.data }, { on := 18, ground := Ground.data }, { on := 16, ground := Ground.chain }, { on := 16, ground := Ground.guard }], guard := some (16, true) }) rfl (fun K hK => ?_) AllReadyH.nil
                go_simp
                (go_at_call 11; ((with_reducible refine (HSm.out _).mono ?_); rintro e w7 ⟨rfl, hb7⟩); have hC7 := HCl.out w7 (by first | exact Below.trans hbw (Below.mono hb7 hbw.size) | exact hb7); clear hb7)
                go_wp2_with fail
                refine hK.out _ _ ?_ (fun hHeld => ?_)
                · try dsimp only
                  first | assumption | exact HCl.out _ (Below.refl _ _) | exact HCl.out _ (below_draw _ _)
                clear hK K
                try simp only [Act.put, List.setIfInBounds_toArray, List.set_cons_zero, List.set_cons_succ]
                refine wpAnyH_take (i := 20) (oi := { dst := some 191, op := Op.unOp UnOp.not 4 (Operand.tmp 190), type := 4, pos := "law.go:182", after := #[{ on := 19, ground := Ground.data }, { on := 16, ground := Ground.guard }], guard := some (16, true) }) (v := ?_) rfl (by kernel_rfl) (by kernel_rfl) (by kernel_rfl) (fun _ _ _ h => h) (Or.inl ⟨by rfl, ?_⟩) (by assumption) ?_
                rotate_left 1
                · intro w hSw
                  (try dsimp only at hSw)
                  go_simp
                  try with_reducible rfl
                try simp only [Act.put, List.setIfInBounds_toArray, List.set_cons_zero, List.set_cons_succ]
                refine wpAnyH_take (i := 21) (oi := { dst := some 192, op := Op.pick (Operand.tmp 187) (Operand.tmp 191) (Operand.const (Value.bool false)), type := 4, pos := "law.go:182", after := #[{ on := 16, ground := Ground.data }, { on := 20, ground := Ground.data }, { on := 13, ground := Ground.guard }], guard := some (13, false) }) (v := ?_) rfl (by kernel_rfl) (by kernel_rfl) (by kernel_rfl) (fun _ _ _ h => h) (Or.inl ⟨by rfl, ?_⟩) (by assumption) ?_
                rotate_left 1
                · intro w hSw
                  (try dsimp only at hSw)
                  go_simp
                  try with_reducible rfl
                try simp only [Act.put, List.setIfInBounds_toArray, List.set_cons_zero, List.set_cons_succ]
                refine wpAnyH_take (i := 22) (oi := { dst := some 193, op := Op.pick (Operand.tmp 184) (Operand.const (Value.bool true)) (Operand.tmp 192), type := 4, pos := "law.go:182", after := #[{ on := 13, ground := Ground.data }, { on := 21, ground := Ground.data }], guard := none }) (v := ?_) rfl (by kernel_rfl) (by kernel_rfl) (by kernel_rfl) (fun _ _ _ h => h) (Or.inl ⟨by rfl, ?_⟩) (by assumption) ?_
                rotate_left 1
                · intro w hSw
                  (try dsimp only at hSw)
                  go_simp
                  try with_reducible rfl
                try simp only [Act.put, List.setIfInBounds_toArray, List.set_cons_zero, List.set_cons_succ]
                refine wpAnyH_done (by kernel_rfl) ?_ _
                all_goals (
                  have HX7 := Lib.hid hC7.1
                  clear hC5 hC7 hCw hbw hxw
                  go_wp2_with fail
                  go_meet
                  exact ⟨m, L, Nat.le_succ_of_le hgk, HS5.out.later HX7.out, HM5.out.later HX7.out⟩)
            · as_aux_lemma =>
              have hgi : (k : Int) ≤ (c : Int) := by omega
              have hci : (c : Int) ≤ 9223372036854775807 := by omega
              have hkb : (0 : Int) ≤ (k : Int) := by omega
              obtain ⟨B0, hB0⟩ : ∃ x, x = n0 % 128 := ⟨_, rfl⟩
              obtain ⟨D0, hD0⟩ : ∃ x, x = decide (128 ≤ n0) := ⟨_, rfl⟩
              obtain ⟨F0, hF0⟩ : ∃ x, x = n1 % 128 := ⟨_, rfl⟩
              obtain ⟨D1, hD1⟩ : ∃ x, x = decide (128 ≤ n1) := ⟨_, rfl⟩
              obtain ⟨Kd, hKd⟩ : ∃ x, x = n2 % 3 := ⟨_, rfl⟩
              obtain ⟨St, hSt⟩ : ∃ x, x = (if n2 % 3 = 1 then n3 % 6 else 0 : Nat) := ⟨_, rfl⟩
              obtain ⟨N, hN⟩ : ∃ x, x = (uLoad (n2 : Int) sz xl).length := ⟨_, rfl⟩
              have hcon := fun W (hb : Below wr.heap.size wr W) => uof_any (n0 : Int) (n1 : Int) (n2 : Int) (n3 : Int) sz xs xn xc xl W (by omega) (by omega) (by omega) (by omega) (by omega) (by omega) (by omega) (by omega) b5 (HRw.out.later hb) N hN.symm
              have q0 : (n0 : Int) % 128 = (B0 : Int) := by omega
              have q1 : (n1 : Int) % 128 = (F0 : Int) := by omega
              have q2 : (n2 : Int) % 3 = (Kd : Int) := by omega
              have q3 : decide (128 ≤ (n0 : Int)) = D0 := by rw [hD0]; exact decide_eq_decide.2 (by omega)
              have q4 : decide (128 ≤ (n1 : Int)) = D1 := by rw [hD1]; exact decide_eq_decide.2 (by omega)
              simp only [q0, q1, q2, q3, q4, uStat_nat, ← hSt] at hcon
              have hoc : ∀ z ∈ uLoad (n2 : Int) sz xl, 0 ≤ z ∧ z ≤ 255 := uLoad_octs (fun z hz => wf_u8.1 (HRw.out.wf z hz))
              obtain ⟨ld, hld⟩ : ∃ x, x = hLoad n2 sz xl := ⟨_, rfl⟩
              obtain ⟨LN, hLN⟩ : ∃ x, x = ld.length := ⟨_, rfl⟩
              have hpl : p < wr.heap.size := HM.out.own.lt
              have hBl : B < wr.heap.size := HS.out.e.own.lt
              have HC := Lib.hid (hcon wr (Below.refl _ _))
              have HOc := Lib.hid hoc
              have HLd := Lib.hid (And.intro hld (And.intro hLN hN))
              have HUs := Lib.hid (And.intro hB0 (And.intro hF0 (And.intro hKd (And.intro hSt (And.intro hpl hBl)))))
              clear hcon hoc hld hLN hN q0 q1 q2 q3 q4 hpl hBl hB0 hD0 hF0 hD1 hKd hSt
              go_wp2_with fail
              with_reducible refine HC.out.mono ?_
              rintro e w5 ⟨⟨s5, rfl, hl5⟩, hb5⟩
              have hlen : (uLoad (n2 : Int) sz xl).length ≤ 1000 := by unfold uLoad; split <;> simp [msgL_length]; omega
              have hr5 := hl5.row hlen HOc.out
              have hz5 : ∀ z, s5 = some z → wr.heap.size ≤ z.block ∧ z.block ≠ w5.heap.size := fun z hz => by
                rcases hl5 with ⟨h0, _⟩ | ⟨gg, h0, hg1, ho⟩
                · rw [h0] at hz; cases hz
                · rw [h0] at hz; cases hz; exact ⟨hg1, Nat.ne_of_lt ho.lt⟩
              rw [← HLd.out.2.2] at hr5
              have hs5 : Kd = 2 → ∃ g, s5 = some ⟨g, 0, none⟩ := fun hK => by
                have hkn : n2 % 3 = 2 := by rw [← HUs.out.2.2.1]; exact hK
                rcases hl5 with ⟨_, h0⟩ | ⟨g, h0, _⟩
                · have hul : uLoad (n2 : Int) sz xl = msgL sz xl := by unfold uLoad; rw [if_pos (by omega)]
                  rw [hul] at h0
                  have h1 := msgL_length sz xl
                  rw [h0] at h1
                  exact absurd h1 (by simp only [List.length_nil]; omega)
                · exact ⟨g, h0⟩
              have HR5 := Lib.hid hr5
              have HS5 := Lib.hid (And.intro hz5 (And.intro hb5 hs5))
              clear hl5 hb5 hr5 hz5 hs5 hlen HC
              go_upto_if 68 with fail
              go_cut [] from 46 to 250 (fun wx => ∃ N9 s9, Own wx w5.heap.size 45 [.int .u8 (B0 : Int), .bool D0, .int .u8 (F0 : Int), .bool D1, .int .u8 (Kd : Int), .int .u8 (St : Int), .slice s9 LN N9] ∧ Row .u8 wx s9 LN N9 ld ∧ (∀ z, s9 = some z → wr.heap.size ≤ z.block ∧ z.block ≠ w5.heap.size) ∧ wr.heap.size ≤ w5.heap.size ∧ Below wr.heap.size wr wx)
              case first => as_aux_lemma =>
                have hfin : ∀ (s9 : Option Addr) (N9 : Nat), Row .u8 w5 s9 LN N9 ld → (∀ z, s9 = some z → wr.heap.size ≤ z.block ∧ z.block ≠ w5.heap.size) → ∃ N9' s9', Own (w5.alloc (.cells #[.int .u8 (B0 : Int), .bool D0, .int .u8 (F0 : Int), .bool D1, .int .u8 (Kd : Int), .int .u8 (St : Int), .slice s9 LN N9] 45)) w5.heap.size 45 [.int .u8 (B0 : Int), .bool D0, .int .u8 (F0 : Int), .bool D1, .int .u8 (Kd : Int), .int .u8 (St : Int), .slice s9' LN N9'] ∧ Row .u8 (w5.alloc (.cells #[.int .u8 (B0 : Int), .bool D0, .int .u8 (F0 : Int), .bool D1, .int .u8 (Kd : Int), .int .u8 (St : Int), .slice s9 LN N9] 45)) s9' LN N9' ld ∧ (∀ z, s9' = some z → wr.heap.size ≤ z.block ∧ z.block ≠ w5.heap.size) ∧ wr.heap.size ≤ w5.heap.size ∧ Below wr.heap.size wr (w5.alloc (.cells #[.int .u8 (B0 : Int), .bool D0, .int .u8 (F0 : Int), .bool D1, .int .u8 (Kd : Int), .int .u8 (St : Int), .slice s9 LN N9] 45)) := by
                  intro s9 N9 hr hz
                  exact ⟨N9, s9, own_lit w5 _ _ _ rfl, hr.later (below_alloc _ _), hz, HS5.out.2.1.size, HS5.out.2.1.alloc HS5.out.2.1.size _⟩
                have HFin := Lib.hid hfin
                clear hfin
                by_cases hK : Kd = 2
                · have hKb : ((Kd : Int) == 2) = true := by simp [hK]
                  have hkn : n2 % 3 = 2 := by rw [← HUs.out.2.2.1]; exact hK
                  have hul : uLoad (n2 : Int) sz xl = msgL sz xl := by unfold uLoad; rw [if_pos (by omega)]
                  have hN2 : 2 ≤ N := by rw [HLd.out.2.2, hul, msgL_length]; omega
                  obtain ⟨g5, rfl⟩ := HS5.out.2.2 hK
                  have hr5 := HR5.out
                  rw [hul] at hr5
                  have hN2i : (2 : Int) ≤ (N : Int) := by omega
                  have hfr := hr5.front 2 hN2
                  have hlq : ld = (msgL sz xl).take 2 := by rw [HLd.out.1]; unfold hLoad; rw [if_pos hkn]
                  obtain rfl : LN = 2 := by rw [HLd.out.2.1, hlq, List.length_take, msgL_length]; omega
                  rw [← hlq] at hfr
                  have HF := Lib.hid hfr
                  clear hr5 hul hfr hlq hK hkn
                  go_wp2_with fail
                  go_meet
                  exact HFin.out _ _ HF.out HS5.out.1
                · have hKb : ((Kd : Int) == 2) = false := by simp; omega
                  have hkn : n2 % 3 ≠ 2 := by rw [← HUs.out.2.2.1]; exact hK
                  have hul : uLoad (n2 : Int) sz xl = [] := by unfold uLoad; rw [if_neg (by omega)]
                  have hr5 := HR5.out
                  rw [hul] at hr5
                  have hlq : ld = [] := by rw [HLd.out.1]; unfold hLoad; rw [if_neg hkn]
                  obtain rfl : LN = 0 := by rw [HLd.out.2.1, hlq]; rfl
                  obtain rfl : N = 0 := by rw [HLd.out.2.2, hul]; rfl
                  rw [← hlq] at hr5
                  have HF := Lib.hid hr5
                  clear hr5 hul hlq hK hkn
                  go_wp2_with fail
                  go_meet
                  exact HFin.out _ _ HF.out HS5.out.1
              case rest => as_aux_lemma =>
                obtain ⟨N9, s9, ou9, hr9, hz9, hg9, hb9⟩ := hcut
                clear HS5 HR5
                obtain ⟨g9, hge⟩ : ∃ g, g = w5.heap.size := ⟨_, rfl⟩
                rw [← hge] at ou9 hz9 hg9 ⊢
                clear hge
                have hm9 := HM.out.later hb9
                obtain ⟨⟨_, _, e2, e3, e4, _, _, e7, _, _, e10⟩, _⟩ := hm9.cells
                obtain ⟨v0, v1, v2, v3, v4, v5, v6⟩ : wc.cell? ⟨g9, 0, none⟩ = some (.int .u8 (B0 : Int)) ∧ wc.cell? ⟨g9, 1, none⟩ = some (.bool D0) ∧ wc.cell? ⟨g9, 2, none⟩ = some (.int .u8 (F0 : Int)) ∧ wc.cell? ⟨g9, 3, none⟩ = some (.bool D1) ∧ wc.cell? ⟨g9, 4, none⟩ = some (.int .u8 (Kd : Int)) ∧ wc.cell? ⟨g9, 5, none⟩ = some (.int .u8 (St : Int)) ∧ wc.cell? ⟨g9, 6, none⟩ = some (.slice s9 LN N9) :=
                  ⟨ou9.cell 0 (by simp), ou9.cell 1 (by simp), ou9.cell 2 (by simp), ou9.cell 3 (by simp), ou9.cell 4 (by simp), ou9.cell 5 (by simp), ou9.cell 6 (by simp)⟩
                have z0 := ou9.frozen 0
                have z2 := ou9.frozen 2
                have hgp : ¬ g9 = p := by have := HUs.out.2.2.2.2.1; omega
                have hgp' : ¬ p = g9 := fun h => hgp h.symm
                obtain ⟨NM, hNM⟩ : ∃ x, x = num m.acked := ⟨_, rfl⟩
                have hnl := num_lt m.acked
                have hacc := HM.out.ok.acc
                rw [← hNM] at hnl
                have hnc : ∀ W, Calls Try.prog 14 #[.int .i64 (m.acked : Int)] W fun e w' => e = .returned (.int .u8 (NM : Int)) ∧ w' = W := fun W => (knum_any m.acked W (by omega)).mono fun e w' ⟨he, hw⟩ => ⟨by rw [he, hNM], hw.symm⟩
                obtain ⟨S1, hS1⟩ : ∃ x, x = m.sent := ⟨_, rfl⟩
                obtain ⟨A1, hA1⟩ : ∃ x, x = m.acked := ⟨_, rfl⟩
                obtain ⟨AC, hAC⟩ : ∃ x, x = m.accepted := ⟨_, rfl⟩
                rw [← hS1] at e3
                rw [← hA1] at e4 hnc
                rw [← hAC] at e7 hacc
                obtain ⟨h01, h02, h03, h04, _, _⟩ := HUs.out
                have b0' : B0 < 128 := by omega
                have b1' : F0 < 128 := by omega
                have b2' : Kd < 3 := by omega
                have b3' : St < 6 := by rw [h04]; split <;> omega
                obtain ⟨O, hO⟩ : ∃ x, x = S1 - A1 := ⟨_, rfl⟩
                have hOi : (S1 : Int) - (A1 : Int) = (O : Int) := by omega
                have hO2 : O ≤ 127 := by omega
                have bs1 : (S1 : Int) ≤ 100000 := by omega
                have ba1 : (A1 : Int) ≤ 100000 := by omega
                obtain ⟨T, hT⟩ : ∃ x, x = B0 % (O + 2) := ⟨_, rfl⟩
                have hT2 : T ≤ 127 := by rw [hT]; have := Nat.mod_le B0 (O + 2); omega
                obtain ⟨Q, hQ⟩ : ∃ x, x = (NM + T) % 128 := ⟨_, rfl⟩
                have i2 : IntKind.i64.wrap (NM : Int) = (NM : Int) := IntWalk.i64_in _ (by omega)
                have i3 : IntKind.i64.wrap (B0 : Int) = (B0 : Int) := IntWalk.i64_in _ (by omega)
                have i30 : IntKind.i64.wrap ((S1 : Int) - (A1 : Int)) = (O : Int) := by rw [hOi]; exact IntWalk.i64_in _ (by omega)
                have i31 : IntKind.i64.wrap (O : Int) = (O : Int) := IntWalk.i64_in _ (by omega)
                obtain ⟨PP, hPP⟩ : ∃ x, x = O + 2 := ⟨_, rfl⟩
                have i4 : IntKind.i64.wrap ((O : Int) + 2) = (PP : Int) := by rw [IntWalk.i64_in _ (by omega)]; omega
                have i5 : (B0 : Int).tmod (PP : Int) = (T : Int) := by rw [Int.tmod_eq_emod_of_nonneg (by omega), hT, ← hPP]; push_cast; rfl
                have i5a : ¬ ((PP : Int) = 0) := by omega
                have i5b : ((PP : Int) == 0) = false := by simp; omega
                have i5c : ¬ (PP = 0) := by omega
                have i5d : (PP == 0) = false := by simp; omega
                have i6 : IntKind.i64.wrap ((NM : Int) + (T : Int)) = (NM : Int) + (T : Int) := IntWalk.i64_in _ (by omega)
                have i7 : ((NM : Int) + (T : Int)).tmod 128 = (Q : Int) := by rw [Int.tmod_eq_emod_of_nonneg (by omega), hQ]; omega
                have i8 : IntKind.u8.wrap (Q : Int) = (Q : Int) := IntWalk.u8_in _ (by omega)
                have hQ128 : Q < 128 := by rw [hQ]; omega
                have HQn := Lib.hid (show Q = (num m.acked + B0 % (m.sent - m.acked + 2)) % 128 by rw [hQ, hT, hO, hS1, hA1, hNM])
                obtain ⟨FR, hFR⟩ : ∃ x, x = (AC + F0 % 3) % 128 := ⟨_, rfl⟩
                have hFi : ((AC : Int) + (F0 : Int) % 3) % 128 = (FR : Int) := by omega
                have hFR128 : FR < 128 := by rw [hFR]; omega
                have hb4 : ∀ W4, W4 = ((wc.setCell ⟨g9, 0, none⟩ (.int .u8 (Q : Int))).setCell ⟨g9, 2, none⟩ (.int .u8 (FR : Int))).drew → Own W4 g9 45 [.int .u8 (Q : Int), .bool D0, .int .u8 (FR : Int), .bool D1, .int .u8 (Kd : Int), .int .u8 (St : Int), .slice s9 LN N9] ∧ Row .u8 W4 s9 LN N9 ld ∧ Below wr.heap.size wr W4 := by
                  rintro W4 rfl
                  have hx : Exc (fun j => j = g9) wc ((wc.setCell ⟨g9, 0, none⟩ (.int .u8 (Q : Int))).setCell ⟨g9, 2, none⟩ (.int .u8 (FR : Int))).drew := (((Exc.refl (fun j => j = g9) wc).setCell ⟨g9, 0, none⟩ (.inl rfl) _).setCell ⟨g9, 2, none⟩ (.inl rfl) _).drawN 1
                  refine ⟨((ou9.set 0 _).set 2 _).drewK, hr9.exc hx (fun z hz => (hz9 z hz).2), hb9.trans (hx.below hb9.size (fun i _ hi => by rw [hi]; exact hg9))⟩
                have HB4 := Lib.hid hb4
                have HNc := Lib.hid hnc
                have HZ9 := Lib.hid (And.intro hz9 hg9)
                have HGp := Lib.hid hgp
                have HK0 := Lib.hid (And.intro hQ128 (And.intro hFR128 (And.intro b2' (And.intro b3' (And.intro h03 h04)))))
                have HFn := Lib.hid (show FR = (m.accepted + F0 % 3) % 128 by rw [hFR, hAC])
                clear hb4 hnc hz9 hg9 hgp hgp' hm9 ou9 hr9 hb9 hNM hS1 hA1 hAC hO hT hQ hPP hFR hQ128 hFR128 h01 h02 h03 h04 hO2 hT2 e2 e10 d0 d1 d2 d3 d4 d5 d6 har hrs hsg hwin hque b2' b3'
                go_wp2_with fail
                go_still_tail 18, (by kernel_rfl)
                still_call (HNc.out _)
                repeat still_step
                refine wpStill_nil ?_
                change wpList _ _ _ _ _ wc.drew
                go_upto_region 20 with fail
                obtain ⟨ou4, hr4, hb4⟩ := HB4.out _ rfl
                generalize ((wc.setCell ⟨g9, 0, none⟩ (.int .u8 (Q : Int))).setCell ⟨g9, 2, none⟩ (.int .u8 (FR : Int))).drew = W4 at ou4 hr4 hb4 ⊢
                obtain ⟨u, hu⟩ : ∃ u : Un, u = ⟨Q, D0, FR, D1, Kd, St, ld⟩ := ⟨_, rfl⟩
                have hLu : LN = u.load.length := by rw [hu]; exact HLd.out.2.1
                have hlu : ld = u.load := by rw [hu]
                have hou : Own W4 g9 45 (unCells u s9 u.load.length N9) := by rw [← hLu, hu]; exact ou4
                rw [hLu, hlu] at hr4
                have hchk : u.back < 128 ∧ u.fore < 128 ∧ u.kind ≤ 2 ∧ chk (u.back : Int) (u.fore : Int) (u.kind : Int) (u.state : Int) u.load.length = 0 := by
                  obtain ⟨a1, a2, a3, a4, a5, a6⟩ := HK0.out
                  have a7 : u.load.length = if n2 % 3 = 2 then 2 else 0 := by rw [← hlu, HLd.out.1, hLoad_length]
                  rw [a7, hu]
                  refine ⟨a1, a2, by show Kd ≤ 2; omega, ?_⟩
                  rw [chk_ok]
                  dsimp only
                  refine ⟨by omega, by omega, by omega, by omega, ?_, ?_, ?_⟩
                  · rw [a6]; split <;> omega
                  · intro hk; rw [if_pos (by omega)]; omega
                  · intro hk; rw [if_neg (by omega)]
                have HS9 := Lib.hid (HS.out.later hb4)
                have HM9 := Lib.hid (HM.out.later hb4)
                have HR9 := Lib.hid hr4
                have HK := Lib.hid hchk
                have HPl : Hid (p < wr.heap.size) := Lib.hid HUs.out.2.2.2.2.1
                have HBl : Hid (B < wr.heap.size) := Lib.hid HUs.out.2.2.2.2.2
                clear v0 v1 v2 v3 v4 v5 v6 z0 z2 e3 e4 e7 i2 i3 i30 i31 i4 i5 i5a i5b i5c i5d i6 i7 i8 hFi hOi bs1 ba1 HB4 HNc ou4 hr4 hb4 hchk hLu hlu hu hnl hacc b0' b1'
                obtain ⟨v0, v1, v2, v3, v4, v5, v6⟩ : W4.cell? ⟨g9, 0, none⟩ = some (.int .u8 (u.back : Int)) ∧ W4.cell? ⟨g9, 1, none⟩ = some (.bool u.bb) ∧ W4.cell? ⟨g9, 2, none⟩ = some (.int .u8 (u.fore : Int)) ∧ W4.cell? ⟨g9, 3, none⟩ = some (.bool u.fb) ∧ W4.cell? ⟨g9, 4, none⟩ = some (.int .u8 (u.kind : Int)) ∧ W4.cell? ⟨g9, 5, none⟩ = some (.int .u8 (u.state : Int)) ∧ W4.cell? ⟨g9, 6, none⟩ = some (.slice s9 u.load.length N9) :=
                  ⟨hou.cell 0 (by simp [unCells]), hou.cell 1 (by simp [unCells]), hou.cell 2 (by simp [unCells]), hou.cell 3 (by simp [unCells]), hou.cell 4 (by simp [unCells]), hou.cell 5 (by simp [unCells]), hou.cell 6 (by simp [unCells])⟩
                clear hou
                obtain ⟨⟨_, _, _, _, _, _, _, _, _, _, e10⟩, _⟩ := HM9.out.cells
                cases hfl : m.failed
                · rw [hfl] at e10
                  obtain rfl : WF = 0 := by rw [HWF.out, hfl]; rfl
                  by_cases hk1 : u.kind = 1
                  · have HK1 := Lib.hid hk1
                    clear hk1
                    go_wp2_with fail
                    refine (mhear_state p u s9 u.load.length N9 W4 HK1.out).mono ?_
                    rintro e w5 ⟨rfl, hb5⟩
                    have HS5 := Lib.hid (HS9.out.later hb5)
                    have HM5 := Lib.hid (HM9.out.later hb5)
                    have cc : ∀ {a : Addr} {v : Value}, W4.cell? a = some v → w5.cell? a = some v := fun {a v} hc => by rw [hb5.cell (World.block_lt_of_cell? W4 _ hc)]; exact hc
                    replace v0 := cc v0; replace v1 := cc v1; replace v2 := cc v2; replace v3 := cc v3; replace v4 := cc v4; replace v5 := cc v5; replace v6 := cc v6; replace e10 := cc e10
                    clear cc hb5 HS9 HM9
                    go_wp2_with fail
                    refine (hear_not B m.en L w5 u s9 u.load.length N9 HS5.out.e hfl (Nat.lt_trans HK.out.1 (by decide)) (Nat.lt_trans HK.out.2.1 (by decide)) (by have := HK.out.2.2.1; omega) (by have := chk_ok.1 HK.out.2.2.2; omega) (by have h1 := HR9.out.le; have h2 := HR9.out.max; unfold maxLen at h2; omega) (.inr HK1.out)).mono ?_
                    rw [HK.out.2.2.2]
                    rintro e w6 ⟨rfl, hb6⟩
                    have HS6 := Lib.hid (HS5.out.later hb6)
                    have HM6 := Lib.hid (HM5.out.later hb6)
                    clear hb6 HS5 HM5
                    go_wp2_with fail
                    go_meet
                    exact ⟨m, L, Nat.le_succ_of_le hgk, HS6.out, HM6.out⟩
                  · have HK1 := Lib.hid hk1
                    clear hk1
                    have hh := mhear_any p m u s9 u.load.length N9 W4 HM9.out hfl HK1.out HK.out.1 HK.out.2.1
                    obtain ⟨tk, hr1⟩ : ∃ x, x = (m.hear u).1 := ⟨_, rfl⟩
                    obtain ⟨m2, hr2⟩ : ∃ x, x = (m.hear u).2 := ⟨_, rfl⟩
                    rw [← hr1, ← hr2] at hh
                    have HH := Lib.hid hh
                    have HR1 := Lib.hid hr1
                    have HR2 := Lib.hid hr2
                    clear hh hr1 hr2
                    simp only [unCells] at HH
                    go_wp2_with fail
                    refine HH.out.mono ?_
                    rintro e w5 ⟨rfl, hm5, hx5⟩
                    have HS5 := Lib.hid (HS9.out.exc hx5 (fun j hj => by rw [hj]; exact ⟨HS9.out.np, HPW.out⟩))
                    have HM5 := Lib.hid hm5
                    have HR5 := Lib.hid (HR9.out.exc hx5 (fun z hz hzp => by have h1 := (HZ9.out.1 z hz).1; have h2 := HPl.out; rw [hzp] at h1; omega))
                    replace v0 := hx5.cell v0 HGp.out
                    replace v1 := hx5.cell v1 HGp.out
                    replace v2 := hx5.cell v2 HGp.out
                    replace v3 := hx5.cell v3 HGp.out
                    replace v4 := hx5.cell v4 HGp.out
                    replace v5 := hx5.cell v5 HGp.out
                    replace v6 := hx5.cell v6 HGp.out
                    clear hm5 hx5 HS9 HM9 HR9 HH e10
                    have e10 := (HM5.out.cells).1.2.2.2.2.2.2.2.2.2.2
                    have hq := s_hear HS5.out hfl HK1.out HK.out.2.2.2 HR5.out (fun z hz hzb => by have h1 := (HZ9.out.1 z hz).1; have h2 := HBl.out; rw [hzb] at h1; omega)
                    rw [← HR1.out, ← HR2.out] at hq
                    simp only [unCells] at hq
                    have hgv : m2.given = m.given := by rw [HR2.out]; exact Md.hear_given m u
                    have HGv := Lib.hid hgv
                    clear hgv
                    have hvl := hq
                    cases hf2 : m2.failed
                    all_goals (
                      rw [hf2] at e10 hq
                      cases tk)
                    all_goals (
                      simp only [if_true, if_false, Bool.false_eq_true] at hq
                      have HQ := Lib.hid hq
                      clear hq hvl
                      go_wp2_with fail
                      refine HQ.out.mono ?_
                      rintro e w6 ⟨⟨ra, rd, rfl, hmt⟩, L6, hs6, hx6⟩)
                    all_goals (
                      have HS6 := Lib.hid (show SAt w w6 B p m2 L6 by rw [HR2.out]; first | exact hs6 | (rw [← HR2.out]; exact hs6))
                      have HM6 := Lib.hid (HM5.out.exc hx6 (fun h => HS5.out.np (.inl h)))
                      have HR6 := Lib.hid (HR5.out.exc hx6 (fun z hz hzb => by have h1 := (HZ9.out.1 z hz).1; have h2 := HBl.out; rw [hzb] at h1; omega))
                      replace v6 := hx6.cell v6 (by have h1 := HZ9.out.2; have h2 := HBl.out; show ¬ g9 = B; omega)
                      clear hs6 hx6 HQ HS5 HM5 HR5 v0 v1 v2 v3 v4 v5 e10)
                    · clear hmt
                      go_wp2_with fail
                      go_meet
                      exact ⟨m2, L6, by rw [HGv.out]; omega, HS6.out, HM6.out⟩
                    · obtain ⟨hd, hmm⟩ := hmt (by trivial)
                      subst hd
                      have HMm := Lib.hid hmm
                      clear hmm hmt
                      go_wp2_with fail
                      refine (lists_same _ _ _ _ _ _ _ _ _ (HMm.out.later (below_alloc _ _)) (mat_row HR6.out)).mono ?_
                      rintro e w7 ⟨rfl, q7, hq7⟩
                      have hb7 : Below w6.heap.size w6 w7 := by rw [hq7]; exact (below_alloc _ _).trans (Below.mono (below_draw _ _) (below_alloc _ _).size)
                      have HS7 := Lib.hid (HS6.out.later hb7)
                      have HM7 := Lib.hid (HM6.out.later hb7)
                      clear hb7 hq7 HS6 HM6 HR6 HMm
                      go_wp2_with fail
                      go_meet
                      exact ⟨m2, L6, by rw [HGv.out]; omega, HS7.out, HM7.out⟩
                    · clear hmt
                      go_wp2_with fail
                      go_meet
                      exact ⟨m2, L6, by rw [HGv.out]; omega, HS6.out, HM6.out⟩
                    · obtain ⟨hd, hmm⟩ := hmt (by trivial)
                      subst hd
                      have HMm := Lib.hid hmm
                      clear hmm hmt
                      go_wp2_with fail
                      refine (lists_same _ _ _ _ _ _ _ _ _ (HMm.out.later (below_alloc _ _)) (mat_row HR6.out)).mono ?_
                      rintro e w7 ⟨rfl, q7, hq7⟩
                      have hb7 : Below w6.heap.size w6 w7 := by rw [hq7]; exact (below_alloc _ _).trans (Below.mono (below_draw _ _) (below_alloc _ _).size)
                      have HS7 := Lib.hid (HS6.out.later hb7)
                      have HM7 := Lib.hid (HM6.out.later hb7)
                      clear hb7 hq7 HS6 HM6 HR6 HMm
                      go_wp2_with fail
                      go_meet
                      exact ⟨m2, L6, by rw [HGv.out]; omega, HS7.out, HM7.out⟩
                · rw [hfl] at e10
                  obtain rfl : WF = 6 := by rw [HWF.out, hfl]; rfl
                  go_wp2_with fail
                  refine (hear_failed B m.en L W4 u s9 u.load.length N9 HS9.out.e hfl).mono ?_
                  rintro e w6 ⟨rfl, hb6⟩
                  have HS6 := Lib.hid (HS9.out.later hb6)
                  have HM6 := Lib.hid (HM9.out.later hb6)
                  clear hb6 HS9 HM9
                  go_wp2_with fail
                  go_meet
                  exact ⟨m, L, Nat.le_succ_of_le hgk, HS6.out, HM6.out⟩
          case rest =>
            as_aux_lemma =>
              obtain ⟨M9, L9, hg9, hs9, hm9⟩ := hcut
              clear HRw HS HM HFz HWF e2 e3 e4 e7 e10 d0 d1 d2 d3 d4 d5 d6 har hrs hsg hsma hwin hque hgk
              obtain ⟨W9, rfl⟩ : ∃ W9, W9 = wc := ⟨_, rfl⟩
              have HS9 := Lib.hid hs9
              have HM9 := Lib.hid hm9
              have HG9 := Lib.hid hg9
              obtain ⟨FF, hFF⟩ : ∃ FF, FF = M9.failed := ⟨_, rfl⟩
              have HF9 := Lib.hid hFF.symm
              clear hs9 hm9 hg9 hFF
              go_wp2_with fail
              refine (s_waiting HS9.out).mono ?_
              rintro e V1 ⟨rfl, q1, hq1⟩
              have hbq1 : Below W9.heap.size W9 V1 := by rw [hq1]; exact below_draw _ _
              have HT1 := Lib.hid (HS9.out.later hbq1)
              have HN1 := Lib.hid (HM9.out.later hbq1)
              obtain ⟨⟨_, _, e0, e1, e2, _, _, e5, _, _, e9⟩, _⟩ := HN1.out.cells
              have har := Nat.le_trans HM9.out.ok.ap HM9.out.ok.ps; have hsg := HM9.out.ok.sg; have hsma := HM9.out.small
              have hfx := HF9.out
              obtain ⟨A0, hA0⟩ : ∃ x, x = M9.given := ⟨_, rfl⟩
              obtain ⟨A1, hA1⟩ : ∃ x, x = M9.sent := ⟨_, rfl⟩
              obtain ⟨A2, hA2⟩ : ∃ x, x = M9.acked := ⟨_, rfl⟩
              obtain ⟨A5, hA5⟩ : ∃ x, x = M9.accepted := ⟨_, rfl⟩
              obtain ⟨P, hP⟩ : ∃ P, P = num M9.acked := ⟨_, rfl⟩
              have hnum := fun W => knum_any M9.acked W (by omega)
              have hret := fun W (hb : Below V1.heap.size V1 W) => s_retrieve (HT1.out.later hb)
              have hlst := fun W => klist_mat M9.acked M9.given W (by omega) (by omega)
              rw [← hP] at hnum hret
              rw [← hA2] at hnum e2 hret hlst har
              rw [← hA1] at e1 hsg har
              rw [← hA0] at e0 hret hsg hsma hlst
              rw [← hA5] at e5
              rw [← hA0, ← hA1, ← hA2]
              obtain ⟨D0, hD0⟩ : ∃ x, x = A0 - A1 := ⟨_, rfl⟩
              obtain ⟨D1, hD1⟩ : ∃ x, x = A1 - A2 := ⟨_, rfl⟩
              obtain ⟨D2, hD2⟩ : ∃ x, x = A0 - A2 := ⟨_, rfl⟩
              rw [← hD2] at hret hlst
              rw [← hD0, ← hD1]
              have f0 : ((D0 : Int) != (A0 : Int) - (A1 : Int)) = false := by simp; omega
              have f1 : ((D1 : Int) != (A1 : Int) - (A2 : Int)) = false := by simp; omega
              have g0 : (A0 : Int) ≤ 100000 := by omega
              have g1 : (A1 : Int) ≤ (A0 : Int) := by omega
              have g2 : (A2 : Int) ≤ (A1 : Int) := by omega
              have HNm := Lib.hid hnum
              have HRt := Lib.hid hret
              have HLs := Lib.hid hlst
              have HAx := Lib.hid (And.intro hA0 (And.intro hA1 (And.intro hA2 (And.intro hA5 hfx))))
              clear hnum hret hlst hq1 hbq1 HS9 HM9 hA0 hA1 hA2 hA5 hD0 hD1 hD2 hP har hsg hsma hfx
              go_wp2_with fail
              with_reducible refine (HNm.out _).mono ?_
              rintro e V2 ⟨rfl, rfl⟩
              go_wp2_with fail
              with_reducible refine (HRt.out _ (Below.refl _ _)).mono ?_
              rintro e V3 ⟨⟨ra, rfl, hmr⟩, hb3⟩
              have HT3 := Lib.hid (HT1.out.later hb3)
              have HN3 := Lib.hid (HN1.out.later hb3)
              have HMr := Lib.hid hmr
              clear e0 e1 e2 e5 e9 hmr hb3 HRt
              go_wp2_with fail
              have hS : ∀ W, Below V3.heap.size V3 W → Below V3.heap.size V3 W ∧ W.cell? ⟨p, 2, none⟩ = some (.int .i64 (A0 : Int)) ∧ W.cell? ⟨p, 3, none⟩ = some (.int .i64 (A1 : Int)) ∧ W.cell? ⟨p, 4, none⟩ = some (.int .i64 (A2 : Int)) ∧ W.cell? ⟨p, 7, none⟩ = some (.int .u8 (A5 : Int)) ∧ W.cell? ⟨p, 10, none⟩ = some (.bool FF) := fun W hb => by
                obtain ⟨⟨_, _, e0, e1, e2, _, _, e5, _, _, e9⟩, _⟩ := (HN3.out.later hb).cells
                obtain ⟨k0, k1, k2, k5, k9⟩ := HAx.out
                rw [k0, k1, k2, k5, ← k9]
                exact ⟨hb, e0, e1, e2, e5, e9⟩
              have hFa : ∀ W, Below V3.heap.size V3 W → Calls Try.prog 20 #[.pointer (some ⟨B, 0, none⟩)] W fun e w' => e = .returned (.bool FF) ∧ ∃ q, w' = W.drewN q := fun W hb => by
                have := s_failed (HT3.out.later hb)
                rw [HAx.out.2.2.2.2] at this
                exact this
              have hLa : ∀ W, Below V3.heap.size V3 W → Calls Try.prog 21 #[.pointer (some ⟨B, 0, none⟩)] W fun e w' => e = .returned (.int .u8 (A5 : Int)) ∧ ∃ q, w' = W.drewN q := fun W hb => by
                have := s_last (HT3.out.later hb)
                rw [← HAx.out.2.2.2.1] at this
                exact this
              have hS0 := hS V3 (Below.refl _ _)
              have HSS := Lib.hid hS
              have HFa := Lib.hid hFa
              have HLa := Lib.hid hLa
              clear hS hFa hLa
              have wr0 : IntKind.i64.wrap ((A0 : Int) - (A1 : Int)) = (A0 : Int) - (A1 : Int) := by rw [IntKind.wrap_i64]; omega
              have wr1 : IntKind.i64.wrap ((A1 : Int) - (A2 : Int)) = (A1 : Int) - (A2 : Int) := by rw [IntKind.wrap_i64]; omega
              have f2 : (FF != FF) = false := by simp
              have f3 : ((A5 : Int) != (A5 : Int)) = false := by simp
              go_region_held3 (fun W => Below V3.heap.size V3 W ∧ W.cell? ⟨p, 2, none⟩ = some (.int .i64 (A0 : Int)) ∧ W.cell? ⟨p, 3, none⟩ = some (.int .i64 (A1 : Int)) ∧ W.cell? ⟨p, 4, none⟩ = some (.int .i64 (A2 : Int)) ∧ W.cell? ⟨p, 7, none⟩ = some (.int .u8 (A5 : Int)) ∧ W.cell? ⟨p, 10, none⟩ = some (.bool FF)) (first | assumption | exact HSS.out _ (below_draw _ _) | exact HSS.out _ (Below.refl _ _))
                (first
                  | (go_at_call 20; ((with_reducible refine (HFa.out _ (And.left (by assumption))).mono ?_); rintro e V4 ⟨rfl, q4, rfl⟩); have hS4 := HSS.out _ (Below.trans (And.left (by assumption)) (Below.mono (below_draw _ q4) (Below.size (And.left (by assumption))))))
                  | (go_at_call 21; ((with_reducible refine (HLa.out _ (And.left (by assumption))).mono ?_); rintro e V5 ⟨rfl, q5, rfl⟩); have hS5 := HSS.out _ (hS4.1.trans (Below.mono (below_draw _ q5) hS4.1.size)))
                  | (go_at_call 22; ((with_reducible refine (HLs.out _).mono ?_); rintro e V6 ⟨lx, lc, rfl, hm6, hb6⟩); have hS6 := HSS.out _ (Below.trans (below_draw V3 _) (Below.mono hb6 (Below.size (below_draw V3 _)))); have HM6 := Lib.hid hm6; clear hm6 hb6)
                  | (go_at_call 17; ((with_reducible refine (lists_same _ _ _ _ _ _ _ _ _ (HMr.out.later hS6.1) HM6.out).mono ?_); rintro e V7 ⟨rfl, q7, rfl⟩); have hS7 := HSS.out _ (hS6.1.trans (Below.mono (below_draw _ q7) hS6.1.size)))
                  | fail)
              have hS9 := HSS.out (V6.drewN q7) (Below.trans hS6.1 (Below.mono (below_draw V6 q7) hS6.1.size))
              clear hS0 hS4 hS5 hS6 hS7 HM6 HMr
              generalize V6.drewN q7 = V9 at hS9 ⊢
              go_wp2_with fail
              go_roundg (n - (k + 1))
              case measure => omega
              case rel => exact ⟨k + 1, M9, L9, by omega, by go_num, HG9.out, HT3.out.later hS9.1, HN3.out.later hS9.1⟩
      · have hki : ¬ (k : Int) < (n : Int) := by omega
        have HBl := Lib.hid hs.bel
        clear hs hm
        go_wp2_with fail
        with_reducible refine (HL.out _).mono ?_
        rintro e w8 ⟨rfl, hb8⟩
        have HB8 := Lib.hid (HBl.out.trans (Below.mono hb8 HBl.out.size))
        clear hb8 HBl
        go_wp2
        go_ret
        exact ⟨rfl, HB8.out⟩
end Go.Proofs.Ytdjnflfcolpccaa
