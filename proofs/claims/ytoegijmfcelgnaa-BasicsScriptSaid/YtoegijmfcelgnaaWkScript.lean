/- Statement text: BasicsScript. -/
import Derived.Test.YtoegijmfcelgnaaSAt
import Derived.Test.YtoegijmfcelgnaaUnSame
import Derived.Test.YtoegijmfcelgnaaSNear
import Derived.Deep.CutBlock
import Derived.Deep.LoopGhost
import Derived.Deep.LoopGhost
namespace Go.Proofs.Ytoegijmfcelgnaa
open Go.RowKit

/-- An act as plain data. -/
structure AcV where
  kd : Nat
  n0 : Nat
  n1 : Nat
  n2 : Nat
  n3 : Nat
  sz : Nat
  s : Option Addr
  n : Nat
  c : Nat
  l : List Int
structure AcOk (w : World) (x : AcV) : Prop where
  k : x.kd ≤ 255
  b0 : x.n0 ≤ 255
  b1 : x.n1 ≤ 255
  b2 : x.n2 ≤ 255
  b3 : x.n3 ≤ 255
  bs : x.sz ≤ 65535
  row : Row .u8 w x.s x.n x.c x.l
/-- A slice value reads in w as the acts L. -/
structure AcsAt (w : World) (a : Option Addr) (n c : Nat) (L : List AcV) : Prop where
  len : L.length = n
  le : n ≤ c
  max : c ≤ maxLen
  cells : ∀ i x, L[i]? = some x → AcOk w x ∧ ∃ b o, a = some ⟨b, o, none⟩ ∧ w.cell? ⟨b, o + i * 7, none⟩ = some (.int .u8 (x.kd : Int)) ∧ w.cell? ⟨b, o + i * 7 + 1, none⟩ = some (.int .u8 (x.n0 : Int)) ∧ w.cell? ⟨b, o + i * 7 + 2, none⟩ = some (.int .u8 (x.n1 : Int)) ∧
    w.cell? ⟨b, o + i * 7 + 3, none⟩ = some (.int .u8 (x.n2 : Int)) ∧ w.cell? ⟨b, o + i * 7 + 4, none⟩ = some (.int .u8 (x.n3 : Int)) ∧ w.cell? ⟨b, o + i * 7 + 5, none⟩ = some (.int .u16 (x.sz : Int)) ∧ w.cell? ⟨b, o + i * 7 + 6, none⟩ = some (.slice x.s x.n x.c)
theorem md_give {w : World} {p : Nat} {m : Md} (h : MdAt w p m) (hok : Md.Ok { m with given := m.given + 1 }) (hsm : m.given + 1 ≤ 100000) :
    MdAt (w.setCell ⟨p, 0, none⟩ (.int .i64 ((m.given : Int) + 1))) p { m with given := m.given + 1 } := by
  refine ⟨?_, hok, hsm⟩
  have hh := h.own.set 0 (.int .i64 ((m.given : Int) + 1))
  simpa [mdCells] using hh
theorem same_refl (a0 : Int) (b1 : Bool) (a2 : Int) (b3 : Bool) (a4 a5 : Int) (s : Option Addr) (n c : Nat) (l : List Int) (s2 : Option Addr) (m d : Nat) (w : World) (h : Row .u8 w s n c l) (h' : Row .u8 w s2 m d l) :
    Calls Try.prog 11 #[.agg #[.int .u8 a0, .bool b1, .int .u8 a2, .bool b3, .int .u8 a4, .int .u8 a5, .slice s n c], .agg #[.int .u8 a0, .bool b1, .int .u8 a2, .bool b3, .int .u8 a4, .int .u8 a5, .slice s2 m d]] w
      fun e w' => e = .returned (.bool true) ∧ Below w.heap.size w w' := by
  have hh := usame_any a0 b1 a2 b3 a4 a5 s n c l a0 b1 a2 b3 a4 a5 s2 m d l w h h'
  rw [decide_eq_true (show sameU a0 b1 a2 b3 a4 a5 l a0 b1 a2 b3 a4 a5 l from ⟨rfl, rfl, rfl, rfl, rfl, rfl, rfl⟩)] at hh
  exact hh
theorem nearU_chk (m : Md) (n0 n1 n2 n3 size : Nat) (l : List Int) : (nearU m n0 n1 n2 n3 size l).back < 128 ∧ (nearU m n0 n1 n2 n3 size l).fore < 128 ∧ (nearU m n0 n1 n2 n3 size l).kind ≤ 2 ∧
    chk ((nearU m n0 n1 n2 n3 size l).back : Int) ((nearU m n0 n1 n2 n3 size l).fore : Int) ((nearU m n0 n1 n2 n3 size l).kind : Int) ((nearU m n0 n1 n2 n3 size l).state : Int) (nearU m n0 n1 n2 n3 size l).load.length = 0 := by
  have h0 : (nearU m n0 n1 n2 n3 size l).back < 128 := Nat.mod_lt _ (by decide)
  have h1 : (nearU m n0 n1 n2 n3 size l).fore < 128 := Nat.mod_lt _ (by decide)
  have h2 : (nearU m n0 n1 n2 n3 size l).kind < 3 := Nat.mod_lt _ (by decide)
  have h3 : (nearU m n0 n1 n2 n3 size l).state = if n2 % 3 = 1 then n3 % 6 else 0 := rfl
  have h4 : (nearU m n0 n1 n2 n3 size l).load = if n2 % 3 = 2 then (msgL size l).take 2 else [] := rfl
  have h5 : (nearU m n0 n1 n2 n3 size l).kind = n2 % 3 := rfl
  refine ⟨h0, h1, by omega, ?_⟩
  rw [chk_ok]
  have hl := msgL_length size l
  have h6 : (nearU m n0 n1 n2 n3 size l).load.length = if n2 % 3 = 2 then 2 else 0 := by
    rw [h4]; split
    · rw [List.length_take]; omega
    · rfl
  rw [h6]
  refine ⟨by omega, by omega, by omega, ?_, ?_, ?_, ?_⟩
  · rw [h3]; split <;> omega
  · rw [h3, h5]; split <;> omega
  · rw [h5]; intro hk; rw [if_pos (by omega)]; omega
  · rw [h5]; intro hk; rw [if_neg (by omega)]
theorem mat_row {w : World} {a : Option Addr} {n c : Nat} {l : List Int} (h : Row .u8 w a n c l) : Mat (w.alloc (.cells #[.slice a n c] 32)) (fun _ => True) false (some ⟨w.heap.size, 0, none⟩) 1 1 [l] := by
  have hl := h.len
  subst hl
  refine ⟨rfl, Nat.le_refl _, by unfold maxLen; omega, .inr ⟨_, 0, rfl, trivial, fun i hi => ?_⟩, by simp⟩
  obtain rfl : i = 0 := by omega
  have ho : Own (w.alloc (.cells #[.slice a l.length c] 32)) w.heap.size 32 [.slice a l.length c] := own_lit w _ _ _ rfl
  exact ⟨_, ho.cell 0 (by simp), _, _, rfl, h.later (below_alloc _ _), (fun hh => Bool.noConfusion hh), fun _ _ => trivial⟩
theorem own_md {w : World} {p : Nat} {m : Md} (h : MdAt w p m) : Own w p 28 (mdCells m) := h.own
set_option maxHeartbeats 200000000 in
set_option maxRecDepth 100000 in
theorem script_any (hl : LivesOk) (w : World) (s : Option Addr) (n c : Nat) (l : List AcV) (h : AcsAt w s n c l) :
    Calls Try.prog 3 #[.slice s n c] w fun e w' => e = .returned (.bool true) ∧ Below w.heap.size w w' := by
  have hnc := h.le
  have hmx := h.max
  unfold maxLen at hmx
  have H := Lib.hid h
  have HL := Lib.hid hl
  clear h hl
  go_enter Try.func3, Try.ntmps3
  by_cases hbig : 120 < n
  · have hbi : (120 : Int) < (n : Int) := by omega
    go_wp2_with fail
    with_reducible refine (HL.out _).mono ?_
    rintro e w1 ⟨rfl, hb⟩
    have HB := Lib.hid hb
    clear hb
    go_wp2
    go_ret
    exact ⟨rfl, HB.out⟩
  · have hbi : ¬ (120 : Int) < (n : Int) := by omega
    have hn : n ≤ 120 := by omega
    have hbd : decide ((120 : Int) < (n : Int)) = false := decide_eq_false hbi
    have HNw := Lib.hid (enew_any w)
    go_wp2_with fail
    with_reducible refine HNw.out.mono ?_
    clear HNw
    rintro e w1 ⟨rfl, h1, hb1⟩
    have HE1 := Lib.hid h1
    have HB1 := Lib.hid hb1
    have HFr := Lib.hid (fresh_any w1)
    clear h1 hb1
    go_wp2_with fail
    with_reducible refine HFr.out.mono ?_
    clear HFr
    rintro e w2 ⟨rfl, hb2⟩
    obtain ⟨w3, hw3⟩ : ∃ X, X = w2.alloc (.cells (mdCells Md.fresh).toArray 28) := ⟨_, rfl⟩
    have hb3 : Below w2.heap.size w2 w3 := by rw [hw3]; exact below_alloc _ _
    have om3 : Own w3 w2.heap.size 28 (mdCells Md.fresh) := by rw [hw3]; exact own_lit w2 _ _ _ rfl
    have hm3 : MdAt w3 w2.heap.size Md.fresh := ⟨om3, Md.fresh_ok, by decide⟩
    have hs3 : SAt w w3 w.heap.size w2.heap.size Md.fresh ELay.none := by
      have hz := HE1.out.own.lt
      have hz2 := hb2.size
      refine ⟨?_, fun k hk => ?_, Md.fresh_ok, (HB1.out.trans (Below.mono hb2 HB1.out.size)).trans (Below.mono hb3 (Nat.le_trans HB1.out.size hb2.size)), om3.lt⟩
      · rw [Md.fresh_en]; exact (HE1.out.later hb2).later hb3
      · rcases hk with hk | hk | hk | hk
        · exact ⟨by omega, by omega⟩
        · simp [ELay.none] at hk
        · simp [ELay.none] at hk
        · exact hk.elim
    have HM3 := Lib.hid hm3
    have HS3 := Lib.hid hs3
    have HW3 := Lib.hid hw3
    obtain ⟨p, hp⟩ : ∃ p, p = w2.heap.size := ⟨_, rfl⟩
    have HPW : Hid (w.heap.size ≤ p) := Lib.hid (by rw [hp]; have := hb2.size; have := HB1.out.size; omega)
    clear hm3 hs3 hb3 om3 hw3 hb2 HE1 HB1
    simp only [mdCells, Md.fresh, show ((0 : Nat) : Int) = 0 from rfl, show ((127 : Nat) : Int) = 127 from rfl] at HW3 ⊢
    go_wp2_with fail
    rw [← HW3.out, ← hp]
    rw [← hp] at HM3 HS3
    go_loopg [5] n (fun gg i wr => ∃ (k : Nat) (m : Md) (L : ELay), gg + k = n ∧ i = .int .i64 (k : Nat) ∧ m.given ≤ k ∧ SAt w wr w.heap.size p m L ∧ MdAt wr p m)
    case atStart => exact ⟨0, Md.fresh, ELay.none, Nat.add_zero _, rfl, Nat.le_refl _, HS3.out, HM3.out⟩
    case round =>
      obtain ⟨k, m, L, hk, rfl, hgk, hs, hm⟩ := hrel
      clear HW3 HM3 HS3 hp
      by_cases hlt : k < n
      · have hki : (k : Int) < (n : Int) := by omega
        have hlen := H.out.len
        obtain ⟨x, hx⟩ : ∃ x, l[k]? = some x := ⟨l[k]'(by omega), List.getElem?_eq_getElem _⟩
        obtain ⟨hax, b, o, hsl, d0, d1, d2, d3, d4, d5, d6⟩ := H.out.cells k x hx
        obtain rfl := hsl
        have hbel := hs.bel
        replace d0 := hbel.cell (World.block_lt_of_cell? w _ d0) ▸ d0
        replace d1 := hbel.cell (World.block_lt_of_cell? w _ d1) ▸ d1
        replace d2 := hbel.cell (World.block_lt_of_cell? w _ d2) ▸ d2
        replace d3 := hbel.cell (World.block_lt_of_cell? w _ d3) ▸ d3
        replace d4 := hbel.cell (World.block_lt_of_cell? w _ d4) ▸ d4
        replace d5 := hbel.cell (World.block_lt_of_cell? w _ d5) ▸ d5
        replace d6 := hbel.cell (World.block_lt_of_cell? w _ d6) ▸ d6
        have hrow := hax.row.later hbel
        obtain ⟨b0, b1, b2, b3, b4, b5⟩ := (⟨hax.k, hax.b0, hax.b1, hax.b2, hax.b3, hax.bs⟩ : x.kd ≤ 255 ∧ x.n0 ≤ 255 ∧ x.n1 ≤ 255 ∧ x.n2 ≤ 255 ∧ x.n3 ≤ 255 ∧ x.sz ≤ 65535)
        obtain ⟨kd, n0, n1, n2, n3, sz, xs, xn, xc, xl⟩ := x
        simp only at d0 d1 d2 d3 d4 d5 d6 hrow b0 b1 b2 b3 b4 b5
        obtain ⟨q, hq⟩ : ∃ q : Nat, q = kd % 3 := ⟨_, rfl⟩
        have hqi : (kd : Int) % 3 = (q : Int) := by omega
        have hq3 : q < 3 := by omega
        have HRw := Lib.hid hrow
        have HS := Lib.hid hs
        have HM := Lib.hid hm
        obtain ⟨⟨e0, e1, e2, e3, e4, e5, e6, e7, e8, e9⟩, hfz⟩ := hm.cells
        have har := hm.ok.ar; have hrs := hm.ok.rs; have hsg := hm.ok.sg; have hsma := hm.small
        have hwin := hm.ok.win; have hque := hm.ok.que
        have HFz := Lib.hid hfz
        clear hrow hax hx hs hm hbel hq hfz
        obtain ⟨WF, hWF⟩ : ∃ WF : Int, WF = if m.failed = true then 6 else 0 := ⟨_, rfl⟩
        have HWF := Lib.hid hWF
        clear hWF
        go_upto_if 30 with fail
        go_cut [6] from 23 to 191 (fun v6 wx => v6 = .int .i64 WF ∧ wr = wx)
        case first =>
          cases hfl : m.failed
          · go_wp2_with fail
            go_meet
            exact ⟨by rw [HWF.out, hfl]; rfl, rfl⟩
          · go_wp2_with fail
            go_meet
            exact ⟨by rw [HWF.out, hfl]; rfl, rfl⟩
        case rest =>
          obtain ⟨rfl, rfl⟩ := hcut
          go_upto_block 2 with fail
          go_cut [] from 23 to 191 (fun wx => ∃ (m' : Md) (L' : ELay), m'.given ≤ k + 1 ∧ SAt w wx w.heap.size p m' L' ∧ MdAt wx p m')
          case first =>
            rcases (by omega : q = 0 ∨ q = 1 ∨ q = 2) with rfl | rfl | rfl
            · as_aux_lemma =>
              clear d1 d2 d3 d4 d5 d6
              have hgi : (m.given : Int) ≤ 100000 := by omega
              have hsi : (m.sent : Int) ≤ (m.given : Int) := by omega
              have hwr : IntKind.i64.wrap ((m.given : Int) - (m.sent : Int)) = (m.given : Int) - (m.sent : Int) := by rw [IntKind.wrap_i64]; omega
              cases hfl : m.failed
              · rw [hfl] at e9
                obtain rfl : WF = 0 := by rw [HWF.out, hfl]; rfl
                by_cases hfu : m.given = m.sent + 64
                · have hfb : ((m.given : Int) - (m.sent : Int) == 64) = true := by simp; omega
                  have HFu := Lib.hid hfu
                  clear hfu
                  go_wp2_with fail
                  refine (kmsg_row m.given wr (by omega)).mono ?_
                  rintro e w4 ⟨⟨rfl, _⟩, hb4⟩
                  have HS4 := Lib.hid (HS.out.later hb4)
                  have HM4 := Lib.hid (HM.out.later hb4)
                  clear hb4
                  go_wp2_with fail
                  refine (s_full HS4.out hfl HFu.out).mono ?_
                  rintro e w5 ⟨rfl, hb5⟩
                  have HS5 := Lib.hid (HS4.out.later hb5)
                  have HM5 := Lib.hid (HM4.out.later hb5)
                  clear hb5 HS4 HM4
                  go_wp2_with fail
                  go_meet
                  exact ⟨m, L, Nat.le_succ_of_le hgk, HS5.out, HM5.out⟩
                · have hfb : ((m.given : Int) - (m.sent : Int) == 64) = false := by simp; omega
                  have HFu := Lib.hid hfu
                  clear hfu
                  go_wp2_with fail
                  refine (kmsg_row m.given wr (by omega)).mono ?_
                  rintro e w4 ⟨⟨rfl, hrv⟩, hb4⟩
                  obtain ⟨ra, rc, hra, hrow4, hrc, hrz⟩ := hrv
                  cases hra
                  have HS4 := Lib.hid (HS.out.later hb4)
                  have HM4 := Lib.hid (HM.out.later hb4)
                  have HR4 := Lib.hid hrow4
                  clear hb4 hrow4 hrc hrz
                  go_wp2_with fail
                  refine (s_accept HS4.out hfl (by have := HFu.out; omega) HR4.out).mono ?_
                  rintro e w5 ⟨rfl, L5, hs5, hx5⟩
                  have HS5 := Lib.hid hs5
                  have HM5 := Lib.hid (HM4.out.exc hx5 HS4.out.np)
                  clear hs5 hx5 HS4 HM4 HR4 HFu e0 e1 e2 e3 e4 e5 e6 e7 e8 e9
                  obtain ⟨⟨e0, e1, e2, e3, e4, e5, e6, e7, e8, e9⟩, hfz5⟩ := HM5.out.cells
                  have z0 := hfz5 0
                  go_wp2_with fail
                  go_meet
                  exact ⟨{ m with given := m.given + 1 }, L5, by show m.given + 1 ≤ k + 1; omega, HS5.out.exc ((Exc.refl (fun j => j = p) _).setCell _ (.inl rfl) _) (fun j hj => by rw [hj]; exact ⟨HS5.out.np, HPW.out⟩), md_give HM5.out HS5.out.ok (by omega)⟩
              · rw [hfl] at e9
                obtain rfl : WF = 6 := by rw [HWF.out, hfl]; rfl
                go_wp2_with fail
                refine (kmsg_row m.given wr (by omega)).mono ?_
                rintro e w4 ⟨⟨rfl, _⟩, hb4⟩
                have HS4 := Lib.hid (HS.out.later hb4)
                have HM4 := Lib.hid (HM.out.later hb4)
                clear hb4
                go_wp2_with fail
                refine (accept_failed _ _ _ _ _ HS4.out.e hfl).mono ?_
                rintro e w5 ⟨rfl, q5, hq5⟩
                have hb5 : Below w4.heap.size w4 w5 := by rw [hq5]; exact below_draw _ _
                have HS5 := Lib.hid (HS4.out.later hb5)
                have HM5 := Lib.hid (HM4.out.later hb5)
                clear hb5 hq5 HS4 HM4
                go_wp2_with fail
                go_meet
                exact ⟨m, L, Nat.le_succ_of_le hgk, HS5.out, HM5.out⟩
            · as_aux_lemma =>
              clear d1 d2 d3 d4 d5 d6
              cases hfl : m.failed
              · rw [hfl] at e9
                obtain rfl : WF = 0 := by rw [HWF.out, hfl]; rfl
                go_wp2_with fail
                refine (s_next HS.out hfl).mono ?_
                rintro e w4 ⟨s4, rfl, hr4, hz4, L4, hs4, hx4⟩
                have HS4 := Lib.hid hs4
                have HM4 := Lib.hid (HM.out.exc hx4 HS.out.np)
                have HR4 := Lib.hid hr4
                have HZp := Lib.hid (fun z (hz : s4 = some z) => show ¬ z.block = p from by have := hz4 z hz; have := HM.out.own.lt; omega)
                clear hs4 hr4 hz4 hx4 e0 e1 e2 e3 e4 e5 e6 e7 e8 e9
                obtain ⟨y, hy⟩ : ∃ y, y = m.next.1 := ⟨_, rfl⟩
                rw [← hy] at HR4 ⊢
                have HY := Lib.hid hy
                clear hy
                simp only [unCells]
                go_wp2_with fail
                generalize hW5 : w4.alloc (.cells #[.int .u8 (y.back : Int), .bool y.bb, .int .u8 (y.fore : Int), .bool y.fb, .int .u8 (y.kind : Int), .int .u8 (y.state : Int), .slice s4 y.load.length y.load.length] 41) = W5
                have ou5 : Own W5 w4.heap.size 41 (unCells y s4 y.load.length y.load.length) := by rw [← hW5]; exact own_lit w4 _ _ _ rfl
                have hb5 : Below w4.heap.size w4 W5 := by rw [← hW5]; exact below_alloc _ _
                have HS5 := Lib.hid (HS4.out.later hb5)
                have HM5 := Lib.hid (HM4.out.later hb5)
                have HR5 := Lib.hid (HR4.out.later hb5)
                have hpq : ¬ w4.heap.size = p := by have := HM4.out.own.lt; omega
                have hlen : y.load.length ≤ 1000 := by
                  rw [HY.out]
                  rcases Md.next_cases HM5.out.ok with ⟨c, e⟩ | ⟨c, c2, c3, e⟩ | ⟨c, c2, e⟩ <;> rw [e] <;> simp [loadK]
                have hNx : ∀ W, Below W5.heap.size W5 W → Calls Try.prog 12 #[.pointer (some ⟨p, 0, none⟩)] W fun e w' => ∃ s6, e = .returned (.agg #[.int .u8 (y.back : Int), .bool y.bb, .int .u8 (y.fore : Int), .bool y.fb, .int .u8 (y.kind : Int), .int .u8 (y.state : Int), .slice s6 y.load.length y.load.length]) ∧ Row .u8 w' s6 y.load.length y.load.length y.load ∧ MdAt w' p m.next.2 ∧ Exc (fun j => j = p) W w' := fun W hb => by
                  refine (mnext_any p m W (HM5.out.later hb)).mono ?_
                  rintro e w' ⟨⟨s6, rfl, hl6⟩, hm6, hx6⟩
                  rw [← HY.out] at hl6 ⊢
                  exact ⟨s6, rfl, hl6.row hlen (fun x hx => wf_u8.1 (HR5.out.wf x hx)), hm6, hx6⟩
                have hCl : ∀ W, Exc (fun j => j = p) W5 W → Exc (fun j => j = p) W5 W ∧ W.cell? ⟨w4.heap.size, 0, none⟩ = some (.int .u8 (y.back : Int)) ∧ W.cell? ⟨w4.heap.size, 1, none⟩ = some (.bool y.bb) ∧ W.cell? ⟨w4.heap.size, 2, none⟩ = some (.int .u8 (y.fore : Int)) ∧ W.cell? ⟨w4.heap.size, 3, none⟩ = some (.bool y.fb) ∧ W.cell? ⟨w4.heap.size, 4, none⟩ = some (.int .u8 (y.kind : Int)) ∧ W.cell? ⟨w4.heap.size, 5, none⟩ = some (.int .u8 (y.state : Int)) ∧ W.cell? ⟨w4.heap.size, 6, none⟩ = some (.slice s4 y.load.length y.load.length) := fun W hx => by
                  have hh := ou5.exc hx hpq
                  exact ⟨hx, hh.cell 0 (by simp [unCells]), hh.cell 1 (by simp [unCells]), hh.cell 2 (by simp [unCells]), hh.cell 3 (by simp [unCells]), hh.cell 4 (by simp [unCells]), hh.cell 5 (by simp [unCells]), hh.cell 6 (by simp [unCells])⟩
                have hSm : ∀ s6 W, Exc (fun j => j = p) W5 W → Row .u8 W s6 y.load.length y.load.length y.load → Calls Try.prog 11 #[.agg #[.int .u8 (y.back : Int), .bool y.bb, .int .u8 (y.fore : Int), .bool y.fb, .int .u8 (y.kind : Int), .int .u8 (y.state : Int), .slice s4 y.load.length y.load.length], .agg #[.int .u8 (y.back : Int), .bool y.bb, .int .u8 (y.fore : Int), .bool y.fb, .int .u8 (y.kind : Int), .int .u8 (y.state : Int), .slice s6 y.load.length y.load.length]] W fun e w' => e = .returned (.bool true) ∧ Below W.heap.size W w' := fun s6 W hx hr => same_refl _ _ _ _ _ _ _ _ _ _ _ _ _ _ (HR5.out.exc hx (fun z hz => HZp.out z hz)) hr
                have hC5 := hCl W5 (Exc.refl _ _)
                have hbw : Below W5.heap.size W5 W5.drew := below_draw W5 1
                have hxw : Exc (fun j => j = p) W5 W5.drew := Exc.of_below hbw
                have hCw := hCl _ hxw
                have HNx := Lib.hid hNx
                have HCl := Lib.hid hCl
                have HSm := Lib.hid hSm
                clear hNx hCl hSm hW5 hb5 ou5 hlen hpq
                refine wp_region_held_drew (S := (fun W => Exc (fun j => j = p) W5 W ∧ W.cell? ⟨w4.heap.size, 0, none⟩ = some (.int .u8 (y.back : Int)) ∧ W.cell? ⟨w4.heap.size, 1, none⟩ = some (.bool y.bb) ∧ W.cell? ⟨w4.heap.size, 2, none⟩ = some (.int .u8 (y.fore : Int)) ∧ W.cell? ⟨w4.heap.size, 3, none⟩ = some (.bool y.fb) ∧ W.cell? ⟨w4.heap.size, 4, none⟩ = some (.int .u8 (y.kind : Int)) ∧ W.cell? ⟨w4.heap.size, 5, none⟩ = some (.int .u8 (y.state : Int)) ∧ W.cell? ⟨w4.heap.size, 6, none⟩ = some (.slice s4 y.load.length y.load.length))) (by kernel_rfl) ?_ (fun hHeld => ?_)
                · try dsimp only
                  first | assumption | exact HCl.out _ (Exc.refl _ _) | exact HCl.out _ ((Exc.refl _ _).drawN _)
                refine wpAnyH_take (i := 0) (oi := { dst := some 112, op := Op.move (Operand.tmp 8), type := 30, pos := "law.go:169", after := #[], guard := none }) (v := ?_) rfl (by kernel_rfl) (by kernel_rfl) (by kernel_rfl) (fun _ _ _ h => h) (Or.inl ⟨by rfl, ?_⟩) (by assumption) ?_
                rotate_left 1
                · intro w hSw
                  (try dsimp only at hSw)
                  go_simp
                  try with_reducible rfl
                try simp only [Act.put, List.setIfInBounds_toArray, List.set_cons_zero, List.set_cons_succ]
                refine wpAnyH_take (i := 1) (oi := { dst := some 113, op := Op.move (Operand.tmp 6), type := 30, pos := "law.go:169", after := #[], guard := none }) (v := ?_) rfl (by kernel_rfl) (by kernel_rfl) (by kernel_rfl) (fun _ _ _ h => h) (Or.inl ⟨by rfl, ?_⟩) (by assumption) ?_
                rotate_left 1
                · intro w hSw
                  (try dsimp only at hSw)
                  go_simp
                  try with_reducible rfl
                try simp only [Act.put, List.setIfInBounds_toArray, List.set_cons_zero, List.set_cons_succ]
                refine wpAnyH_take (i := 2) (oi := { dst := some 114, op := Op.binOp BinOp.neq 30 (Operand.tmp 112) (Operand.tmp 113) 30, type := 4, pos := "law.go:169", after := #[{ on := 0, ground := Ground.data }, { on := 1, ground := Ground.data }], guard := none }) (v := ?_) rfl (by kernel_rfl) (by kernel_rfl) (by kernel_rfl) (fun _ _ _ h => h) (Or.inl ⟨by rfl, ?_⟩) (by assumption) ?_
                rotate_left 1
                · intro w hSw
                  (try dsimp only at hSw)
                  go_simp
                  try with_reducible rfl
                try simp only [Act.put, List.setIfInBounds_toArray, List.set_cons_zero, List.set_cons_succ]
                refine wpAnyH_take (i := 3) (oi := { dst := some 115, op := Op.move (Operand.tmp 114), type := 4, pos := "law.go:169", after := #[{ on := 2, ground := Ground.data }], guard := none }) (v := ?_) rfl (by kernel_rfl) (by kernel_rfl) (by kernel_rfl) (fun _ _ _ h => h) (Or.inl ⟨by rfl, ?_⟩) (by assumption) ?_
                rotate_left 1
                · intro w hSw
                  (try dsimp only at hSw)
                  go_simp
                  try with_reducible rfl
                try simp only [Act.put, List.setIfInBounds_toArray, List.set_cons_zero, List.set_cons_succ]
                refine wpAnyH_take (i := 4) (oi := { dst := some 116, op := Op.move (Operand.tmp 6), type := 30, pos := "law.go:169", after := #[{ on := 3, ground := Ground.guard }], guard := some (3, false) }) (v := ?_) rfl (by kernel_rfl) (by kernel_rfl) (by kernel_rfl) (fun _ _ _ h => h) (Or.inl ⟨by rfl, ?_⟩) (by assumption) ?_
                rotate_left 1
                · intro w hSw
                  (try dsimp only at hSw)
                  go_simp
                  try with_reducible rfl
                try simp only [Act.put, List.setIfInBounds_toArray, List.set_cons_zero, List.set_cons_succ]
                refine wpAnyH_take (i := 5) (oi := { dst := some 117, op := Op.binOp BinOp.eql 30 (Operand.tmp 116) (Operand.const (Value.int IntKind.i64 0)) 30, type := 4, pos := "law.go:169", after := #[{ on := 4, ground := Ground.data }, { on := 3, ground := Ground.guard }], guard := some (3, false) }) (v := ?_) rfl (by kernel_rfl) (by kernel_rfl) (by kernel_rfl) (fun _ _ _ h => h) (Or.inl ⟨by rfl, ?_⟩) (by assumption) ?_
                rotate_left 1
                · intro w hSw
                  (try dsimp only at hSw)
                  go_simp
                  try with_reducible rfl
                try simp only [Act.put, List.setIfInBounds_toArray, List.set_cons_zero, List.set_cons_succ]
                refine wpAnyH_take (i := 6) (oi := { dst := some 118, op := Op.move (Operand.tmp 117), type := 4, pos := "law.go:169", after := #[{ on := 5, ground := Ground.data }, { on := 3, ground := Ground.chain }, { on := 3, ground := Ground.guard }], guard := some (3, false) }) (v := ?_) rfl (by kernel_rfl) (by kernel_rfl) (by kernel_rfl) (fun _ _ _ h => h) (Or.inl ⟨by rfl, ?_⟩) (by assumption) ?_
                rotate_left 1
                · intro w hSw
                  (try dsimp only at hSw)
                  go_simp
                  try with_reducible rfl
                try simp only [Act.put, List.setIfInBounds_toArray, List.set_cons_zero, List.set_cons_succ]
                refine wpAnyH_take (i := 7) (oi := { dst := some 119, op := Op.load 41 (Operand.tmp 7), type := 41, pos := "law.go:169", after := #[{ on := 6, ground := Ground.guard }], guard := some (6, true) }) (v := ?_) rfl (by kernel_rfl) (by kernel_rfl) (by kernel_rfl) (fun _ _ _ h => h) (Or.inl ⟨by rfl, ?_⟩) (by assumption) ?_
                rotate_left 1
                · intro w hSw
                  (try dsimp only at hSw)
                  go_simp
                  try with_reducible rfl
                try simp only [Act.put, List.setIfInBounds_toArray, List.set_cons_zero, List.set_cons_succ]
                refine wpAnyH_ready (rs := [8]) (by kernel_rfl) (by simp) ?_
                refine AllReadyH.cons (o := { dst := some 120, op := Op.call { callee := Callee.value (Operand.func 12), args := #[Operand.tmp 4], argTypes := #[28] }, type := 41, pos := "law.go:169", after := #[{ on := 6, ground := Ground.chain }, { on := 6, ground := Ground.guard }], guard := some (6, true) }) rfl (fun K hK => ?_) AllReadyH.nil
                go_simp
                (go_at_call 12; ((with_reducible refine (HNx.out _ (by first | exact hbw | exact Below.refl _ _)).mono ?_); rintro e w6 ⟨s6, rfl, hr6, hm6, hx6⟩); have hC6 := HCl.out w6 (by first | exact Exc.trans hxw hx6 (fun _ _ h => h) | exact hx6); have HR6 := Lib.hid hr6; have HM6 := Lib.hid hm6; clear hr6 hm6 hx6)
                go_wp2_with fail
                refine hK.out _ _ ?_ (fun hHeld => ?_)
                · try dsimp only
                  first | assumption | exact HCl.out _ (Exc.refl _ _) | exact HCl.out _ ((Exc.refl _ _).drawN _)
                clear hK K
                try simp only [Act.put, List.setIfInBounds_toArray, List.set_cons_zero, List.set_cons_succ]
                refine wpAnyH_ready (rs := [9]) (by kernel_rfl) (by simp) ?_
                refine AllReadyH.cons (o := { dst := some 121, op := Op.call { callee := Callee.value (Operand.func 11), args := #[Operand.tmp 119, Operand.tmp 120], argTypes := #[41, 41] }, type := 4, pos := "law.go:169", after := #[{ on := 7, ground := Ground.data }, { on := 8, ground := Ground.data }, { on := 8, ground := Ground.chain }, { on := 6, ground := Ground.guard }], guard := some (6, true) }) rfl (fun K hK => ?_) AllReadyH.nil
                go_simp
                (go_at_call 11; ((with_reducible refine (HSm.out _ _ hC6.1 HR6.out).mono ?_); rintro e w7 ⟨rfl, hb7⟩); have hC7 := HCl.out w7 (hC6.1.trans (Exc.of_below hb7) (fun _ _ h => h)); have HM7 := Lib.hid (HM6.out.later hb7); clear hb7)
                go_wp2_with fail
                refine hK.out _ _ ?_ (fun hHeld => ?_)
                · try dsimp only
                  first | assumption | exact HCl.out _ (Exc.refl _ _) | exact HCl.out _ ((Exc.refl _ _).drawN _)
                clear hK K
                try simp only [Act.put, List.setIfInBounds_toArray, List.set_cons_zero, List.set_cons_succ]
                refine wpAnyH_take (i := 10) (oi := { dst := some 122, op := Op.unOp UnOp.not 4 (Operand.tmp 121), type := 4, pos := "law.go:169", after := #[{ on := 9, ground := Ground.data }, { on := 6, ground := Ground.guard }], guard := some (6, true) }) (v := ?_) rfl (by kernel_rfl) (by kernel_rfl) (by kernel_rfl) (fun _ _ _ h => h) (Or.inl ⟨by rfl, ?_⟩) (by assumption) ?_
                rotate_left 1
                · intro w hSw
                  (try dsimp only at hSw)
                  go_simp
                  try with_reducible rfl
                try simp only [Act.put, List.setIfInBounds_toArray, List.set_cons_zero, List.set_cons_succ]
                refine wpAnyH_take (i := 11) (oi := { dst := some 123, op := Op.pick (Operand.tmp 118) (Operand.tmp 122) (Operand.const (Value.bool false)), type := 4, pos := "law.go:169", after := #[{ on := 6, ground := Ground.data }, { on := 10, ground := Ground.data }, { on := 3, ground := Ground.guard }], guard := some (3, false) }) (v := ?_) rfl (by kernel_rfl) (by kernel_rfl) (by kernel_rfl) (fun _ _ _ h => h) (Or.inl ⟨by rfl, ?_⟩) (by assumption) ?_
                rotate_left 1
                · intro w hSw
                  (try dsimp only at hSw)
                  go_simp
                  try with_reducible rfl
                try simp only [Act.put, List.setIfInBounds_toArray, List.set_cons_zero, List.set_cons_succ]
                refine wpAnyH_take (i := 12) (oi := { dst := some 124, op := Op.pick (Operand.tmp 115) (Operand.const (Value.bool true)) (Operand.tmp 123), type := 4, pos := "law.go:169", after := #[{ on := 3, ground := Ground.data }, { on := 11, ground := Ground.data }], guard := none }) (v := ?_) rfl (by kernel_rfl) (by kernel_rfl) (by kernel_rfl) (fun _ _ _ h => h) (Or.inl ⟨by rfl, ?_⟩) (by assumption) ?_
                rotate_left 1
                · intro w hSw
                  (try dsimp only at hSw)
                  go_simp
                  try with_reducible rfl
                try simp only [Act.put, List.setIfInBounds_toArray, List.set_cons_zero, List.set_cons_succ]
                refine wpAnyH_take (i := 13) (oi := { dst := some 125, op := Op.move (Operand.tmp 124), type := 4, pos := "law.go:169", after := #[{ on := 12, ground := Ground.data }, { on := 9, ground := Ground.chain }], guard := none }) (v := ?_) rfl (by kernel_rfl) (by kernel_rfl) (by kernel_rfl) (fun _ _ _ h => h) (Or.inl ⟨by rfl, ?_⟩) (by assumption) ?_
                rotate_left 1
                · intro w hSw
                  (try dsimp only at hSw)
                  go_simp
                  try with_reducible rfl
                try simp only [Act.put, List.setIfInBounds_toArray, List.set_cons_zero, List.set_cons_succ]
                refine wpAnyH_take (i := 14) (oi := { dst := some 126, op := Op.move (Operand.tmp 6), type := 30, pos := "law.go:169", after := #[{ on := 13, ground := Ground.guard }], guard := some (13, false) }) (v := ?_) rfl (by kernel_rfl) (by kernel_rfl) (by kernel_rfl) (fun _ _ _ h => h) (Or.inl ⟨by rfl, ?_⟩) (by assumption) ?_
                rotate_left 1
                · intro w hSw
                  (try dsimp only at hSw)
                  go_simp
                  try with_reducible rfl
                try simp only [Act.put, List.setIfInBounds_toArray, List.set_cons_zero, List.set_cons_succ]
                refine wpAnyH_take (i := 15) (oi := { dst := some 127, op := Op.binOp BinOp.neq 30 (Operand.tmp 126) (Operand.const (Value.int IntKind.i64 0)) 30, type := 4, pos := "law.go:169", after := #[{ on := 14, ground := Ground.data }, { on := 13, ground := Ground.guard }], guard := some (13, false) }) (v := ?_) rfl (by kernel_rfl) (by kernel_rfl) (by kernel_rfl) (fun _ _ _ h => h) (Or.inl ⟨by rfl, ?_⟩) (by assumption) ?_
                rotate_left 1
                · intro w hSw
                  (try dsimp only at hSw)
                  go_simp
                  try with_reducible rfl
                try simp only [Act.put, List.setIfInBounds_toArray, List.set_cons_zero, List.set_cons_succ]
                refine wpAnyH_take (i := 16) (oi := { dst := some 128, op := Op.move (Operand.tmp 127), type := 4, pos := "law.go:169", after := #[{ on := 15, ground := Ground.data }, { on := 13, ground := Ground.chain }, { on := 13, ground := Ground.guard }], guard := some (13, false) }) (v := ?_) rfl (by kernel_rfl) (by kernel_rfl) (by kernel_rfl) (fun _ _ _ h => h) (Or.inl ⟨by rfl, ?_⟩) (by assumption) ?_
                rotate_left 1
                · intro w hSw
                  (try dsimp only at hSw)
                  go_simp
                  try with_reducible rfl
                try simp only [Act.put, List.setIfInBounds_toArray, List.set_cons_zero, List.set_cons_succ]
                refine wpAnyH_take (i := 17) (oi := { dst := some 129, op := Op.load 41 (Operand.tmp 7), type := 41, pos := "law.go:169", after := #[{ on := 16, ground := Ground.guard }], guard := some (16, true) }) (v := undef) rfl (by kernel_rfl) (by kernel_rfl) (by kernel_rfl) (fun _ _ _ h => h) (Or.inr ⟨by rfl, rfl⟩) (by assumption) ?_
                try simp only [Act.put, List.setIfInBounds_toArray, List.set_cons_zero, List.set_cons_succ]
                refine wpAnyH_take (i := 18) (oi := { dst := some 130, op := Op.build 41 #[], type := 41, pos := "law.go:169", after := #[{ on := 16, ground := Ground.guard }], guard := some (16, true) }) (v := undef) rfl (by kernel_rfl) (by kernel_rfl) (by kernel_rfl) (fun _ _ _ h => h) (Or.inr ⟨by rfl, rfl⟩) (by assumption) ?_
                try simp only [Act.put, List.setIfInBounds_toArray, List.set_cons_zero, List.set_cons_succ]
                refine wpAnyH_take (i := 19) (oi := { dst := some 131, op := Op.call { callee := Callee.value (Operand.func 11), args := #[Operand.tmp 129, Operand.tmp 130], argTypes := #[41, 41] }, type := 4, pos := "law.go:169", after := #[{ on := 17, ground := Ground.data }, { on := 18, ground := Ground.data }, { on := 16, ground := Ground.chain }, { on := 16, ground := Ground.guard }], guard := some (16, true) }) (v := undef) rfl (by kernel_rfl) (by kernel_rfl) (by kernel_rfl) (fun _ _ _ h => h) (Or.inr ⟨by rfl, rfl⟩) (by assumption) ?_
                try simp only [Act.put, List.setIfInBounds_toArray, List.set_cons_zero, List.set_cons_succ]
                refine wpAnyH_take (i := 20) (oi := { dst := some 132, op := Op.unOp UnOp.not 4 (Operand.tmp 131), type := 4, pos := "law.go:169", after := #[{ on := 19, ground := Ground.data }, { on := 16, ground := Ground.guard }], guard := some (16, true) }) (v := undef) rfl (by kernel_rfl) (by kernel_rfl) (by kernel_rfl) (fun _ _ _ h => h) (Or.inr ⟨by rfl, rfl⟩) (by assumption) ?_
                try simp only [Act.put, List.setIfInBounds_toArray, List.set_cons_zero, List.set_cons_succ]
                refine wpAnyH_take (i := 21) (oi := { dst := some 133, op := Op.pick (Operand.tmp 128) (Operand.tmp 132) (Operand.const (Value.bool false)), type := 4, pos := "law.go:169", after := #[{ on := 16, ground := Ground.data }, { on := 20, ground := Ground.data }, { on := 13, ground := Ground.guard }], guard := some (13, false) }) (v := ?_) rfl (by kernel_rfl) (by kernel_rfl) (by kernel_rfl) (fun _ _ _ h => h) (Or.inl ⟨by rfl, ?_⟩) (by assumption) ?_
                rotate_left 1
                · intro w hSw
                  (try dsimp only at hSw)
                  go_simp
                  try with_reducible rfl
                try simp only [Act.put, List.setIfInBounds_toArray, List.set_cons_zero, List.set_cons_succ]
                refine wpAnyH_take (i := 22) (oi := { dst := some 134, op := Op.pick (Operand.tmp 125) (Operand.const (Value.bool true)) (Operand.tmp 133), type := 4, pos := "law.go:169", after := #[{ on := 13, ground := Ground.data }, { on := 21, ground := Ground.data }], guard := none }) (v := ?_) rfl (by kernel_rfl) (by kernel_rfl) (by kernel_rfl) (fun _ _ _ h => h) (Or.inl ⟨by rfl, ?_⟩) (by assumption) ?_
                rotate_left 1
                · intro w hSw
                  (try dsimp only at hSw)
                  go_simp
                  try with_reducible rfl
                try simp only [Act.put, List.setIfInBounds_toArray, List.set_cons_zero, List.set_cons_succ]
                refine wpAnyH_done (by kernel_rfl) ?_ _
                all_goals (
                  have HX7 := Lib.hid hC7.1
                  clear hC5 hC6 hC7 hCw hbw hxw
                  go_wp2_with fail
                  go_meet
                  exact ⟨m.next.2, L4, by rw [Md.next_small HM5.out.ok]; omega, HS5.out.exc HX7.out (fun j hj => by rw [hj]; exact ⟨HS5.out.np, HPW.out⟩), HM7.out⟩)
              · rw [hfl] at e9
                obtain rfl : WF = 6 := by rw [HWF.out, hfl]; rfl
                go_wp2_with fail
                refine (next_failed _ _ _ _ HS.out.e hfl).mono ?_
                rintro e w4 ⟨rfl, hb4⟩
                have HS4 := Lib.hid (HS.out.later hb4)
                have HM4 := Lib.hid (HM.out.later hb4)
                clear hb4 e0 e1 e2 e3 e4 e5 e6 e7 e8 e9
                simp only [zeroUnit]
                go_wp2_with fail
                generalize hW5 : w4.alloc (.cells #[.int .u8 0, .bool false, .int .u8 0, .bool false, .int .u8 0, .int .u8 0, .slice none 0 0] 41) = W5
                have ou5 : Own W5 w4.heap.size 41 zeroUnit := by rw [← hW5]; exact own_lit w4 _ _ _ rfl
                have hb5 : Below w4.heap.size w4 W5 := by rw [← hW5]; exact below_alloc _ _
                have HS5 := Lib.hid (HS4.out.later hb5)
                have HM5 := Lib.hid (HM4.out.later hb5)
                have hpq : ¬ w4.heap.size = p := by have := HM4.out.own.lt; omega
                have hCl : ∀ W, Below W5.heap.size W5 W → Below W5.heap.size W5 W ∧ W.cell? ⟨w4.heap.size, 0, none⟩ = some (.int .u8 0) ∧ W.cell? ⟨w4.heap.size, 1, none⟩ = some (.bool false) ∧ W.cell? ⟨w4.heap.size, 2, none⟩ = some (.int .u8 0) ∧ W.cell? ⟨w4.heap.size, 3, none⟩ = some (.bool false) ∧ W.cell? ⟨w4.heap.size, 4, none⟩ = some (.int .u8 0) ∧ W.cell? ⟨w4.heap.size, 5, none⟩ = some (.int .u8 0) ∧ W.cell? ⟨w4.heap.size, 6, none⟩ = some (.slice none 0 0) := fun W hx => by
                  have hh := ou5.below hx ou5.lt
                  exact ⟨hx, hh.cell 0 (by simp [zeroUnit]), hh.cell 1 (by simp [zeroUnit]), hh.cell 2 (by simp [zeroUnit]), hh.cell 3 (by simp [zeroUnit]), hh.cell 4 (by simp [zeroUnit]), hh.cell 5 (by simp [zeroUnit]), hh.cell 6 (by simp [zeroUnit])⟩
                have hSm : ∀ W, Calls Try.prog 11 #[.agg #[.int .u8 0, .bool false, .int .u8 0, .bool false, .int .u8 0, .int .u8 0, .slice none 0 0], .agg #[.int .u8 0, .bool false, .int .u8 0, .bool false, .int .u8 0, .int .u8 0, .slice none 0 0]] W fun e w' => e = .returned (.bool true) ∧ Below W.heap.size W w' := fun W => same_refl _ _ _ _ _ _ _ _ _ _ _ _ _ _ (Row.of_nil _ _) (Row.of_nil _ _)
                have hbw : Below W5.heap.size W5 W5.drew := below_draw W5 1
                have hxw := hbw
                have hCw := hCl _ hbw
                have hC5 := hCl W5 (Below.refl _ _)
                have HCl := Lib.hid hCl
                have HSm := Lib.hid hSm
                have i0 : ((6 : Int) != 6) = false := by decide
                have i1 : ((6 : Int) == 0) = false := by decide
                have i2 : ((6 : Int) != 0) = true := by decide
                clear hCl hSm hW5 hb5 ou5 hpq
                refine wp_region_held_drew (S := (fun W => Below W5.heap.size W5 W ∧ W.cell? ⟨w4.heap.size, 0, none⟩ = some (.int .u8 0) ∧ W.cell? ⟨w4.heap.size, 1, none⟩ = some (.bool false) ∧ W.cell? ⟨w4.heap.size, 2, none⟩ = some (.int .u8 0) ∧ W.cell? ⟨w4.heap.size, 3, none⟩ = some (.bool false) ∧ W.cell? ⟨w4.heap.size, 4, none⟩ = some (.int .u8 0) ∧ W.cell? ⟨w4.heap.size, 5, none⟩ = some (.int .u8 0) ∧ W.cell? ⟨w4.heap.size, 6, none⟩ = some (.slice none 0 0))) (by kernel_rfl) ?_ (fun hHeld => ?_)
                · try dsimp only
                  first | assumption | exact HCl.out _ (Below.refl _ _) | exact HCl.out _ (below_draw _ _)
                refine wpAnyH_take (i := 0) (oi := { dst := some 112, op := Op.move (Operand.tmp 8), type := 30, pos := "law.go:169", after := #[], guard := none }) (v := ?_) rfl (by kernel_rfl) (by kernel_rfl) (by kernel_rfl) (fun _ _ _ h => h) (Or.inl ⟨by rfl, ?_⟩) (by assumption) ?_
                rotate_left 1
                · intro w hSw
                  (try dsimp only at hSw)
                  go_simp
                  try with_reducible rfl
                try simp only [Act.put, List.setIfInBounds_toArray, List.set_cons_zero, List.set_cons_succ]
                refine wpAnyH_take (i := 1) (oi := { dst := some 113, op := Op.move (Operand.tmp 6), type := 30, pos := "law.go:169", after := #[], guard := none }) (v := ?_) rfl (by kernel_rfl) (by kernel_rfl) (by kernel_rfl) (fun _ _ _ h => h) (Or.inl ⟨by rfl, ?_⟩) (by assumption) ?_
                rotate_left 1
                · intro w hSw
                  (try dsimp only at hSw)
                  go_simp
                  try with_reducible rfl
                try simp only [Act.put, List.setIfInBounds_toArray, List.set_cons_zero, List.set_cons_succ]
                refine wpAnyH_take (i := 2) (oi := { dst := some 114, op := Op.binOp BinOp.neq 30 (Operand.tmp 112) (Operand.tmp 113) 30, type := 4, pos := "law.go:169", after := #[{ on := 0, ground := Ground.data }, { on := 1, ground := Ground.data }], guard := none }) (v := ?_) rfl (by kernel_rfl) (by kernel_rfl) (by kernel_rfl) (fun _ _ _ h => h) (Or.inl ⟨by rfl, ?_⟩) (by assumption) ?_
                rotate_left 1
                · intro w hSw
                  (try dsimp only at hSw)
                  go_simp
                  try with_reducible rfl
                try simp only [Act.put, List.setIfInBounds_toArray, List.set_cons_zero, List.set_cons_succ]
                refine wpAnyH_take (i := 3) (oi := { dst := some 115, op := Op.move (Operand.tmp 114), type := 4, pos := "law.go:169", after := #[{ on := 2, ground := Ground.data }], guard := none }) (v := ?_) rfl (by kernel_rfl) (by kernel_rfl) (by kernel_rfl) (fun _ _ _ h => h) (Or.inl ⟨by rfl, ?_⟩) (by assumption) ?_
                rotate_left 1
                · intro w hSw
                  (try dsimp only at hSw)
                  go_simp
                  try with_reducible rfl
                try simp only [Act.put, List.setIfInBounds_toArray, List.set_cons_zero, List.set_cons_succ]
                refine wpAnyH_take (i := 4) (oi := { dst := some 116, op := Op.move (Operand.tmp 6), type := 30, pos := "law.go:169", after := #[{ on := 3, ground := Ground.guard }], guard := some (3, false) }) (v := ?_) rfl (by kernel_rfl) (by kernel_rfl) (by kernel_rfl) (fun _ _ _ h => h) (Or.inl ⟨by rfl, ?_⟩) (by assumption) ?_
                rotate_left 1
                · intro w hSw
                  (try dsimp only at hSw)
                  go_simp
                  try with_reducible rfl
                try simp only [Act.put, List.setIfInBounds_toArray, List.set_cons_zero, List.set_cons_succ]
                refine wpAnyH_take (i := 5) (oi := { dst := some 117, op := Op.binOp BinOp.eql 30 (Operand.tmp 116) (Operand.const (Value.int IntKind.i64 0)) 30, type := 4, pos := "law.go:169", after := #[{ on := 4, ground := Ground.data }, { on := 3, ground := Ground.guard }], guard := some (3, false) }) (v := ?_) rfl (by kernel_rfl) (by kernel_rfl) (by kernel_rfl) (fun _ _ _ h => h) (Or.inl ⟨by rfl, ?_⟩) (by assumption) ?_
                rotate_left 1
                · intro w hSw
                  (try dsimp only at hSw)
                  go_simp
                  try with_reducible rfl
                try simp only [Act.put, List.setIfInBounds_toArray, List.set_cons_zero, List.set_cons_succ]
                refine wpAnyH_take (i := 6) (oi := { dst := some 118, op := Op.move (Operand.tmp 117), type := 4, pos := "law.go:169", after := #[{ on := 5, ground := Ground.data }, { on := 3, ground := Ground.chain }, { on := 3, ground := Ground.guard }], guard := some (3, false) }) (v := ?_) rfl (by kernel_rfl) (by kernel_rfl) (by kernel_rfl) (fun _ _ _ h => h) (Or.inl ⟨by rfl, ?_⟩) (by assumption) ?_
                rotate_left 1
                · intro w hSw
                  (try dsimp only at hSw)
                  go_simp
                  try with_reducible rfl
                try simp only [Act.put, List.setIfInBounds_toArray, List.set_cons_zero, List.set_cons_succ]
                refine wpAnyH_take (i := 7) (oi := { dst := some 119, op := Op.load 41 (Operand.tmp 7), type := 41, pos := "law.go:169", after := #[{ on := 6, ground := Ground.guard }], guard := some (6, true) }) (v := undef) rfl (by kernel_rfl) (by kernel_rfl) (by kernel_rfl) (fun _ _ _ h => h) (Or.inr ⟨by rfl, rfl⟩) (by assumption) ?_
                try simp only [Act.put, List.setIfInBounds_toArray, List.set_cons_zero, List.set_cons_succ]
                refine wpAnyH_take (i := 8) (oi := { dst := some 120, op := Op.call { callee := Callee.value (Operand.func 12), args := #[Operand.tmp 4], argTypes := #[28] }, type := 41, pos := "law.go:169", after := #[{ on := 6, ground := Ground.chain }, { on := 6, ground := Ground.guard }], guard := some (6, true) }) (v := undef) rfl (by kernel_rfl) (by kernel_rfl) (by kernel_rfl) (fun _ _ _ h => h) (Or.inr ⟨by rfl, rfl⟩) (by assumption) ?_
                try simp only [Act.put, List.setIfInBounds_toArray, List.set_cons_zero, List.set_cons_succ]
                refine wpAnyH_take (i := 9) (oi := { dst := some 121, op := Op.call { callee := Callee.value (Operand.func 11), args := #[Operand.tmp 119, Operand.tmp 120], argTypes := #[41, 41] }, type := 4, pos := "law.go:169", after := #[{ on := 7, ground := Ground.data }, { on := 8, ground := Ground.data }, { on := 8, ground := Ground.chain }, { on := 6, ground := Ground.guard }], guard := some (6, true) }) (v := undef) rfl (by kernel_rfl) (by kernel_rfl) (by kernel_rfl) (fun _ _ _ h => h) (Or.inr ⟨by rfl, rfl⟩) (by assumption) ?_
                try simp only [Act.put, List.setIfInBounds_toArray, List.set_cons_zero, List.set_cons_succ]
                refine wpAnyH_take (i := 10) (oi := { dst := some 122, op := Op.unOp UnOp.not 4 (Operand.tmp 121), type := 4, pos := "law.go:169", after := #[{ on := 9, ground := Ground.data }, { on := 6, ground := Ground.guard }], guard := some (6, true) }) (v := undef) rfl (by kernel_rfl) (by kernel_rfl) (by kernel_rfl) (fun _ _ _ h => h) (Or.inr ⟨by rfl, rfl⟩) (by assumption) ?_
                try simp only [Act.put, List.setIfInBounds_toArray, List.set_cons_zero, List.set_cons_succ]
                refine wpAnyH_take (i := 11) (oi := { dst := some 123, op := Op.pick (Operand.tmp 118) (Operand.tmp 122) (Operand.const (Value.bool false)), type := 4, pos := "law.go:169", after := #[{ on := 6, ground := Ground.data }, { on := 10, ground := Ground.data }, { on := 3, ground := Ground.guard }], guard := some (3, false) }) (v := ?_) rfl (by kernel_rfl) (by kernel_rfl) (by kernel_rfl) (fun _ _ _ h => h) (Or.inl ⟨by rfl, ?_⟩) (by assumption) ?_
                rotate_left 1
                · intro w hSw
                  (try dsimp only at hSw)
                  go_simp
                  try with_reducible rfl
                try simp only [Act.put, List.setIfInBounds_toArray, List.set_cons_zero, List.set_cons_succ]
                refine wpAnyH_take (i := 12) (oi := { dst := some 124, op := Op.pick (Operand.tmp 115) (Operand.const (Value.bool true)) (Operand.tmp 123), type := 4, pos := "law.go:169", after := #[{ on := 3, ground := Ground.data }, { on := 11, ground := Ground.data }], guard := none }) (v := ?_) rfl (by kernel_rfl) (by kernel_rfl) (by kernel_rfl) (fun _ _ _ h => h) (Or.inl ⟨by rfl, ?_⟩) (by assumption) ?_
                rotate_left 1
                · intro w hSw
                  (try dsimp only at hSw)
                  go_simp
                  try with_reducible rfl
                try simp only [Act.put, List.setIfInBounds_toArray, List.set_cons_zero, List.set_cons_succ]
                refine wpAnyH_take (i := 13) (oi := { dst := some 125, op := Op.move (Operand.tmp 124), type := 4, pos := "law.go:169", after := #[{ on := 12, ground := Ground.data }, { on := 9, ground := Ground.chain }], guard := none }) (v := ?_) rfl (by kernel_rfl) (by kernel_rfl) (by kernel_rfl) (fun _ _ _ h => h) (Or.inl ⟨by rfl, ?_⟩) (by assumption) ?_
                rotate_left 1
                · intro w hSw
                  (try dsimp only at hSw)
                  go_simp
                  try with_reducible rfl
                try simp only [Act.put, List.setIfInBounds_toArray, List.set_cons_zero, List.set_cons_succ]
                refine wpAnyH_take (i := 14) (oi := { dst := some 126, op := Op.move (Operand.tmp 6), type := 30, pos := "law.go:169", after := #[{ on := 13, ground := Ground.guard }], guard := some (13, false) }) (v := ?_) rfl (by kernel_rfl) (by kernel_rfl) (by kernel_rfl) (fun _ _ _ h => h) (Or.inl ⟨by rfl, ?_⟩) (by assumption) ?_
                rotate_left 1
                · intro w hSw
                  (try dsimp only at hSw)
                  go_simp
                  try with_reducible rfl
                try simp only [Act.put, List.setIfInBounds_toArray, List.set_cons_zero, List.set_cons_succ]
                refine wpAnyH_take (i := 15) (oi := { dst := some 127, op := Op.binOp BinOp.neq 30 (Operand.tmp 126) (Operand.const (Value.int IntKind.i64 0)) 30, type := 4, pos := "law.go:169", after := #[{ on := 14, ground := Ground.data }, { on := 13, ground := Ground.guard }], guard := some (13, false) }) (v := ?_) rfl (by kernel_rfl) (by kernel_rfl) (by kernel_rfl) (fun _ _ _ h => h) (Or.inl ⟨by rfl, ?_⟩) (by assumption) ?_
                rotate_left 1
                · intro w hSw
                  (try dsimp only at hSw)
                  go_simp
                  try with_reducible rfl
                try simp only [Act.put, List.setIfInBounds_toArray, List.set_cons_zero, List.set_cons_succ]
                refine wpAnyH_take (i := 16) (oi := { dst := some 128, op := Op.move (Operand.tmp 127), type := 4, pos := "law.go:169", after := #[{ on := 15, ground := Ground.data }, { on := 13, ground := Ground.chain }, { on := 13, ground := Ground.guard }], guard := some (13, false) }) (v := ?_) rfl (by kernel_rfl) (by kernel_rfl) (by kernel_rfl) (fun _ _ _ h => h) (Or.inl ⟨by rfl, ?_⟩) (by assumption) ?_
                rotate_left 1
                · intro w hSw
                  (try dsimp only at hSw)
                  go_simp
                  try with_reducible rfl
                try simp only [Act.put, List.setIfInBounds_toArray, List.set_cons_zero, List.set_cons_succ]
                refine wpAnyH_take (i := 17) (oi := { dst := some 129, op := Op.load 41 (Operand.tmp 7), type := 41, pos := "law.go:169", after := #[{ on := 16, ground := Ground.guard }], guard := some (16, true) }) (v := ?_) rfl (by kernel_rfl) (by kernel_rfl) (by kernel_rfl) (fun _ _ _ h => h) (Or.inl ⟨by rfl, ?_⟩) (by assumption) ?_
                rotate_left 1
                · intro w hSw
                  (try dsimp only at hSw)
                  go_simp
                  try with_reducible rfl
                try simp only [Act.put, List.setIfInBounds_toArray, List.set_cons_zero, List.set_cons_succ]
                refine wpAnyH_take (i := 18) (oi := { dst := some 130, op := Op.build 41 #[], type := 41, pos := "law.go:169", after := #[{ on := 16, ground := Ground.guard }], guard := some (16, true) }) (v := ?_) rfl (by kernel_rfl) (by kernel_rfl) (by kernel_rfl) (fun _ _ _ h => h) (Or.inl ⟨by rfl, ?_⟩) (by assumption) ?_
                rotate_left 1
                · intro w hSw
                  (try dsimp only at hSw)
                  go_simp
                  try with_reducible rfl
                try simp only [Act.put, List.setIfInBounds_toArray, List.set_cons_zero, List.set_cons_succ]
                refine wpAnyH_ready (rs := [19]) (by kernel_rfl) (by simp) ?_
                refine AllReadyH.cons (o := { dst := some 131, op := Op.call { callee := Callee.value (Operand.func 11), args := #[Operand.tmp 129, Operand.tmp 130], argTypes := #[41, 41] }, type := 4, pos := "law.go:169", after := #[{ on := 17, ground := Ground.data }, { on := 18, ground := Ground.data }, { on := 16, ground := Ground.chain }, { on := 16, ground := Ground.guard }], guard := some (16, true) }) rfl (fun K hK => ?_) AllReadyH.nil
                go_simp
                (go_at_call 11; ((with_reducible refine (HSm.out _).mono ?_); rintro e w7 ⟨rfl, hb7⟩); have hC7 := HCl.out w7 (by first | exact Below.trans hbw (Below.mono hb7 hbw.size) | exact hb7); clear hb7)
                go_wp2_with fail
                refine hK.out _ _ ?_ (fun hHeld => ?_)
                · try dsimp only
                  first | assumption | exact HCl.out _ (Below.refl _ _) | exact HCl.out _ (below_draw _ _)
                clear hK K
                try simp only [Act.put, List.setIfInBounds_toArray, List.set_cons_zero, List.set_cons_succ]
                refine wpAnyH_take (i := 20) (oi := { dst := some 132, op := Op.unOp UnOp.not 4 (Operand.tmp 131), type := 4, pos := "law.go:169", after := #[{ on := 19, ground := Ground.data }, { on := 16, ground := Ground.guard }], guard := some (16, true) }) (v := ?_) rfl (by kernel_rfl) (by kernel_rfl) (by kernel_rfl) (fun _ _ _ h => h) (Or.inl ⟨by rfl, ?_⟩) (by assumption) ?_
                rotate_left 1
                · intro w hSw
                  (try dsimp only at hSw)
                  go_simp
                  try with_reducible rfl
                try simp only [Act.put, List.setIfInBounds_toArray, List.set_cons_zero, List.set_cons_succ]
                refine wpAnyH_take (i := 21) (oi := { dst := some 133, op := Op.pick (Operand.tmp 128) (Operand.tmp 132) (Operand.const (Value.bool false)), type := 4, pos := "law.go:169", after := #[{ on := 16, ground := Ground.data }, { on := 20, ground := Ground.data }, { on := 13, ground := Ground.guard }], guard := some (13, false) }) (v := ?_) rfl (by kernel_rfl) (by kernel_rfl) (by kernel_rfl) (fun _ _ _ h => h) (Or.inl ⟨by rfl, ?_⟩) (by assumption) ?_
                rotate_left 1
                · intro w hSw
                  (try dsimp only at hSw)
                  go_simp
                  try with_reducible rfl
                try simp only [Act.put, List.setIfInBounds_toArray, List.set_cons_zero, List.set_cons_succ]
                refine wpAnyH_take (i := 22) (oi := { dst := some 134, op := Op.pick (Operand.tmp 125) (Operand.const (Value.bool true)) (Operand.tmp 133), type := 4, pos := "law.go:169", after := #[{ on := 13, ground := Ground.data }, { on := 21, ground := Ground.data }], guard := none }) (v := ?_) rfl (by kernel_rfl) (by kernel_rfl) (by kernel_rfl) (fun _ _ _ h => h) (Or.inl ⟨by rfl, ?_⟩) (by assumption) ?_
                rotate_left 1
                · intro w hSw
                  (try dsimp only at hSw)
                  go_simp
                  try with_reducible rfl
                try simp only [Act.put, List.setIfInBounds_toArray, List.set_cons_zero, List.set_cons_succ]
                refine wpAnyH_done (by kernel_rfl) ?_ _
                all_goals (
                  have HX7 := Lib.hid hC7.1
                  clear hC5 hC7 hCw hbw hxw
                  go_wp2_with fail
                  go_meet
                  exact ⟨m, L, Nat.le_succ_of_le hgk, HS5.out.later HX7.out, HM5.out.later HX7.out⟩)
            · as_aux_lemma =>
              have hgi : (k : Int) ≤ (c : Int) := by omega
              have hci : (c : Int) ≤ 9223372036854775807 := by omega
              have hkb : (0 : Int) ≤ (k : Int) := by omega
              obtain ⟨u, hu⟩ : ∃ u, u = nearU m n0 n1 n2 n3 sz xl := ⟨_, rfl⟩
              have hNe : ∀ W, Below wr.heap.size wr W → Calls Try.prog 13 #[.agg #[.int .u8 (kd : Int), .int .u8 (n0 : Int), .int .u8 (n1 : Int), .int .u8 (n2 : Int), .int .u8 (n3 : Int), .int .u16 (sz : Int), .slice xs xn xc], .agg #[.int .i64 (m.given : Int), .int .i64 (m.sent : Int), .int .i64 (m.acked : Int), .int .i64 (m.rep : Int), .bool m.fore, .int .u8 (m.accepted : Int), .bool m.back, .bool m.w0, .bool m.w1, .bool m.failed]] W fun e w' =>
                  (∃ s' N, e = .returned (.agg #[.int .u8 (u.back : Int), .bool u.bb, .int .u8 (u.fore : Int), .bool u.fb, .int .u8 (u.kind : Int), .int .u8 (u.state : Int), .slice s' u.load.length N]) ∧ Row .u8 w' s' u.load.length N u.load ∧ ∀ z, s' = some z → W.heap.size ≤ z.block) ∧ Below W.heap.size W w' := fun W hb => by
                rw [hu]
                refine (near_any (kd : Int) n0 n1 n2 n3 sz xs xn xc xl m W b1 b2 b3 b4 b5 (HRw.out.later hb) HM.out.ok HM.out.small).mono ?_
                rintro e w' ⟨⟨s', N, rfl, hr, hz⟩, hb'⟩
                exact ⟨⟨s', N, rfl, hr, hz⟩, hb'⟩
              have hCl : ∀ W, Below wr.heap.size wr W → Below wr.heap.size wr W ∧ W.cell? ⟨b, o + k * 7, none⟩ = some (.int .u8 (kd : Int)) ∧ W.cell? ⟨b, o + k * 7 + 1, none⟩ = some (.int .u8 (n0 : Int)) ∧ W.cell? ⟨b, o + k * 7 + 2, none⟩ = some (.int .u8 (n1 : Int)) ∧ W.cell? ⟨b, o + k * 7 + 3, none⟩ = some (.int .u8 (n2 : Int)) ∧ W.cell? ⟨b, o + k * 7 + 4, none⟩ = some (.int .u8 (n3 : Int)) ∧ W.cell? ⟨b, o + k * 7 + 5, none⟩ = some (.int .u16 (sz : Int)) ∧ W.cell? ⟨b, o + k * 7 + 6, none⟩ = some (.slice xs xn xc) ∧
                  W.cell? ⟨p, 0, none⟩ = some (.int .i64 (m.given : Int)) ∧ W.cell? ⟨p, 1, none⟩ = some (.int .i64 (m.sent : Int)) ∧ W.cell? ⟨p, 2, none⟩ = some (.int .i64 (m.acked : Int)) ∧ W.cell? ⟨p, 3, none⟩ = some (.int .i64 (m.rep : Int)) ∧ W.cell? ⟨p, 4, none⟩ = some (.bool m.fore) ∧ W.cell? ⟨p, 5, none⟩ = some (.int .u8 (m.accepted : Int)) ∧ W.cell? ⟨p, 6, none⟩ = some (.bool m.back) ∧ W.cell? ⟨p, 7, none⟩ = some (.bool m.w0) ∧ W.cell? ⟨p, 8, none⟩ = some (.bool m.w1) ∧ W.cell? ⟨p, 9, none⟩ = some (.bool m.failed) := fun W hb => by
                obtain ⟨⟨q0, q1, q2, q3, q4, q5, q6, q7, q8, q9⟩, _⟩ := (HM.out.later hb).cells
                have cc : ∀ {a : Addr} {v : Value}, wr.cell? a = some v → W.cell? a = some v := fun {a v} hc => by rw [hb.cell (World.block_lt_of_cell? wr _ hc)]; exact hc
                exact ⟨hb, cc d0, cc d1, cc d2, cc d3, cc d4, cc d5, cc d6, q0, q1, q2, q3, q4, q5, q6, q7, q8, q9⟩
              have hbw : Below wr.heap.size wr wr.drew := below_draw wr 1
              have HU := Lib.hid hu
              have HNe := Lib.hid hNe
              have HCl := Lib.hid hCl
              clear hu hNe hCl
              go_upto_region 12 with fail
              go_cut [9] from 23 to 191 (fun v9 wx => ∃ (g9 N : Nat) (s' : Option Addr), v9 = .pointer (some ⟨g9, 0, none⟩) ∧ Own wx g9 41 (unCells u s' u.load.length N) ∧ Row .u8 wx s' u.load.length N u.load ∧ (∀ z, s' = some z → wr.heap.size ≤ z.block) ∧ wr.heap.size ≤ g9 ∧ Below wr.heap.size wr wx)
              case first => as_aux_lemma =>
                have hpl : p < wr.heap.size := HM.out.own.lt
                have hbl : b < wr.heap.size := World.block_lt_of_cell? wr _ d0
                clear har hrs hsg hsma hwin hque hgi hci hkb b0 b1 b2 b3 b4 b5 hgk hlt hlen
                go_region_with (first
                    | (go_at_call 13; ((with_reducible refine (HNe.out _ (below_alloc _ _).drew).mono ?_); rintro e w6 ⟨⟨s6, N6, rfl, hr6, hz6⟩, hb6⟩); have hb6' : Below wr.heap.size wr w6 := (below_alloc wr (.cells zeroUnit.toArray 41)).drew.trans (Below.mono hb6 (below_alloc wr (.cells zeroUnit.toArray 41)).drew.size); have hz6' : ∀ z, s6 = some z → wr.heap.size + 1 ≤ z.block := (fun z hz => by have h5 : (wr.alloc (.cells zeroUnit.toArray 41)).heap.size ≤ z.block := hz6 z hz; rw [World.size_alloc] at h5; exact h5); have ou6 : Own w6 wr.heap.size 41 zeroUnit := Own.below (Own.drewK (own_lit wr 41 zeroUnit.toArray zeroUnit rfl)) hb6 (by simp); obtain ⟨fz0, fz1, fz2, fz3, fz4, fz5, fz6⟩ := unit_frozen ou6; obtain ⟨yz0, yz1, yz2, yz3, yz4, yz5, yz6⟩ := unit_cells ou6; have HO6 := Lib.hid ou6; have HR6 := Lib.hid hr6; have HZ6 := Lib.hid hz6'; have HB6 := Lib.hid hb6'; clear hr6 hz6 hz6' hb6 hb6' ou6)
                    | (go_at_call 13; ((with_reducible refine (HNe.out _ hbw).mono ?_); rintro e w6 ⟨⟨s6, N6, rfl, hr6, hz6⟩, hb6⟩); have hb6' : Below wr.heap.size wr w6 := hbw.trans (Below.mono hb6 hbw.size); have hz6' : ∀ z, s6 = some z → wr.heap.size ≤ z.block := hz6; have HR6 := Lib.hid hr6; have HZ6 := Lib.hid hz6'; have HB6 := Lib.hid hb6'; clear hr6 hz6 hz6' hb6 hb6')
                    | fail)
                all_goals (
                  go_wp2_with fail
                  go_meet
                  first
                    | (with_reducible refine ⟨w6.heap.size, N6, s6, rfl, own_lit w6 _ _ _ ?_, HR6.out.later (below_alloc _ _), fun z hz => HZ6.out z hz, HB6.out.size, HB6.out.trans (Below.mono (below_alloc _ _) HB6.out.size)⟩
                       rfl)
                    | (have hx6 : Exc (fun j => j = wr.heap.size) w6 (((((((w6.setCell ⟨wr.heap.size, 0, none⟩ (.int .u8 (u.back : Int))).setCell ⟨wr.heap.size, 1, none⟩ (.bool u.bb)).setCell ⟨wr.heap.size, 2, none⟩ (.int .u8 (u.fore : Int))).setCell ⟨wr.heap.size, 3, none⟩ (.bool u.fb)).setCell ⟨wr.heap.size, 4, none⟩ (.int .u8 (u.kind : Int))).setCell ⟨wr.heap.size, 5, none⟩ (.int .u8 (u.state : Int))).setCell ⟨wr.heap.size, 6, none⟩ (.slice s6 u.load.length N6)) := (((((((Exc.refl (fun j => j = wr.heap.size) w6).setCell ⟨wr.heap.size, 0, none⟩ (.inl rfl) _).setCell ⟨wr.heap.size, 1, none⟩ (.inl rfl) _).setCell ⟨wr.heap.size, 2, none⟩ (.inl rfl) _).setCell ⟨wr.heap.size, 3, none⟩ (.inl rfl) _).setCell ⟨wr.heap.size, 4, none⟩ (.inl rfl) _).setCell ⟨wr.heap.size, 5, none⟩ (.inl rfl) _).setCell ⟨wr.heap.size, 6, none⟩ (.inl rfl) _
                       have ho9 : Own (((((((w6.setCell ⟨wr.heap.size, 0, none⟩ (.int .u8 (u.back : Int))).setCell ⟨wr.heap.size, 1, none⟩ (.bool u.bb)).setCell ⟨wr.heap.size, 2, none⟩ (.int .u8 (u.fore : Int))).setCell ⟨wr.heap.size, 3, none⟩ (.bool u.fb)).setCell ⟨wr.heap.size, 4, none⟩ (.int .u8 (u.kind : Int))).setCell ⟨wr.heap.size, 5, none⟩ (.int .u8 (u.state : Int))).setCell ⟨wr.heap.size, 6, none⟩ (.slice s6 u.load.length N6)) wr.heap.size 41 (unCells u s6 u.load.length N6) := ((((((HO6.out.set 0 (.int .u8 (u.back : Int))).set 1 (.bool u.bb)).set 2 (.int .u8 (u.fore : Int))).set 3 (.bool u.fb)).set 4 (.int .u8 (u.kind : Int))).set 5 (.int .u8 (u.state : Int))).set 6 (.slice s6 u.load.length N6)
                       with_reducible refine ⟨wr.heap.size, N6, s6, rfl, ho9, HR6.out.exc hx6 ?_, fun z hz => Nat.le_of_succ_le (HZ6.out z hz), Nat.le_refl _, HB6.out.trans (hx6.below HB6.out.size ?_)⟩
                       · exact fun z hz hzp => by have := HZ6.out z hz; omega
                       · exact fun i _ hi => Nat.le_of_eq hi.symm))
              case rest => as_aux_lemma =>
                obtain ⟨g9, N, s9, rfl, ou9, hr9, hz9, hg9, hb9⟩ := hcut
                have HS9 := Lib.hid (HS.out.later hb9)
                have HM9 := Lib.hid (HM.out.later hb9)
                have HO9 := Lib.hid ou9
                have HR9 := Lib.hid hr9
                have HZ9 := Lib.hid (And.intro hz9 hg9)
                have hchk : u.back < 128 ∧ u.fore < 128 ∧ u.kind ≤ 2 ∧ chk (u.back : Int) (u.fore : Int) (u.kind : Int) (u.state : Int) u.load.length = 0 := by
                  rw [HU.out]; exact nearU_chk _ _ _ _ _ _ _
                have HK := Lib.hid hchk
                have HPl : Hid (p < wr.heap.size) := Lib.hid HM.out.own.lt
                have HBl : Hid (w.heap.size < wr.heap.size) := Lib.hid HS.out.e.own.lt
                have hgp : ¬ g9 = p := by have := HM.out.own.lt; omega
                have HGp := Lib.hid hgp
                obtain ⟨v0, v1, v2, v3, v4, v5, v6⟩ : wc.cell? ⟨g9, 0, none⟩ = some (.int .u8 (u.back : Int)) ∧ wc.cell? ⟨g9, 1, none⟩ = some (.bool u.bb) ∧ wc.cell? ⟨g9, 2, none⟩ = some (.int .u8 (u.fore : Int)) ∧ wc.cell? ⟨g9, 3, none⟩ = some (.bool u.fb) ∧ wc.cell? ⟨g9, 4, none⟩ = some (.int .u8 (u.kind : Int)) ∧ wc.cell? ⟨g9, 5, none⟩ = some (.int .u8 (u.state : Int)) ∧ wc.cell? ⟨g9, 6, none⟩ = some (.slice s9 u.load.length N) :=
                  ⟨ou9.cell 0 (by simp [unCells]), ou9.cell 1 (by simp [unCells]), ou9.cell 2 (by simp [unCells]), ou9.cell 3 (by simp [unCells]), ou9.cell 4 (by simp [unCells]), ou9.cell 5 (by simp [unCells]), ou9.cell 6 (by simp [unCells])⟩
                clear ou9 hr9 hz9 hg9 hb9 hchk hgp hbw HCl HNe HS HM e0 e1 e2 e3 e4 e5 e6 e7 e8 e9 d0 d1 d2 d3 d4 d5 d6
                obtain ⟨⟨e0, e1, e2, e3, e4, e5, e6, e7, e8, e9⟩, _⟩ := HM9.out.cells
                cases hfl : m.failed
                · rw [hfl] at e9
                  obtain rfl : WF = 0 := by rw [HWF.out, hfl]; rfl
                  by_cases hk1 : u.kind = 1
                  · have HK1 := Lib.hid hk1
                    clear hk1
                    go_wp2_with fail
                    refine (mhear_state p u s9 u.load.length N wc HK1.out).mono ?_
                    rintro e w5 ⟨rfl, hb5⟩
                    have HS5 := Lib.hid (HS9.out.later hb5)
                    have HM5 := Lib.hid (HM9.out.later hb5)
                    have cc : ∀ {a : Addr} {v : Value}, wc.cell? a = some v → w5.cell? a = some v := fun {a v} hc => by rw [hb5.cell (World.block_lt_of_cell? wc _ hc)]; exact hc
                    replace v0 := cc v0; replace v1 := cc v1; replace v2 := cc v2; replace v3 := cc v3; replace v4 := cc v4; replace v5 := cc v5; replace v6 := cc v6; replace e9 := cc e9
                    clear cc hb5 HS9 HM9 e0 e1 e2 e3 e4 e5 e6 e7 e8
                    go_wp2_with fail
                    refine (hear_not w.heap.size m.en L w5 u s9 u.load.length N HS5.out.e hfl (Nat.lt_trans HK.out.1 (by decide)) (Nat.lt_trans HK.out.2.1 (by decide)) (by have := HK.out.2.2.1; omega) (by have := chk_ok.1 HK.out.2.2.2; omega) (by have h1 := HR9.out.le; have h2 := HR9.out.max; unfold maxLen at h2; omega) (.inr HK1.out)).mono ?_
                    rw [HK.out.2.2.2]
                    rintro e w6 ⟨rfl, hb6⟩
                    have HS6 := Lib.hid (HS5.out.later hb6)
                    have HM6 := Lib.hid (HM5.out.later hb6)
                    clear hb6 HS5 HM5
                    go_wp2_with fail
                    go_meet
                    exact ⟨m, L, Nat.le_succ_of_le hgk, HS6.out, HM6.out⟩
                  · have HK1 := Lib.hid hk1
                    clear hk1
                    have hh := mhear_any p m u s9 u.load.length N wc HM9.out hfl HK1.out HK.out.2.2.1 HK.out.1 HK.out.2.1
                    obtain ⟨tk, hr1⟩ : ∃ x, x = (m.hear u).1 := ⟨_, rfl⟩
                    obtain ⟨m2, hr2⟩ : ∃ x, x = (m.hear u).2 := ⟨_, rfl⟩
                    rw [← hr1, ← hr2] at hh
                    have HH := Lib.hid hh
                    have HR1 := Lib.hid hr1
                    have HR2 := Lib.hid hr2
                    clear hh hr1 hr2
                    simp only [unCells] at HH
                    go_wp2_with fail
                    refine HH.out.mono ?_
                    rintro e w5 ⟨rfl, hm5, hx5⟩
                    have HS5 := Lib.hid (HS9.out.exc hx5 (fun j hj => by rw [hj]; exact ⟨HS9.out.np, HPW.out⟩))
                    have HM5 := Lib.hid hm5
                    have HR5 := Lib.hid (HR9.out.exc hx5 (fun z hz hzp => by have h1 := HZ9.out.1 z hz; have h2 := HPl.out; rw [hzp] at h1; omega))
                    replace v0 := hx5.cell v0 HGp.out
                    replace v1 := hx5.cell v1 HGp.out
                    replace v2 := hx5.cell v2 HGp.out
                    replace v3 := hx5.cell v3 HGp.out
                    replace v4 := hx5.cell v4 HGp.out
                    replace v5 := hx5.cell v5 HGp.out
                    replace v6 := hx5.cell v6 HGp.out
                    clear hm5 hx5 HS9 HM9 HR9 HH e0 e1 e2 e3 e4 e5 e6 e7 e8 e9
                    have e9 := (HM5.out.cells).1.2.2.2.2.2.2.2.2.2
                    have hq := s_hear HS5.out hfl HK1.out HK.out.2.2.2 HR5.out (fun z hz hzb => by have h1 := HZ9.out.1 z hz; have h2 := HBl.out; rw [hzb] at h1; omega)
                    rw [← HR1.out, ← HR2.out] at hq
                    simp only [unCells] at hq
                    have hgv : m2.given = m.given := by rw [HR2.out]; exact Md.hear_given m u
                    have HGv := Lib.hid hgv
                    clear hgv
                    have hvl := hq
                    cases hf2 : m2.failed
                    all_goals (
                      rw [hf2] at e9 hq
                      cases tk)
                    all_goals (
                      simp only [if_true, if_false, Bool.false_eq_true] at hq
                      have HQ := Lib.hid hq
                      clear hq hvl
                      go_wp2_with fail
                      refine HQ.out.mono ?_
                      rintro e w6 ⟨⟨ra, rd, rfl, hmt⟩, L6, hs6, hx6⟩)
                    all_goals (
                      have HS6 := Lib.hid (show SAt w w6 w.heap.size p m2 L6 by rw [HR2.out]; first | exact hs6 | (rw [← HR2.out]; exact hs6))
                      have HM6 := Lib.hid (HM5.out.exc hx6 (fun h => HS5.out.np (.inl h)))
                      have HR6 := Lib.hid (HR5.out.exc hx6 (fun z hz hzb => by have h1 := HZ9.out.1 z hz; have h2 := HBl.out; rw [hzb] at h1; omega))
                      replace v6 := hx6.cell v6 (by have h1 := HZ9.out.2; have h2 := HBl.out; show ¬ g9 = w.heap.size; omega)
                      clear hs6 hx6 HQ HS5 HM5 HR5 v0 v1 v2 v3 v4 v5 e9)
                    · clear hmt
                      go_wp2_with fail
                      go_meet
                      exact ⟨m2, L6, by rw [HGv.out]; omega, HS6.out, HM6.out⟩
                    · obtain ⟨hd, hmm⟩ := hmt (by trivial)
                      subst hd
                      have HMm := Lib.hid hmm
                      clear hmm hmt
                      go_wp2_with fail
                      refine (lists_same _ _ _ _ _ _ _ _ _ (HMm.out.later (below_alloc _ _)) (mat_row HR6.out)).mono ?_
                      rintro e w7 ⟨rfl, q7, hq7⟩
                      have hb7 : Below w6.heap.size w6 w7 := by rw [hq7]; exact (below_alloc _ _).trans (Below.mono (below_draw _ _) (below_alloc _ _).size)
                      have HS7 := Lib.hid (HS6.out.later hb7)
                      have HM7 := Lib.hid (HM6.out.later hb7)
                      clear hb7 hq7 HS6 HM6 HR6 HMm
                      go_wp2_with fail
                      go_meet
                      exact ⟨m2, L6, by rw [HGv.out]; omega, HS7.out, HM7.out⟩
                    · clear hmt
                      go_wp2_with fail
                      go_meet
                      exact ⟨m2, L6, by rw [HGv.out]; omega, HS6.out, HM6.out⟩
                    · obtain ⟨hd, hmm⟩ := hmt (by trivial)
                      subst hd
                      have HMm := Lib.hid hmm
                      clear hmm hmt
                      go_wp2_with fail
                      refine (lists_same _ _ _ _ _ _ _ _ _ (HMm.out.later (below_alloc _ _)) (mat_row HR6.out)).mono ?_
                      rintro e w7 ⟨rfl, q7, hq7⟩
                      have hb7 : Below w6.heap.size w6 w7 := by rw [hq7]; exact (below_alloc _ _).trans (Below.mono (below_draw _ _) (below_alloc _ _).size)
                      have HS7 := Lib.hid (HS6.out.later hb7)
                      have HM7 := Lib.hid (HM6.out.later hb7)
                      clear hb7 hq7 HS6 HM6 HR6 HMm
                      go_wp2_with fail
                      go_meet
                      exact ⟨m2, L6, by rw [HGv.out]; omega, HS7.out, HM7.out⟩
                · rw [hfl] at e9
                  obtain rfl : WF = 6 := by rw [HWF.out, hfl]; rfl
                  go_wp2_with fail
                  refine (hear_failed w.heap.size m.en L wc u s9 u.load.length N HS9.out.e hfl).mono ?_
                  rintro e w6 ⟨rfl, hb6⟩
                  have HS6 := Lib.hid (HS9.out.later hb6)
                  have HM6 := Lib.hid (HM9.out.later hb6)
                  clear hb6 HS9 HM9
                  go_wp2_with fail
                  go_meet
                  exact ⟨m, L, Nat.le_succ_of_le hgk, HS6.out, HM6.out⟩
          case rest => as_aux_lemma =>
            obtain ⟨M9, L9, hg9, hs9, hm9⟩ := hcut
            clear HRw HS HM HFz HWF e0 e1 e2 e3 e4 e5 e6 e7 e8 e9 d0 d1 d2 d3 d4 d5 d6 har hrs hsg hsma hwin hque hgk
            obtain ⟨W9, rfl⟩ : ∃ W9, W9 = wc := ⟨_, rfl⟩
            have HS9 := Lib.hid hs9
            have HM9 := Lib.hid hm9
            have HG9 := Lib.hid hg9
            obtain ⟨FF, hFF⟩ : ∃ FF, FF = M9.failed := ⟨_, rfl⟩
            have HF9 := Lib.hid hFF.symm
            clear hs9 hm9 hg9 hFF
            go_wp2_with fail
            refine (s_waiting HS9.out).mono ?_
            rintro e V1 ⟨rfl, q1, hq1⟩
            have hbq1 : Below W9.heap.size W9 V1 := by rw [hq1]; exact below_draw _ _
            have HT1 := Lib.hid (HS9.out.later hbq1)
            have HN1 := Lib.hid (HM9.out.later hbq1)
            obtain ⟨⟨e0, e1, e2, e3, e4, e5, e6, e7, e8, e9⟩, _⟩ := HN1.out.cells
            have har := Nat.le_trans HM9.out.ok.ar HM9.out.ok.rs; have hsg := HM9.out.ok.sg; have hsma := HM9.out.small
            have hfx := HF9.out
            obtain ⟨A0, hA0⟩ : ∃ x, x = M9.given := ⟨_, rfl⟩
            obtain ⟨A1, hA1⟩ : ∃ x, x = M9.sent := ⟨_, rfl⟩
            obtain ⟨A2, hA2⟩ : ∃ x, x = M9.acked := ⟨_, rfl⟩
            obtain ⟨A5, hA5⟩ : ∃ x, x = M9.accepted := ⟨_, rfl⟩
            obtain ⟨P, hP⟩ : ∃ P, P = num M9.acked := ⟨_, rfl⟩
            have hnum := fun W => knum_any M9.acked W (by omega)
            have hret := fun W (hb : Below V1.heap.size V1 W) => s_retrieve (HT1.out.later hb)
            have hlst := fun W => klist_mat M9.acked M9.given W (by omega) (by omega)
            rw [← hP] at hnum hret
            rw [← hA2] at hnum e2 hret hlst har
            rw [← hA1] at e1 hsg har
            rw [← hA0] at e0 hret hsg hsma hlst
            rw [← hA5] at e5
            rw [← hA0, ← hA1, ← hA2]
            obtain ⟨D0, hD0⟩ : ∃ x, x = A0 - A1 := ⟨_, rfl⟩
            obtain ⟨D1, hD1⟩ : ∃ x, x = A1 - A2 := ⟨_, rfl⟩
            obtain ⟨D2, hD2⟩ : ∃ x, x = A0 - A2 := ⟨_, rfl⟩
            rw [← hD2] at hret hlst
            rw [← hD0, ← hD1]
            have f0 : ((D0 : Int) != (A0 : Int) - (A1 : Int)) = false := by simp; omega
            have f1 : ((D1 : Int) != (A1 : Int) - (A2 : Int)) = false := by simp; omega
            have g0 : (A0 : Int) ≤ 100000 := by omega
            have g1 : (A1 : Int) ≤ (A0 : Int) := by omega
            have g2 : (A2 : Int) ≤ (A1 : Int) := by omega
            have HNm := Lib.hid hnum
            have HRt := Lib.hid hret
            have HLs := Lib.hid hlst
            have HAx := Lib.hid (And.intro hA0 (And.intro hA1 (And.intro hA2 (And.intro hA5 hfx))))
            clear hnum hret hlst hq1 hbq1 HS9 HM9 hA0 hA1 hA2 hA5 hD0 hD1 hD2 hP har hsg hsma hfx
            go_wp2_with fail
            with_reducible refine (HNm.out _).mono ?_
            rintro e V2 ⟨rfl, rfl⟩
            go_wp2_with fail
            with_reducible refine (HRt.out _ (Below.refl _ _)).mono ?_
            rintro e V3 ⟨⟨ra, rfl, hmr⟩, hb3⟩
            have HT3 := Lib.hid (HT1.out.later hb3)
            have HN3 := Lib.hid (HN1.out.later hb3)
            have HMr := Lib.hid hmr
            clear e0 e1 e2 e3 e4 e5 e6 e7 e8 e9 hmr hb3 HRt
            go_wp2_with fail
            have hS : ∀ W, Below V3.heap.size V3 W → Below V3.heap.size V3 W ∧ W.cell? ⟨p, 0, none⟩ = some (.int .i64 (A0 : Int)) ∧ W.cell? ⟨p, 1, none⟩ = some (.int .i64 (A1 : Int)) ∧ W.cell? ⟨p, 2, none⟩ = some (.int .i64 (A2 : Int)) ∧ W.cell? ⟨p, 5, none⟩ = some (.int .u8 (A5 : Int)) ∧ W.cell? ⟨p, 9, none⟩ = some (.bool FF) := fun W hb => by
              obtain ⟨⟨e0, e1, e2, e3, e4, e5, e6, e7, e8, e9⟩, _⟩ := (HN3.out.later hb).cells
              obtain ⟨k0, k1, k2, k5, k9⟩ := HAx.out
              rw [k0, k1, k2, k5, ← k9]
              exact ⟨hb, e0, e1, e2, e5, e9⟩
            have hFa : ∀ W, Below V3.heap.size V3 W → Calls Try.prog 20 #[.pointer (some ⟨w.heap.size, 0, none⟩)] W fun e w' => e = .returned (.bool FF) ∧ ∃ q, w' = W.drewN q := fun W hb => by
              have := s_failed (HT3.out.later hb)
              rw [HAx.out.2.2.2.2] at this
              exact this
            have hLa : ∀ W, Below V3.heap.size V3 W → Calls Try.prog 21 #[.pointer (some ⟨w.heap.size, 0, none⟩)] W fun e w' => e = .returned (.int .u8 (A5 : Int)) ∧ ∃ q, w' = W.drewN q := fun W hb => by
              have := s_last (HT3.out.later hb)
              rw [← HAx.out.2.2.2.1] at this
              exact this
            have hS0 := hS V3 (Below.refl _ _)
            have HSS := Lib.hid hS
            have HFa := Lib.hid hFa
            have HLa := Lib.hid hLa
            clear hS hFa hLa
            have wr0 : IntKind.i64.wrap ((A0 : Int) - (A1 : Int)) = (A0 : Int) - (A1 : Int) := by rw [IntKind.wrap_i64]; omega
            have wr1 : IntKind.i64.wrap ((A1 : Int) - (A2 : Int)) = (A1 : Int) - (A2 : Int) := by rw [IntKind.wrap_i64]; omega
            have f2 : (FF != FF) = false := by simp
            have f3 : ((A5 : Int) != (A5 : Int)) = false := by simp
            go_region_held3 (fun W => Below V3.heap.size V3 W ∧ W.cell? ⟨p, 0, none⟩ = some (.int .i64 (A0 : Int)) ∧ W.cell? ⟨p, 1, none⟩ = some (.int .i64 (A1 : Int)) ∧ W.cell? ⟨p, 2, none⟩ = some (.int .i64 (A2 : Int)) ∧ W.cell? ⟨p, 5, none⟩ = some (.int .u8 (A5 : Int)) ∧ W.cell? ⟨p, 9, none⟩ = some (.bool FF)) (first | assumption | exact HSS.out _ (below_draw _ _) | exact HSS.out _ (Below.refl _ _))
              (first
                | (go_at_call 20; ((with_reducible refine (HFa.out _ (And.left (by assumption))).mono ?_); rintro e V4 ⟨rfl, q4, rfl⟩); have hS4 := HSS.out _ (Below.trans (And.left (by assumption)) (Below.mono (below_draw _ q4) (Below.size (And.left (by assumption))))))
                | (go_at_call 21; ((with_reducible refine (HLa.out _ (And.left (by assumption))).mono ?_); rintro e V5 ⟨rfl, q5, rfl⟩); have hS5 := HSS.out _ (hS4.1.trans (Below.mono (below_draw _ q5) hS4.1.size)))
                | (go_at_call 22; ((with_reducible refine (HLs.out _).mono ?_); rintro e V6 ⟨lx, lc, rfl, hm6, hb6⟩); have hS6 := HSS.out _ (Below.trans (below_draw V3 _) (Below.mono hb6 (Below.size (below_draw V3 _)))); have HM6 := Lib.hid hm6; clear hm6 hb6)
                | (go_at_call 16; ((with_reducible refine (lists_same _ _ _ _ _ _ _ _ _ (HMr.out.later hS6.1) HM6.out).mono ?_); rintro e V7 ⟨rfl, q7, rfl⟩); have hS7 := HSS.out _ (hS6.1.trans (Below.mono (below_draw _ q7) hS6.1.size)))
                | fail)
            have hS9 := HSS.out (V6.drewN q7) (Below.trans hS6.1 (Below.mono (below_draw V6 q7) hS6.1.size))
            clear hS0 hS4 hS5 hS6 hS7 HM6 HMr
            generalize V6.drewN q7 = V9 at hS9 ⊢
            go_wp2_with fail
            go_roundg (n - (k + 1))
            case measure => omega
            case rel => exact ⟨k + 1, M9, L9, by omega, by go_num, HG9.out, HT3.out.later hS9.1, HN3.out.later hS9.1⟩
      · have hki : ¬ (k : Int) < (n : Int) := by omega
        have HBl := Lib.hid hs.bel
        clear hs hm
        go_wp2_with fail
        with_reducible refine (HL.out _).mono ?_
        rintro e w8 ⟨rfl, hb8⟩
        have HB8 := Lib.hid (HBl.out.trans (Below.mono hb8 HBl.out.size))
        clear hb8 HBl
        go_wp2
        go_ret
        exact ⟨rfl, HB8.out⟩
end Go.Proofs.Ytoegijmfcelgnaa
