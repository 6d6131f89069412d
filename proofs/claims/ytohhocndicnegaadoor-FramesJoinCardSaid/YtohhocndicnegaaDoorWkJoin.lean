/- The walk of FramesJoin. -/
import Derived.Test.YtohhocndicnegaaDoorFrTools
import Derived.Test.YtohhocndicnegaaDoorRefFr
namespace Go.Proofs.YtohhocndicnegaaDoor
open Go.RowKit

def okL (l : List Int) : Bool := decide (5 ≤ l.length) && decide (l.length ≤ 280)
theorem okL_iff (l : List Int) : okL l = true ↔ lenOk l := by unfold okL lenOk; simp
def wantOf (L : List (List Int)) : Int := if L.all okL then 0 else 5
theorem wantOf_snoc (L : List (List Int)) (l : List Int) : wantOf (L ++ [l]) = if okL l then wantOf L else 5 := by
  unfold wantOf
  rw [List.all_append]
  cases h : okL l <;> simp [h]
def rowsJ (b sz : List Int) (k : Nat) : List (List Int) := (List.range k).map fun i => octetsL b ((sz.getD i 0).toNat % 301)
theorem rowsJ_succ (b sz : List Int) (k : Nat) : rowsJ b sz (k + 1) = rowsJ b sz k ++ [octetsL b ((sz.getD k 0).toNat % 301)] := by
  unfold rowsJ; rw [List.range_succ, List.map_append, List.map_singleton]
theorem rowsJ_length (b sz : List Int) (k : Nat) : (rowsJ b sz k).length = k := by simp [rowsJ]
theorem wf_u16 {x : Int} : (Lit.int .u16 x).wf = true → 0 ≤ x ∧ x ≤ 65535 := by
  simp [Lit.wf, IntKind.min, IntKind.max, IntKind.bits, IntKind.signed]
set_option maxHeartbeats 2000000 in
set_option maxRecDepth 100000 in
theorem framesJoin_walk (a1 : Option Addr) (n1 c1 : Nat) (b : List Int) (a2 : Option Addr) (n2 c2 : Nat) (sz : List Int) (w : World) (hflag : FlagOk w) (h1 : Row .u8 w a1 n1 c1 b) (h2 : Row .u16 w a2 n2 c2 sz) :
    Calls Tryd.prog 4 #[.slice a1 n1 c1, .slice a2 n2 c2] w fun e w' => e = .returned (.bool true) ∧ Below w.heap.size w w' := by
  have BB0 := Lib.hid (Below.refl w.heap.size w)
  have HF0 := Lib.hid hflag
  have HR1 := Lib.hid h1
  have HR2 := Lib.hid h2
  have hle1 := h1.le
  have hcm1 := h1.max
  have hle2 := h2.le
  have hcm2 := h2.max
  unfold maxLen at hcm1 hcm2
  clear hflag h1 h2
  by_cases hbig : 6 < n2
  · go_enter Tryd.func4, Tryd.ntmps4
    go_wp2_with fail
    refine (lives_any w (HF0.out.later BB0.out)).mono ?_
    rintro e w11 ⟨rfl, hb⟩
    have BB12 := Lib.hid (BB0.out.trans ((hb).mono BB0.out.size))
    clear hb BB0
    go_wp2
    go_ret
    exact ⟨rfl, BB12.out⟩
  · go_enter Tryd.func4, Tryd.ntmps4
    go_wp2_with fail
    go_loopw [5, 6, 7, 8] (fun v wt i _ wr => ∃ k : Nat, ∃ q : Int, k ≤ n2 ∧ i = .int .i64 k ∧ wt = .int .i64 q ∧ q = wantOf (rowsJ b sz k) ∧ Below w.heap.size w wr ∧ Gath w.heap.size true v (rowsJ b sz k) wr) (fun _ _ i _ _ => n2 - (intOf i).toNat)
    case atStart => exact ⟨0, 0, Nat.zero_le _, rfl, rfl, rfl, Below.refl _ _, Gath.nil _ _ _⟩
    case round =>
      obtain ⟨k, q, hk, rfl, rfl, hq, hbel, hga⟩ := hrel
      by_cases hlt : k < n2
      · have hsr := HR2.out.later hbel
        obtain ⟨sb, so, rfl, g0⟩ := row_at hsr hlt
        have hx := wf_u16 (HR2.out.wf (sz.getD k 0) (by rw [List.getD_eq_getElem?_getD, List.getElem?_eq_getElem (by rw [HR2.out.len]; exact hlt), Option.getD_some]; exact List.getElem_mem _))
        obtain ⟨x, hxe⟩ : ∃ x, x = sz.getD k 0 := ⟨_, rfl⟩
        rw [← hxe] at g0 hx
        obtain ⟨y, rfl⟩ := Int.eq_ofNat_of_zero_le hx.1
        obtain ⟨n, hn⟩ : ∃ n, n = y % 301 := ⟨_, rfl⟩
        have hmod : (y : Int) % 301 = (n : Int) := by omega
        have hn300 : n ≤ 300 := by omega
        have hc := rowsJ_succ b sz k
        rw [← hxe, Int.toNat_natCast, ← hn] at hc
        obtain ⟨lr, hlr⟩ : ∃ lr, lr = octetsL b n := ⟨_, rfl⟩
        rw [← hlr] at hc
        have hll : lr.length = n := by rw [hlr, octetsL_length]
        have hws := wantOf_snoc (rowsJ b sz k) lr
        rw [← hc, ← hq] at hws
        have hct := octets2_row a1 n1 c1 b n lr wr (HR1.out.later hbel) (by omega) hlr.symm
        have hsz := hbel.size
        have HC := Lib.hid hc
        have HCt := Lib.hid hct
        have HG := Lib.hid hga
        have HB := Lib.hid hbel
        have HLl := Lib.hid hll
        have HWs := Lib.hid hws
        obtain ⟨hx0, hx1⟩ := hx
        clear hc hct hga hbel hsr hxe hn hll hlr hws hq
        go_wp2_with fail
        refine HCt.out.mono ?_
        rintro e w2 ⟨rfl, hb, hr⟩
        have hall := And.intro (HG.out.later hb) (And.intro (HB.out.trans (hb.mono hsz)) (HG.out.row hsz hr (fun _ h => h)))
        have HA := Lib.hid hall
        have hsz2 := hall.2.1.size
        clear hb hr hall
        go_wp2_with (at_builtin; refine wpList_append_row rfl _ _ rfl w.heap.size _ true _ _ _ _ rfl (by exact HA.out.1.mat) (by exact HA.out.2.2) (by exact fun _ hj hh => hh.2.1 hj) rfl (by rw [rowsJ_length]; omega) hsz2 ?_)
        intro v4 w4 q1 q2
        have hg4 := Gath.add q1 q2
        have hB4 := HA.out.2.1.trans (q2.below (B := w.heap.size) hsz2 (fun j hj => (HA.out.1.lt j hj).1))
        have HG4 := Lib.hid hg4
        have HB4 := Lib.hid hB4
        clear q1 q2 hg4 hB4
        have hfin : ∀ q' : Int, q' = (if okL lr then q else 5) → ∃ k' : Nat, ∃ q2 : Int, k' ≤ n2 ∧ Value.int .i64 ((k : Int) + 1) = .int .i64 k' ∧ Value.int .i64 q' = .int .i64 q2 ∧ q2 = wantOf (rowsJ b sz k') ∧ Below w.heap.size w w4 ∧ Gath w.heap.size true v4 (rowsJ b sz k') w4 := fun q' hq' =>
          ⟨k + 1, q', by omega, by push_cast; rfl, rfl, by rw [HWs.out]; exact hq', HB4.out, by rw [HC.out]; exact HG4.out⟩
        have HFin := Lib.hid hfin
        clear hfin
        by_cases h5 : n < 5
        · have hok : okL lr = false := by unfold okL; rw [HLl.out]; simp; omega
          have HOk := Lib.hid hok
          clear hok
          go_wp2
          exact ⟨HFin.out 5 (by rw [HOk.out]; rfl), by simp [intOf]; omega⟩
        · by_cases h280 : 280 < n
          · have hok : okL lr = false := by unfold okL; rw [HLl.out]; simp; omega
            have HOk := Lib.hid hok
            clear hok
            go_wp2
            exact ⟨HFin.out 5 (by rw [HOk.out]; rfl), by simp [intOf]; omega⟩
          · have hok : okL lr = true := by unfold okL; rw [HLl.out]; simp; omega
            have HOk := Lib.hid hok
            clear hok
            go_wp2
            exact ⟨HFin.out q (by rw [HOk.out]; rfl), by simp [intOf]; omega⟩
      · obtain rfl : k = n2 := by omega
        have hcl := rowsJ_length b sz k
        obtain ⟨L, hL⟩ : ∃ L, L = rowsJ b sz k := ⟨_, rfl⟩
        rw [← hL] at hga hcl hq
        obtain ⟨aL, cL, rfl, hmat, hlow⟩ := hga.done
        rw [hcl] at hmat ⊢
        have hleL := hmat.le
        have hcmL := hmat.max
        unfold maxLen at hcmL
        have HCl := Lib.hid hcl
        have HQ := Lib.hid hq
        have BB1 := Lib.hid hbel
        have ML1 := Lib.hid hmat
        have HNn := Lib.hid hmat.isNil
        clear hbel hga hmat hlow hcl hL hq HR1 HR2 BB0
        by_cases hall : L.all okL = true
        · have hq0 : q = 0 := by rw [HQ.out]; unfold wantOf; rw [if_pos hall]
          have hlk : ∀ l ∈ L, lenOk l := fun l hl => (okL_iff l).1 (List.all_eq_true.1 hall l hl)
          subst hq0
          obtain ⟨S, hS⟩ : ∃ S, S = (joinL L).length := ⟨_, rfl⟩
          have hjl := joinL_length L 6 280 (fun c hc => (hlk c hc).2) (by rw [HCl.out]; omega)
          rw [← hS] at hjl
          have hjl' : S ≤ 20000 := by omega
          have HS := Lib.hid hS
          have HLk := Lib.hid hlk
          clear hS hjl hlk hall
          go_wp2_with fail
          refine (join_n _ true _ _ _ S L (joinL L) _ (HF0.out.later BB1.out) ML1.out HLk.out (by omega) rfl HS.out.symm).mono ?_
          rintro e w201 ⟨⟨aJ, rfl, hrJ, hlJ⟩, hb⟩
          have BB202 := Lib.hid (BB1.out.trans ((hb).mono BB1.out.size))
          have ML203 := Lib.hid (ML1.out.later (hb))
          have RJ204 := Lib.hid (hrJ)
          clear hb hrJ hlJ BB1 ML1
          go_wp2_with fail
          refine (refJoin_any _ true _ _ _ L _ ML203.out HLk.out (by omega)).mono ?_
          rintro e w205 ⟨⟨v205, a205, c205, rfl, hv205, r205⟩, hb⟩
          have BB206 := Lib.hid (BB202.out.trans ((hb).mono BB202.out.size))
          have ML207 := Lib.hid (ML203.out.later (hb))
          have RJ208 := Lib.hid (RJ204.out.later (hb))
          have RK209 := Lib.hid (r205)
          clear BB202 ML203 RJ204
          have hv2 : v205 = .slice a205 S c205 := by rw [HS.out]; exact hv205
          clear hv205
          subst hv2
          have hrk := RK209.out
          rw [← HS.out] at hrk
          clear RK209
          have RK210 := Lib.hid (hrk)
          clear hrk hb r205
          go_wp2_with fail
          refine (bytes_yes _ _ S S _ _ _ RJ208.out RK210.out).mono ?_
          rintro e w' ⟨rfl, q211, rfl⟩
          have hb := below_draw w205 q211
          obtain ⟨w211, hw⟩ : ∃ x, x = (w205).drewN q211 := ⟨_, rfl⟩
          rw [← hw] at hb ⊢
          have BB212 := Lib.hid (BB206.out.trans ((hb).mono BB206.out.size))
          have ML213 := Lib.hid (ML207.out.later (hb))
          clear hb hw BB206 ML207 RJ208 RK210
          go_wp2_with fail
          go_loopw [11, 12, 13, 14, 15] (fun i _ _ _ _ wq => ∃ j : Nat, j ≤ k ∧ i = .int .i64 j ∧ Below w.heap.size w wq ∧ Mat wq (fun j => w.heap.size ≤ j ∧ j < wr.heap.size) true aL k cL L) (fun i _ _ _ _ _ => k - (intOf i).toNat)
          case atStart => exact ⟨0, Nat.zero_le _, rfl, BB212.out, ML213.out⟩
          case round =>
            obtain ⟨j, hj, rfl, hbq, hmq⟩ := hrel
            by_cases hlt2 : j < k
            · obtain ⟨mb, mo, ra, m, rc, l, rfl, g0, hr, htt, hzz, hl, hm⟩ := hmq.at hlt2
              have hrc : m = rc := (htt rfl).symm
              subst hrc
              clear htt hzz
              have hle := hr.le
              have hcmr := hr.max
              unfold maxLen at hcmr
              have BB214 := Lib.hid (hbq)
              have ML215 := Lib.hid (hmq)
              have RR216 := Lib.hid (hr)
              have HM := Lib.hid hm
              clear hbq hmq hr hl hm
              have hmb := World.block_lt_of_cell? wr _ g0
              simp only at hmb
              by_cases hok : lenOk l
              · have h5 : 5 ≤ m := by have := hok.1; rw [HM.out] at this; exact this
                have h280 : m ≤ 280 := by have := hok.2; rw [HM.out] at this; exact this
                obtain ⟨N, hN⟩ : ∃ N, N = (joinL [l]).length := ⟨_, rfl⟩
                have hN2 : N ≤ 2816 := by have := joinL_length [l] 1 280 (fun c hc => by simp at hc; subst hc; exact hok.2) (by simp); omega
                have HN := Lib.hid hN
                have HOk := Lib.hid hok
                clear hN hok
                go_wp2_with fail
                refine (frame_n _ m m N l (joinL [l]) _ (HF0.out.later BB214.out) RR216.out HOk.out rfl HN.out.symm).mono ?_
                rintro e wA ⟨⟨aA, rfl, rA⟩, hb⟩
                have hsA := hb.size
                have g1 := (hb.cell (p := ⟨mb, mo + j, none⟩) (by simp only; omega)).trans g0
                have BB257 := Lib.hid (BB214.out.trans ((hb).mono BB214.out.size))
                have ML258 := Lib.hid (ML215.out.later (hb))
                have RR259 := Lib.hid (RR216.out.later (hb))
                have R1260 := Lib.hid (rA)
                clear hb rA g0 BB214 ML215 RR216
                go_wp2_with fail
                refine (join_n _ false _ 1 1 N [l] (joinL [l]) _ ((HF0.out.later BB257.out).later (below_alloc _ _)) (mat_one (row_rowV RR259.out)) (by simpa using HOk.out) (by omega) rfl HN.out.symm).mono ?_
                rintro e wB ⟨⟨aB, rfl, rB, _⟩, hb0⟩
                have hb := below_call hb0
                have hsB := hb.size
                have g2 := (hb.cell (p := ⟨mb, mo + j, none⟩) (by simp only; omega)).trans g1
                have BB261 := Lib.hid (BB257.out.trans ((hb).mono BB257.out.size))
                have ML262 := Lib.hid (ML258.out.later (hb))
                have RR263 := Lib.hid (RR259.out.later (hb))
                have R1264 := Lib.hid (R1260.out.later (hb))
                have R2265 := Lib.hid (rB)
                clear hb hb0 rB g1 BB257 ML258 RR259 R1260
                go_wp2_with fail
                refine (same_yes _ _ N N N N _ _ R1264.out R2265.out).mono ?_
                rintro e w' ⟨rfl, qs, rfl⟩
                have hb := below_draw wB qs
                obtain ⟨ws, hws⟩ : ∃ v, v = wB.drewN qs := ⟨_, rfl⟩
                rw [← hws] at hb ⊢
                have g3 := (hb.cell (p := ⟨mb, mo + j, none⟩) (by simp only; omega)).trans g2
                have BB266 := Lib.hid (BB261.out.trans ((hb).mono BB261.out.size))
                have ML267 := Lib.hid (ML262.out.later (hb))
                clear hb hws g2 BB261 ML262 RR263 R1264 R2265
                have hd1 : decide ((m : Int) < 5) = false := by simp; omega
                have hd2 : decide ((5 : Int) ≤ (m : Int)) = true := by simp; omega
                have hd3 : decide ((280 : Int) < (m : Int)) = false := by simp; omega
                have hd4 : decide ((m : Int) ≤ 280) = true := by simp; omega
                go_wp2
                exact ⟨⟨j + 1, by omega, by go_num, BB266.out, ML267.out⟩, by simp [intOf]; omega⟩
              · have hlen : m < 5 ∨ 280 < m := by unfold lenOk at hok; rw [HM.out] at hok; omega
                have HOk := Lib.hid hok
                clear hok
                go_wp2_with fail
                refine (frame_bad _ m m l _ RR216.out HOk.out).mono ?_
                rintro e wA ⟨rfl, hb⟩
                have hsA := hb.size
                have g1 := (hb.cell (p := ⟨mb, mo + j, none⟩) (by simp only; omega)).trans g0
                have BB297 := Lib.hid (BB214.out.trans ((hb).mono BB214.out.size))
                have ML298 := Lib.hid (ML215.out.later (hb))
                have RR299 := Lib.hid (RR216.out.later (hb))
                clear hb g0 BB214 ML215 RR216
                go_wp2_with fail
                refine (join_bad _ false _ 1 1 [l] _ (mat_one (row_rowV RR299.out)) ⟨l, by simp, HOk.out⟩).mono ?_
                rintro e w' ⟨rfl, rfl⟩
                have hb := below_alloc wA (.cells #[.slice ra m m] 22)
                obtain ⟨wB, hwB⟩ : ∃ v, v = wA.alloc (.cells #[.slice ra m m] 22) := ⟨_, rfl⟩
                rw [← hwB] at hb ⊢
                have hsB := hb.size
                have g2 := (hb.cell (p := ⟨mb, mo + j, none⟩) (by simp only; omega)).trans g1
                have BB300 := Lib.hid (BB297.out.trans ((hb).mono BB297.out.size))
                have ML301 := Lib.hid (ML298.out.later (hb))
                have RR302 := Lib.hid (RR299.out.later (hb))
                clear hb hwB g1 BB297 ML298 RR299
                go_wp2_with fail
                refine (same_yes none none 0 0 0 0 [] _ (Row.of_nil _ _) (Row.of_nil _ _)).mono ?_
                rintro e w' ⟨rfl, qs, rfl⟩
                have hb := below_draw wB qs
                obtain ⟨ws, hws⟩ : ∃ v, v = wB.drewN qs := ⟨_, rfl⟩
                rw [← hws] at hb ⊢
                have g3 := (hb.cell (p := ⟨mb, mo + j, none⟩) (by simp only; omega)).trans g2
                have BB303 := Lib.hid (BB300.out.trans ((hb).mono BB300.out.size))
                have ML304 := Lib.hid (ML301.out.later (hb))
                clear hb hws g2 BB300 ML301 RR302
                rcases hlen with h5 | h280
                · have hd1 : decide ((m : Int) < 5) = true := by simp; omega
                  have hd2 : decide ((5 : Int) ≤ (m : Int)) = false := by simp; omega
                  go_wp2
                  exact ⟨⟨j + 1, by omega, by go_num, BB303.out, ML304.out⟩, by simp [intOf]; omega⟩
                · have h5 : 5 ≤ m := by omega
                  have hd1 : decide ((m : Int) < 5) = false := by simp; omega
                  have hd2 : decide ((5 : Int) ≤ (m : Int)) = true := by simp; omega
                  have hd3 : decide ((280 : Int) < (m : Int)) = true := by simp; omega
                  have hd4 : decide ((m : Int) ≤ 280) = false := by simp; omega
                  go_wp2
                  exact ⟨⟨j + 1, by omega, by go_num, BB303.out, ML304.out⟩, by simp [intOf]; omega⟩
            · obtain rfl : j = k := by omega
              have BB217 := Lib.hid (hbq)
              clear hbq hmq
              go_wp2_with fail
              refine (lives_any wr (HF0.out.later BB217.out)).mono ?_
              rintro e w218 ⟨rfl, hb⟩
              have BB219 := Lib.hid (BB217.out.trans ((hb).mono BB217.out.size))
              clear hb BB217
              go_wp2
              go_ret
              exact ⟨rfl, BB219.out⟩
        · have hq5 : q = 5 := by rw [HQ.out]; unfold wantOf; rw [if_neg hall]
          subst hq5
          have hbad : ∃ l ∈ L, ¬ lenOk l := by
            rw [List.all_eq_true] at hall
            refine Classical.byContradiction fun hno => hall fun l hl => (okL_iff l).2 (Classical.byContradiction fun h => hno ⟨l, hl, h⟩)
          have HBad := Lib.hid hbad
          clear hbad hall
          go_wp2_with fail
          refine (join_bad _ true _ _ _ L _ ML1.out HBad.out).mono ?_
          rintro e w' ⟨rfl, rfl⟩
          go_wp2_with fail
          go_loopw [11, 12, 13, 14, 15] (fun i _ _ _ _ wq => ∃ j : Nat, j ≤ k ∧ i = .int .i64 j ∧ Below w.heap.size w wq ∧ Mat wq (fun j => w.heap.size ≤ j ∧ j < wr.heap.size) true aL k cL L) (fun i _ _ _ _ _ => k - (intOf i).toNat)
          case atStart => exact ⟨0, Nat.zero_le _, rfl, BB1.out, ML1.out⟩
          case round =>
            obtain ⟨j, hj, rfl, hbq, hmq⟩ := hrel
            by_cases hlt2 : j < k
            · obtain ⟨mb, mo, ra, m, rc, l, rfl, g0, hr, htt, hzz, hl, hm⟩ := hmq.at hlt2
              have hrc : m = rc := (htt rfl).symm
              subst hrc
              clear htt hzz
              have hle := hr.le
              have hcmr := hr.max
              unfold maxLen at hcmr
              have BB401 := Lib.hid (hbq)
              have ML402 := Lib.hid (hmq)
              have RR403 := Lib.hid (hr)
              have HM := Lib.hid hm
              clear hbq hmq hr hl hm
              have hmb := World.block_lt_of_cell? wr _ g0
              simp only at hmb
              by_cases hok : lenOk l
              · have h5 : 5 ≤ m := by have := hok.1; rw [HM.out] at this; exact this
                have h280 : m ≤ 280 := by have := hok.2; rw [HM.out] at this; exact this
                obtain ⟨N, hN⟩ : ∃ N, N = (joinL [l]).length := ⟨_, rfl⟩
                have hN2 : N ≤ 2816 := by have := joinL_length [l] 1 280 (fun c hc => by simp at hc; subst hc; exact hok.2) (by simp); omega
                have HN := Lib.hid hN
                have HOk := Lib.hid hok
                clear hN hok
                go_wp2_with fail
                refine (frame_n _ m m N l (joinL [l]) _ (HF0.out.later BB401.out) RR403.out HOk.out rfl HN.out.symm).mono ?_
                rintro e wA ⟨⟨aA, rfl, rA⟩, hb⟩
                have hsA := hb.size
                have g1 := (hb.cell (p := ⟨mb, mo + j, none⟩) (by simp only; omega)).trans g0
                have BB444 := Lib.hid (BB401.out.trans ((hb).mono BB401.out.size))
                have ML445 := Lib.hid (ML402.out.later (hb))
                have RR446 := Lib.hid (RR403.out.later (hb))
                have R1447 := Lib.hid (rA)
                clear hb rA g0 BB401 ML402 RR403
                go_wp2_with fail
                refine (join_n _ false _ 1 1 N [l] (joinL [l]) _ ((HF0.out.later BB444.out).later (below_alloc _ _)) (mat_one (row_rowV RR446.out)) (by simpa using HOk.out) (by omega) rfl HN.out.symm).mono ?_
                rintro e wB ⟨⟨aB, rfl, rB, _⟩, hb0⟩
                have hb := below_call hb0
                have hsB := hb.size
                have g2 := (hb.cell (p := ⟨mb, mo + j, none⟩) (by simp only; omega)).trans g1
                have BB448 := Lib.hid (BB444.out.trans ((hb).mono BB444.out.size))
                have ML449 := Lib.hid (ML445.out.later (hb))
                have RR450 := Lib.hid (RR446.out.later (hb))
                have R1451 := Lib.hid (R1447.out.later (hb))
                have R2452 := Lib.hid (rB)
                clear hb hb0 rB g1 BB444 ML445 RR446 R1447
                go_wp2_with fail
                refine (same_yes _ _ N N N N _ _ R1451.out R2452.out).mono ?_
                rintro e w' ⟨rfl, qs, rfl⟩
                have hb := below_draw wB qs
                obtain ⟨ws, hws⟩ : ∃ v, v = wB.drewN qs := ⟨_, rfl⟩
                rw [← hws] at hb ⊢
                have g3 := (hb.cell (p := ⟨mb, mo + j, none⟩) (by simp only; omega)).trans g2
                have BB453 := Lib.hid (BB448.out.trans ((hb).mono BB448.out.size))
                have ML454 := Lib.hid (ML449.out.later (hb))
                clear hb hws g2 BB448 ML449 RR450 R1451 R2452
                have hd1 : decide ((m : Int) < 5) = false := by simp; omega
                have hd2 : decide ((5 : Int) ≤ (m : Int)) = true := by simp; omega
                have hd3 : decide ((280 : Int) < (m : Int)) = false := by simp; omega
                have hd4 : decide ((m : Int) ≤ 280) = true := by simp; omega
                go_wp2
                exact ⟨⟨j + 1, by omega, by go_num, BB453.out, ML454.out⟩, by simp [intOf]; omega⟩
              · have hlen : m < 5 ∨ 280 < m := by unfold lenOk at hok; rw [HM.out] at hok; omega
                have HOk := Lib.hid hok
                clear hok
                go_wp2_with fail
                refine (frame_bad _ m m l _ RR403.out HOk.out).mono ?_
                rintro e wA ⟨rfl, hb⟩
                have hsA := hb.size
                have g1 := (hb.cell (p := ⟨mb, mo + j, none⟩) (by simp only; omega)).trans g0
                have BB484 := Lib.hid (BB401.out.trans ((hb).mono BB401.out.size))
                have ML485 := Lib.hid (ML402.out.later (hb))
                have RR486 := Lib.hid (RR403.out.later (hb))
                clear hb g0 BB401 ML402 RR403
                go_wp2_with fail
                refine (join_bad _ false _ 1 1 [l] _ (mat_one (row_rowV RR486.out)) ⟨l, by simp, HOk.out⟩).mono ?_
                rintro e w' ⟨rfl, rfl⟩
                have hb := below_alloc wA (.cells #[.slice ra m m] 22)
                obtain ⟨wB, hwB⟩ : ∃ v, v = wA.alloc (.cells #[.slice ra m m] 22) := ⟨_, rfl⟩
                rw [← hwB] at hb ⊢
                have hsB := hb.size
                have g2 := (hb.cell (p := ⟨mb, mo + j, none⟩) (by simp only; omega)).trans g1
                have BB487 := Lib.hid (BB484.out.trans ((hb).mono BB484.out.size))
                have ML488 := Lib.hid (ML485.out.later (hb))
                have RR489 := Lib.hid (RR486.out.later (hb))
                clear hb hwB g1 BB484 ML485 RR486
                go_wp2_with fail
                refine (same_yes none none 0 0 0 0 [] _ (Row.of_nil _ _) (Row.of_nil _ _)).mono ?_
                rintro e w' ⟨rfl, qs, rfl⟩
                have hb := below_draw wB qs
                obtain ⟨ws, hws⟩ : ∃ v, v = wB.drewN qs := ⟨_, rfl⟩
                rw [← hws] at hb ⊢
                have g3 := (hb.cell (p := ⟨mb, mo + j, none⟩) (by simp only; omega)).trans g2
                have BB490 := Lib.hid (BB487.out.trans ((hb).mono BB487.out.size))
                have ML491 := Lib.hid (ML488.out.later (hb))
                clear hb hws g2 BB487 ML488 RR489
                rcases hlen with h5 | h280
                · have hd1 : decide ((m : Int) < 5) = true := by simp; omega
                  have hd2 : decide ((5 : Int) ≤ (m : Int)) = false := by simp; omega
                  go_wp2
                  exact ⟨⟨j + 1, by omega, by go_num, BB490.out, ML491.out⟩, by simp [intOf]; omega⟩
                · have h5 : 5 ≤ m := by omega
                  have hd1 : decide ((m : Int) < 5) = false := by simp; omega
                  have hd2 : decide ((5 : Int) ≤ (m : Int)) = true := by simp; omega
                  have hd3 : decide ((280 : Int) < (m : Int)) = true := by simp; omega
                  have hd4 : decide ((m : Int) ≤ 280) = false := by simp; omega
                  go_wp2
                  exact ⟨⟨j + 1, by omega, by go_num, BB490.out, ML491.out⟩, by simp [intOf]; omega⟩
            · obtain rfl : j = k := by omega
              have BB404 := Lib.hid (hbq)
              clear hbq hmq
              go_wp2_with fail
              refine (lives_any wr (HF0.out.later BB404.out)).mono ?_
              rintro e w405 ⟨rfl, hb⟩
              have BB406 := Lib.hid (BB404.out.trans ((hb).mono BB404.out.size))
              clear hb BB404
              go_wp2
              go_ret
              exact ⟨rfl, BB406.out⟩
end Go.Proofs.YtohhocndicnegaaDoor
