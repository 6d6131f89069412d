/- Joined: PcApi3 PcSmall. -/
import Derived.Test.YthlckipcgogogaaGreatDoorPcApi2
import Derived.BigQuiet
/- The code's Choices. -/
namespace Go.Proofs.YthlckipcgogogaaGreatDoor
set_option linter.unusedVariables false
open Go.RowKit

theorem infoC : (Tryz.prog.info? 106).map (fun i => (i.zero, i.size, i.bytes)) = some (some (.agg #[.int .u16 0, .int .i64 0]), 2, 16) := by kernel_rfl
def ChV (p : Pn) (t u : Int) (i : Nat) (Q : List Int → List Nat → Prop) (w : World) (e : Ending) (w' : World) : Prop :=
  ∃ l o a X, DisOk p u l ∧ OrdOk p.P.length (wayL p.P.length l).length o ∧ Q l o ∧ X.Perm (candL p.P u l (putPos l o o.length) i (nbrs p t)) ∧ X.Pairwise (fun x y => Go.Proofs.ltOf cfC y x = false) ∧ e = .returned (.tuple #[.slice a X.length X.length, .int .i64 0]) ∧ CRow w' a X.length X.length X ∧ Below w.heap.size w w'
theorem candO_no {P : List (Int × Bool)} {t : Int} {l h : List Int} {own i : Nat} {c : Int} (hf : fnd P c = some i) (hn : ¬ ((h.getD i 0 ≠ -1 ∧ h.getD i 0 < h.getD own 0) ∧ (pt P i = true ∨ c = t))) : (candO P t l h own c).toList = [] := by
  unfold candO; rw [hf]; simp only; rw [if_neg hn]; rfl
theorem candO_yes {P : List (Int × Bool)} {t : Int} {l h : List Int} {own i : Nat} {c : Int} (hf : fnd P c = some i) (hn : (h.getD i 0 ≠ -1 ∧ h.getD i 0 < h.getD own 0) ∧ (pt P i = true ∨ c = t)) : (candO P t l h own c).toList = [(c, l.getD i 0)] := by
  unfold candO; rw [hf]; simp only; rw [if_pos hn]; rfl
/-- What stays while choices are gathered. -/
structure ChAt (p : Pn) (w : World) (bx : Nat) (a : Option Addr) (n c : Nat) (a' : Option Addr) (n' c' : Nat) (g gh : Nat) (l hh nb : List Int) (a2 : Option Addr) (W : World) : Prop where
  below : Below w.heap.size w W
  box : PlanAt W bx a n c a' n' c' p
  own : Own W g 3 (nums .i64 l)
  hrow : Row .i64 W (some ⟨gh, 0, none⟩) n n hh
  nrow : Row .u16 W a2 nb.length nb.length nb
theorem ChAt.later {p : Pn} {w : World} {bx : Nat} {a : Option Addr} {n c : Nat} {a' : Option Addr} {n' c' : Nat} {g gh : Nat} {l hh nb : List Int} {a2 : Option Addr} {W W' : World} (h : ChAt p w bx a n c a' n' c' g gh l hh nb a2 W) (hb : Below W.heap.size W W') : ChAt p w bx a n c a' n' c' g gh l hh nb a2 W' :=
  ⟨h.below.trans (hb.mono h.below.size), h.box.later hb, h.own.below hb h.own.lt, h.hrow.later hb, h.nrow.later hb⟩
set_option maxRecDepth 20000 in
set_option maxHeartbeats 8000000 in
theorem choices_ok (p : Pn) (a : Option Addr) (n c : Nat) (a' : Option Addr) (n' c' : Nat) (t u : Int) (w : World) (hP : PRow w a n c p.P) (hL : LRow w a' n' c' p.L) (hE : chkPts p [t, u] = 0) (htu : t ≠ u) (i s : Nat) (hi : fnd p.P t = some i) (hs : fnd p.P u = some s) (hv : ValidPl p) (Q : List Int → List Nat → Prop) (hst : StAll p u Q) :
    Calls Tryz.prog 27 #[planV a n c a' n' c' p, .int .u16 t, .int .u16 u] w (ChV p t u i Q w) := by
  have hN := fun (W : World) (hp : PRow W a n c p.P) (h : LRow W a' n' c' p.L) => distancesOf_any p a n c a' n' c' u s W hp h hv hs
  have hI := fun (W : World) (x : Int) (h : PRow W a n c p.P) => cindex_any p a n c a' n' c' x W h
  have hNb := fun (W : World) (h : LRow W a' n' c' p.L) => neighborsOf_any p a n c a' n' c' t W h hv
  have h0 := hv.n0
  have h64 := hv.np
  have hin : i < p.P.length := (fnd_some_iff.1 hi).1
  have HIs := Lib.hid (idN_some hi)
  have HIn : Inhabited (Fin p.P.length) := ⟨⟨0, h0⟩⟩
  have HSt := Lib.hid (fun (l : List Int) (g : Nat) (h : DisOk p u l) => hst l g h)
  clear hst
  have HH := Lib.hid (fun (l : List Int) (g : Nat) (W : World) (hok : DisOk p u l) (ho : Own W g 3 (nums .i64 l)) => heightsOf_gen p.P.length l g (Q l) W h64 h0 hok.len hok.small (way_some hok hs) ho (HSt.out l g hok))
  have hne : (t == u) = false := by simpa using htu
  obtain ⟨W, hW⟩ : ∃ W, W = w.alloc (.cells (planCells a n c a' n' c' p).toArray 31) := ⟨_, rfl⟩
  have hB : Below w.heap.size w W := by rw [hW]; exact below_alloc _ _
  have hA : PlanAt W w.heap.size a n c a' n' c' p := by rw [hW]; exact PlanAt.new _ _ _ _ _ _ _ _
  have hlt : w.heap.size < W.heap.size := hA.lt
  have hB1 : Below w.heap.size w (W.alloc (.cells #[.int .u16 t, .int .u16 u] 53)) := hB.trans ((below_alloc W _).mono hB.size)
  have hsz : W.heap.size = w.heap.size + 1 := by rw [hW]; simp
  have ho := own_alloc W (nums .u16 [t, u]) 53
  rw [hsz] at ho
  have hC := cchk_any p a n c a' n' c' (w.heap.size + 1) [t, u] 2 rfl (by decide) (W.alloc (.cells #[.int .u16 t, .int .u16 u] 53)) (hP.later hB1) (hL.later hB1) ho
  clear ho hsz
  rw [hE] at hC
  unfold planV at *
  have HC := Lib.hid hC
  have HB1 := Lib.hid hB1
  have HA := Lib.hid hA
  obtain ⟨g0, g1, g2, g3, g4, g5, g6⟩ := hA.cells
  clear hC hB hA hB1
  go_enter Tryz.func27, Tryz.ntmps27
  go_wp2_with fail
  show Calls _ _ _ ((w.alloc (.cells (planCells a n c a' n' c' p).toArray 31)).alloc _) _
  rw [← hW]
  clear hW
  with_reducible refine HC.out.mono ?_
  rintro e w1 ⟨rfl, hb⟩
  have HB2 := Lib.hid (HB1.out.trans (hb.mono HB1.out.size))
  clear g0 g1 g2 g3 g4 g5 g6
  obtain ⟨g0, g1, g2, g3, g4, g5, g6⟩ := (HA.out.later (by exact (below_alloc W _).trans (hb.mono (below_alloc W _).size))).cells
  have HA2 := Lib.hid (HA.out.later (by exact (below_alloc W _).trans (hb.mono (below_alloc W _).size)))
  clear hb HC
  have HV := Lib.hid hv
  have HP := Lib.hid hP
  have HL := Lib.hid hL
  have HPl := Lib.hid hP.len
  have HN := Lib.hid (hN w1 (hP.later HB2.out) (hL.later HB2.out))
  have HI := Lib.hid hI
  have HNb := Lib.hid hNb
  clear hN hI hNb htu hv
  go_wp2_with fail
  with_reducible refine HN.out.mono ?_
  rintro e w3 ⟨g, l, n9, hn9, hok, rfl, ho, hg, hb⟩
  have hcon := HH.out l g w3 hok ho
  rw [hn9] at hcon
  have HCon := Lib.hid hcon
  have HR := Lib.hid (And.intro hn9 hok)
  have HB4 := Lib.hid (HB2.out.trans (hb.mono HB2.out.size))
  have HA4 := Lib.hid (HA2.out.later hb)
  have HO4 := Lib.hid ho
  have hnn : n9 = n := by have := hP.len; omega
  have hin9 : i < n9 := by omega
  clear hP hL
  subst hnn
  clear hb HN hn9 hok ho hg hcon HH HSt g0 g1 g2 g3 g4 g5 g6 h0 HB2 HA2
  go_wp2_with fail
  with_reducible refine HCon.out.mono ?_
  rintro e w4 ⟨gh, o, hord, hq, rfl, hr, _, hb⟩
  have HR2 := Lib.hid (And.intro hord hq)
  obtain ⟨hh, hhd⟩ : ∃ hh, hh = putPos l o o.length := ⟨_, rfl⟩
  rw [← hhd] at hr
  have HHd := Lib.hid hhd
  have HRow := Lib.hid hr
  have HB5 := Lib.hid (HB4.out.trans (hb.mono HB4.out.size))
  have HA5 := Lib.hid (HA4.out.later hb)
  have HO5 := Lib.hid (HO4.out.below hb HO4.out.lt)
  clear hb hord hq hr HCon hhd HB4 HA4 HO4
  obtain ⟨g0, g1, g2, g3, g4, g5, g6⟩ := HA5.out.cells
  have hI1 := HI.out w4 t (HP.out.later HB5.out)
  rw [HIs.out.1, HIs.out.2] at hI1
  have HI1 := Lib.hid hI1
  clear hI1
  go_wp2_with fail
  with_reducible refine HI1.out.mono ?_
  rintro e w5 ⟨rfl, hb⟩
  have HB6 := Lib.hid (HB5.out.trans (hb.mono HB5.out.size))
  have HA6 := Lib.hid (HA5.out.later hb)
  have HO6 := Lib.hid (HO5.out.below hb HO5.out.lt)
  have HRow6 := Lib.hid (HRow.out.later hb)
  clear hb g0 g1 g2 g3 g4 g5 g6 HI1 HB5 HA5 HO5 HRow
  obtain ⟨g0, g1, g2, g3, g4, g5, g6⟩ := HA6.out.cells
  have HNb1 := Lib.hid (HNb.out w5 (HL.out.later HB6.out))
  obtain ⟨nb, hnb⟩ : ∃ nb, nb = nbrs p t := ⟨_, rfl⟩
  rw [← hnb] at HNb1
  have HNB := Lib.hid hnb
  clear hnb HNb
  go_wp2_with fail
  with_reducible refine HNb1.out.mono ?_
  rintro e w6 ⟨a2, rfl, hr2, hb, _⟩
  have HC0 : Hid (ChAt p w w.heap.size a n9 c a' n' c' g gh l hh nb a2 w6) := Lib.hid ⟨HB6.out.trans (hb.mono HB6.out.size), HA6.out.later hb, HO6.out.below hb HO6.out.lt, HRow6.out.later hb, hr2⟩
  have hmb : nb.length ≤ 1024 := by have := nbrs_none p t; have := HV.out.nl; rw [HNB.out]; omega
  obtain ⟨m, hm⟩ : ∃ m, m = nb.length := ⟨_, rfl⟩
  rw [← hm] at hmb ⊢
  have HM := Lib.hid hm
  clear hb hr2 hm HNb1 HB6 HA6 HO6 HRow6 g0 g1 g2 g3 g4 g5 g6
  go_wp2_with fail
  go_loopw [13, 45] (fun v jv wr => ∃ j : Nat, j ≤ m ∧ jv = .int .i64 j ∧ Below w6.heap.size w6 wr ∧ wr.ownsRow w6.heap.size 106 2 v (candL p.P u l hh i (nb.take j)).length (cellsC (candL p.P u l hh i (nb.take j)))) (fun _ jv _ => m - (intOf jv).toNat)
  case atStart => exact ⟨0, Nat.zero_le _, rfl, Below.refl _ _, by simpa [candL, cellsC] using World.ownsRow_nil w6 w6.heap.size 106 2⟩
  case round =>
    obtain ⟨j, hj, rfl, hb, hown⟩ := hrel
    have HC := Lib.hid (HC0.out.later hb)
    have HBr := Lib.hid hb
    have hle := candL_le p.P u l hh i (nb.take j)
    rw [List.length_take, ← HM.out] at hle
    obtain ⟨Z, hZ⟩ : ∃ Z, Z = candL p.P u l hh i (nb.take j) := ⟨_, rfl⟩
    rw [← hZ] at hown hle
    have HZ := Lib.hid hZ
    have HW := Lib.hid hown
    have hsz : w6.heap.size ≤ wr.heap.size := hb.size
    clear hb hown hZ
    by_cases hjm : j < m
    · have hjl : j < nb.length := by rw [← HM.out]; exact hjm
      obtain ⟨b2, o2, rfl, hc2⟩ := HC.out.nrow.cells.resolve_left (by omega)
      have d0 := hc2 j hjl
      clear hc2
      obtain ⟨q, hq⟩ : ∃ q, q = nb.getD j 0 := ⟨_, rfl⟩
      rw [← hq] at d0
      have hqm : q ∈ nbrs p t := by rw [hq, ← HNB.out, List.getD_eq_getElem?_getD, List.getElem?_eq_getElem hjl]; exact List.getElem_mem _
      obtain ⟨k, hkn, hkq, hfk⟩ := nbrs_place HV.out hqm
      have HT := Lib.hid (candL_take p.P u l hh i nb j hjl)
      rw [← hq, ← HZ.out] at HT
      have hk9 : k < n9 := by have := HPl.out; omega
      have HF := Lib.hid hfk
      clear hq hqm hfk
      obtain ⟨g0, g1, g2, g3, g4, g5, g6⟩ := HC.out.box.cells
      have j1 : (j : Int) < (m : Int) := by omega
      have j2 : (0 : Int) ≤ (j : Int) := by omega
      have hI2 := HI.out wr q (HP.out.later HC.out.below)
      rw [(idN_some HF.out).1, (idN_some HF.out).2] at hI2
      have HI2 := Lib.hid hI2
      clear hI2
      go_wp2_with fail
      with_reducible refine HI2.out.mono ?_
      rintro e w7 ⟨rfl, hb⟩
      have HC7 := Lib.hid (HC.out.later hb)
      have HB7 := Lib.hid (HBr.out.trans (hb.mono HBr.out.size))
      have HW7 := Lib.hid (ownsK_below HW.out hb)
      have hsz7 : w6.heap.size ≤ w7.heap.size := HB7.out.size
      clear hb HI2 HC HW g0 g1 g2 g3 g4 g5 g6 d0
      obtain ⟨g0, g1, g2, g3, g4, g5, g6⟩ := HC7.out.box.cells
      have c1 := HC7.out.own.cell k (by rw [nums_length, HR.out.2.len]; exact hkn)
      rw [nums_getD _ _ _ (by rw [HR.out.2.len]; exact hkn)] at c1
      obtain ⟨bh, oh, hbe, hch⟩ := HC7.out.hrow.cells.resolve_left (by omega)
      cases hbe
      have c2 := hch k hk9
      have c3 := hch i hin9
      rw [Nat.zero_add] at c2 c3
      clear hch
      obtain ⟨bp, op, rfl, hcp⟩ := (HP.out.later HC7.out.below).cells.resolve_left (by omega)
      have c4 := (hcp k hk9).2
      clear hcp
      obtain ⟨lk, hlk⟩ : ∃ x, x = l.getD k 0 := ⟨_, rfl⟩
      obtain ⟨hk, hhk⟩ : ∃ x, x = hh.getD k 0 := ⟨_, rfl⟩
      obtain ⟨ho, hho⟩ : ∃ x, x = hh.getD i 0 := ⟨_, rfl⟩
      obtain ⟨y, hy⟩ : ∃ y, y = pt p.P k := ⟨_, rfl⟩
      rw [← hlk] at c1
      rw [← hhk] at c2
      rw [← hho] at c3
      rw [← hy] at c4
      have HNo := Lib.hid (fun (hn : ¬ ((hk ≠ -1 ∧ hk < ho) ∧ (y = true ∨ q = u))) => show candL p.P u l hh i (nb.take (j + 1)) = Z by
        rw [HT.out, candO_no HF.out (by rw [← hhk, ← hho, ← hy]; exact hn), List.append_nil])
      have HYes := Lib.hid (fun (hn : (hk ≠ -1 ∧ hk < ho) ∧ (y = true ∨ q = u)) => show candL p.P u l hh i (nb.take (j + 1)) = Z ++ [(q, lk)] by
        rw [HT.out, candO_yes HF.out (by rw [← hhk, ← hho, ← hy]; exact hn), ← hlk])
      clear hlk hhk hho hy HT
      have k1 : (k : Int) < (n9 : Int) := by omega
      have k2 : (0 : Int) ≤ (k : Int) := by omega
      have k3 : (i : Int) < (n9 : Int) := by omega
      have k4 : (0 : Int) ≤ (i : Int) := by omega
      have HEnd : Hid (∀ W, Below w7.heap.size w7 W → Below w6.heap.size w6 W ∧ W.ownsRow w6.heap.size 106 2 _ Z.length (cellsC Z)) := Lib.hid (fun W hb => ⟨HB7.out.trans (hb.mono HB7.out.size), ownsK_below HW7.out hb⟩)
      by_cases hm1 : hk = -1
      · subst hm1
        have HX := Lib.hid (HNo.out (fun h => h.1.1 rfl))
        have hbf : ((-1 : Int) != -1) = false := by decide
        go_wp2_with fail
        go_quiet (fail)
        go_wp2
        refine ⟨⟨j + 1, by omega, by go_num, (HEnd.out _ (below_draw _ _)).1, ?_⟩, by simp [intOf]; omega⟩
        rw [HX.out]
        exact (HEnd.out _ (below_draw _ _)).2
      · have hbt : (hk != -1) = true := by simpa using hm1
        by_cases hlt : hk < ho
        · have hd : decide (hk < ho) = true := decide_eq_true hlt
          by_cases hyq : y = true ∨ q = u
          · have HX := Lib.hid (HYes.out ⟨⟨hm1, hlt⟩, hyq⟩)
            clear HNo HYes
            have hyb : y = true ∨ (y = false ∧ (q == u) = true) := by
              cases y
              · right; rcases hyq with h | h
                · cases h
                · exact ⟨rfl, by simp [h]⟩
              · exact .inl rfl
            clear hyq hm1 hlt
            go_wp2_with fail
            go_quiet (fail)
            have HB8 := Lib.hid (HEnd.out _ (below_draw w7 nq))
            have hsz8 : w6.heap.size ≤ (w7.drewN nq).heap.size := HB8.out.1.size
            have c1' : (w7.drewN nq).cell? ⟨g, k, none⟩ = some (.int .i64 lk) := c1
            have c4' : (w7.drewN nq).cell? ⟨bp, op + k * 2 + 1, none⟩ = some (.bool y) := c4
            have g0' : (w7.drewN nq).cell? ⟨w.heap.size, 0, none⟩ = some (.slice (some ⟨bp, op, none⟩) n9 c) := g0
            generalize w7.drewN nq = w8 at HB8 hsz8 c1' c4' g0' ⊢
            clear c1 c2 c3 c4 g0 g1 g2 g3 g4 g5 g6 HEnd HW7 HB7 HC7
            rcases hyb with rfl | ⟨rfl, hqu⟩
            all_goals
              go_wp2_with (at_builtin; refine wpList_append_agg Tryz.underlying66 infoC rfl (by decide) (by decide) rfl _ _ rfl w6.heap.size _ _ _ [.int .u16 q, .int .i64 lk] rfl (fun u hu => by simp at hu; rcases hu with rfl | rfl <;> rfl) rfl (by exact HB8.out.2) rfl (by omega) hsz8 ?_)
              intro v1 w9 h1 h2 gx cx hv1
              clear hv1
              have H1 := Lib.hid h1
              have H2 := Lib.hid h2
              clear h1 h2 c1' c4' g0'
              go_wp2
              refine ⟨⟨j + 1, by omega, by go_num, HB8.out.1.trans (H2.out.below hsz8 (fun j hj => (ownsK_lt HB8.out.2 hj).1)), ?_⟩, by simp [intOf]; omega⟩
              rw [HX.out, List.length_append]
              have := H1.out
              rwa [show cellsC (Z ++ [(q, lk)]) = cellsC Z ++ [.int .u16 q, .int .i64 lk] by simp [cellsC, encC]]
          · have HX := Lib.hid (HNo.out (fun h => hyq h.2))
            have hyf : y = false := by cases y; rfl; exact absurd (.inl rfl) hyq
            have hqf : (q == u) = false := by simp; exact fun h => hyq (.inr h)
            clear HNo HYes hyq hm1 hlt
            subst hyf
            go_wp2_with fail
            go_quiet (fail)
            go_wp2
            refine ⟨⟨j + 1, by omega, by go_num, (HEnd.out _ (below_draw _ _)).1, ?_⟩, by simp [intOf]; omega⟩
            rw [HX.out]
            exact (HEnd.out _ (below_draw _ _)).2
        · have hd : decide (hk < ho) = false := decide_eq_false hlt
          have HX := Lib.hid (HNo.out (fun h => hlt h.1.2))
          clear HNo HYes hm1
          go_wp2_with fail
          go_quiet (fail)
          go_wp2
          refine ⟨⟨j + 1, by omega, by go_num, (HEnd.out _ (below_draw _ _)).1, ?_⟩, by simp [intOf]; omega⟩
          rw [HX.out]
          exact (HEnd.out _ (below_draw _ _)).2
    · obtain rfl : j = m := by omega
      have hTk : nb.take j = nb := List.take_of_length_le (by rw [HM.out]; exact Nat.le_refl _)
      have hZe := HZ.out
      rw [hTk] at hZe
      have HZe := Lib.hid hZe
      have HSo := Lib.hid (sortC_any w6.heap.size _ Z Z.length wr rfl (by omega) HW.out)
      clear hTk hZe HW
      go_wp2_with fail
      with_reducible refine HSo.out.mono ?_
      rintro e w7 ⟨rfl, hx, s9, c9, X, rfl, hperm, hpw, hcr, _⟩
      have HXl := Lib.hid hperm.length_eq
      have HClip := Lib.hid (clipC_any s9 Z.length c9 w7 hcr.le hcr.max)
      have HCr := Lib.hid hcr
      have HPm := Lib.hid (And.intro hperm hpw)
      have HBF := Lib.hid (HC.out.below.trans ((hx.below (B := w6.heap.size) hsz (fun i _ hi => hi)).mono (by have := HC0.out.below.size; exact this)))
      clear hx hcr hperm hpw HSo
      go_wp2_with fail
      with_reducible refine HClip.out.mono ?_
      rintro e w8 ⟨rfl, rfl⟩
      go_wp2
      go_ret2
      refine ⟨l, o, s9, X, HR.out.2, by rw [HPl.out]; exact HR2.out.1, HR2.out.2, ?_, HPm.out.2, by rw [HXl.out]; rfl, ?_, HBF.out⟩
      · have h := HPm.out.1
        rw [HZe.out, HHd.out, HNB.out] at h
        exact h
      · have h := HCr.out
        rw [← HXl.out] at h
        exact ⟨rfl, Nat.le_refl _, Nat.le_trans h.le h.max, h.cells⟩
end Go.Proofs.YthlckipcgogogaaGreatDoor
/- The code's functions at few places: heights, choices and times as the chapter defines them. -/
namespace Go.Proofs.YthlckipcgogogaaGreatDoor
set_option linter.unusedVariables false
open Go.RowKit Go.Sort Go.Lib

theorem disOk_uniq {p : Pn} {t : Int} {l l' : List Int} (h : DisOk p t l) (h' : DisOk p t l') : l = l' := by
  refine list_eq_of_getD (by rw [h.len, h'.len]) fun i hi => ?_
  have hi' : i < p.P.length := by rw [← h.len]; exact hi
  have h1 := h.dist.uniq h'.dist hi'
  have h2 := h.small i hi'
  have h3 := h'.small i hi'
  simp only [d99] at h1
  split at h1 <;> split at h1 <;> omega
/-- The order of the places with a way: by distance, then by index. -/
def QO (n : Nat) (l : List Int) (o : List Nat) : Prop := o.Perm (wayL n l) ∧ o.Pairwise (fun x y => lowerB (fun k => l.getD k 0) x y = true)
theorem stAll_few (p : Pn) (t : Int) (hn : p.P.length < 20) : StAll p t (QO p.P.length) := by
  intro _ l g hok bx blk cap W hb ho h1 h2 hH hblk h0
  have hle := wayL_le p.P.length l
  refine (stable_few l p.P.length bx g blk cap (wayF p.P.length l) W hok.len hb ho h1 h2 hH hblk (by rw [wayF_size]; omega) h0).mono fun e w' h => ?_
  obtain ⟨e1, d', e2, rfl, e4⟩ := h
  refine ⟨e1, _, e2, ?_, e4⟩
  obtain ⟨_, q2, q3⟩ := sort_spec (fun x : Fin p.P.length => l.getD x.val 0) (wayF p.P.length l) (wayF_asc _ _)
  refine ⟨?_, ?_⟩
  · have := q2.map (fun x => x.val)
    rwa [wayF_map] at this
  · rw [List.pairwise_map]
    exact q3
/-- The heights as the chapter defines them. -/
def HsOk (n : Nat) (l hh : List Int) : Prop := ∀ i, i < n → hh.getD i 0 = htI n l i
theorem qo_heights {p : Pn} {t : Int} {l : List Int} {o : List Nat} (h : DisOk p t l) (hq : QO p.P.length l o) : HsOk p.P.length l (putPos l o o.length) :=
  heights_of h.len hq.1 hq.2 (fun i hi => by have := (h.small i hi).2; omega)
def HtS (p : Pn) (t : Int) (w : World) (e : Ending) (w' : World) : Prop :=
  ∃ g l hh n, p.P.length = n ∧ DisOk p t l ∧ HsOk n l hh ∧ e = .returned (.tuple #[.slice (some ⟨g, 0, none⟩) n n, .int .i64 0]) ∧ Row .i64 w' (some ⟨g, 0, none⟩) n n hh ∧ Below w.heap.size w w'
theorem heights_few (p : Pn) (a : Option Addr) (n c : Nat) (a' : Option Addr) (n' c' : Nat) (t : Int) (w : World) (hP : PRow w a n c p.P) (hL : LRow w a' n' c' p.L) (hE : chkPts p [t] = 0) (s : Nat) (hs : fnd p.P t = some s) (hv : ValidPl p) (hn : p.P.length < 20) :
    Calls Tryz.prog 23 #[planV a n c a' n' c' p, .int .u16 t] w (HtS p t w) := by
  refine (heights_ok p a n c a' n' c' t w hP hL hE s hs hv _ (stAll_few p t hn)).mono fun e w' h => ?_
  obtain ⟨g, l, o, n9, rfl, hok, _, hq, he, hr, hb⟩ := h
  exact ⟨g, l, _, _, rfl, hok, qo_heights hok hq, he, hr, hb⟩
def HoS (p : Pn) (u : Int) (i : Nat) (w : World) (e : Ending) (w' : World) : Prop := ∃ l, DisOk p u l ∧ e = holdE p (htI p.P.length l i) ∧ Below w.heap.size w w'
theorem hold_few (p : Pn) (a : Option Addr) (n c : Nat) (a' : Option Addr) (n' c' : Nat) (t u : Int) (w : World) (hP : PRow w a n c p.P) (hL : LRow w a' n' c' p.L) (hE : chkPts p [t, u] = 0) (i s : Nat) (hi : fnd p.P t = some i) (hs : fnd p.P u = some s) (hv : ValidPl p) (hn : p.P.length < 20) :
    Calls Tryz.prog 28 #[planV a n c a' n' c' p, .int .u16 t, .int .u16 u] w (HoS p u i w) := by
  refine (hold_ok p a n c a' n' c' t u w hP hL hE i s hi hs hv _ (stAll_few p u hn)).mono fun e w' h => ?_
  obtain ⟨l, o, hok, _, hq, he, hb⟩ := h
  refine ⟨l, hok, ?_, hb⟩
  rw [he, qo_heights hok hq i (fnd_some_iff.1 hi).1]
theorem cand_nodup {p : Pn} (hv : ValidPl p) (u : Int) (l hh : List Int) (own : Nat) (c : Int) : (candL p.P u l hh own (nbrs p c)).Nodup := by
  unfold candL
  rw [List.nodup_iff_pairwise_ne, List.pairwise_filterMap]
  refine (nbrs_asc hv c).imp fun {x y} hxy b hb b' hb' e => ?_
  have f : ∀ {c : Int} {b : Int × Int}, candO p.P u l hh own c = some b → b.1 = c := fun {c b} h => by
    unfold candO at h
    split at h
    · split at h
      · simp only [Option.some.injEq] at h; rw [← h]
      · cases h
    · cases h
  have h1 := f hb
  have h2 := f hb'
  rw [e, h2] at h1
  omega
theorem sorted_strict {X : List (Int × Int)} (hn : X.Nodup) (h : X.Pairwise (fun x y => Go.Proofs.ltOf cfC y x = false)) : X.Pairwise ltC := by
  have h2 := List.nodup_iff_pairwise_ne.1 hn
  refine (h.and h2).imp fun {x y} hxy => ?_
  have h3 : ¬ ltC y x := fun hh => by
    have := (ltOf_cfC y x).2 hh
    rw [hxy.1] at this; cases this
  have h4 := hxy.2
  obtain ⟨x1, x2⟩ := x
  obtain ⟨y1, y2⟩ := y
  unfold ltC at *
  simp only [ne_eq, Prod.mk.injEq] at *
  omega
def ChS (p : Pn) (u : Int) (i : Nat) (w : World) (e : Ending) (w' : World) : Prop :=
  ∃ l a, DisOk p u l ∧ e = .returned (.tuple #[.slice a (chC p u l i).length (chC p u l i).length, .int .i64 0]) ∧ CRow w' a (chC p u l i).length (chC p u l i).length (chC p u l i) ∧ Below w.heap.size w w'
theorem choices_few (p : Pn) (a : Option Addr) (n c : Nat) (a' : Option Addr) (n' c' : Nat) (t u : Int) (w : World) (hP : PRow w a n c p.P) (hL : LRow w a' n' c' p.L) (hE : chkPts p [t, u] = 0) (htu : t ≠ u) (i s : Nat) (hi : fnd p.P t = some i) (hs : fnd p.P u = some s) (hv : ValidPl p) (hn : p.P.length < 20) :
    Calls Tryz.prog 27 #[planV a n c a' n' c' p, .int .u16 t, .int .u16 u] w (ChS p u i w) := by
  refine (choices_ok p a n c a' n' c' t u w hP hL hE htu i s hi hs hv _ (stAll_few p u hn)).mono fun e w' h => ?_
  obtain ⟨l, o, a2, X, hok, _, hq, hp, hpw, he, hcr, hb⟩ := h
  obtain ⟨hin, hit, _⟩ := fnd_some_iff.1 hi
  rw [← hit] at hp
  have hX : X = chC p u l i := cand_eq hv hv.asc hok.dist (fun i hi => by have := (hok.small i hi).2; omega) (qo_heights hok hq) hin hp (sorted_strict (hp.symm.nodup (cand_nodup hv u l _ i _)) hpw)
  rw [hX] at he hcr
  exact ⟨l, a2, hok, he, hcr, hb⟩
end Go.Proofs.YthlckipcgogogaaGreatDoor
