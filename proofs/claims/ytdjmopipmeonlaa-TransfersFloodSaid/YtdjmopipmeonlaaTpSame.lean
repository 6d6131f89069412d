/- Joined: TpNews TpSame. -/
import Derived.Test.YtdjmopipmeonlaaTpSt
/- The model's news. -/
namespace Go.Proofs.Ytdjmopipmeonlaa
set_option linter.unusedVariables false
open Go.RowKit Go.Maps

/-- The plan's rows lie in other blocks than the model. -/
structure Apart (mb : Nat) (a a' : Option Addr) : Prop where
  p : ∀ z, a = some z → z.block < mb
  l : ∀ z, a' = some z → z.block < mb
theorem MW.exc {S : Nat → Prop} {w w' : World} {mb : Nat} {a : Option Addr} {n c : Nat} {a' : Option Addr} {n' c' : Nat} {p : Pn} {at' : Nat} {T : Tb} (h : MW w mb a n c a' n' c' p at' T) (hx : Exc S w w') (h1 : ¬ S mb) (h2 : ∀ z, a = some z → ¬ S z.block) (h3 : ∀ z, a' = some z → ¬ S z.block) : MW w' mb a n c a' n' c' p at' T := ⟨h.md.exc hx h1, h.row.exc hx h2, h.lrow.exc hx h3⟩
theorem pc_inj {x : Nn} {p : Pn} {n m : Nat} (hp : PF x p n m) {i j : Nat} (hi : i < p.P.length) (hj : j < p.P.length) : pc p.P i = pc p.P j ↔ i = j := ⟨hp.asc.inj hi hj, fun e => by rw [e]⟩
theorem MW.says {x : Nn} {w : World} {mb : Nat} {a : Option Addr} {n c : Nat} {a' : Option Addr} {m c' : Nat} {p : Pn} {at' : Nat} {T : Tb} (h : MW w mb a n c a' m c' p at' T) (hp : PF x p n m) (hap : Apart mb a a') {i j : Nat} (hi : i < n) (hj : j < n) (s : Int) : MW (w.setCell ⟨mb, 56 + i * 6 + j, none⟩ (.int .u8 s)) mb a n c a' m c' p at' { T with said := upd2 T.said (pc p.P i) (pc p.P j) s } := by
  have hlen := hp.len
  have hn6 := hp.n6
  have hx : Exc (fun q => q = mb) w (w.setCell ⟨mb, 56 + i * 6 + j, none⟩ (.int .u8 s)) := Exc.setCell (S := fun q => q = mb) (Exc.refl _ w) _ (.inl rfl) _
  refine ⟨(h.md.sSaid (a := i) (c := j) (by omega) (by omega) s).congr (fun _ _ => rfl) (fun _ _ => rfl) (fun _ _ _ _ => rfl) ?_, h.row.exc hx fun z hz => Nat.ne_of_lt (hap.p z hz), h.lrow.exc hx fun z hz => Nat.ne_of_lt (hap.l z hz)⟩
  intro k hk l hl
  show (if k < p.P.length ∧ l < p.P.length then upd2 T.said (pc p.P i) (pc p.P j) s (pc p.P k) (pc p.P l) else 0) = updT (mdOf T p).said i j s k l
  unfold upd2 updT mdOf
  by_cases h1 : k < p.P.length ∧ l < p.P.length
  · rw [if_pos h1]
    simp only [pc_inj hp h1.1 (show i < p.P.length by omega), pc_inj hp h1.2 (show j < p.P.length by omega), if_pos h1]
  · rw [if_neg h1, if_neg (by omega)]
    simp only [if_neg h1]
theorem Inv.said' {p : Pn} {at' : Nat} {T : Tb} (h : Inv p at' T) (S : Int → Int → Int) (h1 : ∀ x, S x (pc p.P at') = 0) (h2 : ∀ x, S x x = 0) (h3 : ∀ x y, 0 ≤ S x y ∧ S x y ≤ 2) : Inv p at' { T with said := S } := ⟨h.me, h.tr, h.N, h.D, h.C, h.toldMe, h.toldSelf, h1, h2, h.told, h3⟩
theorem Inv.saidL {p : Pn} {at' : Nat} {T : Tb} (h : Inv p at' T) (u : Int) (L : List Int) (hL : pc p.P at' ∉ L) : Inv p at' { T with said := T.saidL u L } := by
  refine h.said' _ (fun x => ?_) (fun x => ?_) (fun x y => ?_) <;> unfold Tb.saidL
  · rw [if_neg fun h9 => hL h9.2.1]; exact h.saidMe x
  · rw [if_neg fun h9 => h9.2.2 h9.1]; exact h.saidSelf x
  · split
    · exact T.st_range y
    · exact h.said x y
/-- What news returns, and the model behind it. -/
def MnOut (mb : Nat) (a : Option Addr) (n c : Nat) (a' : Option Addr) (m c' : Nat) (p : Pn) (at' : Nat) (T : Tb) (X : List (Int × Int × Int)) (w : World) (e : Ending) (w' : World) : Prop :=
  ∃ a2 c2, e = .returned (.slice a2 X.length c2) ∧ NRow w' a2 X.length c2 X ∧ MW w' mb a n c a' m c' p at' T ∧ Exc (fun q => q = mb) w w' ∧ ∀ z, a2 = some z → w.heap.size ≤ z.block
def destsK (P : List (Int × Bool)) (t : Int) (k : Nat) : List Int := ((codesP P).take k).filter fun c => decide (c ≠ t)
theorem destsK_all {P : List (Int × Bool)} {t : Int} {n : Nat} (h : P.length = n) : destsK P t n = destsP P t := by
  unfold destsK destsP; rw [List.take_of_length_le (by rw [codesP_length]; omega)]
theorem destsK_not {P : List (Int × Bool)} {t : Int} {k : Nat} : t ∉ destsK P t k := by unfold destsK; simp
theorem destsK_le {P : List (Int × Bool)} {t : Int} {k : Nat} : (destsK P t k).length ≤ P.length := by
  unfold destsK
  refine Nat.le_trans (List.length_filter_le _ _) ?_
  rw [List.length_take, codesP_length]; omega
theorem destsK_new {x : Nn} {p : Pn} {n m : Nat} (hp : PF x p n m) {t : Int} {k : Nat} (hk : k < n) : pc p.P k ∉ destsK p.P t k := by
  intro h
  unfold destsK at h
  have h1 := (List.mem_filter.1 h).1
  obtain ⟨i, hi, e⟩ := List.getElem_of_mem h1
  rw [List.length_take, codesP_length] at hi
  have e2 : pc p.P i = pc p.P k := by
    rw [← e, List.getElem_take, ← codesP_getD, List.getD_eq_getElem?_getD, List.getElem?_eq_getElem (by rw [codesP_length]; omega)]; rfl
  have := (pc_inj hp (i := i) (j := k) (by omega) (by rw [hp.len]; exact hk)).1 e2
  omega
set_option maxRecDepth 100000 in
set_option maxHeartbeats 8000000 in
theorem mnews_any {x : Nn} {p : Pn} {n m at' : Nat} {T : Tb} (hp : PF x p n m) (hI : Inv p at' T) (hat : at' < n) (mb : Nat) (a : Option Addr) (c : Nat) (a' : Option Addr) (c' : Nat) (hap : Apart mb a a') (nk : Nat) (hnk : nk < n) (w : World) (h : MW w mb a n c a' m c' p at' T) :
    Calls Try.prog 33 #[.pointer (some ⟨mb, 0, none⟩), .int .i64 nk] w (MnOut mb a n c a' m c' p at' { T with said := T.saidL (pc p.P nk) T.D } (T.newsL (pc p.P nk) T.D) w) := by
  have hlen := hp.len
  have hn6 := hp.n6
  have hn2 := hp.n2
  obtain ⟨t, ht⟩ : ∃ t, t = pc p.P at' := ⟨_, rfl⟩
  obtain ⟨u, hu⟩ : ∃ u, u = pc p.P nk := ⟨_, rfl⟩
  rw [← hu]
  have HD : Hid (destsK p.P t n = T.D) := Lib.hid (by rw [destsK_all hlen, hI.D, ht])
  have HSt := Lib.hid (fun (k : Nat) (hk : k < n) (hne : k ≠ at') (S : Int → Int → Int) (hS : Inv p at' { T with said := S }) (V : World) (hV : MW V mb a n c a' m c' p at' { T with said := S }) => mstatus_ok hp hS hat mb a c a' c' k hk hne V hV)
  have HMe := Lib.hid (fun (S : Int → Int → Int) (V : World) (hV : MW V mb a n c a' m c' p at' { T with said := S }) => mstatus_me hp mb a c a' c' V hV)
  have HNo := Lib.hid (fun (j : Nat) (hj : j < n) (s : Int) (S : Int → Int → Int) (V : World) (hV : MW V mb a n c a' m c' p at' { T with said := S }) => mnote_any hp mb a c a' c' nk j hnk hj s V hV)
  have HSay := Lib.hid (fun (j : Nat) (hj : j < n) (s : Int) (S : Int → Int → Int) (V : World) (hV : MW V mb a n c a' m c' p at' { T with said := S }) => hV.says hp hap hnk hj s)
  have HIv := Lib.hid (fun k => hI.saidL u (destsK p.P t k) (by rw [← ht]; exact destsK_not))
  have HNew := Lib.hid (fun k (hk : k < n) => destsK_new hp (t := t) hk)
  have HSn := Lib.hid (fun k (hk : k < n) => dests_snoc p.P t (k := k) (by omega))
  have HIn := Lib.hid (fun k (hk : k < n) j (hj : j < n) => pc_inj hp (i := k) (j := j) (by omega) (by omega))
  have HLe : Hid (∀ k, (T.newsL u (destsK p.P t k)).length ≤ 6) := Lib.hid (fun k => by
    have h1 := T.newsL_le u (destsK p.P t k)
    have h2 := destsK_le (P := p.P) (t := t) (k := k)
    omega)
  have HT := Lib.hid ht
  have HU := Lib.hid hu
  have HLn := Lib.hid hlen
  have HAp := Lib.hid hap
  have H := Lib.hid h
  obtain ⟨g0, g1, g2, g3, g4, g5, g6⟩ := h.md.plan
  clear h ht hu hp hI hlen hap
  go_enter Try.func33, Try.ntmps33
  go_wp2_with fail
  clear g0 g1 g2 g3 g4 g5 g6
  go_loopw [5, 6] (fun v kv wr => ∃ k : Nat, k ≤ n ∧ kv = .int .i64 k ∧ MW wr mb a n c a' m c' p at' { T with said := T.saidL u (destsK p.P t k) } ∧ Exc (fun q => q = mb) w wr ∧ wr.ownsRow w.heap.size 54 3 v (T.newsL u (destsK p.P t k)).length (cellsN (T.newsL u (destsK p.P t k)))) (fun _ kv _ => n - (intOf kv).toNat)
  case atStart => exact ⟨0, Nat.zero_le _, rfl, by rw [show destsK p.P t 0 = [] from rfl, Tb.saidL_nil]; exact H.out, Exc.refl _ _, by simpa [destsK, Tb.newsL, cellsN] using World.ownsRow_nil w w.heap.size 54 3⟩
  case round =>
    obtain ⟨k, hk, rfl, hM, hx, hown⟩ := hrel
    have HM := Lib.hid hM
    have HX := Lib.hid hx
    have hN6 := HLe.out k
    obtain ⟨N, hN⟩ : ∃ N, N = (T.newsL u (destsK p.P t k)).length := ⟨_, rfl⟩
    rw [← hN] at hown hN6
    have HNl := Lib.hid hN
    have HW := Lib.hid hown
    have hsz := hx.size
    clear hown hx hN
    by_cases hkn : k < n
    · obtain ⟨g0, g1, g2, g3, g4, g5, g6⟩ := hM.md.plan
      have g7 := hM.md.cAt
      have k1 : (k : Int) < (n : Int) := by omega
      have k2 : (0 : Int) ≤ (k : Int) := by omega
      have k6 : (k : Int) < 6 := by omega
      have q2 : (0 : Int) ≤ (nk : Int) := by omega
      have q6 : (nk : Int) < 6 := by omega
      by_cases hka : k = at'
      · have hkt : pc p.P k = t := by rw [hka, HT.out]
        have HEnd : Hid (destsK p.P t (k + 1) = destsK p.P t k) := Lib.hid (by
          have := HSn.out k hkn
          rw [if_pos hkt, List.append_nil] at this
          exact this)
        have e1 : ((k : Int) != (at' : Int)) = false := by rw [bne_eq_false_iff_eq]; omega
        have HS : Hid (Calls Try.prog 14 #[.pointer (some ⟨mb, 0, none⟩), .int .i64 k] wr fun e w' => e = .returned (.int .u8 0) ∧ Below wr.heap.size wr w') := Lib.hid (by rw [hka]; exact HMe.out _ wr hM)
        clear hka hkt hM
        go_wp2_with fail
        with_reducible refine HS.out.mono ?_
        rintro e w1 ⟨rfl, hb⟩
        have hM := HM.out.below hb
        have HM1 := Lib.hid hM
        have HX1 := Lib.hid (HX.out.trans (Exc.of_below (S := fun q => q = mb) hb) (fun _ _ h => h))
        have HW1 := Lib.hid (ownsK_below HW.out hb)
        clear g0 g1 g2 g3 g4 g5 g6 g7 hb HS
        obtain ⟨g0, g1, g2, g3, g4, g5, g6⟩ := hM.md.plan
        have g7 := hM.md.cAt
        clear hM
        go_wp2_with fail
        refine ⟨⟨k + 1, by omega, by go_num, ?_, HX1.out, ?_⟩, by simp [intOf]; omega⟩
        · rw [HEnd.out]; exact HM1.out
        · rw [HEnd.out, ← HNl.out]; exact HW1.out
      · have hkt : pc p.P k ≠ t := fun e => hka ((HIn.out k hkn at' hat).1 (by rw [e, HT.out]))
        have HEnd : Hid (destsK p.P t (k + 1) = destsK p.P t k ++ [pc p.P k]) := Lib.hid (by
          have := HSn.out k hkn
          rw [if_neg hkt] at this
          exact this)
        have HSaidNew : Hid (T.saidL u (destsK p.P t k) u (pc p.P k) = T.said u (pc p.P k)) := Lib.hid (T.saidL_new (HNew.out k hkn))
        have hS := HSt.out k hkn hka _ (HIv.out k) wr hM
        rw [T.st_said] at hS
        obtain ⟨d, hd⟩ : ∃ d, d = pc p.P k := ⟨_, rfl⟩
        rw [← hd] at hS HEnd HSaidNew
        have HDd := Lib.hid hd
        obtain ⟨s, hs⟩ : ∃ s, s = T.st d := ⟨_, rfl⟩
        rw [← hs] at hS
        have HSs := Lib.hid hs
        have HS := Lib.hid hS
        have e1 : ((k : Int) != (at' : Int)) = true := by rw [bne_iff_ne]; omega
        have HDn : Hid (d = u ↔ k = nk) := Lib.hid (by rw [hd, HU.out]; exact HIn.out k hkn nk hnk)
        clear hd hs hS hkt hka hM
        go_wp2_with fail
        with_reducible refine HS.out.mono ?_
        rintro e w1 ⟨rfl, hb⟩
        have hM := HM.out.below hb
        have HM1 := Lib.hid hM
        have HX1 := Lib.hid (HX.out.trans (Exc.of_below (S := fun q => q = mb) hb) (fun _ _ h => h))
        have HW1 := Lib.hid (ownsK_below HW.out hb)
        clear g0 g1 g2 g3 g4 g5 g6 g7 hb HS
        obtain ⟨g0, g1, g2, g3, g4, g5, g6⟩ := hM.md.plan
        have g7 := hM.md.cAt
        have c9 := hM.md.cSaid (i := nk) (j := k) (by omega) (by omega)
        have f9 := hM.md.frozen (56 + nk * 6 + k)
        rw [mdOf_said (by rw [HLn.out]; exact hnk) (by rw [HLn.out]; exact hkn), ← HU.out, ← HDd.out] at c9
        change w1.cell? _ = some (.int .u8 (T.saidL u (destsK p.P t k) u d)) at c9
        obtain ⟨v9, hv9⟩ : ∃ v9, v9 = T.saidL u (destsK p.P t k) u d := ⟨_, rfl⟩
        rw [← hv9] at c9
        have HV : Hid (v9 = T.said u d) := Lib.hid (by rw [hv9]; exact HSaidNew.out)
        clear hM hv9 HSaidNew
        by_cases hkk : k = nk
        · have e2 : ((k : Int) != (nk : Int)) = false := by rw [bne_eq_false_iff_eq]; omega
          have HNe : Hid (¬ (d ≠ u ∧ T.st d ≠ T.said u d)) := Lib.hid (fun h => h.1 (HDn.out.2 hkk))
          clear hkk
          go_wp2_with fail
          refine ⟨⟨k + 1, by omega, by go_num, ?_, HX1.out, ?_⟩, by simp [intOf]; omega⟩
          · rw [HEnd.out, T.saidL_snoc_same HNe.out]; exact HM1.out
          · rw [HEnd.out, T.newsL_snoc, if_neg HNe.out, List.append_nil, ← HNl.out]; exact HW1.out
        · have e2 : ((k : Int) != (nk : Int)) = true := by rw [bne_iff_ne]; omega
          by_cases hsv : s = v9
          · have e3 : (s != v9) = false := by simpa using hsv
            have HNe : Hid (¬ (d ≠ u ∧ T.st d ≠ T.said u d)) := Lib.hid (fun h => h.2 (by rw [← HSs.out, ← HV.out]; exact hsv))
            clear hkk hsv
            go_wp2_with fail
            refine ⟨⟨k + 1, by omega, by go_num, ?_, HX1.out, ?_⟩, by simp [intOf]; omega⟩
            · rw [HEnd.out, T.saidL_snoc_same HNe.out]; exact HM1.out
            · rw [HEnd.out, T.newsL_snoc, if_neg HNe.out, List.append_nil, ← HNl.out]; exact HW1.out
          · have e3 : (s != v9) = true := by simpa using hsv
            have HNe : Hid (d ≠ u ∧ T.st d ≠ T.said u d) := Lib.hid ⟨fun e => hkk (HDn.out.1 e), by rw [← HSs.out, ← HV.out]; exact hsv⟩
            obtain ⟨W, hW⟩ : ∃ W, W = w1.setCell ⟨mb, 56 + nk * 6 + k, none⟩ (.int .u8 s) := ⟨_, rfl⟩
            have HMW : Hid (MW W mb a n c a' m c' p at' { T with said := T.saidL u (destsK p.P t (k + 1)) }) := Lib.hid (by
              have := HSay.out k hkn s _ w1 HM1.out
              rw [HEnd.out, T.saidL_snoc HNe.out.1, hW]
              rw [← HU.out, ← HDd.out, HSs.out] at this
              rw [HSs.out]; exact this)
            have HXW : Hid (Exc (fun q => q = mb) w W) := Lib.hid (by rw [hW]; exact HX1.out.setCell _ (.inl rfl) _)
            have HWW := Lib.hid (ownsK_exc (w' := W) HW1.out (S := fun q => q = mb) (by rw [hW]; exact Exc.setCell (S := fun q => q = mb) (Exc.refl _ w1) _ (.inl rfl) _) (fun j hj => by
              have h1 := (ownsK_lt HW.out hj).1
              have h2 := Own.lt H.out.md
              omega))
            have HNn := Lib.hid (HNo.out k hkn s _ W HMW.out)
            rw [← HU.out, ← HDd.out] at HNn
            unfold NoteOut at HNn
            clear hkk hsv
            go_wp2_with fail
            rw [← hW]
            clear g0 g1 g2 g3 g4 g5 g6 g7 c9 f9 hW
            with_reducible refine HNn.out.mono ?_
            rintro e w2 ⟨rfl, hb⟩
            have HM2 := Lib.hid (HMW.out.below hb)
            have HX2 := Lib.hid (HXW.out.trans (Exc.of_below (S := fun q => q = mb) hb) (fun _ _ h => h))
            have HW2 := Lib.hid (ownsK_below HWW.out hb)
            have hsz2 := HX2.out.size
            clear hb HNn
            go_wp2_with (at_builtin; refine wpList_append_agg Try.underlying45 infoN rfl (by decide) (by decide) rfl _ _ rfl w.heap.size _ _ _ [.int .u16 u, .int .u16 d, .int .u8 s] rfl (fun u hu => by simp at hu; rcases hu with rfl | rfl | rfl <;> rfl) rfl (by exact HW2.out) rfl (by omega) hsz2 ?_; intro v1 w6 h1 h2 h3; have HW6 := Lib.hid h1; have HG6 := Lib.hid h2; clear h1 h2 h3)
            go_wp2
            have hb6 : Exc (fun j => w.heap.size ≤ j) w2 w6 := HG6.out.exc.weak fun i _ hi => (ownsK_lt HW2.out hi).1
            refine ⟨⟨k + 1, by omega, by go_num, ?_, HX2.out.trans hb6 (fun i hi hh => by omega), ?_⟩, by simp [intOf]; omega⟩
            · have hlt := Own.lt H.out.md
              exact HM2.out.exc hb6 (by omega) (fun z hz => by have := HAp.out.p z hz; omega) (fun z hz => by have := HAp.out.l z hz; omega)
            · rw [HEnd.out, T.newsL_snoc, if_pos HNe.out, cellsN_append, List.length_append, ← HNl.out, ← HSs.out]
              exact HW6.out
    · obtain rfl : k = n := by omega
      have hown := HW.out
      have hMe := HM.out
      have hNe := HNl.out
      rw [HD.out] at hown hMe hNe
      obtain ⟨a2, c2, rfl, hr2, hfr⟩ := nrow_of hown hNe.symm
      obtain ⟨g0, g1, g2, g3, g4, g5, g6⟩ := hM.md.plan
      have HR := Lib.hid hr2
      have HMe := Lib.hid hMe
      have HFr := Lib.hid hfr
      have HNe := Lib.hid hNe
      clear hown hMe hr2 hfr hNe hM
      go_wp2
      go_ret
      exact ⟨a2, c2, by rw [← HNe.out]; rfl, by rw [← HNe.out]; exact HR.out, HMe.out, HX.out, HFr.out⟩
end Go.Proofs.Ytdjmopipmeonlaa
/- The statements' same: two lists of notes. -/
namespace Go.Proofs.Ytdjmopipmeonlaa
set_option linter.unusedVariables false
open Go.RowKit Go.Maps

set_option maxRecDepth 100000 in
set_option maxHeartbeats 4000000 in
theorem same_yes {w : World} {a b : Option Addr} {n c : Nat} {X : List (Int × Int × Int)} (ha : NRow w a n n X) (hb : NRow w b n c X) :
    Calls Try.prog 12 #[.slice a n n, .slice b n c] w fun e w' => e = .returned (.bool true) ∧ Below w.heap.size w w' := by
  have HA := Lib.hid ha
  have HB := Lib.hid hb
  have e1 : ((n : Int) != (n : Int)) = false := by simp
  have hmx := ha.max
  unfold maxLen at hmx
  clear ha hb
  go_enter Try.func12, Try.ntmps12
  go_wp2_with fail
  go_loopw [5] (fun kv wr => ∃ k : Nat, k ≤ n ∧ kv = .int .i64 k ∧ Below w.heap.size w wr) (fun kv _ => n - (intOf kv).toNat)
  case atStart => exact ⟨0, Nat.zero_le _, rfl, Below.refl _ _⟩
  case round =>
    obtain ⟨k, hk, rfl, hb⟩ := hrel
    have HX := Lib.hid hb
    by_cases hkn : k < n
    · obtain ⟨g1, rfl, _, hc⟩ := (HA.out.later hb).at (by omega)
      obtain ⟨g2, rfl, _, hd⟩ := (HB.out.later hb).at (by omega)
      obtain ⟨c0, c1, c2⟩ := hc k hkn
      obtain ⟨d0, d1, d2⟩ := hd k hkn
      obtain ⟨u0, hu0⟩ : ∃ u, u = (X.getD k (0, 0, 0)).1 := ⟨_, rfl⟩
      obtain ⟨u1, hu1⟩ : ∃ u, u = (X.getD k (0, 0, 0)).2.1 := ⟨_, rfl⟩
      obtain ⟨u2, hu2⟩ : ∃ u, u = (X.getD k (0, 0, 0)).2.2 := ⟨_, rfl⟩
      rw [← hu0] at c0 d0
      rw [← hu1] at c1 d1
      rw [← hu2] at c2 d2
      have k1 : (k : Int) < (n : Int) := by omega
      have k2 : (0 : Int) ≤ (k : Int) := by omega
      clear hu0 hu1 hu2 hc hd hb
      go_wp2_with fail
      go_quiet (fail)
      go_wp2
      exact ⟨⟨k + 1, by omega, by go_num, HX.out.trans ((below_draw _ _).mono HX.out.size)⟩, by simp [intOf]; omega⟩
    · obtain rfl : k = n := by omega
      clear hb
      go_wp2
      go_ret
      exact ⟨rfl, HX.out⟩
end Go.Proofs.Ytdjmopipmeonlaa
