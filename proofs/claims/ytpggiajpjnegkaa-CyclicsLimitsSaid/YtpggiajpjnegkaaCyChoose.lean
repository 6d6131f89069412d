/- The code's end of a link: which unit is sent. -/
import Derived.Test.YtpggiajpjnegkaaCyRepeat
namespace Go.Proofs.Ytpggiajpjnegkaa
open Go.RowKit

theorem cho_fin {w W3 w2 w4 : World} {b : Nat} {L L2 : ELay} {x' : En} {s : Option Addr} {k : Nat} {l : List Int} (hs : ∀ j, L.S b j → j < w.heap.size) (hT : Exc (L.S b) w W3) (hz : w.heap.size < W3.heap.size) (hr : Row .u8 w2 s k k l) (hsz : ∀ z, s = some z → W3.heap.size ≤ z.block ∧ z.block < w2.heap.size)
    (h2 : EndL w2 b x' L2) (hT2 : Turn (L.S b) W3 (L2.S b) w2) (hns : ∀ z, s = some z → ¬ L2.S b z.block) (hx : Exc (fun j => j = w.heap.size) w2 w4) :
    Row .u8 w4 s k k l ∧ (∀ z, s = some z → w.heap.size ≤ z.block ∧ z.block < w4.heap.size) ∧ ∃ L', EndL w4 b x' L' ∧ Turn (L.S b) w (L'.S b) w4 ∧ ∀ z, s = some z → ¬ L'.S b z.block := by
  have hn : ¬ L2.S b w.heap.size := fun hh => by
    rcases hT2.lies _ hh with h5 | h5
    · exact absurd (hs _ h5) (Nat.lt_irrefl _)
    · omega
  refine ⟨hr.exc hx (fun z hz' hh => by have := (hsz z hz').1; omega), fun z hz' => ⟨Nat.le_of_lt (Nat.lt_of_lt_of_le hz (hsz z hz').1), Nat.lt_of_lt_of_le (hsz z hz').2 hx.size⟩, L2, h2.exc hx (fun j hj hh => hn (hh ▸ hj)), ⟨?_, fun j hj => ?_⟩, hns⟩
  · exact (hT.trans hT2.exc (fun _ _ h => h)).trans hx (fun j hj hh => by omega)
  · rcases hT2.lies j hj with h5 | h5
    · exact .inl h5
    · exact .inr (by omega)
theorem En.next_cases (x : En) (hf : x.Fit) : (x.pre.forced = false ∧ 0 < x.pre.que.length ∧ x.pre.una.length < 127 ∧ x.next = (⟨x.pre.acc, true, (x.pre.sent + 1) % 128, true, 2, 0, x.pre.que.getD 0 []⟩, x.pre.sentNew)) ∨
    ((x.pre.forced = true ∨ x.pre.que.length = 0) ∧ 0 < x.pre.una.length ∧ x.next = (x.pre.unit x.pre.idx, { x.pre with plc := x.pre.idx + 1 })) ∨
    ((x.pre.forced = true ∨ x.pre.que.length = 0) ∧ x.pre.una.length = 0 ∧ x.next = (x.pre.fill, x.pre)) := by
  have hfree : x.pre.forced = false → x.pre.una.length < 127 := by
    intro h0
    have hl2 := hf.lm2
    have key : x.lim = false → x.una.length < 127 := fun hl => by
      unfold En.lim at hl
      simp only [Bool.or_eq_false_iff, decide_eq_false_iff_not] at hl
      omega
    rcases x.pre_cases with ⟨c, _, e⟩ | ⟨_, c, e⟩ | ⟨c, _, e⟩ | ⟨c, _, e⟩
    · rw [e] at h0; cases h0
    · rw [e, c] at h0; cases h0
    · rw [e]; exact key c
    · rw [e]; exact key c
  unfold En.next
  generalize x.pre = y at hfree ⊢
  have again : (y.forced = true ∨ y.que.length = 0) → y.go = y.again := fun h => by
    unfold En.go
    cases hq : y.que with
    | nil => rfl
    | cons l q =>
      rcases h with h | h
      · simp [h]
      · rw [hq] at h; simp at h
  by_cases hN : y.forced = false ∧ 0 < y.que.length
  · left
    refine ⟨hN.1, hN.2, hfree hN.1, ?_⟩
    unfold En.go
    cases hq : y.que with
    | nil => rw [hq] at hN; simp at hN
    | cons l q =>
      simp only
      rw [if_pos hN.1]
      unfold En.new En.sentNew
      rw [hq]
      rfl
  · right
    have hor : y.forced = true ∨ y.que.length = 0 := by
      cases hf : y.forced
      · right
        have : ¬ 0 < y.que.length := fun h => hN ⟨hf, h⟩
        omega
      · exact .inl rfl
    rw [again hor]
    unfold En.again
    by_cases hu : 0 < y.una.length
    · left; exact ⟨hor, hu, if_pos hu⟩
    · right; exact ⟨hor, by omega, if_neg hu⟩
set_option maxHeartbeats 4000000 in
set_option maxRecDepth 100000 in
theorem choose_any (b : Nat) (x : En) (L : ELay) (w : World) (h : EndL w b x L) :
    Calls Try.prog 38 #[.pointer (some ⟨b, 0, none⟩)] w fun e w' => Cho w w' b L x.next.2 x.next.1 e := by
  obtain ⟨W1, hW1⟩ : ∃ W, W = w.alloc (.cells zeroUnit.toArray 45) := ⟨_, rfl⟩
  have hb1 : Below w.heap.size w W1 := by rw [hW1]; exact below_alloc _ _
  have ou : Own W1 w.heap.size 45 zeroUnit := by rw [hW1]; exact own_lit w _ _ _ rfl
  have hslt := h.s_lt
  have hns : ∀ k, L.S b k → ¬ k = w.heap.size := fun k hk hh => by have := hslt k hk; omega
  have hfc := force_any b x L W1 (h.later hb1)
  have hnc := En.next_cases x h.fit
  have HNs := Lib.hid hns
  have HSl := Lib.hid hslt
  have HW := Lib.hid hW1
  have HB := Lib.hid hb1
  have HU := Lib.hid ou
  have HFc := Lib.hid hfc
  clear h hslt hW1 hb1 ou hns hfc
  obtain ⟨U, hU⟩ : ∃ U, U = x.next.1 := ⟨_, rfl⟩
  rw [← hU]
  rcases hnc with ⟨p1, p2, p3, e⟩ | ⟨p1, p2, e⟩ | ⟨p1, p2, e⟩
  all_goals
    rw [e] at hU ⊢
    have HUn := Lib.hid hU
    clear hU e
    dsimp only at HUn ⊢
    generalize x.pre = y at *
  · go_enter Try.func38, Try.ntmps38
    go_wp2_with fail
    rw [← HW.out]
    with_reducible refine HFc.out.mono ?_
    rintro e w3 ⟨rfl, h3, hx3⟩
    have c5 := h3.cells.2.2.2.2.2.1
    have c2 := h3.cells.2.2.1
    have c3 := h3.cells.2.2.2.1
    have c6 := h3.cells.2.2.2.2.2.2.1
    have ou3 := HU.out.exc hx3 (fun hh => HNs.out b (.inl rfl) hh.symm)
    have hT3 : Exc (L.S b) w w3 := (Exc.of_below HB.out).trans hx3 (fun j _ hj => .inl hj)
    have H3 := Lib.hid h3
    have HX3 := Lib.hid hx3
    have HO3 := Lib.hid ou3
    have HT3 := Lib.hid hT3
    clear h3 hx3 ou3 hT3 HFc
    rw [p1] at c5
    have hqi : (0 : Int) < (y.que.length : Int) := by omega
    have hqd : decide ((0 : Int) < (y.que.length : Int)) = true := decide_eq_true hqi
    go_wp2_with fail
    with_reducible refine (sendNew_ok b y L w3 H3.out p2 p3).mono ?_
    rintro e w2 ⟨s, k, rfl, hk, hr, hsz, L2, h2, hT2, hns⟩
    have ou2 := HO3.out.exc hT2.exc (fun hh => absurd (HSl.out _ hh) (Nat.lt_irrefl _))
    obtain ⟨u0, u1, u2, u3, u4, u5, u6⟩ := unit_cells ou2
    obtain ⟨t0, t1, t2, t3, t4, t5, t6⟩ := unit_frozen ou2
    have HO2 := Lib.hid ou2
    have HQ := Lib.hid (And.intro hk (And.intro hr (And.intro hsz (And.intro h2 (And.intro hT2 hns)))))
    obtain ⟨F, hF⟩ : ∃ F : Nat, F = (y.sent + 1) % 128 := ⟨_, rfl⟩
    simp only [show ((2 : Nat) : Int) = 2 from rfl]
    rw [← hF]
    have HF := Lib.hid hF
    clear hk hr hsz h2 hT2 hns ou2 c5 c2 c3 c6 hF
    have HFc2 : True := trivial
    clear HFc2
    go_wp2
    generalize hW11 : ((((((w2.setCell ⟨w.heap.size, 0, none⟩ (.int .u8 0)).setCell ⟨w.heap.size, 1, none⟩ (.bool false)).setCell ⟨w.heap.size, 2, none⟩ (.int .u8 (F : Int))).setCell ⟨w.heap.size, 3, none⟩ (.bool false)).setCell ⟨w.heap.size, 4, none⟩ (.int .u8 2)).setCell ⟨w.heap.size, 5, none⟩ (.int .u8 0)).setCell ⟨w.heap.size, 6, none⟩ (.slice s k k) = W11
    obtain ⟨ou11, hx11⟩ := seven HO2.out hW11
    clear hW11 u0 u1 u2 u3 u4 u5 u6 t0 t1 t2 t3 t4 t5 t6
    obtain ⟨u0, u1, u2, u3, u4, u5, u6⟩ := unit_cells ou11
    refine bodyPost_ret (v := .agg #[.int .u8 0, .bool false, .int .u8 (F : Int), .bool false, .int .u8 2, .int .u8 0, .slice s k k]) (by simp [results, Try.results38, go_sem, u0, u1, u2, u3, u4, u5, u6]) rfl ?_
    obtain ⟨f1, f2, f3⟩ := cho_fin HSl.out HT3.out (Nat.lt_of_lt_of_le HU.out.lt HX3.out.size) HQ.out.2.1 HQ.out.2.2.1 HQ.out.2.2.2.1 HQ.out.2.2.2.2.1 HQ.out.2.2.2.2.2 hx11
    refine ⟨s, k, ?_, ?_, ?_, f2, f3⟩
    · rw [HUn.out, HF.out]; rfl
    · rw [HUn.out]; exact HQ.out.1
    · rw [HUn.out]; exact f1
  · have hp : y.forced = true ∨ (y.forced = false ∧ y.que.length = 0) := by
      cases hf : y.forced
      · rcases p1 with h | h
        · rw [hf] at h; cases h
        · exact .inr ⟨rfl, h⟩
      · exact .inl rfl
    clear p1
    have hui : (0 : Int) < (y.una.length : Int) := by omega
    have hud : decide ((0 : Int) < (y.una.length : Int)) = true := decide_eq_true hui
    rcases hp with p1 | ⟨p1, p3⟩
    · go_enter Try.func38, Try.ntmps38
      go_wp2_with fail
      rw [← HW.out]
      with_reducible refine HFc.out.mono ?_
      rintro e w3 ⟨rfl, h3, hx3⟩
      have c5 := h3.cells.2.2.2.2.2.1
      have c2 := h3.cells.2.2.1
      have c3 := h3.cells.2.2.2.1
      have c6 := h3.cells.2.2.2.2.2.2.1
      have ou3 := HU.out.exc hx3 (fun hh => HNs.out b (.inl rfl) hh.symm)
      have hT3 : Exc (L.S b) w w3 := (Exc.of_below HB.out).trans hx3 (fun j _ hj => .inl hj)
      have H3 := Lib.hid h3
      have HX3 := Lib.hid hx3
      have HO3 := Lib.hid ou3
      have HT3 := Lib.hid hT3
      clear h3 hx3 ou3 hT3 HFc
      rw [p1] at c5
      go_wp2_with fail
      with_reducible refine (repeat_from b y L w3 y.idx H3.out p2 rfl).mono ?_
      rintro e w2 ⟨s, k, rfl, hk, hr, hsz, L2, h2, hT2, hns⟩
      have ou2 := HO3.out.exc hT2.exc (fun hh => absurd (HSl.out _ hh) (Nat.lt_irrefl _))
      obtain ⟨u0, u1, u2, u3, u4, u5, u6⟩ := unit_cells ou2
      obtain ⟨t0, t1, t2, t3, t4, t5, t6⟩ := unit_frozen ou2
      have HO2 := Lib.hid ou2
      have HQ := Lib.hid (And.intro hk (And.intro hr (And.intro hsz (And.intro h2 (And.intro hT2 hns)))))
      obtain ⟨F, hF⟩ : ∃ F : Nat, F = (y.sent + 129 + y.idx - y.una.length) % 128 := ⟨_, rfl⟩
      simp only [En.unit, show ((2 : Nat) : Int) = 2 from rfl]
      rw [← hF]
      have HF := Lib.hid hF
      clear hk hr hsz h2 hT2 hns ou2 c5 c2 c3 c6 hF
      have HFc2 : True := trivial
      clear HFc2
      go_wp2
      generalize hW11 : ((((((w2.setCell ⟨w.heap.size, 0, none⟩ (.int .u8 0)).setCell ⟨w.heap.size, 1, none⟩ (.bool false)).setCell ⟨w.heap.size, 2, none⟩ (.int .u8 (F : Int))).setCell ⟨w.heap.size, 3, none⟩ (.bool false)).setCell ⟨w.heap.size, 4, none⟩ (.int .u8 2)).setCell ⟨w.heap.size, 5, none⟩ (.int .u8 0)).setCell ⟨w.heap.size, 6, none⟩ (.slice s k k) = W11
      obtain ⟨ou11, hx11⟩ := seven HO2.out hW11
      clear hW11 u0 u1 u2 u3 u4 u5 u6 t0 t1 t2 t3 t4 t5 t6
      obtain ⟨u0, u1, u2, u3, u4, u5, u6⟩ := unit_cells ou11
      refine bodyPost_ret (v := .agg #[.int .u8 0, .bool false, .int .u8 (F : Int), .bool false, .int .u8 2, .int .u8 0, .slice s k k]) (by simp [results, Try.results38, go_sem, u0, u1, u2, u3, u4, u5, u6]) rfl ?_
      obtain ⟨f1, f2, f3⟩ := cho_fin HSl.out HT3.out (Nat.lt_of_lt_of_le HU.out.lt HX3.out.size) HQ.out.2.1 HQ.out.2.2.1 HQ.out.2.2.2.1 HQ.out.2.2.2.2.1 HQ.out.2.2.2.2.2 hx11
      refine ⟨s, k, ?_, ?_, ?_, f2, f3⟩
      · rw [HUn.out, HF.out]; rfl
      · rw [HUn.out]; exact HQ.out.1
      · rw [HUn.out]; exact f1
    · go_enter Try.func38, Try.ntmps38
      go_wp2_with fail
      rw [← HW.out]
      with_reducible refine HFc.out.mono ?_
      rintro e w3 ⟨rfl, h3, hx3⟩
      have c5 := h3.cells.2.2.2.2.2.1
      have c2 := h3.cells.2.2.1
      have c3 := h3.cells.2.2.2.1
      have c6 := h3.cells.2.2.2.2.2.2.1
      have ou3 := HU.out.exc hx3 (fun hh => HNs.out b (.inl rfl) hh.symm)
      have hT3 : Exc (L.S b) w w3 := (Exc.of_below HB.out).trans hx3 (fun j _ hj => .inl hj)
      have H3 := Lib.hid h3
      have HX3 := Lib.hid hx3
      have HO3 := Lib.hid ou3
      have HT3 := Lib.hid hT3
      clear h3 hx3 ou3 hT3 HFc
      rw [p1] at c5
      rw [p3] at c2
      go_wp2_with fail
      with_reducible refine (repeat_from b y L w3 y.idx H3.out p2 rfl).mono ?_
      rintro e w2 ⟨s, k, rfl, hk, hr, hsz, L2, h2, hT2, hns⟩
      have ou2 := HO3.out.exc hT2.exc (fun hh => absurd (HSl.out _ hh) (Nat.lt_irrefl _))
      obtain ⟨u0, u1, u2, u3, u4, u5, u6⟩ := unit_cells ou2
      obtain ⟨t0, t1, t2, t3, t4, t5, t6⟩ := unit_frozen ou2
      have HO2 := Lib.hid ou2
      have HQ := Lib.hid (And.intro hk (And.intro hr (And.intro hsz (And.intro h2 (And.intro hT2 hns)))))
      obtain ⟨F, hF⟩ : ∃ F : Nat, F = (y.sent + 129 + y.idx - y.una.length) % 128 := ⟨_, rfl⟩
      simp only [En.unit, show ((2 : Nat) : Int) = 2 from rfl]
      rw [← hF]
      have HF := Lib.hid hF
      clear hk hr hsz h2 hT2 hns ou2 c5 c2 c3 c6 hF
      have HFc2 : True := trivial
      clear HFc2
      go_wp2
      generalize hW11 : ((((((w2.setCell ⟨w.heap.size, 0, none⟩ (.int .u8 0)).setCell ⟨w.heap.size, 1, none⟩ (.bool false)).setCell ⟨w.heap.size, 2, none⟩ (.int .u8 (F : Int))).setCell ⟨w.heap.size, 3, none⟩ (.bool false)).setCell ⟨w.heap.size, 4, none⟩ (.int .u8 2)).setCell ⟨w.heap.size, 5, none⟩ (.int .u8 0)).setCell ⟨w.heap.size, 6, none⟩ (.slice s k k) = W11
      obtain ⟨ou11, hx11⟩ := seven HO2.out hW11
      clear hW11 u0 u1 u2 u3 u4 u5 u6 t0 t1 t2 t3 t4 t5 t6
      obtain ⟨u0, u1, u2, u3, u4, u5, u6⟩ := unit_cells ou11
      refine bodyPost_ret (v := .agg #[.int .u8 0, .bool false, .int .u8 (F : Int), .bool false, .int .u8 2, .int .u8 0, .slice s k k]) (by simp [results, Try.results38, go_sem, u0, u1, u2, u3, u4, u5, u6]) rfl ?_
      obtain ⟨f1, f2, f3⟩ := cho_fin HSl.out HT3.out (Nat.lt_of_lt_of_le HU.out.lt HX3.out.size) HQ.out.2.1 HQ.out.2.2.1 HQ.out.2.2.2.1 HQ.out.2.2.2.2.1 HQ.out.2.2.2.2.2 hx11
      refine ⟨s, k, ?_, ?_, ?_, f2, f3⟩
      · rw [HUn.out, HF.out]; rfl
      · rw [HUn.out]; exact HQ.out.1
      · rw [HUn.out]; exact f1
  · have hp : y.forced = true ∨ (y.forced = false ∧ y.que.length = 0) := by
      cases hf : y.forced
      · rcases p1 with h | h
        · rw [hf] at h; cases h
        · exact .inr ⟨rfl, h⟩
      · exact .inl rfl
    clear p1
    rcases hp with p1 | ⟨p1, p3⟩
    · go_enter Try.func38, Try.ntmps38
      go_wp2_with fail
      rw [← HW.out]
      with_reducible refine HFc.out.mono ?_
      rintro e w3 ⟨rfl, h3, hx3⟩
      have c5 := h3.cells.2.2.2.2.2.1
      have c2 := h3.cells.2.2.1
      have c3 := h3.cells.2.2.2.1
      have c6 := h3.cells.2.2.2.2.2.2.1
      have ou3 := HU.out.exc hx3 (fun hh => HNs.out b (.inl rfl) hh.symm)
      have hT3 : Exc (L.S b) w w3 := (Exc.of_below HB.out).trans hx3 (fun j _ hj => .inl hj)
      have H3 := Lib.hid h3
      have HX3 := Lib.hid hx3
      have HO3 := Lib.hid ou3
      have HT3 := Lib.hid hT3
      clear h3 hx3 ou3 hT3 HFc
      rw [p1] at c5
      rw [p2] at c3
      obtain ⟨u0, u1, u2, u3, u4, u5, u6⟩ := unit_cells HO3.out
      obtain ⟨t0, t1, t2, t3, t4, t5, t6⟩ := unit_frozen HO3.out
      go_wp2
      generalize hW11 : ((((((w3.setCell ⟨w.heap.size, 0, none⟩ (.int .u8 0)).setCell ⟨w.heap.size, 1, none⟩ (.bool false)).setCell ⟨w.heap.size, 2, none⟩ (.int .u8 (y.sent : Int))).setCell ⟨w.heap.size, 3, none⟩ (.bool false)).setCell ⟨w.heap.size, 4, none⟩ (.int .u8 0)).setCell ⟨w.heap.size, 5, none⟩ (.int .u8 0)).setCell ⟨w.heap.size, 6, none⟩ (.slice none 0 0) = W11
      obtain ⟨ou11, hx11⟩ := seven HO3.out hW11
      clear hW11 u0 u1 u2 u3 u4 u5 u6 t0 t1 t2 t3 t4 t5 t6
      obtain ⟨u0, u1, u2, u3, u4, u5, u6⟩ := unit_cells ou11
      refine bodyPost_ret (v := .agg #[.int .u8 0, .bool false, .int .u8 (y.sent : Int), .bool false, .int .u8 0, .int .u8 0, .slice none 0 0]) (by simp [results, Try.results38, go_sem, u0, u1, u2, u3, u4, u5, u6]) rfl ?_
      obtain ⟨f1, f2, f3⟩ := cho_fin (s := none) (k := 0) (l := []) HSl.out HT3.out (Nat.lt_of_lt_of_le HU.out.lt HX3.out.size) (Row.of_nil _ _) (fun z hz => by cases hz) H3.out ⟨Exc.refl _ _, fun _ hj => .inl hj⟩ (fun z hz => by cases hz) hx11
      exact ⟨none, 0, by rw [HUn.out]; rfl, by rw [HUn.out]; rfl, by rw [HUn.out]; exact f1, f2, f3⟩
    · go_enter Try.func38, Try.ntmps38
      go_wp2_with fail
      rw [← HW.out]
      with_reducible refine HFc.out.mono ?_
      rintro e w3 ⟨rfl, h3, hx3⟩
      have c5 := h3.cells.2.2.2.2.2.1
      have c2 := h3.cells.2.2.1
      have c3 := h3.cells.2.2.2.1
      have c6 := h3.cells.2.2.2.2.2.2.1
      have ou3 := HU.out.exc hx3 (fun hh => HNs.out b (.inl rfl) hh.symm)
      have hT3 : Exc (L.S b) w w3 := (Exc.of_below HB.out).trans hx3 (fun j _ hj => .inl hj)
      have H3 := Lib.hid h3
      have HX3 := Lib.hid hx3
      have HO3 := Lib.hid ou3
      have HT3 := Lib.hid hT3
      clear h3 hx3 ou3 hT3 HFc
      rw [p1] at c5
      rw [p3] at c2
      rw [p2] at c3
      obtain ⟨u0, u1, u2, u3, u4, u5, u6⟩ := unit_cells HO3.out
      obtain ⟨t0, t1, t2, t3, t4, t5, t6⟩ := unit_frozen HO3.out
      go_wp2
      generalize hW11 : ((((((w3.setCell ⟨w.heap.size, 0, none⟩ (.int .u8 0)).setCell ⟨w.heap.size, 1, none⟩ (.bool false)).setCell ⟨w.heap.size, 2, none⟩ (.int .u8 (y.sent : Int))).setCell ⟨w.heap.size, 3, none⟩ (.bool false)).setCell ⟨w.heap.size, 4, none⟩ (.int .u8 0)).setCell ⟨w.heap.size, 5, none⟩ (.int .u8 0)).setCell ⟨w.heap.size, 6, none⟩ (.slice none 0 0) = W11
      obtain ⟨ou11, hx11⟩ := seven HO3.out hW11
      clear hW11 u0 u1 u2 u3 u4 u5 u6 t0 t1 t2 t3 t4 t5 t6
      obtain ⟨u0, u1, u2, u3, u4, u5, u6⟩ := unit_cells ou11
      refine bodyPost_ret (v := .agg #[.int .u8 0, .bool false, .int .u8 (y.sent : Int), .bool false, .int .u8 0, .int .u8 0, .slice none 0 0]) (by simp [results, Try.results38, go_sem, u0, u1, u2, u3, u4, u5, u6]) rfl ?_
      obtain ⟨f1, f2, f3⟩ := cho_fin (s := none) (k := 0) (l := []) HSl.out HT3.out (Nat.lt_of_lt_of_le HU.out.lt HX3.out.size) (Row.of_nil _ _) (fun z hz => by cases hz) H3.out ⟨Exc.refl _ _, fun _ hj => .inl hj⟩ (fun z hz => by cases hz) hx11
      exact ⟨none, 0, by rw [HUn.out]; rfl, by rw [HUn.out]; rfl, by rw [HUn.out]; exact f1, f2, f3⟩
end Go.Proofs.Ytpggiajpjnegkaa
