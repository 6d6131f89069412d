/- The walk of FramesLong. -/
import Derived.Test.YtohhocndicnegaaDoorFrTools
import Derived.Test.YtohhocndicnegaaDoorRefFr
namespace Go.Proofs.YtohhocndicnegaaDoor
open Go.RowKit

theorem octets_lit (x : Int) (hx : 0 ≤ x ∧ x ≤ 255) (n : Nat) (l : List Int) (w : World) (hn : n ≤ 1048576) (hl : octetsL [x] n = l) :
    Calls Tryd.prog 19 #[.slice (some ⟨w.heap.size, 0, none⟩) 1 1, .int .i64 n] (w.alloc (.cells (nums .u8 [x]).toArray 5)) fun e w' => (∃ g, e = .returned (.slice (some ⟨g, 0, none⟩) n n) ∧ Row .u8 w' (some ⟨g, 0, none⟩) n n l ∧ w.heap.size ≤ g ∧ g < w'.heap.size) ∧ Below w.heap.size w w' := by
  subst hl
  refine (octets2_any _ 1 1 [x] n _ (row_lit .u8 w 5 [x] 1 rfl (by decide) (fun y hy => by simp at hy; subst hy; exact wf_u8.2 hx)) hn).mono ?_
  rintro e w' ⟨rfl, hb, ho⟩
  have hl := octetsL_length [x] n
  have hrow := ho.row0 n n hl.symm (Nat.le_refl _) (by unfold maxLen; omega) (fun y hy => wf_u8.2 (octetsL_range (fun z hz => by simp at hz; subst hz; exact hx) n y hy))
  exact ⟨⟨_, rfl, hrow, by rw [World.size_alloc]; omega, ho.lt⟩, below_call hb⟩
theorem ones_bits (n : Nat) : ofL (octetsL [255] n) = List.replicate (8 * n) 1 := by
  have h : octetsL [255] n = List.replicate n 255 := by
    apply List.ext_getElem
    · simp [octetsL_length]
    · intro i h1 h2; simp [octetsL, Nat.mod_one]
  rw [h]
  induction n with
  | zero => rfl
  | succ n ih =>
    have ih := ih (by
      apply List.ext_getElem
      · simp [octetsL_length]
      · intro i h1 h2; simp [octetsL, Nat.mod_one])
    have h8 : bitsOf 255 8 = List.replicate 8 1 := by decide
    rw [List.replicate_succ', ofL_snoc, ih, h8, List.replicate_append_replicate]
    congr 1
theorem ones_facts (m : Nat) (hm : m = 131072) : ∃ O, ofL (octetsL [255] m) = O ∧ errOf O = 0 ∧ 1048576 < (stuff O).length := by
  refine ⟨_, ones_bits m, errOf_bin' (fun v hv => .inr (List.eq_of_mem_replicate hv)) (by rw [List.length_replicate]; omega), ?_⟩
  have h1 := stuff_ones_length (8 * m)
  have h2 := (stuff_runs (List.replicate (8 * m) 1)).1
  omega
theorem zero_facts (m : Nat) (hm : m = 1048576) : ∃ Z : List Int, Z.length = m ∧ errOf Z = 0 ∧ stuff Z = Z ∧ ∀ w : World, Row .u8 (w.alloc (.cells (madeCells #[.int .u8 0] m) 5)) (some ⟨w.heap.size, 0, none⟩) m m Z :=
  ⟨List.replicate m 0, List.length_replicate, errOf_bin' (fun v hv => .inl (List.eq_of_mem_replicate hv)) (by rw [List.length_replicate]; omega), stuff_zeros m, fun w =>
    (own_made .u8 m 5 w).row0 _ _ (by rw [List.length_replicate]) (Nat.le_refl _) (by unfold maxLen; omega) (fun x hx => by rw [List.eq_of_mem_replicate hx]; decide)⟩
theorem over_facts (m : Nat) (hm : m = 1048577) : ∃ Z : List Int, errOf Z = 3 ∧ ∀ w : World, Row .u8 (w.alloc (.cells (madeCells #[.int .u8 0] m) 5)) (some ⟨w.heap.size, 0, none⟩) m m Z :=
  ⟨List.replicate m 0, errOf_big (by rw [List.length_replicate]; omega), fun w =>
    (own_made .u8 m 5 w).row0 _ _ (by rw [List.length_replicate]) (Nat.le_refl _) (by unfold maxLen; omega) (fun x hx => by rw [List.eq_of_mem_replicate hx]; decide)⟩
theorem long_feed (A C : List Int) (hA : okC A) (hC : 280 < C.length) :
    feed Sc.zero (flagL ++ stuff (ofL C) ++ flagL ++ stuff (ofL A) ++ flagL) = (⟨true, 0, [], 1⟩, [A]) := by
  have e : flagL ++ stuff (ofL C) ++ flagL ++ stuff (ofL A) ++ flagL = flagL ++ ((stuff (ofL C) ++ flagL) ++ (stuff (ofL A) ++ flagL)) := by simp
  rw [e, feed_append, feed_first]
  simp only
  rw [feed_append, feed_long C hC]
  simp only
  rw [feed_content A hA]
  rfl
set_option maxHeartbeats 1000000 in
set_option maxRecDepth 100000 in
theorem framesLong_walk (x y : Int) (w : World) (hflag : FlagOk w) (hx : (Lit.int .u8 x).wf = true) (hy : (Lit.int .u16 y).wf = true) :
    Calls Tryd.prog 9 #[.int .u8 x, .int .u16 y] w fun e w' => e = .returned (.bool true) ∧ Below w.heap.size w w' := by
  have BB0 := Lib.hid (Below.refl w.heap.size w)
  have HF0 := Lib.hid hflag
  have hx255 := wf_u8.1 hx
  have hy' : 0 ≤ y := by
    simp [Lit.wf, IntKind.min, IntKind.max, IntKind.bits, IntKind.signed] at hy
    omega
  clear hflag hx hy
  obtain ⟨z, rfl⟩ := Int.eq_ofNat_of_zero_le hy'
  obtain ⟨M, hM⟩ : ∃ M, M = 281 + z % 2000 := ⟨_, rfl⟩
  have hM2 : M ≤ 2280 ∧ 281 ≤ M := by omega
  have hmod : (281 : Int) + (z : Int) % 2000 = (M : Int) := by omega
  obtain ⟨A, hA⟩ : ∃ A, A = octetsL [x] 280 := ⟨_, rfl⟩
  obtain ⟨C, hC⟩ : ∃ C, C = octetsL [x] M := ⟨_, rfl⟩
  have hAl : A.length = 280 := by rw [hA, octetsL_length]
  have hCl : C.length = M := by rw [hC, octetsL_length]
  have hAr : ∀ v ∈ A, 0 ≤ v ∧ v ≤ 255 := by rw [hA]; exact octetsL_range (fun v hv => by simp at hv; subst hv; exact hx255) 280
  have hok : okC A := ⟨by omega, by omega, hAr⟩
  have hfd := long_feed A C hok (by omega)
  obtain ⟨U, hU⟩ : ∃ U, U = (stuff (ofL A)).length := ⟨_, rfl⟩
  obtain ⟨V, hV⟩ : ∃ V, V = (stuff (ofL C)).length := ⟨_, rfl⟩
  have hU2 : U ≤ 2688 := by
    have h1 := stuff_length_le (ofL A)
    have h2 := runEnd_nonneg 1 (stuff (ofL A))
    rw [ofL_length, hAl] at h1
    omega
  have hV2 : V ≤ 21888 := by
    have h1 := stuff_length_le (ofL C)
    have h2 := runEnd_nonneg 1 (stuff (ofL C))
    rw [ofL_length, hCl] at h1
    omega
  obtain ⟨X, hX⟩ : ∃ X, X = flagL ++ stuff (ofL C) ++ flagL ++ stuff (ofL A) ++ flagL := ⟨_, rfl⟩
  have hXb : Bin X := by rw [hX]; exact ((((bin_flag.app (bin_stuff (bin_ofL C))).app bin_flag).app (bin_stuff (bin_ofL A))).app bin_flag)
  have hXl : X.length = 8 + V + 8 + U + 8 := by rw [hX]; simp only [List.length_append, ← hU, ← hV]; rfl
  rw [← hX] at hfd
  have hXe : errOf X = 0 := errOf_bin' hXb (by omega)
  obtain ⟨O, hOo, hOe, hOs⟩ := ones_facts 131072 rfl
  obtain ⟨Z, hZl, hZe, hZs, hZrow⟩ := zero_facts 1048576 rfl
  obtain ⟨Y, hYe, hYrow⟩ := over_facts 1048577 rfl
  have hmk1 : ∀ w, (Instr.makeSlice 22 (.int .i64 1048576) (.int .i64 1048576)).run Tryd.prog w = .ok (.slice (some ⟨w.heap.size, 0, none⟩) 1048576 1048576) (w.alloc (.cells (madeCells #[.int .u8 0] 1048576) 5)) := make8 1048576 (by omega)
  have hmk2 : ∀ w, (Instr.makeSlice 22 (.int .i64 1048577) (.int .i64 1048577)).run Tryd.prog w = .ok (.slice (some ⟨w.heap.size, 0, none⟩) 1048577 1048577) (w.alloc (.cells (madeCells #[.int .u8 0] 1048577) 5)) := make8 1048577 (by omega)
  obtain ⟨i0, hi, hz0, hz1, hz2⟩ := info_parts info8
  have HI := Lib.hid hi
  have HZ0 := Lib.hid hz0
  have HZ1 := Lib.hid hz1
  have HZ2 := Lib.hid hz2
  have HMk1 := Lib.hid hmk1
  have HMk2 := Lib.hid hmk2
  have HA := Lib.hid hA
  have HC := Lib.hid hC
  have HX := Lib.hid hX
  have HXe := Lib.hid hXe
  have HXb := Lib.hid hXb
  have HXl := Lib.hid hXl
  have HFd := Lib.hid hfd
  have HU := Lib.hid hU
  have HV := Lib.hid hV
  have HOo := Lib.hid hOo
  have HOe := Lib.hid hOe
  have HOs := Lib.hid hOs
  have HZl := Lib.hid hZl
  have HZe := Lib.hid hZe
  have HZs := Lib.hid hZs
  have HZr := Lib.hid hZrow
  have HYe := Lib.hid hYe
  have HYr := Lib.hid hYrow
  have HOk := Lib.hid hok
  have HAr := Lib.hid hAr
  have HAl := Lib.hid hAl
  have HX2 := Lib.hid hx255
  obtain ⟨hM2, hM3⟩ := hM2
  clear hmk1 hmk2 hA hC hX hXe hXb hXl hfd hU hV hOo hOe hOs hZl hZe hZs hZrow hYe hYrow hok hAr hAl hCl hi hz0 hz1 hz2 hM hx255
  go_enter Tryd.func9, Tryd.ntmps9
  go_wp2_with fail
  refine (stream_b _ 8 flagL _ rfl (by decide) (by decide)).mono ?_
  rintro e w101 ⟨⟨g101, rfl, r101, hg101, hg101'⟩, hb⟩
  have BB102 := Lib.hid (BB0.out.trans ((hb).mono BB0.out.size))
  have RF103 := Lib.hid (r101)
  clear hb r101 hg101 hg101' BB0
  go_wp2_with fail
  refine (octets_lit x HX2.out 280 A w101 (by omega) HA.out.symm).mono ?_
  rintro e w104 ⟨⟨g104, rfl, r104, hg104, hg104'⟩, hb⟩
  have BB105 := Lib.hid (BB102.out.trans ((hb).mono BB102.out.size))
  have RF106 := Lib.hid (RF103.out.later (hb))
  have R1107 := Lib.hid (r104)
  clear hb r104 hg104 hg104' BB102 RF103
  go_wp2_with fail
  refine (refOf_n _ 280 280 2240 A _ R1107.out (by omega) rfl).mono ?_
  rintro e w108 ⟨⟨a108, c108, rfl, r108⟩, hb⟩
  have BB109 := Lib.hid (BB105.out.trans ((hb).mono BB105.out.size))
  have RF110 := Lib.hid (RF106.out.later (hb))
  have R2111 := Lib.hid (r108)
  clear hb r108 BB105 RF106 R1107
  go_wp2_with fail
  refine (refStuff_any _ 2240 _ (ofL A) _ R2111.out (bin_ofL A) (by omega)).mono ?_
  rintro e w112 ⟨⟨v112, a112, c112, rfl, rfl, r112⟩, hb⟩
  have BB113 := Lib.hid (BB109.out.trans ((hb).mono BB109.out.size))
  have RF114 := Lib.hid (RF110.out.later (hb))
  have RA115 := Lib.hid (r112)
  clear hb r112 BB109 RF110 R2111
  have hrr := RA115.out
  rw [← HU.out] at hrr ⊢
  clear RA115
  have RA116 := Lib.hid (hrr)
  clear hrr
  have hct := octets_lit x HX2.out M C w112 (by omega) HC.out.symm
  have HCt := Lib.hid hct
  clear hct
  go_wp2_with fail
  refine (HCt.out).mono ?_
  rintro e w117 ⟨⟨g117, rfl, r117, hg117, hg117'⟩, hb⟩
  have BB118 := Lib.hid (BB113.out.trans ((hb).mono BB113.out.size))
  have RF119 := Lib.hid (RF114.out.later (hb))
  have RA120 := Lib.hid (RA116.out.later (hb))
  have R1121 := Lib.hid (r117)
  clear hb r117 hg117 hg117' BB113 RF114 RA116
  go_wp2_with fail
  refine (refOf_n _ M M (8 * M) C _ R1121.out (by omega) rfl).mono ?_
  rintro e w122 ⟨⟨a122, c122, rfl, r122⟩, hb⟩
  have BB123 := Lib.hid (BB118.out.trans ((hb).mono BB118.out.size))
  have RF124 := Lib.hid (RF119.out.later (hb))
  have RA125 := Lib.hid (RA120.out.later (hb))
  have R2126 := Lib.hid (r122)
  clear hb r122 BB118 RF119 RA120 R1121
  go_wp2_with fail
  refine (refStuff_any _ (8 * M) _ (ofL C) _ R2126.out (bin_ofL C) (by omega)).mono ?_
  rintro e w127 ⟨⟨v127, a127, c127, rfl, rfl, r127⟩, hb⟩
  have BB128 := Lib.hid (BB123.out.trans ((hb).mono BB123.out.size))
  have RF129 := Lib.hid (RF124.out.later (hb))
  have RA130 := Lib.hid (RA125.out.later (hb))
  have RC131 := Lib.hid (r127)
  clear hb r127 BB123 RF124 RA125 R2126
  have hrr := RC131.out
  rw [← HV.out] at hrr ⊢
  clear RC131
  have RC132 := Lib.hid (hrr)
  clear hrr
  have hzX := BB128.out.size
  go_wp2_with fail
  refine (new_any w127).mono ?_
  rintro e wn ⟨rfl, hb, hsx⟩
  have hsn0 : w127.heap.size < wn.heap.size := hsx.lt.1
  have BB133 := Lib.hid (BB128.out.trans ((hb).mono BB128.out.size))
  have RF134 := Lib.hid (RF129.out.later (hb))
  have RA135 := Lib.hid (RA130.out.later (hb))
  have RC136 := Lib.hid (RC132.out.later (hb))
  have SX137 := Lib.hid (hsx)
  clear hb hsx BB128 RF129 RA130 RC132
  have hcmA := RA135.out.max
  have hleA := RA135.out.le
  have hcmC := RC136.out.max
  have hleC := RC136.out.le
  unfold maxLen at hcmA hcmC
  have hnil : wn.ownsRow wn.heap.size 5 1 (.slice none 0 0) 0 (nums .u8 []) := by simpa [nums] using World.ownsRow_nil wn wn.heap.size 5 1
  have HOw0 := Lib.hid hnil
  have HBl0 := Lib.hid (Below.refl wn.heap.size wn)
  clear hnil
  have hr0 := RF134.out.later HBl0.out
  have HR0 := Lib.hid hr0
  clear hr0
  have hsz0 := HBl0.out.size
  go_wp2_with (at_builtin; refine wpList_append_list rfl _ _ 22 rfl wn.heap.size 5 i0 (.int .u8 0) 1 Tryd.underlying22 HI.out HZ0.out HZ1.out HZ2.out rfl .u8 _ _ _ rfl (by exact HOw0.out) _ _ _ _ rfl (by exact HR0.out) (by unfold maxLen; omega) (by omega) hsz0 ?_)
  intro v0 wa0 q1 q2
  have hb0 := HBl0.out.grown q2 hsz0 (fun g hg => (ownBlock_lt HOw0.out hg).1)
  have HOw1 := Lib.hid q1
  have HBl1 := Lib.hid hb0
  clear q1 q2 hb0 HR0
  have hr1 := RC136.out.later HBl1.out
  have HR1 := Lib.hid hr1
  clear hr1
  have hsz1 := HBl1.out.size
  go_wp2_with (at_builtin; refine wpList_append_list rfl _ _ 22 rfl wn.heap.size 5 i0 (.int .u8 0) 1 Tryd.underlying22 HI.out HZ0.out HZ1.out HZ2.out rfl .u8 _ _ _ rfl (by exact HOw1.out) _ _ _ _ rfl (by exact HR1.out) (by unfold maxLen; omega) (by omega) hsz1 ?_)
  intro v1 wa1 q1 q2
  have hb1 := HBl1.out.grown q2 hsz1 (fun g hg => (ownBlock_lt HOw1.out hg).1)
  have HOw2 := Lib.hid q1
  have HBl2 := Lib.hid hb1
  clear q1 q2 hb1 HR1
  have hr2 := RF134.out.later HBl2.out
  have HR2 := Lib.hid hr2
  clear hr2
  have hsz2 := HBl2.out.size
  go_wp2_with (at_builtin; refine wpList_append_list rfl _ _ 22 rfl wn.heap.size 5 i0 (.int .u8 0) 1 Tryd.underlying22 HI.out HZ0.out HZ1.out HZ2.out rfl .u8 _ _ _ rfl (by exact HOw2.out) _ _ _ _ rfl (by exact HR2.out) (by unfold maxLen; omega) (by omega) hsz2 ?_)
  intro v2 wa2 q1 q2
  have hb2 := HBl2.out.grown q2 hsz2 (fun g hg => (ownBlock_lt HOw2.out hg).1)
  have HOw3 := Lib.hid q1
  have HBl3 := Lib.hid hb2
  clear q1 q2 hb2 HR2
  have hr3 := RA135.out.later HBl3.out
  have HR3 := Lib.hid hr3
  clear hr3
  have hsz3 := HBl3.out.size
  go_wp2_with (at_builtin; refine wpList_append_list rfl _ _ 22 rfl wn.heap.size 5 i0 (.int .u8 0) 1 Tryd.underlying22 HI.out HZ0.out HZ1.out HZ2.out rfl .u8 _ _ _ rfl (by exact HOw3.out) _ _ _ _ rfl (by exact HR3.out) (by unfold maxLen; omega) (by omega) hsz3 ?_)
  intro v3 wa3 q1 q2
  have hb3 := HBl3.out.grown q2 hsz3 (fun g hg => (ownBlock_lt HOw3.out hg).1)
  have HOw4 := Lib.hid q1
  have HBl4 := Lib.hid hb3
  clear q1 q2 hb3 HR3
  have hr4 := RF134.out.later HBl4.out
  have HR4 := Lib.hid hr4
  clear hr4
  have hsz4 := HBl4.out.size
  go_wp2_with (at_builtin; refine wpList_append_list rfl _ _ 22 rfl wn.heap.size 5 i0 (.int .u8 0) 1 Tryd.underlying22 HI.out HZ0.out HZ1.out HZ2.out rfl .u8 _ _ _ rfl (by exact HOw4.out) _ _ _ _ rfl (by exact HR4.out) (by unfold maxLen; omega) (by omega) hsz4 ?_)
  intro v4 wa4 q1 q2
  have hb4 := HBl4.out.grown q2 hsz4 (fun g hg => (ownBlock_lt HOw4.out hg).1)
  have HOw5 := Lib.hid q1
  have HBl5 := Lib.hid hb4
  clear q1 q2 hb4 HR4
  have hown5 : wa4.ownsRow wn.heap.size 5 1 v4 (8 + V + 8 + U + 8) (nums .u8 X) := by
    rw [HX.out]
    have := HOw5.out
    simpa [List.append_assoc] using this
  obtain ⟨ax, cx, rfl, hrx, hlx⟩ := ownsRow_low hown5 (bin_wf HXb.out)
  clear hown5
  have hlx2 : ∀ z, ax = some z → wn.heap.size ≤ z.block := fun z hz => (hlx z hz).2
  have hb := HBl5.out
  have BB138 := Lib.hid (BB133.out.trans ((hb).mono BB133.out.size))
  have SX139 := Lib.hid (SX137.out.later (hb))
  have RX140 := Lib.hid (hrx)
  clear hb hrx hlx BB133 RF134 RA135 RC136 SX137
  have HLx := Lib.hid hlx2
  clear hlx2 HOw0 HOw1 HOw2 HOw3 HOw4 HOw5 HBl0 HBl1 HBl2 HBl3 HBl4
  have hsA := HBl5.out.size
  clear HBl5
  go_wp2_with fail
  refine (feed_n w127.heap.size none Sc.zero ⟨true, 0, [], 1⟩ [A] 0 1 _ _ _ X _ SX139.out RX140.out HXe.out (fun z hz => ⟨by have := HLx.out z hz; omega, by simp⟩) (by decide) HFd.out rfl).mono ?_
  rintro e wf ⟨aO, gX, rfl, hm1, hsx, hsn, _⟩
  have hb := hsn.below (Nat.le_of_lt SX139.out.lt.1) (by simp) (Nat.le_refl _)
  have BB141 := Lib.hid (BB138.out.trans (hb.mono hzX))
  have SX142 := Lib.hid (hsx)
  have M1143 := Lib.hid (hm1)
  clear hb hsn hsx hm1 HLx BB138 SX139 RX140
  go_wp2_with fail
  refine (octets_lit 255 (by decide) 131072 (octetsL [255] 131072) wf (by omega) rfl).mono ?_
  rintro e w144 ⟨⟨g144, rfl, r144, hg144, hg144'⟩, hb⟩
  have BB145 := Lib.hid (BB141.out.trans ((hb).mono BB141.out.size))
  have SX146 := Lib.hid (SX142.out.later (hb))
  have M1147 := Lib.hid (M1143.out.later (hb))
  have R1148 := Lib.hid (r144)
  clear hb r144 hg144 hg144' BB141 SX142 M1143
  go_wp2_with fail
  refine (refOf_n _ 131072 131072 1048576 _ _ R1148.out (by omega) (by rfl)).mono ?_
  rintro e w149 ⟨⟨a149, c149, rfl, r149⟩, hb⟩
  have BB150 := Lib.hid (BB145.out.trans ((hb).mono BB145.out.size))
  have SX151 := Lib.hid (SX146.out.later (hb))
  have M1152 := Lib.hid (M1147.out.later (hb))
  have R2153 := Lib.hid (r149)
  clear hb r149 BB145 SX146 M1147 R1148
  have hrr := R2153.out
  rw [HOo.out] at hrr
  clear R2153
  have R2154 := Lib.hid (hrr)
  clear hrr
  go_wp2_with fail
  refine (stuff_big _ 1048576 _ O _ R2154.out HOe.out HOs.out).mono ?_
  rintro e w155 ⟨rfl, hb⟩
  have BB156 := Lib.hid (BB150.out.trans ((hb).mono BB150.out.size))
  have SX157 := Lib.hid (SX151.out.later (hb))
  have M1158 := Lib.hid (M1152.out.later (hb))
  clear hb BB150 SX151 M1152 R2154
  have hmk1 := HMk1.out
  go_wp2_with fail
  refine (stuff_n _ 1048576 1048576 1048576 Z Z _ (HZr.out w155) HZe.out HZs.out HZl.out (by omega)).mono ?_
  rintro e w159 ⟨⟨a159, rfl, r159⟩, hb⟩
  clear hmk1
  have BB160 := Lib.hid (BB156.out.trans (((below_call hb)).mono BB156.out.size))
  have SX161 := Lib.hid (SX157.out.later ((below_call hb)))
  have M1162 := Lib.hid (M1158.out.later ((below_call hb)))
  clear hb r159 BB156 SX157 M1158
  have hmk2 := HMk2.out
  go_wp2_with fail
  refine (unstuff_err _ 1048577 1048577 Y 3 _ (HYr.out w159) HYe.out (by decide)).mono ?_
  rintro e w' ⟨rfl, rfl⟩
  clear hmk2
  have hb := below_alloc w159 (.cells (madeCells #[.int .u8 0] 1048577) 5)
  obtain ⟨wk, hwk⟩ : ∃ v, v = w159.alloc (.cells (madeCells #[.int .u8 0] 1048577) 5) := ⟨_, rfl⟩
  rw [← hwk] at hb ⊢
  have BB163 := Lib.hid (BB160.out.trans ((hb).mono BB160.out.size))
  have SX164 := Lib.hid (SX161.out.later (hb))
  have M1165 := Lib.hid (M1162.out.later (hb))
  clear hb hwk BB160 SX161 M1162
  go_wp2_with fail
  refine (octets_lit x HX2.out 280 A wk (by omega) HA.out.symm).mono ?_
  rintro e w166 ⟨⟨g166, rfl, r166, hg166, hg166'⟩, hb⟩
  have BB167 := Lib.hid (BB163.out.trans ((hb).mono BB163.out.size))
  have SX168 := Lib.hid (SX164.out.later (hb))
  have M1169 := Lib.hid (M1165.out.later (hb))
  have R1170 := Lib.hid (r166)
  clear hb r166 hg166 hg166' BB163 SX164 M1165
  have hrv : RowV w166 (fun _ => True) true (.slice (some ⟨g166, 0, none⟩) 280 280) A := ⟨_, _, by rw [HAl.out], by rw [HAl.out]; exact R1170.out, fun _ => HAl.out.symm, fun _ _ => trivial⟩
  have hm2 := mat_one hrv
  have HM2 := Lib.hid hm2
  clear hrv hm2
  have hba := below_alloc w166 (.cells #[.slice (some ⟨g166, 0, none⟩) 280 280] 22)
  go_wp2_with fail
  refine (lists_yes _ _ true _ _ 1 1 [A] _ (M1169.out.later hba) HM2.out).mono ?_
  rintro e w' ⟨rfl, qz, rfl⟩
  have hb := below_call (below_draw (w166.alloc (.cells #[.slice (some ⟨g166, 0, none⟩) 280 280] 22)) qz)
  obtain ⟨wl, hwl⟩ : ∃ v, v = (w166.alloc (.cells #[.slice (some ⟨g166, 0, none⟩) 280 280] 22)).drewN qz := ⟨_, rfl⟩
  rw [← hwl] at hb ⊢
  have BB171 := Lib.hid (BB167.out.trans ((hb).mono BB167.out.size))
  have SX172 := Lib.hid (SX168.out.later (hb))
  clear hb hwl hba HM2 BB167 SX168 M1169 R1170
  go_wp2_with fail
  refine (errors_any w127.heap.size gX _ _ _ SX172.out).mono ?_
  rintro e w' ⟨rfl, rfl⟩
  go_wp2_with fail
  refine (lives_any wl (HF0.out.later BB171.out)).mono ?_
  rintro e w173 ⟨rfl, hb⟩
  have BB174 := Lib.hid (BB171.out.trans ((hb).mono BB171.out.size))
  clear hb BB171 SX172
  go_wp2
  go_ret
  exact ⟨rfl, BB174.out⟩
end Go.Proofs.YtohhocndicnegaaDoor
