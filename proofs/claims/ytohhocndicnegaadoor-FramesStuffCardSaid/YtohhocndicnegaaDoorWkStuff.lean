/- The walk of FramesStuff. -/
import Derived.Test.YtohhocndicnegaaDoorFrLives
import Derived.Test.YtohhocndicnegaaDoorRefFr
import Derived.Test.YtohhocndicnegaaDoorRefCheck
import Derived.Test.YtohhocndicnegaaDoorRun
namespace Go.Proofs.YtohhocndicnegaaDoor
open Go.RowKit

theorem stuffed_sizes (l : List Int) (h : l.length ≤ 400) : (stuff l).length ≤ 480 := by
  have := stuff_length_le l
  have := runEnd_nonneg 1 (stuff l)
  omega
theorem row_bin {w : World} {a : Option Addr} {n c : Nat} {l : List Int} (h : Row .u8 w a n c l) (he : errOf l = 0) : Bin l := fun x hx => by
  have := h.bits (errOf_zero he).2 x hx; omega
theorem errOf_bin {l : List Int} (h : Bin l) (hl : l.length ≤ 1048576) : errOf l = 0 := errOf_ok hl h.isBits
set_option maxHeartbeats 4000000 in
set_option maxRecDepth 100000 in
theorem framesStuff_walk (a : Option Addr) (n c : Nat) (l : List Int) (w : World) (hflag : FlagOk w) (h : Row .u8 w a n c l) :
    Calls Tryd.prog 3 #[.slice a n c] w fun e w' => e = .returned (.bool true) ∧ Below w.heap.size w w' := by
  have BB0 := Lib.hid (Below.refl w.heap.size w)
  have HF0 := Lib.hid hflag
  have RS0 := Lib.hid h
  have hcm := h.max
  have hle := h.le
  unfold maxLen at hcm
  by_cases hbig : 400 < n
  · clear h hflag
    go_enter Tryd.func3, Tryd.ntmps3
    go_wp2_with fail
    refine (lives_any w HF0.out).mono ?_
    rintro e w11 ⟨rfl, hb⟩
    have BB12 := Lib.hid (BB0.out.trans ((hb).mono BB0.out.size))
    clear hb BB0 HF0 RS0
    go_wp2
    go_ret
    exact ⟨rfl, BB12.out⟩
  · have hchk := refCheck_any a n c l w h
    by_cases he0 : errOf l = 0
    · have hbin := row_bin h he0
      have HBin := Lib.hid hbin
      rw [he0] at hchk
      have HCk := Lib.hid hchk
      have hll := h.len
      obtain ⟨M, hM⟩ : ∃ M, M = (stuff l).length := ⟨_, rfl⟩
      have hM4 := stuffed_sizes l (by omega)
      rw [← hM] at hM4
      have HM := Lib.hid hM
      have HE := Lib.hid he0
      obtain ⟨hrun1, hrun2⟩ := stuff_runs l
      obtain ⟨rm, hrm⟩ : ∃ rm, rm = runMax 1 (stuff l) := ⟨_, rfl⟩
      rw [← hrm] at hrun2
      have HRM := Lib.hid hrm
      have hes : errOf (stuff l) = 0 := errOf_bin (bin_stuff hbin) (by rw [← hM]; omega)
      have HES := Lib.hid hes
      have HLL := Lib.hid hll
      clear hchk hbin hflag he0 hM hrun1 hrm hes hll
      have hr0 := h
      clear h
      have hun := fun w' (hb : Below w.heap.size w w') => unstuff_any a n c l w' (hr0.later hb) HE.out
      have HUn := Lib.hid hun
      clear hun hr0
      by_cases hst : isStuffed l = true
      · obtain ⟨N, hN⟩ : ∃ N, N = (plain l).length := ⟨_, rfl⟩
        have hN4 := plain_length l
        rw [← hN, HLL.out] at hN4
        have HN := Lib.hid hN
        clear hN HUn
        have HSt := Lib.hid hst
        clear hst
        go_enter Tryd.func3, Tryd.ntmps3
        go_wp2_with fail
        refine (HCk.out).mono ?_
        rintro e w' ⟨rfl, rfl⟩
        go_wp2_with fail
        refine (stuff_n _ n c M _ _ _ RS0.out HE.out rfl HM.out.symm (by omega)).mono ?_
        rintro e w101 ⟨⟨a101, rfl, r101⟩, hb⟩
        have BB102 := Lib.hid (BB0.out.trans ((hb).mono BB0.out.size))
        have HF103 := Lib.hid (HF0.out.later (hb))
        have RS104 := Lib.hid (RS0.out.later (hb))
        have RA105 := Lib.hid (r101)
        clear hb r101 BB0 HF0 RS0
        go_wp2_with fail
        refine (unstuff_n _ n c N _ _ _ RS104.out HE.out HSt.out rfl HN.out.symm).mono ?_
        rintro e w106 ⟨⟨a106, rfl, r106⟩, hb⟩
        have BB107 := Lib.hid (BB102.out.trans ((hb).mono BB102.out.size))
        have HF108 := Lib.hid (HF103.out.later (hb))
        have RS109 := Lib.hid (RS104.out.later (hb))
        have RA110 := Lib.hid (RA105.out.later (hb))
        have RB111 := Lib.hid (r106)
        clear hb r106 BB102 HF103 RS104 RA105
        go_wp2_with fail
        refine (unstuff_n _ M M n _ l _ RA110.out HES.out (isStuffed_stuff l) (plain_stuff l) HLL.out).mono ?_
        rintro e w112 ⟨⟨a112, rfl, r112⟩, hb⟩
        have BB113 := Lib.hid (BB107.out.trans ((hb).mono BB107.out.size))
        have HF114 := Lib.hid (HF108.out.later (hb))
        have RS115 := Lib.hid (RS109.out.later (hb))
        have RA116 := Lib.hid (RA110.out.later (hb))
        have RB117 := Lib.hid (RB111.out.later (hb))
        have RK118 := Lib.hid (r112)
        clear hb r112 BB107 HF108 RS109 RA110 RB111
        go_wp2_with fail
        refine (refStuff_any _ n c l _ RS115.out HBin.out (by omega)).mono ?_
        rintro e w119 ⟨⟨v119, a119, c119, rfl, rfl, r119⟩, hb⟩
        have BB120 := Lib.hid (BB113.out.trans ((hb).mono BB113.out.size))
        have HF121 := Lib.hid (HF114.out.later (hb))
        have RS122 := Lib.hid (RS115.out.later (hb))
        have RA123 := Lib.hid (RA116.out.later (hb))
        have RB124 := Lib.hid (RB117.out.later (hb))
        have RK125 := Lib.hid (RK118.out.later (hb))
        have RR126 := Lib.hid (r119)
        clear hb r119 BB113 HF114 RS115 RA116 RB117 RK118
        have hrr := RR126.out
        rw [← HM.out] at hrr
        clear RR126
        have RR127 := Lib.hid (hrr)
        clear hrr
        rw [← HM.out]
        go_wp2_with fail
        refine (bytes_yes _ _ M M _ _ _ RA123.out RR127.out).mono ?_
        rintro e w' ⟨rfl, q128, rfl⟩
        have hb := below_draw w119 q128
        obtain ⟨w128, hw⟩ : ∃ x, x = (w119).drewN q128 := ⟨_, rfl⟩
        rw [← hw] at hb ⊢
        have BB129 := Lib.hid (BB120.out.trans ((hb).mono BB120.out.size))
        have HF130 := Lib.hid (HF121.out.later (hb))
        have RS131 := Lib.hid (RS122.out.later (hb))
        have RA132 := Lib.hid (RA123.out.later (hb))
        have RB133 := Lib.hid (RB124.out.later (hb))
        have RK134 := Lib.hid (RK125.out.later (hb))
        clear hb hw BB120 HF121 RS122 RA123 RB124 RK125 RR127
        go_wp2_with fail
        refine (run_n _ M M _ 1 rm _ RA132.out HRM.out.symm).mono ?_
        rintro e w' ⟨rfl, rfl⟩
        go_wp2_with fail
        refine (bytes_yes _ _ n n _ _ _ RK134.out RS131.out).mono ?_
        rintro e w' ⟨rfl, q135, rfl⟩
        have hb := below_draw w128 q135
        obtain ⟨w135, hw⟩ : ∃ x, x = (w128).drewN q135 := ⟨_, rfl⟩
        rw [← hw] at hb ⊢
        have BB136 := Lib.hid (BB129.out.trans ((hb).mono BB129.out.size))
        have HF137 := Lib.hid (HF130.out.later (hb))
        have RS138 := Lib.hid (RS131.out.later (hb))
        have RB139 := Lib.hid (RB133.out.later (hb))
        clear hb hw BB129 HF130 RS131 RA132 RB133 RK134
        go_wp2_with fail
        refine (refStuff_any _ N N _ _ RB139.out (bin_plain HBin.out) (by omega)).mono ?_
        rintro e w140 ⟨⟨v140, a140, c140, rfl, rfl, r140⟩, hb⟩
        have BB141 := Lib.hid (BB136.out.trans ((hb).mono BB136.out.size))
        have HF142 := Lib.hid (HF137.out.later (hb))
        have RS143 := Lib.hid (RS138.out.later (hb))
        have RB144 := Lib.hid (RB139.out.later (hb))
        have RR145 := Lib.hid (r140)
        clear hb r140 BB136 HF137 RS138 RB139
        have hrr := RR145.out
        rw [stuff_plain_of HBin.out HSt.out, HLL.out] at hrr
        clear RR145
        have RR146 := Lib.hid (hrr)
        clear hrr
        rw [stuff_plain_of HBin.out HSt.out, HLL.out]
        go_wp2_with fail
        refine (same_yes _ _ n _ n c _ _ RR146.out RS143.out).mono ?_
        rintro e w' ⟨rfl, q147, rfl⟩
        have hb := below_draw w140 q147
        obtain ⟨w147, hw⟩ : ∃ x, x = (w140).drewN q147 := ⟨_, rfl⟩
        rw [← hw] at hb ⊢
        have BB148 := Lib.hid (BB141.out.trans ((hb).mono BB141.out.size))
        have HF149 := Lib.hid (HF142.out.later (hb))
        have RS150 := Lib.hid (RS143.out.later (hb))
        clear hb hw BB141 HF142 RS143 RB144 RR146
        go_wp2_with fail
        refine (lives_any w147 HF149.out).mono ?_
        rintro e w151 ⟨rfl, hb⟩
        have BB152 := Lib.hid (BB148.out.trans ((hb).mono BB148.out.size))
        clear hb BB148 HF149 RS150
        go_wp2
        go_ret
        exact ⟨rfl, BB152.out⟩
      · have hst : isStuffed l = false := by simpa using hst
        clear HUn
        have HSt := Lib.hid hst
        clear hst
        go_enter Tryd.func3, Tryd.ntmps3
        go_wp2_with fail
        refine (HCk.out).mono ?_
        rintro e w' ⟨rfl, rfl⟩
        go_wp2_with fail
        refine (stuff_n _ n c M _ _ _ RS0.out HE.out rfl HM.out.symm (by omega)).mono ?_
        rintro e w201 ⟨⟨a201, rfl, r201⟩, hb⟩
        have BB202 := Lib.hid (BB0.out.trans ((hb).mono BB0.out.size))
        have HF203 := Lib.hid (HF0.out.later (hb))
        have RS204 := Lib.hid (RS0.out.later (hb))
        have RA205 := Lib.hid (r201)
        clear hb r201 BB0 HF0 RS0
        go_wp2_with fail
        refine (unstuff_form _ n c _ _ RS204.out HE.out HSt.out).mono ?_
        rintro e w206 ⟨rfl, hb⟩
        have BB207 := Lib.hid (BB202.out.trans ((hb).mono BB202.out.size))
        have HF208 := Lib.hid (HF203.out.later (hb))
        have RS209 := Lib.hid (RS204.out.later (hb))
        have RA210 := Lib.hid (RA205.out.later (hb))
        clear hb BB202 HF203 RS204 RA205
        go_wp2_with fail
        refine (unstuff_n _ M M n _ l _ RA210.out HES.out (isStuffed_stuff l) (plain_stuff l) HLL.out).mono ?_
        rintro e w211 ⟨⟨a211, rfl, r211⟩, hb⟩
        have BB212 := Lib.hid (BB207.out.trans ((hb).mono BB207.out.size))
        have HF213 := Lib.hid (HF208.out.later (hb))
        have RS214 := Lib.hid (RS209.out.later (hb))
        have RA215 := Lib.hid (RA210.out.later (hb))
        have RK216 := Lib.hid (r211)
        clear hb r211 BB207 HF208 RS209 RA210
        go_wp2_with fail
        refine (refStuff_any _ n c l _ RS214.out HBin.out (by omega)).mono ?_
        rintro e w217 ⟨⟨v217, a217, c217, rfl, rfl, r217⟩, hb⟩
        have BB218 := Lib.hid (BB212.out.trans ((hb).mono BB212.out.size))
        have HF219 := Lib.hid (HF213.out.later (hb))
        have RS220 := Lib.hid (RS214.out.later (hb))
        have RA221 := Lib.hid (RA215.out.later (hb))
        have RK222 := Lib.hid (RK216.out.later (hb))
        have RR223 := Lib.hid (r217)
        clear hb r217 BB212 HF213 RS214 RA215 RK216
        have hrr := RR223.out
        rw [← HM.out] at hrr
        clear RR223
        have RR224 := Lib.hid (hrr)
        clear hrr
        rw [← HM.out]
        go_wp2_with fail
        refine (bytes_yes _ _ M M _ _ _ RA221.out RR224.out).mono ?_
        rintro e w' ⟨rfl, q225, rfl⟩
        have hb := below_draw w217 q225
        obtain ⟨w225, hw⟩ : ∃ x, x = (w217).drewN q225 := ⟨_, rfl⟩
        rw [← hw] at hb ⊢
        have BB226 := Lib.hid (BB218.out.trans ((hb).mono BB218.out.size))
        have HF227 := Lib.hid (HF219.out.later (hb))
        have RS228 := Lib.hid (RS220.out.later (hb))
        have RA229 := Lib.hid (RA221.out.later (hb))
        have RK230 := Lib.hid (RK222.out.later (hb))
        clear hb hw BB218 HF219 RS220 RA221 RK222 RR224
        go_wp2_with fail
        refine (run_n _ M M _ 1 rm _ RA229.out HRM.out.symm).mono ?_
        rintro e w' ⟨rfl, rfl⟩
        go_wp2_with fail
        refine (bytes_yes _ _ n n _ _ _ RK230.out RS228.out).mono ?_
        rintro e w' ⟨rfl, q231, rfl⟩
        have hb := below_draw w225 q231
        obtain ⟨w231, hw⟩ : ∃ x, x = (w225).drewN q231 := ⟨_, rfl⟩
        rw [← hw] at hb ⊢
        have BB232 := Lib.hid (BB226.out.trans ((hb).mono BB226.out.size))
        have HF233 := Lib.hid (HF227.out.later (hb))
        have RS234 := Lib.hid (RS228.out.later (hb))
        clear hb hw BB226 HF227 RS228 RA229 RK230
        go_wp2_with fail
        go_loopw [10, 11] (fun v i wr => ∃ k : Nat, k ≤ n ∧ i = .int .i64 k ∧ Grow (.slice none 0 0) w231 v wr ∧ wr.ownsRow w231.heap.size 5 1 v (plain (l.take k)).length (nums .u8 (plain (l.take k)))) (fun _ i _ => n - (intOf i).toNat)
        case atStart => exact ⟨0, Nat.zero_le _, rfl, Grow.refl _ _, by simpa [plain, nums] using World.ownsRow_nil w231 w231.heap.size 5 1⟩
        case round =>
          obtain ⟨k, hk, rfl, hgr, hown⟩ := hrel
          by_cases hlt : k < n
          · have hrow1 := RS234.out.later hgr.nil
            have hones := ones_any a n c l k wr hrow1 (by omega)
            obtain ⟨b, o, rfl, g0⟩ := row_at hrow1 hlt
            have hlk : k < l.length := by rw [HLL.out]; exact hlt
            have hx01 := bin_getD HBin.out hlk
            have ht := take_succ' hlk
            obtain ⟨x, hx⟩ : ∃ x, x = l.getD k 0 := ⟨_, rfl⟩
            rw [← hx] at g0 ht hx01
            have hps := plain_snoc (l.take k) x
            rw [← ht] at hps
            have hpl := plain_length (l.take k)
            rw [List.length_take] at hpl
            obtain ⟨N, hN⟩ : ∃ N, N = (plain (l.take k)).length := ⟨_, rfl⟩
            rw [← hN] at hpl hown
            have hN2 : N ≤ 2097152 := by omega
            obtain ⟨q, hq⟩ : ∃ q, q = runEnd 1 (l.take k) := ⟨_, rfl⟩
            rw [← hq] at hones hps
            have HOn := Lib.hid hones
            have HP := Lib.hid hps
            have HN := Lib.hid hN
            have HG := Lib.hid hgr
            have HW := Lib.hid hown
            have hsz : w231.heap.size ≤ wr.heap.size := hgr.exc.size
            clear hones hps hN hgr hown hq hx ht hrow1 hpl
            have key : ∀ (hc : x = 1 ∨ q ≠ 5) {v1 : Value} {w1 : World} (h1 : w1.ownsRow w231.heap.size 5 1 v1 (N + 1) (nums .u8 (plain (l.take k) ++ [x]))), w1.ownsRow w231.heap.size 5 1 v1 (plain (l.take (k + 1))).length (nums .u8 (plain (l.take (k + 1)))) := fun hc {v1 w1} h1 => by
              have e1 : plain (l.take (k + 1)) = plain (l.take k) ++ [x] := by rw [HP.out, if_pos hc]
              rw [e1, List.length_append, ← HN.out]
              exact h1
            have HK := Lib.hid key
            clear key
            rcases hx01 with rfl | rfl
            · by_cases h5 : q = 5
              · have h5' : (q != 5) = false := by simpa using h5
                have HS := Lib.hid h5
                clear h5
                go_wp2_with fail
                refine HOn.out.mono ?_
                rintro e w' ⟨rfl, rfl⟩
                go_wp2
                refine ⟨⟨k + 1, by omega, by go_num, HG.out, ?_⟩, by simp [intOf]; omega⟩
                have e1 : plain (l.take (k + 1)) = plain (l.take k) := by rw [HP.out, if_neg (fun hh => by rcases hh with h | h; cases h; exact h HS.out)]
                rw [e1, ← HN.out]
                exact HW.out
              · have h5' : (q != 5) = true := by simpa using h5
                have HS := Lib.hid h5
                clear h5
                go_wp2_with fail
                refine HOn.out.mono ?_
                rintro e w' ⟨rfl, rfl⟩
                go_wp2_with (at_builtin; refine wpList_append_one Tryd.underlying22 info8 (by decide) rfl _ _ rfl w231.heap.size _ _ _ _ rfl (by exact HW.out) rfl (by omega) hsz ?_)
                intro v1 w1 h1 h2 g c1 h3
                have H1 := Lib.hid h1
                have H2 := Lib.hid h2
                clear h1 h2 h3
                go_wp2
                exact ⟨⟨k + 1, by omega, by go_num, HG.out.trans H2.out, HK.out (.inr HS.out) H1.out⟩, by simp [intOf]; omega⟩
            · go_wp2_with (at_builtin; refine wpList_append_one Tryd.underlying22 info8 (by decide) rfl _ _ rfl w231.heap.size _ _ _ _ rfl (by exact HW.out) rfl (by omega) hsz ?_)
              intro v1 w1 h1 h2 g c1 h3
              have H1 := Lib.hid h1
              have H2 := Lib.hid h2
              clear h1 h2 h3
              go_wp2
              exact ⟨⟨k + 1, by omega, by go_num, HG.out.trans H2.out, HK.out (.inl (by trivial)) H1.out⟩, by simp [intOf]; omega⟩
          · obtain rfl : k = n := by omega
            rw [List.take_of_length_le (by rw [HLL.out]; exact Nat.le_refl _)] at hown
            obtain ⟨a', c', rfl, hrow, hlow⟩ := ownsRow_low hown (bin_wf (bin_plain HBin.out))
            have hb := hgr.nil
            have hN4 := plain_length l
            rw [HLL.out] at hN4
            have hle' := hrow.le
            have hcm' := hrow.max
            unfold maxLen at hcm'
            have BB235 := Lib.hid (BB232.out.trans ((hb).mono BB232.out.size))
            have HF236 := Lib.hid (HF233.out.later (hb))
            have RS237 := Lib.hid (RS234.out.later (hb))
            have RT238 := Lib.hid (hrow)
            clear hb hrow hlow hgr hown BB232 HF233 RS234
            go_wp2_with fail
            refine (refStuff_any _ _ _ _ _ RT238.out (bin_plain HBin.out) (by omega)).mono ?_
            rintro e w239 ⟨⟨v239, a239, c239, rfl, rfl, r239⟩, hb⟩
            have BB240 := Lib.hid (BB235.out.trans ((hb).mono BB235.out.size))
            have HF241 := Lib.hid (HF236.out.later (hb))
            have RS242 := Lib.hid (RS237.out.later (hb))
            have RR243 := Lib.hid (r239)
            clear hb r239 BB235 HF236 RS237 RT238
            have hsm := same_any _ _ _ _ _ _ _ _ _ RR243.out RS242.out
            simp only [decide_eq_false (not_stuffed HSt.out (plain l))] at hsm
            have HSm := Lib.hid hsm
            clear hsm
            go_wp2_with fail
            refine (HSm.out).mono ?_
            rintro e w' ⟨rfl, q244, rfl⟩
            have hb := below_draw w239 q244
            obtain ⟨w244, hw⟩ : ∃ x, x = (w239).drewN q244 := ⟨_, rfl⟩
            rw [← hw] at hb ⊢
            have BB245 := Lib.hid (BB240.out.trans ((hb).mono BB240.out.size))
            have HF246 := Lib.hid (HF241.out.later (hb))
            have RS247 := Lib.hid (RS242.out.later (hb))
            clear hb hw BB240 HF241 RS242 RR243
            go_wp2_with fail
            refine (lives_any w244 HF246.out).mono ?_
            rintro e w248 ⟨rfl, hb⟩
            have BB249 := Lib.hid (BB245.out.trans ((hb).mono BB245.out.size))
            clear hb BB245 HF246 RS247
            go_wp2
            go_ret
            exact ⟨rfl, BB249.out⟩
    · obtain ⟨x, hx⟩ : ∃ x, x = errOf l := ⟨_, rfl⟩
      rw [← hx] at he0 hchk
      have hne : (x != 0) = true := by simpa using he0
      have hxx : (x != x) = false := by simp
      have HCk := Lib.hid hchk
      have HX := Lib.hid hx
      have HX0 := Lib.hid he0
      clear hchk hx he0 h hflag
      go_enter Tryd.func3, Tryd.ntmps3
      go_wp2_with fail
      refine (HCk.out).mono ?_
      rintro e w' ⟨rfl, rfl⟩
      go_wp2_with fail
      refine (stuff_err _ n c _ x _ RS0.out HX.out.symm HX0.out).mono ?_
      rintro e w' ⟨rfl, rfl⟩
      go_wp2_with fail
      refine (unstuff_err _ n c _ x _ RS0.out HX.out.symm HX0.out).mono ?_
      rintro e w' ⟨rfl, rfl⟩
      go_wp2_with fail
      refine (lives_any w HF0.out).mono ?_
      rintro e w11 ⟨rfl, hb⟩
      have BB12 := Lib.hid (BB0.out.trans ((hb).mono BB0.out.size))
      clear hb BB0 HF0 RS0
      go_wp2
      go_ret
      exact ⟨rfl, BB12.out⟩
end Go.Proofs.YtohhocndicnegaaDoor
