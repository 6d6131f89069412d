/- The walk of UnitsCheck. -/
import Derived.Test.YtkfookiakpnlfaaDoorUnWalk
namespace Go.Proofs.YtkfookiakpnlfaaDoor
open Go.RowKit

set_option maxHeartbeats 4000000 in
set_option maxRecDepth 100000 in
theorem unitsCheck_walk (a0 : Int) (b1 : Bool) (a2 : Int) (b3 : Bool) (a4 a5 : Int) (s : Option Addr) (n c : Nat) (l : List Int) (w : World) (hp : PowOk w) (h0 : (Lit.int .u8 a0).wf = true) (h2 : (Lit.int .u8 a2).wf = true) (h4 : (Lit.int .u8 a4).wf = true) (h5 : (Lit.int .u8 a5).wf = true) (h : Row .u8 w s n c l) :
    Calls Tryd.prog 3 #[.agg #[.int .u8 a0, .bool b1, .int .u8 a2, .bool b3, .int .u8 a4, .int .u8 a5, .slice s n c]] w fun e w' => e = .returned (.bool true) ∧ Below w.heap.size w w' := by
  have hle := h.le
  have hcm := h.max
  unfold maxLen at hcm
  obtain ⟨h00, h01⟩ := wf_u8.1 h0
  obtain ⟨h20, h21⟩ := wf_u8.1 h2
  obtain ⟨h40, h41⟩ := wf_u8.1 h4
  obtain ⟨h50, h51⟩ := wf_u8.1 h5
  have hn63 : n ≤ 9223372036854775807 := by omega
  have BB0 := Lib.hid (Below.refl w.heap.size w)
  have HP0 := Lib.hid hp
  have RS0 := Lib.hid h
  clear h hp h0 h2 h4 h5
  by_cases hbig : 400 < n
  · go_enter Tryd.func3, Tryd.ntmps3
    go_wp2_with fail
    refine (lives_any _ (HP0.out.later (below_alloc _ _))).mono ?_
    rintro e w11 ⟨rfl, hb⟩
    have hb2 := below_call hb
    have BB1 := Lib.hid hb2
    clear hb hb2
    go_wp2
    go_ret
    exact ⟨rfl, BB1.out⟩
  · obtain ⟨E, hE⟩ : ∃ E, chk a0 a2 a4 a5 n = E := ⟨_, rfl⟩
    have HE := Lib.hid hE
    clear hE
    by_cases hE0 : E = 0
    · subst hE0
      go_enter Tryd.func3, Tryd.ntmps3
      go_wp2_with fail
      refine (by have := lawcheck_any a0 b1 a2 b3 a4 a5 s n c (w.alloc (.cells #[.int .u8 a0, .bool b1, .int .u8 a2, .bool b3, .int .u8 a4, .int .u8 a5, .slice s n c] 25)) h00 h01 h20 h21 h40 h41 h50 h51 hn63; rwa [HE.out] at this : Calls _ _ _ _ (fun e w' => e = .returned (.int .i64 0) ∧ Below (w.alloc (.cells #[.int .u8 a0, .bool b1, .int .u8 a2, .bool b3, .int .u8 a4, .int .u8 a5, .slice s n c] 25)).heap.size (w.alloc (.cells #[.int .u8 a0, .bool b1, .int .u8 a2, .bool b3, .int .u8 a4, .int .u8 a5, .slice s n c] 25)) w')).mono ?_
      rintro e w11 ⟨rfl, hb⟩
      have ho := (own_lit w 25 #[.int .u8 a0, .bool b1, .int .u8 a2, .bool b3, .int .u8 a4, .int .u8 a5, .slice s n c] _ rfl).below hb (by simp)
      have BB12 := Lib.hid (BB0.out.trans (((below_call hb)).mono BB0.out.size))
      have HP13 := Lib.hid (HP0.out.later ((below_call hb)))
      have RS14 := Lib.hid (RS0.out.later ((below_call hb)))
      have HO15 := Lib.hid (ho)
      clear hb ho BB0 HP0 RS0
      obtain ⟨m, hm⟩ : ∃ m, (contL a4 a5 l).length = m := ⟨_, rfl⟩
      have HM := Lib.hid hm
      clear hm
      obtain ⟨k0, k1, k2, k3, k4, k5, k6⟩ := unit_cells HO15.out
      go_wp2_with fail
      refine (encode_ok a0 b1 a2 b3 a4 a5 s n c m l _ h00 h20 h40 h50 RS14.out HE.out HM.out).mono ?_
      clear k0 k1 k2 k3 k4 k5 k6
      rintro e w16 ⟨⟨d, rfl, hd⟩, hb⟩
      have BB17 := Lib.hid (BB12.out.trans ((hb).mono BB12.out.size))
      have HP18 := Lib.hid (HP13.out.later (hb))
      have RS19 := Lib.hid (RS14.out.later (hb))
      have HO20 := Lib.hid (HO15.out.later (hb))
      have HD21 := Lib.hid (hd)
      clear hb hd BB12 HP13 RS14 HO15
      obtain ⟨k0, k1, k2, k3, k4, k5, k6⟩ := unit_cells HO20.out
      go_wp2_with fail
      refine (by have := ucheck_any a0 b1 a2 b3 a4 a5 s n c w16 h00 h01 h20 h21 h40 h41 h50 h51 hn63; rwa [HE.out] at this : Calls _ _ _ _ (fun e w' => e = .returned (.int .i64 0) ∧ Below w16.heap.size w16 w')).mono ?_
      clear k0 k1 k2 k3 k4 k5 k6
      rintro e w22 ⟨rfl, hb⟩
      have HD23 := Lib.hid (ownsRow_below HD21.out (hb))
      clear HD21
      have BB24 := Lib.hid (BB17.out.trans ((hb).mono BB17.out.size))
      have HP25 := Lib.hid (HP18.out.later (hb))
      have RS26 := Lib.hid (RS19.out.later (hb))
      have HO27 := Lib.hid (HO20.out.later (hb))
      clear hb BB17 HP18 RS19 HO20
      obtain ⟨k0, k1, k2, k3, k4, k5, k6⟩ := unit_cells HO27.out
      go_wp2_with fail
      refine (octets_any a0 b1 a2 b3 a4 a5 s n c m l _ h00 h20 h40 h50 RS26.out HE.out HM.out).mono ?_
      clear k0 k1 k2 k3 k4 k5 k6
      rintro e w28 ⟨⟨ao, co, rfl, ho⟩, hb⟩
      have HD29 := Lib.hid (ownsRow_below HD23.out (hb))
      clear HD23
      have BB30 := Lib.hid (BB24.out.trans ((hb).mono BB24.out.size))
      have HP31 := Lib.hid (HP25.out.later (hb))
      have RS32 := Lib.hid (RS26.out.later (hb))
      have HO33 := Lib.hid (HO27.out.later (hb))
      have HQ34 := Lib.hid (ho)
      clear hb ho BB24 HP25 RS26 HO27
      have hrd : Row .u8 w28 (some ⟨d, 0, none⟩) (3 + m) (3 + m) (encL a0 b1 a2 b3 a4 a5 l) := by
        obtain ⟨a', c', hv, hr, _⟩ := ownsRow_rowN .u8 HD29.out HQ34.out.wf
        simp only [Value.slice.injEq] at hv
        obtain ⟨rfl, _, rfl⟩ := hv
        exact hr
      have HRD := Lib.hid hrd
      clear hrd
      go_wp2_with fail
      refine (bytes_yes _ _ (3 + m) (3 + m) co _ _ HRD.out HQ34.out).mono ?_
      rintro e w' ⟨rfl, q35, rfl⟩
      clear HRD
      have hb := below_draw w28 q35
      obtain ⟨w35, hw⟩ : ∃ x, x = (w28).drewN q35 := ⟨_, rfl⟩
      rw [← hw] at hb ⊢
      have BB36 := Lib.hid (BB30.out.trans ((hb).mono BB30.out.size))
      have HP37 := Lib.hid (HP31.out.later (hb))
      have RS38 := Lib.hid (RS32.out.later (hb))
      have HO39 := Lib.hid (HO33.out.later (hb))
      clear hb hw BB30 HP31 RS32 HO33 HQ34 HD29
      obtain ⟨k0, k1, k2, k3, k4, k5, k6⟩ := unit_cells HO39.out
      go_wp2_with fail
      refine (text_ok a0 b1 a2 b3 a4 a5 s n c l _ h00 h20 h40 h50 RS38.out HE.out HP37.out).mono ?_
      clear k0 k1 k2 k3 k4 k5 k6
      rintro e w40 ⟨rfl, hb⟩
      have BB41 := Lib.hid (BB36.out.trans ((hb).mono BB36.out.size))
      have HP42 := Lib.hid (HP37.out.later (hb))
      have RS43 := Lib.hid (RS38.out.later (hb))
      have HO44 := Lib.hid (HO39.out.later (hb))
      clear hb BB36 HP37 RS38 HO39
      have hne : (bs (textL a0 b1 a2 b3 a4 a5 l)).toList ≠ [] := by rw [bs_toList]; exact textL_ne _ _ _ _ _ _ _
      have hne2 : (!(bs (textL a0 b1 a2 b3 a4 a5 l)).toList.isEmpty) = true := by rw [bs_toList]; rfl
      obtain ⟨TT, hTT⟩ : ∃ x, x = bs (textL a0 b1 a2 b3 a4 a5 l) := ⟨_, rfl⟩
      rw [← hTT] at hne hne2 ⊢
      clear hTT
      go_wp2_with fail
      refine (lives_any _ HP42.out).mono ?_
      rintro e w45 ⟨rfl, hb⟩
      have BB46 := Lib.hid (BB41.out.trans ((hb).mono BB41.out.size))
      clear hb BB41 HP42 RS43 HO44
      go_wp2
      go_ret
      exact ⟨rfl, BB46.out⟩
    · have tE : (E != 0) = true := by simpa using hE0
      have HE0 := Lib.hid hE0
      clear hE0
      go_enter Tryd.func3, Tryd.ntmps3
      go_wp2_with fail
      refine (by have := lawcheck_any a0 b1 a2 b3 a4 a5 s n c (w.alloc (.cells #[.int .u8 a0, .bool b1, .int .u8 a2, .bool b3, .int .u8 a4, .int .u8 a5, .slice s n c] 25)) h00 h01 h20 h21 h40 h41 h50 h51 hn63; rwa [HE.out] at this : Calls _ _ _ _ (fun e w' => e = .returned (.int .i64 E) ∧ Below (w.alloc (.cells #[.int .u8 a0, .bool b1, .int .u8 a2, .bool b3, .int .u8 a4, .int .u8 a5, .slice s n c] 25)).heap.size (w.alloc (.cells #[.int .u8 a0, .bool b1, .int .u8 a2, .bool b3, .int .u8 a4, .int .u8 a5, .slice s n c] 25)) w')).mono ?_
      rintro e w11 ⟨rfl, hb⟩
      have ho := (own_lit w 25 #[.int .u8 a0, .bool b1, .int .u8 a2, .bool b3, .int .u8 a4, .int .u8 a5, .slice s n c] _ rfl).below hb (by simp)
      have BB12 := Lib.hid (BB0.out.trans (((below_call hb)).mono BB0.out.size))
      have HP13 := Lib.hid (HP0.out.later ((below_call hb)))
      have RS14 := Lib.hid (RS0.out.later ((below_call hb)))
      have HO15 := Lib.hid (ho)
      clear hb ho BB0 HP0 RS0
      obtain ⟨k0, k1, k2, k3, k4, k5, k6⟩ := unit_cells HO15.out
      go_wp2_with fail
      refine (encode_err a0 b1 a2 b3 a4 a5 s n c E _ h00 h01 h20 h21 h40 h41 h50 h51 hn63 HE.out HE0.out).mono ?_
      clear k0 k1 k2 k3 k4 k5 k6
      rintro e w16 ⟨rfl, hb⟩
      have BB17 := Lib.hid (BB12.out.trans ((hb).mono BB12.out.size))
      have HP18 := Lib.hid (HP13.out.later (hb))
      have RS19 := Lib.hid (RS14.out.later (hb))
      have HO20 := Lib.hid (HO15.out.later (hb))
      clear hb BB12 HP13 RS14 HO15
      obtain ⟨k0, k1, k2, k3, k4, k5, k6⟩ := unit_cells HO20.out
      go_wp2_with fail
      refine (by have := ucheck_any a0 b1 a2 b3 a4 a5 s n c w16 h00 h01 h20 h21 h40 h41 h50 h51 hn63; rwa [HE.out] at this : Calls _ _ _ _ (fun e w' => e = .returned (.int .i64 E) ∧ Below w16.heap.size w16 w')).mono ?_
      clear k0 k1 k2 k3 k4 k5 k6
      rintro e w21 ⟨rfl, hb⟩
      have BB22 := Lib.hid (BB17.out.trans ((hb).mono BB17.out.size))
      have HP23 := Lib.hid (HP18.out.later (hb))
      have RS24 := Lib.hid (RS19.out.later (hb))
      have HO25 := Lib.hid (HO20.out.later (hb))
      clear hb BB17 HP18 RS19 HO20
      obtain ⟨k0, k1, k2, k3, k4, k5, k6⟩ := unit_cells HO25.out
      go_wp2_with fail
      refine (text_err a0 b1 a2 b3 a4 a5 s n c E _ h00 h01 h20 h21 h40 h41 h50 h51 hn63 HE.out HE0.out).mono ?_
      clear k0 k1 k2 k3 k4 k5 k6
      rintro e w26 ⟨rfl, hb⟩
      have BB27 := Lib.hid (BB22.out.trans ((hb).mono BB22.out.size))
      have HP28 := Lib.hid (HP23.out.later (hb))
      have RS29 := Lib.hid (RS24.out.later (hb))
      have HO30 := Lib.hid (HO25.out.later (hb))
      clear hb BB22 HP23 RS24 HO25
      have hbe : (bs []).toList = [] := bs_toList []
      go_wp2_with fail
      refine (lives_any _ HP28.out).mono ?_
      rintro e w31 ⟨rfl, hb⟩
      have BB32 := Lib.hid (BB27.out.trans ((hb).mono BB27.out.size))
      clear hb BB27 HP28 RS29 HO30
      go_wp2
      go_ret
      exact ⟨rfl, BB32.out⟩
end Go.Proofs.YtkfookiakpnlfaaDoor
