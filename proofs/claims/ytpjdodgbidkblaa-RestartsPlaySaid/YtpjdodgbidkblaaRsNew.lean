/- New: a machine of some neighbors. -/
import Derived.Test.YtpjdodgbidkblaaRsAct
namespace Go.Proofs.Ytpjdodgbidkblaa
open Go.RowKit Go.Maps

/-- The error of New. -/
def newErr (l : List Int) (base : Int) : Int := if 64 < l.length then 3 else if base < 0 then 1 else if l.Nodup ∧ ∀ n, n ∈ l → n ≤ 16383 then 0 else 1
/-- What New leaves. -/
def NewOut (l : List Int) (base : Int) (w : World) (e : Ending) (w' : World) : Prop :=
  Below w.heap.size w w' ∧ ((newErr l base = 0 ∧ ∃ mb bm, e = .returned (.tuple #[.pointer (some ⟨mb, 0, none⟩), .int .i64 0]) ∧ McAt w' mb bm (Mc.fresh l base) ∧ w.heap.size ≤ mb ∧ w.heap.size ≤ bm) ∨ (newErr l base ≠ 0 ∧ e = .returned (.tuple #[.pointer none, .int .i64 (newErr l base)])))
/-- The loop of New is under way: k points have been laid. -/
structure NwAt (w0 wr : World) (mb bm : Nat) (l : List Int) (base : Int) (k : Nat) : Prop where
  own : Own wr mb 46 [.map (some bm), .int .i64 base, .int .u8 0, .int .i64 0]
  map : NbAt wr bm (l.take k) (fun _ => (true, false))
  nod : (l.take k).Nodup
  le : ∀ n, n ∈ l.take k → n ≤ 16383
  bel : Below w0.heap.size w0 wr
  ltm : w0.heap.size ≤ mb
  ltb : w0.heap.size ≤ bm
theorem take_one' {α : Type} {l : List α} {k : Nat} {d : α} (hk : k < l.length) : l.take (k + 1) = l.take k ++ [l.getD k d] := by
  rw [List.take_succ_eq_append_getElem hk, List.getD_eq_getElem?_getD, List.getElem?_eq_getElem hk]
  rfl
theorem mem_getD' {l : List Int} {k : Nat} (hk : k < l.length) : l.getD k 0 ∈ l := by
  rw [List.getD_eq_getElem?_getD, List.getElem?_eq_getElem hk]
  exact List.getElem_mem hk
set_option maxHeartbeats 4000000 in
set_option maxRecDepth 100000 in
theorem new_any (a : Option Addr) (N c : Nat) (l : List Int) (base : Int) (w : World) (h : Row .u16 w a N c l) (hb : (Lit.int .i64 base).wf = true) (hN : N = l.length) (hlen : N ≤ 1000000) : Calls Try.prog 8 #[.slice a N c, .int .i64 base] w (NewOut l base w) := by
  have HR := Lib.hid h
  have HL := Lib.hid hN
  have hwb := wf_i64.1 hb
  by_cases h1 : (N : Int) > 64
  · have he : newErr l base = 3 := if_pos (by omega)
    have HE := Lib.hid he
    clear h hN hb hlen
    go_enter Try.func8, Try.ntmps8
    go_wp2
    go_ret2
    exact ⟨Below.refl _ _, .inr ⟨by rw [HE.out]; decide, by rw [HE.out]; rfl⟩⟩
  by_cases h2 : base < 0
  · have he : newErr l base = 1 := by unfold newErr; rw [if_neg (by omega), if_pos h2]
    have HE := Lib.hid he
    clear h hN hb hlen
    go_enter Try.func8, Try.ntmps8
    go_wp2
    go_ret2
    exact ⟨Below.refl _ _, .inr ⟨by rw [HE.out]; decide, by rw [HE.out]; rfl⟩⟩
  have he : newErr l base = if l.Nodup ∧ ∀ n, n ∈ l → n ≤ 16383 then 0 else 1 := by unfold newErr; rw [if_neg (by omega), if_neg h2]
  have HE := Lib.hid he
  have HB := Lib.hid (show 0 ≤ base ∧ base ≤ 9223372036854775807 from ⟨by omega, hwb.2⟩)
  have h64 : N ≤ 64 := by omega
  have HS := Lib.hid h64
  have hmm := @run_makeMap Try.prog
  clear h hN hb hlen he hwb h64
  go_enter Try.func8, Try.ntmps8
  go_upto_region 7 with fail
  have HW0 : NwAt w ((w.alloc (.map #[] 0)).alloc (.cells #[.map (some w.heap.size), .int .i64 base, .int .u8 0, .int .i64 0] 46)) (w.heap.size + 1) w.heap.size l base 0 := by
    have hx : Exc (fun _ => False) (w.alloc (.map #[] 0)) ((w.alloc (.map #[] 0)).alloc (.cells #[.map (some w.heap.size), .int .i64 base, .int .u8 0, .int .i64 0] 46)) := (Exc.refl _ _).alloc _
    have ho := heap_alloc_new (w.alloc (.map #[] 0)) (.cells #[.map (some w.heap.size), .int .i64 base, .int .u8 0, .int .i64 0] 46)
    have hs : (w.alloc (.map #[] 0)).heap.size = w.heap.size + 1 := by simp
    rw [hs] at ho
    exact ⟨ho, by rw [List.take_zero]; exact (NbAt.made w _).exc hx (fun h => h), by rw [List.take_zero]; exact List.nodup_nil, (by rw [List.take_zero]; intro n hn; cases hn), (below_alloc w _).trans ((below_alloc _ _).mono (by rw [hs]; omega)), by omega, Nat.le_refl _⟩
  obtain ⟨mb, hmb⟩ : ∃ x, x = w.heap.size + 1 := ⟨_, rfl⟩
  rw [← hmb] at HW0 ⊢
  generalize (w.alloc (.map #[] 0)).alloc (.cells #[.map (some w.heap.size), .int .i64 base, .int .u8 0, .int .i64 0] 46) = W0 at HW0 ⊢
  obtain ⟨bm, hbm⟩ : ∃ x, x = w.heap.size := ⟨_, rfl⟩
  rw [← hbm] at HW0 ⊢
  have HW := Lib.hid HW0
  clear HW0 hmb hbm hmm
  go_loopw [22] (fun kv wr => ∃ k : Nat, k ≤ N ∧ kv = .int .i64 k ∧ NwAt w wr mb bm l base k) (fun kv _ => N - (intOf kv).toNat)
  case atStart => exact ⟨0, Nat.zero_le _, rfl, HW.out⟩
  case round =>
    obtain ⟨k, hk, rfl, hnw⟩ := hrel
    have H := Lib.hid hnw
    clear hnw
    by_cases hkn : k < N
    · have hkl : k < l.length := by rw [← HL.out]; exact hkn
      have hrow := HR.out.later (H.out.bel)
      obtain ⟨b, off, had, hc⟩ := hrow.cells.resolve_left (by omega)
      have c0 := hc k hkn
      have hwn := HR.out.wf _ (mem_getD' hkl)
      have HT := Lib.hid (take_one' (d := 0) hkl)
      have HMem := Lib.hid (mem_getD' hkl)
      obtain ⟨q, hq⟩ : ∃ q, q = l.getD k 0 := ⟨_, rfl⟩
      rw [← hq] at c0 hwn HT HMem
      have HWq := Lib.hid hwn
      obtain ⟨u, d, hl⟩ := H.out.map.run_ok hwn
      have t0 := H.out.own.cell 0 (by simp)
      simp only [List.getD_cons_zero] at t0
      have k1 : (k : Int) < (N : Int) := by omega
      have k2 : (0 : Int) ≤ (k : Int) := by omega
      have HX : Hid (∀ o, Below wr.heap.size wr (wr.alloc o)) := Lib.hid (fun o => below_alloc wr o)
      have kw : IntKind.i64.wrap ((k : Int) + 1) = (k : Int) + 1 := IntWalk.i64_in _ (by have := HS.out; omega)
      have HK : Hid (k ≤ 64) := Lib.hid (by have := HS.out; omega)
      rw [had]
      clear hq hc hrow hwn had
      by_cases hin : q ∈ l.take k
      · rw [decide_eq_true hin] at hl
        have HI := Lib.hid hin
        clear hin
        go_wp2
        go_ret2
        refine ⟨H.out.bel.trans ((HX.out _).mono H.out.bel.size), .inr ?_⟩
        have he : newErr l base = 1 := by
          rw [HE.out, if_neg]
          intro hh
          have hn := List.Sublist.nodup (List.take_sublist (k + 1) l) hh.1
          rw [HT.out, List.nodup_append] at hn
          exact hn.2.2 q HI.out q (by simp) rfl
        exact ⟨by rw [he]; decide, by rw [he]; rfl⟩
      · rw [decide_eq_false hin] at hl
        have HI := Lib.hid hin
        clear hin
        by_cases hbig : 16383 < q
        · have HBig := Lib.hid hbig
          go_wp2
          go_ret2
          refine ⟨H.out.bel.trans ((HX.out _).mono H.out.bel.size), .inr ?_⟩
          have he : newErr l base = 1 := by
            rw [HE.out, if_neg]
            intro hh
            have := hh.2 q HMem.out
            have := HBig.out
            omega
          exact ⟨by rw [he]; decide, by rw [he]; rfl⟩
        · have HBig := Lib.hid hbig
          have t0b : (wr.alloc (.cells #[.bool u, .bool d] 50)).cell? ⟨mb, 0, none⟩ = some (.map (some bm)) := by rw [(HX.out _).cell (p := ⟨mb, 0, none⟩) (World.block_lt_of_cell? wr _ t0)]; exact t0
          go_wp2_with (at_mapUpdate; refine wpList_nb_add rfl _ _ _ rfl bm (l.take k) rfl (H.out.map.exc (Exc.of_below (S := fun _ => False) (HX.out _)) (fun h => h)) q HWq.out rfl rfl ?_; intro w5 h1 h2; have HU5 := Lib.hid h1; have HX5 := Lib.hid h2; clear h1 h2)
          go_wp2
          refine ⟨⟨k + 1, by omega, by go_num, ?_⟩, by simp [intOf]; omega⟩
          have hx6 : Exc (fun i => i = bm) wr w5 := (Exc.of_below (S := fun i => i = bm) (HX.out _)).trans HX5.out (fun _ _ h => h)
          have hne : ¬ mb = bm := fun e => by
            obtain ⟨f, h1, _⟩ := H.out.map
            obtain ⟨es, clock, hb⟩ := h1.map
            have ho := H.out.own
            unfold Own at ho
            rw [e, hb] at ho
            cases ho
          refine ⟨own_exc H.out.own hx6 hne, by rw [HT.out]; exact HU5.out, ?_, ?_, H.out.bel.trans (hx6.below H.out.bel.size (fun i _ hi => by rw [hi]; exact H.out.ltb)), H.out.ltm, H.out.ltb⟩
          · rw [HT.out, List.nodup_append]
            refine ⟨H.out.nod, by simp, fun x hx y hy e => ?_⟩
            simp only [List.mem_singleton] at hy
            rw [e, hy] at hx
            exact HI.out hx
          · rw [HT.out]
            intro n hn
            rcases List.mem_append.1 hn with h | h
            · exact H.out.le n h
            · simp only [List.mem_singleton] at h
              rw [h]
              have := HBig.out
              omega
    · obtain rfl : k = N := by omega
      have hle : newErr l base = 0 := by
        have h1 := H.out.nod
        have h2 := H.out.le
        rw [List.take_of_length_le (by rw [← HL.out]; exact Nat.le_refl _)] at h1 h2
        rw [HE.out, if_pos ⟨h1, h2⟩]
      have HO := Lib.hid hle
      clear hle
      go_wp2
      go_ret2
      have hm := H.out.map
      rw [List.take_of_length_le (by rw [← HL.out]; exact Nat.le_refl _)] at hm
      exact ⟨H.out.bel, .inl ⟨HO.out, mb, bm, rfl, ⟨H.out.own, hm, HB.out, (show (Lit.int .i64 0).wf = true by decide), ⟨by simp [Mc.fresh], by simp [Mc.fresh]⟩, fun n hn => HR.out.wf n hn⟩, H.out.ltm, H.out.ltb⟩⟩
end Go.Proofs.Ytpjdodgbidkblaa
