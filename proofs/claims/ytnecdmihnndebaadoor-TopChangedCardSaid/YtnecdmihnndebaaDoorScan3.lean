/- Contracts: a scanner: one bit. -/
import Derived.Test.YtnecdmihnndebaaDoorScan2
namespace Go.Proofs.YtnecdmihnndebaaDoor
open Go.RowKit

theorem end_any (b : Nat) (g : Option Nat) (x : Sc) (m : Nat) (w : World) (h : ScAt w b g x m) (h0 : x.ones = 0) (hm : m ≤ 1000000000000) :
    Calls Tryd.prog 44 #[.pointer (some ⟨b, 0, none⟩)] w fun e' w' => EndSays w b g (Sc.fin x) m e' w' := by
  obtain ⟨i, o, k, e⟩ := x
  obtain ⟨v, ho, rfl, hr⟩ := h.ex
  have hbin := h.bin
  have he := h.errs
  simp only at h0 hbin he hr
  obtain ⟨a, c, rfl, hrow, hlow⟩ := ownsRow_low hr (bin_wf hbin)
  have hmx := hrow.max
  unfold maxLen at hmx
  have hs : ∀ z, a = some z → z.spot = none := fun z hz => (hlow z hz).1
  by_cases h7 : 7 < k.length
  · cases i with
    | false => exact end_none b false o k e m k.length c a w rfl h0 (.inl rfl) hrow.le (by omega) hs ho hr he
    | true =>
      by_cases hbad : badC (front k)
      · exact end_bad b o k e m k.length c a w rfl h0 h7 hbad hrow.le (by omega) hs ho hr he hm
      · exact end_good b o k e m k.length c a w rfl h0 h7 hbad hbin hrow.le (by omega) hs ho hr he
  · exact end_none b i o k e m k.length c a w rfl h0 (.inr (by omega)) hrow.le (by omega) hs ho hr he
theorem ScAt.setOnes {w : World} {b : Nat} {g : Option Nat} {i : Bool} {o : Int} {k : List Int} {e : Int} {m : Nat} (h : ScAt w b g ⟨i, o, k, e⟩ m) (q : Int) (h0 : 0 ≤ q) (h1 : q ≤ m + 1) :
    ScAt (w.setCell ⟨b, 1, none⟩ (.int .i64 q)) b g ⟨i, q, k, e⟩ (m + 1) := by
  obtain ⟨v, ho, hg, hr⟩ := h.ex
  have := h.errs
  simp only at this
  exact ⟨⟨v, ho.set 1 (.int .i64 q), hg, ownsRow_set hr rfl⟩, by simp only; omega, by simp only; omega, h.kept, h.bin⟩
theorem ScAt.abort {w : World} {b : Nat} {g : Option Nat} {o : Int} {k : List Int} {e : Int} {m : Nat} (h : ScAt w b g ⟨true, o, k, e⟩ m) (he : e + 1 ≤ m) :
    ScAt ((w.setCell ⟨b, 3, none⟩ (.int .i64 (e + 1))).setCell ⟨b, 0, none⟩ (.int .i64 1)) b g ⟨false, o, k, e + 1⟩ m := by
  obtain ⟨v, ho, hg, hr⟩ := h.ex
  have := h.errs
  simp only at this
  exact ⟨⟨v, (ho.set 3 (.int .i64 (e + 1))).set 0 (.int .i64 1), hg, ownsRow_set (ownsRow_set hr rfl) rfl⟩, h.ones, by simp only; omega, h.kept, h.bin⟩
theorem ScAt.cells {w : World} {b : Nat} {g : Option Nat} {i : Bool} {o : Int} {k : List Int} {e : Int} {m : Nat} (h : ScAt w b g ⟨i, o, k, e⟩ m) :
    (w.cell? ⟨b, 0, none⟩ = some (.int .i64 (if i then 2 else 1)) ∧ w.cell? ⟨b, 1, none⟩ = some (.int .i64 o) ∧ w.cell? ⟨b, 3, none⟩ = some (.int .i64 e)) ∧
    (w.frozen? ⟨b, 0, none⟩ = false ∧ w.frozen? ⟨b, 1, none⟩ = false ∧ w.frozen? ⟨b, 3, none⟩ = false) := by
  obtain ⟨v, ho, _, _⟩ := h.ex
  obtain ⟨⟨h0, h1, h2, h3⟩, ⟨f0, f1, f2, f3⟩⟩ := Own4.cells ho
  exact ⟨⟨h0, h1, h3⟩, ⟨f0, f1, f3⟩⟩
def ReadSays (w : World) (b : Nat) (g : Option Nat) (r : Sc × List Int) (m : Nat) (e : Ending) (w' : World) : Prop :=
  ∃ v g', e = .returned v ∧ RowV w' (fun k => w.heap.size ≤ k ∧ g' ≠ some k) true v r.2 ∧ ScAt w' b g' r.1 m ∧ Scn b g w g' w'
set_option maxRecDepth 20000 in
set_option maxHeartbeats 1000000 in
theorem scan_bit (b : Nat) (g : Option Nat) (x : Sc) (m : Nat) (y : Int) (w : World) (h : ScAt w b g x m) (hy : y = 0 ∨ y = 1) (hm : m ≤ 100000000000) :
    Calls Tryd.prog 37 #[.pointer (some ⟨b, 0, none⟩), .int .u8 y] w fun e w' => ReadSays w b g (x.step y) (m + 2) e w' := by
  obtain ⟨i, o, k, e⟩ := x
  obtain ⟨⟨c0, c1, c3⟩, ⟨f0, f1, f3⟩⟩ := h.cells
  have hones := h.ones
  simp only at hones
  obtain ⟨ho0, hom⟩ := hones
  have hcon := fun w => counted_any o y w ho0 (by omega)
  have hS1 : ∀ q : Int, 0 ≤ q → q ≤ m + 1 → ScAt (w.setCell ⟨b, 1, none⟩ (.int .i64 q)) b g ⟨i, q, k, e⟩ (m + 1) ∧ Scn b g w g (w.setCell ⟨b, 1, none⟩ (.int .i64 q)) := fun q h0 h1 => ⟨h.setOnes q h0 h1, (Scn.refl b g w).setCell 1 _⟩
  have hsz : ∀ q : Int, (w.setCell ⟨b, 1, none⟩ (.int .i64 q)).heap.size = w.heap.size := fun q => by simp [World.setCell]
  have hglt := h.lt.2
  have HS := Lib.hid hS1
  have HZ := Lib.hid hsz
  have HG := Lib.hid hglt
  clear hS1 hsz hglt h c0 c3 f0 f3
  -- behind keep
  have hkeep : ∀ q : Int, 0 ≤ q → q ≤ m + 1 → Calls Tryd.prog 45 #[.pointer (some ⟨b, 0, none⟩), .int .u8 y] (w.setCell ⟨b, 1, none⟩ (.int .i64 q)) fun e' w' => e' = .returned (.tuple #[]) ∧ ∃ g', ScAt w' b g' ⟨i, q, keepL i k y, e⟩ (m + 1) ∧ Scn b g w g' w' := fun q h0 h1 =>
    (keep_any b g ⟨i, q, k, e⟩ (m + 1) y _ (HS.out q h0 h1).1 hy).mono fun e' w' ⟨h2, g', h3, h4⟩ => ⟨h2, g', h3, (HS.out q h0 h1).2.trans h4⟩
  rcases hy with rfl | rfl
  · rw [cnt_zero] at hcon
    have HC := Lib.hid hcon
    clear hcon
    by_cases h6 : o = 6
    · subst h6
      have hend := end_any b g ⟨i, 0, k, e⟩ (m + 1) _ (HS.out 0 (by omega) (by omega)).1 rfl (by omega)
      have hst : Sc.step ⟨i, 6, k, e⟩ 0 = Sc.fin ⟨i, 0, k, e⟩ := step_fin _ rfl
      rw [hst]
      have hfin : ∀ e' w', EndSays (w.setCell ⟨b, 1, none⟩ (.int .i64 0)) b g (Sc.fin ⟨i, 0, k, e⟩) (m + 1) e' w' → ReadSays w b g (Sc.fin ⟨i, 0, k, e⟩) (m + 2) e' w' := fun e' w' ⟨v, h1, h2, h3, h4⟩ => by
        refine ⟨v, g, h1, h2.mono (fun _ _ _ => ?_) (.inr fun j hj => ?_), h3, (HS.out 0 (by omega) (by omega)).2.trans h4⟩
        · rename_i j _ hj
          rw [HZ.out] at hj
          exact ⟨hj, fun hh => by have := (HG.out j hh).2; omega⟩
        · rw [HZ.out] at hj
          exact ⟨hj, fun hh => by have := (HG.out j hh).2; omega⟩
      have HE := Lib.hid hend
      have HF := Lib.hid hfin
      clear hend hfin hst hkeep
      go_enter Tryd.func37, Tryd.ntmps37
      go_wp2_with fail
      refine (HC.out _).mono ?_
      rintro e' w' ⟨rfl, rfl⟩
      go_wp2_with fail
      refine HE.out.mono ?_
      rintro e' w' hs
      obtain ⟨v, rfl, hs⟩ : ∃ v, e' = .returned v ∧ EndSays (w.setCell ⟨b, 1, none⟩ (.int .i64 0)) b g (Sc.fin ⟨i, 0, k, e⟩) (m + 1) (.returned v) w' := by
        obtain ⟨v, rfl, hs⟩ := hs
        exact ⟨v, rfl, v, rfl, hs⟩
      have H := Lib.hid hs
      clear hs
      go_wp2
      go_ret
      exact HF.out _ _ H.out
    · have h6' : (o == 6) = false := by simpa using h6
      by_cases h5 : o = 5
      · subst h5
        rw [step_drop _ rfl]
        clear hkeep h6
        go_enter Tryd.func37, Tryd.ntmps37
        go_wp2_with fail
        refine (HC.out _).mono ?_
        rintro e' w' ⟨rfl, rfl⟩
        go_wp2
        go_ret
        exact ⟨_, g, rfl, rowV_nil _ _ _, (HS.out 0 (by omega) (by omega)).1.more (by omega), (HS.out 0 (by omega) (by omega)).2⟩
      · have h5' : (o == 5) = false := by simpa using h5
        rw [step_plain _ _ (by simp [h6]) (by simp [h5]) (by rw [cnt_zero]; decide), cnt_zero]
        have hk := hkeep 0 (by omega) (by omega)
        have HK := Lib.hid hk
        clear hkeep hk h5 h6
        go_enter Tryd.func37, Tryd.ntmps37
        go_wp2_with fail
        refine (HC.out _).mono ?_
        rintro e' w' ⟨rfl, rfl⟩
        go_wp2_with fail
        refine HK.out.mono ?_
        rintro e' w2 ⟨rfl, g', hsc, hsn⟩
        obtain ⟨⟨_, d1, _⟩, _⟩ := hsc.cells
        have H1 := Lib.hid hsc
        have H2 := Lib.hid hsn
        clear hsc hsn
        go_wp2
        go_ret
        exact ⟨_, g', rfl, rowV_nil _ _ _, H1.out.more (by omega), H2.out⟩
  · rw [cnt_one] at hcon
    have HC := Lib.hid hcon
    clear hcon
    have hk := hkeep (o + 1) (by omega) (by omega)
    have HK := Lib.hid hk
    clear hkeep hk
    by_cases h7 : 6 < o + 1
    · cases i with
      | true =>
        have hst : Sc.step ⟨true, o, k, e⟩ 1 = (⟨false, o + 1, keepL true k 1, e + 1⟩, []) := by
          unfold Sc.step
          rw [if_neg (by simp), if_neg (by simp), if_pos ⟨by rw [cnt_one]; exact h7, rfl⟩, cnt_one]
        rw [hst]
        clear hst
        go_enter Tryd.func37, Tryd.ntmps37
        go_wp2_with fail
        refine (HC.out _).mono ?_
        rintro e' w' ⟨rfl, rfl⟩
        go_wp2_with fail
        refine HK.out.mono ?_
        rintro e' w2 ⟨rfl, g', hsc, hsn⟩
        obtain ⟨⟨d0, d1, d3⟩, ⟨k0, k1, k3⟩⟩ := hsc.cells
        simp only [if_true] at d0
        have herr := hsc.errs
        simp only at herr
        obtain ⟨he0, hem⟩ := herr
        have H1 := Lib.hid hsc
        have H2 := Lib.hid hsn
        clear hsc hsn
        go_wp2
        go_ret
        exact ⟨_, g', rfl, rowV_nil _ _ _, (H1.out.more (by omega)).abort (by omega), (H2.out.setCell 3 _).setCell 0 _⟩
      | false =>
        have hst : Sc.step ⟨false, o, k, e⟩ 1 = (⟨false, o + 1, keepL false k 1, e⟩, []) := by
          unfold Sc.step
          rw [if_neg (by simp), if_neg (by simp), if_neg (by simp), cnt_one]
        rw [hst]
        clear hst
        go_enter Tryd.func37, Tryd.ntmps37
        go_wp2_with fail
        refine (HC.out _).mono ?_
        rintro e' w' ⟨rfl, rfl⟩
        go_wp2_with fail
        refine HK.out.mono ?_
        rintro e' w2 ⟨rfl, g', hsc, hsn⟩
        obtain ⟨⟨d0, d1, d3⟩, ⟨k0, k1, k3⟩⟩ := hsc.cells
        simp only [if_false, Bool.false_eq_true] at d0
        have H1 := Lib.hid hsc
        have H2 := Lib.hid hsn
        clear hsc hsn
        go_wp2
        go_ret
        exact ⟨_, g', rfl, rowV_nil _ _ _, H1.out.more (by omega), H2.out⟩
    · have hst : Sc.step ⟨i, o, k, e⟩ 1 = (⟨i, o + 1, keepL i k 1, e⟩, []) := by
        unfold Sc.step
        rw [if_neg (by simp), if_neg (by simp), if_neg (fun hh => h7 (by have := hh.1; rw [cnt_one] at this; exact this)), cnt_one]
      rw [hst]
      clear hst
      go_enter Tryd.func37, Tryd.ntmps37
      go_wp2_with fail
      refine (HC.out _).mono ?_
      rintro e' w' ⟨rfl, rfl⟩
      go_wp2_with fail
      refine HK.out.mono ?_
      rintro e' w2 ⟨rfl, g', hsc, hsn⟩
      obtain ⟨⟨d0, d1, d3⟩, ⟨k0, k1, k3⟩⟩ := hsc.cells
      have H1 := Lib.hid hsc
      have H2 := Lib.hid hsn
      clear hsc hsn
      go_wp2
      go_ret
      exact ⟨_, g', rfl, rowV_nil _ _ _, H1.out.more (by omega), H2.out⟩
end Go.Proofs.YtnecdmihnndebaaDoor
