/- The code's functions at few places: heights, choices and times as the chapter defines them. -/
import Derived.Test.YtppbcehcaeeocaaPcApi3
namespace Go.Proofs.Ytppbcehcaeeocaa
open Go.RowKit Go.Sort Go.Lib

theorem disOk_uniq {p : Pn} {t : Int} {l l' : List Int} (h : DisOk p t l) (h' : DisOk p t l') : l = l' := by
  refine list_eq_of_getD (by rw [h.len, h'.len]) fun i hi => ?_
  have hi' : i < p.P.length := by rw [← h.len]; exact hi
  have h1 := h.dist.uniq h'.dist hi'
  have h2 := h.small i hi'
  have h3 := h'.small i hi'
  simp only [d99] at h1
  split at h1 <;> split at h1 <;> omega
/-- The order of the places with a way: by distance, then by index. -/
def QO (n : Nat) (l : List Int) (o : List Nat) : Prop := o.Perm (wayL n l) ∧ o.Pairwise (fun x y => lowerB (fun k => l.getD k 0) x y = true)
theorem stAll_few (p : Pn) (t : Int) (hn : p.P.length < 20) : StAll p t (QO p.P.length) := by
  intro _ l g hok bx blk cap W hb ho h1 h2 hH hblk h0
  have hle := wayL_le p.P.length l
  refine (stable_few l p.P.length bx g blk cap (wayF p.P.length l) W hok.len hb ho h1 h2 hH hblk (by rw [wayF_size]; omega) h0).mono fun e w' h => ?_
  obtain ⟨e1, d', e2, rfl, e4⟩ := h
  refine ⟨e1, _, e2, ?_, e4⟩
  obtain ⟨_, q2, q3⟩ := sort_spec (fun x : Fin p.P.length => l.getD x.val 0) (wayF p.P.length l) (wayF_asc _ _)
  refine ⟨?_, ?_⟩
  · have := q2.map (fun x => x.val)
    rwa [wayF_map] at this
  · rw [List.pairwise_map]
    exact q3
/-- The heights as the chapter defines them. -/
def HsOk (n : Nat) (l hh : List Int) : Prop := ∀ i, i < n → hh.getD i 0 = htI n l i
theorem qo_heights {p : Pn} {t : Int} {l : List Int} {o : List Nat} (h : DisOk p t l) (hq : QO p.P.length l o) : HsOk p.P.length l (putPos l o o.length) :=
  heights_of h.len hq.1 hq.2 (fun i hi => by have := (h.small i hi).2; omega)
def HtS (p : Pn) (t : Int) (w : World) (e : Ending) (w' : World) : Prop :=
  ∃ g l hh n, p.P.length = n ∧ DisOk p t l ∧ HsOk n l hh ∧ e = .returned (.tuple #[.slice (some ⟨g, 0, none⟩) n n, .int .i64 0]) ∧ Row .i64 w' (some ⟨g, 0, none⟩) n n hh ∧ Below w.heap.size w w'
def HoS (p : Pn) (u : Int) (i : Nat) (w : World) (e : Ending) (w' : World) : Prop := ∃ l, DisOk p u l ∧ e = holdE p (htI p.P.length l i) ∧ Below w.heap.size w w'
theorem cand_nodup {p : Pn} (hv : ValidPl p) (u : Int) (l hh : List Int) (own : Nat) (c : Int) : (candL p.P u l hh own (nbrs p c)).Nodup := by
  unfold candL
  rw [List.nodup_iff_pairwise_ne, List.pairwise_filterMap]
  refine (nbrs_asc hv c).imp fun {x y} hxy b hb b' hb' e => ?_
  have f : ∀ {c : Int} {b : Int × Int}, candO p.P u l hh own c = some b → b.1 = c := fun {c b} h => by
    unfold candO at h
    split at h
    · split at h
      · simp only [Option.some.injEq] at h; rw [← h]
      · cases h
    · cases h
  have h1 := f hb
  have h2 := f hb'
  rw [e, h2] at h1
  omega
theorem sorted_strict {X : List (Int × Int)} (hn : X.Nodup) (h : X.Pairwise (fun x y => Go.Proofs.ltOf cfC y x = false)) : X.Pairwise ltC := by
  have h2 := List.nodup_iff_pairwise_ne.1 hn
  refine (h.and h2).imp fun {x y} hxy => ?_
  have h3 : ¬ ltC y x := fun hh => by
    have := (ltOf_cfC y x).2 hh
    rw [hxy.1] at this; cases this
  have h4 := hxy.2
  obtain ⟨x1, x2⟩ := x
  obtain ⟨y1, y2⟩ := y
  unfold ltC at *
  simp only [ne_eq, Prod.mk.injEq] at *
  omega
def ChS (p : Pn) (u : Int) (i : Nat) (w : World) (e : Ending) (w' : World) : Prop :=
  ∃ l a, DisOk p u l ∧ e = .returned (.tuple #[.slice a (chC p u l i).length (chC p u l i).length, .int .i64 0]) ∧ CRow w' a (chC p u l i).length (chC p u l i).length (chC p u l i) ∧ Below w.heap.size w w' ∧ ∀ z, a = some z → w.heap.size ≤ z.block
theorem choices_few (p : Pn) (a : Option Addr) (n c : Nat) (a' : Option Addr) (n' c' : Nat) (t u : Int) (w : World) (hP : PRow w a n c p.P) (hL : LRow w a' n' c' p.L) (hE : chkPts p [t, u] = 0) (htu : t ≠ u) (i s : Nat) (hi : fnd p.P t = some i) (hs : fnd p.P u = some s) (hv : ValidPl p) (hn : p.P.length < 20) :
    Calls Try.prog 32 #[planV a n c a' n' c' p, .int .u16 t, .int .u16 u] w (ChS p u i w) := by
  refine (choices_ok p a n c a' n' c' t u w hP hL hE htu i s hi hs hv _ (stAll_few p u hn)).mono fun e w' h => ?_
  obtain ⟨l, o, a2, X, hok, _, hq, hp, hpw, he, hcr, hb, hfr⟩ := h
  obtain ⟨hin, hit, _⟩ := fnd_some_iff.1 hi
  rw [← hit] at hp
  have hX : X = chC p u l i := cand_eq hv hv.asc hok.dist (fun i hi => by have := (hok.small i hi).2; omega) (qo_heights hok hq) hin hp (sorted_strict (hp.symm.nodup (cand_nodup hv u l _ i _)) hpw)
  rw [hX] at he hcr
  exact ⟨l, a2, hok, he, hcr, hb, hfr⟩
end Go.Proofs.Ytppbcehcaeeocaa
