/- The points of the statements; a machine whose neighbors are said anew. -/
import Derived.Test.YtpjdodgbidkblaaRsLives
namespace Go.Proofs.Ytpjdodgbidkblaa
open Go.RowKit Go.Maps

theorem infoU16 : (Try.prog.info? 26).map (fun i => (i.zero, i.size, i.bytes)) = some (some (.int .u16 0), 1, 2) := by kernel_rfl
/-- n points from c on. -/
def ptsL (c : Int) (n : Nat) : List Int := (List.range n).map fun i : Nat => c + (i : Int)
theorem ptsL_length (c : Int) (n : Nat) : (ptsL c n).length = n := by simp [ptsL]
theorem ptsL_succ (c : Int) (n : Nat) : ptsL c (n + 1) = ptsL c n ++ [c + (n : Int)] := by simp [ptsL, List.range_succ]
theorem ptsL_mem {c x : Int} {n : Nat} : x ∈ ptsL c n ↔ c ≤ x ∧ x < c + n := by
  unfold ptsL
  rw [List.mem_map]
  constructor
  · rintro ⟨i, hi, rfl⟩
    rw [List.mem_range] at hi
    omega
  · intro h
    exact ⟨(x - c).toNat, by rw [List.mem_range]; omega, by omega⟩
theorem ptsL_getD (c : Int) {n i : Nat} (hi : i < n) : (ptsL c n).getD i 0 = c + (i : Int) := by
  unfold ptsL
  rw [List.getD_eq_getElem?_getD, List.getElem?_map, List.getElem?_range hi]
  rfl
theorem ptsL_nodup (c : Int) (n : Nat) : (ptsL c n).Nodup := by
  induction n with
  | zero => simp [ptsL]
  | succ n ih =>
    rw [ptsL_succ, List.nodup_append]
    refine ⟨ih, by simp, fun a ha b hb e => ?_⟩
    simp only [List.mem_singleton] at hb
    rw [ptsL_mem] at ha
    omega
theorem ptsL_wf {c : Int} {n : Nat} (hc : 0 ≤ c ∧ c ≤ 100) (hn : n ≤ 100) : ∀ x ∈ ptsL c n, (Lit.int .u16 x).wf = true := fun x hx => by
  rw [ptsL_mem] at hx
  exact wf16.2 (by omega)
theorem ptsL_ok {c base : Int} {n : Nat} (hc : 0 ≤ c ∧ c ≤ 100) (hn : n ≤ 60) (hb : 0 ≤ base) : newErr (ptsL c n) base = 0 := by
  unfold newErr
  rw [if_neg (by rw [ptsL_length]; omega), if_neg (by omega), if_pos ⟨ptsL_nodup c n, fun x hx => by rw [ptsL_mem] at hx; omega⟩]
/-- One is so, of the first n. -/
def anyN (n : Nat) (f : Nat → Bool) : Bool := (List.range n).any f
theorem anyN_zero (f : Nat → Bool) : anyN 0 f = false := rfl
theorem anyN_succ (n : Nat) (f : Nat → Bool) : anyN (n + 1) f = (anyN n f || f n) := by simp [anyN, List.range_succ]
theorem anyN_true {n : Nat} {f : Nat → Bool} : anyN n f = true ↔ ∃ i, i < n ∧ f i = true := by simp [anyN]
theorem anyN_false {n : Nat} {f : Nat → Bool} : anyN n f = false ↔ ∀ i, i < n → f i = false := by
  simp [anyN]
theorem anyN_congr {n : Nat} {f g : Nat → Bool} (h : ∀ i, i < n → f i = g i) : anyN n f = anyN n g := by
  rw [Bool.eq_iff_iff, anyN_true, anyN_true]
  constructor
  · rintro ⟨i, hi, h1⟩; exact ⟨i, hi, by rw [← h i hi]; exact h1⟩
  · rintro ⟨i, hi, h1⟩; exact ⟨i, hi, by rw [h i hi]; exact h1⟩
/-- A machine over n points from c on, with what is known of each by its place. -/
def mcN (c : Int) (n : Nat) (f : Nat → Bool × Bool) (base st beg : Int) : Mc := ⟨ptsL c n, fun x => f (x - c).toNat, base, st, beg⟩
theorem mcN_st (c : Int) (n : Nat) (f : Nat → Bool × Bool) (base st beg : Int) : (mcN c n f base st beg).st = st := rfl
theorem mcN_any (c : Int) (n : Nat) (f : Nat → Bool × Bool) (base st beg : Int) (g : Bool × Bool → Bool) : (mcN c n f base st beg).any g = anyN n fun i => g (f i) := by
  unfold Mc.any mcN anyN ptsL
  simp only
  rw [List.any_map]
  congr 1
  funext i
  show g (f (c + (i : Int) - c).toNat) = _
  rw [show (c + (i : Int) - c).toNat = i by omega]
theorem McAt.congr {w : World} {mb bm : Nat} {m m' : Mc} (h : McAt w mb bm m) (h1 : m'.N = m.N) (h2 : ∀ n, n ∈ m.N → m'.nb n = m.nb n) (h3 : m'.base = m.base) (h4 : m'.st = m.st) (h5 : m'.beg = m.beg) : McAt w mb bm m' :=
  ⟨by rw [h3, h4, h5]; exact h.own, by rw [h1]; exact h.map.congr h2, by rw [h3]; exact h.base, by rw [h5]; exact h.beg, by rw [h4]; exact h.st, by rw [h1]; exact h.wfN⟩
/-- What is known of the k-th, said anew. -/
def updF (f : Nat → Bool × Bool) (k : Nat) (x : Bool × Bool) : Nat → Bool × Bool := fun i => if i = k then x else f i
theorem updF_same (f : Nat → Bool × Bool) (k : Nat) (x : Bool × Bool) : updF f k x k = x := if_pos rfl
theorem updF_other {f : Nat → Bool × Bool} {k i : Nat} {x : Bool × Bool} (h : i ≠ k) : updF f k x i = f i := if_neg h
theorem mcN_upd {c : Int} {n : Nat} {f : Nat → Bool × Bool} {base st beg : Int} {k : Nat} {x : Bool × Bool} {z : Int} (hz : z ∈ ptsL c n) : updN (mcN c n f base st beg).nb (c + (k : Int)) x z = (mcN c n (updF f k x) base st beg).nb z := by
  rw [ptsL_mem] at hz
  show (if z = c + (k : Int) then x else f (z - c).toNat) = (if (z - c).toNat = k then x else f (z - c).toNat)
  by_cases h : z = c + (k : Int)
  · rw [if_pos h, if_pos (by omega)]
  · rw [if_neg h, if_neg (by omega)]
theorem mcN_at (c : Int) (n : Nat) (f : Nat → Bool × Bool) (base st beg : Int) (k : Nat) : (mcN c n f base st beg).nb (c + (k : Int)) = f k := by
  show f (c + (k : Int) - c).toNat = _
  rw [show (c + (k : Int) - c).toNat = k by omega]
/-- The acts over the places. -/
theorem mcN_up {w : World} {mb bm : Nat} {c : Int} {n : Nat} {f : Nat → Bool × Bool} {base st beg now : Int} {k : Nat} (h : McAt w mb bm ((mcN c n f base st beg).up now (c + (k : Int)))) :
    McAt w mb bm (mcN c n (updF f k (true, (f k).2)) base (if st = 1 then 2 else st) (if st = 1 then now else beg)) :=
  h.congr rfl (fun z hz => by
    change z ∈ ptsL c n at hz
    have h1 := mcN_upd (f := f) (base := base) (st := st) (beg := beg) (k := k) (x := (true, (f k).2)) hz
    show (mcN c n (updF f k (true, (f k).2)) base st beg).nb z = updN (mcN c n f base st beg).nb (c + (k : Int)) (true, ((mcN c n f base st beg).nb (c + (k : Int))).2) z
    rw [mcN_at, h1]) rfl rfl rfl
theorem mcN_down {w : World} {mb bm : Nat} {c : Int} {n : Nat} {f : Nat → Bool × Bool} {base st beg : Int} {k : Nat} (h : McAt w mb bm ((mcN c n f base st beg).down (c + (k : Int)))) :
    McAt w mb bm (mcN c n (updF f k (false, false)) base (if anyN n (fun i => (updF f k (false, false) i).1) = true then st else 1) beg) := by
  have h1 : ((mcN c n f base st beg).cut (c + (k : Int))).any isUpB = anyN n fun i => (updF f k (false, false) i).1 := by
    show _ = anyN n fun i => isUpB (updF f k (false, false) i)
    rw [← mcN_any c n (updF f k (false, false)) base st beg isUpB]
    unfold Mc.any
    rw [Bool.eq_iff_iff, List.any_eq_true, List.any_eq_true]
    constructor
    · rintro ⟨x, hx, hc⟩; exact ⟨x, hx, by rw [← mcN_upd hx]; exact hc⟩
    · rintro ⟨x, hx, hc⟩; exact ⟨x, hx, by show isUpB (updN _ _ _ x) = true; rw [mcN_upd hx]; exact hc⟩
  refine h.congr rfl (fun z hz => ?_) rfl ?_ rfl
  · exact (mcN_upd hz).symm
  · show (if anyN n (fun i => (updF f k (false, false) i).1) = true then st else 1) = (if ((mcN c n f base st beg).cut (c + (k : Int))).any isUpB = true then st else 1)
    rw [h1]
theorem mcN_done {w : World} {mb bm : Nat} {c : Int} {n : Nat} {f : Nat → Bool × Bool} {base st beg : Int} {k : Nat} (h : McAt w mb bm ((mcN c n f base st beg).done (c + (k : Int)))) :
    McAt w mb bm (mcN c n (if st = 2 ∧ (f k).1 = true then updF f k (true, true) else f) base st beg) := by
  unfold Mc.done at h
  rw [mcN_at] at h
  by_cases hq : st = 2 ∧ (f k).1 = true
  · rw [if_pos hq]
    rw [if_pos (show (mcN c n f base st beg).st = 2 ∧ (f k).1 = true from hq)] at h
    exact h.congr rfl (fun z hz => (mcN_upd hz).symm) rfl rfl rfl
  · rw [if_neg hq]
    rw [if_neg (show ¬ ((mcN c n f base st beg).st = 2 ∧ (f k).1 = true) from hq)] at h
    exact h
theorem mcN_tick (c : Int) (n : Nat) (f : Nat → Bool × Bool) (base st beg now : Int) : (mcN c n f base st beg).tick now = mcN c n f base (if (mcN c n f base st beg).ends now = true then 0 else st) beg := by
  unfold Mc.tick
  by_cases h : (mcN c n f base st beg).ends now = true
  · rw [if_pos h, if_pos h]; rfl
  · rw [if_neg h, if_neg h]
theorem mcN_ends {c : Int} {n : Nat} {f : Nat → Bool × Bool} {base st beg now : Int} (h : beg + base ≤ 9223372036854775807) : (mcN c n f base st beg).ends now = (decide (st = 2) && (!(anyN n fun i => (f i).1 && !(f i).2) || decide (beg + base ≤ now))) := by
  have hf : (mcN c n f base st beg).fin = beg + base := by
    show (if beg > 9223372036854775807 - base then _ else _) = _
    rw [if_neg (by omega)]; rfl
  unfold Mc.ends
  rw [mcN_any, hf]
  show (decide (st = 2) && !((anyN n fun i => (f i).1 && !(f i).2) && decide (now < beg + base))) = _
  congr 1
  cases anyN n fun i => (f i).1 && !(f i).2
  · rfl
  · simp only [Bool.true_and, Bool.not_true, Bool.false_or]
    rw [Bool.eq_iff_iff]
    simp
theorem fresh_mcN (c : Int) (n : Nat) (base : Int) : Mc.fresh (ptsL c n) base = mcN c n (fun _ => (true, false)) base 0 0 := rfl
theorem mcN_congr {w : World} {mb bm : Nat} {c : Int} {n : Nat} {f g : Nat → Bool × Bool} {base st st' beg : Int} (h : McAt w mb bm (mcN c n f base st beg)) (e : ∀ i, i < n → g i = f i) (hs : st' = st) : McAt w mb bm (mcN c n g base st' beg) := by
  subst hs
  refine h.congr rfl (fun z hz => ?_) rfl rfl rfl
  change z ∈ ptsL c n at hz
  rw [ptsL_mem] at hz
  exact e _ (by omega)
end Go.Proofs.Ytpjdodgbidkblaa
