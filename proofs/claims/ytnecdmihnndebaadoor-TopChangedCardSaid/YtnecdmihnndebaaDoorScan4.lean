/- Contracts: a scanner: a stream. -/
import Derived.Test.YtnecdmihnndebaaDoorScan3
namespace Go.Proofs.YtnecdmihnndebaaDoor
open Go.RowKit

set_option maxHeartbeats 400000 in
theorem clipM_any (a : Option Addr) (n c : Nat) (w : World) (h : n ≤ c) (_hm : c ≤ 9223372036854775807) (ha : ∀ x, a = some x → x.spot = none) :
    Calls Tryd.prog 43 #[.slice a n c] w fun e w' => e = .returned (.slice a n n) ∧ w = w' := by
  rcases a with _ | ⟨b, o, sp⟩
  · go_enter Tryd.func43, Tryd.ntmps43
    go_wp2
    go_ret
    exact ⟨by simp, rfl⟩
  · have := ha _ rfl
    simp at this
    subst this
    clear ha
    go_enter Tryd.func43, Tryd.ntmps43
    go_wp2
    all_goals
      go_ret
      exact ⟨by simp, rfl⟩
theorem OwnMat.weakLt {P P' : Nat → Prop} {B : Nat} {T : Bool} {w : World} {v : Value} {L : List (List Int)} (h : OwnMat w B P T v L) (hne : ∀ l ∈ L, l ≠ []) (hp : ∀ k, k < w.heap.size → P k → P' k) : OwnMat w B P' T v L := by
  obtain ⟨vs, ho, hr⟩ := h.own
  refine ⟨vs, ho, fun i hi => (hr i hi).mono hp (.inl ?_)⟩
  rw [List.getD_eq_getElem?_getD, List.getElem?_eq_getElem hi, Option.getD_some]
  exact hne _ (List.getElem_mem hi)
theorem feed_ne (x : Sc) (l : List Int) : ∀ c ∈ (feed x l).2, c ≠ [] := by
  induction l using snocInd with
  | h0 => simp [feed]
  | h1 l b ih =>
    rw [feed_snoc]
    intro c hc
    unfold addC at hc
    split at hc
    · exact ih c hc
    · rename_i hne
      rcases List.mem_append.1 hc with h | h
      · exact ih c h
      · simp at h; subst h; exact hne
theorem feed_count (x : Sc) (l : List Int) : (feed x l).2.length ≤ l.length := by
  induction l using snocInd with
  | h0 => simp [feed]
  | h1 l b ih =>
    rw [feed_snoc]
    simp only [List.length_append, List.length_singleton]
    unfold addC
    split
    · omega
    · rw [List.length_append, List.length_singleton]; omega
/-- The relation of the loop over the bits. -/
structure Coll (w : World) (b : Nat) (g : Option Nat) (r : Sc × List (List Int)) (m : Nat) (v : Value) (g' : Option Nat) (wr : World) : Prop where
  sc : ScAt wr b g' r.1 m
  sn : Scn b g w g' wr
  mat : OwnMat wr w.heap.size (fun j => w.heap.size ≤ j ∧ g' ≠ some j ∧ v.ownBlock ≠ some j) true v r.2
  apart : ∀ j, v.ownBlock = some j → w.heap.size ≤ j ∧ j < wr.heap.size ∧ g' ≠ some j
  ne : ∀ c ∈ r.2, c ≠ []
  nilv : r.2 = [] → v = .slice none 0 0
theorem Coll.bit {w : World} {b : Nat} {g : Option Nat} {r : Sc × List (List Int)} {m : Nat} {v : Value} {g' : Option Nat} {wr : World} (h : Coll w b g r m v g' wr) (hb : b < w.heap.size)
    {q : Sc × List Int} {m' : Nat} {u : Value} {g2 : Option Nat} {w2 : World} (hu : RowV w2 (fun k => wr.heap.size ≤ k ∧ g2 ≠ some k) true u q.2) (hs : ScAt w2 b g2 q.1 m') (hn : Scn b g' wr g2 w2) :
    Coll w b g (q.1, r.2) m' v g2 w2 ∧ RowV w2 (fun j => w.heap.size ≤ j ∧ g2 ≠ some j ∧ v.ownBlock ≠ some j) true u q.2 := by
  have hsz := h.sn.exc.size
  have hap : ∀ j, v.ownBlock = some j → w.heap.size ≤ j ∧ j < w2.heap.size ∧ g2 ≠ some j := fun j hj => by
    obtain ⟨h1, h2, h3⟩ := h.apart j hj
    refine ⟨h1, Nat.lt_of_lt_of_le h2 hn.exc.size, fun hh => ?_⟩
    rcases hn.lies j hh with h4 | h4
    · exact h3 h4
    · omega
  refine ⟨⟨hs, h.sn.trans hn, ?_, hap, h.ne, h.nilv⟩, hu.mono (fun j _ hj => ?_) (.inr fun j hj => ?_)⟩
  · have hm1 : OwnMat wr w.heap.size (fun j => w.heap.size ≤ j ∧ g' ≠ some j ∧ g2 ≠ some j ∧ v.ownBlock ≠ some j) true v r.2 := by
      refine h.mat.weakLt h.ne fun k hk ⟨h1, h2, h3⟩ => ⟨h1, h2, fun hh => ?_, h3⟩
      rcases hn.lies k hh with h4 | h4
      · exact h2 h4
      · omega
    have hm2 := hm1.exc hn.exc (fun k ⟨h1, h2, _, _⟩ hh => by rcases hh with hh | hh; omega; exact h2 hh) (fun k hk hh => by
      obtain ⟨h1, _, h3⟩ := h.apart k hk
      rcases hh with hh | hh
      · omega
      · exact h3 hh)
    exact hm2.weak fun k ⟨h1, _, h3, h4⟩ => ⟨h1, h3, h4⟩
  · exact ⟨by omega, hj.2, fun hh => by have := (h.apart j hh).2.1; omega⟩
  · exact ⟨by omega, hj.2, fun hh => by have := (h.apart j hh).2.1; omega⟩
theorem OwnMat.lt {P : Nat → Prop} {B : Nat} {T : Bool} {w : World} {v : Value} {L : List (List Int)} (h : OwnMat w B P T v L) : ∀ j, v.ownBlock = some j → B ≤ j ∧ j < w.heap.size := by
  obtain ⟨vs, ho, _⟩ := h.own
  exact fun j hj => ownBlock_lt ho hj
/-- Where the rows lie when one more is appended. -/
def CollP (w : World) (g' : Option Nat) (v : Value) (wr : World) (j : Nat) : Prop := w.heap.size ≤ j ∧ g' ≠ some j ∧ v.ownBlock ≠ some j ∧ j < wr.heap.size
theorem Coll.pre {w : World} {b : Nat} {g : Option Nat} {r : Sc × List (List Int)} {m : Nat} {v : Value} {g' : Option Nat} {wr : World} (h : Coll w b g r m v g' wr) {u : Value} {c : List Int} (hc : c ≠ [])
    (hu : RowV wr (fun j => w.heap.size ≤ j ∧ g' ≠ some j ∧ v.ownBlock ≠ some j) true u c) : OwnMat wr w.heap.size (CollP w g' v wr) true v r.2 ∧ RowV wr (CollP w g' v wr) true u c :=
  ⟨h.mat.weakLt h.ne fun _ hk ⟨h1, h2, h3⟩ => ⟨h1, h2, h3, hk⟩, hu.mono (fun _ hk ⟨h1, h2, h3⟩ => ⟨h1, h2, h3, hk⟩) (.inl hc)⟩
theorem Coll.add {w : World} {b : Nat} {g : Option Nat} {r : Sc × List (List Int)} {m : Nat} {v : Value} {g' : Option Nat} {wr : World} (h : Coll w b g r m v g' wr) (hb : b < w.heap.size)
    {c : List Int} (hc : c ≠ []) {v2 : Value} {w2 : World} (hm : OwnMat w2 w.heap.size (CollP w g' v wr) true v2 (r.2 ++ [c])) (hg : Grow v wr v2 w2) : Coll w b g (r.1, r.2 ++ [c]) m v2 g' w2 := by
  have hsz := h.sn.exc.size
  have hbv : v.ownBlock ≠ some b := fun hh => by have := (h.apart b hh).1; omega
  have hgv : ∀ k, g' = some k → v.ownBlock ≠ some k := fun k hk hh => (h.apart k hh).2.2 hk
  refine ⟨h.sc.exc hg.exc hbv hgv, ⟨h.sn.exc.trans hg.exc fun i hi hh => by have := (h.apart i hh).1; omega, h.sn.lies⟩, hm.weak fun j ⟨h1, h2, h3, h4⟩ => ⟨h1, h2, fun hh => ?_⟩, fun j hj => ?_, fun d hd => ?_, fun hh => by simp at hh⟩
  · rcases hg.lies j hh with h5 | h5
    · exact h3 h5
    · omega
  · rcases hg.lies j hj with h1 | h1
    · obtain ⟨h2, h3, h4⟩ := h.apart j h1
      exact ⟨h2, Nat.lt_of_lt_of_le h3 hg.exc.size, h4⟩
    · exact ⟨by omega, (hm.lt j hj).2, fun hh => by have := (h.sc.lt.2 j hh).2; omega⟩
  · rcases List.mem_append.1 hd with h1 | h1
    · exact h.ne d h1
    · simp at h1; subst h1; exact hc
def CollSays (w : World) (b : Nat) (g : Option Nat) (r : Sc × List (List Int)) (m : Nat) (v : Value) (w' : World) : Prop :=
  ∃ a g', v = .slice a r.2.length r.2.length ∧ (r.2 = [] → a = none) ∧ Mat w' (fun j => w.heap.size ≤ j ∧ g' ≠ some j) true a r.2.length r.2.length r.2 ∧ ScAt w' b g' r.1 m ∧ Scn b g w g' w'
set_option maxRecDepth 20000 in
set_option maxHeartbeats 1000000 in
theorem collected_any (b : Nat) (g : Option Nat) (x : Sc) (m : Nat) (a : Option Addr) (n c : Nat) (l : List Int) (w : World) (h : ScAt w b g x m) (hrow : Row .u8 w a n c l) (hbin : Bin l) (hsep : ∀ z, a = some z → z.block ≠ b ∧ g ≠ some z.block) (hm : m ≤ 1000000000) (hn : n ≤ 2097152) :
    Calls Tryd.prog 36 #[.slice a n c, .func (Fn.func 37) #[.pointer (some ⟨b, 0, none⟩)] #[]] w fun e w' => ∃ v, e = .returned v ∧ CollSays w b g (feed x l) (m + 2 * n) v w' := by
  have hb := h.lt.1
  have hmc := hrow.le
  have hcm := hrow.max
  unfold maxLen at hcm
  have H := Lib.hid h
  have HR := Lib.hid hrow
  have HB := Lib.hid hbin
  have HS := Lib.hid hsep
  clear h hrow hbin hsep
  go_enter Tryd.func36, Tryd.ntmps36
  go_wp2_with fail
  go_loopw [5, 7, 8, 11] (fun v _ _ i wr => ∃ k : Nat, ∃ g', k ≤ n ∧ i = .int .i64 k ∧ Coll w b g (feed x (l.take k)) (m + 2 * k) v g' wr) (fun _ _ _ i _ => n - (intOf i).toNat)
  case atStart => exact ⟨0, g, Nat.zero_le _, rfl, H.out, Scn.refl _ _ _, OwnMat.nil _ _ _ _, by simp [Value.ownBlock], by simp [feed], fun _ => rfl⟩
  case round =>
    obtain ⟨k, g', hk, rfl, hco⟩ := hrel
    by_cases hlt : k < n
    · have hrow1 := HR.out.exc hco.sn.exc (fun z hz hh => by rcases hh with hh | hh; exact (HS.out z hz).1 hh; exact (HS.out z hz).2 hh)
      obtain ⟨bb, o, rfl, g0⟩ := row_at hrow1 hlt
      have hlk : k < l.length := by rw [HR.out.len]; exact hlt
      have hx01 := bin_getD HB.out hlk
      have ht := take_succ' hlk
      obtain ⟨y, hy⟩ : ∃ y, y = l.getD k 0 := ⟨_, rfl⟩
      rw [← hy] at g0 hx01 ht
      have hcon := scan_bit b g' (feed x (l.take k)).1 (m + 2 * k) y wr hco.sc hx01 (by omega)
      have hfd := feed_snoc x (l.take k) y
      rw [← ht] at hfd
      have hcnt := feed_count x (l.take k)
      rw [List.length_take] at hcnt
      have HC := Lib.hid hcon
      have HCo := Lib.hid hco
      have HF := Lib.hid hfd
      have HN := Lib.hid hcnt
      clear hcon hco hfd ht hy hx01 hrow1 hcnt
      go_wp2_with fail
      refine HC.out.mono ?_
      rintro e' w2 ⟨u, g2, rfl, hu, hs, hn2⟩
      obtain ⟨hco2, hu2⟩ := HCo.out.bit hb hu hs hn2
      have HC2 := Lib.hid hco2
      have HU := Lib.hid hu2
      obtain ⟨q, hq⟩ : ∃ q, q = ((feed x (l.take k)).1.step y).2 := ⟨_, rfl⟩
      rw [← hq] at hu
      have HQ := Lib.hid hq
      obtain ⟨ua, uc, rfl, hur, hut, _⟩ := hu
      have huc := hut rfl
      subst huc
      clear hco2 hu2 hs hn2 hq hur hut
      by_cases hq0 : q = []
      · subst hq0
        go_wp2
        refine ⟨⟨k + 1, g2, by omega, by go_num, ?_⟩, by simp [intOf]; omega⟩
        rw [HF.out, ← HQ.out, addC_nil]
        exact HC2.out
      · have hql : 0 < q.length := List.length_pos_iff.2 hq0
        have hpre := HC2.out.pre hq0 (by rw [HQ.out]; have := HU.out; rw [← HQ.out] at this ⊢; exact this)
        have HP := Lib.hid hpre
        have HQ0 := Lib.hid hq0
        have hsz := HC2.out.sn.exc.size
        clear hpre hq0
        go_wp2_with (at_builtin; refine wpList_append_row rfl _ _ rfl w.heap.size _ true _ _ _ _ rfl (by exact HP.out.1) (by exact HP.out.2) (by exact fun _ hj hh => hh.2.2.1 hj) rfl (by have := HN.out; first | omega | (simp only; omega)) hsz ?_)
        intro v2 w3 h1 h2
        have H1 := Lib.hid h1
        have H2 := Lib.hid h2
        clear h1 h2
        go_wp2
        refine ⟨⟨k + 1, g2, by omega, by go_num, ?_⟩, by simp [intOf]; omega⟩
        have := HC2.out.add hb HQ0.out H1.out H2.out
        rw [HF.out, ← HQ.out]
        have e1 : addC (feed x (l.take k)).2 q = (feed x (l.take k)).2 ++ [q] := by unfold addC; rw [if_neg HQ0.out]
        rw [e1]
        exact this
    · obtain rfl : k = n := by omega
      rw [List.take_of_length_le (by rw [HR.out.len]; exact Nat.le_refl _)] at hco
      obtain ⟨a', c', rfl, hmat, hlow⟩ := (hco.mat.weak (P' := fun j => w.heap.size ≤ j ∧ g' ≠ some j) (fun j ⟨h1, h2, _⟩ => ⟨h1, h2⟩)).mat (fun j hj => by have := hco.apart j hj; exact ⟨this.1, this.2.2⟩)
      have hnilv : (feed x l).2 = [] → a' = none := fun hh => by have := hco.nilv hh; simp at this; exact this.1
      have HNil := Lib.hid hnilv
      clear hnilv
      have hle := hmat.le
      have hmx := hmat.max
      unfold maxLen at hmx
      have hcl := clipM_any a' (feed x l).2.length c' wr hle hmx (fun z hz => (hlow z hz).1)
      have HCl := Lib.hid hcl
      have HM := Lib.hid hmat
      have HCo := Lib.hid hco
      clear hcl hmat hco hlow
      go_wp2_with fail
      refine HCl.out.mono ?_
      rintro e' w2 ⟨rfl, rfl⟩
      go_wp2
      go_ret
      have := HM.out
      exact ⟨_, rfl, a', g', rfl, HNil.out, ⟨this.len, Nat.le_refl _, Nat.le_trans this.le this.max, this.cells, fun hh => by have h1 := this.isNil hh; have h2 := this.le; omega⟩, HCo.out.sc, HCo.out.sn⟩
end Go.Proofs.YtnecdmihnndebaaDoor
