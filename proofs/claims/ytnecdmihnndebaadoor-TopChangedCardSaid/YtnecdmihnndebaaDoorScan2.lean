/- Contracts: a scanner: the end of a flag. -/
import Derived.Test.YtnecdmihnndebaaDoorScan1
namespace Go.Proofs.YtnecdmihnndebaaDoor
open Go.RowKit

theorem front_length (k : List Int) : (front k).length = k.length - 7 := by unfold front; rw [List.length_take]; omega
theorem octs_length (l : List Int) : (octs l).length = l.length / 8 := by simp [octs]
/-- The world behind the stores of 'end'. -/
def endW (w : World) (b : Nat) (a : Option Addr) (c q : Nat) : World := ((w.drewN q).setCell ⟨b, 0, none⟩ (.int .i64 2)).setCell ⟨b, 2, none⟩ (.slice a 0 c)
theorem own_draw {w : World} {b t : Nat} {cs : List Value} (h : Own w b t cs) (q : Nat) : Own (w.drewN q) b t cs := h
theorem ownsRow_draw {w : World} {B e n : Nat} {v : Value} {xs : List Value} (h : w.ownsRow B e 1 v n xs) (q : Nat) : (w.drewN q).ownsRow B e 1 v n xs := ownsRow_below h (below_draw w q)
theorem ownsRow_zero {w : World} {B e n c : Nat} {a : Option Addr} {xs : List Value} (h : w.ownsRow B e 1 (.slice a n c) n xs) : w.ownsRow B e 1 (.slice a 0 c) 0 [] := by
  refine ⟨rfl, ?_⟩
  rcases h.2 with ⟨hv, h0⟩ | ⟨g, cap, cur, hv, hb, hg, hn, hc, hs, ht⟩
  · simp at hv
    obtain ⟨rfl, rfl, rfl⟩ := hv
    exact .inl ⟨rfl, rfl⟩
  · simp at hv
    obtain ⟨rfl, rfl⟩ := hv
    exact .inr ⟨g, _, cur, rfl, hb, hg, Nat.zero_le _, hc, hs, by simp⟩
theorem end_state {w : World} {b : Nat} {i : Bool} {o : Int} {k : List Int} {e : Int} {m n c : Nat} {a : Option Addr} (hn : k.length = n)
    (ho : Own w b 60 (scCells ⟨i, o, k, e⟩ (.slice a n c))) (hr : w.ownsRow (b + 1) 5 1 (.slice a n c) n (nums .u8 k)) (h0 : o = 0) (he : 0 ≤ e ∧ e ≤ m) (q : Nat) :
    ScAt (endW w b a c q) b (Value.slice a n c).ownBlock ⟨true, 0, [], e⟩ m ∧ Scn b (Value.slice a n c).ownBlock w (Value.slice a n c).ownBlock (endW w b a c q) := by
  subst h0 hn
  constructor
  · refine ⟨⟨.slice a 0 c, ?_, ?_, ?_⟩, by simp, he, by simp, fun x hx => by simp at hx⟩
    · exact ((own_draw ho q).set 0 (.int .i64 2)).set 2 (.slice a 0 c)
    · cases a <;> rfl
    · exact ownsRow_set (ownsRow_set (ownsRow_zero (ownsRow_draw hr q)) rfl) rfl
  · exact (((Scn.refl b _ w).drawN q).setCell 0 _).setCell 2 _
theorem end_err {w : World} {b : Nat} {g : Option Nat} {e : Int} {m : Nat} (h : ScAt w b g ⟨true, 0, [], e⟩ m) : ScAt (w.setCell ⟨b, 3, none⟩ (.int .i64 (e + 1))) b g ⟨true, 0, [], e + 1⟩ (m + 1) := by
  obtain ⟨v, ho, hg, hr⟩ := h.ex
  have := h.errs
  simp only at this
  exact ⟨⟨v, ho.set 3 (.int .i64 (e + 1)), hg, ownsRow_set hr rfl⟩, by simp; omega, by simp only; omega, by simp, fun x hx => by simp at hx⟩
theorem fin_not {i : Bool} {o : Int} {k : List Int} {e : Int} (h : i = false ∨ k.length ≤ 7) : Sc.fin ⟨i, o, k, e⟩ = (⟨true, 0, [], e⟩, []) := by
  unfold Sc.fin
  rw [if_neg]
  simp only [front_length]
  rcases h with h | h
  · simp [h]
  · omega
theorem fin_bad {o : Int} {k : List Int} {e : Int} (h : 7 < k.length) (hb : badC (front k)) : Sc.fin ⟨true, o, k, e⟩ = (⟨true, 0, [], e + 1⟩, []) := by
  unfold Sc.fin
  rw [if_pos ⟨rfl, by rw [front_length]; simp only; omega⟩, if_pos hb]
theorem fin_good {o : Int} {k : List Int} {e : Int} (h : 7 < k.length) (hb : ¬ badC (front k)) : Sc.fin ⟨true, o, k, e⟩ = (⟨true, 0, [], e⟩, octs (front k)) := by
  unfold Sc.fin
  rw [if_pos ⟨rfl, by rw [front_length]; simp only; omega⟩, if_neg hb]
theorem octs_bound {l : List Int} (h : Bin l) : ∀ x ∈ octs l, 0 ≤ x ∧ x ≤ 255 := fun x hx => by
  unfold octs at hx
  obtain ⟨i, _, rfl⟩ := List.mem_map.1 hx
  exact val_oct (fun y hy => by have := h y hy; omega) _
def EndSays (w : World) (b : Nat) (g : Option Nat) (r : Sc × List Int) (m : Nat) (e : Ending) (w' : World) : Prop :=
  ∃ v, e = .returned v ∧ RowV w' (fun k => w.heap.size ≤ k) true v r.2 ∧ ScAt w' b g r.1 (m + 1) ∧ Scn b g w g w'
theorem rowV_nil (w : World) (P : Nat → Prop) (T : Bool) : RowV w P T (.slice none 0 0) [] := ⟨none, 0, rfl, Row.of_nil _ _, fun _ => rfl, by simp⟩
set_option maxRecDepth 20000 in
set_option maxHeartbeats 1000000 in
theorem end_none (b : Nat) (i : Bool) (o : Int) (k : List Int) (e : Int) (m n c : Nat) (a : Option Addr) (w : World) (hn : k.length = n) (hoo : o = 0) (hnot : i = false ∨ n ≤ 7) (hle : n ≤ c) (hc : c ≤ 9223372036854775807) (ha : ∀ z, a = some z → z.spot = none)
    (ho : Own w b 60 (scCells ⟨i, o, k, e⟩ (.slice a n c))) (hr : w.ownsRow (b + 1) 5 1 (.slice a n c) n (nums .u8 k)) (he : 0 ≤ e ∧ e ≤ m) :
    Calls Tryd.prog 44 #[.pointer (some ⟨b, 0, none⟩)] w fun e' w' => EndSays w b (Value.slice a n c).ownBlock (Sc.fin ⟨i, o, k, e⟩) m e' w' := by
  have hst := fun q => end_state (m := m) hn ho hr hoo he q
  rw [fin_not (by rcases hnot with h | h; exact .inl h; exact .inr (by omega))]
  have hfin : ∀ q, EndSays w b (Value.slice a n c).ownBlock (⟨true, 0, [], e⟩, []) m (.returned (.slice none 0 0)) (endW w b a c q) := fun q => ⟨_, rfl, rowV_nil _ _ _, (hst q).1.more (by omega), (hst q).2⟩
  obtain ⟨⟨h0, h1, h2, h3⟩, ⟨f0, f1, f2, f3⟩⟩ := Own4.cells ho
  have HF := Lib.hid hfin
  have HE := Lib.hid he
  have hnone : a = none → n = 0 ∧ c = 0 := fun hh => by
    subst hh
    rcases hr.2 with ⟨hv, _⟩ | ⟨g, cap, cur, hv, _⟩
    · simp at hv; exact hv
    · simp at hv
  clear hst hfin ho hr he hn hoo h1 f1
  simp only at h0 h2 h3
  have key : (if i = true then (2 : Int) else 1) = 1 ∨ n ≤ 7 := by rcases hnot with rfl | h; exact .inl rfl; exact .inr h
  obtain ⟨st, hst⟩ : ∃ st : Int, st = if i = true then (2 : Int) else 1 := ⟨_, rfl⟩
  have hst2 : st = 1 ∨ st = 2 := by rw [hst]; split <;> simp
  rw [← hst] at h0 key
  clear hst hnot
  rcases a with _ | ⟨ab, ao, sp⟩
  · obtain ⟨rfl, rfl⟩ := hnone rfl
    clear hnone key ha hle hc
    rcases hst2 with rfl | rfl
    all_goals
      go_enter Tryd.func44, Tryd.ntmps44
      go_wp2_with fail
      go_quiet (fail)
      go_wp2
      go_ret
      exact HF.out _
  · clear hnone
    have := ha _ rfl
    simp at this
    subst this
    clear ha
    by_cases h7 : 7 < n
    · have hs1 : st = 1 := by omega
      subst hs1
      clear key hst2
      go_enter Tryd.func44, Tryd.ntmps44
      go_wp2_with fail
      go_quiet (fail)
      go_wp2
      go_ret
      exact HF.out _
    · clear key
      rcases hst2 with rfl | rfl
      all_goals
        go_enter Tryd.func44, Tryd.ntmps44
        go_wp2_with fail
        go_quiet (fail)
        go_wp2
        go_ret
        exact HF.out _
set_option maxRecDepth 20000 in
set_option maxHeartbeats 1000000 in
theorem end_bad (b : Nat) (o : Int) (k : List Int) (e : Int) (m n c : Nat) (a : Option Addr) (w : World) (hn : k.length = n) (hoo : o = 0) (h7 : 7 < n) (hbad : badC (front k)) (hle : n ≤ c) (hc : c ≤ 9223372036854775807) (ha : ∀ z, a = some z → z.spot = none)
    (ho : Own w b 60 (scCells ⟨true, o, k, e⟩ (.slice a n c))) (hr : w.ownsRow (b + 1) 5 1 (.slice a n c) n (nums .u8 k)) (he : 0 ≤ e ∧ e ≤ m) (hm : m ≤ 1000000000000) :
    Calls Tryd.prog 44 #[.pointer (some ⟨b, 0, none⟩)] w fun e' w' => EndSays w b (Value.slice a n c).ownBlock (Sc.fin ⟨true, o, k, e⟩) m e' w' := by
  have hst := fun q => end_state (m := m) hn ho hr hoo he q
  rw [fin_bad (by omega) hbad]
  have hfin : ∀ q, EndSays w b (Value.slice a n c).ownBlock (⟨true, 0, [], e + 1⟩, []) m (.returned (.slice none 0 0)) ((endW w b a c q).setCell ⟨b, 3, none⟩ (.int .i64 (e + 1))) := fun q => ⟨_, rfl, rowV_nil _ _ _, end_err (hst q).1, (hst q).2.setCell 3 _⟩
  obtain ⟨⟨h0, h1, h2, h3⟩, ⟨f0, f1, f2, f3⟩⟩ := Own4.cells ho
  have HF := Lib.hid hfin
  obtain ⟨he0, hem⟩ := he
  have hnone : a = none → n = 0 ∧ c = 0 := fun hh => by
    subst hh
    rcases hr.2 with ⟨hv, _⟩ | ⟨g, cap, cur, hv, _⟩
    · simp at hv; exact hv
    · simp at hv
  have hcl : (front k).length = n - 7 := by rw [front_length, hn]
  unfold badC at hbad
  rw [hcl] at hbad
  clear hst hfin ho hr hn hoo h1 f1 hcl
  simp only [if_true] at h0 h2 h3
  obtain ⟨p, rfl⟩ : ∃ p, n = p + 7 := ⟨n - 7, by omega⟩
  rw [Nat.add_sub_cancel] at hbad
  have hp : 0 < p := by omega
  rcases a with _ | ⟨ab, ao, sp⟩
  · exact absurd (hnone rfl) (by omega)
  · have := ha _ rfl
    simp at this
    subst this
    clear ha hnone h7
    by_cases h8 : p % 8 = 0
    · have ht8 : ((p : Int) % 8 != 0) = false := by
        have : (p : Int) % 8 = 0 := by omega
        simp [this]
      by_cases h40 : p < 40
      · have ht40 : (p : Int) < 40 := by omega
        clear hbad h40 h8
        go_enter Tryd.func44, Tryd.ntmps44
        go_wp2_with fail
        go_quiet (fail)
        go_wp2
        go_ret
        exact HF.out _
      · have ht40 : ¬ (p : Int) < 40 := by omega
        have ht22 : 2240 < (p : Int) := by omega
        clear hbad h40 h8
        go_enter Tryd.func44, Tryd.ntmps44
        go_wp2_with fail
        go_quiet (fail)
        go_wp2
        go_ret
        exact HF.out _
    · have ht8 : ((p : Int) % 8 != 0) = true := by
        have : (p : Int) % 8 ≠ 0 := by omega
        simpa using this
      clear hbad h8
      go_enter Tryd.func44, Tryd.ntmps44
      go_wp2_with fail
      go_quiet (fail)
      go_wp2
      go_ret
      exact HF.out _
set_option maxRecDepth 20000 in
set_option maxHeartbeats 1000000 in
theorem end_good (b : Nat) (o : Int) (k : List Int) (e : Int) (m n c : Nat) (a : Option Addr) (w : World) (hn : k.length = n) (hoo : o = 0) (h7 : 7 < n) (hbad : ¬ badC (front k)) (hbin : Bin k) (hle : n ≤ c) (_hc : c ≤ 9223372036854775807) (ha : ∀ z, a = some z → z.spot = none)
    (ho : Own w b 60 (scCells ⟨true, o, k, e⟩ (.slice a n c))) (hr : w.ownsRow (b + 1) 5 1 (.slice a n c) n (nums .u8 k)) (he : 0 ≤ e ∧ e ≤ m) :
    Calls Tryd.prog 44 #[.pointer (some ⟨b, 0, none⟩)] w fun e' w' => EndSays w b (Value.slice a n c).ownBlock (Sc.fin ⟨true, o, k, e⟩) m e' w' := by
  have hst := fun q => end_state (m := m) hn ho hr hoo he q
  rw [fin_good (by omega) hbad]
  obtain ⟨⟨h0, h1, h2, h3⟩, ⟨f0, f1, f2, f3⟩⟩ := Own4.cells ho
  have hcl : (front k).length = n - 7 := by rw [front_length, hn]
  unfold badC at hbad
  rw [hcl] at hbad
  have hnone : a = none → n = 0 ∧ c = 0 := fun hh => by
    subst hh
    rcases hr.2 with ⟨hv, _⟩ | ⟨g, cap, cur, hv, _⟩
    · simp at hv; exact hv
    · simp at hv
  have hrow : ∀ q, Row .u8 (endW w b a c q) a (n - 7) c (front k) := fun q => by
    have hr' := ownsRow_rowN .u8 hr (bin_wf hbin)
    obtain ⟨a', c', hv, hrw, _⟩ := hr'
    simp at hv
    obtain ⟨rfl, rfl⟩ := hv
    have hx : Exc (fun j => j = b) w (endW w b a c q) := by
      have h1 : Exc (fun j => j = b) w ((w.drewN q).setCell ⟨b, 0, none⟩ (.int .i64 2)) := Exc.setCell (S := fun j => j = b) ((Exc.refl (fun j => j = b) w).drawN q) ⟨b, 0, none⟩ (.inl rfl) _
      exact h1.setCell ⟨b, 2, none⟩ (.inl rfl) _
    have h2 := hrw.exc hx (fun x hxa => by
      subst hxa
      have := (ownBlock_lt hr (k := x.block) rfl).1
      show ¬ (x.block = b)
      omega)
    have h3 := h2.front (n - 7) (by omega)
    have e1 : front k = k.take (n - 7) := by unfold front; rw [hn]
    rw [e1]; exact h3
  have hf0 : errOf (front k) = 0 := errOf_ok (by rw [hcl]; omega) (Bin.isBits (hbin.take _))
  have hsz : ∀ q, (endW w b a c q).heap.size = w.heap.size := fun q => by unfold endW; simp [World.setCell]
  have hoct : ∀ q, Calls Tryd.prog 47 #[.slice a (n - 7) c] (endW w b a c q) fun e w' => e = .returned (.tuple #[.slice (some ⟨w.heap.size, 0, none⟩) ((n - 7) / 8) ((n - 7) / 8), .int .i64 0]) ∧ Below w.heap.size (endW w b a c q) w' ∧
      Own w' w.heap.size 5 (nums .u8 (octs (front k))) := fun q => by
    have := octets_ok a (n - 7) c (front k) (endW w b a c q) (hrow q) hf0 (by omega)
    rw [hsz q] at this
    exact this
  have hol : (octs (front k)).length = (n - 7) / 8 := by rw [octs_length, hcl]
  have hfin : ∀ q w', Below w.heap.size (endW w b a c q) w' → Own w' w.heap.size 5 (nums .u8 (octs (front k))) →
      EndSays w b (Value.slice a n c).ownBlock (⟨true, 0, [], e⟩, octs (front k)) m (.returned (.slice (some ⟨w.heap.size, 0, none⟩) ((n - 7) / 8) ((n - 7) / 8))) w' := fun q w' hb0 hown => by
    have hb := hb0
    rw [← hsz q] at hb
    refine ⟨_, rfl, ?_, ((hst q).1.later hb).more (by omega), ⟨(hst q).2.exc.trans (S' := fun _ => False) (Exc.of_below hb) (fun _ _ hh => hh.elim), (hst q).2.lies⟩⟩
    refine ⟨_, _, by rw [← hol], hown.row0 _ _ rfl (Nat.le_refl _) (by rw [hol]; unfold maxLen; omega) ?_, fun _ => rfl, fun z hz => by simp at hz; subst hz; exact Nat.le_refl _⟩
    intro x hx
    have := octs_bound (hbin.take (k.length - 7)) x hx
    exact wf_u8.2 this
  have HF := Lib.hid hfin
  have HOC := Lib.hid hoct
  clear hst hfin hoct ho hr hn hoo h1 f1 hcl hrow hf0 hsz hol he h3 f3
  simp only [if_true] at h0 h2
  unfold endW at HF HOC
  obtain ⟨p, rfl⟩ : ∃ p, n = p + 7 := ⟨n - 7, by omega⟩
  rw [Nat.add_sub_cancel] at hbad HF HOC
  have hp : 0 < p := by omega
  have h8 : p % 8 = 0 := by omega
  have ht40 : ¬ (p : Int) < 40 := by omega
  have ht22 : ¬ 2240 < (p : Int) := by omega
  have ht8 : ((p : Int) % 8 != 0) = false := by
    have : (p : Int) % 8 = 0 := by omega
    simp [this]
  rcases a with _ | ⟨ab, ao, sp⟩
  · exact absurd (hnone rfl) (by omega)
  · have := ha _ rfl
    simp at this
    subst this
    clear ha hnone h7 hbad h8
    go_enter Tryd.func44, Tryd.ntmps44
    go_wp2_with fail
    go_quiet (fail)
    go_wp2_with fail
    refine (HOC.out _).mono ?_
    rintro e' w' ⟨rfl, hb, hown⟩
    have HB := Lib.hid hb
    have HO := Lib.hid hown
    clear hb hown
    go_wp2
    go_ret
    exact HF.out _ _ HB.out HO.out
end Go.Proofs.YtnecdmihnndebaaDoor
