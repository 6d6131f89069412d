/- A nil end and the zero one. -/
import Derived.Test.YtpggiajpjnegkaaCyNext
import Derived.Test.YtpggiajpjnegkaaEaHear
import Derived.Test.YtpggiajpjnegkaaEaRetr
import Derived.Test.YtpggiajpjnegkaaEaPut
namespace Go.Proofs.Ytpggiajpjnegkaa
open Go.RowKit

def NoneAt (w : World) (P : Option Addr) : Prop := P = none ∨ ∃ z, P = some ⟨z, 0, none⟩ ∧ w.cell? ⟨z, 0, none⟩ = some (.int .i64 0) ∧ w.cell? ⟨z, 1, none⟩ = some (.int .i64 0)
theorem NoneAt.later {w w' : World} {P : Option Addr} (h : NoneAt w P) (hb : Below w.heap.size w w') : NoneAt w' P := by
  rcases h with h | ⟨z, h1, h2, h3⟩
  · exact .inl h
  · exact .inr ⟨z, h1, by rw [hb.cell (p := ⟨z, 0, none⟩) (World.block_lt_of_cell? w _ h2)]; exact h2, by rw [hb.cell (p := ⟨z, 1, none⟩) (World.block_lt_of_cell? w _ h3)]; exact h3⟩
set_option maxHeartbeats 1000000 in
set_option maxRecDepth 100000 in
theorem none_yes (P : Option Addr) (w : World) (h : NoneAt w P) :
    Calls Try.prog 45 #[.pointer P] w fun e w' => e = .returned (.bool true) ∧ ∃ q, w' = w.drewN q := by
  rcases h with rfl | ⟨z, rfl, hc, hc'⟩
  · go_enter Try.func45, Try.ntmps45
    go_wp2
    go_ret
    exact ⟨rfl, 0, rfl⟩
  · go_enter Try.func45, Try.ntmps45
    go_wp2
    go_ret
    exact ⟨rfl, 0, rfl⟩
set_option maxHeartbeats 1000000 in
set_option maxRecDepth 100000 in
theorem none_check (P : Option Addr) (w : World) (h : NoneAt w P) :
    Calls Try.prog 36 #[.pointer P] w fun e w' => e = .returned (.int .i64 2) ∧ ∃ q, w' = w.drewN q := by
  have HC := Lib.hid (none_yes P w h)
  clear h
  go_enter Try.func36, Try.ntmps36
  go_wp2_with fail
  refine HC.out.mono ?_
  rintro e w' ⟨rfl, q, rfl⟩
  go_wp2
  go_ret
  exact ⟨rfl, q, rfl⟩
set_option maxHeartbeats 1000000 in
set_option maxRecDepth 100000 in
theorem none_failed (P : Option Addr) (w : World) (h : NoneAt w P) :
    Calls Try.prog 24 #[.pointer P] w fun e w' => e = .returned (.bool false) ∧ ∃ q, w' = w.drewN q := by
  have HC := Lib.hid (none_yes P w h)
  clear h
  go_enter Try.func24, Try.ntmps24
  go_wp2_with fail
  refine HC.out.mono ?_
  rintro e w' ⟨rfl, q, rfl⟩
  go_wp2
  go_ret
  exact ⟨rfl, q, rfl⟩
set_option maxHeartbeats 1000000 in
set_option maxRecDepth 100000 in
theorem none_last (P : Option Addr) (w : World) (h : NoneAt w P) :
    Calls Try.prog 25 #[.pointer P] w fun e w' => e = .returned (.int .u8 0) ∧ ∃ q, w' = w.drewN q := by
  have HC := Lib.hid (none_yes P w h)
  clear h
  go_enter Try.func25, Try.ntmps25
  go_wp2_with fail
  refine HC.out.mono ?_
  rintro e w' ⟨rfl, q, rfl⟩
  go_wp2
  go_ret
  exact ⟨rfl, q, rfl⟩
set_option maxHeartbeats 1000000 in
set_option maxRecDepth 100000 in
theorem none_waiting (P : Option Addr) (w : World) (h : NoneAt w P) :
    Calls Try.prog 22 #[.pointer P] w fun e w' => e = .returned (.tuple #[.int .i64 0, .int .i64 0]) ∧ ∃ q, w' = w.drewN q := by
  have HC := Lib.hid (none_yes P w h)
  clear h
  go_enter Try.func22, Try.ntmps22
  go_wp2_with fail
  refine HC.out.mono ?_
  rintro e w' ⟨rfl, q, rfl⟩
  go_wp2
  go_ret2
  exact ⟨rfl, q, rfl⟩
set_option maxHeartbeats 1000000 in
set_option maxRecDepth 100000 in
theorem none_retrieve (P : Option Addr) (t : Int) (w : World) (h : NoneAt w P) :
    Calls Try.prog 23 #[.pointer P, .int .u8 t] w fun e w' => e = .returned (.tuple #[.slice none 0 0, .int .i64 2]) ∧ ∃ q, w' = w.drewN q := by
  have HC := Lib.hid (none_yes P w h)
  clear h
  go_enter Try.func23, Try.ntmps23
  go_wp2_with fail
  refine HC.out.mono ?_
  rintro e w' ⟨rfl, q, rfl⟩
  go_wp2
  go_ret2
  exact ⟨rfl, q, rfl⟩
set_option maxHeartbeats 1000000 in
set_option maxRecDepth 100000 in
theorem none_accept (P : Option Addr) (v : Value) (w : World) (h : NoneAt w P) :
    Calls Try.prog 12 #[.pointer P, v] w fun e w' => e = .returned (.int .i64 2) ∧ ∃ q, w' = w.drewN q := by
  have HC := Lib.hid (none_check P w h)
  clear h
  go_enter Try.func12, Try.ntmps12
  go_wp2_with fail
  refine HC.out.mono ?_
  rintro e w' ⟨rfl, q, rfl⟩
  go_wp2
  go_ret
  exact ⟨rfl, q, rfl⟩
set_option maxHeartbeats 1000000 in
set_option maxRecDepth 100000 in
theorem none_hear (P : Option Addr) (u : Un) (s : Option Addr) (n c : Nat) (w : World) (h : NoneAt w P) :
    Calls Try.prog 20 #[.pointer P, .agg (unCells u s n c).toArray] w fun e w' => e = .returned (.tuple #[.slice none 0 0, .int .i64 2]) ∧ Below w.heap.size w w' := by
  obtain ⟨W0, hW0⟩ : ∃ X, X = w.alloc (.cells (unCells u s n c).toArray 45) := ⟨_, rfl⟩
  have hb0 : Below w.heap.size w W0 := by rw [hW0]; exact below_alloc _ _
  have HC := Lib.hid (none_check P W0 (h.later hb0))
  have HW0 := Lib.hid hW0
  have HB0 := Lib.hid hb0
  clear h hW0 hb0
  simp only [unCells] at HW0 ⊢
  go_enter Try.func20, Try.ntmps20
  go_wp2_with fail
  rw [← HW0.out]
  refine HC.out.mono ?_
  rintro e w' ⟨rfl, q, rfl⟩
  go_wp2
  go_ret2
  exact ⟨rfl, HB0.out.trans (Below.mono (below_draw W0 q) HB0.out.size)⟩
set_option maxHeartbeats 1000000 in
set_option maxRecDepth 100000 in
theorem none_next (P : Option Addr) (w : World) (h : NoneAt w P) :
    Calls Try.prog 14 #[.pointer P] w fun e w' => e = .returned (.tuple #[.agg #[.int .u8 0, .bool false, .int .u8 0, .bool false, .int .u8 0, .int .u8 0, .slice none 0 0], .int .i64 2]) ∧ Below w.heap.size w w' := by
  obtain ⟨W0, hW0⟩ : ∃ W, W = w.alloc (.cells #[.int .u8 0, .bool false, .int .u8 0, .bool false, .int .u8 0, .int .u8 0, .slice none 0 0] 45) := ⟨_, rfl⟩
  have hb0 : Below w.heap.size w W0 := by rw [hW0]; exact below_alloc _ _
  have oz : Own W0 w.heap.size 45 zeroUnit := by rw [hW0]; exact own_lit w _ _ zeroUnit rfl
  obtain ⟨y0, y1, y2, y3, y4, y5, y6⟩ := unit_cells oz
  obtain ⟨t0, t1, t2, t3, t4, t5, t6⟩ := unit_frozen oz
  have HC := Lib.hid (none_check P W0 (h.later hb0))
  have HW0 := Lib.hid hW0
  have HB0 := Lib.hid hb0
  have HZ := Lib.hid oz
  have hz0 := oz.lt
  clear h hW0 hb0 oz
  go_enter Try.func14, Try.ntmps14
  go_wp2_with fail
  rw [← HW0.out]
  refine HC.out.mono ?_
  rintro e w' ⟨rfl, q, rfl⟩
  go_wp2
  generalize hW6 : (((((((W0.drewN q).setCell ⟨w.heap.size, 0, none⟩ (.int .u8 0)).setCell ⟨w.heap.size, 1, none⟩ (.bool false)).setCell ⟨w.heap.size, 2, none⟩ (.int .u8 0)).setCell ⟨w.heap.size, 3, none⟩ (.bool false)).setCell ⟨w.heap.size, 4, none⟩ (.int .u8 0)).setCell ⟨w.heap.size, 5, none⟩ (.int .u8 0)).setCell ⟨w.heap.size, 6, none⟩ (.slice none 0 0) = W6
  obtain ⟨oz6, hx6⟩ := seven (HZ.out.below (below_draw W0 q) hz0) hW6
  clear hW6 y0 y1 y2 y3 y4 y5 y6
  obtain ⟨y0, y1, y2, y3, y4, y5, y6⟩ := unit_cells oz6
  refine bodyPost_ret (v := .tuple #[.agg #[.int .u8 0, .bool false, .int .u8 0, .bool false, .int .u8 0, .int .u8 0, .slice none 0 0], .int .i64 2]) (by simp [results, Try.results14, go_sem, y0, y1, y2, y3, y4, y5, y6]) rfl ?_
  refine ⟨rfl, (HB0.out.trans (Below.mono (below_draw W0 q) HB0.out.size)).trans (hx6.below HB0.out.size (fun i _ hi => by omega))⟩
/-- A cell that is written and gets its old value back. -/
theorem heap_restore {T : Nat → Prop} {w w2 : World} {b o : Nat} {v v' : Value} (hv : w.cell? ⟨b, o, none⟩ = some v) (hx : Exc T (w.setCell ⟨b, o, none⟩ v') w2) (hT : ¬ T b) : (w2.setCell ⟨b, o, none⟩ v).heap[b]? = w.heap[b]? := by
  have hb := World.block_lt_of_cell? w _ hv
  have h2 := hx.block b (by simpa using hb) hT
  unfold World.cell? at hv
  unfold World.setCell at h2 ⊢
  simp only [Array.getElem?_modify] at h2 ⊢
  simp only [if_true] at h2 ⊢
  rw [h2]
  cases hh : w.heap[b]? with
  | none => rfl
  | some ob =>
    rw [hh] at hv
    cases ob with
    | cells c t fz =>
      simp only [Option.map_some, Option.isSome_none, Bool.false_eq_true, if_false] at hv ⊢
      congr 2
      apply Array.ext_getElem?
      intro i
      have hco : c[o]? = some v := by simpa using hv
      have hlt : o < c.size := (Array.getElem?_eq_some_iff.1 hco).1
      rw [Array.getElem?_setIfInBounds, Array.getElem?_setIfInBounds]
      by_cases hi : o = i
      · subst hi
        rw [hco]
        simp [hlt]
      · simp [hi]
    | _ => rfl
theorem below_restore {T : Nat → Prop} {w A w2 : World} {b o : Nat} {v v' : Value} (hA : Below w.heap.size w A) (hv : A.cell? ⟨b, o, none⟩ = some v) (hx : Exc T (A.setCell ⟨b, o, none⟩ v') w2) (hT : ∀ k, T k → w.heap.size ≤ k) (hb : b < w.heap.size) : Below w.heap.size w (w2.setCell ⟨b, o, none⟩ v) := by
  have hs1 : (A.setCell ⟨b, o, none⟩ v').heap.size = A.heap.size := by simp
  have hs2 : (w2.setCell ⟨b, o, none⟩ v).heap.size = w2.heap.size := by simp
  have hsz := hx.size
  have hAs := hA.size
  refine ⟨hx.os.trans hA.os, hx.tape.trans hA.tape, hx.output.trans hA.output, by omega, fun k hk => ?_⟩
  by_cases hkb : k = b
  · subst hkb
    rw [heap_restore hv hx (fun hh => by have := hT _ hh; omega)]
    exact hA.block k hk
  · rw [heap_setCell_other w2 ⟨b, o, none⟩ k v hkb, hx.block k (by omega) (fun hh => by have := hT _ hh; omega), heap_setCell_other A ⟨b, o, none⟩ k v' hkb]
    exact hA.block k hk
/-- An end whose numbers are those of the beginning; the last unit may have been abnormal; it may have failed. -/
def FinAt (B : Nat) (W : World) (b : Nat) (o f : Bool) : Prop := ∃ x L, EndL W b x L ∧ (∀ k, L.S b k → B ≤ k) ∧ x.failed = f ∧ (f = false → x.w1 = false ∧ x.w2 = o ∧ x.sent = 127 ∧ x.una = [])
theorem FinAt.later {B : Nat} {W W' : World} {b : Nat} {o f : Bool} (h : FinAt B W b o f) (hb : Below W.heap.size W W') : FinAt B W' b o f := by
  obtain ⟨x, L, h1, h2⟩ := h
  exact ⟨x, L, h1.later hb, h2⟩
theorem fin_hear {B : Nat} {W : World} {b : Nat} {o : Bool} {u : Un} {s : Option Addr} {n c : Nat} (h : FinAt B W b o false) (h0 : u.back < 256) (h2 : u.fore < 256) (h4 : u.kind < 256) (h5 : u.state < 256) (hn : n ≤ 9223372036854775807) (hno : chk (u.back : Int) (u.fore : Int) (u.kind : Int) (u.state : Int) n ≠ 0 ∨ u.kind = 1) :
    Calls Try.prog 20 #[.pointer (some ⟨b, 0, none⟩), .agg (unCells u s n c).toArray] W fun e w' => e = .returned (.tuple #[.slice none 0 0, .int .i64 (chk (u.back : Int) (u.fore : Int) (u.kind : Int) (u.state : Int) n)]) ∧ Below W.heap.size W w' := by
  obtain ⟨x, L, h1, _, hf, _⟩ := h
  exact hear_not b x L W u s n c h1 hf h0 h2 h4 h5 hn hno
theorem fin_state {B : Nat} {W : World} {b : Nat} {o : Bool} (h : FinAt B W b o false) :
    Calls Try.prog 20 #[.pointer (some ⟨b, 0, none⟩), .agg #[.int .u8 3, .bool false, .int .u8 0, .bool false, .int .u8 1, .int .u8 0, .slice none 0 0]] W fun e w' => e = .returned (.tuple #[.slice none 0 0, .int .i64 0]) ∧ Below W.heap.size W w' :=
  fin_hear (u := ⟨3, false, 0, false, 1, 0, []⟩) (s := none) (n := 0) (c := 0) h (by decide) (by decide) (by decide) (by decide) (by decide) (.inr rfl)
theorem fin_retr {B : Nat} {W : World} {b : Nat} {o : Bool} (t : Nat) (h : FinAt B W b o false) (ht : t < 256) (hno : 127 < t ∨ t = 0) :
    Calls Try.prog 23 #[.pointer (some ⟨b, 0, none⟩), .int .u8 (t : Int)] W fun e w' => e = .returned (.tuple #[.slice none 0 0, .int .i64 1]) ∧ ∃ q, w' = W.drewN q := by
  obtain ⟨x, L, h1, _, hf, hx⟩ := h
  obtain ⟨_, _, hs, hu⟩ := hx rfl
  refine retrieve_bad b x L W t h1 ht ?_
  rcases hno with h5 | h5
  · exact .inl h5
  · right
    unfold En.ahead En.acked
    rw [hs, hu, h5]
    decide
theorem fin_wrong {B : Nat} {W : World} {b : Nat} {o : Bool} (h : FinAt B W b o false) :
    Calls Try.prog 20 #[.pointer (some ⟨b, 0, none⟩), .agg #[.int .u8 3, .bool false, .int .u8 0, .bool false, .int .u8 0, .int .u8 0, .slice none 0 0]] W fun e w' => (∃ v, e = .returned (.tuple #[v, .int .i64 (if o then 6 else 0)])) ∧ FinAt B w' b true o ∧ Exc (fun k => k = b) W w' := by
  obtain ⟨x, L, h1, h2, hf, hx⟩ := h
  obtain ⟨h3, h4, hs, hu⟩ := hx rfl
  have hw : x.wrong ⟨3, false, 0, false, 0, 0, []⟩ = true := by
    unfold En.wrong En.ahead En.acked
    rw [hs, hu]
    decide
  have hh : x.hear ⟨3, false, 0, false, 0, 0, []⟩ = (none, { x with w1 := x.w2, w2 := true, failed := x.w1 || x.w2 }) := by unfold En.hear; rw [if_pos hw]
  refine (hear_ok b x L W ⟨3, false, 0, false, 0, 0, []⟩ none 0 0 h1 hf (by decide) (by decide) (Row.of_nil _ _) (fun z hz => by cases hz)).mono ?_
  rintro e w' ⟨⟨a, c', he, _⟩, L', h5, h6, h7⟩
  rw [hh] at h5 he
  rw [h3, h4] at he
  refine ⟨⟨.slice a 0 c', he⟩, ⟨_, L', h5, fun k hk => h2 k (h6 ▸ hk), ?_, ?_⟩, h7⟩
  · show (x.w1 || x.w2) = o
    rw [h3, h4]; rfl
  · intro ho
    exact ⟨h4.trans ho, rfl, hs, hu⟩
theorem fin_next {B : Nat} {W : World} {b : Nat} {o : Bool} (h : FinAt B W b o true) :
    Calls Try.prog 14 #[.pointer (some ⟨b, 0, none⟩)] W fun e w' => e = .returned (.tuple #[.agg #[.int .u8 0, .bool false, .int .u8 0, .bool false, .int .u8 0, .int .u8 0, .slice none 0 0], .int .i64 6]) ∧ Below W.heap.size W w' := by
  obtain ⟨x, L, h1, _, hf, _⟩ := h
  exact next_failed b x L W h1 hf
theorem fin_failed {B : Nat} {W : World} {b : Nat} {o : Bool} (h : FinAt B W b o true) :
    Calls Try.prog 24 #[.pointer (some ⟨b, 0, none⟩)] W fun e w' => e = .returned (.bool true) ∧ ∃ q, w' = W.drewN q := by
  obtain ⟨x, L, h1, _, hf, _⟩ := h
  have := efailed_any b x L W h1
  rw [hf] at this
  exact this
theorem fin_accept {B : Nat} {W : World} {b : Nat} {o : Bool} (v : Value) (h : FinAt B W b o true) :
    Calls Try.prog 12 #[.pointer (some ⟨b, 0, none⟩), v] W fun e w' => e = .returned (.int .i64 6) ∧ ∃ q, w' = W.drewN q := by
  obtain ⟨x, L, h1, _, hf, _⟩ := h
  exact accept_failed b x L W v h1 hf
/-- A new end. -/
def NewAt (B : Nat) (W : World) (b : Nat) : Prop := ∃ x L, EndL W b x L ∧ (∀ k, L.S b k → B ≤ k) ∧ x.failed = false ∧ x.w1 = false ∧ x.w2 = false ∧ x.sent = 127 ∧ x.una = [] ∧ x.que = []
theorem NewAt.later {B : Nat} {W W' : World} {b : Nat} (h : NewAt B W b) (hb : Below W.heap.size W W') : NewAt B W' b := by
  obtain ⟨x, L, h1, h2⟩ := h
  exact ⟨x, L, h1.later hb, h2⟩
/-- New, for limits that are right. -/
theorem fin_new (w : World) (a b : Int) (h : 1 ≤ a ∧ a ≤ 127 ∧ 1 ≤ b ∧ b ≤ 65535) :
    Calls Try.prog 11 #[.int .i64 a, .int .i64 b] w fun e w' => e = .returned (.tuple #[.pointer (some ⟨w.heap.size, 0, Option.none⟩), .int .i64 0]) ∧ w.heap.size < w'.heap.size ∧ NewAt w.heap.size w' w.heap.size ∧ Below w.heap.size w w' := by
  obtain ⟨lm, rfl⟩ : ∃ lm : Nat, a = lm := ⟨a.toNat, by omega⟩
  obtain ⟨lo, rfl⟩ : ∃ lo : Nat, b = lo := ⟨b.toNat, by omega⟩
  refine (enew_any w lm lo (by omega) (by omega) (by omega) (by omega)).mono ?_
  rintro e w' ⟨rfl, h, hb⟩
  refine ⟨rfl, h.own.lt, ⟨_, _, h, fun k hk => ?_, rfl, rfl, rfl, rfl, rfl, rfl⟩, hb⟩
  rcases hk with hk | hk | hk | hk
  · omega
  · simp [ELay.none] at hk
  · simp [ELay.none] at hk
  · exact hk.elim
/-- Accept gives what the check of a unit with the load gives. -/
theorem fin_take {B : Nat} {W : World} {b : Nat} {a : Option Addr} {n c : Nat} {l : List Int} (hq : NewAt B W b) (hB : B ≤ W.heap.size) (hr : Row .u8 W a n c l) (hn : n ≤ 400) :
    Calls Try.prog 12 #[.pointer (some ⟨b, 0, none⟩), .slice a n c] W fun e w' => e = .returned (.int .i64 (chk 0 0 2 0 n)) ∧ FinAt B w' b false false ∧ Below B W w' := by
  obtain ⟨x, L, h1, h2, hf, h3, h4, hs, hu, hq⟩ := hq
  by_cases hC : chk 0 0 2 0 n = 0
  · have h5 := chk_ok.1 hC
    refine (accept_ok b x L W a n c l h1 hf (by rw [hq]; decide) hr (by omega) (by omega)).mono ?_
    rintro e w' ⟨rfl, L', h6, h7⟩
    refine ⟨by rw [hC], ⟨_, L', h6, fun k hk => ?_, hf, fun _ => ⟨h3, h4, hs, hu⟩⟩, h7.exc.below hB (fun i _ hi => h2 i hi)⟩
    rcases h7.lies k hk with h8 | h8
    · exact h2 k h8
    · omega
  · refine (accept_not b x L W a n c h1 hf (by omega) (.inl hC)).mono ?_
    rintro e w' ⟨rfl, hb⟩
    rw [if_pos hC]
    exact ⟨rfl, ⟨x, L, h1.later hb, h2, hf, fun _ => ⟨h3, h4, hs, hu⟩⟩, Below.mono hb hB⟩
end Go.Proofs.Ytpggiajpjnegkaa
