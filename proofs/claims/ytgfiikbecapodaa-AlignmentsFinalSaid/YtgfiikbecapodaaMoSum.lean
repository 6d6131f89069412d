/- Monitors: NewSum and its methods alone (for a seat whose dump has no other monitor). -/
import Derived.Test.YtgfiikbecapodaaMoMath
import Derived.Test.YtgfiikbecapodaaBaseEx
import Derived.StillTailTactics
import Derived.Lib.Walk
import Derived.Deep.LoopGhost
import Derived.Deep.Draws
namespace Go.Proofs.Ytgfiikbecapodaa
open Go.RowKit

def int (n : Nat) : Value := .int .i64 (n : Int)
/-- At block b lies a sum: its level L, its limit M. -/
structure SuAt (w : World) (b L M : Nat) : Prop where
  own : Own w b 76 [int L, int M]
  le : L ≤ M
  one : 1 ≤ M
  max : M ≤ 1048576
theorem SuAt.lt {w : World} {b L M : Nat} (h : SuAt w b L M) : b < w.heap.size := h.own.lt
theorem SuAt.exc {w w' : World} {b L M : Nat} {S : Nat → Prop} (h : SuAt w b L M) (hx : Exc S w w') (hn : ¬ S b) : SuAt w' b L M := by
  refine ⟨?_, h.le, h.one, h.max⟩
  unfold Own
  rw [hx.block b h.own.lt hn]; exact h.own
theorem SuAt.c0 {w : World} {b L M : Nat} (h : SuAt w b L M) : w.cell? ⟨b, 0, none⟩ = some (.int .i64 (L : Int)) := h.own.cell 0 (by simp)
theorem SuAt.c1 {w : World} {b L M : Nat} (h : SuAt w b L M) : w.cell? ⟨b, 1, none⟩ = some (.int .i64 (M : Int)) := h.own.cell 1 (by simp)
theorem SuAt.z {w : World} {b L M : Nat} (h : SuAt w b L M) (j : Nat) : w.frozen? ⟨b, j, none⟩ = false := h.own.frozen j
set_option maxHeartbeats 1000000 in
set_option maxRecDepth 100000 in
theorem clamp_any (v lo hi : Int) (w : World) (x : Int) (hx : x = if v < lo then lo else if hi < v then hi else v) (hlh : lo ≤ hi) :
    Calls Try.prog 43 #[.int .i64 v, .int .i64 lo, .int .i64 hi] w fun e w' => e = .returned (.int .i64 x) ∧ w' = w := by
  have HX := Lib.hid hx
  have HL := Lib.hid hlh
  clear hx hlh
  go_enter Try.func43, Try.ntmps43
  go_wp2
  all_goals
    go_ret
    refine ⟨ret_int ?_, rfl⟩
    rw [HX.out]
    have := HL.out
    repeat' split
    all_goals (first | rfl | omega)
set_option maxHeartbeats 1000000 in
set_option maxRecDepth 100000 in
/-- The level of the monitor at block b changes. -/
theorem change_any (b L M : Nat) (d : Int) (X : Nat) (w : World) (hL : L ≤ M) (hM : M ≤ 1048576) (hd0 : -1048576 ≤ d) (hd1 : d ≤ 1048576) (hX : (X : Int) = (if (L : Int) + d < 0 then (0 : Int) else if (M : Int) < (L : Int) + d then (M : Int) else (L : Int) + d))
    (c0 : w.cell? ⟨b, 0, none⟩ = some (.int .i64 (L : Int))) (c1 : w.cell? ⟨b, 1, none⟩ = some (.int .i64 (M : Int))) (f0 : w.frozen? ⟨b, 0, none⟩ = false) :
    Calls Try.prog 64 #[.pointer (some ⟨b, 0, none⟩), .int .i64 d] w fun e w' => e = .returned (.tuple #[]) ∧ w' = (w.setCell ⟨b, 0, none⟩ (.int .i64 (X : Int))).drew := by
  obtain ⟨v, hv⟩ : ∃ v, v = (L : Int) + d := ⟨_, rfl⟩
  have hw : IntKind.i64.wrap ((L : Int) + d) = v := by rw [hv]; exact IntWalk.i64_in _ (by omega)
  rw [← hv] at hX
  have hcl := fun W => (clamp_any v 0 (M : Int) W (X : Int) hX (by omega)).mono fun e w' (hh : e = .returned (.int .i64 (X : Int)) ∧ w' = W) => hh
  have HC := Lib.hid hcl
  clear hcl hX hv hL hd0 hd1
  go_enter Try.func64, Try.ntmps64
  go_still_tail 14, (by kernel_rfl)
  still_call (HC.out _)
  repeat still_step
  refine wpStill_nil ?_
  change wpList _ _ _ _ _ w.drew
  go_wp2
  go_end0
  exact ⟨rfl, rfl⟩
theorem eq_dec (a b : Nat) : ((a : Int) == (b : Int)) = decide (a = b) := by
  by_cases h : a = b
  · subst h; simp
  · rw [decide_eq_false h]; simp; omega
set_option maxHeartbeats 1000000 in
set_option maxRecDepth 100000 in
theorem over_any (b L M : Nat) (w : World) (h : SuAt w b L M) :
    Calls Try.prog 62 #[.pointer (some ⟨b, 0, none⟩)] w fun e w' => e = .returned (.bool (decide (L = M))) ∧ ∃ q, w' = w.drewN q := by
  have c0 := h.c0
  have c1 := h.c1
  clear h
  have he := eq_dec L M
  obtain ⟨B, hB⟩ : ∃ B, B = decide (L = M) := ⟨_, rfl⟩
  rw [← hB] at he ⊢
  clear hB
  go_enter Try.func62, Try.ntmps62
  go_wp2
  go_quiet (fail)
  go_wp2
  go_ret
  exact ⟨rfl, _, rfl⟩
theorem exc_set (b j : Nat) (v : Value) (w : World) : Exc (fun k => k = b) w (w.setCell ⟨b, j, none⟩ v) := Exc.setCell (S := fun k => k = b) (Exc.refl _ w) ⟨b, j, none⟩ (.inl rfl) v
theorem Own.drewK {w : World} {b t : Nat} {cs : List Value} (h : Own w b t cs) (q : Nat) : Own (w.drewN q) b t cs := h.below (below_draw w q) h.lt
set_option maxHeartbeats 1000000 in
set_option maxRecDepth 100000 in
theorem count_any (b L M : Nat) (w : World) (h : SuAt w b L M) (hl : L < M) :
    Calls Try.prog 60 #[.pointer (some ⟨b, 0, none⟩), .bool false] w fun e w' => e = .returned (.tuple #[]) ∧ SuAt w' b (L + 1) M ∧ Exc (fun k => k = b) w w' := by
  have hX : ((L + 1 : Nat) : Int) = (if (L : Int) + 1 < 0 then (0 : Int) else if (M : Int) < (L : Int) + 1 then (M : Int) else (L : Int) + 1) := by (repeat' split) <;> omega
  have hc := change_any b L M 1 (L + 1) w h.le h.max (by omega) (by omega) hX h.c0 h.c1 (h.z 0)
  have hd : SuAt ((w.setCell ⟨b, 0, none⟩ (.int .i64 ((L + 1 : Nat) : Int))).drew) b (L + 1) M := ⟨(h.own.set 0 (.int .i64 ((L + 1 : Nat) : Int))).drewK 1, by omega, h.one, h.max⟩
  have hx : Exc (fun k => k = b) w ((w.setCell ⟨b, 0, none⟩ (.int .i64 ((L + 1 : Nat) : Int))).drew) := (exc_set b 0 _ w).drawN 1
  have HC := Lib.hid hc
  have HD := Lib.hid (And.intro hd hx)
  clear hc h hX hl hd hx
  go_enter Try.func60, Try.ntmps60
  go_wp2_with fail
  with_reducible refine HC.out.mono ?_
  rintro e w' ⟨rfl, rfl⟩
  clear HC
  go_wp2
  go_end0
  exact ⟨rfl, HD.out⟩
theorem own_new (w : World) (t : Nat) (cs : Array Value) (l : List Value) (h : cs = l.toArray) : Own (w.alloc (.cells cs t)) w.heap.size t l := by subst h; exact heap_alloc_new w _
def okArg (v : Int) : Bool := decide (1 ≤ v ∧ v ≤ 1048576)
set_option maxHeartbeats 1000000 in
set_option maxRecDepth 100000 in
theorem isBad_any (v : Int) (w : World) : Calls Try.prog 42 #[.int .i64 v] w fun e w' => e = .returned (.bool (!okArg v)) ∧ w' = w := by
  obtain ⟨x, hx⟩ : ∃ x, x = if v < 1 then (1 : Int) else if 1048576 < v then 1048576 else v := ⟨_, rfl⟩
  have hc := clamp_any v 1 1048576 w x hx (by omega)
  have hb : (v != x) = (!okArg v) := by
    unfold okArg
    by_cases h : 1 ≤ v ∧ v ≤ 1048576
    · rw [decide_eq_true h, hx, if_neg (by omega), if_neg (by omega)]; simp
    · rw [decide_eq_false h]
      have : v ≠ x := by rw [hx]; (repeat' split) <;> omega
      simp [bne, this]
  rw [← hb]
  have HC := Lib.hid hc
  clear hc hb hx
  go_enter Try.func42, Try.ntmps42
  go_wp2_with fail
  with_reducible refine HC.out.mono ?_
  rintro e w' ⟨rfl, rfl⟩
  clear HC
  go_wp2
  go_ret
  exact ⟨rfl, rfl⟩
set_option maxHeartbeats 2000000 in
set_option maxRecDepth 100000 in
theorem indexBad_any (a : Option Addr) (n c : Nat) (l : List Int) (w : World) (h : Row .i64 w a n c l) (hn1 : 1 ≤ n) (hn : n ≤ 100) :
    Calls Try.prog 44 #[.slice a n c, .func (.func 42) #[] #[]] w fun e w' => (∃ r : Int, e = .returned (.int .i64 r) ∧ (0 ≤ r ↔ l.all okArg = false)) ∧ w' = w := by
  obtain ⟨hl, hle, hmx, hw, hc, hnil⟩ := h
  obtain ⟨b, off, rfl, hcc⟩ : ∃ b off, a = some ⟨b, off, none⟩ ∧ ∀ i, i < n → w.cell? ⟨b, off + i, none⟩ = some (.int .i64 (l.getD i 0)) := by
    rcases hc with h0 | h
    · omega
    · exact h
  have HL := Lib.hid hl
  have HC := Lib.hid hcc
  obtain ⟨A, hA⟩ : ∃ A, A = l.all okArg := ⟨_, rfl⟩
  rw [← hA]
  have HA := Lib.hid hA
  clear hl hw hc hcc hnil hmx hle hA
  go_enter Try.func44, Try.ntmps44
  go_wp2
  go_loopg [5, 8] n (fun gg _ s8 wr => ∃ k : Nat, k ≤ n ∧ n - k ≤ gg ∧ s8 = .int .i64 k ∧ (l.take k).all okArg = true ∧ wr = w)
  case atStart => exact ⟨0, Nat.zero_le _, by omega, rfl, rfl, rfl⟩
  case round =>
    obtain ⟨k, hk, hg, rfl, hp, rfl⟩ := hrel
    by_cases hlt : k < n
    · have hki : (k : Int) < (n : Int) := by omega
      have hcell := HC.out k hlt
      obtain ⟨v, hv⟩ : ∃ v, v = l.getD k 0 := ⟨_, rfl⟩
      rw [← hv] at hcell
      have hcon := isBad_any v wr
      obtain ⟨B, hB⟩ : ∃ B, B = okArg v := ⟨_, rfl⟩
      rw [← hB] at hcon
      have HCo := Lib.hid hcon
      have HB := Lib.hid hB
      have HV := Lib.hid hv
      have HP := Lib.hid hp
      clear hcon hB hv hp
      cases B
      · go_wp2_with fail
        with_reducible refine HCo.out.mono ?_
        rintro e w' ⟨rfl, rfl⟩
        clear hcell HCo
        go_wp2
        go_ret
        refine ⟨⟨(k : Int), rfl, ?_⟩, rfl⟩
        constructor
        · intro _
          rw [HA.out, ← Bool.not_eq_true, List.all_eq_true]
          intro h
          have hkl : k < l.length := by rw [HL.out]; exact hlt
          have := h l[k] (List.getElem_mem hkl)
          have e2 : l.getD k 0 = l[k] := by simp [List.getD_eq_getElem?_getD, hkl]
          rw [← e2, ← HV.out, ← HB.out] at this
          cases this
        · intro _; omega
      · go_wp2_with fail
        with_reducible refine HCo.out.mono ?_
        rintro e w' ⟨rfl, rfl⟩
        clear hcell HCo
        go_wp2
        go_roundg (n - (k + 1))
        case measure => omega
        case rel =>
          refine ⟨k + 1, by omega, by omega, by go_num, ?_, rfl⟩
          rw [take_snoc l k 0 (by rw [HL.out]; exact hlt), List.all_append, HP.out, ← HV.out]
          simp [← HB.out]
    · obtain rfl : k = n := by omega
      have hki : ¬ ((k : Nat) : Int) < (k : Int) := by omega
      have HP := Lib.hid hp
      clear hp
      go_wp2
      go_ret
      refine ⟨⟨-1, rfl, ?_⟩, rfl⟩
      have e := HP.out
      rw [← HL.out, List.take_length] at e
      rw [HA.out, e]
      constructor
      · intro h; omega
      · intro h; cases h
set_option maxHeartbeats 1000000 in
set_option maxRecDepth 100000 in
theorem containsBad_any (a : Option Addr) (n c : Nat) (l : List Int) (w : World) (h : Row .i64 w a n c l) (hn1 : 1 ≤ n) (hn : n ≤ 100) :
    Calls Try.prog 41 #[.slice a n c, .func (.func 42) #[] #[]] w fun e w' => e = .returned (.bool (!l.all okArg)) ∧ w' = w := by
  have HC := Lib.hid (indexBad_any a n c l w h hn1 hn)
  clear h
  go_enter Try.func41, Try.ntmps41
  go_wp2_with fail
  with_reducible refine HC.out.mono ?_
  rintro e w' ⟨⟨r, rfl, hr⟩, rfl⟩
  have HR := Lib.hid hr
  clear hr HC
  go_wp2
  go_ret
  refine ⟨congrArg (fun z => Ending.returned (Value.bool z)) ?_, rfl⟩
  have := HR.out
  cases hb : l.all okArg
  · rw [decide_eq_true (this.2 hb)]; rfl
  · rw [decide_eq_false (fun h => by have := this.1 h; rw [hb] at this; cases this)]; rfl
set_option maxHeartbeats 1000000 in
set_option maxRecDepth 100000 in
theorem areInvalid_any (a : Option Addr) (n c : Nat) (l : List Int) (w : World) (h : Row .i64 w a n c l) (hn1 : 1 ≤ n) (hn : n ≤ 100) :
    Calls Try.prog 40 #[.slice a n c] w fun e w' => e = .returned (.bool (!l.all okArg)) ∧ w' = w := by
  have HC := Lib.hid (containsBad_any a n c l w h hn1 hn)
  clear h
  go_enter Try.func40, Try.ntmps40
  go_wp2_with fail
  with_reducible refine HC.out.mono ?_
  rintro e w' ⟨rfl, rfl⟩
  clear HC
  go_wp2
  go_ret
  exact ⟨rfl, rfl⟩
theorem row_args (w : World) (l : List Int) (n : Nat) (hn : l.length = n) (h : n ≤ 1000) (hw : ∀ x ∈ l, (Lit.int .i64 x).wf = true) :
    Row .i64 (w.alloc (.cells (nums .i64 l).toArray 3)) (some ⟨w.heap.size, 0, none⟩) n n l := row_lit .i64 w 3 l n hn h hw
/-- The interface value of a sum at block g. -/
abbrev mval (g : Nat) : Value := .iface 72 (.pointer (some ⟨g, 0, none⟩))
theorem okArg_nat {n : Nat} (h1 : 1 ≤ n) (h2 : n ≤ 1048576) : okArg (n : Int) = true := decide_eq_true (by omega)
theorem wf_small {x : Int} (h0 : -1 ≤ x) (h1 : x ≤ 1048577) : (Lit.int .i64 x).wf = true := wf_i64.2 (by omega)
set_option maxHeartbeats 1000000 in
set_option maxRecDepth 100000 in
theorem newSum_ok (lim : Nat) (w : World) (h1 : 1 ≤ lim) (h2 : lim ≤ 1048576) :
    Calls Try.prog 39 #[.int .i64 (lim : Int)] w fun e w' => ∃ g, e = .returned (.tuple #[mval g, .int .i64 0]) ∧ w.heap.size ≤ g ∧ SuAt w' g 0 lim ∧ Below w.heap.size w w' := by
  have hr := row_args w [(lim : Int)] 1 rfl (by omega) (fun x hx => by simp at hx; subst hx; exact wf_small (by omega) (by omega))
  obtain ⟨W, hW⟩ : ∃ W, W = w.alloc (.cells #[.int .i64 (lim : Int)] 3) := ⟨_, rfl⟩
  have hb : Below w.heap.size w W := by rw [hW]; exact below_alloc _ _
  have hr' : Row .i64 W (some ⟨w.heap.size, 0, none⟩) 1 1 [(lim : Int)] := by rw [hW]; exact hr
  have hc := areInvalid_any _ 1 1 _ W hr' (by omega) (by omega)
  rw [show ([(lim : Int)].all okArg) = true by simp [okArg_nat h1 h2]] at hc
  have HW := Lib.hid hW
  have HC := Lib.hid hc
  have HB := Lib.hid hb
  have HF := Lib.hid (And.intro h1 h2)
  clear hr hr' hc hb hW h1 h2
  go_enter Try.func39, Try.ntmps39
  go_wp2_with fail
  rw [← HW.out]
  with_reducible refine HC.out.mono ?_
  rintro e w' ⟨rfl, rfl⟩
  clear HC HW
  go_wp2
  go_ret2
  exact ⟨w'.heap.size, rfl, HB.out.size, ⟨own_new w' _ _ _ rfl, Nat.zero_le _, HF.out.1, HF.out.2⟩, HB.out.alloc HB.out.size _⟩
end Go.Proofs.Ytgfiikbecapodaa
