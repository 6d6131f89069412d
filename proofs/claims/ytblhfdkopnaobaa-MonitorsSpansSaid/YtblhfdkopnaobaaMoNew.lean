/- Monitors: contracts of NewRate, NewSum, NewSpan. -/
import Derived.Test.YtblhfdkopnaobaaMoSpan
import Derived.Lib.Walk
import Derived.Deep.LoopGhost
import Derived.Deep.Draws
namespace Go.Proofs.Ytblhfdkopnaobaa
open Go.RowKit

theorem own_new (w : World) (t : Nat) (cs : Array Value) (l : List Value) (h : cs = l.toArray) : Own (w.alloc (.cells cs t)) w.heap.size t l := by subst h; exact heap_alloc_new w _
def okArg (v : Int) : Bool := decide (1 ≤ v ∧ v ≤ 1048576)
set_option maxHeartbeats 1000000 in
set_option maxRecDepth 100000 in
theorem isBad_any (v : Int) (w : World) : Calls Try.prog 22 #[.int .i64 v] w fun e w' => e = .returned (.bool (!okArg v)) ∧ w' = w := by
  obtain ⟨x, hx⟩ : ∃ x, x = if v < 1 then (1 : Int) else if 1048576 < v then 1048576 else v := ⟨_, rfl⟩
  have hc := clamp_any v 1 1048576 w x hx (by omega)
  have hb : (v != x) = (!okArg v) := by
    unfold okArg
    by_cases h : 1 ≤ v ∧ v ≤ 1048576
    · rw [decide_eq_true h, hx, if_neg (by omega), if_neg (by omega)]; simp
    · rw [decide_eq_false h]
      have : v ≠ x := by rw [hx]; (repeat' split) <;> omega
      simp [bne, this]
  rw [← hb]
  have HC := Lib.hid hc
  clear hc hb hx
  go_enter Try.func22, Try.ntmps22
  go_wp2_with fail
  with_reducible refine HC.out.mono ?_
  rintro e w' ⟨rfl, rfl⟩
  clear HC
  go_wp2
  go_ret
  exact ⟨rfl, rfl⟩
set_option maxHeartbeats 2000000 in
set_option maxRecDepth 100000 in
theorem indexBad_any (a : Option Addr) (n c : Nat) (l : List Int) (w : World) (h : Row .i64 w a n c l) (hn1 : 1 ≤ n) (hn : n ≤ 100) :
    Calls Try.prog 24 #[.slice a n c, .func (.func 22) #[] #[]] w fun e w' => (∃ r : Int, e = .returned (.int .i64 r) ∧ (0 ≤ r ↔ l.all okArg = false)) ∧ w' = w := by
  obtain ⟨hl, hle, hmx, hw, hc, hnil⟩ := h
  obtain ⟨b, off, rfl, hcc⟩ : ∃ b off, a = some ⟨b, off, none⟩ ∧ ∀ i, i < n → w.cell? ⟨b, off + i, none⟩ = some (.int .i64 (l.getD i 0)) := by
    rcases hc with h0 | h
    · omega
    · exact h
  have HL := Lib.hid hl
  have HC := Lib.hid hcc
  obtain ⟨A, hA⟩ : ∃ A, A = l.all okArg := ⟨_, rfl⟩
  rw [← hA]
  have HA := Lib.hid hA
  clear hl hw hc hcc hnil hmx hle hA
  go_enter Try.func24, Try.ntmps24
  go_wp2
  go_loopg [5, 8] n (fun gg _ s8 wr => ∃ k : Nat, k ≤ n ∧ n - k ≤ gg ∧ s8 = .int .i64 k ∧ (l.take k).all okArg = true ∧ wr = w)
  case atStart => exact ⟨0, Nat.zero_le _, by omega, rfl, rfl, rfl⟩
  case round =>
    obtain ⟨k, hk, hg, rfl, hp, rfl⟩ := hrel
    by_cases hlt : k < n
    · have hki : (k : Int) < (n : Int) := by omega
      have hcell := HC.out k hlt
      obtain ⟨v, hv⟩ : ∃ v, v = l.getD k 0 := ⟨_, rfl⟩
      rw [← hv] at hcell
      have hcon := isBad_any v wr
      obtain ⟨B, hB⟩ : ∃ B, B = okArg v := ⟨_, rfl⟩
      rw [← hB] at hcon
      have HCo := Lib.hid hcon
      have HB := Lib.hid hB
      have HV := Lib.hid hv
      have HP := Lib.hid hp
      clear hcon hB hv hp
      cases B
      · go_wp2_with fail
        with_reducible refine HCo.out.mono ?_
        rintro e w' ⟨rfl, rfl⟩
        clear hcell HCo
        go_wp2
        go_ret
        refine ⟨⟨(k : Int), rfl, ?_⟩, rfl⟩
        constructor
        · intro _
          rw [HA.out, ← Bool.not_eq_true, List.all_eq_true]
          intro h
          have hkl : k < l.length := by rw [HL.out]; exact hlt
          have := h l[k] (List.getElem_mem hkl)
          have e2 : l.getD k 0 = l[k] := by simp [List.getD_eq_getElem?_getD, hkl]
          rw [← e2, ← HV.out, ← HB.out] at this
          cases this
        · intro _; omega
      · go_wp2_with fail
        with_reducible refine HCo.out.mono ?_
        rintro e w' ⟨rfl, rfl⟩
        clear hcell HCo
        go_wp2
        go_roundg (n - (k + 1))
        case measure => omega
        case rel =>
          refine ⟨k + 1, by omega, by omega, by go_num, ?_, rfl⟩
          rw [take_snoc l k 0 (by rw [HL.out]; exact hlt), List.all_append, HP.out, ← HV.out]
          simp [← HB.out]
    · obtain rfl : k = n := by omega
      have hki : ¬ ((k : Nat) : Int) < (k : Int) := by omega
      have HP := Lib.hid hp
      clear hp
      go_wp2
      go_ret
      refine ⟨⟨-1, rfl, ?_⟩, rfl⟩
      have e := HP.out
      rw [← HL.out, List.take_length] at e
      rw [HA.out, e]
      constructor
      · intro h; omega
      · intro h; cases h
set_option maxHeartbeats 1000000 in
set_option maxRecDepth 100000 in
theorem containsBad_any (a : Option Addr) (n c : Nat) (l : List Int) (w : World) (h : Row .i64 w a n c l) (hn1 : 1 ≤ n) (hn : n ≤ 100) :
    Calls Try.prog 21 #[.slice a n c, .func (.func 22) #[] #[]] w fun e w' => e = .returned (.bool (!l.all okArg)) ∧ w' = w := by
  have HC := Lib.hid (indexBad_any a n c l w h hn1 hn)
  clear h
  go_enter Try.func21, Try.ntmps21
  go_wp2_with fail
  with_reducible refine HC.out.mono ?_
  rintro e w' ⟨⟨r, rfl, hr⟩, rfl⟩
  have HR := Lib.hid hr
  clear hr HC
  go_wp2
  go_ret
  refine ⟨congrArg (fun z => Ending.returned (Value.bool z)) ?_, rfl⟩
  have := HR.out
  cases hb : l.all okArg
  · rw [decide_eq_true (this.2 hb)]; rfl
  · rw [decide_eq_false (fun h => by have := this.1 h; rw [hb] at this; cases this)]; rfl
set_option maxHeartbeats 1000000 in
set_option maxRecDepth 100000 in
theorem areInvalid_any (a : Option Addr) (n c : Nat) (l : List Int) (w : World) (h : Row .i64 w a n c l) (hn1 : 1 ≤ n) (hn : n ≤ 100) :
    Calls Try.prog 20 #[.slice a n c] w fun e w' => e = .returned (.bool (!l.all okArg)) ∧ w' = w := by
  have HC := Lib.hid (containsBad_any a n c l w h hn1 hn)
  clear h
  go_enter Try.func20, Try.ntmps20
  go_wp2_with fail
  with_reducible refine HC.out.mono ?_
  rintro e w' ⟨rfl, rfl⟩
  clear HC
  go_wp2
  go_ret
  exact ⟨rfl, rfl⟩
def Kd.ptr : Kd → Nat
  | .rate => 54
  | .sum => 49
  | .span => 57
/-- The interface value of a monitor at block g. -/
def mval (k : Kd) (g : Nat) : Value := .iface k.ptr (.pointer (some ⟨g, 0, none⟩))
theorem row_args (w : World) (l : List Int) (n : Nat) (hn : l.length = n) (h : n ≤ 1000) (hw : ∀ x ∈ l, (Lit.int .i64 x).wf = true) :
    Row .i64 (w.alloc (.cells (nums .i64 l).toArray 3)) (some ⟨w.heap.size, 0, none⟩) n n l := row_lit .i64 w 3 l n hn h hw
/-- What a constructor does. -/
def MadeBy (k : Kd) (lim size up down : Nat) (w : World) (e : Ending) (w' : World) : Prop :=
  ∃ g, e = .returned (.tuple #[mval k g, .int .i64 0]) ∧ w.heap.size ≤ g ∧ MoAt w' g (Mo.new k lim size up down) ∧ Below w.heap.size w w'
theorem okArg_nat {n : Nat} (h1 : 1 ≤ n) (h2 : n ≤ 1048576) : okArg (n : Int) = true := decide_eq_true (by omega)
theorem wf_small {x : Int} (h0 : -1 ≤ x) (h1 : x ≤ 1048577) : (Lit.int .i64 x).wf = true := wf_i64.2 (by omega)
set_option maxHeartbeats 1000000 in
set_option maxRecDepth 100000 in
theorem newSum_ok (lim : Nat) (w : World) (h1 : 1 ≤ lim) (h2 : lim ≤ 1048576) :
    Calls Try.prog 15 #[.int .i64 (lim : Int)] w (MadeBy .sum lim 1 1 1 w) := by
  have hr := row_args w [(lim : Int)] 1 rfl (by omega) (fun x hx => by simp at hx; subst hx; exact wf_small (by omega) (by omega))
  obtain ⟨W, hW⟩ : ∃ W, W = w.alloc (.cells #[.int .i64 (lim : Int)] 3) := ⟨_, rfl⟩
  have hb : Below w.heap.size w W := by rw [hW]; exact below_alloc _ _
  have hr' : Row .i64 W (some ⟨w.heap.size, 0, none⟩) 1 1 [(lim : Int)] := by rw [hW]; exact hr
  have hc := areInvalid_any _ 1 1 _ W hr' (by omega) (by omega)
  rw [show ([(lim : Int)].all okArg) = true by simp [okArg_nat h1 h2]] at hc
  have hfit : (Mo.new .sum lim 1 1 1).Fit := Mo.Fit.new h1 h2 (by omega) (by omega) (by omega) (by omega)
  have HW := Lib.hid hW
  have HC := Lib.hid hc
  have HB := Lib.hid hb
  have HF := Lib.hid hfit
  clear hr hr' hc hb hW hfit
  go_enter Try.func15, Try.ntmps15
  go_wp2_with fail
  rw [← HW.out]
  with_reducible refine HC.out.mono ?_
  rintro e w' ⟨rfl, rfl⟩
  clear HC HW
  go_wp2
  go_ret2
  exact ⟨w'.heap.size, rfl, HB.out.size, ⟨own_new w' _ _ _ rfl, HF.out⟩, HB.out.alloc HB.out.size _⟩
set_option maxHeartbeats 1000000 in
set_option maxRecDepth 100000 in
theorem newSum_bad (x : Int) (w : World) (h : okArg x = false) (hw : (Lit.int .i64 x).wf = true) :
    Calls Try.prog 15 #[.int .i64 x] w fun e w' => e = .returned (.tuple #[.nilIface, .int .i64 1]) ∧ Below w.heap.size w w' := by
  have hr := row_args w [x] 1 rfl (by omega) (fun y hy => by simp at hy; subst hy; exact hw)
  obtain ⟨W, hW⟩ : ∃ W, W = w.alloc (.cells #[.int .i64 x] 3) := ⟨_, rfl⟩
  have hb : Below w.heap.size w W := by rw [hW]; exact below_alloc _ _
  have hr' : Row .i64 W (some ⟨w.heap.size, 0, none⟩) 1 1 [x] := by rw [hW]; exact hr
  have hc := areInvalid_any _ 1 1 _ W hr' (by omega) (by omega)
  rw [show ([x].all okArg) = false by simp [h]] at hc
  have HW := Lib.hid hW
  have HC := Lib.hid hc
  have HB := Lib.hid hb
  clear hr hr' hc hb hW h hw
  go_enter Try.func15, Try.ntmps15
  go_wp2_with fail
  rw [← HW.out]
  with_reducible refine HC.out.mono ?_
  rintro e w' ⟨rfl, rfl⟩
  clear HC HW
  go_wp2
  go_ret2
  exact ⟨rfl, HB.out⟩
end Go.Proofs.Ytblhfdkopnaobaa
