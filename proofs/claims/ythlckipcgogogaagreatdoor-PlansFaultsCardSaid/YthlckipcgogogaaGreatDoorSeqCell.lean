/- Joined: PrLn SeqCell. -/
import Derived.Test.YthlckipcgogogaaGreatDoorPlShelfK
import Derived.Test.YthlckipcgogogaaGreatDoorLbCut
import Derived.RangeFuncFrom
import Derived.Test.YthlckipcgogogaaGreatDoorPlCells
/- The lines of a text, as strings.Lines hands them out. -/
namespace Go.Proofs.YthlckipcgogogaaGreatDoor
set_option linter.unusedVariables false
open Go.RowKit

def nlK (s : List UInt8) : Nat := (s.takeWhile (· != 10)).length
def lineH (s : List UInt8) : List UInt8 := s.take (nlK s + 1)
def lineT (s : List UInt8) : List UInt8 := s.drop (nlK s + 1)
def linesL : Nat → List UInt8 → List (List UInt8)
  | 0, _ => []
  | f + 1, s => if s = [] then [] else lineH s :: linesL f (lineT s)
theorem lineT_len (s : List UInt8) : (lineT s).length = s.length - (nlK s + 1) := by simp [lineT]
theorem lineT_lt {s : List UInt8} (h : s ≠ []) : (lineT s).length < s.length := by
  have := List.length_pos_iff.2 h
  rw [lineT_len]; omega
theorem lineH_len (s : List UInt8) : (lineH s).length ≤ s.length := by simp [lineH]; omega
theorem lineH_T (s : List UInt8) : lineH s ++ lineT s = s := List.take_append_drop _ _
theorem linesL_nil (f : Nat) : linesL f [] = [] := by cases f <;> simp [linesL]
theorem linesL_any : ∀ (f : Nat) (s : List UInt8), s.length ≤ f → linesL f s = linesL s.length s
  | 0, s, h => by
    obtain rfl : s = [] := List.eq_nil_of_length_eq_zero (by omega)
    rfl
  | f + 1, s, h => by
    by_cases hs : s = []
    · subst hs; rw [linesL_nil, linesL_nil]
    · have h1 := lineT_lt hs
      obtain ⟨k, hk⟩ : ∃ k, s.length = k + 1 := ⟨s.length - 1, by have := List.length_pos_iff.2 hs; omega⟩
      rw [hk, linesL, linesL, if_neg hs, if_neg hs, linesL_any f _ (by omega), linesL_any k _ (by omega)]
theorem linesL_step {s : List UInt8} (h : s ≠ []) : linesL s.length s = lineH s :: linesL (lineT s).length (lineT s) := by
  obtain ⟨k, hk⟩ : ∃ k, s.length = k + 1 := ⟨s.length - 1, by have := List.length_pos_iff.2 h; omega⟩
  have h1 := lineT_lt h
  rw [hk, linesL, if_neg h, linesL_any k _ (by omega)]
theorem linesL_length : ∀ (f : Nat) (s : List UInt8), (linesL f s).length ≤ s.length
  | 0, _ => Nat.zero_le _
  | f + 1, s => by
    by_cases hs : s = []
    · subst hs; rw [linesL_nil]; exact Nat.le_refl _
    · have h1 := lineT_lt hs
      have h2 := linesL_length f (lineT s)
      rw [linesL, if_neg hs, List.length_cons]
      omega
/-- Where the next line ends. -/
theorem nlK_le (s : List UInt8) : nlK s ≤ s.length := by
  have h := congrArg List.length (List.takeWhile_append_dropWhile (p := (· != (10 : UInt8))) (l := s))
  rw [List.length_append] at h
  unfold nlK
  omega
theorem index10_no : ∀ l : List UInt8, nlK l = l.length → Lib.indexByte l 10 = -1
  | [], _ => rfl
  | c :: l, h => by
    unfold nlK at h
    rw [List.takeWhile_cons] at h
    by_cases hc : (c != 10) = true
    · rw [if_pos hc, List.length_cons, List.length_cons] at h
      have e := index10_no l (by unfold nlK; omega)
      have hc2 : (c == 10) = false := by simpa using hc
      rw [Lib.indexByte, hc2, e]
      rfl
    · rw [if_neg hc] at h
      simp at h
theorem index10_at : ∀ l : List UInt8, nlK l < l.length → Lib.indexByte l 10 = nlK l
  | [], h => by simp [nlK] at h
  | c :: l, h => by
    by_cases hc : (c != 10) = true
    · have hk : nlK (c :: l) = nlK l + 1 := by unfold nlK; rw [List.takeWhile_cons, if_pos hc]; rfl
      rw [hk, List.length_cons] at h
      have e := index10_at l (by omega)
      have hc2 : (c == 10) = false := by simpa using hc
      have h2 : ((nlK l : Int) == -1) = false := by simp
      rw [Lib.indexByte, hc2, e, h2, hk]
      simp
    · have hk : nlK (c :: l) = 0 := by unfold nlK; rw [List.takeWhile_cons, if_neg hc]; rfl
      have hc2 : (c == 10) = true := by simpa using hc
      rw [hk, Lib.indexByte, hc2]
      simp
theorem lineH_all {s : List UInt8} (h : nlK s = s.length) : lineH s = s := by unfold lineH; rw [h]; exact List.take_of_length_le (by omega)
theorem lineT_all {s : List UInt8} (h : nlK s = s.length) : lineT s = [] := by unfold lineT; rw [h]; exact List.drop_of_length_le (by omega)
end Go.Proofs.YthlckipcgogogaaGreatDoor
/- A loop over an iterator that keeps what is left in a variable it has captured, and writes it between two rounds (strings.Lines): the iterator's contract, and the loop's law. -/
namespace Go.Proofs.YthlckipcgogogaaGreatDoor
set_option linter.unusedVariables false
open Go.RowKit

variable {F : Fence} {n : Nat} {P : Program}
/-- J abides growth, writes of the block cb, and turns from B on of blocks that q holds of. -/
def AbidesC {β : Type} (q : Obj → Prop) (B cb : Nat) (J : β → World → Prop) : Prop :=
  ∀ s W W' row, J s W → W.grownBy W' row → (∀ r, row = some r → r = cb ∨ (B ≤ r ∧ ∃ o : Obj, W.heap[r]? = some o ∧ q o)) → J s W'
theorem AbidesC.and {β : Type} {q : Obj → Prop} {B cb : Nat} {J J' : β → World → Prop} (h : AbidesC q B cb J) (h' : AbidesC q B cb J') : AbidesC q B cb (fun s W => J s W ∧ J' s W) :=
  fun s W W' row hs hg hr => ⟨h s W W' row hs.1 hg hr, h' s W W' row hs.2 hg hr⟩
theorem AbidesC.put {β : Type} {q : Obj → Prop} {B cb : Nat} {J : β → World → Prop} (h : AbidesC q B cb J) {s : β} {W : World} {l : Nat} {o : Obj} (o' : Obj) (hs : J s W) (hB : B ≤ l) (hl : W.heap[l]? = some o) (ho : q o) : J s (W.putObj l o') :=
  h s W _ (some l) hs (grownBy_putObj' W l o') (fun r e => by cases e; exact .inr ⟨hB, o, hl, ho⟩)
theorem AbidesC.alloc {β : Type} {q : Obj → Prop} {B cb : Nat} {J : β → World → Prop} (h : AbidesC q B cb J) {s : β} {W : World} (o : Obj) (hs : J s W) : J s (W.alloc o) :=
  h s W _ none hs (World.grownBy_alloc W o none) (fun r e => by cases e)
/-- Below a number under cb and B. -/
theorem abides_below {β : Type} {q : Obj → Prop} {n₀ B cb : Nat} {w₀ : World} (hn : n₀ ≤ w₀.heap.size) (hB : n₀ ≤ B) (hc : n₀ ≤ cb) : AbidesC q B cb (fun (_ : β) W => Below n₀ w₀ W) :=
  fun _ _ _ row hs hg hr => hs.grown hg (Nat.le_trans hn hs.size) (fun k e => by rcases hr k e with h | ⟨h, _⟩ <;> omega)
theorem abides_pure {β : Type} {q : Obj → Prop} {B cb : Nat} (J : β → Prop) : AbidesC q B cb (fun s _ => J s) := fun _ _ _ _ hs _ _ => hs
/-- The iterator's contract: its captured variable is block cb. -/
def SeqC {α : Type} (F : Fence) (n : Nat) (P : Program) (g : Nat) (lb : Array Value) (encs : α → Array Value) (cb : Nat) (Kp : World → World → Prop) (S Sp : List α → Prop) (N : Nat) (w : World) : Prop :=
  ∀ (l : Nat) (J Jx : List α → World → Prop) (W : World), Below w.heap.size w W → AbidesC (fun o => o.isWalk = true) W.heap.size cb J → AbidesC (fun o => o.isWalk = true) W.heap.size cb Jx →
    (∀ pre x W1, J pre W1 → pre.length < N → YieldAt F (n - 1) P l (encs x) W1 fun e W' => (e = .returned (.bool true) ∧ J (pre ++ [x]) W' ∧ Kp W1 W') ∨ (e = .returned (.bool false) ∧ Jx (pre ++ [x]) W')) → J [] W →
    CallsIn F n P g (#[.func (.yield l) #[] #[]] ++ lb) W fun e W' => (∃ v, e = .returned v) ∧ ((∃ xs, S xs ∧ J xs W') ∨ (∃ pre, Sp pre ∧ Jx pre W'))
/-- A block that a step writes: another block stands. -/
theorem block_stands {W W' : World} {row : Option Nat} {B cb k : Nat} {q : Obj → Prop} {o : Obj} (hg : W.grownBy W' row) (hr : ∀ r, row = some r → r = cb ∨ (B ≤ r ∧ ∃ o : Obj, W.heap[r]? = some o ∧ q o)) (hk : W.heap[k]? = some o) (hc : k ≠ cb) (ho : ¬ q o) : W'.heap[k]? = some o := by
  rw [hg.block k (Array.getElem?_eq_some_iff.1 hk).1 fun e => ?_]
  · exact hk
  · rcases hr k e.symm with h | ⟨_, o', h1, h2⟩
    · exact hc h
    · rw [hk] at h1; cases h1; exact ho h2
set_option maxHeartbeats 1000000 in
/-- The loop. -/
theorem wpIn_range_cell {α : Type} {g : Operand} {ps : Array Tmp} {assign body : Code} {Q : Exit → Act → World → Prop} {a : Act} {w : World} (hro : F.round = none) (h1 : 1 ≤ n) {gf : Nat} {lb : Array Value} (hg : a.eval g = .func (.func gf) #[] lb) (hFg : F.fn gf)
    (eg : ∀ args w, (callFunc gf args).run P w = .ok (.enter gf args) w) {encs : α → Array Value} {cb : Nat} {Kp : World → World → Prop} {S Sp : List α → Prop} {N : Nat} {w0 : World} (hseq : SeqC F (n - 1) P gf lb encs cb Kp S Sp N w0) (hcb : cb < w.heap.size)
    (hKt : ∀ {A B C : World}, Kp A B → Kp B C → Kp A C) (hKb : ∀ (W : World) (l : Nat) (o : Obj), w.heap.size ≤ l → Kp W (W.putObj l o)) (hb0 : Below w0.heap.size w0 w) (hps : ∀ x, (encs x).size = ps.size)
    (I : List α → World → Prop) (Ix : Code → List α → World → Prop) (hI : AbidesC (fun o => o.isCells = false) w.heap.size cb I) (hIx : ∀ c, AbidesC (fun o => o.isCells = false) w.heap.size cb (Ix c)) (h0 : I [] w) (a₁ : α → Act)
    (hassign : ∀ (l : Nat) (x : α) (W : World) (K : Act → World → Prop), K (a₁ x) W → assign.wpIn (F.inRound l) (n - 1 - 1) P (Exit.then K (fun _ _ _ => False)) { tmps := (ps.zip (encs x)).foldl (fun t (p, v) => t.setIfInBounds p v) a.tmps, defers := [] } W)
    (hbody : ∀ (l : Nat) (pre : List α) (x : α) (W : World), w.heap.size ≤ l → I pre W → pre.length < N → body.wpIn (F.inRound l) (n - 1 - 1) P (ownPostK Kp I Ix (pre ++ [x]) W) (a₁ x) W)
    (hdone : ∀ (D : Nat) (xs : List α) (W : World), w.heap.size ≤ D → S xs → I xs W → W.heap[D]? = some (.deferred (some [])) → Q .normal { a with defers := { target := .collected D, args := #[] } :: a.defers } W)
    (hstop : ∀ (D : Nat) (c : Code) (pre : List α) (W : World), w.heap.size ≤ D → Sp pre → Ix c pre W → W.heap[D]? = some (.deferred (some [])) → c.wpIn F n P Q { a with defers := { target := .collected D, args := #[] } :: a.defers } W) :
    (Code.rangeFunc g ps assign body).wpIn F n P Q a w := by
  refine wpIn_rangeFunc fun fn hfn => ?_
  rw [hro]
  obtain ⟨rc, hrc⟩ : ∃ rc : LoopState → Option Code → Loop, rc = fun st pe => { state := st, pending := pe, fn, tmps := a.tmps, params := ps, assign, body, defers := w.heap.size } := ⟨_, rfl⟩
  obtain ⟨D, hD⟩ : ∃ D, D = w.heap.size := ⟨_, rfl⟩
  obtain ⟨L, hL⟩ : ∃ L, L = w.heap.size + 1 := ⟨_, rfl⟩
  -- the two blocks of the loop's own, and what stays of them
  obtain ⟨V, hV⟩ : ∃ V, V = (w.alloc (.deferred (some []))).alloc (.loop (rc .ready none)) := ⟨_, rfl⟩
  have hsz : V.heap.size = L + 1 := by rw [hV, hL]; simp
  have vL : V.heap[L]? = some (.loop (rc .ready none)) := by
    have h := World.alloc_heap_new (w.alloc (.deferred (some []))) (.loop (rc .ready none))
    rw [World.size_alloc, ← hV, ← hL] at h
    exact h
  have vD : V.heap[D]? = some (.deferred (some [])) := by
    rw [hV, hD]
    exact (Below.heap_alloc _ _ _ (by simp)).trans (World.alloc_heap_new w _)
  have vI : I [] V := by rw [hV]; exact hI.alloc _ (hI.alloc _ h0)
  have vB : Below w0.heap.size w0 V := by
    rw [hV]
    exact hb0.trans ((((Below.refl _ w).alloc (Nat.le_refl _) _).alloc (by simp) _).mono hb0.size)
  -- what holds between two rounds, and when one has said 'no more'
  let J : List α → World → Prop := fun pre W => I pre W ∧ W.heap[L]? = some (.loop (rc .ready none)) ∧ W.heap[D]? = some (.deferred (some []))
  let Jx : List α → World → Prop := fun pre W => ∃ c, Ix c pre W ∧ W.heap[L]? = some (.loop (rc .done (some c))) ∧ W.heap[D]? = some (.deferred (some []))
  have turn : ∀ {A : World} {row : Option Nat}, (∀ r, row = some r → r = cb ∨ (V.heap.size ≤ r ∧ ∃ o : Obj, A.heap[r]? = some o ∧ o.isWalk = true)) → ∀ r, row = some r → r = cb ∨ (w.heap.size ≤ r ∧ ∃ o : Obj, A.heap[r]? = some o ∧ o.isCells = false) := fun hr r e => by
    rcases hr r e with h | ⟨hb, o, ho, hw⟩
    · exact .inl h
    · exact .inr ⟨by omega, o, ho, Obj.not_cells_of_walk hw⟩
  have aJ : AbidesC (fun o => o.isWalk = true) V.heap.size cb J := fun s A B row hs hg' hr => ⟨hI s A B row hs.1 hg' (turn hr), block_stands hg' hr hs.2.1 (by omega) (by simp [Obj.isWalk]), block_stands hg' hr hs.2.2 (by omega) (by simp [Obj.isWalk])⟩
  have aJx : AbidesC (fun o => o.isWalk = true) V.heap.size cb Jx := fun s A B row hs hg' hr => by
    obtain ⟨c, hc, hl, hk⟩ := hs
    exact ⟨c, hIx c s A B row hc hg' (turn hr), block_stands hg' hr hl (by omega) (by simp [Obj.isWalk]), block_stands hg' hr hk (by omega) (by simp [Obj.isWalk])⟩
  refine ⟨L, [{ target := .collected D, args := #[] }], V, { target := .fn (.func gf) lb, args := #[.func (.yield L) #[] #[]] }, V, gf, #[.func (.yield L) #[] #[]] ++ lb, V, ?_, ?_, ?_, ?_, fun _ => h1, ?_⟩
  · rw [hV, hrc, hL, hD]; exact run_enterLoop_outer _ _ _ _ _
  · simp only [resolve, hg]
    simp [go_sem]
  · intro f' hf'; simp [Target.leads] at hf'; subst hf'; exact hFg
  · simp [invoke, go_sem, eg]
  refine (hseq L J Jx V vB aJ aJx ?_ ⟨vI, vL, vD⟩).mono ?_
  · rintro pre x W ⟨hi, hl, hk⟩ hlen
    have hlt : L < W.heap.size := (Array.getElem?_eq_some_iff.1 hl).1
    have hy := run_yield (P := P) (args := encs x) hl (by rw [hrc]; exact hps x)
    rw [hrc] at hy
    refine ⟨fn, _, assign, body, hy, roundIn_of_wpIn hfn (hassign _ x W _ ⟨_, run_beginRound hl (by rw [hrc]), ?_⟩)⟩
    have l2 : (W.putObj L (.loop { rc .ready none with state := .busy })).heap[L]? = some (.loop { rc .ready none with state := .busy }) := World.putObj_heap_same hlt
    have k2 : (W.putObj L (.loop { rc .ready none with state := .busy })).heap[D]? = some (.deferred (some [])) := (World.putObj_heap_other (by omega)).trans hk
    have w2 : Kp W (W.putObj L (.loop { rc .ready none with state := .busy })) := hKb _ _ _ (by omega)
    refine wpIn_mono (hbody _ pre x _ (by omega) (hI.put _ hi (by omega) hl rfl) hlen) ?_
    have close : ∀ (jump : Option Code) (Z : World), KeepsOthers (W.putObj L (.loop { rc .ready none with state := .busy })) Z → (Instr.endRound L jump).run P Z = .ok (.bool jump.isNone) (Z.putObj L (.loop (rc (if jump.isNone then .ready else .done) jump))) ∧ Z.heap[L]? = some (.loop { rc .ready none with state := .busy }) ∧
        (Z.putObj L (.loop (rc (if jump.isNone then .ready else .done) jump))).heap[L]? = some (.loop (rc (if jump.isNone then .ready else .done) jump)) ∧ (Z.putObj L (.loop (rc (if jump.isNone then .ready else .done) jump))).heap[D]? = some (.deferred (some [])) := fun jump Z hz => by
      have l3 := hz.same _ _ l2 rfl
      have h := run_endRound (P := P) jump l3
      rw [hrc] at h ⊢
      exact ⟨h, by rw [hrc] at l3; exact l3, World.putObj_heap_same (Array.getElem?_eq_some_iff.1 l3).1, (World.putObj_heap_other (by omega)).trans (hz.same _ _ k2 rfl)⟩
    have left : ∀ (c : Code) (Z : World), KeepsOthers (W.putObj L (.loop { rc .ready none with state := .busy })) Z → Ix c (pre ++ [x]) Z → (Instr.endRound L (some c)).run P Z = .ok (.bool false) (Z.putObj L (.loop (rc .done (some c)))) ∧ Jx (pre ++ [x]) (Z.putObj L (.loop (rc .done (some c)))) := fun c Z hz hi3 => by
      obtain ⟨hr, l3, l4, k4⟩ := close (some c) Z hz
      exact ⟨hr, c, (hIx c).put _ hi3 (by omega) l3 rfl, l4, k4⟩
    rintro e a3 Z hp
    cases e with
    | normal =>
      obtain ⟨hz, hkp, hi3⟩ := hp
      obtain ⟨hr, l3, l4, k4⟩ := close none Z hz
      exact ⟨_, _, hr, .inl ⟨rfl, ⟨hI.put _ hi3 (by omega) l3 rfl, l4, k4⟩, hKt (hKt w2 hkp) (hKb _ _ _ (by omega))⟩⟩
    | ret => exact ⟨_, _, (left .ret Z hp.1 hp.2).1, .inr ⟨rfl, (left .ret Z hp.1 hp.2).2⟩⟩
    | exit id => exact ⟨_, _, (left (.exit id) Z hp.1 hp.2).1, .inr ⟨rfl, (left (.exit id) Z hp.1 hp.2).2⟩⟩
    | goto t => exact ⟨_, _, (left (.goto t) Z hp.1 hp.2).1, .inr ⟨rfl, (left (.goto t) Z hp.1 hp.2).2⟩⟩
    | panic ch => exact hp.elim
    | outgrown => exact hp.elim
  · rintro e Z ⟨⟨v, rfl⟩, (⟨xs, hS, hi, hl, hk⟩ | ⟨pre, hSp, c, hi, hl, hk⟩)⟩
    · have h := run_endLoop (P := P) hl (by rw [hrc]; simp)
      rw [hrc] at h
      exact ⟨none, _, h, by rw [← hD]; exact hdone _ xs _ (by omega) hS (hI.put _ hi (by omega) hl rfl) ((World.putObj_heap_other (by omega)).trans hk)⟩
    · have h := run_endLoop (P := P) hl (by rw [hrc]; simp)
      rw [hrc] at h
      exact ⟨some c, _, h, by rw [← hD]; exact hstop _ c pre _ (by omega) hSp ((hIx c).put _ hi (by omega) hl rfl) ((World.putObj_heap_other (by omega)).trans hk)⟩
end Go.Proofs.YthlckipcgogogaaGreatDoor
