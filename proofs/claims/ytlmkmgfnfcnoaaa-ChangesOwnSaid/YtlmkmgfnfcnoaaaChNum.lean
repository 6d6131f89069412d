/- Layer 16: ends with the statements' numbered items; two ends beside each other. -/
import Derived.Test.YtlmkmgfnfcnoaaaChSend
import Derived.Test.YtlmkmgfnfcnoaaaChAcked
import Derived.Test.YtlmkmgfnfcnoaaaChAct
import Derived.Test.YtlmkmgfnfcnoaaaChItem
namespace Go.Proofs.Ytlmkmgfnfcnoaaa
open Go.RowKit

/-- The end's state, how many it has sent, how many of them are known to have arrived, how many have arrived here. -/
structure Nu (x : Ed) (st n A L : Nat) : Prop where
  st : x.st = st
  ack : x.acked = A
  len : A + x.its.length = n
  its : ∀ i, i < x.its.length → isIt (A + 1 + i) (x.its.getD i It.none)
  last : x.last = L
theorem Nu.fresh : Nu Ed.fresh 0 0 0 0 := ⟨rfl, rfl, rfl, fun i hi => by simp [Ed.fresh] at hi, rfl⟩
/-- What an act leaves: the results v, the end with its numbers. -/
def NuOut (w : World) (b : Nat) (x : Ed) (v : Value) (st n A L : Nat) (e : Ending) (w' : World) : Prop :=
  e = .returned v ∧ ∃ x', EdTo w b x x' w' ∧ Nu x' st n A L
/-- .. and the tick of the failure. -/
def NuFail (w : World) (b : Nat) (x : Ed) (v : Value) (n A L : Nat) (t : Int) (e : Ending) (w' : World) : Prop :=
  e = .returned v ∧ ∃ x', EdTo w b x x' w' ∧ Nu x' 1 n A L ∧ x'.failed = t
/-- .. the M items from N + 1 on. -/
def NuList (w : World) (b : Nat) (x : Ed) (f : Value → Value) (M N L : Nat) (e : Ending) (w' : World) : Prop :=
  ∃ a l x', e = .returned (f (.slice a M M)) ∧ l.length = M ∧ ItsIn w' (fun k => x.S b k ∧ k ≠ b) a l ∧ (∀ i, i < M → isIt (N + 1 + i) (l.getD i It.none)) ∧ EdTo w b x x' w' ∧ Nu x' 2 0 0 L
theorem sendN (b : Nat) (x : Ed) (n N A L : Nat) (g : Nat) (w : World) (h : EdAt w b x) (hu : Nu x 0 n A L) (hN : N = n + 1) (hn : n < 60000) (hr : Row .u8 w (some ⟨g, 0, none⟩) 2 2 [(N : Int) % 256, (N : Int) / 256]) :
    Calls Try.prog 8 #[.pointer (some ⟨b, 0, none⟩), .agg #[.int .i64 (N : Int), .int .u8 5, .int .u8 0, .int .u8 0, .int .u16 0, .int .u16 0, .int .u8 0, .slice (some ⟨g, 0, none⟩) 2 2]] w
      fun e w' => NuOut w b x (.tuple #[.int .i64 (N : Int), .int .i64 0]) 0 N A L e w' := by
  subst hN
  have e := hu.len
  have ea := hu.ack
  refine (send_ok b x _ _ _ _ _ _ _ _ 2 2 _ w h hu.st (by omega) hr (by decide)).mono ?_
  rintro e w' ⟨rfl, s, g', a', c', hto⟩
  refine ⟨by rw [show x.acked + x.its.length + 1 = n + 1 by omega], _, hto, hu.st, ea, ?_, fun i hi => ?_, hu.last⟩
  · show A + (x.its ++ [_]).length = n + 1
    rw [List.length_append, List.length_singleton]; omega
  · show isIt (A + 1 + i) ((x.its ++ [_]).getD i It.none)
    have hi2 : i < (x.its ++ [(⟨0, 0, 0, 0, 0, 0, 0, [], none⟩ : It)]).length := by simpa using hi
    rw [List.length_append, List.length_singleton] at hi2
    by_cases hlt : i < x.its.length
    · rw [List.getD_eq_getElem?_getD, List.getElem?_append_left hlt, ← List.getD_eq_getElem?_getD]
      exact hu.its i hlt
    · obtain rfl : i = x.its.length := by omega
      rw [List.getD_eq_getElem?_getD, List.getElem?_append_right (Nat.le_refl _), Nat.sub_self]
      rw [show A + 1 + x.its.length = n + 1 by omega]
      exact ⟨rfl, rfl, rfl⟩
theorem arriveN (b : Nat) (x : Ed) (n A L M : Nat) (w : World) (h : EdAt w b x) (hu : Nu x 0 n A L) (hM : M = L + 1) (hl : L < 60000) :
    Calls Try.prog 10 #[.pointer (some ⟨b, 0, none⟩), .int .i64 (M : Int)] w fun e w' => NuOut w b x (.int .i64 0) 0 n A M e w' := by
  subst hM
  have e := hu.last
  refine (arrive_ok b x (L + 1) w h hu.st (by omega) (by omega)).mono ?_
  rintro e w' ⟨rfl, hto⟩
  exact ⟨rfl, _, hto, hu.st, hu.ack, hu.len, hu.its, rfl⟩
theorem ackedN (b : Nat) (x : Ed) (n A L N : Nat) (w : World) (h : EdAt w b x) (hu : Nu x 0 n A L) (h1 : A ≤ N) (h2 : N ≤ n) :
    Calls Try.prog 11 #[.pointer (some ⟨b, 0, none⟩), .int .i64 (N : Int)] w fun e w' => NuOut w b x (.int .i64 0) 0 n N L e w' := by
  have e := hu.len
  have ea := hu.ack
  refine (acked_ok b x N (N - A) w h hu.st (by omega) (by omega)).mono ?_
  rintro e w' ⟨rfl, a, c, hto⟩
  refine ⟨rfl, _, hto, hu.st, rfl, ?_, fun i hi => ?_, hu.last⟩
  · show N + (x.its.drop (N - A)).length = n
    rw [List.length_drop]; omega
  · have hi2 : i < (x.its.drop (N - A)).length := hi
    rw [List.length_drop] at hi2
    show isIt (N + 1 + i) ((x.its.drop (N - A)).getD i It.none)
    rw [List.getD_eq_getElem?_getD, List.getElem?_drop, ← List.getD_eq_getElem?_getD]
    have := hu.its (N - A + i) (by omega)
    rw [show A + 1 + (N - A + i) = N + 1 + i by omega] at this
    exact this
theorem failN (b : Nat) (x : Ed) (n A L : Nat) (t : Int) (w : World) (h : EdAt w b x) (hu : Nu x 0 n A L) (ht : -9223372036854775808 ≤ t ∧ t ≤ 9223372036854775807) :
    Calls Try.prog 12 #[.pointer (some ⟨b, 0, none⟩), .int .i64 t] w fun e w' => NuFail w b x (.tuple #[.int .i64 (L : Int), .int .i64 0]) n A L t e w' := by
  refine (fail_ok b x t w h hu.st ht).mono ?_
  rintro e w' ⟨rfl, hto⟩
  exact ⟨by rw [hu.last], _, hto, ⟨rfl, hu.ack, hu.len, hu.its, hu.last⟩, rfl⟩
theorem settleN {w w' : World} {b : Nat} {x : Ed} {n A L N M : Nat} {f : Value → Value} {e : Ending} (hu : Nu x 1 n A L) (h1 : A ≤ N) (h2 : M + N = n) (h : SettleOut w b x (N - A) f e w') : NuList w b x f M N L e w' := by
  have el := hu.len
  obtain ⟨a, rfl, hin, hto⟩ := h
  have e1 : x.its.length - (N - A) = M := by omega
  refine ⟨a, x.its.drop (N - A), _, by rw [e1], by rw [List.length_drop, e1], hin, fun i hi => ?_, hto, ⟨rfl, rfl, rfl, fun i hi => by simp [Ed.idle] at hi, hu.last⟩⟩
  rw [List.getD_eq_getElem?_getD, List.getElem?_drop, ← List.getD_eq_getElem?_getD]
  have := hu.its (N - A + i) (by omega)
  rw [show A + 1 + (N - A + i) = N + 1 + i by omega] at this
  exact this
theorem toldN (b : Nat) (x : Ed) (n A L N M : Nat) (w : World) (h : EdAt w b x) (hu : Nu x 1 n A L) (h1 : A ≤ N) (h2 : M + N = n) :
    Calls Try.prog 13 #[.pointer (some ⟨b, 0, none⟩), .int .i64 (N : Int)] w fun e w' => NuList w b x (fun v => .tuple #[v, .int .i64 0]) M N L e w' := by
  have el := hu.len
  have ea := hu.ack
  exact (told_ok b x N (N - A) w h hu.st (by omega) (by omega)).mono fun e w' hh => settleN hu h1 h2 hh
theorem tickN (b : Nat) (x : Ed) (n A L M : Nat) (t base : Int) (w : World) (h : EdAt w b x) (hu : Nu x 1 n A L) (h2 : M + A = n) (hbase : -9223372036854775808 ≤ base ∧ base ≤ 9223372036854775807) (hle : satI x.failed base ≤ t) :
    Calls Try.prog 20 #[.pointer (some ⟨b, 0, none⟩), .int .i64 t, .int .i64 base] w fun e w' => NuList w b x (fun v => .tuple #[v, .bool true]) M A L e w' := by
  have el := hu.len
  exact (tick_ok b x t base w h hu.st hbase hle).mono fun e w' hh => settleN (N := A) hu (Nat.le_refl _) h2 (by rw [Nat.sub_self]; exact hh)
/-- Two ends beside each other; all that they have is newer than the world w0. -/
structure Pr (w0 w : World) (b c : Nat) (x y : Ed) : Prop where
  one : EdAt w b x
  two : EdAt w c y
  off : ∀ k, x.S b k → ¬ y.S c k
  lo1 : ∀ k, x.S b k → w0.heap.size ≤ k
  lo2 : ∀ k, y.S c k → w0.heap.size ≤ k
  bel : Below w0.heap.size w0 w
theorem Pr.act1 {w0 w w' : World} {b c : Nat} {x x' y : Ed} (h : Pr w0 w b c x y) (ht : EdTo w b x x' w') : Pr w0 w' b c x' y := by
  obtain ⟨h1, h2⟩ := ht.other h.two h.off
  refine ⟨ht.now, h1, h2, fun k hk => ?_, h.lo2, h.bel.trans (ht.exc.below h.bel.size fun i _ hi => h.lo1 i (.inl hi))⟩
  rcases ht.lies k hk with h3 | h3
  · exact h.lo1 k h3
  · exact Nat.le_trans h.bel.size h3
theorem Pr.swap {w0 w : World} {b c : Nat} {x y : Ed} (h : Pr w0 w b c x y) : Pr w0 w c b y x := ⟨h.two, h.one, fun k h1 h2 => h.off k h2 h1, h.lo2, h.lo1, h.bel⟩
theorem Pr.act2 {w0 w w' : World} {b c : Nat} {x y y' : Ed} (h : Pr w0 w b c x y) (ht : EdTo w c y y' w') : Pr w0 w' b c x y' := (h.swap.act1 ht).swap
theorem Pr.more {w0 w w' : World} {b c : Nat} {x y : Ed} (h : Pr w0 w b c x y) (hb : Below w.heap.size w w') : Pr w0 w' b c x y :=
  ⟨h.one.later hb, h.two.later hb, h.off, h.lo1, h.lo2, h.bel.trans (hb.mono h.bel.size)⟩
theorem Pr.drawN {w0 w : World} {b c : Nat} {x y : Ed} (h : Pr w0 w b c x y) (q : Nat) : Pr w0 (w.drewN q) b c x y := h.more (below_draw w q)
theorem fresh_S (b k : Nat) (h : Ed.fresh.S b k) : k = b := by
  rcases h with (h | h) | ⟨y, h, _⟩
  · exact h
  · cases h
  · cases h
theorem Pr.start {w0 w1 w2 : World} (h1 : EdAt w1 w0.heap.size Ed.fresh) (b1 : Below w0.heap.size w0 w1) (h2 : EdAt w2 w1.heap.size Ed.fresh) (b2 : Below w1.heap.size w1 w2) : Pr w0 w2 w0.heap.size w1.heap.size Ed.fresh Ed.fresh := by
  have hlt := h1.own.lt
  refine ⟨h1.later b2, h2, fun k hk hc => ?_, fun k hk => ?_, fun k hk => ?_, b1.trans (b2.mono b1.size)⟩
  · have e1 := fresh_S _ _ hk
    have e2 := fresh_S _ _ hc
    omega
  · rw [fresh_S _ _ hk]; exact Nat.le_refl _
  · rw [fresh_S _ _ hk]; exact b1.size
end Go.Proofs.Ytlmkmgfnfcnoaaa
