/- Statements of layer 9: one alignment in a walk; perform, status. -/
import Derived.Test.YtgfiikbecapodaaAlLaw
namespace Go.Proofs.Ytgfiikbecapodaa
open Go.RowKit

/-- In w, at b, the alignment x, all behind what was there in w0. -/
def One (w0 w : World) (b : Nat) (x : Al) : Prop := ∃ g, AlAt w b g x ∧ w0.heap.size ≤ b ∧ w0.heap.size ≤ g ∧ Below w0.heap.size w0 w
theorem One.bel {w0 w : World} {b : Nat} {x : Al} (h : One w0 w b x) : Below w0.heap.size w0 w := by obtain ⟨g, _, _, _, h⟩ := h; exact h
theorem One.fit {w0 w : World} {b : Nat} {x : Al} (h : One w0 w b x) : x.Fit := by obtain ⟨g, h, _⟩ := h; exact h.fit
theorem One.lt {w0 w : World} {b : Nat} {x : Al} (h : One w0 w b x) : b < w.heap.size := by obtain ⟨g, h, _⟩ := h; exact h.lt
theorem One.low {w0 w : World} {b : Nat} {x : Al} (h : One w0 w b x) : w0.heap.size ≤ b := by obtain ⟨g, _, h, _⟩ := h; exact h
theorem One.next {w0 w w' : World} {b g : Nat} {x' : Al} (hb : w0.heap.size ≤ b) (hg : w0.heap.size ≤ g) (hw : Below w0.heap.size w0 w) (h : Next w b g x' w') : One w0 w' b x' := by
  obtain ⟨g', h1, h2, h3⟩ := h
  refine ⟨g', h1, hb, ?_, hw.trans (h2.below hw.size (fun i _ h => ?_))⟩
  · have := hw.size; omega
  · have := hw.size; omega
theorem One.more {w0 w w' : World} {b : Nat} {x : Al} (h : One w0 w b x) (hb : Below w.heap.size w w') : One w0 w' b x := by
  obtain ⟨g, h1, h2, h3, h4⟩ := h
  exact ⟨g, h1.below hb, h2, h3, h4.trans (Below.mono hb h4.size)⟩
theorem One.drew {w0 w : World} {b : Nat} {x : Al} (h : One w0 w b x) (q : Nat) : One w0 (w.drewN q) b x := h.more (below_draw w q)
theorem start_one {w0 w : World} {b : Nat} {x : Al} (h : One w0 w b x) (em : Bool) :
    Calls Try.prog 19 #[.pointer (some ⟨b, 0, none⟩), .bool em] w fun e w' => e = .returned (.int .i64 ((if x.ph = 0 ∨ x.ph = 5 then 0 else 6 : Nat) : Int)) ∧ One w0 w' b (x.begin em) := by
  obtain ⟨g, h1, h2, h3, h4⟩ := h
  refine (start_any b g x em w h1).mono ?_
  rintro e w' ⟨rfl, h⟩
  exact ⟨rfl, One.next h2 h3 h4 h⟩
theorem stop_one {w0 w : World} {b : Nat} {x : Al} (h : One w0 w b x) :
    Calls Try.prog 23 #[.pointer (some ⟨b, 0, none⟩)] w fun e w' => e = .returned (.int .i64 0) ∧ One w0 w' b (x.ends 0) := by
  obtain ⟨g, h1, h2, h3, h4⟩ := h
  refine (stop_any b g x w h1).mono ?_
  rintro e w' ⟨rfl, h⟩
  exact ⟨rfl, One.next h2 h3 h4 h⟩
theorem tick_one {w0 w : World} {b : Nat} {x : Al} (h : One w0 w b x) :
    Calls Try.prog 20 #[.pointer (some ⟨b, 0, none⟩)] w fun e w' => e = .returned (.int .i64 0) ∧ One w0 w' b (x.tick) := by
  obtain ⟨g, h1, h2, h3, h4⟩ := h
  refine (tick_any b g x w h1).mono ?_
  rintro e w' ⟨rfl, h⟩
  exact ⟨rfl, One.next h2 h3 h4 h⟩
theorem wrong_one {w0 w : World} {b : Nat} {x : Al} (h : One w0 w b x) (hp : x.prov ≤ 1000000) :
    Calls Try.prog 22 #[.pointer (some ⟨b, 0, none⟩)] w fun e w' => e = .returned (.int .i64 0) ∧ One w0 w' b (x.wrong) := by
  obtain ⟨g, h1, h2, h3, h4⟩ := h
  refine (wrong_any b g x w h1 hp).mono ?_
  rintro e w' ⟨rfl, h⟩
  exact ⟨rfl, One.next h2 h3 h4 h⟩
theorem hear_one {w0 w : World} {b : Nat} {x : Al} (h : One w0 w b x) (s : Nat) (hp : x.prov ≤ 1000000) (hs : s ≤ 255) :
    Calls Try.prog 24 #[.pointer (some ⟨b, 0, none⟩), .int .u8 (s : Int)] w fun e w' => e = .returned (.int .i64 ((if 5 < s then 1 else 0 : Nat) : Int)) ∧ One w0 w' b (if 5 < s then x else x.hear s) := by
  obtain ⟨g, h1, h2, h3, h4⟩ := h
  refine (hear_any b g s x w h1 hp hs).mono ?_
  rintro e w' ⟨rfl, h⟩
  exact ⟨rfl, One.next h2 h3 h4 h⟩
theorem phase_one {w0 w : World} {b : Nat} {x : Al} (h : One w0 w b x) :
    Calls Try.prog 14 #[.pointer (some ⟨b, 0, none⟩)] w fun e w' => e = .returned (.int .u8 (x.ph : Int)) ∧ w' = w := by
  obtain ⟨g, h1, h2, h3, h4⟩ := h
  exact phase_any b g x w h1
theorem left_one {w0 w : World} {b : Nat} {x : Al} (h : One w0 w b x) :
    Calls Try.prog 15 #[.pointer (some ⟨b, 0, none⟩)] w fun e w' => e = .returned (.int .i64 (x.left : Int)) ∧ w' = w := by
  obtain ⟨g, h1, h2, h3, h4⟩ := h
  exact left_any b g x w h1
theorem provings_one {w0 w : World} {b : Nat} {x : Al} (h : One w0 w b x) :
    Calls Try.prog 16 #[.pointer (some ⟨b, 0, none⟩)] w fun e w' => e = .returned (.int .i64 (x.prov : Int)) ∧ w' = w := by
  obtain ⟨g, h1, h2, h3, h4⟩ := h
  exact provings_any b g x w h1
theorem sends_one {w0 w : World} {b : Nat} {x : Al} (h : One w0 w b x) :
    Calls Try.prog 26 #[.pointer (some ⟨b, 0, none⟩)] w fun e w' => e = .returned (.tuple #[.int .u8 (x.sent : Int), .bool x.sents]) ∧ w' = w := by
  obtain ⟨g, h1, h2, h3, h4⟩ := h
  exact sends_any b g x w h1
theorem new_one {w0 w : World} (t : Ti) (ht : t.Fit) (h : Below w0.heap.size w0 w) :
    Calls Try.prog 10 #[.agg #[int t.seek, int t.hold, int t.normal, int t.emer, int t.few, int t.fewer, int t.most]] w fun e w' => ∃ b, e = .returned (.tuple #[.pointer (some ⟨b, 0, none⟩), .int .i64 0]) ∧ w.heap.size ≤ b ∧ One w0 w' b (Al.new t) ∧ Below w.heap.size w w' := by
  refine (new_ok t ht w).mono ?_
  rintro e w' ⟨h1, b, rfl, hb, ha⟩
  have := h.size
  exact ⟨b, rfl, hb, ⟨b, ha, by omega, by omega, h.trans (Below.mono h1 h.size)⟩, h1⟩
/-- What the law's status says. -/
def Al.stat (x : Al) : Nat := x.sends.getD 9
set_option maxHeartbeats 1000000 in
set_option maxRecDepth 100000 in
theorem status_one {w0 w : World} {b : Nat} {x : Al} (h : One w0 w b x) :
    Calls Try.prog 17 #[.pointer (some ⟨b, 0, none⟩)] w fun e w' => e = .returned (.int .u8 (x.stat : Int)) ∧ w' = w := by
  have hc := sends_one h
  have hs : ∀ o, o = x.sends → x.sent = o.getD 0 ∧ x.sents = o.isSome ∧ x.stat = o.getD 9 := by rintro o rfl; exact ⟨rfl, rfl, rfl⟩
  obtain ⟨o, ho⟩ : ∃ o, o = x.sends := ⟨_, rfl⟩
  obtain ⟨e1, e2, e3⟩ := hs o ho
  rw [e1, e2] at hc
  rw [e3]
  have HC := Lib.hid hc
  clear hc e1 e2 e3 hs ho h
  cases o with
  | none =>
    go_enter Try.func17, Try.ntmps17
    go_wp2_with fail
    with_reducible refine HC.out.mono ?_
    rintro e w' ⟨rfl, rfl⟩
    clear HC
    go_wp2
    go_ret
    exact ⟨rfl, rfl⟩
  | some s =>
    go_enter Try.func17, Try.ntmps17
    go_wp2_with fail
    with_reducible refine HC.out.mono ?_
    rintro e w' ⟨rfl, rfl⟩
    clear HC
    go_wp2
    go_ret
    exact ⟨rfl, rfl⟩
set_option maxHeartbeats 1000000 in
set_option maxRecDepth 100000 in
theorem perform_one {w0 w : World} {b : Nat} {x : Al} (h : One w0 w b x) (a : Nat) (hp : x.prov ≤ 1000000) (ha : a ≤ 255) :
    Calls Try.prog 12 #[.pointer (some ⟨b, 0, none⟩), .int .u8 (a : Int)] w fun e w' => e = .returned (.int .i64 (x.err a : Int)) ∧ One w0 w' b (x.act a) := by
  by_cases h8 : a < 8
  · have hcases : a = 0 ∨ a = 1 ∨ a = 2 ∨ a = 3 ∨ a = 4 ∨ a = 5 ∨ a = 6 ∨ a = 7 := by omega
    clear h8 ha
    rcases hcases with rfl | rfl | rfl | rfl | rfl | rfl | rfl | rfl
    · have hc := start_one h false
      rw [show (if x.ph = 0 ∨ x.ph = 5 then 0 else 6) = x.err 0 from (if_pos (by decide)).symm] at hc
      obtain ⟨E, hE⟩ : ∃ E, E = x.err 0 := ⟨_, rfl⟩
      rw [← hE] at hc ⊢
      clear hE
      have HC := Lib.hid hc
      clear h hp hc
      go_enter Try.func12, Try.ntmps12
      go_wp2_with fail
      with_reducible refine HC.out.mono ?_
      rintro e w' ⟨rfl, h⟩
      have H := Lib.hid h
      clear HC h
      go_wp2
      go_ret
      exact ⟨rfl, H.out⟩
    · have hc := start_one h true
      rw [show (if x.ph = 0 ∨ x.ph = 5 then 0 else 6) = x.err 1 from (if_pos (by decide)).symm] at hc
      obtain ⟨E, hE⟩ : ∃ E, E = x.err 1 := ⟨_, rfl⟩
      rw [← hE] at hc ⊢
      clear hE
      have HC := Lib.hid hc
      clear h hp hc
      go_enter Try.func12, Try.ntmps12
      go_wp2_with fail
      with_reducible refine HC.out.mono ?_
      rintro e w' ⟨rfl, h⟩
      have H := Lib.hid h
      clear HC h
      go_wp2
      go_ret
      exact ⟨rfl, H.out⟩
    · have hc := stop_one h
      have HC := Lib.hid hc
      clear h hp hc
      go_enter Try.func12, Try.ntmps12
      go_wp2_with fail
      with_reducible refine HC.out.mono ?_
      rintro e w' ⟨rfl, h⟩
      have H := Lib.hid h
      clear HC h
      go_wp2
      go_ret
      exact ⟨rfl, H.out⟩
    · have hc := wrong_one h hp
      have HC := Lib.hid hc
      clear h hp hc
      go_enter Try.func12, Try.ntmps12
      go_wp2_with fail
      with_reducible refine HC.out.mono ?_
      rintro e w' ⟨rfl, h⟩
      have H := Lib.hid h
      clear HC h
      go_wp2
      go_ret
      exact ⟨rfl, H.out⟩
    · have hc := tick_one h
      have HC := Lib.hid hc
      clear h hp hc
      go_enter Try.func12, Try.ntmps12
      go_wp2_with fail
      with_reducible refine HC.out.mono ?_
      rintro e w' ⟨rfl, h⟩
      have H := Lib.hid h
      clear HC h
      go_wp2
      go_ret
      exact ⟨rfl, H.out⟩
    · have hc := tick_one h
      have HC := Lib.hid hc
      clear h hp hc
      go_enter Try.func12, Try.ntmps12
      go_wp2_with fail
      with_reducible refine HC.out.mono ?_
      rintro e w' ⟨rfl, h⟩
      have H := Lib.hid h
      clear HC h
      go_wp2
      go_ret
      exact ⟨rfl, H.out⟩
    · have hc := tick_one h
      have HC := Lib.hid hc
      clear h hp hc
      go_enter Try.func12, Try.ntmps12
      go_wp2_with fail
      with_reducible refine HC.out.mono ?_
      rintro e w' ⟨rfl, h⟩
      have H := Lib.hid h
      clear HC h
      go_wp2
      go_ret
      exact ⟨rfl, H.out⟩
    · have hc := tick_one h
      have HC := Lib.hid hc
      clear h hp hc
      go_enter Try.func12, Try.ntmps12
      go_wp2_with fail
      with_reducible refine HC.out.mono ?_
      rintro e w' ⟨rfl, h⟩
      have H := Lib.hid h
      clear HC h
      go_wp2
      go_ret
      exact ⟨rfl, H.out⟩
  · have hc := hear_one h (a - 8) hp (by omega)
    have e1 : x.err a = if 5 < a - 8 then 1 else 0 := by unfold Al.err; rw [if_neg (by omega), if_neg h8]
    have e2 : x.act a = if 5 < a - 8 then x else x.hear (a - 8) := by unfold Al.act; rw [if_neg (by omega), if_neg (by omega), if_neg (by omega), if_neg h8]
    rw [e1, e2]
    obtain ⟨s, hs⟩ : ∃ s, s = a - 8 := ⟨_, rfl⟩
    rw [← hs] at hc ⊢
    obtain ⟨E, hE⟩ : ∃ E, E = if 5 < s then 1 else 0 := ⟨_, rfl⟩
    obtain ⟨X, hX⟩ : ∃ X, X = if 5 < s then x else x.hear s := ⟨_, rfl⟩
    rw [← hE, ← hX] at hc ⊢
    clear hE hX e1 e2
    have hw : IntKind.u8.wrap ((a : Int) - 8) = (s : Int) := by rw [IntWalk.u8_in _ (by omega)]; omega
    obtain ⟨A, hA⟩ : ∃ A : Int, A = (a : Int) := ⟨_, rfl⟩
    rw [← hA] at hw ⊢
    have q2 : ¬ A < 2 := by omega
    have q3 : ¬ A = 2 := by omega
    have q4 : ¬ A = 3 := by omega
    have q5 : ¬ A < 8 := by omega
    have r3 : (A == 2) = false := by simp; omega
    have r4 : (A == 3) = false := by simp; omega
    have HC := Lib.hid hc
    clear hc h hp ha h8 hs hA
    go_enter Try.func12, Try.ntmps12
    go_wp2_with fail
    with_reducible refine HC.out.mono ?_
    rintro e w' ⟨rfl, h⟩
    have H := Lib.hid h
    clear HC h
    go_wp2
    go_ret
    exact ⟨rfl, H.out⟩
end Go.Proofs.Ytgfiikbecapodaa
