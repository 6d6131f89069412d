/- Alignments: prove, enter. -/
import Derived.Test.YtgfiikbecapodaaAlNone
namespace Go.Proofs.Ytgfiikbecapodaa
open Go.RowKit

set_option maxHeartbeats 1000000 in
set_option maxRecDepth 100000 in
theorem enter_end (b p : Nat) (x : Al) (v : Value) (w : World) (h : Raw w b x v) (hp : p = 0 ∨ p = 4 ∨ p = 5) :
    Calls Try.prog 33 #[.pointer (some ⟨b, 0, none⟩), .int .u8 (p : Int)] w fun e w' => e = .returned (.tuple #[]) ∧ Raw w' b (x.ends p) v ∧ Exc (fun k => k = b) w w' := by
  have f7 := h.frozen 7
  have f8 := h.frozen 8
  have c7 := h.ph
  have c8 := h.left
  have h1 : Raw ((w.setCell ⟨b, 7, none⟩ (.int .u8 (p : Int))).setCell ⟨b, 8, none⟩ (.int .i64 0)) b (x.ends p) v := (h.set 7 (.int .u8 (p : Int))).set 8 (.int .i64 0)
  have h2 : Exc (fun k => k = b) w ((w.setCell ⟨b, 7, none⟩ (.int .u8 (p : Int))).setCell ⟨b, 8, none⟩ (.int .i64 0)) := Exc.setCell (S := fun k => k = b) (exc_set b 7 _ w) ⟨b, 8, none⟩ (.inl rfl) _
  have H := Lib.hid (And.intro h1 h2)
  clear h h1 h2
  rcases hp with rfl | rfl | rfl
  all_goals
    go_enter Try.func33, Try.ntmps33
    go_wp2
    go_end0
    exact ⟨rfl, H.out⟩
set_option maxHeartbeats 1000000 in
set_option maxRecDepth 100000 in
theorem enter_seek (b : Nat) (x : Al) (v : Value) (w : World) (h : Raw w b x v) :
    Calls Try.prog 33 #[.pointer (some ⟨b, 0, none⟩), .int .u8 1] w fun e w' => e = .returned (.tuple #[]) ∧ Raw w' b { x with ph := 1, left := x.t.seek } v ∧ Exc (fun k => k = b) w w' := by
  have f7 := h.frozen 7
  have f8 := h.frozen 8
  have c0 := h.c0
  have c7 := h.ph
  have c8 := h.left
  have h1 : Raw (((w.setCell ⟨b, 7, none⟩ (.int .u8 1)).setCell ⟨b, 8, none⟩ (.int .i64 0)).setCell ⟨b, 8, none⟩ (.int .i64 (x.t.seek : Int))) b { x with ph := 1, left := x.t.seek } v := ((h.set 7 (.int .u8 1)).set 8 (.int .i64 0)).set 8 _
  have h2 : Exc (fun k => k = b) w (((w.setCell ⟨b, 7, none⟩ (.int .u8 1)).setCell ⟨b, 8, none⟩ (.int .i64 0)).setCell ⟨b, 8, none⟩ (.int .i64 (x.t.seek : Int))) := Exc.setCell (S := fun k => k = b) (Exc.setCell (S := fun k => k = b) (exc_set b 7 _ w) ⟨b, 8, none⟩ (.inl rfl) _) ⟨b, 8, none⟩ (.inl rfl) _
  have H := Lib.hid (And.intro h1 h2)
  clear h h1 h2
  go_enter Try.func33, Try.ntmps33
  go_wp2
  go_end0
  exact ⟨rfl, H.out⟩
set_option maxHeartbeats 1000000 in
set_option maxRecDepth 100000 in
theorem enter_hold (b : Nat) (x : Al) (v : Value) (w : World) (h : Raw w b x v) :
    Calls Try.prog 33 #[.pointer (some ⟨b, 0, none⟩), .int .u8 2] w fun e w' => e = .returned (.tuple #[]) ∧ Raw w' b x.hold v ∧ Exc (fun k => k = b) w w' := by
  have f7 := h.frozen 7
  have f8 := h.frozen 8
  have c1 := h.c1
  have c7 := h.ph
  have c8 := h.left
  have h1 : Raw (((w.setCell ⟨b, 7, none⟩ (.int .u8 2)).setCell ⟨b, 8, none⟩ (.int .i64 0)).setCell ⟨b, 8, none⟩ (.int .i64 (x.t.hold : Int))) b x.hold v := ((h.set 7 (.int .u8 2)).set 8 (.int .i64 0)).set 8 _
  have h2 : Exc (fun k => k = b) w (((w.setCell ⟨b, 7, none⟩ (.int .u8 2)).setCell ⟨b, 8, none⟩ (.int .i64 0)).setCell ⟨b, 8, none⟩ (.int .i64 (x.t.hold : Int))) := Exc.setCell (S := fun k => k = b) (Exc.setCell (S := fun k => k = b) (exc_set b 7 _ w) ⟨b, 8, none⟩ (.inl rfl) _) ⟨b, 8, none⟩ (.inl rfl) _
  have H := Lib.hid (And.intro h1 h2)
  clear h h1 h2
  go_enter Try.func33, Try.ntmps33
  go_wp2
  go_end0
  exact ⟨rfl, H.out⟩
set_option maxHeartbeats 1000000 in
set_option maxRecDepth 100000 in
theorem prove_any (b : Nat) (x : Al) (v : Value) (w : World) (h : Raw w b x v) (ht : x.t.Fit) (hp : x.prov ≤ 1000000) (h3 : x.ph = 3) :
    Calls Try.prog 38 #[.pointer (some ⟨b, 0, none⟩)] w fun e w' => e = .returned (.tuple #[]) ∧ ∃ g, Raw w' b x.prove (mval g) ∧ SuAt w' g 0 x.lim ∧ w.heap.size ≤ g ∧ Exc (fun k => k = b) w w' := by
  have hw1 : IntKind.i64.wrap ((x.prov : Int) + 1) = ((x.prov + 1 : Nat) : Int) := by rw [IntWalk.i64_in _ (by omega)]; omega
  obtain ⟨P, hP⟩ : ∃ P, P = x.prov + 1 := ⟨_, rfl⟩
  rw [← hP] at hw1
  have hl := Al.lim_le ht
  have f8 := h.frozen 8
  have f11 := h.frozen 11
  have f12 := h.frozen 12
  have c2 := h.c2
  have c3 := h.c3
  have c4 := h.c4
  have c5 := h.c5
  have c8 := h.left
  have c10 := h.urg
  have c11 := h.prov
  have c12 := h.v
  have HH := Lib.hid h
  have HT := Lib.hid (And.intro hl (And.intro h3 hP))
  clear h hl h3 hP ht hp
  cases hu : x.urg
  · rw [hu] at c10
    have e1 : x.lim = x.t.few := by unfold Al.lim; rw [hu]; rfl
    have e2 : x.dur = x.t.normal := by unfold Al.dur; rw [hu]; rfl
    obtain ⟨M, hM⟩ : ∃ M, M = x.lim := ⟨_, rfl⟩
    obtain ⟨D, hD⟩ : ∃ D, D = x.dur := ⟨_, rfl⟩
    rw [← e1, ← hM] at c4
    rw [← e2, ← hD] at c2
    obtain ⟨W1, hW1⟩ : ∃ W, W = (w.setCell ⟨b, 8, none⟩ (.int .i64 (D : Int))).setCell ⟨b, 11, none⟩ (.int .i64 (P : Int)) := ⟨_, rfl⟩
    have r1 : Raw W1 b { x with ph := 3, left := D, prov := P, wr := 0 } v := by
      have := (HH.out.set 8 (.int .i64 (D : Int))).set 11 (.int .i64 (P : Int))
      rw [hW1, ← HT.out.2.1]
      exact this
    have x1 : Exc (fun k => k = b) w W1 := by rw [hW1]; exact Exc.setCell (S := fun k => k = b) (exc_set b 8 _ w) ⟨b, 11, none⟩ (.inl rfl) _
    have hc := newSum_ok M W1 (by rw [hM]; exact HT.out.1.1) (by rw [hM]; exact HT.out.1.2)
    have HC := Lib.hid hc
    have HR := Lib.hid (And.intro r1 x1)
    have HW := Lib.hid hW1
    have HE := Lib.hid (And.intro hM hD)
    clear hu e1 e2 hc r1 x1 hW1 hM hD
    go_enter Try.func38, Try.ntmps38
    go_wp2_with fail
    rw [← HW.out]
    clear c2 c3 c4 c5 c8 c10 c11 c12 f8 f11 f12
    with_reducible refine HC.out.mono ?_
    rintro e W2 ⟨g, rfl, g2, s2, b2⟩
    have r2 : Raw W2 b { x with ph := 3, left := D, prov := P, wr := 0 } v := Own.below HR.out.1 b2 HR.out.1.lt
    have f12 := r2.frozen 12
    have c12 := r2.v
    have hgb : b ≠ g := by have := HR.out.1.lt; omega
    have hr3 : Raw (W2.setCell ⟨b, 12, none⟩ (mval g)) b { x with ph := 3, left := D, prov := P, wr := 0 } (mval g) := r2.set 12 (mval g)
    have s3 : SuAt (W2.setCell ⟨b, 12, none⟩ (mval g)) g 0 M := s2.exc (exc_set b 12 _ W2) (fun h => hgb h.symm)
    have x3 : Exc (fun k => k = b) w (W2.setCell ⟨b, 12, none⟩ (mval g)) := (HR.out.2.trans (Exc.of_below (S := fun _ => False) b2) (fun _ _ h => h.elim)).trans (exc_set b 12 _ W2) (fun _ _ h => h)
    have hg := HR.out.2.size
    have H := Lib.hid (And.intro hr3 (And.intro s3 (And.intro (Nat.le_trans hg g2) x3)))
    clear r2 hr3 s3 x3 hg g2 s2 b2 HR HC HW hgb
    go_wp2
    go_end0
    refine ⟨rfl, g, ?_, ?_, H.out.2.2.1, H.out.2.2.2⟩
    · have := H.out.1
      rw [HE.out.2, HT.out.2.2] at this
      have e : x.prove = { x with ph := 3, left := x.dur, prov := x.prov + 1, wr := 0 } := rfl
      rw [e]
      exact this
    · rw [← HE.out.1]; exact H.out.2.1
  · rw [hu] at c10
    have e1 : x.lim = x.t.fewer := by unfold Al.lim; rw [hu]; rfl
    have e2 : x.dur = x.t.emer := by unfold Al.dur; rw [hu]; rfl
    obtain ⟨M, hM⟩ : ∃ M, M = x.lim := ⟨_, rfl⟩
    obtain ⟨D, hD⟩ : ∃ D, D = x.dur := ⟨_, rfl⟩
    rw [← e1, ← hM] at c5
    rw [← e2, ← hD] at c3
    obtain ⟨W1, hW1⟩ : ∃ W, W = ((w.setCell ⟨b, 8, none⟩ (.int .i64 (x.t.normal : Int))).setCell ⟨b, 8, none⟩ (.int .i64 (D : Int))).setCell ⟨b, 11, none⟩ (.int .i64 (P : Int)) := ⟨_, rfl⟩
    have r1 : Raw W1 b { x with ph := 3, left := D, prov := P, wr := 0 } v := by
      have := ((HH.out.set 8 (.int .i64 (x.t.normal : Int))).set 8 (.int .i64 (D : Int))).set 11 (.int .i64 (P : Int))
      rw [hW1, ← HT.out.2.1]
      exact this
    have x1 : Exc (fun k => k = b) w W1 := by rw [hW1]; exact Exc.setCell (S := fun k => k = b) (Exc.setCell (S := fun k => k = b) (exc_set b 8 _ w) ⟨b, 8, none⟩ (.inl rfl) _) ⟨b, 11, none⟩ (.inl rfl) _
    have hc := newSum_ok M W1 (by rw [hM]; exact HT.out.1.1) (by rw [hM]; exact HT.out.1.2)
    have HC := Lib.hid hc
    have HR := Lib.hid (And.intro r1 x1)
    have HW := Lib.hid hW1
    have HE := Lib.hid (And.intro hM hD)
    clear hu e1 e2 hc r1 x1 hW1 hM hD
    go_enter Try.func38, Try.ntmps38
    go_wp2_with fail
    rw [← HW.out]
    clear c2 c3 c4 c5 c8 c10 c11 c12 f8 f11 f12
    with_reducible refine HC.out.mono ?_
    rintro e W2 ⟨g, rfl, g2, s2, b2⟩
    have r2 : Raw W2 b { x with ph := 3, left := D, prov := P, wr := 0 } v := Own.below HR.out.1 b2 HR.out.1.lt
    have f12 := r2.frozen 12
    have c12 := r2.v
    have hgb : b ≠ g := by have := HR.out.1.lt; omega
    have hr3 : Raw (W2.setCell ⟨b, 12, none⟩ (mval g)) b { x with ph := 3, left := D, prov := P, wr := 0 } (mval g) := r2.set 12 (mval g)
    have s3 : SuAt (W2.setCell ⟨b, 12, none⟩ (mval g)) g 0 M := s2.exc (exc_set b 12 _ W2) (fun h => hgb h.symm)
    have x3 : Exc (fun k => k = b) w (W2.setCell ⟨b, 12, none⟩ (mval g)) := (HR.out.2.trans (Exc.of_below (S := fun _ => False) b2) (fun _ _ h => h.elim)).trans (exc_set b 12 _ W2) (fun _ _ h => h)
    have hg := HR.out.2.size
    have H := Lib.hid (And.intro hr3 (And.intro s3 (And.intro (Nat.le_trans hg g2) x3)))
    clear r2 hr3 s3 x3 hg g2 s2 b2 HR HC HW hgb
    go_wp2
    go_end0
    refine ⟨rfl, g, ?_, ?_, H.out.2.2.1, H.out.2.2.2⟩
    · have := H.out.1
      rw [HE.out.2, HT.out.2.2] at this
      have e : x.prove = { x with ph := 3, left := x.dur, prov := x.prov + 1, wr := 0 } := rfl
      rw [e]
      exact this
    · rw [← HE.out.1]; exact H.out.2.1
end Go.Proofs.Ytgfiikbecapodaa
