/- Statements of layer 9: the model of the chapter. -/
import Derived.Test.YtgfiikbecapodaaAlWalk
import Derived.Deep.CutBlock
namespace Go.Proofs.Ytgfiikbecapodaa
open Go.RowKit

/-- At block m lies the model x. -/
abbrev Md (w : World) (m : Nat) (x : Al) : Prop := Own w m 35 (x.cells (int x.wr))
theorem Md.exc {w w' : World} {m : Nat} {x : Al} {S : Nat → Prop} (h : Md w m x) (hx : Exc S w w') (hn : ¬ S m) : Md w' m x := by
  unfold Md Own
  rw [hx.block m (Own.lt h) hn]; exact h
theorem Md.c0 {w : World} {m : Nat} {x : Al} (h : Md w m x) : w.cell? ⟨m, 0, none⟩ = some (.int .i64 (x.t.seek : Int)) := Own.cell h 0 (by simp [Al.cells])
theorem Md.c1 {w : World} {m : Nat} {x : Al} (h : Md w m x) : w.cell? ⟨m, 1, none⟩ = some (.int .i64 (x.t.hold : Int)) := Own.cell h 1 (by simp [Al.cells])
theorem Md.c2 {w : World} {m : Nat} {x : Al} (h : Md w m x) : w.cell? ⟨m, 2, none⟩ = some (.int .i64 (x.t.normal : Int)) := Own.cell h 2 (by simp [Al.cells])
theorem Md.c3 {w : World} {m : Nat} {x : Al} (h : Md w m x) : w.cell? ⟨m, 3, none⟩ = some (.int .i64 (x.t.emer : Int)) := Own.cell h 3 (by simp [Al.cells])
theorem Md.c4 {w : World} {m : Nat} {x : Al} (h : Md w m x) : w.cell? ⟨m, 4, none⟩ = some (.int .i64 (x.t.few : Int)) := Own.cell h 4 (by simp [Al.cells])
theorem Md.c5 {w : World} {m : Nat} {x : Al} (h : Md w m x) : w.cell? ⟨m, 5, none⟩ = some (.int .i64 (x.t.fewer : Int)) := Own.cell h 5 (by simp [Al.cells])
theorem Md.c6 {w : World} {m : Nat} {x : Al} (h : Md w m x) : w.cell? ⟨m, 6, none⟩ = some (.int .i64 (x.t.most : Int)) := Own.cell h 6 (by simp [Al.cells])
theorem Md.ph {w : World} {m : Nat} {x : Al} (h : Md w m x) : w.cell? ⟨m, 7, none⟩ = some (.int .u8 (x.ph : Int)) := Own.cell h 7 (by simp [Al.cells])
theorem Md.left {w : World} {m : Nat} {x : Al} (h : Md w m x) : w.cell? ⟨m, 8, none⟩ = some (.int .i64 (x.left : Int)) := Own.cell h 8 (by simp [Al.cells])
theorem Md.ow {w : World} {m : Nat} {x : Al} (h : Md w m x) : w.cell? ⟨m, 9, none⟩ = some (.bool x.own) := Own.cell h 9 (by simp [Al.cells])
theorem Md.urg {w : World} {m : Nat} {x : Al} (h : Md w m x) : w.cell? ⟨m, 10, none⟩ = some (.bool x.urg) := Own.cell h 10 (by simp [Al.cells])
theorem Md.prov {w : World} {m : Nat} {x : Al} (h : Md w m x) : w.cell? ⟨m, 11, none⟩ = some (.int .i64 (x.prov : Int)) := Own.cell h 11 (by simp [Al.cells])
theorem Md.wr {w : World} {m : Nat} {x : Al} (h : Md w m x) : w.cell? ⟨m, 12, none⟩ = some (.int .i64 (x.wr : Int)) := Own.cell h 12 (by simp [Al.cells])
set_option maxHeartbeats 1000000 in
set_option maxRecDepth 100000 in
theorem mend_any (m p : Nat) (x : Al) (w : World) (h : Md w m x) :
    Calls Try.prog 29 #[.pointer (some ⟨m, 0, none⟩), .int .u8 (p : Int)] w fun e w' => e = .returned (.tuple #[]) ∧ Md w' m (x.ends p) ∧ Exc (fun k => k = m) w w' := by
  have f7 := h.frozen 7
  have f8 := h.frozen 8
  have c7 := h.ph
  have c8 := h.left
  have h1 : Md ((w.setCell ⟨m, 7, none⟩ (.int .u8 (p : Int))).setCell ⟨m, 8, none⟩ (.int .i64 0)) m (x.ends p) := (h.set 7 (.int .u8 (p : Int))).set 8 (.int .i64 0)
  have h2 : Exc (fun k => k = m) w ((w.setCell ⟨m, 7, none⟩ (.int .u8 (p : Int))).setCell ⟨m, 8, none⟩ (.int .i64 0)) := Exc.setCell (S := fun k => k = m) (exc_set m 7 _ w) ⟨m, 8, none⟩ (.inl rfl) _
  have H := Lib.hid (And.intro h1 h2)
  clear h h1 h2
  go_enter Try.func29, Try.ntmps29
  go_wp2
  go_end0
  exact ⟨rfl, H.out⟩
theorem mend_0 (m : Nat) (x : Al) (w : World) (h : Md w m x) : Calls Try.prog 29 #[.pointer (some ⟨m, 0, none⟩), .int .u8 0] w fun e w' => e = .returned (.tuple #[]) ∧ Md w' m (x.ends 0) ∧ Exc (fun k => k = m) w w' := mend_any m 0 x w h
theorem mend_4 (m : Nat) (x : Al) (w : World) (h : Md w m x) : Calls Try.prog 29 #[.pointer (some ⟨m, 0, none⟩), .int .u8 4] w fun e w' => e = .returned (.tuple #[]) ∧ Md w' m (x.ends 4) ∧ Exc (fun k => k = m) w w' := mend_any m 4 x w h
theorem mend_5 (m : Nat) (x : Al) (w : World) (h : Md w m x) : Calls Try.prog 29 #[.pointer (some ⟨m, 0, none⟩), .int .u8 5] w fun e w' => e = .returned (.tuple #[]) ∧ Md w' m (x.ends 5) ∧ Exc (fun k => k = m) w w' := mend_any m 5 x w h
set_option maxHeartbeats 1000000 in
set_option maxRecDepth 100000 in
theorem mhold_any (m : Nat) (x : Al) (w : World) (h : Md w m x) :
    Calls Try.prog 31 #[.pointer (some ⟨m, 0, none⟩)] w fun e w' => e = .returned (.tuple #[]) ∧ Md w' m x.hold ∧ Exc (fun k => k = m) w w' := by
  have f7 := h.frozen 7
  have f8 := h.frozen 8
  have c1 := h.c1
  have c7 := h.ph
  have c8 := h.left
  have h1 : Md ((w.setCell ⟨m, 7, none⟩ (.int .u8 2)).setCell ⟨m, 8, none⟩ (.int .i64 (x.t.hold : Int))) m x.hold := (h.set 7 (.int .u8 2)).set 8 _
  have h2 : Exc (fun k => k = m) w ((w.setCell ⟨m, 7, none⟩ (.int .u8 2)).setCell ⟨m, 8, none⟩ (.int .i64 (x.t.hold : Int))) := Exc.setCell (S := fun k => k = m) (exc_set m 7 _ w) ⟨m, 8, none⟩ (.inl rfl) _
  have H := Lib.hid (And.intro h1 h2)
  clear h h1 h2
  go_enter Try.func31, Try.ntmps31
  go_wp2
  go_end0
  exact ⟨rfl, H.out⟩
set_option maxHeartbeats 1000000 in
set_option maxRecDepth 100000 in
theorem mprove_any (m : Nat) (x : Al) (w : World) (h : Md w m x) (hp : x.prov ≤ 1000000) :
    Calls Try.prog 30 #[.pointer (some ⟨m, 0, none⟩)] w fun e w' => e = .returned (.tuple #[]) ∧ Md w' m x.prove ∧ Exc (fun k => k = m) w w' := by
  obtain ⟨Q, hQ⟩ : ∃ Q, Q = x.prov + 1 := ⟨_, rfl⟩
  have hw1 : IntKind.i64.wrap ((x.prov : Int) + 1) = (Q : Int) := by rw [IntWalk.i64_in _ (by omega)]; omega
  have f7 := h.frozen 7
  have f8 := h.frozen 8
  have f11 := h.frozen 11
  have f12 := h.frozen 12
  have c2 := h.c2
  have c3 := h.c3
  have c7 := h.ph
  have c8 := h.left
  have c10 := h.urg
  have c11 := h.prov
  have c12 := h.wr
  have ex : ∀ (a : World) (k : Nat) (v : Value), Exc (fun k => k = m) w a → Exc (fun k => k = m) w (a.setCell ⟨m, k, none⟩ v) := fun a k v h => Exc.setCell (S := fun k => k = m) h ⟨m, k, none⟩ (.inl rfl) v
  cases hu : x.urg
  · rw [hu] at c10
    have h1 : Md ((((w.setCell ⟨m, 7, none⟩ (.int .u8 3)).setCell ⟨m, 11, none⟩ (.int .i64 (Q : Int))).setCell ⟨m, 12, none⟩ (.int .i64 0)).setCell ⟨m, 8, none⟩ (.int .i64 (x.t.normal : Int))) m x.prove := by
      have := (((h.set 7 (.int .u8 3)).set 11 (.int .i64 (Q : Int))).set 12 (.int .i64 0)).set 8 (.int .i64 (x.t.normal : Int))
      rw [hQ] at this ⊢
      have e : x.prove = { x with ph := 3, left := x.t.normal, prov := x.prov + 1, wr := 0 } := by unfold Al.prove Al.dur; rw [hu]; rfl
      rw [e]; exact this
    have h2 : Exc (fun k => k = m) w ((((w.setCell ⟨m, 7, none⟩ (.int .u8 3)).setCell ⟨m, 11, none⟩ (.int .i64 (Q : Int))).setCell ⟨m, 12, none⟩ (.int .i64 0)).setCell ⟨m, 8, none⟩ (.int .i64 (x.t.normal : Int))) := ex _ _ _ (ex _ _ _ (ex _ _ _ (exc_set m 7 _ w)))
    have H := Lib.hid (And.intro h1 h2)
    clear h h1 h2 ex hQ hu hp
    go_enter Try.func30, Try.ntmps30
    go_wp2
    go_end0
    exact ⟨rfl, H.out⟩
  · rw [hu] at c10
    have h1 : Md (((((w.setCell ⟨m, 7, none⟩ (.int .u8 3)).setCell ⟨m, 11, none⟩ (.int .i64 (Q : Int))).setCell ⟨m, 12, none⟩ (.int .i64 0)).setCell ⟨m, 8, none⟩ (.int .i64 (x.t.normal : Int))).setCell ⟨m, 8, none⟩ (.int .i64 (x.t.emer : Int))) m x.prove := by
      have := ((((h.set 7 (.int .u8 3)).set 11 (.int .i64 (Q : Int))).set 12 (.int .i64 0)).set 8 (.int .i64 (x.t.normal : Int))).set 8 (.int .i64 (x.t.emer : Int))
      rw [hQ] at this ⊢
      have e : x.prove = { x with ph := 3, left := x.t.emer, prov := x.prov + 1, wr := 0 } := by unfold Al.prove Al.dur; rw [hu]; rfl
      rw [e]; exact this
    have h2 : Exc (fun k => k = m) w (((((w.setCell ⟨m, 7, none⟩ (.int .u8 3)).setCell ⟨m, 11, none⟩ (.int .i64 (Q : Int))).setCell ⟨m, 12, none⟩ (.int .i64 0)).setCell ⟨m, 8, none⟩ (.int .i64 (x.t.normal : Int))).setCell ⟨m, 8, none⟩ (.int .i64 (x.t.emer : Int))) := ex _ _ _ (ex _ _ _ (ex _ _ _ (ex _ _ _ (exc_set m 7 _ w))))
    have H := Lib.hid (And.intro h1 h2)
    clear h h1 h2 ex hQ hu hp
    go_enter Try.func30, Try.ntmps30
    go_wp2
    go_end0
    exact ⟨rfl, H.out⟩
set_option maxHeartbeats 1000000 in
set_option maxRecDepth 100000 in
theorem msends_any (m : Nat) (x : Al) (w : World) (h : Md w m x) (h5 : x.ph ≤ 5) :
    Calls Try.prog 18 #[.pointer (some ⟨m, 0, none⟩)] w fun e w' => e = .returned (.int .u8 (x.stat : Int)) ∧ w' = w := by
  have c7 := h.ph
  have c9 := h.ow
  have hs : ∀ p o, p = x.ph → o = x.own → x.stat = (if p = 1 then some 0 else if p = 2 ∨ p = 3 then some (if o then 2 else 1) else if p = 5 then some 3 else none).getD 9 := by rintro p o rfl rfl; rfl
  obtain ⟨p, hp⟩ : ∃ p, p = x.ph := ⟨_, rfl⟩
  obtain ⟨o, ho⟩ : ∃ o, o = x.own := ⟨_, rfl⟩
  have hs1 := hs p o hp ho
  rw [← hp] at c7 h5
  rw [← ho] at c9
  have h6 : p = 0 ∨ p = 1 ∨ p = 2 ∨ p = 3 ∨ p = 4 ∨ p = 5 := by omega
  clear h h5 hs hp ho
  rcases h6 with rfl | rfl | rfl | rfl | rfl | rfl <;> cases o
  all_goals
    rw [hs1]
    clear hs1
    go_enter Try.func18, Try.ntmps18
    go_wp2
    go_ret
    exact ⟨rfl, rfl⟩
end Go.Proofs.Ytgfiikbecapodaa
