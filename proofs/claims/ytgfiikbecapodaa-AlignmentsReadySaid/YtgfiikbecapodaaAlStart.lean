/- Alignments: Start, Stop. -/
import Derived.Test.YtgfiikbecapodaaAlEnter
import Derived.Deep.MidRow
import Derived.Deep.CutBlock
import Derived.WalkSpells
namespace Go.Proofs.Ytgfiikbecapodaa
open Go.RowKit

/-- A list with the values put in from o on. -/
def setL (cs : List Value) : Nat → List Value → List Value
  | _, [] => cs
  | o, v :: r => setL (cs.set o v) (o + 1) r
theorem own_setCells {b t : Nat} : ∀ (vs : List Value) (o : Nat) (cs : List Value) (w : World), Own w b t cs → Own (w.setCells b o vs) b t (setL cs o vs)
  | [], _, _, _, h => h
  | v :: r, o, _, _, h => own_setCells r (o + 1) _ _ (h.set o v)
theorem exc_setCells {b : Nat} {a : World} : ∀ (vs : List Value) (o : Nat) (w : World), Exc (fun k => k = b) a w → Exc (fun k => k = b) a (w.setCells b o vs)
  | [], _, _, h => h
  | v :: r, o, _, h => exc_setCells r (o + 1) _ (Exc.setCell (S := fun k => k = b) h ⟨b, o, none⟩ (.inl rfl) v)
theorem own_there {w : World} {b t : Nat} {cs : List Value} (h : Own w b t cs) : w.there b 0 cs.length := fun j hj => by
  rw [Nat.zero_add]
  exact ⟨by rw [h.cell j hj]; rfl, h.frozen j⟩
/-- What an act leaves: at b the alignment x', nothing else changed but b and its monitor g. -/
def Next (w : World) (b g : Nat) (x' : Al) (w' : World) : Prop := ∃ g', AlAt w' b g' x' ∧ Exc (fun k => k = b ∨ k = g) w w' ∧ (g' = g ∨ w.heap.size ≤ g')
theorem Next.same {w : World} {b g : Nat} {x : Al} (h : AlAt w b g x) : Next w b g x w := ⟨g, h, Exc.refl _ _, .inl rfl⟩
/-- Outside of Proving. -/
theorem Next.raw {w w' : World} {b g : Nat} {x : Al} {v : Value} (h : Raw w' b x v) (hx : Exc (fun k => k = b) w w') (hf : x.Fit) (h3 : x.ph ≠ 3) : Next w b g x w' :=
  ⟨g, ⟨⟨v, h, fun e => absurd e h3⟩, fun e => absurd e h3, hf⟩, hx.weak (fun _ _ h => .inl h), .inl rfl⟩
set_option maxHeartbeats 1000000 in
set_option maxRecDepth 100000 in
theorem enter_prove (b : Nat) (x : Al) (v : Value) (w : World) (h : Raw w b x v) (ht : x.t.Fit) (hp : x.prov ≤ 1000000) :
    Calls Try.prog 33 #[.pointer (some ⟨b, 0, none⟩), .int .u8 3] w fun e w' => e = .returned (.tuple #[]) ∧ ∃ g, AlAt w' b g x.prove ∧ w.heap.size ≤ g ∧ Exc (fun k => k = b) w w' := by
  have f7 := h.frozen 7
  have f8 := h.frozen 8
  have c7 := h.ph
  have c8 := h.left
  obtain ⟨W1, hW1⟩ : ∃ W, W = (w.setCell ⟨b, 7, none⟩ (.int .u8 3)).setCell ⟨b, 8, none⟩ (.int .i64 0) := ⟨_, rfl⟩
  have h1 : Raw W1 b { x with ph := 3, left := 0 } v := by rw [hW1]; exact (h.set 7 (.int .u8 3)).set 8 (.int .i64 0)
  have h2 : Exc (fun k => k = b) w W1 := by rw [hW1]; exact Exc.setCell (S := fun k => k = b) (exc_set b 7 _ w) ⟨b, 8, none⟩ (.inl rfl) _
  have hc := prove_any b { x with ph := 3, left := 0 } v W1 h1 ht hp rfl
  have H := Lib.hid (And.intro h1 (And.intro h2 ht))
  have HC := Lib.hid hc
  have HW := Lib.hid hW1
  clear h h1 h2 hc ht hp hW1
  go_enter Try.func33, Try.ntmps33
  go_wp2_with fail
  rw [← HW.out]
  with_reducible refine HC.out.mono ?_
  rintro e w' ⟨rfl, g, h3, h4, h5, h6⟩
  have hg := H.out.2.1.size
  have hb := H.out.1.lt
  have HF := Lib.hid (And.intro h3 (And.intro h4 (And.intro h5 (And.intro h6 (And.intro hg hb)))))
  clear h3 h4 h5 h6 hg hb HC HW f7 f8 c7 c8
  go_wp2
  go_end0
  obtain ⟨h3, h4, h5, h6, hg, hb⟩ := HF.out
  exact ⟨rfl, g, ⟨⟨_, h3, fun _ => rfl⟩, fun _ => ⟨h4, by omega⟩, Al.Fit.prove H.out.2.2⟩, by omega, H.out.2.1.trans h6 (fun _ _ h => h)⟩
/-- Proving begins. -/
theorem Next.prove {w w1 w' : World} {b g g' : Nat} {x : Al} (h : AlAt w' b g' x) (hx : Exc (fun k => k = b) w w1) (hg : w1.heap.size ≤ g') (hx' : Exc (fun k => k = b) w1 w') : Next w b g x w' :=
  ⟨g', h, (hx.trans hx' (fun _ _ h => h)).weak (fun _ _ h => .inl h), .inr (Nat.le_trans hx.size hg)⟩
set_option maxHeartbeats 1000000 in
set_option maxRecDepth 100000 in
theorem start_ok (b : Nat) (x : Al) (v : Value) (em : Bool) (w : World) (h : Raw w b x v) (hf : x.Fit) (hp : x.ph = 0 ∨ x.ph = 5) :
    Calls Try.prog 19 #[.pointer (some ⟨b, 0, none⟩), .bool em] w fun e w' => e = .returned (.int .i64 0) ∧ Raw w' b (x.start em) .nilIface ∧ Exc (fun k => k = b) w w' := by
  have hn := isNone_raw b x v w h hf
  have c7 := h.ph
  have c0 := h.c0
  have c1 := h.c1
  have c2 := h.c2
  have c3 := h.c3
  have c4 := h.c4
  have c5 := h.c5
  have c6 := h.c6
  have hth : w.there b 0 13 := own_there h
  obtain ⟨W1, hW1⟩ : ∃ W, W = w.setCells b 0 (#[int x.t.seek, int x.t.hold, int x.t.normal, int x.t.emer, int x.t.few, int x.t.fewer, int x.t.most, .int .u8 0, .int .i64 0, .bool em, .bool em, .int .i64 0, .nilIface] : Array Value).toList := ⟨_, rfl⟩
  have r1 : Raw W1 b ⟨x.t, 0, 0, em, em, 0, 0⟩ .nilIface := by rw [hW1]; exact own_setCells _ 0 _ w h
  have x1 : Exc (fun k => k = b) w W1 := by rw [hW1]; exact exc_setCells _ 0 w (Exc.refl _ w)
  have hc := enter_seek b ⟨x.t, 0, 0, em, em, 0, 0⟩ .nilIface W1 r1
  have HN := Lib.hid hn
  have HTh := Lib.hid hth
  have HC := Lib.hid hc
  have HX := Lib.hid x1
  have HW := Lib.hid hW1
  obtain ⟨p, hpp⟩ : ∃ p, p = x.ph := ⟨_, rfl⟩
  rw [← hpp] at hp c7
  clear h hf hn hth hc x1 hW1 r1 hpp
  rcases hp with rfl | rfl
  all_goals
    go_enter Try.func19, Try.ntmps19
    go_wp2_with fail
    with_reducible refine HN.out.mono ?_
    rintro e w' ⟨rfl, rfl⟩
    go_upto_region 5 with fail
    iterate 29 go_step
    with_reducible refine wp_store_mid 58 (Operand.tmp 27) (Operand.tmp 26) ?ho b 0 #[int x.t.seek, int x.t.hold, int x.t.normal, int x.t.emer, int x.t.few, int x.t.fewer, int x.t.most, .int .u8 0, .int .i64 0, .bool em, .bool em, .int .i64 0, .nilIface] ?hx ?hy ?ht ?hi ?h1 ?_
    (case ho => rfl)
    (case hx => rfl)
    (case hy => rfl)
    (case ht => exact HTh.out)
    (case hi => kernel_rfl)
    (case h1 => simp [int, Value.oneCell'])
    rw [← HW.out]
    go_wp2_with fail
    with_reducible refine HC.out.mono ?_
    rintro e w2 ⟨rfl, h2, x2⟩
    have H2 := Lib.hid (And.intro h2 (HX.out.trans x2 (fun _ _ h => h)))
    clear h2 x2 HC HX HW HTh HN
    go_wp2
    go_ret
    exact ⟨rfl, H2.out⟩
set_option maxHeartbeats 1000000 in
set_option maxRecDepth 100000 in
theorem start_bad (b : Nat) (x : Al) (v : Value) (em : Bool) (w : World) (h : Raw w b x v) (hf : x.Fit) (hp : ¬ (x.ph = 0 ∨ x.ph = 5)) :
    Calls Try.prog 19 #[.pointer (some ⟨b, 0, none⟩), .bool em] w fun e w' => e = .returned (.int .i64 6) ∧ w' = w := by
  have hn := isNone_raw b x v w h hf
  have c7 := h.ph
  have HN := Lib.hid hn
  have h5 := hf.ph
  obtain ⟨p, hpp⟩ : ∃ p, p = x.ph := ⟨_, rfl⟩
  rw [← hpp] at hp c7 h5
  have h6 : p = 1 ∨ p = 2 ∨ p = 3 ∨ p = 4 := by omega
  clear h hf hn hpp hp h5
  rcases h6 with rfl | rfl | rfl | rfl
  all_goals
    go_enter Try.func19, Try.ntmps19
    go_wp2_with fail
    with_reducible refine HN.out.mono ?_
    rintro e w' ⟨rfl, rfl⟩
    clear HN
    go_wp2
    go_ret
    exact ⟨rfl, rfl⟩
theorem start_any (b g : Nat) (x : Al) (em : Bool) (w : World) (h : AlAt w b g x) :
    Calls Try.prog 19 #[.pointer (some ⟨b, 0, none⟩), .bool em] w fun e w' => e = .returned (.int .i64 ((if x.ph = 0 ∨ x.ph = 5 then 0 else 6 : Nat) : Int)) ∧ Next w b g (x.begin em) w' := by
  obtain ⟨v, ho, hv⟩ := h.own
  by_cases hp : x.ph = 0 ∨ x.ph = 5
  · rw [if_pos hp, show x.begin em = x.start em by unfold Al.begin; rw [if_pos hp]]
    refine (start_ok b x v em w ho h.fit hp).mono ?_
    rintro e w' ⟨rfl, h1, h2⟩
    exact ⟨rfl, Next.raw h1 h2 (h.fit.start em) (by show 1 ≠ 3; decide)⟩
  · rw [if_neg hp, show x.begin em = x by unfold Al.begin; rw [if_neg hp]]
    refine (start_bad b x v em w ho h.fit hp).mono ?_
    rintro e w' ⟨rfl, rfl⟩
    exact ⟨rfl, Next.same h⟩
set_option maxHeartbeats 1000000 in
set_option maxRecDepth 100000 in
theorem stop_any (b g : Nat) (x : Al) (w : World) (h : AlAt w b g x) :
    Calls Try.prog 23 #[.pointer (some ⟨b, 0, none⟩)] w fun e w' => e = .returned (.int .i64 0) ∧ Next w b g (x.ends 0) w' := by
  obtain ⟨v, ho, hv⟩ := h.own
  have hn := isNone_raw b x v w ho h.fit
  have hc := enter_end b 0 x v w ho (.inl rfl)
  rw [show ((0 : Nat) : Int) = 0 from rfl] at hc
  have HN := Lib.hid hn
  have HC := Lib.hid hc
  have HF := Lib.hid (h.fit.ends (p := 0) (.inl rfl))
  clear hn hc ho hv h
  go_enter Try.func23, Try.ntmps23
  go_wp2_with fail
  with_reducible refine HN.out.mono ?_
  rintro e w' ⟨rfl, rfl⟩
  go_wp2_with fail
  with_reducible refine HC.out.mono ?_
  rintro e w2 ⟨rfl, h2, x2⟩
  have H2 := Lib.hid (show Next w' b g (x.ends 0) w2 from Next.raw h2 x2 HF.out (by show 0 ≠ 3; decide))
  clear h2 x2 HC HN
  go_wp2
  go_ret
  exact ⟨rfl, H2.out⟩
end Go.Proofs.Ytgfiikbecapodaa
