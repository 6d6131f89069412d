/- Layer 17: gates with the statements' numbered items; item, way, list. -/
import Derived.Test.YtnkpmjkbkdnfjaaRrReturn
namespace Go.Proofs.Ytnkpmjkbkdnfjaa
open Go.RowKit

/-- The item with a number, without the place of its contents. -/
def itN (n : Nat) : It := ⟨(n : Int), 5, 0, 0, 0, 0, 0, [(n : Int) % 256], none⟩
/-- A gate as plain data: its hold time, the numbers of its items, phase, last way and tick. -/
structure Pn where
  hold : Int
  ns : List Nat
  ph : Nat
  wy : Wy
  last : Int
def Pn.fresh (h : Int) : Pn := ⟨h, [], 1, ⟨0, 0, 0, 0⟩, 0⟩
def Pn.due (s : Pn) : Int := if 9223372036854775807 - s.hold < s.last then 9223372036854775807 else s.last + s.hold
def Pn.free (s : Pn) (now : Int) (y : Wy) : Prop := s.ph ≠ 3 ∧ (s.ph = 1 ∨ y = s.wy ∨ (s.ph = 4 ∧ y.nx = s.wy.nx) ∨ s.due ≤ now)
instance (s : Pn) (now : Int) (y : Wy) : Decidable (s.free now y) := by unfold Pn.free; infer_instance
def Pn.offer (s : Pn) (n : Nat) : Pn := { s with ns := s.ns ++ [n] }
def Pn.went (s : Pn) (now : Int) (y : Wy) : Pn := { s with ns := [], ph := 2, wy := y, last := now }
def Pn.cut (s : Pn) : Pn := { s with ph := 3 }
def Pn.back (s : Pn) (l : List Nat) : Pn := { s with ns := l ++ s.ns, ph := 4 }
def Pn.flushed (s : Pn) : Pn := { s with ns := [] }
/-- A gate that stands for plain data. -/
structure Gt.Is (x : Gt) (s : Pn) : Prop where
  hold : x.hold = s.hold
  ns : x.its.map It.bare = s.ns.map itN
  ph : x.ph = s.ph
  wy : x.wy = s.wy
  last : x.last = s.last
theorem Gt.Is.len {x : Gt} {s : Pn} (h : x.Is s) : x.its.length = s.ns.length := by
  have := congrArg List.length h.ns
  rwa [List.length_map, List.length_map] at this
theorem Gt.Is.free {x : Gt} {s : Pn} (h : x.Is s) (now : Int) (y : Wy) : x.free now y ↔ s.free now y := by
  unfold Gt.free Pn.free Gt.due Pn.due
  rw [h.ph, h.wy, h.hold, h.last]
/-- The gate at b, made since w0, stands for s. -/
structure GN (w0 w : World) (b : Nat) (x : Gt) (s : Pn) : Prop where
  here : GtAt w b x
  is : x.Is s
  bel : Below w0.heap.size w0 w
  fresh : ∀ k, x.S b k → w0.heap.size ≤ k
theorem GN.act {w0 w w' : World} {b : Nat} {x x' : Gt} {s s' : Pn} (h : GN w0 w b x s) (ht : GtTo w b x x' w') (hi : x'.Is s') : GN w0 w' b x' s' :=
  ⟨ht.now, hi, h.bel.trans (ht.exc.below h.bel.size fun i _ hi => h.fresh i (.inl hi)), fun k hk => by
    rcases ht.lies k hk with h5 | h5
    · exact h.fresh k h5
    · exact Nat.le_trans h.bel.size h5⟩
theorem GN.more {w0 w w' : World} {b : Nat} {x : Gt} {s : Pn} (h : GN w0 w b x s) (hb : Below w.heap.size w w') : GN w0 w' b x s :=
  ⟨h.here.later hb, h.is, h.bel.trans (hb.mono h.bel.size), h.fresh⟩
theorem GN.drawN {w0 w : World} {b : Nat} {x : Gt} {s : Pn} (h : GN w0 w b x s) (q : Nat) : GN w0 (w.drewN q) b x s := h.more (below_draw w q)
theorem GN.start {w w' : World} {n : Int} (h : GtAt w' w.heap.size (Gt.fresh n)) (hb : Below w.heap.size w w') : GN w w' w.heap.size (Gt.fresh n) (Pn.fresh n) :=
  ⟨h, ⟨rfl, rfl, rfl, rfl, rfl⟩, hb, by
    rintro k ((rfl | hk) | ⟨y, hy, _⟩)
    · exact Nat.le_refl _
    · cases hk
    · cases hy⟩
/-- Items that are the gate's no more. -/
def Off (w : World) (b : Nat) (x : Gt) (a : Option Addr) (l : List It) : Prop := ItsIn w (fun k => k < w.heap.size ∧ ¬ x.S b k) a l
theorem ItsIn.mono {w : World} {P P' : Nat → Prop} {a : Option Addr} {l : List It} (h : ItsIn w P a l) (hp : ∀ k, P k → P' k) : ItsIn w P' a l := by
  obtain ⟨⟨g, hb, hg⟩, hr, hl⟩ := h
  exact ⟨⟨g, hb, fun k hk => hp k (hg k hk)⟩, hr, fun y hy z hz => hp _ (hl y hy z hz)⟩
theorem Off.nil (w : World) (b : Nat) (x : Gt) : Off w b x none [] := ⟨⟨none, Buf.nil _ _ _, fun k hk => (by cases hk)⟩, by simp, by simp⟩
theorem Off.act {w w' : World} {b : Nat} {x x' : Gt} {a : Option Addr} {l : List It} (h : Off w b x a l) (ht : GtTo w b x x' w') : Off w' b x' a l := by
  refine (ItsIn.exc h ht.exc (fun k hk hT => hk.2 (.inl hT))).mono fun k hk => ⟨Nat.lt_of_lt_of_le hk.1 ht.exc.size, fun hS => ?_⟩
  rcases ht.lies k hS with h5 | h5
  · exact hk.2 h5
  · have := hk.1; omega
theorem Off.more {w w' : World} {b : Nat} {x : Gt} {a : Option Addr} {l : List It} (h : Off w b x a l) (hb : Below w.heap.size w w') : Off w' b x a l :=
  (ItsIn.later h hb).mono fun _ hk => ⟨Nat.lt_of_lt_of_le hk.1 hb.size, hk.2⟩
theorem GtOut.offl {w w' : World} {b : Nat} {x x' : Gt} (hx : GtAt w b x) (h : GtOut w b x x' w') : Off w' b x' x.a x.its :=
  h.its.mono fun k hk => ⟨Nat.lt_of_lt_of_le (hx.lt k hk.1) h.act.exc.size, fun hS => hk.2 (h.off k hS)⟩
/-- Handed out: the gate's no more, but the gate's before. -/
structure Went (w : World) (b : Nat) (x x' : Gt) (a : Option Addr) (l : List It) : Prop where
  off : Off w b x' a l
  was : ItsIn w (x.S b) a l
theorem Went.nil (w : World) (b : Nat) (x x' : Gt) : Went w b x x' none [] := ⟨Off.nil _ _ _, ⟨none, Buf.nil _ _ _, fun k hk => (by cases hk)⟩, by simp, by simp⟩
theorem GtOut.went {w w' : World} {b : Nat} {x x' : Gt} (hx : GtAt w b x) (h : GtOut w b x x' w') : Went w' b x x' x.a x.its :=
  ⟨h.offl hx, h.its.mono fun _ hk => hk.1⟩
/-- What an act hands out: numbers, as items that are the gate's no more; and what the gate is then. -/
def ActOut (w0 w : World) (b : Nat) (x : Gt) (s' : Pn) (out : List Nat) (f : Value → Value) (e : Ending) (w' : World) : Prop :=
  ∃ a C x', e = .returned (f (.slice a out.length out.length)) ∧ C.map It.bare = out.map itN ∧ Went w' b x x' a C ∧ GtTo w b x x' w' ∧ GN w0 w' b x' s'
/-- What an act without items leaves. -/
def ErrOut (w0 w : World) (b : Nat) (x : Gt) (s' : Pn) (er : Int) (e : Ending) (w' : World) : Prop :=
  ∃ x', e = .returned (.int .i64 er) ∧ GtTo w b x x' w' ∧ GN w0 w' b x' s'
theorem GtTo.below {w w' : World} {b : Nat} {x : Gt} (h : GtAt w b x) (hb : Below w.heap.size w w') : GtTo w b x x w' := (GtTo.refl h).more hb
theorem bare_it (n : Nat) (s : Option Addr) : It.bare ⟨(n : Int), 5, 0, 0, 0, 0, 0, [(n : Int) % 256], s⟩ = itN n := rfl
theorem offerN (w0 : World) (b : Nat) (x : Gt) (s : Pn) (n : Nat) (g : Nat) (w : World) (h : GN w0 w b x s) (hf : s.ns.length < 60000) (hr : Row .u8 w (some ⟨g, 0, none⟩) 1 1 [(n : Int) % 256]) :
    Calls Try.prog 17 #[.pointer (some ⟨b, 0, none⟩), .agg #[.int .i64 (n : Int), .int .u8 5, .int .u8 0, .int .u8 0, .int .u16 0, .int .u16 0, .int .u8 0, .slice (some ⟨g, 0, none⟩) 1 1]] w fun e w' => ErrOut w0 w b x (s.offer n) 0 e w' := by
  refine (offer_ok b x n 5 0 0 0 0 0 _ 1 1 [(n : Int) % 256] w h.here (by rw [h.is.len]; exact hf) hr (by decide)).mono ?_
  rintro e w' ⟨rfl, s', g', a', c', ht⟩
  refine ⟨_, rfl, ht, h.act ht ⟨h.is.hold, ?_, h.is.ph, h.is.wy, h.is.last⟩⟩
  show (x.its ++ [_]).map It.bare = (s.ns ++ [n]).map itN
  rw [List.map_append, List.map_append, h.is.ns]
  rfl
theorem passN_no (w0 : World) (b : Nat) (x : Gt) (s : Pn) (now nx la lb lc : Int) (w : World) (h : GN w0 w b x s) (hf : s.ns = [] ∨ ¬ s.free now ⟨nx, la, lb, lc⟩) :
    Calls Try.prog 20 #[.pointer (some ⟨b, 0, none⟩), .int .i64 now, .agg #[.int .u16 nx, .int .u16 la, .int .u16 lb, .int .u8 lc]] w fun e w' => ActOut w0 w b x s [] id e w' := by
  have key : ∀ e w', (e = .returned (.slice none 0 0) ∧ Below w.heap.size w w') → ActOut w0 w b x s [] id e w' := by
    rintro e w' ⟨rfl, hb⟩
    exact ⟨none, [], x, rfl, rfl, Went.nil _ _ _ _, GtTo.below h.here hb, h.more hb⟩
  by_cases hn : x.its = []
  · exact (pass_none b x now nx la lb lc w h.here hn).mono key
  · refine (pass_no b x now nx la lb lc w h.here hn ?_).mono key
    rw [h.is.free]
    rcases hf with h0 | h0
    · have := h.is.len
      rw [h0] at this
      exact absurd (List.eq_nil_of_length_eq_zero this) hn
    · exact h0
theorem passN_ok (w0 : World) (b : Nat) (x : Gt) (s : Pn) (now nx la lb lc : Int) (w : World) (h : GN w0 w b x s) (hn : s.ns ≠ []) (hf : s.free now ⟨nx, la, lb, lc⟩) (hw : -9223372036854775808 ≤ now ∧ now ≤ 9223372036854775807) :
    Calls Try.prog 20 #[.pointer (some ⟨b, 0, none⟩), .int .i64 now, .agg #[.int .u16 nx, .int .u16 la, .int .u16 lb, .int .u8 lc]] w fun e w' => ActOut w0 w b x (s.went now ⟨nx, la, lb, lc⟩) s.ns id e w' := by
  have hl := h.is.len
  refine (pass_ok b x now nx la lb lc w h.here (fun h0 => hn (List.eq_nil_of_length_eq_zero (by rw [← hl, h0]; rfl))) ((h.is.free _ _).2 hf) hw).mono ?_
  rintro e w' ⟨rfl, ho⟩
  exact ⟨x.a, x.its, _, by rw [hl]; rfl, h.is.ns, ho.went h.here, ho.act, h.act ho.act ⟨h.is.hold, rfl, rfl, rfl, rfl⟩⟩
theorem flushN (w0 : World) (b : Nat) (x : Gt) (s : Pn) (w : World) (h : GN w0 w b x s) :
    Calls Try.prog 23 #[.pointer (some ⟨b, 0, none⟩)] w fun e w' => ActOut w0 w b x s.flushed s.ns id e w' := by
  refine (flush_any b x w h.here).mono ?_
  rintro e w' ⟨rfl, ho⟩
  exact ⟨x.a, x.its, _, by rw [h.is.len]; rfl, h.is.ns, ho.went h.here, ho.act, h.act ho.act ⟨h.is.hold, rfl, h.is.ph, h.is.wy, h.is.last⟩⟩
theorem cutN_ok (w0 : World) (b : Nat) (x : Gt) (s : Pn) (w : World) (h : GN w0 w b x s) (h1 : s.ph ≠ 1) (h3 : s.ph ≠ 3) :
    Calls Try.prog 21 #[.pointer (some ⟨b, 0, none⟩)] w fun e w' => ErrOut w0 w b x s.cut 0 e w' := by
  refine (cut_ok b x w h.here (by rw [h.is.ph]; exact h1) (by rw [h.is.ph]; exact h3)).mono ?_
  rintro e w' ⟨rfl, ht⟩
  exact ⟨_, rfl, ht, h.act ht ⟨h.is.hold, h.is.ns, rfl, h.is.wy, h.is.last⟩⟩
theorem cutN_bad (w0 : World) (b : Nat) (x : Gt) (s : Pn) (w : World) (h : GN w0 w b x s) (h1 : s.ph = 1 ∨ s.ph = 3) :
    Calls Try.prog 21 #[.pointer (some ⟨b, 0, none⟩)] w fun e w' => ErrOut w0 w b x s 6 e w' := by
  refine (cut_bad b x w h.here (by rw [h.is.ph]; exact h1)).mono ?_
  rintro e w' ⟨rfl, q, rfl⟩
  exact ⟨_, rfl, GtTo.below h.here (below_draw w q), h.drawN q⟩
theorem returnN_bad (w0 : World) (b : Nat) (x : Gt) (s : Pn) (a : Option Addr) (n c : Nat) (w : World) (h : GN w0 w b x s) (h3 : s.ph ≠ 3) :
    Calls Try.prog 22 #[.pointer (some ⟨b, 0, none⟩), .slice a n c] w fun e w' => ErrOut w0 w b x s 6 e w' := by
  refine (return_bad b x a n c w h.here (by rw [h.is.ph]; exact h3)).mono ?_
  rintro e w' ⟨rfl, q, rfl⟩
  exact ⟨_, rfl, GtTo.below h.here (below_draw w q), h.drawN q⟩
theorem returnN (w0 : World) (b : Nat) (x : Gt) (s : Pn) (a : Option Addr) (n c : Nat) (l : List Nat) (L : List It) (cp : Nat → Nat) (w : World) (h : GN w0 w b x s) (h3 : s.ph = 3) (hA : ArgIts w a n L cp) (hL : L.map It.bare = l.map itN) (hf : n + s.ns.length ≤ 60000) :
    Calls Try.prog 22 #[.pointer (some ⟨b, 0, none⟩), .slice a n c] w fun e w' => ErrOut w0 w b x (s.back l) 0 e w' := by
  refine (return_ok b x a n c x.its.length L cp w h.here (by rw [h.is.ph]; exact h3) hA rfl (by rw [h.is.len]; exact hf)).mono ?_
  rintro e w' ⟨rfl, C, g', a', c', hC, ht⟩
  refine ⟨_, rfl, ht, h.act ht ⟨h.is.hold, ?_, rfl, h.is.wy, h.is.last⟩⟩
  show (C ++ x.its).map It.bare = (l ++ s.ns).map itN
  rw [List.map_append, List.map_append, h.is.ns, hC, hL]
/-- The statements' item. -/
def ItemOut (w : World) (n : Nat) (e : Ending) (w' : World) : Prop :=
  ∃ g, e = .returned (.agg #[.int .i64 (n : Int), .int .u8 5, .int .u8 0, .int .u8 0, .int .u16 0, .int .u16 0, .int .u8 0, .slice (some ⟨g, 0, none⟩) 1 1]) ∧ Row .u8 w' (some ⟨g, 0, none⟩) 1 1 [(n : Int) % 256] ∧ w.heap.size ≤ g ∧ Below w.heap.size w w'
set_option maxHeartbeats 2000000 in
set_option maxRecDepth 100000 in
theorem item_any (n : Nat) (w : World) (hn : n ≤ 60000) : Calls Try.prog 18 #[.int .i64 (n : Int)] w fun e w' => ItemOut w n e w' := by
  have h0 : (0 : Int) ≤ (n : Int) := by omega
  have h1 : (n : Int) ≤ 60000 := by omega
  go_enter Try.func18, Try.ntmps18
  go_wp2
  refine bodyPost_ret (v := .agg #[.int .i64 (n : Int), .int .u8 5, .int .u8 0, .int .u8 0, .int .u16 0, .int .u16 0, .int .u8 0, .slice (some ⟨w.heap.size + 1, 0, none⟩) 1 1]) (by simp [results, Try.results18, go_sem]) rfl ?_
  refine ⟨w.heap.size + 1, rfl, ?_, Nat.le_succ _, (below_alloc _ _).trans ((below_alloc _ _).mono (by simp))⟩
  have h2 := row_lit .u8 (w.alloc (.cells #[.int .i64 (n : Int), .int .u8 5, .int .u8 0, .int .u8 0, .int .u16 0, .int .u16 0, .int .u8 0, .slice (some ⟨w.heap.size + 1, 0, none⟩) 1 1] 56)) 5 [(n : Int) % 256] 1 rfl (by decide) (fun x hx => by
    simp only [List.mem_cons, List.not_mem_nil, or_false] at hx
    subst hx
    exact wf_u8.2 (by omega))
  rw [World.size_alloc] at h2
  exact h2
/-- The statements' way. -/
def wayN (n : Int) : Wy := ⟨1 + n % 3, 0, 1 + n % 3, n / 3 % 2⟩
set_option maxHeartbeats 2000000 in
set_option maxRecDepth 100000 in
theorem wayN_any (n : Int) (w : World) (h0 : 0 ≤ n) (h1 : n ≤ 255) : Calls Try.prog 19 #[.int .u8 n] w fun e w' => e = .returned (.agg #[.int .u16 (1 + n % 3), .int .u16 0, .int .u16 (1 + n % 3), .int .u8 (n / 3 % 2)]) ∧ Below w.heap.size w w' := by
  have e1 : Int.tmod n 3 = n % 3 := Int.tmod_eq_emod_of_nonneg h0
  have e2 : Int.tdiv n 3 = n / 3 := Int.tdiv_eq_ediv_of_nonneg h0
  have e3 : Int.tmod (n / 3) 2 = n / 3 % 2 := Int.tmod_eq_emod_of_nonneg (by omega)
  obtain ⟨r, hr⟩ : ∃ r, r = n % 3 := ⟨_, rfl⟩
  obtain ⟨d, hd⟩ : ∃ d, d = n / 3 := ⟨_, rfl⟩
  obtain ⟨z, hz⟩ : ∃ z, z = d % 2 := ⟨_, rfl⟩
  rw [← hd] at e2 e3 ⊢
  rw [← hr] at e1 ⊢
  rw [← hz] at e3 ⊢
  have r0 : 0 ≤ r := by omega
  have r2 : r ≤ 2 := by omega
  have d0 : 0 ≤ d := by omega
  have d1 : d ≤ 85 := by omega
  have z0 : 0 ≤ z := by omega
  have z1 : z ≤ 1 := by omega
  clear hr hd hz
  go_enter Try.func19, Try.ntmps19
  go_wp2
  refine bodyPost_ret (v := .agg #[.int .u16 (1 + r), .int .u16 0, .int .u16 (1 + r), .int .u8 z]) (by simp [results, Try.results19, go_sem]) rfl ⟨rfl, ?_⟩
  exact (below_alloc w (.cells #[.int .u16 (1 + r), .int .u16 0, .int .u16 (1 + r), .int .u8 z] 34))
theorem numsD {C : List It} {ns : List Nat} (h : C.map It.bare = ns.map itN) {i : Nat} (hi : i < ns.length) : (C.getD i It.none).bare = itN (ns.getD i 0) := by
  have hl : C.length = ns.length := by have := congrArg List.length h; rwa [List.length_map, List.length_map] at this
  have h2 := congrArg (fun l => l[i]?) h
  simp only [List.getElem?_map] at h2
  rw [List.getElem?_eq_getElem (by omega), List.getElem?_eq_getElem hi] at h2
  simp only [List.getD_eq_getElem?_getD, List.getElem?_eq_getElem hi, List.getElem?_eq_getElem (show i < C.length by omega)]
  exact Option.some.inj h2
set_option maxHeartbeats 4000000 in
set_option maxRecDepth 100000 in
theorem list_yes (w : World) (P : Nat → Prop) (a a2 : Option Addr) (C : List It) (ns : List Nat) (M c2 : Nat) (h : ItsIn w P a C) (hC : C.map It.bare = ns.map itN) (hM : ns.length = M) (hn : ∀ n ∈ ns, n ≤ 60000) (hr : Row .i64 w a2 M c2 (ns.map (fun n : Nat => (n : Int)))) (hM2 : M ≤ 60000) :
    Calls Try.prog 14 #[.slice a M M, .slice a2 M c2] w fun e w' => e = .returned (.bool true) ∧ ∃ q, w' = w.drewN q := by
  have q1 : ((M : Int) != (M : Int)) = false := by simp
  have hl : C.length = M := by have := congrArg List.length hC; rw [List.length_map, List.length_map] at this; omega
  have H := Lib.hid h
  have HC := Lib.hid hC
  have HM := Lib.hid hM
  have HL := Lib.hid hl
  have HN := Lib.hid hn
  have HR := Lib.hid hr
  clear h hC hM hn hr hl
  go_enter Try.func14, Try.ntmps14
  go_wp2_with fail
  go_loopw [5] (fun kv wr => ∃ k : Nat, k ≤ M ∧ kv = .int .i64 k ∧ ∃ q, wr = w.drewN q) (fun kv _ => M - (intOf kv).toNat)
  case atStart => exact ⟨0, Nat.zero_le _, rfl, 0, rfl⟩
  case round =>
    obtain ⟨k, hk, rfl, q, rfl⟩ := hrel
    by_cases hkn : k < M
    · obtain ⟨b, o, rfl, c0, c1, c2', c3, c4, c5, c6, c7, hr⟩ := H.out.at It.none (by rw [HL.out]; exact hkn)
      obtain ⟨b2, o2, rfl, hc2⟩ := HR.out.cells.resolve_left (by omega)
      have d0 := hc2 k hkn
      have hy := numsD HC.out (i := k) (by rw [HM.out]; exact hkn)
      have hkm : k < ns.length := by rw [HM.out]; exact hkn
      have hmem : ns.getD k 0 ∈ ns := by rw [List.getD_eq_getElem?_getD, List.getElem?_eq_getElem hkm]; exact List.getElem_mem hkm
      have hle := HN.out _ hmem
      have eD : (ns.map (fun n : Nat => (n : Int))).getD k 0 = ((ns.getD k 0 : Nat) : Int) := by simp [List.getD_eq_getElem?_getD, List.getElem?_map, List.getElem?_eq_getElem hkm]
      rw [eD] at d0
      generalize C.getD k It.none = y at c0 c1 c2' c3 c4 c5 c6 c7 hr hy
      generalize ns.getD k 0 = N at hy hle d0
      obtain ⟨e1, e2, e3, e4, e5, e6, e7, e8⟩ : y.num = N ∧ y.sv = 5 ∧ y.nw = 0 ∧ y.pr = 0 ∧ y.tp = 0 ∧ y.fr = 0 ∧ y.sl = 0 ∧ y.dat = [(N : Int) % 256] := by
        cases y; simp only [It.bare, itN, It.mk.injEq] at hy; simp [hy]
      rw [e1] at c0
      rw [e8] at c7 hr
      simp only [List.length_cons, List.length_nil, Nat.zero_add] at c7 hr
      obtain ⟨b3, o3, hloc, hc3⟩ := hr.cells.resolve_left (by decide)
      rw [hloc] at c7
      have d3 := hc3 0 (by decide)
      simp only [List.getD_cons_zero, Nat.add_zero] at d3
      have g1 : ((N : Int) != (N : Int)) = false := by simp
      have g2 : ((N : Int) % 256 != (N : Int) % 256) = false := by simp
      have g3 : IntKind.u8.wrap (N : Int) = (N : Int) % 256 := IntKind.wrap_u8 _
      have hkM : (k : Int) < (M : Int) := by omega
      have hk0 : (0 : Int) ≤ (k : Int) := by omega
      have HY := Lib.hid hy
      clear hr hc2 hc3 hy hloc e1 e2 e3 e4 e5 e6 e7 e8 hmem eD hkm c1 c2' c3 c4 c5 c6
      go_wp2_with fail
      go_quiet (fail)
      go_wp2
      exact ⟨⟨k + 1, by omega, by go_num, _, rfl⟩, by simp [intOf]; omega⟩
    · obtain rfl : k = M := by omega
      go_wp2
      go_ret
      exact ⟨rfl, q, rfl⟩
end Go.Proofs.Ytnkpmjkbkdnfjaa
