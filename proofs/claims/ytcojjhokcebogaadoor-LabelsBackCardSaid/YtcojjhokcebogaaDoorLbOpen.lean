/- Links, messages and the statements' own structs by value, opened. -/
import Derived.Test.YtcojjhokcebogaaDoorLbLink
import Derived.Deep.Fields
import Derived.ProofKit
import Derived.OpenShut
import Derived.ChangeSame
import Derived.LaidMore
import Derived.Stop.Joined
namespace Go.Proofs.YtcojjhokcebogaaDoor
open Go.ChangeShapes Go.WideShapes Go.ChangeAt Go.WideMaps Go.WideElems Go.RowKit Go.Deep

theorem cell_u8 : Tryd.prog.cellsOf 5 = 1 := by kernel_rfl
theorem cell_u16 : Tryd.prog.cellsOf 22 = 1 := by kernel_rfl
theorem cell_pt : Tryd.prog.cellsOf 23 = 1 := by kernel_rfl
theorem cell_sl : Tryd.prog.cellsOf 36 = 1 := by kernel_rfl
theorem cell_lb : Tryd.prog.cellsOf 35 = 3 := by kernel_rfl
theorem cell_lk : Tryd.prog.cellsOf 54 = 3 := by kernel_rfl
theorem bytes_open {H : Type} {enc : TypeId × Value → H} {W : World} {base : Nat} {held : Bool} {fuel : Nat} {v : Value} {x : DataW H × List MemPlace}
    (h : DataW.trod enc Tryd.prog W base (fun _ => true) held fuel 36 [v] = some x) : ∃ s n c l, v = .slice s n c ∧ Row .u8 W s n c l := by
  rcases open_ints Tryd.underlying36 Tryd.underlying5 (by kernel_rfl) h with ⟨hcs, _⟩ | ⟨x, l, c, zs, hcs, _, hl, hm, hz, _, hcell, hwz⟩
  · simp at hcs
    exact ⟨none, 0, 0, [], hcs, Row.of_nil _ _⟩
  · simp at hcs
    exact ⟨_, _, _, _, hcs, Row.of_open (.inr ⟨_, rfl, hl, hm, by simpa using hz, hcell, hwz⟩)⟩
set_option maxRecDepth 100000 in
theorem label_cells {H : Type} {enc : TypeId × Value → H} {W : World} {base fuel : Nat} {held : Bool} {l : List Value} {x : DataW H × List MemPlace} (hl : l.length = 3)
    (h : DataW.trod enc Tryd.prog W base (fun _ => true) held fuel 35 l = some x) :
    ∃ (a0 a1 a2 : Int), l = [.int .u16 a0, .int .u16 a1, .int .u8 a2] ∧ (Lit.int .u16 a0).wf = true ∧ (Lit.int .u16 a1).wf = true ∧ (Lit.int .u8 a2).wf = true := by
  match l, hl with
  | [c0, c1, c2], _ =>
    obtain ⟨xs, n, _, hx, _, hlen, hg⟩ := DataW.trod_struct Tryd.underlying35 h
    match xs, hlen with
    | [y0, y1, y2], _ =>
      have t0 : DataW.trod enc Tryd.prog W base (fun _ => true) held n 23 [c0] = some y0 := by simpa [cell_pt] using hg 0 _ rfl
      obtain ⟨a0, e0, _, w0⟩ := DataW.trod_int Tryd.underlying23 t0
      simp at e0
      subst e0
      have t1 : DataW.trod enc Tryd.prog W base (fun _ => true) held n 23 [c1] = some y1 := by simpa [cell_pt] using hg 1 _ rfl
      obtain ⟨a1, e1, _, w1⟩ := DataW.trod_int Tryd.underlying23 t1
      simp at e1
      subst e1
      have t2 : DataW.trod enc Tryd.prog W base (fun _ => true) held n 5 [c2] = some y2 := by simpa [cell_u8] using hg 2 _ rfl
      obtain ⟨a2, e2, _, w2⟩ := DataW.trod_int Tryd.underlying5 t2
      simp at e2
      subst e2
      exact ⟨a0, a1, a2, rfl, w0, w1, w2⟩
set_option maxRecDepth 100000 in
theorem label_open {H : Type} {enc : TypeId × Value → H} {W : World} {base b0 : Nat} {held : Bool} {v : Value} {d : DataW H} {p : List MemPlace}
    (hv : Value.okWide Tryd.prog W .any b0 35 v) (h : DataW.Trod enc Tryd.prog W base (fun _ => true) held 35 v d p) :
    ∃ (a0 a1 a2 : Int), v = .agg #[.int .u16 a0, .int .u16 a1, .int .u8 a2] ∧ (Lit.int .u16 a0).wf = true ∧ (Lit.int .u16 a1).wf = true ∧ (Lit.int .u8 a2).wf = true := by
  obtain ⟨cs, rfl, hsz⟩ := okWide_struct Tryd.underlying35 hv
  obtain ⟨l⟩ := cs
  obtain ⟨fuel, hf⟩ := h
  obtain ⟨a0, a1, a2, e, h⟩ := label_cells (l := l) (hsz.trans (by kernel_rfl)) hf
  subst e
  exact ⟨a0, a1, a2, rfl, h⟩
set_option maxRecDepth 100000 in
theorem msg_cells {H : Type} {enc : TypeId × Value → H} {W : World} {base fuel : Nat} {held : Bool} {l : List Value} {x : DataW H × List MemPlace} (hl : l.length = 7)
    (h : DataW.trod enc Tryd.prog W base (fun _ => true) held fuel 38 l = some x) :
    ∃ (a0 a1 a2 a3 a4 a5 : Int) (s : Option Addr) (m c : Nat) (r : List Int), l = [.int .u8 a0, .int .u8 a1, .int .u8 a2, .int .u16 a3, .int .u16 a4, .int .u8 a5, .slice s m c] ∧ (Lit.int .u8 a0).wf = true ∧ (Lit.int .u8 a1).wf = true ∧ (Lit.int .u8 a2).wf = true ∧ (Lit.int .u16 a3).wf = true ∧ (Lit.int .u16 a4).wf = true ∧ (Lit.int .u8 a5).wf = true ∧ Row .u8 W s m c r := by
  match l, hl with
  | [c0, c1, c2, c3, c4, c5, c6], _ =>
    obtain ⟨xs, n, _, hx, _, hlen, hg⟩ := DataW.trod_struct Tryd.underlying38 h
    match xs, hlen with
    | [y0, y1, y2, y3, y4], _ =>
      have t0 : DataW.trod enc Tryd.prog W base (fun _ => true) held n 5 [c0] = some y0 := by simpa [cell_u8] using hg 0 _ rfl
      obtain ⟨a0, e0, _, w0⟩ := DataW.trod_int Tryd.underlying5 t0
      simp at e0
      subst e0
      have t1 : DataW.trod enc Tryd.prog W base (fun _ => true) held n 5 [c1] = some y1 := by simpa [cell_u8] using hg 1 _ rfl
      obtain ⟨a1, e1, _, w1⟩ := DataW.trod_int Tryd.underlying5 t1
      simp at e1
      subst e1
      have t2 : DataW.trod enc Tryd.prog W base (fun _ => true) held n 5 [c2] = some y2 := by simpa [cell_u8] using hg 2 _ rfl
      obtain ⟨a2, e2, _, w2⟩ := DataW.trod_int Tryd.underlying5 t2
      simp at e2
      subst e2
      have t3 : DataW.trod enc Tryd.prog W base (fun _ => true) held n 35 [c3, c4, c5] = some y3 := by simpa [cell_lb] using hg 3 _ rfl
      obtain ⟨a3, a4, a5, e3, w3, w4, w5⟩ := label_cells rfl t3
      simp at e3
      obtain ⟨rfl, rfl, rfl⟩ := e3
      have t4 : DataW.trod enc Tryd.prog W base (fun _ => true) held n 36 [c6] = some y4 := by simpa [cell_sl] using hg 4 _ rfl
      obtain ⟨s, m, c, r, rfl, hr⟩ := bytes_open t4
      exact ⟨a0, a1, a2, a3, a4, a5, s, m, c, r, rfl, w0, w1, w2, w3, w4, w5, hr⟩
set_option maxRecDepth 100000 in
theorem msg_open {H : Type} {enc : TypeId × Value → H} {W : World} {base b0 : Nat} {held : Bool} {v : Value} {d : DataW H} {p : List MemPlace}
    (hv : Value.okWide Tryd.prog W .any b0 38 v) (h : DataW.Trod enc Tryd.prog W base (fun _ => true) held 38 v d p) :
    ∃ (a0 a1 a2 a3 a4 a5 : Int) (s : Option Addr) (m c : Nat) (r : List Int), v = .agg #[.int .u8 a0, .int .u8 a1, .int .u8 a2, .int .u16 a3, .int .u16 a4, .int .u8 a5, .slice s m c] ∧ (Lit.int .u8 a0).wf = true ∧ (Lit.int .u8 a1).wf = true ∧ (Lit.int .u8 a2).wf = true ∧ (Lit.int .u16 a3).wf = true ∧ (Lit.int .u16 a4).wf = true ∧ (Lit.int .u8 a5).wf = true ∧ Row .u8 W s m c r := by
  obtain ⟨cs, rfl, hsz⟩ := okWide_struct Tryd.underlying38 hv
  obtain ⟨l⟩ := cs
  obtain ⟨fuel, hf⟩ := h
  obtain ⟨a0, a1, a2, a3, a4, a5, s, m, c, r, e, h⟩ := msg_cells (l := l) (hsz.trans (by kernel_rfl)) hf
  subst e
  exact ⟨a0, a1, a2, a3, a4, a5, s, m, c, r, rfl, h⟩
set_option maxRecDepth 100000 in
theorem link_cells {H : Type} {enc : TypeId × Value → H} {W : World} {base fuel : Nat} {held : Bool} {l : List Value} {x : DataW H × List MemPlace} (hl : l.length = 3)
    (h : DataW.trod enc Tryd.prog W base (fun _ => true) held fuel 54 l = some x) :
    ∃ (a0 a1 a2 : Int), l = [.int .u16 a0, .int .u16 a1, .int .u8 a2] ∧ (Lit.int .u16 a0).wf = true ∧ (Lit.int .u16 a1).wf = true ∧ (Lit.int .u8 a2).wf = true := by
  match l, hl with
  | [c0, c1, c2], _ =>
    obtain ⟨xs, n, _, hx, _, hlen, hg⟩ := DataW.trod_struct Tryd.underlying54 h
    match xs, hlen with
    | [y0, y1, y2], _ =>
      have t0 : DataW.trod enc Tryd.prog W base (fun _ => true) held n 23 [c0] = some y0 := by simpa [cell_pt] using hg 0 _ rfl
      obtain ⟨a0, e0, _, w0⟩ := DataW.trod_int Tryd.underlying23 t0
      simp at e0
      subst e0
      have t1 : DataW.trod enc Tryd.prog W base (fun _ => true) held n 23 [c1] = some y1 := by simpa [cell_pt] using hg 1 _ rfl
      obtain ⟨a1, e1, _, w1⟩ := DataW.trod_int Tryd.underlying23 t1
      simp at e1
      subst e1
      have t2 : DataW.trod enc Tryd.prog W base (fun _ => true) held n 5 [c2] = some y2 := by simpa [cell_u8] using hg 2 _ rfl
      obtain ⟨a2, e2, _, w2⟩ := DataW.trod_int Tryd.underlying5 t2
      simp at e2
      subst e2
      exact ⟨a0, a1, a2, rfl, w0, w1, w2⟩
set_option maxRecDepth 100000 in
theorem link_open {H : Type} {enc : TypeId × Value → H} {W : World} {base b0 : Nat} {held : Bool} {v : Value} {d : DataW H} {p : List MemPlace}
    (hv : Value.okWide Tryd.prog W .any b0 54 v) (h : DataW.Trod enc Tryd.prog W base (fun _ => true) held 54 v d p) :
    ∃ (a0 a1 a2 : Int), v = .agg #[.int .u16 a0, .int .u16 a1, .int .u8 a2] ∧ (Lit.int .u16 a0).wf = true ∧ (Lit.int .u16 a1).wf = true ∧ (Lit.int .u8 a2).wf = true := by
  obtain ⟨cs, rfl, hsz⟩ := okWide_struct Tryd.underlying54 hv
  obtain ⟨l⟩ := cs
  obtain ⟨fuel, hf⟩ := h
  obtain ⟨a0, a1, a2, e, h⟩ := link_cells (l := l) (hsz.trans (by kernel_rfl)) hf
  subst e
  exact ⟨a0, a1, a2, rfl, h⟩
set_option maxRecDepth 100000 in
theorem ends_cells {H : Type} {enc : TypeId × Value → H} {W : World} {base fuel : Nat} {held : Bool} {l : List Value} {x : DataW H × List MemPlace} (hl : l.length = 5)
    (h : DataW.trod enc Tryd.prog W base (fun _ => true) held fuel 56 l = some x) :
    ∃ (a0 a1 a2 a3 a4 : Int), l = [.int .u8 a0, .int .u16 a1, .int .u16 a2, .int .u16 a3, .int .u8 a4] ∧ (Lit.int .u8 a0).wf = true ∧ (Lit.int .u16 a1).wf = true ∧ (Lit.int .u16 a2).wf = true ∧ (Lit.int .u16 a3).wf = true ∧ (Lit.int .u8 a4).wf = true := by
  match l, hl with
  | [c0, c1, c2, c3, c4], _ =>
    obtain ⟨xs, n, _, hx, _, hlen, hg⟩ := DataW.trod_struct Tryd.underlying56 h
    match xs, hlen with
    | [y0, y1, y2], _ =>
      have t0 : DataW.trod enc Tryd.prog W base (fun _ => true) held n 5 [c0] = some y0 := by simpa [cell_u8] using hg 0 _ rfl
      obtain ⟨a0, e0, _, w0⟩ := DataW.trod_int Tryd.underlying5 t0
      simp at e0
      subst e0
      have t1 : DataW.trod enc Tryd.prog W base (fun _ => true) held n 23 [c1] = some y1 := by simpa [cell_pt] using hg 1 _ rfl
      obtain ⟨a1, e1, _, w1⟩ := DataW.trod_int Tryd.underlying23 t1
      simp at e1
      subst e1
      have t2 : DataW.trod enc Tryd.prog W base (fun _ => true) held n 54 [c2, c3, c4] = some y2 := by simpa [cell_lk] using hg 2 _ rfl
      obtain ⟨a2, a3, a4, e2, w2, w3, w4⟩ := link_cells rfl t2
      simp at e2
      obtain ⟨rfl, rfl, rfl⟩ := e2
      exact ⟨a0, a1, a2, a3, a4, rfl, w0, w1, w2, w3, w4⟩
set_option maxRecDepth 100000 in
theorem ends_open {H : Type} {enc : TypeId × Value → H} {W : World} {base b0 : Nat} {held : Bool} {v : Value} {d : DataW H} {p : List MemPlace}
    (hv : Value.okWide Tryd.prog W .any b0 56 v) (h : DataW.Trod enc Tryd.prog W base (fun _ => true) held 56 v d p) :
    ∃ (a0 a1 a2 a3 a4 : Int), v = .agg #[.int .u8 a0, .int .u16 a1, .int .u16 a2, .int .u16 a3, .int .u8 a4] ∧ (Lit.int .u8 a0).wf = true ∧ (Lit.int .u16 a1).wf = true ∧ (Lit.int .u16 a2).wf = true ∧ (Lit.int .u16 a3).wf = true ∧ (Lit.int .u8 a4).wf = true := by
  obtain ⟨cs, rfl, hsz⟩ := okWide_struct Tryd.underlying56 hv
  obtain ⟨l⟩ := cs
  obtain ⟨fuel, hf⟩ := h
  obtain ⟨a0, a1, a2, a3, a4, e, h⟩ := ends_cells (l := l) (hsz.trans (by kernel_rfl)) hf
  subst e
  exact ⟨a0, a1, a2, a3, a4, rfl, h⟩
set_option maxRecDepth 100000 in
theorem mlaw_cells {H : Type} {enc : TypeId × Value → H} {W : World} {base fuel : Nat} {held : Bool} {l : List Value} {x : DataW H × List MemPlace} (hl : l.length = 7)
    (h : DataW.trod enc Tryd.prog W base (fun _ => true) held fuel 44 l = some x) :
    ∃ (a0 a1 a2 a3 a4 a5 : Int) (s : Option Addr) (m c : Nat) (r : List Int), l = [.int .u8 a0, .int .u8 a1, .int .u8 a2, .int .u16 a3, .int .u16 a4, .int .u8 a5, .slice s m c] ∧ (Lit.int .u8 a0).wf = true ∧ (Lit.int .u8 a1).wf = true ∧ (Lit.int .u8 a2).wf = true ∧ (Lit.int .u16 a3).wf = true ∧ (Lit.int .u16 a4).wf = true ∧ (Lit.int .u8 a5).wf = true ∧ Row .u8 W s m c r := by
  match l, hl with
  | [c0, c1, c2, c3, c4, c5, c6], _ =>
    obtain ⟨xs, n, _, hx, _, hlen, hg⟩ := DataW.trod_struct Tryd.underlying44 h
    match xs, hlen with
    | [y0, y1, y2, y3, y4, y5, y6], _ =>
      have t0 : DataW.trod enc Tryd.prog W base (fun _ => true) held n 5 [c0] = some y0 := by simpa [cell_u8] using hg 0 _ rfl
      obtain ⟨a0, e0, _, w0⟩ := DataW.trod_int Tryd.underlying5 t0
      simp at e0
      subst e0
      have t1 : DataW.trod enc Tryd.prog W base (fun _ => true) held n 5 [c1] = some y1 := by simpa [cell_u8] using hg 1 _ rfl
      obtain ⟨a1, e1, _, w1⟩ := DataW.trod_int Tryd.underlying5 t1
      simp at e1
      subst e1
      have t2 : DataW.trod enc Tryd.prog W base (fun _ => true) held n 5 [c2] = some y2 := by simpa [cell_u8] using hg 2 _ rfl
      obtain ⟨a2, e2, _, w2⟩ := DataW.trod_int Tryd.underlying5 t2
      simp at e2
      subst e2
      have t3 : DataW.trod enc Tryd.prog W base (fun _ => true) held n 22 [c3] = some y3 := by simpa [cell_u16] using hg 3 _ rfl
      obtain ⟨a3, e3, _, w3⟩ := DataW.trod_int Tryd.underlying22 t3
      simp at e3
      subst e3
      have t4 : DataW.trod enc Tryd.prog W base (fun _ => true) held n 22 [c4] = some y4 := by simpa [cell_u16] using hg 4 _ rfl
      obtain ⟨a4, e4, _, w4⟩ := DataW.trod_int Tryd.underlying22 t4
      simp at e4
      subst e4
      have t5 : DataW.trod enc Tryd.prog W base (fun _ => true) held n 5 [c5] = some y5 := by simpa [cell_u8] using hg 5 _ rfl
      obtain ⟨a5, e5, _, w5⟩ := DataW.trod_int Tryd.underlying5 t5
      simp at e5
      subst e5
      have t6 : DataW.trod enc Tryd.prog W base (fun _ => true) held n 36 [c6] = some y6 := by simpa [cell_sl] using hg 6 _ rfl
      obtain ⟨s, m, c, r, rfl, hr⟩ := bytes_open t6
      exact ⟨a0, a1, a2, a3, a4, a5, s, m, c, r, rfl, w0, w1, w2, w3, w4, w5, hr⟩
set_option maxRecDepth 100000 in
theorem mlaw_open {H : Type} {enc : TypeId × Value → H} {W : World} {base b0 : Nat} {held : Bool} {v : Value} {d : DataW H} {p : List MemPlace}
    (hv : Value.okWide Tryd.prog W .any b0 44 v) (h : DataW.Trod enc Tryd.prog W base (fun _ => true) held 44 v d p) :
    ∃ (a0 a1 a2 a3 a4 a5 : Int) (s : Option Addr) (m c : Nat) (r : List Int), v = .agg #[.int .u8 a0, .int .u8 a1, .int .u8 a2, .int .u16 a3, .int .u16 a4, .int .u8 a5, .slice s m c] ∧ (Lit.int .u8 a0).wf = true ∧ (Lit.int .u8 a1).wf = true ∧ (Lit.int .u8 a2).wf = true ∧ (Lit.int .u16 a3).wf = true ∧ (Lit.int .u16 a4).wf = true ∧ (Lit.int .u8 a5).wf = true ∧ Row .u8 W s m c r := by
  obtain ⟨cs, rfl, hsz⟩ := okWide_struct Tryd.underlying44 hv
  obtain ⟨l⟩ := cs
  obtain ⟨fuel, hf⟩ := h
  obtain ⟨a0, a1, a2, a3, a4, a5, s, m, c, r, e, h⟩ := mlaw_cells (l := l) (hsz.trans (by kernel_rfl)) hf
  subst e
  exact ⟨a0, a1, a2, a3, a4, a5, s, m, c, r, rfl, h⟩
end Go.Proofs.YtcojjhokcebogaaDoor
