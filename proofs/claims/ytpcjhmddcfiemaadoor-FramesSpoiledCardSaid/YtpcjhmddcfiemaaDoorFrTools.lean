/- What the walks of the statements share: facts carried over a scanner's calls. -/
import Derived.Test.YtpcjhmddcfiemaaDoorFrLives
namespace Go.Proofs.YtpcjhmddcfiemaaDoor
open Go.RowKit

theorem Below.excB {B : Nat} {w w' : World} (h : Below B w w') : Exc (fun k => B ≤ k) w w' := ⟨h.os, h.tape, h.output, h.size, fun k _ hk => h.block k (by omega)⟩
theorem Row.laterB {k : IntKind} {w w' : World} {a : Option Addr} {n c : Nat} {l : List Int} (h : Row k w a n c l) {B : Nat} (hb : Below B w w') (hlt : ∀ z, a = some z → z.block < B) : Row k w' a n c l :=
  h.exc (Below.excB hb) fun x hx => by have := hlt x hx; omega
theorem Mat.laterB {P : Nat → Prop} {T : Bool} {w w' : World} {a : Option Addr} {n c : Nat} {L : List (List Int)} (h : Mat w P T a n c L) {B : Nat} (hb : Below B w w') (hlt : ∀ k, P k → k < B) : Mat w' P T a n c L :=
  h.exc (Below.excB hb) fun k hk => by have := hlt k hk; omega
theorem FlagOk.laterB {w w' : World} (h : FlagOk w) {B : Nat} (hb : Below B w w') (hB : 0 < B) : FlagOk w' := h.exc (Below.excB hb) (by omega)
theorem Mat.weakLt {P : Nat → Prop} {T : Bool} {w : World} {a : Option Addr} {n c : Nat} {L : List (List Int)} (h : Mat w P T a n c L) (hne : ∀ l ∈ L, l ≠ []) : Mat w (fun j => P j ∧ j < w.heap.size) T a n c L := by
  refine ⟨h.len, h.le, h.max, ?_, h.isNil⟩
  rcases h.cells with h0 | ⟨b, off, ha, hpb, hc⟩
  · exact .inl h0
  · by_cases hn : n = 0
    · exact .inl hn
    · refine .inr ⟨b, off, ha, ⟨hpb, ?_⟩, fun i hi => ?_⟩
      · obtain ⟨v, hv, _⟩ := hc 0 (by omega)
        exact World.block_lt_of_cell? w _ hv
      · obtain ⟨v, hv, hr⟩ := hc i hi
        refine ⟨v, hv, hr.mono (fun k hk hp => ⟨hp, hk⟩) (.inl ?_)⟩
        rw [List.getD_eq_getElem?_getD, List.getElem?_eq_getElem (by rw [h.len]; exact hi), Option.getD_some]
        exact hne _ (List.getElem_mem _)
theorem Mat.tight {P : Nat → Prop} {T : Bool} {w : World} {a : Option Addr} {n c : Nat} {L : List (List Int)} (h : Mat w P T a n c L) : Mat w P T a n n L :=
  ⟨h.len, Nat.le_refl _, Nat.le_trans h.le h.max, h.cells, fun hn => by have h1 := h.isNil hn; have h2 := h.le; omega⟩
/-- A piece of a slice of slices: from p on, m rows, the rest as capacity d. -/
theorem Mat.cut2 {P : Nat → Prop} {T : Bool} {w : World} {a : Option Addr} {n c : Nat} {L : List (List Int)} (h : Mat w P T a n c L) (p m d : Nat) (hp : p + m ≤ n) (hmd : m ≤ d) (hd : d + p ≤ c) (a' : Option Addr)
    (ha : 0 < m → ∀ b o, a = some ⟨b, o, none⟩ → a' = some ⟨b, o + p, none⟩) (hn' : a' = none → d = 0) : Mat w P T a' m d ((L.drop p).take m) := by
  have := h.max
  refine ⟨by rw [List.length_take, List.length_drop, h.len]; omega, hmd, by omega, ?_, hn'⟩
  by_cases hm : 0 < m
  · rcases h.cells with h0 | ⟨b, o, rfl, hpb, hc⟩
    · exact .inl (by omega)
    · refine .inr ⟨b, o + p, ha hm b o rfl, hpb, fun i hi => ?_⟩
      obtain ⟨v, hv, hr⟩ := hc (p + i) (by omega)
      refine ⟨v, by rw [Nat.add_assoc]; exact hv, ?_⟩
      have e : ((L.drop p).take m).getD i [] = L.getD (p + i) [] := by simp [List.getD_eq_getElem?_getD, hi]
      rw [e]; exact hr
  · exact .inl (by omega)
theorem okC_lenOk {b : List Int} (h : okC b) : lenOk b := ⟨h.1, h.2.1⟩
theorem okC_ne {b : List Int} (h : okC b) : b ≠ [] := fun e => by subst e; have := h.1; simp at this
theorem errOf_bin' {l : List Int} (h : Bin l) (hl : l.length ≤ 1048576) : errOf l = 0 := errOf_ok hl h.isBits
theorem stream_b (s : ByteArray) (n : Nat) (l : List Int) (w : World) (hn : s.size = n) (h : n ≤ 2097152) (hl : (s.data.toList.map fun c => (c.toNat : Int) % 2) = l) :
    Calls Tryd.prog 23 #[.string s] w fun e w' => (∃ g, e = .returned (.slice (some ⟨g, 0, none⟩) n n) ∧ Row .u8 w' (some ⟨g, 0, none⟩) n n l ∧ w.heap.size ≤ g ∧ g < w'.heap.size) ∧ Below w.heap.size w w' := by
  subst hl hn
  refine (stream_any s w h).mono ?_
  rintro e w' ⟨rfl, hb, ho⟩
  refine ⟨⟨_, rfl, ho.row0 _ _ (by simp) (Nat.le_refl _) (by unfold maxLen; omega) ?_, Nat.le_refl _, ho.lt⟩, hb⟩
  intro x hx
  obtain ⟨c, _, rfl⟩ := List.mem_map.1 hx
  exact wf_u8.2 (by omega)
/-- octets of a list as a row of the call's own. -/
theorem octets2_row (a : Option Addr) (m c : Nat) (b : List Int) (n : Nat) (l : List Int) (w : World) (h : Row .u8 w a m c b) (hn : n ≤ 1048576) (hl : octetsL b n = l) :
    Calls Tryd.prog 19 #[.slice a m c, .int .i64 n] w fun e w' => e = .returned (.slice (some ⟨w.heap.size, 0, none⟩) n n) ∧ Below w.heap.size w w' ∧ RowV w' (fun j => w.heap.size ≤ j ∧ j < w'.heap.size) true (.slice (some ⟨w.heap.size, 0, none⟩) n n) l := by
  subst hl
  refine (octets2_any a m c b n w h hn).mono ?_
  rintro e w' ⟨rfl, hb, ho⟩
  have hl := octetsL_length b n
  have hrow := ho.row0 n n hl.symm (Nat.le_refl _) (by unfold maxLen; omega) (fun x hx => wf_u8.2 (octetsL_range (fun y hy => wf_u8.1 (h.wf y hy)) n x hx))
  exact ⟨rfl, hb, _, _, by rw [hl], by rw [hl]; exact hrow, fun _ => hl.symm, fun z hz => by simp at hz; subst hz; exact ⟨Nat.le_refl _, ho.lt⟩⟩
end Go.Proofs.YtpcjhmddcfiemaaDoor
