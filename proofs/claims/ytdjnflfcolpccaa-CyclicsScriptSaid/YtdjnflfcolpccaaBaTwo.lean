/- Two ends side by side with blocks of the walk's own (O): what a call on one of them leaves of the other (lives). -/
import Derived.Test.YtdjnflfcolpccaaBaFace
namespace Go.Proofs.Ytdjnflfcolpccaa
open Go.RowKit

/-- What an end must give besides: a number that is too far. -/
structure EndMore (I : EndFace) : Prop where
  retrieveBad : ∀ {b : Nat} {S : Nat → Prop} {x : En} {w : World} {n : Nat}, I.At w b S x → n ≤ 255 → (128 ≤ n ∨ x.una.length < x.ahead n) →
    Calls Try.prog 19 #[.pointer (some ⟨b, 0, none⟩), .int .u8 (n : Int)] w fun e w' => (∃ v, e = .returned (.tuple #[v, .int .i64 1])) ∧ Below w.heap.size w w'
/-- At block a stands x, at block b stands y, both above B, apart from each other and from O. -/
def TwoAt (I : EndFace) (w : World) (B a b : Nat) (x y : En) (O : Nat → Prop) : Prop :=
  ∃ S T, I.At w a S x ∧ I.At w b T y ∧ (∀ k, S k → ¬ T k) ∧ (∀ k, S k → B ≤ k) ∧ (∀ k, T k → B ≤ k) ∧ B ≤ w.heap.size ∧ ∀ k, O k → (B ≤ k ∧ k < w.heap.size) ∧ ¬ S k ∧ ¬ T k
theorem TwoAt.swap {I : EndFace} {w : World} {B a b : Nat} {x y : En} {O : Nat → Prop} (h : TwoAt I w B a b x y O) : TwoAt I w B b a y x O := by
  obtain ⟨S, T, h1, h2, h3, h4, h5, h6, h7⟩ := h
  exact ⟨T, S, h2, h1, fun k ht hs => h3 k hs ht, h5, h4, h6, fun k hk => ⟨(h7 k hk).1, (h7 k hk).2.2, (h7 k hk).2.1⟩⟩
/-- What the walk does to its own blocks, or makes anew. -/
theorem TwoAt.own {I : EndFace} {w w' : World} {B a b : Nat} {x y : En} {O : Nat → Prop} (h : TwoAt I w B a b x y O) (hx : Exc O w w') : TwoAt I w' B a b x y fun k => O k ∨ (w.heap.size ≤ k ∧ k < w'.heap.size) := by
  obtain ⟨S, T, h1, h2, h3, h4, h5, h6, h7⟩ := h
  have l1 := I.lt h1
  have l2 := I.lt h2
  refine ⟨S, T, I.exc h1 hx (fun k hs ho => (h7 k ho).2.1 hs), I.exc h2 hx (fun k ht ho => (h7 k ho).2.2 ht), h3, h4, h5, Nat.le_trans h6 hx.size, fun k hk => ?_⟩
  rcases hk with hk | ⟨hk, hk'⟩
  · exact ⟨⟨(h7 k hk).1.1, Nat.lt_of_lt_of_le (h7 k hk).1.2 hx.size⟩, (h7 k hk).2⟩
  · exact ⟨⟨Nat.le_trans h6 hk, hk'⟩, fun hs => by have := l1 k hs; omega, fun ht => by have := l2 k ht; omega⟩
theorem TwoAt.less {I : EndFace} {w : World} {B a b : Nat} {x y : En} {O O' : Nat → Prop} (h : TwoAt I w B a b x y O) (ho : ∀ k, O' k → O k) : TwoAt I w B a b x y O' := by
  obtain ⟨S, T, h1, h2, h3, h4, h5, h6, h7⟩ := h
  exact ⟨S, T, h1, h2, h3, h4, h5, h6, fun k hk => h7 k (ho k hk)⟩
/-- The first of them has turned. -/
theorem TwoAt.turn {I : EndFace} {w w' : World} {B a b : Nat} {x y x' : En} {O : Nat → Prop} {S T S' : Nat → Prop} (h1 : I.At w a S x) (h2 : I.At w b T y) (h3 : ∀ k, S k → ¬ T k) (h4 : ∀ k, S k → B ≤ k) (h5 : ∀ k, T k → B ≤ k) (h6 : B ≤ w.heap.size)
    (h7 : ∀ k, O k → (B ≤ k ∧ k < w.heap.size) ∧ ¬ S k ∧ ¬ T k) (ha : I.At w' a S' x') (ht : Turn S w S' w') :
    TwoAt I w' B a b x' y (fun k => O k ∨ (w.heap.size ≤ k ∧ k < w'.heap.size ∧ ¬ S' k)) ∧ Exc (fun k => B ≤ k ∧ ¬ O k) w w' := by
  have l1 := I.lt h1
  have l2 := I.lt h2
  refine ⟨⟨S', T, ha, I.exc h2 ht.exc (fun k hk hs => h3 k hs hk), fun k hk htk => ?_, fun k hk => ?_, h5, Nat.le_trans h6 ht.exc.size, fun k hk => ?_⟩, ht.exc.weak fun k _ hs => ⟨h4 k hs, fun ho => (h7 k ho).2.1 hs⟩⟩
  · rcases ht.lies k hk with hs | hn
    · exact h3 k hs htk
    · have := l2 k htk; omega
  · rcases ht.lies k hk with hs | hn
    · exact h4 k hs
    · omega
  · rcases hk with hk | ⟨k1, k2, k3⟩
    · refine ⟨⟨(h7 k hk).1.1, Nat.lt_of_lt_of_le (h7 k hk).1.2 ht.exc.size⟩, fun hs => ?_, (h7 k hk).2.2⟩
      rcases ht.lies k hs with hs' | hn
      · exact (h7 k hk).2.1 hs'
      · have := (h7 k hk).1.2; omega
    · exact ⟨⟨Nat.le_trans h6 k1, k2⟩, k3, fun htk => by have := l2 k htk; omega⟩
theorem two_accept {I : EndFace} {w : World} {B a b : Nat} {x y : En} {O : Nat → Prop} (h : TwoAt I w B a b x y O) (hf : x.failed = false) (hq : x.que.length < 64) {s : Option Addr} {n c : Nat} {l : List Int} (hr : Row .u8 w s n c l) (h2 : 2 ≤ n) (hn : n ≤ 273) (hs : ∀ z, s = some z → O z.block) :
    Calls Try.prog 8 #[.pointer (some ⟨a, 0, none⟩), .slice s n c] w fun e w' => e = .returned (.int .i64 0) ∧ TwoAt I w' B a b (x.accept l) y O ∧ Exc (fun k => B ≤ k ∧ ¬ O k) w w' := by
  obtain ⟨S, T, g1, g2, g3, g4, g5, g6, g7⟩ := h
  refine (I.accept g1 hf hq hr h2 hn (fun z hz => (g7 _ (hs z hz)).2.1)).mono ?_
  rintro e w' ⟨rfl, S', ha, ht⟩
  obtain ⟨k1, k2⟩ := TwoAt.turn g1 g2 g3 g4 g5 g6 g7 ha ht
  exact ⟨rfl, k1.less (fun k hk => .inl hk), k2⟩
theorem two_next {I : EndFace} {w : World} {B a b : Nat} {x y : En} {O : Nat → Prop} (h : TwoAt I w B a b x y O) (hf : x.failed = false) :
    Calls Try.prog 10 #[.pointer (some ⟨a, 0, none⟩)] w fun e w' => ∃ s, e = .returned (.tuple #[.agg (unCells x.next.1 s x.next.1.load.length x.next.1.load.length).toArray, .int .i64 0]) ∧ Row .u8 w' s x.next.1.load.length x.next.1.load.length x.next.1.load ∧
      (∃ O' : Nat → Prop, (∀ k, O k → O' k) ∧ (∀ z, s = some z → O' z.block ∧ w.heap.size ≤ z.block) ∧ TwoAt I w' B a b x.next.2 y O') ∧ Exc (fun k => B ≤ k ∧ ¬ O k) w w' := by
  obtain ⟨S, T, g1, g2, g3, g4, g5, g6, g7⟩ := h
  refine (I.next g1 hf).mono ?_
  rintro e w' ⟨S', ⟨s, rfl, hr, hz⟩, ha, ht⟩
  obtain ⟨k1, k2⟩ := TwoAt.turn g1 g2 g3 g4 g5 g6 g7 ha ht
  exact ⟨s, rfl, hr, ⟨_, fun k hk => .inl hk, fun z hz' => ⟨.inr (hz z hz'), (hz z hz').1⟩, k1⟩, k2⟩
/-- Units that a walk keeps: a slice of its own, their loads too. -/
def KeptU (w : World) (O : Nat → Prop) (g : Option Nat) (cs : List Value) (us : List Un) : Prop :=
  ∀ i u, us[i]? = some u → ∃ s, (∀ j, j < 7 → cs.getD (i * 7 + j) undef = (unCells u s u.load.length u.load.length).getD j undef) ∧ Row .u8 w s u.load.length u.load.length u.load ∧ ∀ z, s = some z → O z.block ∧ g ≠ some z.block
def SentAt (w : World) (O : Nat → Prop) (g : Option Nat) (ad : Option Addr) (c : Nat) (us : List Un) : Prop :=
  ∃ cs, Buf w 45 7 g ad us.length c cs ∧ (∀ k, g = some k → O k) ∧ KeptU w O g cs us
theorem SentAt.nil (w : World) (O : Nat → Prop) : SentAt w O none none 0 [] := ⟨[], Buf.nil _ _ _, nofun, fun i u h => by simp at h⟩
theorem SentAt.exc {T O O' : Nat → Prop} {w w' : World} {g : Option Nat} {ad : Option Addr} {c : Nat} {us : List Un} (h : SentAt w O g ad c us) (hx : Exc T w w') (ht : ∀ k, O k → ¬ T k) (ho : ∀ k, O k → O' k) : SentAt w' O' g ad c us := by
  obtain ⟨cs, hb, hg, hu⟩ := h
  refine ⟨cs, hb.exc hx (fun k hk => ht k (hg k hk)), fun k hk => ho k (hg k hk), fun i u hi => ?_⟩
  obtain ⟨s, h1, h2, h3⟩ := hu i u hi
  exact ⟨s, h1, h2.exc hx (fun z hz => ht _ (h3 z hz).1), fun z hz => ⟨ho _ (h3 z hz).1, (h3 z hz).2⟩⟩
theorem getElem_snoc' {α : Type} {l : List α} {x y : α} {i : Nat} (h : (l ++ [x])[i]? = some y) : l[i]? = some y ∨ (i = l.length ∧ x = y) := by
  by_cases hi : i < l.length
  · rw [List.getElem?_append_left hi] at h; exact .inl h
  · rw [List.getElem?_append_right (by omega)] at h
    have : i - l.length = 0 := by
      have := (List.getElem?_eq_some_iff.1 h).1
      simp at this; omega
    rw [this] at h
    simp at h
    exact .inr ⟨by omega, h⟩
theorem SentAt.add {O O' : Nat → Prop} {w w' : World} {g g' : Option Nat} {ad' : Option Addr} {c' : Nat} {us : List Un} {u : Un} {s : Option Addr} {cs : List Value} (hl : cs.length = us.length * 7) (hu : KeptU w O g cs us)
    (hx : Exc (fun k => g = some k) w w') (hO : ∀ k, O k → k < w.heap.size) (ho : ∀ k, O k → O' k) (hb : Buf w' 45 7 g' ad' (us.length + 1) c' (cs ++ unCells u s u.load.length u.load.length))
    (hg : ∀ k, g' = some k → g = some k ∨ w.heap.size ≤ k) (hg' : ∀ k, g' = some k → O' k) (hr : Row .u8 w s u.load.length u.load.length u.load) (hz : ∀ z, s = some z → O z.block ∧ g ≠ some z.block) : SentAt w' O' g' ad' c' (us ++ [u]) := by
  have hne : ∀ z : Addr, O z.block ∧ g ≠ some z.block → g' ≠ some z.block := fun z hz hh => by
    rcases hg _ hh with h1 | h1
    · exact hz.2 h1
    · have := hO _ hz.1; omega
  refine ⟨_, by rw [List.length_append, List.length_singleton]; exact hb, hg', fun i v hi => ?_⟩
  rcases getElem_snoc' hi with h1 | ⟨rfl, rfl⟩
  · obtain ⟨s1, k1, k2, k3⟩ := hu i v h1
    have hil : i < us.length := (List.getElem?_eq_some_iff.1 h1).1
    refine ⟨s1, fun j hj => ?_, k2.exc hx (fun z hz => (k3 z hz).2), fun z hz => ⟨ho _ (k3 z hz).1, hne z (k3 z hz)⟩⟩
    rw [getD_append_left (by omega)]
    exact k1 j hj
  · refine ⟨s, fun j hj => ?_, hr.exc hx (fun z hz' => (hz z hz').2), fun z hz' => ⟨ho _ (hz z hz').1, hne z (hz z hz')⟩⟩
    rw [getD_append_right (by omega), hl]
    congr 1; omega
theorem two_hear {I : EndFace} {w : World} {B a b : Nat} {x y : En} {O : Nat → Prop} (h : TwoAt I w B a b x y O) (hf : x.failed = false) {u : Un} {s : Option Addr} {n c : Nat} (hk : u.kind ≠ 1) (hc : chk (u.back : Int) (u.fore : Int) (u.kind : Int) (u.state : Int) n = 0) (hr : Row .u8 w s n c u.load) (hs : ∀ z, s = some z → O z.block) (hf' : (x.hear u).2.failed = false) :
    Calls Try.prog 16 #[.pointer (some ⟨a, 0, none⟩), .agg (unCells u s n c).toArray] w fun e w' => (∃ v c', e = .returned (.tuple #[.slice v (x.hear u).1.toList.length c', .int .i64 0]) ∧ ((x.hear u).1 ≠ none → c' = 1) ∧ ∃ O' : Nat → Prop, (∀ k, O k → O' k) ∧ Mat w' O' true v (x.hear u).1.toList.length c' (x.hear u).1.toList ∧ TwoAt I w' B a b (x.hear u).2 y O') ∧ Exc (fun k => B ≤ k ∧ ¬ O k) w w' := by
  obtain ⟨S, T, g1, g2, g3, g4, g5, g6, g7⟩ := h
  refine (I.hear g1 hf hk hc hr (fun z hz => (g7 _ (hs z hz)).2.1) hf').mono ?_
  rintro e w' ⟨S', ⟨v, c', rfl, hm, hc1⟩, ha, ht⟩
  obtain ⟨k1, k2⟩ := TwoAt.turn g1 g2 g3 g4 g5 g6 g7 ha ht
  exact ⟨⟨v, c', rfl, hc1, _, fun k hk => .inl hk, hm.weak (fun k hk => .inr hk), k1⟩, k2⟩
theorem two_last {I : EndFace} {w : World} {B a b : Nat} {x y : En} {O : Nat → Prop} (h : TwoAt I w B a b x y O) :
    Calls Try.prog 21 #[.pointer (some ⟨a, 0, none⟩)] w fun e w' => e = .returned (.int .u8 (x.acc : Int)) ∧ ∃ q, w' = w.drewN q := by
  obtain ⟨S, T, g1, _⟩ := h
  exact I.last g1
theorem two_retrieve {I : EndFace} {w : World} {B a b : Nat} {x y : En} {O : Nat → Prop} (h : TwoAt I w B a b x y O) {n : Nat} (hn : n < 128) (hah : x.ahead n ≤ x.una.length) :
    Calls Try.prog 19 #[.pointer (some ⟨a, 0, none⟩), .int .u8 (n : Int)] w fun e w' => (∃ v N, e = .returned (.tuple #[.slice v N N, .int .i64 0]) ∧ Mat w' (fun k => w.heap.size ≤ k ∧ k < w'.heap.size) true v N N (x.rest n)) ∧ Below w.heap.size w w' := by
  obtain ⟨S, T, g1, _⟩ := h
  exact I.retrieve g1 hn hah
theorem two_bad {I : EndFace} (J : EndMore I) {w : World} {B a b : Nat} {x y : En} {O : Nat → Prop} (h : TwoAt I w B a b x y O) {n : Nat} (hn : n ≤ 255) (hah : 128 ≤ n ∨ x.una.length < x.ahead n) :
    Calls Try.prog 19 #[.pointer (some ⟨a, 0, none⟩), .int .u8 (n : Int)] w fun e w' => (∃ v, e = .returned (.tuple #[v, .int .i64 1])) ∧ Below w.heap.size w w' := by
  obtain ⟨S, T, g1, _⟩ := h
  exact J.retrieveBad g1 hn hah
/-- Two new ends. -/
theorem two_new {I : EndFace} {w w1 w2 : World} {a b : Nat} {x y : En} {S T : Nat → Prop} (h1 : I.At w1 a S x) (s1 : ∀ k, S k → w.heap.size ≤ k) (b1 : Below w.heap.size w w1) (h2 : I.At w2 b T y) (s2 : ∀ k, T k → w1.heap.size ≤ k) (b2 : Below w1.heap.size w1 w2) :
    TwoAt I w2 w.heap.size a b x y (fun _ => False) := by
  have l1 := I.lt h1
  refine ⟨S, T, I.exc (T := fun _ => False) h1 (Exc.of_below b2) (fun _ _ hh => hh), h2, fun k hs ht => ?_, s1, fun k hk => Nat.le_trans b1.size (s2 k hk), Nat.le_trans b1.size b2.size, fun _ hk => hk.elim⟩
  have := l1 k hs
  have := s2 k ht
  omega
end Go.Proofs.Ytdjnflfcolpccaa
