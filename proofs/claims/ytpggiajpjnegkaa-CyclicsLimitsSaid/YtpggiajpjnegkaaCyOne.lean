/- One end by itself in a walk; the model where nothing is limited. -/
import Derived.Test.YtpggiajpjnegkaaBaLives
import Derived.Test.YtpggiajpjnegkaaBaPrefix
namespace Go.Proofs.Ytpggiajpjnegkaa
open Go.RowKit

def OneAt (I : EndFace) (w : World) (B b : Nat) (x : En) : Prop := ∃ S, I.At w b S x ∧ (∀ k, S k → B ≤ k) ∧ B ≤ w.heap.size
theorem OneAt.later {I : EndFace} {w w' : World} {B b : Nat} {x : En} (h : OneAt I w B b x) (hb : Below w.heap.size w w') : OneAt I w' B b x := by
  obtain ⟨S, h1, h2, h3⟩ := h
  exact ⟨S, I.exc (T := fun _ => False) h1 (Exc.of_below hb) (fun _ _ hh => hh), h2, Nat.le_trans h3 hb.size⟩
theorem OneAt.size {I : EndFace} {w : World} {B b : Nat} {x : En} (h : OneAt I w B b x) : B ≤ w.heap.size := by obtain ⟨_, _, _, h3⟩ := h; exact h3
theorem OneAt.turn {I : EndFace} {w w' : World} {B b : Nat} {x' : En} {S S' : Nat → Prop} (h2 : ∀ k, S k → B ≤ k) (h3 : B ≤ w.heap.size) (ha : I.At w' b S' x') (ht : Turn S w S' w') : OneAt I w' B b x' ∧ Below B w w' :=
  ⟨⟨S', ha, fun k hk => by
    rcases ht.lies k hk with h5 | h5
    · exact h2 k h5
    · exact Nat.le_trans h3 h5, Nat.le_trans h3 ht.exc.size⟩, ht.exc.below h3 (fun i _ hi => h2 i hi)⟩
theorem one_new (I : EndFace) (w : World) (lm lo : Nat) (l1 : 1 ≤ lm) (l2 : lm ≤ 127) (l3 : 1 ≤ lo) (l4 : lo ≤ 65535) :
    Calls Try.prog 11 #[.int .i64 (lm : Int), .int .i64 (lo : Int)] w fun e w' => (∃ b, e = .returned (.tuple #[.pointer (some ⟨b, 0, none⟩), .int .i64 0]) ∧ OneAt I w' w.heap.size b (Md.fresh lm lo).en) ∧ Below w.heap.size w w' := by
  refine (I.new w lm lo l1 l2 l3 l4).mono ?_
  rintro e w' ⟨⟨b, S, rfl, ha, hs⟩, hb⟩
  exact ⟨⟨b, rfl, S, ha, hs, hb.size⟩, hb⟩
theorem one_accept {I : EndFace} {w w2 : World} {B b : Nat} {x : En} (h : OneAt I w B b x) (hb : Below w.heap.size w w2) (hf : x.failed = false) (hq : x.que.length < 64) {g m c k : Nat} (hm : m = mlen k ∧ w.heap.size ≤ g ∧ Row .u8 w2 (some ⟨g, 0, none⟩) m c (loadK k)) :
    Calls Try.prog 12 #[.pointer (some ⟨b, 0, none⟩), .slice (some ⟨g, 0, none⟩) m c] w2 fun e w' => e = .returned (.int .i64 0) ∧ OneAt I w' B b (x.accept (loadK k)) ∧ Below B w2 w' := by
  obtain ⟨S, h1, h2, h3⟩ := h
  have hl := I.lt h1
  refine (I.accept (I.exc (T := fun _ => False) h1 (Exc.of_below hb) (fun _ _ hh => hh)) hf hq hm.2.2 (by rw [hm.1]; exact mlen_ge _) (by rw [hm.1]; exact Nat.le_trans (mlen_le _) (by decide)) (fun z hz hs => by cases hz; exact absurd (Nat.lt_of_le_of_lt hm.2.1 (hl _ hs)) (Nat.lt_irrefl _))).mono ?_
  rintro e w' ⟨rfl, S', ha, ht⟩
  exact ⟨rfl, OneAt.turn h2 (Nat.le_trans h3 hb.size) ha ht⟩
theorem one_next {I : EndFace} {w : World} {B b : Nat} {x : En} (h : OneAt I w B b x) (hf : x.failed = false) :
    Calls Try.prog 14 #[.pointer (some ⟨b, 0, none⟩)] w fun e w' => (∃ s, e = .returned (.tuple #[.agg (unCells x.next.1 s x.next.1.load.length x.next.1.load.length).toArray, .int .i64 0]) ∧ Row .u8 w' s x.next.1.load.length x.next.1.load.length x.next.1.load) ∧ OneAt I w' B b x.next.2 ∧ Below B w w' := by
  obtain ⟨S, h1, h2, h3⟩ := h
  refine (I.next h1 hf).mono ?_
  rintro e w' ⟨S', ⟨s, rfl, hr, _⟩, ha, ht⟩
  exact ⟨⟨s, rfl, hr⟩, OneAt.turn h2 h3 ha ht⟩
theorem one_fores {I : EndFace} {w : World} {B b : Nat} {x : En} (h : OneAt I w B b x) (n : Nat) (hn : n ≤ 1000) (hf : x.failed = false) (hl : ∀ k, k < n → (runE x k).next.1.kind = 2) :
    Calls Try.prog 34 #[.pointer (some ⟨b, 0, none⟩), .int .i64 (n : Int)] w fun e w' => (∃ a c, e = .returned (.slice a n c)) ∧ OneAt I w' B b (runE x n) ∧ Below B w w' := by
  obtain ⟨S, h1, h2, h3⟩ := h
  refine (fores_any I n hn h1 hf hl).mono ?_
  rintro e w' ⟨v, rfl, ho, S', ha, ht, _⟩
  refine ⟨?_, OneAt.turn h2 h3 ha ht⟩
  rcases ho.2 with ⟨rfl, h0⟩ | ⟨g, cap, cur, rfl, _⟩
  · have h0' : n = 0 := by have := ho.1; simp only [nums_length, runF_length] at this; simpa using h0
    subst h0'
    exact ⟨_, _, rfl⟩
  · exact ⟨_, _, rfl⟩
theorem one_hear {I : EndFace} {w : World} {B b : Nat} {x : En} (h : OneAt I w B b x) (hf : x.failed = false) {u : Un} {s : Option Addr} {n c : Nat} (hk : u.kind ≠ 1) (hc : chk (u.back : Int) (u.fore : Int) (u.kind : Int) (u.state : Int) n = 0) (hr : Row .u8 w s n c u.load) (hs : s = none) (hnf : (x.hear u).2.failed = false) :
    Calls Try.prog 20 #[.pointer (some ⟨b, 0, none⟩), .agg (unCells u s n c).toArray] w fun e w' => (∃ v, e = .returned (.tuple #[v, .int .i64 0])) ∧ OneAt I w' B b (x.hear u).2 ∧ Below B w w' := by
  obtain ⟨S, h1, h2, h3⟩ := h
  refine (I.hear h1 hf hk hc hr (fun z hz => by rw [hs] at hz; cases hz) hnf).mono ?_
  rintro e w' ⟨S', ⟨v, c', rfl, _⟩, ha, ht⟩
  exact ⟨⟨_, rfl⟩, OneAt.turn h2 h3 ha ht⟩
theorem one_waiting {I : EndFace} {w : World} {B b : Nat} {x : En} (h : OneAt I w B b x) :
    Calls Try.prog 22 #[.pointer (some ⟨b, 0, none⟩)] w fun e w' => e = .returned (.tuple #[.int .i64 (x.que.length : Int), .int .i64 (x.una.length : Int)]) ∧ ∃ q, w' = w.drewN q := by
  obtain ⟨S, h1, _⟩ := h
  exact I.waiting h1
/-! ## The model where nothing is limited -/
theorem Md.free_next {m : Md} (hl : m.lim = false) (hf : m.forced = false) : m.next = m.go := by
  unfold Md.next
  rcases m.pre_cases with ⟨c, _, e⟩ | ⟨c, _, e⟩ | ⟨_, _, e⟩ | ⟨_, _, e⟩
  · rw [c] at hl; cases hl
  · rw [c] at hl; cases hl
  · rw [e]
    have : ({ m with forced := false } : Md) = m := by rw [← hf]
    rw [this]
  · rw [e]
theorem Md.give {m : Md} (h : m.sent ≤ m.given) : m.en.accept (loadK m.given) = ({ m with given := m.given + 1 } : Md).en := by
  unfold En.accept Md.en
  simp only
  rw [listL_snoc h]
theorem num_fore {i : Nat} (h : i < 128) : num (i + 1) = i := by unfold num; omega
end Go.Proofs.Ytpggiajpjnegkaa
