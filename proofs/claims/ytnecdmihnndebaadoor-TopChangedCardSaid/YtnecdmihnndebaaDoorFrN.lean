/- Contracts of frames at known lists. -/
import Derived.Test.YtnecdmihnndebaaDoorJoin
import Derived.Test.YtnecdmihnndebaaDoorFeed
namespace Go.Proofs.YtnecdmihnndebaaDoor
open Go.RowKit

theorem join_n (P : Nat → Prop) (T : Bool) (a : Option Addr) (n c m : Nat) (L : List (List Int)) (l' : List Int) (w : World) (hf : FlagOk w) (h : Mat w P T a n c L) (hok : ∀ l ∈ L, lenOk l) (hn : n ≤ 300) (hl : joinL L = l') (hm : l'.length = m) :
    Calls Tryd.prog 7 #[.slice a n c] w fun e w' => (∃ a', e = .returned (.tuple #[.slice a' m m, .int .i64 0]) ∧ Row .u8 w' a' m m l' ∧ ∀ z, a' = some z → w.heap.size ≤ z.block) ∧ Below w.heap.size w w' := by
  subst hm hl
  refine (join_ok P T a n c L w hf h hok hn).mono ?_
  rintro e w' ⟨v, rfl, ⟨a', rfl, hr, hlow⟩, hb⟩
  exact ⟨⟨a', rfl, hr, fun z hz => (hlow z hz).2⟩, hb⟩
theorem frame_n (a : Option Addr) (n c m : Nat) (l l' : List Int) (w : World) (hf : FlagOk w) (h : Row .u8 w a n c l) (hok : lenOk l) (hl : joinL [l] = l') (hm : l'.length = m) :
    Calls Tryd.prog 26 #[.slice a n c] w fun e w' => (∃ a', e = .returned (.tuple #[.slice a' m m, .int .i64 0]) ∧ Row .u8 w' a' m m l') ∧ Below w.heap.size w w' := by
  subst hm hl
  refine (frame_ok a n c l w hf h hok).mono ?_
  rintro e w' ⟨v, rfl, ⟨a', rfl, hr, hlow⟩, hb⟩
  exact ⟨⟨a', rfl, hr⟩, hb⟩
theorem Row.lt {k : IntKind} {w : World} {a : Option Addr} {n c : Nat} {l : List Int} (h : Row k w a n c l) (hn : 0 < n) : ∀ z, a = some z → z.block < w.heap.size := fun z hz => by
  rcases h.cells with h0 | ⟨b, o, ha, hc⟩
  · omega
  · rw [hz] at ha
    simp at ha
    subst ha
    exact World.block_lt_of_cell? w _ (hc 0 hn)
/-- Feed, its contents and its state named. -/
theorem feed_n (b : Nat) (g : Option Nat) (x y : Sc) (L : List (List Int)) (m k : Nat) (a : Option Addr) (n c : Nat) (l : List Int) (w : World) (h : ScAt w b g x m) (hrow : Row .u8 w a n c l) (he : errOf l = 0) (hsep : ∀ z, a = some z → z.block ≠ b ∧ g ≠ some z.block) (hm : m ≤ 1000000000) (hf : feed x l = (y, L)) (hk : L.length = k) :
    Calls Tryd.prog 23 #[.pointer (some ⟨b, 0, none⟩), .slice a n c] w fun e w' => ∃ a' g', e = .returned (.tuple #[.slice a' k k, .int .i64 0]) ∧ Mat w' (fun j => w.heap.size ≤ j ∧ g' ≠ some j) true a' k k L ∧ ScAt w' b g' y (m + 2 * n) ∧ Scn b g w g' w' ∧ (L = [] → a' = none) := by
  subst hk
  refine (feed_ok b g x m a n c l w h hrow he hsep hm).mono ?_
  rintro e w' ⟨v, rfl, a', g', rfl, hn, h1, h2, h3⟩
  rw [hf] at h1 h2 hn
  rw [hf]
  exact ⟨a', g', rfl, h1, h2, h3, hn⟩
/-- What lies below the scanner's block is as it was. -/
theorem Scn.below {b : Nat} {g g' : Option Nat} {w w' : World} (h : Scn b g w g' w') (hb : b ≤ w.heap.size) (hg : ∀ k, g = some k → b < k) {B : Nat} (hB : B ≤ b) : Below B w w' :=
  h.exc.below (by omega) fun i _ hi => by rcases hi with hi | hi; omega; have := hg i hi; omega
end Go.Proofs.YtnecdmihnndebaaDoor
