/- The contents that the statements of frames make. -/
import Derived.Test.YtpcjhmddcfiemaaDoorFrTools
namespace Go.Proofs.YtpcjhmddcfiemaaDoor
open Go.RowKit

def sizeOf8 (x : Int) (md : Nat) : Nat := 5 + x.toNat % md
def contentsL (b sizes : List Int) (md k : Nat) : List (List Int) := (List.range k).map fun i => octetsL (b.drop i) (sizeOf8 (sizes.getD i 0) md)
theorem contentsL_zero (b sizes : List Int) (md : Nat) : contentsL b sizes md 0 = [] := rfl
theorem contentsL_succ (b sizes : List Int) (md k : Nat) : contentsL b sizes md (k + 1) = contentsL b sizes md k ++ [octetsL (b.drop k) (sizeOf8 (sizes.getD k 0) md)] := by
  unfold contentsL; rw [List.range_succ, List.map_append, List.map_singleton]
theorem contentsL_length (b sizes : List Int) (md k : Nat) : (contentsL b sizes md k).length = k := by simp [contentsL]
theorem contentsL_ok {b : List Int} (hb : ∀ x ∈ b, 0 ≤ x ∧ x ≤ 255) (sizes : List Int) (md : Nat) (hm : 0 < md ∧ md ≤ 200) (k : Nat) : ∀ c ∈ contentsL b sizes md k, okC c ∧ c.length ≤ 4 + md := fun c hc => by
  unfold contentsL at hc
  obtain ⟨i, _, rfl⟩ := List.mem_map.1 hc
  have h1 := octetsL_length (b.drop i) (sizeOf8 (sizes.getD i 0) md)
  have h2 := Nat.mod_lt (sizes.getD i 0).toNat hm.1
  unfold okC
  rw [h1]
  unfold sizeOf8
  refine ⟨⟨by omega, by omega, octetsL_range (fun x hx => hb x (List.mem_of_mem_drop hx)) _⟩, by omega⟩
theorem row_none {k : IntKind} {w : World} : Row k w none 0 0 [] := Row.of_nil _ _
theorem row_some {k : IntKind} (w : World) (z : Addr) (c : Nat) (hc : c ≤ maxLen) : Row k w (some z) 0 c [] := ⟨rfl, Nat.zero_le _, hc, by simp, .inl rfl, by simp⟩
/-- octets(b[min(i, len(b)):], n): whatever address the slice has. -/
theorem octets_cut (a : Option Addr) (m c : Nat) (b : List Int) (k n : Nat) (w : World) (h : Row .u8 w a m c b) (hn : n ≤ 1048576) (l : List Int) (hl : octetsL (b.drop k) n = l) :
    (∀ bb o, k < m → a = some ⟨bb, o, none⟩ → Calls Tryd.prog 19 #[.slice (some ⟨bb, o + k, none⟩) (m - k) (c - k), .int .i64 n] w fun e w' => e = .returned (.slice (some ⟨w.heap.size, 0, none⟩) n n) ∧ Below w.heap.size w w' ∧ RowV w' (fun j => w.heap.size ≤ j ∧ j < w'.heap.size) true (.slice (some ⟨w.heap.size, 0, none⟩) n n) l) ∧
    (∀ z c', m ≤ k → c' ≤ maxLen → Calls Tryd.prog 19 #[.slice (some z) 0 c', .int .i64 n] w fun e w' => e = .returned (.slice (some ⟨w.heap.size, 0, none⟩) n n) ∧ Below w.heap.size w w' ∧ RowV w' (fun j => w.heap.size ≤ j ∧ j < w'.heap.size) true (.slice (some ⟨w.heap.size, 0, none⟩) n n) l) ∧
    (m ≤ k → Calls Tryd.prog 19 #[.slice none 0 0, .int .i64 n] w fun e w' => e = .returned (.slice (some ⟨w.heap.size, 0, none⟩) n n) ∧ Below w.heap.size w w' ∧ RowV w' (fun j => w.heap.size ≤ j ∧ j < w'.heap.size) true (.slice (some ⟨w.heap.size, 0, none⟩) n n) l) := by
  have he : m ≤ k → b.drop k = [] := fun hk => List.drop_of_length_le (by rw [h.len]; exact hk)
  refine ⟨fun bb o hk ha => ?_, fun z c' hk hc => ?_, fun hk => ?_⟩
  · subst ha
    exact octets2_row _ _ _ _ n l w (h.tail k (by omega)) hn hl
  · rw [he hk] at hl
    exact octets2_row _ _ _ _ n l w (row_some w z c' hc) hn hl
  · rw [he hk] at hl
    exact octets2_row _ _ _ _ n l w row_none hn hl
/-- A slice that came in with capacity lies at a plain address. -/
theorem spot_of_open {k : IntKind} {w : World} {x : Addr} {cap : Nat} {zs : List Int} (hz : zs.length = cap) (hc : ∀ i, i < zs.length → w.cell? (x.add i) = some (.int k (zs.getD i 0))) :
    ∀ z, some x = some z → cap ≠ 0 → z.spot = none := fun z he h0 => by
  obtain rfl := Option.some.inj he
  have h1 := hc 0 (by omega)
  simpa [Addr.add] using World.cell?_spot h1
end Go.Proofs.YtpcjhmddcfiemaaDoor
