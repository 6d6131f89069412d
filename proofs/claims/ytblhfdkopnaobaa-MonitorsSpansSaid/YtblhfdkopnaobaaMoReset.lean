/- Monitors: Reset through the interface. -/
import Derived.Test.YtblhfdkopnaobaaMoFirst
namespace Go.Proofs.Ytblhfdkopnaobaa
open Go.RowKit

theorem reset_any (g : Nat) (m : Mo) (w : World) (h : MoAt w g m) :
    Calls Try.prog m.kd.fReset #[.pointer (some ⟨g, 0, none⟩)] w fun e w' => e = .returned (.tuple #[]) ∧ MoAt w' g m.reset ∧ Exc (fun k => k = g) w w' := by
  cases hk : m.kd
  · refine (rate_reset g m w h hk).mono ?_
    rintro e w' ⟨rfl, h1, h2⟩
    refine ⟨rfl, ⟨?_, h.fit.reset⟩, h2⟩
    have := h1.own
    rw [Mo.cells_rate (m := { m with lvl := 0, cnt := 0 }) hk] at this
    rw [Mo.cells_rate (m := m.reset) hk]
    exact this
  · refine (mreset_any g m w h).mono ?_
    rintro e w' ⟨rfl, rfl⟩
    refine ⟨rfl, ⟨?_, h.fit.reset⟩, exc_set _ _ _ _⟩
    have := h.own.set 0 (.int .i64 0)
    rw [Mo.cells_sum hk] at this
    rw [Mo.cells_sum (m := m.reset) hk]
    exact this
  · exact span_reset g m w h hk
/-- What a walk knows of the methods of a monitor of kind k at block g: T its type, K and R its Count and Reset. -/
structure Meth (g T K R : Nat) (k : Kd) : Prop where
  count : ∀ (m : Mo) (W : World), m.kd = k → MoAt W g m → ∀ ok, Calls Try.prog K #[.pointer (some ⟨g, 0, none⟩), .bool ok] W fun e w' => e = .returned (.tuple #[]) ∧ MoAt w' g (m.count ok) ∧ Exc (fun k => k = g) W w'
  reset : ∀ (m : Mo) (W : World), m.kd = k → MoAt W g m → Calls Try.prog R #[.pointer (some ⟨g, 0, none⟩)] W fun e w' => e = .returned (.tuple #[]) ∧ MoAt w' g m.reset ∧ Exc (fun k => k = g) W w'
  first : ∀ (m : Mo) (W : World), m.kd = k → MoAt W g m → ∀ (a : Option Addr) (n c : Nat) (l : List Bool), BRow W a n c l → (∀ x, a = some x → x.block ≠ g) →
    Calls Try.prog 14 #[.iface T (.pointer (some ⟨g, 0, none⟩)), .slice a n c] W fun e w' => e = .returned (.int .i64 (m.firstI l)) ∧ MoAt w' g (m.after l) ∧ Exc (fun k => k = g) W w'
theorem meth_any (k : Kd) (g : Nat) : Meth g k.ptr k.fCount k.fReset k :=
  ⟨fun m W e h ok => by rw [← e]; exact count_any g m ok W h, fun m W e h => by rw [← e]; exact reset_any g m W h, fun m W e h a n c l hl hne => by rw [← e]; exact first_any g m a n c l W h hl hne⟩
end Go.Proofs.Ytblhfdkopnaobaa
