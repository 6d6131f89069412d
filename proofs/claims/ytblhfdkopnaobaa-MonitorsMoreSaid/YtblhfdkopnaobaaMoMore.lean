/- Monitors: if more units are wrong, the level is no lower (mathematics). -/
import Derived.Test.YtblhfdkopnaobaaMoMath
namespace Go.Proofs.Ytblhfdkopnaobaa

structure Rel (x y : Mo) : Prop where
  kd : y.kd = x.kd
  lim : y.lim = x.lim
  size : y.size = x.size
  up : y.up = x.up
  down : y.down = x.down
  le : x.lvl ≤ y.lvl
  cnt : y.lvl < x.lim → y.cnt = x.cnt
  wrong : x.kd = .span → y.lvl < x.lim → x.wrong = true → y.wrong = true
theorem Rel.refl (x : Mo) : Rel x x := ⟨rfl, rfl, rfl, rfl, rfl, Nat.le_refl _, fun _ => rfl, fun _ _ h => h⟩
set_option maxHeartbeats 4000000 in
theorem Rel.step {x y : Mo} (h : Rel x y) (hx : x.lvl ≤ x.lim) (hy : y.lvl ≤ y.lim) {p q : Bool} (hpq : q = true → p = true) : Rel (x.count p) (y.count q) := by
  refine ⟨by rw [Mo.count_kd, Mo.count_kd]; exact h.kd, by rw [Mo.count_lim, Mo.count_lim]; exact h.lim, by rw [Mo.count_size, Mo.count_size]; exact h.size, by rw [Mo.count_up, Mo.count_up]; exact h.up, by rw [Mo.count_down, Mo.count_down]; exact h.down, ?_, ?_, ?_⟩
  all_goals
    obtain ⟨kd, lim, size, up, down, l1, c1, w1⟩ := x
    obtain ⟨kd2, lim2, size2, up2, down2, l2, c2, w2⟩ := y
    obtain ⟨h1, h2, h3, h4, h5, h6, h7, h8⟩ := h
    dsimp only at h1 h2 h3 h4 h5 h6 h7 h8 hx hy
    subst h1 h2 h3 h4 h5
    cases kd2 <;> cases p <;> cases q <;> (try exact absurd (hpq rfl) (by decide)) <;> clear hpq <;>
      simp only [Mo.count, Mo.one, if_true, if_false, Bool.false_eq_true, Bool.not_false, Bool.not_true, Bool.or_true, Bool.or_false] <;>
      (repeat' split) <;> (try simp_all) <;> (try omega)
end Go.Proofs.Ytblhfdkopnaobaa
