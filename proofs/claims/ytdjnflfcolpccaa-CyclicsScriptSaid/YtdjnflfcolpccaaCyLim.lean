/- The code's end of a link: whether it is limited (a closure that counts the octets, in the library's search). -/
import Derived.Test.YtdjnflfcolpccaaEaSmall
import Derived.Lib.Walk
import Derived.WalkKit
import Derived.Deep.LoopGhost
import Derived.Deep.Draws
namespace Go.Proofs.Ytdjnflfcolpccaa
open Go.RowKit

/-- The octets of the first loads. -/
def part (ls : List (List Int)) (k : Nat) : Nat := tot (ls.take k)
theorem part_zero (ls : List (List Int)) : part ls 0 = 0 := by unfold part; rw [List.take_zero]; rfl
theorem part_all (ls : List (List Int)) : part ls ls.length = tot ls := by unfold part; rw [List.take_length]
theorem part_succ {ls : List (List Int)} {k : Nat} (h : k < ls.length) : part ls (k + 1) = part ls k + (ls.getD k []).length := by
  unfold part
  rw [List.take_add_one, tot_append, List.getElem?_eq_getElem h, List.getD_eq_getElem?_getD, List.getElem?_eq_getElem h]
  simp [tot]
theorem part_le {ls : List (List Int)} : ∀ {k : Nat}, k ≤ ls.length → part ls k ≤ tot ls := by
  intro k hk
  unfold part
  have h := tot_append (ls.take k) (ls.drop k)
  rw [List.take_append_drop] at h
  omega
theorem tot_le {ls : List (List Int)} {M : Nat} (h : ∀ l, l ∈ ls → l.length ≤ M) : tot ls ≤ ls.length * M := by
  induction ls with
  | nil => simp [tot]
  | cons l ls ih =>
    have h1 := h l (by simp)
    have h2 := ih (fun k hk => h k (by simp [hk]))
    show l.length + tot ls ≤ (ls.length + 1) * M
    rw [Nat.succ_mul]; omega
set_option maxHeartbeats 1000000 in
set_option maxRecDepth 100000 in
/-- The closure: it adds the octets of a load, and says whether the limit is reached. -/
theorem reach_any (b o xb : Nat) (lo S n c : Nat) (a : Option Addr) (w : World) (hS : S ≤ 1000000) (hn : n ≤ 1000) (hob : o ≠ b) (hox : o ≠ xb) (ho : Own w o 3 [.int .i64 (S : Int)]) (hx : w.cell? ⟨xb, 0, none⟩ = some (.pointer (some ⟨b, 0, none⟩))) (hb : w.cell? ⟨b, 1, none⟩ = some (.int .i64 (lo : Int))) :
    Calls Try.prog 53 #[.slice a n c, .pointer (some ⟨o, 0, none⟩), .pointer (some ⟨xb, 0, none⟩)] w fun e w' => e = .returned (.bool (decide (lo ≤ S + n))) ∧ Own w' o 3 [.int .i64 ((S + n : Nat) : Int)] ∧ Exc (fun k => k = o) w w' := by
  have c0 := ho.cell 0 (by simp)
  have f0 := ho.frozen 0
  simp only [List.getD_cons_zero] at c0
  obtain ⟨T, hT⟩ : ∃ T, T = S + n := ⟨_, rfl⟩
  rw [← hT]
  have hw1 : IntKind.i64.wrap ((S : Int) + (n : Int)) = (T : Int) := by rw [IntWalk.i64_in _ (by omega)]; omega
  clear hT
  have hb1 : (⟨b, 1, none⟩ : Addr).block ≠ o := fun h => hob h.symm
  have HO := Lib.hid ho
  clear ho
  go_enter Try.func53, Try.ntmps53
  go_wp2_with fail
  have ho1 := HO.out.set 0 (.int .i64 (T : Int))
  have hx1 : Exc (fun k => k = o) w (w.setCell ⟨o, 0, none⟩ (.int .i64 (T : Int))) := (Exc.refl (fun k => k = o) w).setCell ⟨o, 0, none⟩ (.inl rfl) _
  generalize hW1 : w.setCell ⟨o, 0, none⟩ (.int .i64 (T : Int)) = W1 at ho1 hx1 ⊢
  have d0 : W1.cell? ⟨o, 0, none⟩ = some (.int .i64 (T : Int)) := by have := ho1.cell 0 (by simp); simpa using this
  have dx := hx1.cell hx (fun h => hox h.symm)
  have db := hx1.cell hb (fun h => hob h.symm)
  have HO1 := Lib.hid ho1
  have HX1 := Lib.hid hx1
  clear ho1 hx1 hx hb c0 f0 hW1 HO
  go_quiet (fail)
  go_wp2
  go_ret
  exact ⟨rfl, HO1.out.below (below_draw _ _) HO1.out.lt, HX1.out.trans (S' := fun _ => False) (Exc.of_below (below_draw _ _)) (fun _ _ h => h.elim)⟩
set_option maxHeartbeats 2000000 in
set_option maxRecDepth 100000 in
/-- The library's search with it. -/
theorem index_some (b o xb lo kb ko c : Nat) (ls : List (List Int)) (w : World) (hl1 : 1 ≤ lo) (hun : ls.length ≤ 1000) (hgl : ∀ k, k < ls.length → (ls.getD k []).length ≤ 273)
    (hob : o ≠ b) (hox : o ≠ xb) (hok : o ≠ kb) (ho : Own w o 3 [.int .i64 0]) (hx : w.cell? ⟨xb, 0, none⟩ = some (.pointer (some ⟨b, 0, none⟩))) (hb : w.cell? ⟨b, 1, none⟩ = some (.int .i64 (lo : Int)))
    (hc : ∀ k, k < ls.length → ∃ s, w.cell? ⟨kb, ko + k, none⟩ = some (.slice s (ls.getD k []).length (ls.getD k []).length)) (htot : tot ls ≤ 1000000) :
    Calls Try.prog 55 #[.slice (some ⟨kb, ko, none⟩) ls.length c, .func (.func 53) #[] #[.pointer (some ⟨o, 0, none⟩), .pointer (some ⟨xb, 0, none⟩)]] w fun e w' =>
      (∃ r : Int, e = .returned (.int .i64 r) ∧ (0 ≤ r ↔ lo ≤ tot ls)) ∧ Exc (fun k => k = o) w w' := by
  obtain ⟨n, hn⟩ : ∃ n, n = ls.length := ⟨_, rfl⟩
  have HC := Lib.hid hc
  have HO := Lib.hid ho
  have HX := Lib.hid (And.intro hx hb)
  have HG := Lib.hid hgl
  have HN := Lib.hid hn
  have HT := Lib.hid htot
  rw [← hn] at hun ⊢
  clear ho hx hb hgl hc hn htot
  go_enter Try.func55, Try.ntmps55
  go_wp2
  go_loopg [5, 8] n (fun gg _ s8 wr => ∃ k : Nat, k ≤ n ∧ n - k ≤ gg ∧ s8 = .int .i64 k ∧ part ls k < lo ∧ Own wr o 3 [.int .i64 ((part ls k : Nat) : Int)] ∧ Exc (fun k => k = o) w wr)
  case atStart => exact ⟨0, Nat.zero_le _, by omega, rfl, by rw [part_zero]; omega, by rw [part_zero]; exact HO.out, Exc.refl _ _⟩
  case round =>
    obtain ⟨k, hk, hg, rfl, hp, hown, hexc⟩ := hrel
    by_cases hlt : k < n
    · have hki : (k : Int) < (n : Int) := by omega
      have hlt' : k < ls.length := by rw [← HN.out]; exact hlt
      obtain ⟨s, hcell⟩ := HC.out k hlt'
      replace hcell := hexc.cell hcell (fun h => hok h.symm)
      have hlen := HG.out k hlt'
      have hps := part_succ hlt'
      have hpt2 := part_le (ls := ls) (k := k + 1) (by omega)
      have hpt := part_le (ls := ls) (k := k) (by omega)
      obtain ⟨N, hN⟩ : ∃ N, N = (ls.getD k []).length := ⟨_, rfl⟩
      rw [← hN] at hcell hlen hps
      obtain ⟨S, hS⟩ : ∃ S, S = part ls k := ⟨_, rfl⟩
      rw [← hS] at hp hown hps hpt
      have hcb := hexc.cell HX.out.2 (fun h => hob h.symm)
      have hcx := hexc.cell HX.out.1 (fun h => hox h.symm)
      have hcon := reach_any b o xb lo S N N s wr (by have := HT.out; omega) (by omega) hob hox hown hcx hcb
      obtain ⟨B, hB⟩ : ∃ B, B = decide (lo ≤ S + N) := ⟨_, rfl⟩
      rw [← hB] at hcon
      have HCo := Lib.hid hcon
      have HP := Lib.hid hps
      have HE := Lib.hid hexc
      have HPt := Lib.hid hpt2
      have HB := Lib.hid hB
      clear hcon hcx hcb hps hexc hown hN hS hpt hpt2 hB hlen
      cases B
      · go_wp2_with fail
        with_reducible refine HCo.out.mono ?_
        rintro e w' ⟨rfl, hown2, hexc2⟩
        have HO2 := Lib.hid hown2
        have HE2 := Lib.hid (HE.out.trans hexc2 (fun _ _ h => h))
        clear hown2 hexc2 hcell HCo
        go_wp2
        go_roundg (n - (k + 1))
        case measure => omega
        case rel =>
          have hlo : ¬ lo ≤ S + N := of_decide_eq_false HB.out.symm
          exact ⟨k + 1, by omega, by omega, by go_num, by rw [HP.out]; omega, by rw [HP.out]; exact HO2.out, HE2.out⟩
      · go_wp2_with fail
        with_reducible refine HCo.out.mono ?_
        rintro e w' ⟨rfl, hown2, hexc2⟩
        have HO2 := Lib.hid hown2
        have HE2 := Lib.hid (HE.out.trans hexc2 (fun _ _ h => h))
        clear hown2 hexc2 hcell HCo
        go_wp2
        go_ret
        have hlo : lo ≤ S + N := of_decide_eq_true HB.out.symm
        refine ⟨⟨(k : Int), rfl, ?_⟩, HE2.out⟩
        have := HP.out; have := HPt.out
        constructor <;> intro <;> omega
    · obtain rfl : k = n := by omega
      have hki : ¬ ((k : Nat) : Int) < (k : Int) := by omega
      have hfin : tot ls < lo := by
        have := hp
        rw [HN.out, part_all] at this
        exact this
      have HE := Lib.hid hexc
      clear hexc hown hp
      go_wp2
      go_ret
      refine ⟨⟨-1, rfl, ?_⟩, HE.out⟩
      constructor <;> intro <;> omega
/-- At no load. -/
theorem index_none (a : Option Addr) (c : Nat) (fv : Value) (w : World) :
    Calls Try.prog 55 #[.slice a 0 c, fv] w fun e w' => e = .returned (.int .i64 (-1)) ∧ w' = w := by
  go_enter Try.func55, Try.ntmps55
  go_wp2
  go_loopg [5, 8] 0 (fun _ _ s8 wr => s8 = .int .i64 0 ∧ wr = w)
  case atStart => exact ⟨rfl, rfl⟩
  case round =>
    obtain ⟨rfl, rfl⟩ := hrel
    go_wp2
    go_ret
    exact ⟨rfl, rfl⟩
end Go.Proofs.Ytdjnflfcolpccaa
