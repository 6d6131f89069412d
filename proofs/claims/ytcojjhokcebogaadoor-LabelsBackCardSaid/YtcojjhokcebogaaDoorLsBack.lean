/- The mathematics of LabelsBack: what Encode and Decode are to one another. -/
import Derived.Test.YtcojjhokcebogaaDoorLbDec
namespace Go.Proofs.YtcojjhokcebogaaDoor
open Go.RowKit

theorem chkM_ok {sv nw pr to fr sl : Int} {n : Nat} (h0 : sv ≤ 15) (h1 : nw ≤ 3) (h2 : pr ≤ 3) (h3 : to ≤ 16383) (h4 : fr ≤ 16383) (h5 : sl ≤ 15) (hn : n ≤ 268) : chkM sv nw pr to fr sl n = 0 := by
  unfold chkM
  rw [fieldsB_iff.2 ⟨h0, h1, h2, h3, h4, h5⟩, if_pos rfl, if_neg (by omega)]
theorem hdM_parts {sv nw pr : Int} (h0 : 0 ≤ sv) (h0' : sv ≤ 15) (_h1 : 0 ≤ nw) (_h1' : nw ≤ 3) (h2 : 0 ≤ pr) (h2' : pr ≤ 3) : hdM sv nw pr % 16 = sv ∧ hdM sv nw pr / 64 = nw ∧ hdM sv nw pr / 16 % 4 = pr := by
  unfold hdM; omega
theorem numM_parts {to fr sl : Int} (h3 : 0 ≤ to) (h3' : to ≤ 16383) (h4 : 0 ≤ fr) (h4' : fr ≤ 16383) (h5 : 0 ≤ sl) (h5' : sl ≤ 15) : numM to fr sl % 16384 = to ∧ numM to fr sl / 16384 % 16384 = fr ∧ numM to fr sl / 268435456 = sl ∧ 0 ≤ numM to fr sl ∧ numM to fr sl ≤ 4294967295 := by
  unfold numM; omega
theorem lab4_enc (e0 N : Int) (l : List Int) (h0 : 0 ≤ N) (h1 : N ≤ 4294967295) : lab4 (e0 :: (fr4 N 4 ++ l)) = N := by
  show N % 256 + 256 * (N / 256 % 256) + 65536 * (N / 65536 % 256) + 16777216 * (N / 16777216 % 256) = N
  omega
theorem dec_enc {sv nw pr to fr sl : Int} (l : List Int) (h0 : 0 ≤ sv) (h0' : sv ≤ 15) (h1 : 0 ≤ nw) (h1' : nw ≤ 3) (h2 : 0 ≤ pr) (h2' : pr ≤ 3) (h3 : 0 ≤ to) (h3' : to ≤ 16383) (h4 : 0 ≤ fr) (h4' : fr ≤ 16383) (h5 : 0 ≤ sl) (h5' : sl ≤ 15) :
    (encM sv nw pr to fr sl l).getD 0 0 % 16 = sv ∧ (encM sv nw pr to fr sl l).getD 0 0 / 64 = nw ∧ (encM sv nw pr to fr sl l).getD 0 0 / 16 % 4 = pr ∧ lab4 (encM sv nw pr to fr sl l) % 16384 = to ∧ lab4 (encM sv nw pr to fr sl l) / 16384 % 16384 = fr ∧ lab4 (encM sv nw pr to fr sl l) / 268435456 = sl ∧ (encM sv nw pr to fr sl l).drop 5 = l := by
  obtain ⟨a, b, c⟩ := hdM_parts h0 h0' h1 h1' h2 h2'
  obtain ⟨d, e, f, g, i⟩ := numM_parts h3 h3' h4 h4' h5 h5'
  have hl : lab4 (encM sv nw pr to fr sl l) = numM to fr sl := lab4_enc _ _ _ g i
  rw [hl]
  exact ⟨a, b, c, d, e, f, rfl⟩
theorem enc_wf {sv nw pr to fr sl : Int} {l : List Int} (h0 : 0 ≤ sv) (h0' : sv ≤ 15) (h1 : 0 ≤ nw) (h1' : nw ≤ 3) (h2 : 0 ≤ pr) (h2' : pr ≤ 3) (hl : ∀ x ∈ l, (Lit.int .u8 x).wf = true) : ∀ x ∈ encM sv nw pr to fr sl l, (Lit.int .u8 x).wf = true := by
  intro x hx
  unfold encM at hx
  rw [List.mem_cons, List.mem_append] at hx
  rcases hx with rfl | hx | hx
  · exact wf_u8.2 (by unfold hdM; omega)
  · simp only [fr4, List.mem_cons, List.not_mem_nil, or_false] at hx
    exact wf_u8.2 (by omega)
  · exact hl x hx
theorem enc_dec {l : List Int} (h5 : 5 ≤ l.length) (ho : ∀ j, 0 ≤ l.getD j 0 ∧ l.getD j 0 ≤ 255) :
    encM (l.getD 0 0 % 16) (l.getD 0 0 / 64) (l.getD 0 0 / 16 % 4) (lab4 l % 16384) (lab4 l / 16384 % 16384) (lab4 l / 268435456) (l.drop 5) = l := by
  match l, h5 with
  | x0 :: x1 :: x2 :: x3 :: x4 :: r, _ =>
    have g0 : 0 ≤ x0 ∧ x0 ≤ 255 := ho 0
    have g1 : 0 ≤ x1 ∧ x1 ≤ 255 := ho 1
    have g2 : 0 ≤ x2 ∧ x2 ≤ 255 := ho 2
    have g3 : 0 ≤ x3 ∧ x3 ≤ 255 := ho 3
    have g4 : 0 ≤ x4 ∧ x4 ≤ 255 := ho 4
    have e0 : hdM (x0 % 16) (x0 / 64) (x0 / 16 % 4) = x0 := by unfold hdM; omega
    obtain ⟨N, hN⟩ : ∃ N, N = lab4 (x0 :: x1 :: x2 :: x3 :: x4 :: r) := ⟨_, rfl⟩
    have hN2 : N = x1 + 256 * x2 + 65536 * x3 + 16777216 * x4 := hN
    have e1 : numM (N % 16384) (N / 16384 % 16384) (N / 268435456) = N := by unfold numM; omega
    rw [← hN]
    show hdM (x0 % 16) (x0 / 64) (x0 / 16 % 4) :: (fr4 (numM (N % 16384) (N / 16384 % 16384) (N / 268435456)) 4 ++ r) = _
    rw [e0, e1]
    show x0 :: (N % 256) :: (N / 256 % 256) :: (N / 65536 % 256) :: (N / 16777216 % 256) :: r = _
    rw [show N % 256 = x1 by omega, show N / 256 % 256 = x2 by omega, show N / 65536 % 256 = x3 by omega, show N / 16777216 % 256 = x4 by omega]
theorem lab4_range {l : List Int} (ho : ∀ j, 0 ≤ l.getD j 0 ∧ l.getD j 0 ≤ 255) : 0 ≤ lab4 l ∧ lab4 l ≤ 4294967295 := by
  have g1 := ho 1
  have g2 := ho 2
  have g3 := ho 3
  have g4 := ho 4
  unfold lab4
  omega
end Go.Proofs.YtcojjhokcebogaaDoor
