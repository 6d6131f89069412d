/- Statement text: the walk over the acts (CyclicsPrefix). -/
import Derived.Test.YtdjnflfcolpccaaBaDuo
namespace Go.Proofs.Ytdjnflfcolpccaa
open Go.RowKit

abbrev LivesOk : Prop := ∀ w : World, Calls Try.prog 5 #[] w fun e w' => e = .returned (.bool true) ∧ Below w.heap.size w w'
theorem DuoAt.c8 {I : EndFace} {w : World} {p B N : Nat} (h : DuoAt I w p B N) : w.cell? ⟨p, 8, none⟩ = some (.bool false) := by
  obtain ⟨d, L, _, _, _, hp⟩ := h
  exact hp.own.cell 8 (by simp [pairCells])
theorem DuoAt.later {I : EndFace} {w w' : World} {p B N : Nat} (h : DuoAt I w p B N) (hb : Below w.heap.size w w') : DuoAt I w' p B N := by
  obtain ⟨d, L, h1, h2, h3, hp⟩ := h
  exact ⟨d, L, h1, h2, h3, hp.later hb⟩
theorem DuoAt.lowB {I : EndFace} {w : World} {p B N : Nat} (h : DuoAt I w p B N) : B ≤ w.heap.size := by
  obtain ⟨d, L, h1, h2, rfl, hp⟩ := h
  exact hp.lowB
theorem DuoAt.mono {I : EndFace} {w : World} {p B N M : Nat} (h : DuoAt I w p B N) (hN : N ≤ M) : DuoAt I w p B M := by
  obtain ⟨d, L, h1, h2, h3, hp⟩ := h
  exact ⟨d, L, h1, ⟨Nat.le_trans h2.g0 hN, Nat.le_trans h2.g1 hN, Nat.le_trans h2.u0 hN, Nat.le_trans h2.u1 hN⟩, h3, hp⟩
set_option maxHeartbeats 4000000 in
set_option maxRecDepth 100000 in
theorem prefix_any (I : EndFace) (hl : LivesOk) (a b : Nat) (ha : a ≤ 255) (hb : b ≤ 65535) (w : World) (s : Option Addr) (n c : Nat) (l : List Int) (h : Row .u8 w s n c l) :
    Calls Try.prog 4 #[.agg #[.int .u8 (a : Int), .int .u16 (b : Int)], .slice s n c] w fun e w' => e = .returned (.bool true) ∧ Below w.heap.size w w' := by
  have hnc := h.le
  have hmx := h.max
  unfold maxLen at hmx
  obtain ⟨W, hW⟩ : ∃ X, X = w.alloc (.cells #[.int .u8 (a : Int), .int .u16 (b : Int)] 24) := ⟨_, rfl⟩
  have hb0 : Below w.heap.size w W := by rw [hW]; exact below_alloc _ _
  have H := Lib.hid (h.later hb0)
  have HL := Lib.hid hl
  have HW := Lib.hid hW
  have HB0 := Lib.hid hb0
  clear h hl hW hb0
  go_enter Try.func4, Try.ntmps4
  go_wp2_with fail
  · rw [← HW.out]
    refine (HL.out _).mono ?_
    rintro e w1 ⟨rfl, hb⟩
    have HB := Lib.hid hb
    clear hb
    go_wp2
    go_ret
    exact ⟨rfl, HB0.out.trans (Below.mono HB.out HB0.out.size)⟩
  · have hn : n ≤ 400 := by omega
    rw [← HW.out]
    refine (start_duo I a b W ha hb).mono ?_
    rintro e w1 ⟨⟨p, rfl, hd⟩, hb1⟩
    go_wp2_with fail
    go_loopw [6] (fun i wr => ∃ k : Nat, k ≤ n ∧ i = .int .i64 k ∧ DuoAt I wr p W.heap.size k ∧ Below W.heap.size W wr) (fun i _ => n - (intOf i).toNat)
    case atStart => exact ⟨0, Nat.zero_le _, rfl, hd, hb1⟩
    case round =>
      obtain ⟨k, hk, rfl, hd, hb⟩ := hrel
      by_cases hlt : k < n
      · have hr := H.out.later hb
        have hx := wf_u8.1 (hr.wf (l.getD k 0) (by rw [List.getD_eq_getElem?_getD, List.getElem?_eq_getElem (by rw [hr.len]; exact hlt), Option.getD_some]; exact List.getElem_mem _))
        obtain ⟨b, o, rfl, hc⟩ : ∃ b o, s = some ⟨b, o, none⟩ ∧ ∀ i, i < n → wr.cell? ⟨b, o + i, none⟩ = some (.int .u8 (l.getD i 0)) := by
          rcases hr.cells with h0 | h1
          · omega
          · exact h1
        have hck := hc k hlt
        generalize l.getD k 0 = x at hx hck
        obtain ⟨hx0, hx1⟩ := hx
        have HA := Lib.hid (act_any I x hx0 hx1 hd (by omega))
        have HB := Lib.hid hb
        clear hr hc hd hb
        go_wp2_with fail
        refine HA.out.mono ?_
        rintro e w2 ⟨rfl, hd2, hb2⟩
        have c8 := hd2.c8
        have HG0 := Lib.hid (good_duo0 I hd2 (by omega))
        have HD2 := Lib.hid hd2
        have HB2 := Lib.hid hb2
        clear hd2 hb2
        go_wp2_with fail
        refine HG0.out.mono ?_
        rintro e w3 ⟨rfl, hb3⟩
        have hd3 := HD2.out.later hb3
        have HG1 := Lib.hid (good_duo1 I hd3 (by omega))
        have HD3 := Lib.hid hd3
        have HB3 := Lib.hid (HB2.out.trans (Below.mono hb3 HD2.out.lowB))
        clear hd3 hb3 c8
        go_wp2_with fail
        refine HG1.out.mono ?_
        rintro e w4 ⟨rfl, hb4⟩
        have HD4 := Lib.hid (HD3.out.later hb4)
        have HB4 := Lib.hid (HB3.out.trans (Below.mono hb4 HD3.out.lowB))
        clear hb4
        go_wp2_with fail
        exact ⟨⟨k + 1, by omega, by go_num, HD4.out, HB.out.trans HB4.out⟩, by simp [intOf]; omega⟩
      · have HB := Lib.hid hb
        clear hd hb
        go_wp2_with fail
        refine (HL.out _).mono ?_
        rintro e w2 ⟨rfl, hb2⟩
        have HB2 := Lib.hid (HB.out.trans (Below.mono hb2 HB.out.size))
        clear hb2
        go_wp2
        go_ret
        exact ⟨rfl, HB0.out.trans (Below.mono HB2.out HB0.out.size)⟩
end Go.Proofs.Ytdjnflfcolpccaa
