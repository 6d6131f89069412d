/- Statement text: BasicsAbnormal. -/
import Derived.Test.YtfoliplejhoaeaaEaFace
import Derived.Test.YtfoliplejhoaeaaBaLives
import Derived.Test.YtfoliplejhoaeaaBaPrefix
namespace Go.Proofs.Ytfoliplejhoaeaa
open Go.RowKit

/-- The end that has been given one load, after some units. -/
def abEnd (w1 w2 fl : Bool) : En := ⟨[loadK 0], [], 0, 127, true, 127, true, w1, w2, fl⟩
theorem ab_wrong {w1 w2 : Bool} {k : Nat} (hk : k ≤ 63) : (abEnd w1 w2 false).hear ⟨k, true, 127, true, 0, 0, []⟩ = (none, abEnd w2 true (w1 || w2)) := by
  have hw : 0 < (k + 128 - 127) % 128 := by omega
  unfold En.hear
  simp [En.wrong, En.ahead, En.acked, abEnd]
  intro h
  omega
theorem ab_right {w1 w2 : Bool} : (abEnd w1 w2 false).hear ⟨127, true, 127, true, 0, 0, []⟩ = (none, abEnd w2 false false) := by
  unfold En.hear
  simp [En.wrong, En.takes, En.ack, En.ahead, En.acked, abEnd]
/-- Where the walk stands. -/
structure AbAt (w wr : World) (b g : Nat) (w1 w2 fl : Bool) : Prop where
  last : Own wr g 4 [.bool w1, .bool w2]
  fin : ∃ L, EndL wr b (abEnd w1 w2 fl) L ∧ ¬ L.S b g ∧ ∀ k, L.S b k → w.heap.size ≤ k
  bel : Below w.heap.size w wr
theorem AbAt.later {w wr w' : World} {b g : Nat} {w1 w2 fl : Bool} (h : AbAt w wr b g w1 w2 fl) (hb : Below wr.heap.size wr w') : AbAt w w' b g w1 w2 fl := by
  obtain ⟨L, h1, h2, h3⟩ := h.fin
  exact ⟨h.last.below hb h.last.lt, ⟨L, h1.later hb, h2, h3⟩, h.bel.trans (Below.mono hb h.bel.size)⟩
/-- A unit that is heard. -/
theorem ab_hear {w wr W : World} {b g g' K : Nat} {x1 x2 y1 y2 fl : Bool} (h : AbAt w wr b g x1 x2 false) (hb : Below wr.heap.size wr W) (ho : Own W g' 4 [.bool y1, .bool y2]) (hg : wr.heap.size ≤ g') (hK : K ≤ 127)
    (he : (abEnd x1 x2 false).hear ⟨K, true, 127, true, 0, 0, []⟩ = (none, abEnd y1 y2 fl)) :
    Calls Try.prog 19 #[.pointer (some ⟨b, 0, none⟩), .agg #[.int .u8 (K : Int), .bool true, .int .u8 127, .bool true, .int .u8 0, .int .u8 0, .slice none 0 0]] W fun e w' => (∃ a c, e = .returned (.tuple #[.slice a 0 c, .int .i64 (if fl then 6 else 0)])) ∧ AbAt w w' b g' y1 y2 fl := by
  obtain ⟨L, h1, h2, h3⟩ := h.fin
  have hh := hear_ok b (abEnd x1 x2 false) L W ⟨K, true, 127, true, 0, 0, []⟩ none 0 0 (h1.later hb) rfl (by show (0 : Nat) ≠ 1; decide) (by show chk (K : Int) 127 0 0 0 = 0; rw [chk_ok]; omega) (Row.of_nil _ _) (by simp)
  rw [he] at hh
  refine hh.mono ?_
  rintro e w' ⟨⟨a, c, rfl, _, _⟩, L', h4, h5, h6⟩
  have hgb : g' ≠ b := by have := h1.own.lt; omega
  refine ⟨⟨a, c, rfl⟩, ⟨ho.exc h6 hgb, ⟨L', h4, by rw [h5]; exact fun hs => by have := h1.s_lt _ hs; omega, by rw [h5]; exact h3⟩, (h.bel.trans (Below.mono hb h.bel.size)).trans (h6.below (Nat.le_trans h.bel.size hb.size) (fun i _ hi => by rw [hi]; exact h3 b (.inl rfl)))⟩⟩
theorem ab_state {w wr W : World} {b g K : Nat} {x1 x2 : Bool} (h : AbAt w wr b g x1 x2 false) (hb : Below wr.heap.size wr W) (hK : K ≤ 127) :
    Calls Try.prog 19 #[.pointer (some ⟨b, 0, none⟩), .agg #[.int .u8 (K : Int), .bool true, .int .u8 127, .bool true, .int .u8 1, .int .u8 0, .slice none 0 0]] W fun e w' => e = .returned (.tuple #[.slice none 0 0, .int .i64 0]) ∧ AbAt w w' b g x1 x2 false := by
  obtain ⟨L, h1, h2, h3⟩ := h.fin
  have hc : chk (K : Int) 127 1 0 0 = 0 := by rw [chk_ok]; omega
  have hh := hear_not b (abEnd x1 x2 false) L W ⟨K, true, 127, true, 1, 0, []⟩ none 0 0 (h1.later hb) rfl (by show K < 256; omega) (by show 127 < 256; decide) (by show 1 < 256; decide) (by show 0 < 256; decide) (by decide) (.inr rfl)
  have hc2 : chk ((⟨K, true, 127, true, 1, 0, []⟩ : Un).back : Int) ((⟨K, true, 127, true, 1, 0, []⟩ : Un).fore : Int) ((⟨K, true, 127, true, 1, 0, []⟩ : Un).kind : Int) ((⟨K, true, 127, true, 1, 0, []⟩ : Un).state : Int) 0 = 0 := hc
  rw [hc2] at hh
  refine hh.mono ?_
  rintro e w' ⟨rfl, hb'⟩
  exact ⟨rfl, h.later (hb.trans (Below.mono hb' hb.size))⟩
theorem ab_failed {w wr : World} {b g : Nat} {x1 x2 fl : Bool} (h : AbAt w wr b g x1 x2 fl) :
    Calls Try.prog 24 #[.pointer (some ⟨b, 0, none⟩)] wr fun e w' => e = .returned (.bool fl) ∧ AbAt w w' b g x1 x2 fl := by
  obtain ⟨L, h1, h2, h3⟩ := h.fin
  refine (efailed_any b (abEnd x1 x2 fl) L wr h1).mono ?_
  rintro e w' ⟨rfl, q, rfl⟩
  exact ⟨rfl, h.later (below_draw wr q)⟩
theorem ab_rest {w wr : World} {b g : Nat} {x1 x2 fl : Bool} (h : AbAt w wr b g x1 x2 fl) :
    Calls Try.prog 22 #[.pointer (some ⟨b, 0, none⟩), .int .u8 127] wr fun e w' => (∃ a, e = .returned (.tuple #[.slice a 1 1, .int .i64 0]) ∧ Mat w' (fun _ => True) true a 1 1 [loadK 0]) ∧ AbAt w w' b g x1 x2 fl := by
  obtain ⟨L, h1, h2, h3⟩ := h.fin
  refine (retrieve_ok b (abEnd x1 x2 fl) L wr 127 h1 (by decide) (by show (127 + 128 - (127 + 128 - 0) % 128) % 128 ≤ 0; decide)).mono ?_
  rintro e w' ⟨⟨a, N, rfl, hm⟩, hb⟩
  have hr : (abEnd x1 x2 fl).rest 127 = [loadK 0] := by simp [En.rest, En.ahead, En.acked, abEnd]
  rw [hr] at hm
  have hN : N = 1 := by rw [← hm.len]; rfl
  subst hN
  exact ⟨⟨a, rfl, hm.weak (fun _ _ => trivial)⟩, h.later hb⟩
theorem ab_list (w : World) : Calls Try.prog 26 #[.int .i64 0, .int .i64 1] w fun e w' => (∃ a c, e = .returned (.slice a 1 c) ∧ Mat w' (fun _ => True) true a 1 c [loadK 0]) ∧ Below w.heap.size w w' := by
  refine (klist_any 0 1 w (by decide) (by decide)).mono ?_
  rintro e w' ⟨⟨a, c, rfl, hm⟩, hb⟩
  exact ⟨⟨a, c, rfl, hm.weak (fun _ _ => trivial)⟩, hb⟩
theorem ab_next {w wr : World} {b g : Nat} {x1 x2 : Bool} (h : AbAt w wr b g x1 x2 true) :
    Calls Try.prog 14 #[.pointer (some ⟨b, 0, none⟩)] wr fun e w' => e = .returned (.tuple #[.agg #[.int .u8 0, .bool false, .int .u8 0, .bool false, .int .u8 0, .int .u8 0, .slice none 0 0], .int .i64 6]) ∧ AbAt w w' b g x1 x2 true := by
  obtain ⟨L, h1, h2, h3⟩ := h.fin
  refine (next_failed b (abEnd x1 x2 true) L wr h1 rfl).mono ?_
  rintro e w' ⟨rfl, hb⟩
  exact ⟨rfl, h.later hb⟩
theorem ab_hearf {w wr : World} {b g : Nat} {x1 x2 : Bool} (h : AbAt w wr b g x1 x2 true) :
    Calls Try.prog 19 #[.pointer (some ⟨b, 0, none⟩), .agg #[.int .u8 200, .bool false, .int .u8 0, .bool false, .int .u8 0, .int .u8 0, .slice none 0 0]] wr fun e w' => e = .returned (.tuple #[.slice none 0 0, .int .i64 6]) ∧ AbAt w w' b g x1 x2 true := by
  obtain ⟨L, h1, h2, h3⟩ := h.fin
  refine (hear_failed b (abEnd x1 x2 true) L wr ⟨200, false, 0, false, 0, 0, []⟩ none 0 0 h1 rfl).mono ?_
  rintro e w' ⟨rfl, hb⟩
  exact ⟨rfl, h.later hb⟩
theorem ab_accept {w wr : World} {b g : Nat} {x1 x2 : Bool} (h : AbAt w wr b g x1 x2 true) :
    Calls Try.prog 12 #[.pointer (some ⟨b, 0, none⟩), .slice none 0 0] wr fun e w' => e = .returned (.int .i64 6) ∧ AbAt w w' b g x1 x2 true := by
  obtain ⟨L, h1, h2, h3⟩ := h.fin
  refine (accept_failed b (abEnd x1 x2 true) L wr _ h1 rfl).mono ?_
  rintro e w' ⟨rfl, q, rfl⟩
  exact ⟨rfl, h.later (below_draw wr q)⟩
set_option maxHeartbeats 4000000 in
set_option maxRecDepth 100000 in
theorem abnormal_any (hl : LivesOk) (w : World) (s : Option Addr) (n c : Nat) (l : List Int) (h : Row .u8 w s n c l) :
    Calls Try.prog 7 #[.slice s n c] w fun e w' => e = .returned (.bool true) ∧ Below w.heap.size w w' := by
  have hnc := h.le
  have hmx := h.max
  unfold maxLen at hmx
  have H := Lib.hid h
  have HL := Lib.hid hl
  clear h hl
  go_enter Try.func7, Try.ntmps7
  go_wp2_with fail
  · refine (HL.out _).mono ?_
    rintro e w1 ⟨rfl, hb⟩
    have HB := Lib.hid hb
    clear hb
    go_wp2
    go_ret
    exact ⟨rfl, HB.out⟩
  · have hn : n ≤ 60 := by omega
    refine (enew_any w).mono ?_
    rintro e w1 ⟨rfl, h1, hb1⟩
    have H1 := Lib.hid h1
    have HB1 := Lib.hid hb1
    clear h1 hb1
    go_wp2_with fail
    refine (kmsg_row 0 w1 (by omega)).mono ?_
    rintro e w2 ⟨⟨rfl, hrv⟩, hb2⟩
    obtain ⟨ra, rc, hra, hrow, hrc, hrz⟩ := hrv
    cases hra
    have hacc := accept_ok w.heap.size En.zero ELay.none w2 _ 2 2 (loadK 0) (H1.out.later hb2) rfl (by decide) hrow (Nat.le_refl _) (by decide)
    have HA := Lib.hid hacc
    have HB2 := Lib.hid (HB1.out.trans (Below.mono hb2 HB1.out.size))
    clear hrow hb2 hrc hrz hacc
    go_wp2_with fail
    refine HA.out.mono ?_
    rintro e w3 ⟨rfl, L3, h3, ht3⟩
    have hS0 : ∀ k, ELay.none.S w.heap.size k → k = w.heap.size := fun k hk => by
      rcases hk with hk | hk | hk | hk
      · exact hk
      · simp [ELay.none] at hk
      · simp [ELay.none] at hk
      · exact hk.elim
    have hb3 : Below w.heap.size w w3 := HB2.out.trans (ht3.exc.below HB2.out.size (fun i _ hi => by rw [hS0 i hi]; exact Nat.le_refl _))
    have hS3 : ∀ k, L3.S w.heap.size k → w.heap.size ≤ k := fun k hk => by
      rcases ht3.lies k hk with h5 | h5
      · rw [hS0 k h5]; exact Nat.le_refl _
      · exact Nat.le_trans HB2.out.size h5
    obtain ⟨W4, hW4⟩ : ∃ X, X = w3.alloc (.cells #[.bool false, .bool false] 4) := ⟨_, rfl⟩
    have hb34 : Below w3.heap.size w3 W4 := by rw [hW4]; exact below_alloc _ _
    have o4 : Own W4 w3.heap.size 4 [.bool false, .bool false] := by rw [hW4]; exact own_lit w3 _ _ _ rfl
    have h4 := h3.later hb34
    have hAb : AbAt w W4 w.heap.size w3.heap.size false false false := ⟨o4, ⟨L3, h4, fun hk => by have := h3.s_lt _ hk; omega, hS3⟩, hb3.trans (Below.mono hb34 hb3.size)⟩
    have HAb := Lib.hid hAb
    have HW4 := Lib.hid hW4
    clear hAb h4 o4 hb34 hW4 hS3 hb3 hS0 h3 ht3 HA HB2 H1 HB1
    go_wp2_with fail
    rw [← HW4.out]
    go_loopw [4, 5, 6] (fun v f i wr => ∃ k g x1 x2 fl, k ≤ n ∧ i = .int .i64 (k : Nat) ∧ f = .bool fl ∧ v = .slice (some ⟨g, 0, Option.none⟩) 2 2 ∧ AbAt w wr w.heap.size g x1 x2 fl) (fun _ _ i _ => n - (intOf i).toNat)
    case atStart => exact ⟨0, w3.heap.size, false, false, false, Nat.zero_le _, rfl, rfl, rfl, HAb.out⟩
    case round =>
      obtain ⟨k, g, x1, x2, fl, hk, rfl, rfl, rfl, hab⟩ := hrel
      by_cases hlt : k < n
      · cases fl
        · have hki : (k : Int) < (n : Int) := by omega
          have hk0 : (0 : Int) ≤ (k : Int) := by omega
          have hr := H.out.later hab.bel
          have hx := wf_u8.1 (hr.wf (l.getD k 0) (by rw [List.getD_eq_getElem?_getD, List.getElem?_eq_getElem (by rw [hr.len]; exact hlt), Option.getD_some]; exact List.getElem_mem _))
          obtain ⟨bb, oo, hsa, hc⟩ : ∃ b o, s = some ⟨b, o, Option.none⟩ ∧ ∀ i, i < n → wr.cell? ⟨b, o + i, Option.none⟩ = some (.int .u8 (l.getD i 0)) := by
            rcases hr.cells with h0 | h1
            · omega
            · exact h1
          subst hsa
          have hck := hc k hlt
          obtain ⟨X, hX⟩ : ∃ X : Nat, l.getD k 0 = (X : Int) := ⟨(l.getD k 0).toNat, by omega⟩
          rw [hX] at hck hx
          have hX2 : (X : Int) ≤ 255 := hx.2
          have hX3 : X ≤ 255 := by omega
          obtain ⟨q0, q1⟩ : wr.cell? ⟨g, 0, Option.none⟩ = some (.bool x1) ∧ wr.cell? ⟨g, 1, Option.none⟩ = some (.bool x2) := ⟨hab.last.cell 0 (by simp), hab.last.cell 1 (by simp)⟩
          have hgl : g < wr.heap.size := hab.last.lt
          have hbl : bb < wr.heap.size := World.block_lt_of_cell? wr _ hck
          have hbn : bb ≠ wr.heap.size := by omega
          have hgn : g ≠ wr.heap.size := by omega
          have HAb2 := Lib.hid hab
          clear hr hc hX hx hab HAb
          have h4 : X % 4 = 0 ∨ X % 4 = 1 ∨ (X % 4 ≠ 0 ∧ X % 4 ≠ 1) := by omega
          rcases h4 with h4 | h4 | h4
          · obtain ⟨K, hK⟩ : ∃ K : Nat, K = X / 4 := ⟨_, rfl⟩
            have hKi : (X : Int) / 4 = (K : Int) := by omega
            have hK63 : K ≤ 63 := by omega
            have e0 : ((X : Int) % 4 == 0) = true := by simp; omega
            clear hK h4
            cases x1 <;> cases x2
            case false.false =>
              go_wp2_with fail
              obtain ⟨W5, hW5⟩ : ∃ Y, Y = (wr.alloc (.cells #[.int .u8 (K : Int), .bool true, .int .u8 127, .bool true, .int .u8 0, .int .u8 0, .slice none 0 0] 41)).alloc (.cells #[.bool false, .bool true] 4) := ⟨_, rfl⟩
              rw [← hW5]
              have hb5 : Below wr.heap.size wr W5 := by rw [hW5]; exact ((Below.refl _ _).alloc (Nat.le_refl _) _).alloc (by simp) _
              have o5 := own_lit (wr.alloc (.cells #[.int .u8 (K : Int), .bool true, .int .u8 127, .bool true, .int .u8 0, .int .u8 0, .slice none 0 0] 41)) 4 #[.bool false, .bool true] [.bool false, .bool true] rfl
              rw [← hW5, World.size_alloc] at o5
              have HH := Lib.hid (ab_hear HAb2.out hb5 o5 (Nat.le_succ _) (by omega) (ab_wrong hK63))
              clear hb5 o5 hW5 HAb2 q0 q1 hck hKi e0
              refine HH.out.mono ?_
              rintro e w6 ⟨⟨ra, rc, rfl⟩, hab6⟩
              have HA6 := Lib.hid hab6
              clear hab6 HH
              go_wp2_with fail
              have HF := Lib.hid (ab_failed HA6.out)
              clear HA6
              go_wp2_with fail
              refine HF.out.mono ?_
              rintro e w7 ⟨rfl, hab7⟩
              have HA7 := Lib.hid hab7
              clear hab7 HF
              go_wp2_with fail
              exact ⟨⟨k + 1, _, _, _, _, by omega, by go_num, rfl, rfl, HA7.out⟩, by simp [intOf]; omega⟩
            case false.true =>
              go_wp2_with fail
              obtain ⟨W5, hW5⟩ : ∃ Y, Y = (wr.alloc (.cells #[.int .u8 (K : Int), .bool true, .int .u8 127, .bool true, .int .u8 0, .int .u8 0, .slice none 0 0] 41)).alloc (.cells #[.bool true, .bool true] 4) := ⟨_, rfl⟩
              rw [← hW5]
              have hb5 : Below wr.heap.size wr W5 := by rw [hW5]; exact ((Below.refl _ _).alloc (Nat.le_refl _) _).alloc (by simp) _
              have o5 := own_lit (wr.alloc (.cells #[.int .u8 (K : Int), .bool true, .int .u8 127, .bool true, .int .u8 0, .int .u8 0, .slice none 0 0] 41)) 4 #[.bool true, .bool true] [.bool true, .bool true] rfl
              rw [← hW5, World.size_alloc] at o5
              have HH := Lib.hid (ab_hear HAb2.out hb5 o5 (Nat.le_succ _) (by omega) (ab_wrong hK63))
              clear hb5 o5 hW5 HAb2 q0 q1 hck hKi e0
              refine HH.out.mono ?_
              rintro e w6 ⟨⟨ra, rc, rfl⟩, hab6⟩
              have HA6 := Lib.hid hab6
              clear hab6 HH
              go_wp2_with fail
              have HF := Lib.hid (ab_failed HA6.out)
              clear HA6
              go_wp2_with fail
              refine HF.out.mono ?_
              rintro e w7 ⟨rfl, hab7⟩
              have HA7 := Lib.hid hab7
              clear hab7 HF
              go_wp2_with fail
              exact ⟨⟨k + 1, _, _, _, _, by omega, by go_num, rfl, rfl, HA7.out⟩, by simp [intOf]; omega⟩
            case true.false =>
              go_wp2_with fail
              obtain ⟨W5, hW5⟩ : ∃ Y, Y = (wr.alloc (.cells #[.int .u8 (K : Int), .bool true, .int .u8 127, .bool true, .int .u8 0, .int .u8 0, .slice none 0 0] 41)).alloc (.cells #[.bool false, .bool true] 4) := ⟨_, rfl⟩
              rw [← hW5]
              have hb5 : Below wr.heap.size wr W5 := by rw [hW5]; exact ((Below.refl _ _).alloc (Nat.le_refl _) _).alloc (by simp) _
              have o5 := own_lit (wr.alloc (.cells #[.int .u8 (K : Int), .bool true, .int .u8 127, .bool true, .int .u8 0, .int .u8 0, .slice none 0 0] 41)) 4 #[.bool false, .bool true] [.bool false, .bool true] rfl
              rw [← hW5, World.size_alloc] at o5
              have HH := Lib.hid (ab_hear HAb2.out hb5 o5 (Nat.le_succ _) (by omega) (ab_wrong hK63))
              clear hb5 o5 hW5 HAb2 q0 q1 hck hKi e0
              refine HH.out.mono ?_
              rintro e w6 ⟨⟨ra, rc, rfl⟩, hab6⟩
              have HA6 := Lib.hid hab6
              clear hab6 HH
              go_wp2_with fail
              have HF := Lib.hid (ab_failed HA6.out)
              clear HA6
              go_wp2_with fail
              refine HF.out.mono ?_
              rintro e w7 ⟨rfl, hab7⟩
              have HA7 := Lib.hid hab7
              clear hab7 HF
              go_wp2_with fail
              exact ⟨⟨k + 1, _, _, _, _, by omega, by go_num, rfl, rfl, HA7.out⟩, by simp [intOf]; omega⟩
            case true.true =>
              go_wp2_with fail
              obtain ⟨W5, hW5⟩ : ∃ Y, Y = (wr.alloc (.cells #[.int .u8 (K : Int), .bool true, .int .u8 127, .bool true, .int .u8 0, .int .u8 0, .slice none 0 0] 41)).alloc (.cells #[.bool true, .bool true] 4) := ⟨_, rfl⟩
              rw [← hW5]
              have hb5 : Below wr.heap.size wr W5 := by rw [hW5]; exact ((Below.refl _ _).alloc (Nat.le_refl _) _).alloc (by simp) _
              have o5 := own_lit (wr.alloc (.cells #[.int .u8 (K : Int), .bool true, .int .u8 127, .bool true, .int .u8 0, .int .u8 0, .slice none 0 0] 41)) 4 #[.bool true, .bool true] [.bool true, .bool true] rfl
              rw [← hW5, World.size_alloc] at o5
              have HH := Lib.hid (ab_hear HAb2.out hb5 o5 (Nat.le_succ _) (by omega) (ab_wrong hK63))
              clear hb5 o5 hW5 HAb2 q0 q1 hck hKi e0
              refine HH.out.mono ?_
              rintro e w6 ⟨⟨ra, rc, rfl⟩, hab6⟩
              have HA6 := Lib.hid hab6
              clear hab6 HH
              go_wp2_with fail
              have HF := Lib.hid (ab_failed HA6.out)
              clear HA6
              go_wp2_with fail
              refine HF.out.mono ?_
              rintro e w7 ⟨rfl, hab7⟩
              have HA7 := Lib.hid hab7
              clear hab7 HF
              go_wp2_with fail
              exact ⟨⟨k + 1, _, _, _, _, by omega, by go_num, rfl, rfl, HA7.out⟩, by simp [intOf]; omega⟩
          · obtain ⟨K, hK⟩ : ∃ K : Nat, K = X / 4 := ⟨_, rfl⟩
            have hKi : (X : Int) / 4 = (K : Int) := by omega
            have hK63 : K ≤ 63 := by omega
            have e0 : ((X : Int) % 4 == 0) = false := by simp; omega
            have e1 : ((X : Int) % 4 == 1) = true := by simp; omega
            clear hK h4
            go_wp2_with fail
            obtain ⟨W5, hW5⟩ : ∃ Y, Y = wr.alloc (.cells #[.int .u8 (K : Int), .bool true, .int .u8 127, .bool true, .int .u8 1, .int .u8 0, .slice none 0 0] 41) := ⟨_, rfl⟩
            rw [← hW5]
            have hb5 : Below wr.heap.size wr W5 := by rw [hW5]; exact below_alloc _ _
            have HH := Lib.hid (ab_state HAb2.out hb5 (K := K) (by omega))
            clear hb5 hW5 HAb2 q0 q1 hck hKi e0 e1
            refine HH.out.mono ?_
            rintro e w6 ⟨rfl, hab6⟩
            have HA6 := Lib.hid hab6
            clear hab6 HH
            go_wp2_with fail
            have HF := Lib.hid (ab_failed HA6.out)
            clear HA6
            go_wp2_with fail
            refine HF.out.mono ?_
            rintro e w7 ⟨rfl, hab7⟩
            have HA7 := Lib.hid hab7
            clear hab7 HF
            go_wp2_with fail
            exact ⟨⟨k + 1, _, _, _, _, by omega, by go_num, rfl, rfl, HA7.out⟩, by simp [intOf]; omega⟩
          · have e0 : ((X : Int) % 4 == 0) = false := by simp; omega
            have e1 : ((X : Int) % 4 == 1) = false := by simp; omega
            clear h4
            go_wp2_with fail
            obtain ⟨W5, hW5⟩ : ∃ Y, Y = (wr.alloc (.cells #[.int .u8 127, .bool true, .int .u8 127, .bool true, .int .u8 0, .int .u8 0, .slice none 0 0] 41)).alloc (.cells #[.bool x2, .bool false] 4) := ⟨_, rfl⟩
            rw [← hW5]
            have hb5 : Below wr.heap.size wr W5 := by rw [hW5]; exact ((Below.refl _ _).alloc (Nat.le_refl _) _).alloc (by simp) _
            have o5 := own_lit (wr.alloc (.cells #[.int .u8 127, .bool true, .int .u8 127, .bool true, .int .u8 0, .int .u8 0, .slice none 0 0] 41)) 4 #[.bool x2, .bool false] [.bool x2, .bool false] rfl
            rw [← hW5, World.size_alloc] at o5
            have HH := Lib.hid (ab_hear HAb2.out hb5 o5 (Nat.le_succ _) (K := 127) (by omega) ab_right)
            clear hb5 o5 hW5 HAb2 q0 q1 hck e0 e1
            refine HH.out.mono ?_
            rintro e w6 ⟨⟨ra, rc, rfl⟩, hab6⟩
            have HA6 := Lib.hid hab6
            clear hab6 HH
            go_wp2_with fail
            have HF := Lib.hid (ab_failed HA6.out)
            clear HA6
            go_wp2_with fail
            refine HF.out.mono ?_
            rintro e w7 ⟨rfl, hab7⟩
            have HA7 := Lib.hid hab7
            clear hab7 HF
            go_wp2_with fail
            exact ⟨⟨k + 1, _, _, _, _, by omega, by go_num, rfl, rfl, HA7.out⟩, by simp [intOf]; omega⟩
        · have hki : (k : Int) < (n : Int) := by omega
          have HR := Lib.hid (ab_rest hab)
          clear hab HAb
          go_wp2_with fail
          refine HR.out.mono ?_
          rintro e w5 ⟨⟨ra, rfl, hm⟩, hab5⟩
          have HM := Lib.hid hm
          have HA5 := Lib.hid hab5
          clear hm hab5 HR
          go_wp2_with fail
          refine (ab_list w5).mono ?_
          rintro e w6 ⟨⟨la, lc, rfl, hm6⟩, hb6⟩
          have HLs := Lib.hid (lists_same (fun _ => True) (fun _ => True) true ra la 1 lc [loadK 0] w6 (HM.out.later hb6) hm6)
          have HA6 := Lib.hid (HA5.out.later hb6)
          clear hm6 hb6 HM HA5
          go_wp2_with fail
          refine HLs.out.mono ?_
          rintro e w7 ⟨rfl, q7, hq7⟩
          have HA7 := Lib.hid (HA6.out.later (by rw [hq7]; exact below_draw w6 q7 : Below w6.heap.size w6 w7))
          clear hq7 HA6 HLs
          go_wp2_with fail
          have HNx := Lib.hid (ab_next HA7.out)
          clear HA7
          refine HNx.out.mono ?_
          rintro e w8 ⟨rfl, hab8⟩
          have HA8 := Lib.hid hab8
          clear hab8 HNx
          go_wp2_with fail
          obtain ⟨w9, hw9⟩ : ∃ Y, Y = w8.alloc (.cells #[.int .u8 0, .bool false, .int .u8 0, .bool false, .int .u8 0, .int .u8 0, .slice none 0 0] 41) := ⟨_, rfl⟩
          rw [← hw9]
          have HHf := Lib.hid (ab_hearf (HA8.out.later (by rw [hw9]; exact below_alloc _ _ : Below w8.heap.size w8 w9)))
          clear hw9 HA8
          refine HHf.out.mono ?_
          rintro e w10 ⟨rfl, hab10⟩
          have HAc := Lib.hid (ab_accept hab10)
          clear hab10 HHf
          go_wp2_with fail
          refine HAc.out.mono ?_
          rintro e w11 ⟨rfl, hab11⟩
          have HA11 := Lib.hid hab11
          clear hab11 HAc
          go_wp2_with fail
          refine (HL.out _).mono ?_
          rintro e w12 ⟨rfl, hb12⟩
          have HB12 := Lib.hid (HA11.out.bel.trans (Below.mono hb12 HA11.out.bel.size))
          clear hb12
          go_wp2
          go_ret
          exact ⟨rfl, HB12.out⟩
      · have hki : ¬ (k : Int) < (n : Int) := by omega
        cases fl
        · have HR := Lib.hid (ab_rest hab)
          clear hab HAb
          go_wp2_with fail
          refine HR.out.mono ?_
          rintro e w5 ⟨⟨ra, rfl, hm⟩, hab5⟩
          have HM := Lib.hid hm
          have HA5 := Lib.hid hab5
          clear hm hab5 HR
          go_wp2_with fail
          refine (ab_list w5).mono ?_
          rintro e w6 ⟨⟨la, lc, rfl, hm6⟩, hb6⟩
          have HLs := Lib.hid (lists_same (fun _ => True) (fun _ => True) true ra la 1 lc [loadK 0] w6 (HM.out.later hb6) hm6)
          have HA6 := Lib.hid (HA5.out.later hb6)
          clear hm6 hb6 HM HA5
          go_wp2_with fail
          refine HLs.out.mono ?_
          rintro e w7 ⟨rfl, q7, hq7⟩
          have HA7 := Lib.hid (HA6.out.later (by rw [hq7]; exact below_draw w6 q7 : Below w6.heap.size w6 w7))
          clear hq7 HA6 HLs
          go_wp2_with fail
          refine (HL.out _).mono ?_
          rintro e w8 ⟨rfl, hb8⟩
          have HB8 := Lib.hid (HA7.out.bel.trans (Below.mono hb8 HA7.out.bel.size))
          clear hb8
          go_wp2
          go_ret
          exact ⟨rfl, HB8.out⟩
        · have HR := Lib.hid (ab_rest hab)
          clear hab HAb
          go_wp2_with fail
          refine HR.out.mono ?_
          rintro e w5 ⟨⟨ra, rfl, hm⟩, hab5⟩
          have HM := Lib.hid hm
          have HA5 := Lib.hid hab5
          clear hm hab5 HR
          go_wp2_with fail
          refine (ab_list w5).mono ?_
          rintro e w6 ⟨⟨la, lc, rfl, hm6⟩, hb6⟩
          have HLs := Lib.hid (lists_same (fun _ => True) (fun _ => True) true ra la 1 lc [loadK 0] w6 (HM.out.later hb6) hm6)
          have HA6 := Lib.hid (HA5.out.later hb6)
          clear hm6 hb6 HM HA5
          go_wp2_with fail
          refine HLs.out.mono ?_
          rintro e w7 ⟨rfl, q7, hq7⟩
          have HA7 := Lib.hid (HA6.out.later (by rw [hq7]; exact below_draw w6 q7 : Below w6.heap.size w6 w7))
          clear hq7 HA6 HLs
          go_wp2_with fail
          have HNx := Lib.hid (ab_next HA7.out)
          clear HA7
          refine HNx.out.mono ?_
          rintro e w8 ⟨rfl, hab8⟩
          have HA8 := Lib.hid hab8
          clear hab8 HNx
          go_wp2_with fail
          obtain ⟨w9, hw9⟩ : ∃ Y, Y = w8.alloc (.cells #[.int .u8 0, .bool false, .int .u8 0, .bool false, .int .u8 0, .int .u8 0, .slice none 0 0] 41) := ⟨_, rfl⟩
          rw [← hw9]
          have HHf := Lib.hid (ab_hearf (HA8.out.later (by rw [hw9]; exact below_alloc _ _ : Below w8.heap.size w8 w9)))
          clear hw9 HA8
          refine HHf.out.mono ?_
          rintro e w10 ⟨rfl, hab10⟩
          have HAc := Lib.hid (ab_accept hab10)
          clear hab10 HHf
          go_wp2_with fail
          refine HAc.out.mono ?_
          rintro e w11 ⟨rfl, hab11⟩
          have HA11 := Lib.hid hab11
          clear hab11 HAc
          go_wp2_with fail
          refine (HL.out _).mono ?_
          rintro e w12 ⟨rfl, hb12⟩
          have HB12 := Lib.hid (HA11.out.bel.trans (Below.mono hb12 HA11.out.bel.size))
          clear hb12
          go_wp2
          go_ret
          exact ⟨rfl, HB12.out⟩
end Go.Proofs.Ytfoliplejhoaeaa
