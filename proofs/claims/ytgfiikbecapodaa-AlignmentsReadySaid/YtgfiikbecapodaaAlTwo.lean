/- Statements of layer 9: two alignments in memory. -/
import Derived.Test.YtgfiikbecapodaaAlPair
namespace Go.Proofs.Ytgfiikbecapodaa
open Go.RowKit

theorem AlAt.norm {w : World} {b g : Nat} {x : Al} (h : AlAt w b g x) : ∃ g', AlAt w b g' x ∧ g' < w.heap.size ∧ (g' = g ∨ g' = b) := by
  by_cases h3 : x.ph = 3
  · exact ⟨g, h, (h.mon h3).1.lt, .inl rfl⟩
  · obtain ⟨v, ho, _⟩ := h.own
    exact ⟨b, ⟨⟨v, ho, fun e => absurd e h3⟩, fun e => absurd e h3, h.fit⟩, h.lt, .inr rfl⟩
/-- At a the alignment x, at b the alignment y, all behind what was there in w0. -/
def Two (w0 w : World) (a b : Nat) (x y : Al) : Prop := ∃ ga gb, AlAt w a ga x ∧ AlAt w b gb y ∧ ga < w.heap.size ∧ gb < w.heap.size ∧ w0.heap.size ≤ a ∧ w0.heap.size ≤ b ∧ w0.heap.size ≤ ga ∧ w0.heap.size ≤ gb ∧ a ≠ b ∧ a ≠ gb ∧ ga ≠ b ∧ ga ≠ gb ∧ Below w0.heap.size w0 w
theorem Two.swap {w0 w : World} {a b : Nat} {x y : Al} (h : Two w0 w a b x y) : Two w0 w b a y x := by
  obtain ⟨ga, gb, h1, h2, h3, h4, h5, h6, h7, h8, h9, h10, h11, h12, h13⟩ := h
  exact ⟨gb, ga, h2, h1, h4, h3, h6, h5, h8, h7, fun e => h9 e.symm, fun e => h11 e.symm, fun e => h10 e.symm, fun e => h12 e.symm, h13⟩
theorem Two.oneA {w0 w : World} {a b : Nat} {x y : Al} (h : Two w0 w a b x y) : One w0 w a x := by
  obtain ⟨ga, gb, h1, h2, h3, h4, h5, h6, h7, h8, h9, h10, h11, h12, h13⟩ := h
  exact ⟨ga, h1, h5, h7, h13⟩
theorem Two.oneB {w0 w : World} {a b : Nat} {x y : Al} (h : Two w0 w a b x y) : One w0 w b y := h.swap.oneA
theorem Two.bel {w0 w : World} {a b : Nat} {x y : Al} (h : Two w0 w a b x y) : Below w0.heap.size w0 w := h.oneA.bel
theorem Two.next {w0 w w' : World} {a b ga gb : Nat} {x' y : Al} (h2 : AlAt w b gb y) (h4 : gb < w.heap.size) (h5 : w0.heap.size ≤ a) (h6 : w0.heap.size ≤ b) (h7 : w0.heap.size ≤ ga) (h8 : w0.heap.size ≤ gb) (h9 : a ≠ b) (h10 : a ≠ gb) (h11 : ga ≠ b) (h12 : ga ≠ gb) (h13 : Below w0.heap.size w0 w) (hn : Next w a ga x' w') : Two w0 w' a b x' y := by
  obtain ⟨g', n1, n2, n3⟩ := hn
  obtain ⟨g2, m1, m2, m3⟩ := n1.norm
  have hbl := h2.lt
  have hsz := h13.size
  have hsz2 := n2.size
  refine ⟨g2, gb, m1, h2.exc n2 (fun e => e.elim (fun e => h9 e.symm) (fun e => h11 e.symm)) (fun e => e.elim (fun e => h10 e.symm) (fun e => h12 e.symm)), m2, by omega, h5, h6, ?_, h8, h9, h10, ?_, ?_, h13.trans (n2.below hsz (fun i _ h => by omega))⟩
  · omega
  · omega
  · omega
theorem Two.drew {w0 w : World} {a b : Nat} {x y : Al} (h : Two w0 w a b x y) (q : Nat) : Two w0 (w.drewN q) a b x y := by
  obtain ⟨ga, gb, h1, h2, h3, h4, h5, h6, h7, h8, h9, h10, h11, h12, h13⟩ := h
  have hs := (below_draw w q).size
  exact ⟨ga, gb, h1.below (below_draw w q), h2.below (below_draw w q), by omega, by omega, h5, h6, h7, h8, h9, h10, h11, h12, h13.trans (Below.mono (below_draw w q) h13.size)⟩
/-- A new one beside another one. -/
theorem Two.new {w0 w w' : World} {a b : Nat} {x y : Al} (h : One w0 w a x) (h3 : x.ph ≠ 3) (hw : Below w.heap.size w w') (hb : w.heap.size ≤ b) (h' : One w0 w' b y) (h3' : y.ph ≠ 3) : Two w0 w' a b x y := by
  have hl := h.lt
  obtain ⟨ga, h1, h2, _, h4⟩ := h.more hw
  obtain ⟨gb, k1, k2, _, k4⟩ := h'
  obtain ⟨v, ho, _⟩ := h1.own
  obtain ⟨u, ko, _⟩ := k1.own
  exact ⟨a, b, ⟨⟨v, ho, fun e => absurd e h3⟩, fun e => absurd e h3, h1.fit⟩, ⟨⟨u, ko, fun e => absurd e h3'⟩, fun e => absurd e h3', k1.fit⟩, h1.lt, k1.lt, h2, k2, h2, k2, by omega, by omega, by omega, by omega, k4⟩
theorem tick_two {w0 w : World} {a b : Nat} {x y : Al} (h : Two w0 w a b x y) :
    Calls Try.prog 20 #[.pointer (some ⟨a, 0, none⟩)] w fun e w' => e = .returned (.int .i64 0) ∧ Two w0 w' a b (x.tick) y := by
  obtain ⟨ga, gb, h1, h2, h3, h4, h5, h6, h7, h8, h9, h10, h11, h12, h13⟩ := h
  refine (tick_any a ga x w h1).mono ?_
  rintro e w' ⟨rfl, hn⟩
  exact ⟨rfl, Two.next h2 h4 h5 h6 h7 h8 h9 h10 h11 h12 h13 hn⟩
theorem start0_two {w0 w : World} {a b : Nat} {x y : Al} (h : Two w0 w a b x y) (u : Bool) :
    Calls Try.prog 19 #[.pointer (some ⟨a, 0, none⟩), .bool u] w fun e w' => e = .returned (.int .i64 ((if x.ph = 0 ∨ x.ph = 5 then 0 else 6 : Nat) : Int)) ∧ Two w0 w' a b (x.begin u) y := by
  obtain ⟨ga, gb, h1, h2, h3, h4, h5, h6, h7, h8, h9, h10, h11, h12, h13⟩ := h
  refine (start_any a ga x u w h1).mono ?_
  rintro e w' ⟨rfl, hn⟩
  exact ⟨rfl, Two.next h2 h4 h5 h6 h7 h8 h9 h10 h11 h12 h13 hn⟩
theorem start_two {w0 w : World} {a b : Nat} {x y : Al} (h : Two w0 w a b x y) (u : Bool) (hp : x.ph = 0 ∨ x.ph = 5) :
    Calls Try.prog 19 #[.pointer (some ⟨a, 0, none⟩), .bool u] w fun e w' => e = .returned (.int .i64 0) ∧ Two w0 w' a b (x.start u) y := by
  refine (start0_two h u).mono ?_
  rintro e w' ⟨rfl, h⟩
  rw [if_pos hp]
  rw [show x.begin u = x.start u by unfold Al.begin; rw [if_pos hp]] at h
  exact ⟨rfl, h⟩
theorem hear0_two {w0 w : World} {a b : Nat} {x y : Al} (h : Two w0 w a b x y) (s : Nat) (hp : x.prov ≤ 1000000) (hs : s ≤ 255) :
    Calls Try.prog 24 #[.pointer (some ⟨a, 0, none⟩), .int .u8 (s : Int)] w fun e w' => e = .returned (.int .i64 ((if 5 < s then 1 else 0 : Nat) : Int)) ∧ Two w0 w' a b (if 5 < s then x else x.hear s) y := by
  obtain ⟨ga, gb, h1, h2, h3, h4, h5, h6, h7, h8, h9, h10, h11, h12, h13⟩ := h
  refine (hear_any a ga s x w h1 hp hs).mono ?_
  rintro e w' ⟨rfl, hn⟩
  exact ⟨rfl, Two.next h2 h4 h5 h6 h7 h8 h9 h10 h11 h12 h13 hn⟩
theorem hear_two {w0 w : World} {a b : Nat} {x y : Al} (h : Two w0 w a b x y) (s : Nat) (hp : x.prov ≤ 1000000) (hs : s ≤ 5) :
    Calls Try.prog 24 #[.pointer (some ⟨a, 0, none⟩), .int .u8 (s : Int)] w fun e w' => e = .returned (.int .i64 0) ∧ Two w0 w' a b (x.hear s) y := by
  refine (hear0_two h s hp (by omega)).mono ?_
  rintro e w' ⟨rfl, h⟩
  rw [if_neg (by omega)]
  rw [if_neg (by omega)] at h
  exact ⟨rfl, h⟩
theorem tick_twoB {w0 w : World} {a b : Nat} {x y : Al} (h : Two w0 w a b x y) :
    Calls Try.prog 20 #[.pointer (some ⟨b, 0, none⟩)] w fun e w' => e = .returned (.int .i64 0) ∧ Two w0 w' a b x y.tick := by
  refine (tick_two h.swap).mono ?_
  rintro e w' ⟨rfl, h⟩
  exact ⟨rfl, h.swap⟩
theorem start_twoB {w0 w : World} {a b : Nat} {x y : Al} (h : Two w0 w a b x y) (u : Bool) (hp : y.ph = 0 ∨ y.ph = 5) :
    Calls Try.prog 19 #[.pointer (some ⟨b, 0, none⟩), .bool u] w fun e w' => e = .returned (.int .i64 0) ∧ Two w0 w' a b x (y.start u) := by
  refine (start_two h.swap u hp).mono ?_
  rintro e w' ⟨rfl, h⟩
  exact ⟨rfl, h.swap⟩
theorem hear_twoB {w0 w : World} {a b : Nat} {x y : Al} (h : Two w0 w a b x y) (s : Nat) (hp : y.prov ≤ 1000000) (hs : s ≤ 5) :
    Calls Try.prog 24 #[.pointer (some ⟨b, 0, none⟩), .int .u8 (s : Int)] w fun e w' => e = .returned (.int .i64 0) ∧ Two w0 w' a b x (y.hear s) := by
  refine (hear_two h.swap s hp hs).mono ?_
  rintro e w' ⟨rfl, h⟩
  exact ⟨rfl, h.swap⟩
set_option maxHeartbeats 1000000 in
set_option maxRecDepth 100000 in
theorem exchange_two {w0 w : World} {a b : Nat} {x y : Al} (h : Two w0 w a b x y) (hx : x.prov ≤ 1000) (hy : y.prov ≤ 1000) :
    Calls Try.prog 21 #[.pointer (some ⟨a, 0, none⟩), .pointer (some ⟨b, 0, none⟩)] w fun e w' => e = .returned (.tuple #[]) ∧ Two w0 w' a b (exA x y) (exB x y) := by
  have hs1 := sends_one h.oneB
  have hh1 := hear_two h y.sent (by omega) (by have := Al.sent_le y; omega)
  have hx1 : x.hears y = if y.sents then x.hear y.sent else x := rfl
  obtain ⟨x1, hx1e⟩ : ∃ x1, x1 = x.hears y := ⟨_, rfl⟩
  have hA : exA x y = x1.tick := by rw [hx1e]; rfl
  have hB : exB x y = (y.hears x1).tick := by rw [hx1e]; rfl
  rw [hA, hB]
  obtain ⟨s, hs⟩ : ∃ s, s = y.sent := ⟨_, rfl⟩
  rw [← hs] at hs1 hh1 hx1
  have H := Lib.hid h
  have HS1 := Lib.hid hs1
  have HH1 := Lib.hid hh1
  have HX1 := Lib.hid hx1
  have HXe := Lib.hid hx1e
  have HY := Lib.hid hy
  have hy1 : y.hears x1 = if x1.sents then y.hear x1.sent else y := rfl
  obtain ⟨s1, hs1e⟩ : ∃ s1, s1 = x1.sent := ⟨_, rfl⟩
  have hs1l : s1 ≤ 5 := by have := Al.sent_le x1; omega
  rw [← hs1e] at hy1
  have HL := Lib.hid hs1l
  have HE1 := Lib.hid hs1e
  have HY1 := Lib.hid hy1
  obtain ⟨y1, hy1e⟩ : ∃ y1, y1 = y.hears x1 := ⟨_, rfl⟩
  rw [← hy1e]
  have HYe := Lib.hid hy1e
  clear h hs1 hh1 hx1 hx1e hA hB hs hx hy hy1 hs1e hs1l hy1e
  cases hq : y.sents
  · have hxx : x1 = x := by rw [HXe.out, HX1.out, hq]; rfl
    rw [hq] at HS1
    have H2 := H
    rw [← hxx] at H2
    clear hq hxx H
    go_enter Try.func21, Try.ntmps21
    go_wp2_with fail
    with_reducible refine HS1.out.mono ?_
    rintro e w' ⟨rfl, rfl⟩
    have hs2 := sends_one H2.out.oneA
    rw [← HE1.out] at hs2
    have HS2 := Lib.hid hs2
    clear hs2
    cases hq1 : x1.sents
    · have HQ1 := Lib.hid (show y1 = y by rw [HYe.out, HY1.out, hq1]; rfl)
      rw [hq1] at HS2
      clear hq1
      go_wp2_with fail
      with_reducible refine HS2.out.mono ?_
      rintro e w' ⟨rfl, rfl⟩
      go_wp2_with fail
      with_reducible refine (tick_two H2.out).mono ?_
      rintro e w4 ⟨rfl, h4⟩
      have H4 := Lib.hid h4
      clear h4
      go_wp2_with fail
      with_reducible refine (tick_twoB H4.out).mono ?_
      rintro e w5 ⟨rfl, h5⟩
      have H5 := Lib.hid h5
      clear h5
      go_wp2
      go_end0
      rw [HQ1.out]
      exact ⟨rfl, H5.out⟩
    · have HQ1 := Lib.hid (show y1 = y.hear s1 by rw [HYe.out, HY1.out, hq1]; rfl)
      rw [hq1] at HS2
      clear hq1
      go_wp2_with fail
      with_reducible refine HS2.out.mono ?_
      rintro e w' ⟨rfl, rfl⟩
      go_wp2_with fail
      with_reducible refine (hear_twoB H2.out s1 (by have := HY.out; omega) HL.out).mono ?_
      rintro e w3 ⟨rfl, h3⟩
      have H3 := Lib.hid h3
      clear h3
      go_wp2_with fail
      with_reducible refine (tick_two H3.out).mono ?_
      rintro e w4 ⟨rfl, h4⟩
      have H4 := Lib.hid h4
      clear h4
      go_wp2_with fail
      with_reducible refine (tick_twoB H4.out).mono ?_
      rintro e w5 ⟨rfl, h5⟩
      have H5 := Lib.hid h5
      clear h5
      go_wp2
      go_end0
      rw [HQ1.out]
      exact ⟨rfl, H5.out⟩
  · have hxx : x1 = x.hear s := by rw [HXe.out, HX1.out, hq]; rfl
    rw [hq] at HS1
    rw [← hxx] at HH1
    clear hq hxx H
    go_enter Try.func21, Try.ntmps21
    go_wp2_with fail
    with_reducible refine HS1.out.mono ?_
    rintro e w' ⟨rfl, rfl⟩
    go_wp2_with fail
    with_reducible refine HH1.out.mono ?_
    rintro e w2 ⟨rfl, h2⟩
    have H2 := Lib.hid h2
    clear h2 HH1
    have hs2 := sends_one H2.out.oneA
    rw [← HE1.out] at hs2
    have HS2 := Lib.hid hs2
    clear hs2
    cases hq1 : x1.sents
    · have HQ1 := Lib.hid (show y1 = y by rw [HYe.out, HY1.out, hq1]; rfl)
      rw [hq1] at HS2
      clear hq1
      go_wp2_with fail
      with_reducible refine HS2.out.mono ?_
      rintro e w' ⟨rfl, rfl⟩
      go_wp2_with fail
      with_reducible refine (tick_two H2.out).mono ?_
      rintro e w4 ⟨rfl, h4⟩
      have H4 := Lib.hid h4
      clear h4
      go_wp2_with fail
      with_reducible refine (tick_twoB H4.out).mono ?_
      rintro e w5 ⟨rfl, h5⟩
      have H5 := Lib.hid h5
      clear h5
      go_wp2
      go_end0
      rw [HQ1.out]
      exact ⟨rfl, H5.out⟩
    · have HQ1 := Lib.hid (show y1 = y.hear s1 by rw [HYe.out, HY1.out, hq1]; rfl)
      rw [hq1] at HS2
      clear hq1
      go_wp2_with fail
      with_reducible refine HS2.out.mono ?_
      rintro e w' ⟨rfl, rfl⟩
      go_wp2_with fail
      with_reducible refine (hear_twoB H2.out s1 (by have := HY.out; omega) HL.out).mono ?_
      rintro e w3 ⟨rfl, h3⟩
      have H3 := Lib.hid h3
      clear h3
      go_wp2_with fail
      with_reducible refine (tick_two H3.out).mono ?_
      rintro e w4 ⟨rfl, h4⟩
      have H4 := Lib.hid h4
      clear h4
      go_wp2_with fail
      with_reducible refine (tick_twoB H4.out).mono ?_
      rintro e w5 ⟨rfl, h5⟩
      have H5 := Lib.hid h5
      clear h5
      go_wp2
      go_end0
      rw [HQ1.out]
      exact ⟨rfl, H5.out⟩
end Go.Proofs.Ytgfiikbecapodaa
