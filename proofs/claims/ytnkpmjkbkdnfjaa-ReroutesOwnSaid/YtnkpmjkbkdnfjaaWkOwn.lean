/- ReroutesOwn: a gate keeps items as they were, whatever happens to the arguments. -/
import Derived.Test.YtnkpmjkbkdnfjaaRrLives
import Derived.Test.YtnkpmjkbkdnfjaaLsOf2
import Derived.Test.YtnkpmjkbkdnfjaaMlOpen
import Derived.Test.YtnkpmjkbkdnfjaaRowStr
import Derived.BigQuiet
import Derived.Deep.RegionHeld3
import Derived.StillTailTactics
namespace Go.Proofs.Ytnkpmjkbkdnfjaa
open Go.RowKit

/-- A message of the law's own: its block p; its contents may be written. -/
structure MsgAt (w : World) (p : Nat) (A0 A1 A2 A3 A4 A5 : Int) (s : Option Addr) (m q : Nat) : Prop where
  own : Own w p 54 [.int .u8 A0, .int .u8 A1, .int .u8 A2, .int .u16 A3, .int .u16 A4, .int .u8 A5, .slice s m q]
  dat : m = 0 ∨ ∃ g cs, s = some ⟨g, 0, none⟩ ∧ Own w g 5 cs ∧ m ≤ cs.length
theorem MsgAt.exc {T : Nat → Prop} {w w' : World} {p : Nat} {A0 A1 A2 A3 A4 A5 : Int} {s : Option Addr} {m q : Nat} (h : MsgAt w p A0 A1 A2 A3 A4 A5 s m q) (hx : Exc T w w') (h1 : ¬ T p) (h2 : ∀ z, s = some z → ¬ T z.block) : MsgAt w' p A0 A1 A2 A3 A4 A5 s m q := by
  refine ⟨h.own.exc hx h1, ?_⟩
  rcases h.dat with h0 | ⟨g, cs, hs, ho, hl⟩
  · exact .inl h0
  · exact .inr ⟨g, cs, hs, ho.exc hx (h2 _ hs), hl⟩
theorem MsgAt.later {w w' : World} {p : Nat} {A0 A1 A2 A3 A4 A5 : Int} {s : Option Addr} {m q : Nat} (h : MsgAt w p A0 A1 A2 A3 A4 A5 s m q) (hb : Below w.heap.size w w') : MsgAt w' p A0 A1 A2 A3 A4 A5 s m q := h.exc (T := fun _ => False) (Exc.of_below hb) (fun hh => hh) (fun _ _ hh => hh)
theorem MsgAt.write {w : World} {p g k : Nat} {A0 A1 A2 A3 A4 A5 : Int} {m q : Nat} {cs : List Value} {v : Value} (h : MsgAt w p A0 A1 A2 A3 A4 A5 (some ⟨g, 0, none⟩) m q) (ho : Own w g 5 cs) (hl : m ≤ cs.length) (hp : p ≠ g) : MsgAt (w.setCell ⟨g, k, none⟩ v) p A0 A1 A2 A3 A4 A5 (some ⟨g, 0, none⟩) m q :=
  ⟨h.own.other ⟨g, k, none⟩ hp v, .inr ⟨g, _, rfl, ho.set k v, by rw [List.length_set]; exact hl⟩⟩
/-- What Of hands out, laid into a block. -/
theorem msg_of {w w2 : World} {A0 A1 A2 A3 A4 A5 : Int} {s : Option Addr} {m q : Nat} {l : List Int} (ho : w2.ownsRow w.heap.size 5 1 (.slice s m q) m (nums .u8 l)) :
    MsgAt (w2.alloc (.cells #[.int .u8 A0, .int .u8 A1, .int .u8 A2, .int .u16 A3, .int .u16 A4, .int .u8 A5, .slice s m q] 54)) w2.heap.size A0 A1 A2 A3 A4 A5 s m q := by
  refine ⟨own_lit w2 _ _ _ rfl, ?_⟩
  rcases Nat.eq_zero_or_pos m with h0 | h0
  · exact .inl h0
  · obtain ⟨g, c', rest, he, _, hg⟩ := ownsRow_own ho h0
    cases he
    have := hg.lt
    refine .inr ⟨g, _, rfl, hg.below (below_alloc w2 _) hg.lt, ?_⟩
    have hl : (nums .u8 l).length = m := by have := ho.1; omega
    rw [List.length_append, hl]; omega
theorem one_of {C : List It} {y : It} (h : C.map It.bare = [y].map It.bare) : ∃ s, C = [{ y with loc := s }] := by
  rcases C with _ | ⟨z, _ | ⟨z2, C⟩⟩
  · simp at h
  · have h1 : z.bare = y.bare := by simpa using h
    refine ⟨z.loc, ?_⟩
    cases z; cases y
    simp only [It.bare, It.mk.injEq] at h1
    simp [h1]
  · simp at h
set_option maxHeartbeats 8000000 in
set_option maxRecDepth 100000 in
theorem own_walk (sv nw pr tp fr sl : Int) (a : Option Addr) (n c : Nat) (l : List Int) (x : Int) (w : World) (h0 : (Lit.int .u8 sv).wf = true) (h1 : (Lit.int .u8 nw).wf = true) (h2 : (Lit.int .u8 pr).wf = true) (h3 : (Lit.int .u16 tp).wf = true) (h4 : (Lit.int .u16 fr).wf = true) (h5 : (Lit.int .u8 sl).wf = true) (hr : Row .u8 w a n c l) (_hx : (Lit.int .u8 x).wf = true) :
    Calls Try.prog 7 #[.agg #[.int .u8 sv, .int .u8 nw, .int .u8 pr, .int .u16 tp, .int .u16 fr, .int .u8 sl, .slice a n c], .int .u8 x] w fun e w' => e = .returned (.bool true) ∧ Below w.heap.size w w' := by
  have o0 := own_lit w 66 #[.int .u8 sv, .int .u8 nw, .int .u8 pr, .int .u16 tp, .int .u16 fr, .int .u8 sl, .slice a n c] _ rfl
  have hb0 : Below w.heap.size w (w.alloc (.cells #[.int .u8 sv, .int .u8 nw, .int .u8 pr, .int .u16 tp, .int .u16 fr, .int .u8 sl, .slice a n c] 66)) := below_alloc _ _
  have H0 := Lib.hid (And.intro o0 hb0)
  have HR := Lib.hid hr
  have HOf := Lib.hid (fun W (h : Row .u8 W a n c l) => of_own sv nw pr tp fr sl a n c l W h (wf_u8.1 h0).1 (wf_u8.1 h1).1 (wf_u8.1 h2).1 (wf_u16q h3).1 (wf_u16q h4).1 (wf_u8.1 h5).1)
  clear hr o0 hb0 h0 h1 h2 h3 h4 h5
  go_enter Try.func7, Try.ntmps7
  go_wp2_with fail
  generalize (w.alloc (.cells #[.int .u8 sv, .int .u8 nw, .int .u8 pr, .int .u16 tp, .int .u16 fr, .int .u8 sl, .slice a n c] 66)) = W0 at *
  obtain ⟨pm, hpm⟩ : ∃ p, p = w.heap.size := ⟨_, rfl⟩
  obtain ⟨o0, b0⟩ := H0.out
  rw [← hpm] at o0
  rw [← hpm]
  have HM0 := Lib.hid (And.intro o0 (And.intro b0 hpm))
  clear o0 b0 H0 hpm
  refine (new_any 0 W0 (by decide) (by decide)).mono ?_
  rintro e w1 ⟨rfl, hn1, hb1⟩
  obtain ⟨b, hb⟩ : ∃ b, b = W0.heap.size := ⟨_, rfl⟩
  rw [← hb] at hn1 ⊢
  obtain ⟨x0, hx0⟩ : ∃ x, x = Gt.fresh 0 := ⟨_, rfl⟩
  rw [← hx0] at hn1
  have hg0 : ∀ k, x0.S b k → k = b := by
    rw [hx0]
    rintro k ((hk | hk) | ⟨y, hy, _⟩)
    · exact hk
    · cases hk
    · cases hy
  have o1 := HM0.out.1.below hb1 HM0.out.1.lt
  have hB1 : Below w.heap.size w w1 := HM0.out.2.1.trans (hb1.mono HM0.out.2.1.size)
  have HG1 := Lib.hid (And.intro hn1 (And.intro hg0 hx0))
  have HW1 := Lib.hid (And.intro o1 (And.intro hB1 (And.intro hb (And.intro HM0.out.2.2 (And.intro HM0.out.1.lt hn1.own.lt)))))
  obtain ⟨c0, c1, c2, c3, c4, c5, c6⟩ := unit_cells o1
  clear hn1 hb1 hb o1 hB1 hg0 hx0 HM0
  go_wp2_with fail
  refine (HOf.out w1 (HR.out.later HW1.out.2.1)).mono ?_
  rintro e w2 ⟨s, m, q, rfl, hown2, hm40, hb2⟩
  obtain ⟨A0, hA0⟩ : ∃ A, A = sv % 16 := ⟨_, rfl⟩
  obtain ⟨A1, hA1⟩ : ∃ A, A = nw % 4 := ⟨_, rfl⟩
  obtain ⟨A2, hA2⟩ : ∃ A, A = pr % 4 := ⟨_, rfl⟩
  obtain ⟨A3, hA3⟩ : ∃ A, A = tp % 16384 := ⟨_, rfl⟩
  obtain ⟨A4, hA4⟩ : ∃ A, A = fr % 16384 := ⟨_, rfl⟩
  obtain ⟨A5, hA5⟩ : ∃ A, A = sl % 16 := ⟨_, rfl⟩
  rw [← hA0, ← hA1, ← hA2, ← hA3, ← hA4, ← hA5]
  have HOf := Lib.hid (show ∀ W, Row .u8 W a n c l → Calls Try.prog 24 #[.agg #[.int .u8 sv, .int .u8 nw, .int .u8 pr, .int .u16 tp, .int .u16 fr, .int .u8 sl, .slice a n c]] W fun e w' =>
      ∃ s m q, e = .returned (.agg #[.int .u8 A0, .int .u8 A1, .int .u8 A2, .int .u16 A3, .int .u16 A4, .int .u8 A5, .slice s m q]) ∧ w'.ownsRow W.heap.size 5 1 (.slice s m q) m (nums .u8 (l.take 40)) ∧ m ≤ 40 ∧ Below W.heap.size W w' by
    rw [hA0, hA1, hA2, hA3, hA4, hA5]; exact HOf.out)
  clear hA0 hA1 hA2 hA3 hA4 hA5
  have hrow2 : Row .u8 w2 s m q (l.take 40) := by
    obtain ⟨a', c', he, hr', _⟩ := ownsRow_rowN .u8 hown2 (fun z hz => HR.out.wf z (List.mem_of_mem_take hz))
    cases he
    exact hr'
  have hlen : (l.take 40).length = m := hrow2.len
  have hmx := msg_of (A0 := A0) (A1 := A1) (A2 := A2) (A3 := A3) (A4 := A4) (A5 := A5) hown2
  have hz2 : ∀ z, s = some z → w1.heap.size ≤ z.block ∧ z.block < w2.heap.size := fun z hz => World.ownsRow.lt hown2 z.block (by rw [hz]; rfl)
  have hb3 := below_alloc w2 (.cells #[.int .u8 A0, .int .u8 A1, .int .u8 A2, .int .u16 A3, .int .u16 A4, .int .u8 A5, .slice s m q] 54)
  have hb23 := hb2.trans (hb3.mono hb2.size)
  have o3 := HW1.out.1.below hb23 HW1.out.1.lt
  have hB3 := HW1.out.2.1.trans (hb23.mono HW1.out.2.1.size)
  have hs3 : (w2.alloc (.cells #[.int .u8 A0, .int .u8 A1, .int .u8 A2, .int .u16 A3, .int .u16 A4, .int .u8 A5, .slice s m q] 54)).heap.size = w2.heap.size + 1 := by simp
  have HG3 := Lib.hid (And.intro (HG1.out.1.later hb23) HG1.out.2)
  have HX3 := Lib.hid (And.intro hmx (And.intro (hrow2.later hb3) (And.intro hz2 (And.intro hb2.size hs3))))
  have HW3 := Lib.hid (And.intro o3 hB3)
  have HL := Lib.hid (And.intro hlen hm40)
  clear hown2 hm40 hb2 hrow2 hlen hmx hz2 hb3 hb23 o3 hB3 hs3 c0 c1 c2 c3 c4 c5 c6 HG1
  go_upto_region 5 with fail
  generalize w2.alloc _ = W3 at HG3 HX3 HW3 ⊢
  obtain ⟨px, hpx⟩ : ∃ p, p = w2.heap.size := ⟨_, rfl⟩
  have hx3 := HX3.out
  rw [← hpx] at hx3 ⊢
  have HX3 := Lib.hid hx3
  have HPx := Lib.hid hpx
  clear hx3 hpx
  obtain ⟨c0, c1, c2, c3, c4, c5, c6⟩ := unit_cells HW3.out.1
  go_wp2_with fail
  refine (HOf.out W3 (HR.out.later HW3.out.2)).mono ?_
  rintro e w4 ⟨s2, m2, q2, rfl, hown4, _, hb4⟩
  have hrow4 : Row .u8 w4 s2 m2 q2 (l.take 40) := by
    obtain ⟨a', c', he, hr', _⟩ := ownsRow_rowN .u8 hown4 (fun z hz => HR.out.wf z (List.mem_of_mem_take hz))
    cases he
    exact hr'
  obtain rfl : m = m2 := by have h1 := hrow4.len; have h2 := HL.out.1; omega
  have hmy := msg_of (A0 := A0) (A1 := A1) (A2 := A2) (A3 := A3) (A4 := A4) (A5 := A5) hown4
  have hz4 : ∀ z, s2 = some z → W3.heap.size ≤ z.block ∧ z.block < w4.heap.size := fun z hz => World.ownsRow.lt hown4 z.block (by rw [hz]; rfl)
  have hb5 := below_alloc w4 (.cells #[.int .u8 A0, .int .u8 A1, .int .u8 A2, .int .u16 A3, .int .u16 A4, .int .u8 A5, .slice s2 m q2] 54)
  have hb45 := hb4.trans (hb5.mono hb4.size)
  have hs5 : (w4.alloc (.cells #[.int .u8 A0, .int .u8 A1, .int .u8 A2, .int .u16 A3, .int .u16 A4, .int .u8 A5, .slice s2 m q2] 54)).heap.size = w4.heap.size + 1 := by simp
  have HG5 := Lib.hid (And.intro (HG3.out.1.later hb45) HG3.out.2)
  have HX5 := Lib.hid (And.intro (HX3.out.1.later hb45) (And.intro (HX3.out.2.1.later hb45) HX3.out.2.2))
  have HY5 := Lib.hid (And.intro hmy (And.intro (hrow4.later hb5) (And.intro hz4 (And.intro hb4.size hs5))))
  have HW5 := Lib.hid (And.intro (HW3.out.1.below hb45 HW3.out.1.lt) (HW3.out.2.trans (hb45.mono HW3.out.2.size)))
  clear hown4 hb4 hrow4 hmy hz4 hb5 hb45 hs5 c0 c1 c2 c3 c4 c5 c6 HG3 HX3 HW3
  go_upto_region 6 with fail
  generalize w4.alloc _ = W5 at HG5 HX5 HY5 HW5 ⊢
  obtain ⟨py, hpy⟩ : ∃ p, p = w4.heap.size := ⟨_, rfl⟩
  have hy5 := HY5.out
  rw [← hpy] at hy5 ⊢
  have HY5 := Lib.hid hy5
  have HPy := Lib.hid hpy
  clear hy5 hpy
  obtain ⟨c0, c1, c2, c3, c4, c5, c6⟩ := unit_cells HX5.out.1.own
  have hof := offer_ok b x0 1 A0 A1 A2 A3 A4 A5 s m q (l.take 40) W5 HG5.out.1 (by rw [HG5.out.2.2]; decide) HX5.out.2.1 (by have := HL.out.2; omega)
  have HOff := Lib.hid hof
  clear hof
  go_wp2_with fail
  refine HOff.out.mono ?_
  rintro e w6 ⟨rfl, s6, g6, a6, c6', ht⟩
  obtain ⟨X1, hX1⟩ : ∃ X : Gt, X = { x0 with its := x0.its ++ [⟨1, A0, A1, A2, A3, A4, A5, l.take 40, s6⟩], g := g6, a := a6, c := c6' } := ⟨_, rfl⟩
  have ht : GtTo W5 b x0 X1 w6 := by rw [hX1]; exact ht
  -- where all lies
  have hloc : pm < b ∧ b < w1.heap.size ∧ px < W3.heap.size ∧ w2.heap.size ≤ px ∧ py < W5.heap.size ∧ w4.heap.size ≤ py ∧ W3.heap.size ≤ w4.heap.size ∧ w1.heap.size ≤ w2.heap.size := by
    obtain ⟨_, _, e1, e2, e3⟩ := HW1.out
    have e4 := HPx.out
    have e5 := HPy.out
    have e6 := HX5.out.2.2.2.2
    have e7 := HY5.out.2.2.2.2
    have e8 := HX5.out.2.2.2.1
    have e9 := HY5.out.2.2.2.1
    omega
  have hTb : ∀ k, x0.T b k → k = b := fun k hk => HG5.out.2.1 k (.inl hk)
  have hS1 : ∀ k, X1.S b k → k = b ∨ W5.heap.size ≤ k := fun k hk => by
    rcases ht.lies k hk with h | h
    · exact .inl (HG5.out.2.1 k h)
    · exact .inr h
  obtain ⟨l1, l2, l3, l4, l5, l6, l7, l8⟩ := hloc
  have hmx6 : MsgAt w6 px A0 A1 A2 A3 A4 A5 s m q := HX5.out.1.exc ht.exc (fun hh => by have := hTb _ hh; omega) (fun z hz hh => by have := hTb _ hh; have := HX5.out.2.2.1 z hz; omega)
  have hmy6 : MsgAt w6 py A0 A1 A2 A3 A4 A5 s2 m q2 := HY5.out.1.exc ht.exc (fun hh => by have := hTb _ hh; omega) (fun z hz hh => by have := hTb _ hh; have := HY5.out.2.2.1 z hz; omega)
  have hry6 : Row .u8 w6 s2 m q2 (l.take 40) := HY5.out.2.1.exc ht.exc (fun z hz hh => by have := hTb _ hh; have := HY5.out.2.2.1 z hz; omega)
  have hpm6 := HW5.out.1.exc ht.exc (fun hh => by have := hTb _ hh; omega)
  have hB6 : Below w.heap.size w w6 := HW5.out.2.trans (ht.exc.below HW5.out.2.size fun i _ hi => by
    have := hTb _ hi
    obtain ⟨_, _, e1, e2, e3⟩ := HW1.out
    omega)
  have H6 := Lib.hid (And.intro ht.now (And.intro hS1 (And.intro hmx6 (And.intro hmy6 (And.intro hry6 (And.intro hpm6 hB6))))))
  have HX1 := Lib.hid (And.intro hX1 HG5.out.2.2)
  have HLc := Lib.hid (And.intro (And.intro l1 (And.intro l2 (And.intro l3 (And.intro l4 (And.intro l5 (And.intro l6 (And.intro l7 l8))))))) (And.intro ht.exc.size (And.intro HX5.out.2.2.1 HY5.out.2.2.1)))
  clear hTb hS1 hmx6 hmy6 hry6 hpm6 hB6 hX1 l1 l2 l3 l4 l5 l6 l7 l8 ht HOff HG5 HX5 HY5 HW5 c0 c1 c2 c3 c4 c5 c6
  -- the first contents are written
  go_wp2_with fail
  go_loopw [9] (fun i wr => ∃ k : Nat, k ≤ m ∧ i = .int .i64 k ∧ Exc (fun j => ∃ z, s = some z ∧ z.block = j) w6 wr ∧ MsgAt wr px A0 A1 A2 A3 A4 A5 s m q) (fun i _ => m - (intOf i).toNat)
  case atStart => exact ⟨0, Nat.zero_le _, rfl, Exc.refl _ _, H6.out.2.2.1⟩
  case round =>
    obtain ⟨k, hk, rfl, hex, hms⟩ := hrel
    have hm40 := HL.out.2
    obtain ⟨c0, c1, c2, c3, c4, c5, c6⟩ := unit_cells hms.own
    have HEx := Lib.hid (And.intro hex hms)
    clear hex c0 c1 c2 c3 c4 c5
    by_cases hlt : k < m
    · obtain ⟨g, cs, rfl, hog, hle⟩ := hms.dat.resolve_left (by omega)
      have k1 : (k : Int) < (m : Int) := by omega
      have k0 : (0 : Int) ≤ (k : Int) := by omega
      have gc := hog.cell k (by omega)
      have gf := hog.frozen k
      have HO := Lib.hid (And.intro hog hle)
      clear hog hle hms
      have hpg : px ≠ g := by have h1 := HLc.out.2.2.1 _ rfl; have h2 := HLc.out.1; simp only at h1; omega
      have HPg := Lib.hid hpg
      clear hpg
      go_wp2
      exact ⟨⟨k + 1, by omega, by go_num, HEx.out.1.setCell ⟨g, k, none⟩ (.inl ⟨_, rfl, rfl⟩) _, HEx.out.2.write HO.out.1 HO.out.2 HPg.out⟩, by simp [intOf]; omega⟩
    · obtain rfl : m = k := by omega
      have hx := HEx.out.1
      have hsx : ∀ j, (∃ z, s = some z ∧ z.block = j) → w1.heap.size ≤ j ∧ j < px := fun j ⟨z, hz, hzj⟩ => hzj ▸ HLc.out.2.2.1 z hz
      obtain ⟨⟨l1, l2, l3, l4, l5, l6, l7, l8⟩, l9, lx, ly⟩ := HLc.out
      obtain ⟨g1, s1, _, my1, ry1, pm1, B1⟩ := H6.out
      have lpm := HW1.out.2.2.2.1
      have g7 : GtAt wr b X1 := g1.exc hx (fun j hj hh => by have h1 := hsx j hh; rcases s1 j hj with h2 | h2 <;> omega)
      have my7 : MsgAt wr py A0 A1 A2 A3 A4 A5 s2 m q2 := my1.exc hx (fun hh => by have := hsx _ hh; omega) (fun z hz hh => by have h1 := hsx _ hh; have h2 := ly z hz; omega)
      have ry7 : Row .u8 wr s2 m q2 (l.take 40) := ry1.exc hx (fun z hz hh => by have h1 := hsx _ hh; have h2 := ly z hz; omega)
      have pm7 := pm1.exc hx (fun hh => by have := hsx _ hh; omega)
      have B7 : Below w.heap.size w wr := B1.trans (hx.below B1.size fun i _ hi => by have := hsx i hi; omega)
      have hwid : W5.heap.size ≤ wr.heap.size := Nat.le_trans l9 hx.size
      have H7 := Lib.hid (And.intro g7 (And.intro s1 (And.intro my7 (And.intro ry7 (And.intro pm7 (And.intro B7 hwid))))))
      clear hx hsx l1 l2 l3 l4 l5 l6 l7 l8 l9 lx ly g1 s1 my1 ry1 pm1 B1 lpm g7 my7 ry7 pm7 B7 hwid H6 HEx hms hlt hk
      go_wp2_with fail
      refine (wayN_any 0 wr (by decide) (by decide)).mono ?_
      rintro e w8 ⟨rfl, hb8⟩
      have hX1 := HX1.out.1
      have hx0 := HX1.out.2
      have hit : X1.its = [⟨1, A0, A1, A2, A3, A4, A5, l.take 40, s6⟩] := by rw [hX1, hx0]; rfl
      have hph : X1.ph = 1 := by rw [hX1, hx0]; rfl
      have hps := pass_ok b X1 0 1 0 1 0 w8 (H7.out.1.later hb8) (by rw [hit]; simp) ⟨by rw [hph]; decide, .inl hph⟩ (by decide)
      rw [hit] at hps
      obtain ⟨X2, hX2⟩ : ∃ X, X = (X1.went 0 ⟨1, 0, 1, 0⟩).flushed := ⟨_, rfl⟩
      rw [← hX2] at hps
      have HPs := Lib.hid hps
      have HX2 := Lib.hid hX2
      have HB8 := Lib.hid hb8
      have HIt := Lib.hid hit
      clear hX1 hx0 hit hph hps hX2 hb8
      go_wp2_with fail
      refine HPs.out.mono ?_
      rintro e w9 ⟨rfl, ho⟩
      have hit := HIt.out
      obtain ⟨g7, s7, my7, ry7, pm7, B7, hwid⟩ := H7.out
      obtain ⟨⟨l1, l2, l3, l4, l5, l6, l7, l8⟩, l9, lx, ly⟩ := HLc.out
      have hb8 := HB8.out
      have g8 := g7.later hb8
      have hTx : ∀ k, X1.T b k → k = b ∨ W5.heap.size ≤ k := fun k hk => s7 k (.inl hk)
      have my9 : MsgAt w9 py A0 A1 A2 A3 A4 A5 s2 m q2 := (my7.later hb8).exc ho.act.exc (fun hh => by rcases hTx _ hh with h | h <;> omega) (fun z hz hh => by have h2 := ly z hz; rcases hTx _ hh with h | h <;> omega)
      have ry9 : Row .u8 w9 s2 m q2 (l.take 40) := (ry7.later hb8).exc ho.act.exc (fun z hz hh => by have h2 := ly z hz; rcases hTx _ hh with h | h <;> omega)
      have pm9 := (pm7.below hb8 pm7.lt).exc ho.act.exc (fun hh => by rcases hTx _ hh with h | h <;> omega)
      have lpm := HW1.out.2.2.2.1
      have B8 := B7.trans (hb8.mono B7.size)
      have B9 : Below w.heap.size w w9 := B8.trans (ho.act.exc.below B8.size fun i _ hi => by rcases hTx i hi with h | h <;> omega)
      have ia9 : ItsIn w9 (fun k => W5.heap.size ≤ k ∧ k < w9.heap.size) X1.a [⟨1, A0, A1, A2, A3, A4, A5, l.take 40, s6⟩] := by
        have h1 := ho.its
        rw [hit] at h1
        refine h1.mono fun k hk => ⟨?_, Nat.lt_of_lt_of_le (g8.lt k hk.1) ho.act.exc.size⟩
        rcases s7 k hk.1 with h | h
        · exact absurd h hk.2
        · exact h
      have hw9 : W5.heap.size ≤ w9.heap.size := Nat.le_trans hwid (Nat.le_trans hb8.size ho.act.exc.size)
      have hX2 := HX2.out
      have hp2 : X2.ph = 2 := by rw [hX2]; rfl
      have hct := cut_ok b X2 w9 ho.act.now (by rw [hp2]; decide) (by rw [hp2]; decide)
      have H9 := Lib.hid (And.intro ho.act.now (And.intro ho.off (And.intro my9 (And.intro ry9 (And.intro pm9 (And.intro B9 (And.intro ia9 hw9)))))))
      have HCt := Lib.hid hct
      clear hit g7 s7 my7 ry7 pm7 B7 hwid l1 l2 l3 l4 l5 l6 l7 l8 l9 lx ly hb8 g8 hTx my9 ry9 pm9 lpm B8 B9 ia9 hw9 hX2 hp2 hct ho HPs H7 HB8
      have HLn := Lib.hid (show ([⟨1, A0, A1, A2, A3, A4, A5, l.take 40, s6⟩] : List It).length = 1 from rfl)
      simp only [HLn.out]
      go_wp2_with fail
      refine HCt.out.mono ?_
      rintro e w10 ⟨rfl, ht⟩
      obtain ⟨X3, hX3⟩ : ∃ X, X = X2.cut := ⟨_, rfl⟩
      rw [← hX3] at ht
      obtain ⟨g9, s9, my9, ry9, pm9, B9, ia9, hw9⟩ := H9.out
      obtain ⟨⟨l1, l2, l3, l4, l5, l6, l7, l8⟩, l9, lx, ly⟩ := HLc.out
      have lpm := HW1.out.2.2.2.1
      have hTx : ∀ k, X2.T b k → k = b := fun k hk => s9 k (.inl hk)
      have s10 : ∀ k, X3.S b k → k = b := fun k hk => by rw [hX3] at hk; exact s9 k hk
      have my10 : MsgAt w10 py A0 A1 A2 A3 A4 A5 s2 m q2 := my9.exc ht.exc (fun hh => by have := hTx _ hh; omega) (fun z hz hh => by have h2 := ly z hz; have := hTx _ hh; omega)
      have ry10 : Row .u8 w10 s2 m q2 (l.take 40) := ry9.exc ht.exc (fun z hz hh => by have h2 := ly z hz; have := hTx _ hh; omega)
      have pm10 := pm9.exc ht.exc (fun hh => by have := hTx _ hh; omega)
      have B10 : Below w.heap.size w w10 := B9.trans (ht.exc.below B9.size fun i _ hi => by have := hTx i hi; omega)
      have ia10 := ia9.exc ht.exc (fun k hk hT => by have := hTx k hT; omega)
      have hs10 := ht.exc.size
      have hb11 := below_alloc w10 (.cells #[.int .i64 2, .int .u8 A0, .int .u8 A1, .int .u8 A2, .int .u16 A3, .int .u16 A4, .int .u8 A5, .slice s2 m q2] 56)
      have oz := own_lit w10 56 #[.int .i64 2, .int .u8 A0, .int .u8 A1, .int .u8 A2, .int .u16 A3, .int .u16 A4, .int .u8 A5, .slice s2 m q2] _ rfl
      have hs11 : (w10.alloc (.cells #[.int .i64 2, .int .u8 A0, .int .u8 A1, .int .u8 A2, .int .u16 A3, .int .u16 A4, .int .u8 A5, .slice s2 m q2] 56)).heap.size = w10.heap.size + 1 := by simp
      have H11 := Lib.hid (And.intro (ht.now.later hb11) (And.intro s10 (And.intro (my10.later hb11) (And.intro (ry10.later hb11) (And.intro (pm10.below hb11 pm10.lt) (And.intro (B10.trans (hb11.mono B10.size)) (And.intro (ia10.later hb11) (And.intro hw9 (And.intro hs10 (And.intro oz hs11))))))))))
      have HX3 := Lib.hid hX3
      obtain ⟨c0, c1, c2, c3, c4, c5, c6⟩ := unit_cells my10.own
      clear g9 s9 my9 ry9 pm9 B9 ia9 hw9 l1 l2 l3 l4 l5 l6 l7 l8 l9 lx ly lpm hTx s10 my10 ry10 pm10 B10 ia10 hs10 hb11 oz hs11 hX3 ht HCt H9
      go_upto_region 14 with fail
      generalize w10.alloc _ = W11 at H11 ⊢
      obtain ⟨pz, hpz⟩ : ∃ p, p = w10.heap.size := ⟨_, rfl⟩
      have h11 := H11.out
      rw [← hpz] at h11 ⊢
      have H11 := Lib.hid h11
      clear h11 c0 c1 c2 c3 c4 c5 c6 hpz
      obtain ⟨g11, s11, my11, ry11, pm11, B11, ia11, hw9, hs10, oz, hs11⟩ := H11.out
      have hA : ArgIts W11 (some ⟨pz, 0, none⟩) 1 [⟨2, A0, A1, A2, A3, A4, A5, l.take 40, s2⟩] (fun _ => q2) := by
        have hlen := HL.out.1
        refine ⟨rfl, .inr ⟨pz, 0, rfl, fun i hi => ?_⟩, fun i hi => ?_, fun i hi => ?_⟩
        · obtain rfl : i = 0 := by omega
          refine ⟨oz.cell 0 (by simp), oz.cell 1 (by simp), oz.cell 2 (by simp), oz.cell 3 (by simp), oz.cell 4 (by simp), oz.cell 5 (by simp), oz.cell 6 (by simp), ?_⟩
          have h7 := oz.cell 7 (by simp)
          show _ = some (Value.slice s2 (l.take 40).length q2)
          rw [hlen]
          exact h7
        · obtain rfl : i = 0 := by omega
          show Row .u8 W11 s2 (l.take 40).length q2 (l.take 40)
          rw [hlen]
          exact ry11
        · obtain rfl : i = 0 := by omega
          show (l.take 40).length ≤ 1000000
          have := HL.out.2
          omega
      have hX3 := HX3.out
      have hX2 := HX2.out
      have h3it : X3.its = [] := by rw [hX3, hX2]; rfl
      have hrt := return_ok b X3 (some ⟨pz, 0, none⟩) 1 1 0 [⟨2, A0, A1, A2, A3, A4, A5, l.take 40, s2⟩] (fun _ => q2) W11 g11 (by rw [hX3]; rfl) hA (by rw [h3it]; rfl) (by decide)
      have HRt := Lib.hid hrt
      have HIt3 := Lib.hid h3it
      clear g11 s11 my11 ry11 pm11 B11 ia11 hw9 hs10 oz hs11 hA hX3 hX2 h3it hrt
      go_wp2_with fail
      refine HRt.out.mono ?_
      rintro e w12 ⟨rfl, C, g12, a12, c12, hC, ht⟩
      obtain ⟨s12, rfl⟩ := one_of hC
      obtain ⟨X4, hX4⟩ : ∃ X : Gt, X = { X3 with its := [⟨2, A0, A1, A2, A3, A4, A5, l.take 40, s12⟩] ++ X3.its, g := g12, a := a12, c := c12, ph := 4 } := ⟨_, rfl⟩
      have ht : GtTo W11 b X3 X4 w12 := by rw [hX4]; exact ht
      obtain ⟨g11, s11, my11, ry11, pm11, B11, ia11, hw9, hs10, oz, hs11⟩ := H11.out
      obtain ⟨⟨l1, l2, l3, l4, l5, l6, l7, l8⟩, l9, lx, ly⟩ := HLc.out
      have lpm := HW1.out.2.2.2.1
      have hTx : ∀ k, X3.T b k → k = b := fun k hk => s11 k (.inl hk)
      have s12' : ∀ k, X4.S b k → k = b ∨ pz < k := fun k hk => by
        rcases ht.lies k hk with h | h
        · exact .inl (s11 k h)
        · exact .inr (by omega)
      have my12 : MsgAt w12 py A0 A1 A2 A3 A4 A5 s2 m q2 := my11.exc ht.exc (fun hh => by have := hTx _ hh; omega) (fun z hz hh => by have h2 := ly z hz; have := hTx _ hh; omega)
      have pm12 := pm11.exc ht.exc (fun hh => by have := hTx _ hh; omega)
      have oz12 := oz.exc ht.exc (fun hh => by have := hTx _ hh; omega)
      have B12 : Below w.heap.size w w12 := B11.trans (ht.exc.below B11.size fun i _ hi => by have := hTx i hi; omega)
      have ia12 := ia11.exc ht.exc (fun k hk hT => by have := hTx k hT; omega)
      have hs12 := ht.exc.size
      have H12 := Lib.hid (And.intro ht.now (And.intro s12' (And.intro my12 (And.intro pm12 (And.intro B12 (And.intro ia12 (And.intro hw9 (And.intro hs10 (And.intro oz12 (show pz < w12.heap.size by omega))))))))))
      have HX4 := Lib.hid hX4
      clear g11 s11 my11 ry11 pm11 B11 ia11 hw9 hs10 oz hs11 l1 l2 l3 l4 l5 l6 l7 l8 l9 lx ly lpm hTx s12' my12 pm12 oz12 B12 ia12 hs12 hX4 ht hC HRt H11
      go_wp2_with fail
      go_loopw [14] (fun i wr => ∃ k : Nat, k ≤ m ∧ i = .int .i64 k ∧ Exc (fun j => ∃ z, s2 = some z ∧ z.block = j) w12 wr ∧ MsgAt wr py A0 A1 A2 A3 A4 A5 s2 m q2) (fun i _ => m - (intOf i).toNat)
      case atStart => exact ⟨0, Nat.zero_le _, rfl, Exc.refl _ _, H12.out.2.2.1⟩
      case round =>
        obtain ⟨k, hk, rfl, hex, hms⟩ := hrel
        obtain ⟨c0, c1, c2, c3, c4, c5, c6⟩ := unit_cells hms.own
        have HEx := Lib.hid (And.intro hex hms)
        clear hex c0 c1 c2 c3 c4 c5
        by_cases hlt : k < m
        · obtain ⟨g, cs, rfl, hog, hle⟩ := hms.dat.resolve_left (by omega)
          have k1 : (k : Int) < (m : Int) := by omega
          have k0 : (0 : Int) ≤ (k : Int) := by omega
          have gc := hog.cell k (by omega)
          have gf := hog.frozen k
          have HO := Lib.hid (And.intro hog hle)
          clear hog hle hms
          have hpg : py ≠ g := by have h1 := HLc.out.2.2.2 _ rfl; have h2 := HLc.out.1; simp only at h1; omega
          have HPg := Lib.hid hpg
          clear hpg
          go_wp2
          exact ⟨⟨k + 1, by omega, by go_num, HEx.out.1.setCell ⟨g, k, none⟩ (.inl ⟨_, rfl, rfl⟩) _, HEx.out.2.write HO.out.1 HO.out.2 HPg.out⟩, by simp [intOf]; omega⟩
        · obtain rfl : m = k := by omega
          have hx := HEx.out.1
          obtain ⟨⟨l1, l2, l3, l4, l5, l6, l7, l8⟩, l9, lx, ly⟩ := HLc.out
          have hsx : ∀ j, (∃ z, s2 = some z ∧ z.block = j) → W3.heap.size ≤ j ∧ j < py := fun j ⟨z, hz, hzj⟩ => hzj ▸ ly z hz
          obtain ⟨g12, s12', _, pm12, B12, ia12, hw9, hs10, oz12, hs12⟩ := H12.out
          have lpm := HW1.out.2.2.2.1
          have lb2 : b < W3.heap.size := by omega
          have g13 : GtAt wr b X4 := g12.exc hx (fun j hj hh => by have h1 := hsx j hh; rcases s12' j hj with h2 | h2 <;> omega)
          have pm13 := pm12.exc hx (fun hh => by have := hsx _ hh; omega)
          have oz13 := oz12.exc hx (fun hh => by have := hsx _ hh; omega)
          have B13 : Below w.heap.size w wr := B12.trans (hx.below B12.size fun i _ hi => by have := hsx i hi; omega)
          have ia13 := ia12.exc hx (fun k hk hT => by have := hsx k hT; omega)
          have fz := oz13.frozen 0
          have cz := oz13.cell 0 (by simp)
          simp only [List.getD_cons_zero] at cz
          have H13 := Lib.hid (And.intro g13 (And.intro s12' (And.intro pm13 (And.intro B13 (And.intro ia13 (And.intro hw9 (And.intro hs10 (Nat.lt_of_lt_of_le hs12 hx.size))))))))
          clear hx l1 l2 l3 l4 l5 l6 l7 l8 l9 lx ly hsx g12 s12' pm12 B12 ia12 hw9 hs10 oz12 hs12 lpm lb2 g13 pm13 oz13 B13 ia13 H12 HEx hms hlt hk
          go_upto_region 20 with fail
          have hx14 : Exc (fun k => k = pz) wr (wr.setCell ⟨pz, 0, none⟩ (.int .i64 9)) := Blk.exc pz 0 _ wr
          generalize wr.setCell ⟨pz, 0, none⟩ (.int .i64 9) = w14 at hx14 ⊢
          obtain ⟨g13, s13, pm13, B13, ia13, hw9, hs10, hs13⟩ := H13.out
          obtain ⟨⟨l1, l2, l3, l4, l5, l6, l7, l8⟩, l9, lx, ly⟩ := HLc.out
          have lpm := HW1.out.2.2.2.1
          have lpz : W5.heap.size ≤ pz := by omega
          have g14 : GtAt w14 b X4 := g13.exc hx14 (fun j hj hh => by rcases s13 j hj with h2 | h2 <;> omega)
          have pm14 := pm13.exc hx14 (fun hh => by omega)
          have B14 : Below w.heap.size w w14 := B13.trans (hx14.below B13.size fun i _ hi => by omega)
          have ia14 := ia13.exc hx14 (fun k hk hT => by omega)
          have H14 := Lib.hid (And.intro g14 (And.intro s13 (And.intro pm14 (And.intro B14 (And.intro ia14 (And.intro hw9 (And.intro hs10 (Nat.lt_of_lt_of_le hs13 hx14.size))))))))
          clear hx14 g13 s13 pm13 B13 ia13 hw9 hs10 hs13 l1 l2 l3 l4 l5 l6 l7 l8 l9 lx ly lpm lpz g14 pm14 B14 ia14 H13 fz cz
          go_wp2_with fail
          refine (wayN_any 0 w14 (by decide) (by decide)).mono ?_
          rintro e w15 ⟨rfl, hb15⟩
          have hX4 := HX4.out
          have hX3 := HX3.out
          have hX2 := HX2.out
          have hit : X4.its = [⟨2, A0, A1, A2, A3, A4, A5, l.take 40, s12⟩] := by rw [hX4, hX3, hX2]; rfl
          have hph : X4.ph = 4 := by rw [hX4]
          have hwy : X4.wy = ⟨1, 0, 1, 0⟩ := by rw [hX4, hX3, hX2]; rfl
          have hps := pass_ok b X4 0 1 0 1 0 w15 (H14.out.1.later hb15) (by rw [hit]; simp) ⟨by rw [hph]; decide, .inr (.inl hwy.symm)⟩ (by decide)
          rw [hit] at hps
          obtain ⟨X5, hX5⟩ : ∃ X, X = (X4.went 0 ⟨1, 0, 1, 0⟩).flushed := ⟨_, rfl⟩
          rw [← hX5] at hps
          have HPs := Lib.hid hps
          have HB15 := Lib.hid hb15
          have HIt := Lib.hid hit
          clear hX4 hX3 hX2 hit hph hwy hps hX5 hb15
          go_wp2_with fail
          refine HPs.out.mono ?_
          rintro e w16 ⟨rfl, ho⟩
          have HLn2 := Lib.hid (show ([⟨2, A0, A1, A2, A3, A4, A5, l.take 40, s12⟩] : List It).length = 1 from rfl)
          simp only [HLn2.out]
          have hit := HIt.out
          obtain ⟨g14, s14, pm14, B14, ia14, hw9, hs10, hs14⟩ := H14.out
          obtain ⟨⟨l1, l2, l3, l4, l5, l6, l7, l8⟩, l9, lx, ly⟩ := HLc.out
          have lpm := HW1.out.2.2.2.1
          have hb15 := HB15.out
          have hTx : ∀ k, X4.T b k → k = b ∨ pz < k := fun k hk => s14 k (.inl hk)
          have pm16 := (pm14.below hb15 pm14.lt).exc ho.act.exc (fun hh => by rcases hTx _ hh with h | h <;> omega)
          have B15 := B14.trans (hb15.mono B14.size)
          have B16 : Below w.heap.size w w16 := B15.trans (ho.act.exc.below B15.size fun i _ hi => by rcases hTx i hi with h | h <;> omega)
          have ia16 := (ia14.later hb15).exc ho.act.exc (fun k hk hT => by rcases hTx k hT with h | h <;> omega)
          have ib16 := ho.its
          rw [hit] at ib16
          have H16 := Lib.hid (And.intro B16 (And.intro ia16 (And.intro ib16 pm16)))
          obtain ⟨c0, c1, c2, c3, c4, c5, c6⟩ := unit_cells pm16
          clear hit g14 s14 pm14 B14 ia14 hw9 hs10 hs14 l1 l2 l3 l4 l5 l6 l7 l8 l9 lx ly lpm hb15 hTx pm16 B15 B16 ia16 ib16 ho HPs H14 HB15
          go_wp2_with fail
          refine (HOf.out w16 (HR.out.later H16.out.1)).mono ?_
          rintro e w17 ⟨s3, m3, q3, rfl, hown, _, hb17⟩
          have hrow : Row .u8 w17 s3 m3 q3 (l.take 40) := by
            obtain ⟨a', c', he, hr', _⟩ := ownsRow_rowN .u8 hown (fun z hz => HR.out.wf z (List.mem_of_mem_take hz))
            cases he
            exact hr'
          obtain rfl : m = m3 := by have h1 := hrow.len; have h2 := HL.out.1; omega
          have hb18 := below_alloc w17 (.cells #[.int .u8 A0, .int .u8 A1, .int .u8 A2, .int .u16 A3, .int .u16 A4, .int .u8 A5, .slice s3 m q3] 54)
          have ow := own_lit w17 54 #[.int .u8 A0, .int .u8 A1, .int .u8 A2, .int .u16 A3, .int .u16 A4, .int .u8 A5, .slice s3 m q3] _ rfl
          have hb68 := hb17.trans (hb18.mono hb17.size)
          have ia := H16.out.2.1.later hb68
          have ib := H16.out.2.2.1.later hb68
          have H18 := Lib.hid (And.intro (H16.out.1.trans (hb68.mono H16.out.1.size)) (And.intro ia (And.intro ib (And.intro ow (hrow.later hb18)))))
          clear c0 c1 c2 c3 c4 c5 c6 hown hb17 hrow hb18 ow hb68 ia ib H16
          go_upto_region 22 with fail
          generalize w17.alloc _ = W at H18 ⊢
          obtain ⟨pw, hpw⟩ : ∃ p, p = w17.heap.size := ⟨_, rfl⟩
          obtain ⟨B18, ia, ib, ow, rw3⟩ := H18.out
          rw [← hpw] at ow ⊢
          obtain ⟨ba, oa, haA, d0, d1, d2, d3, d4, d5, d6, d7, hrd⟩ := ia.at It.none (i := 0) (by simp)
          obtain ⟨bb, ob, haB, f0, f1, f2, f3, f4, f5, f6, f7, hrf⟩ := ib.at It.none (i := 0) (by simp)
          rw [haA, haB]
          simp only [List.getD_cons_zero, Nat.zero_mul, Nat.add_zero] at d0 d1 d2 d3 d4 d5 d6 d7 hrd f0 f1 f2 f3 f4 f5 f6 f7 hrf
          rw [HL.out.1] at d7 hrd f7 hrf
          obtain ⟨e0, e1, e2, e3, e4, e5, e6⟩ := unit_cells ow
          have v1 := fun q => row_string s6 m m (l.take 40) (W.drewN q) (hrd.later (below_draw W q))
          have v2 := fun q => row_string s12 m m (l.take 40) (W.drewN q) (hrf.later (below_draw W q))
          have v3 := fun q => row_string s3 m q3 (l.take 40) (W.drewN q) (rw3.later (below_draw W q))
          have HB := Lib.hid B18
          have q3' : (A3 == A3) = true := by simp
          have q4' : (A4 == A4) = true := by simp
          have q5' : (A5 == A5) = true := by simp
          generalize hst : bs (ofI (l.take 40)) = ST at v1 v2 v3
          clear hst B18 ia ib ow rw3 hrd hrf haA haB hpw H18 d1 d2 d3 f1 f2 f3 f4 f5 f6 e0 e1 e2
          go_wp2_with fail
          have hq := fun w => eqlLb A3 A4 A5 w
          have t1 : (convert 52 9 (.slice s6 m m)).run Try.prog W.drew = .ok (.string ST) W.drew := v1 1
          have t2 : (convert 52 9 (.slice s12 m m)).run Try.prog W.drew = .ok (.string ST) W.drew := v2 1
          have t3 : (convert 52 9 (.slice s3 m q3)).run Try.prog W.drew = .ok (.string ST) W.drew := v3 1
          go_still_tail 33, (by kernel_rfl)
          change wpList _ _ _ _ _ W.drew
          have HB9 := Lib.hid (below_drewN HB.out 1)
          clear t1 t2 t3 v1 v2 v3 hq
          go_wp2_with fail
          refine (lives_any W.drew).mono ?_
          rintro e w19 ⟨rfl, hb19⟩
          have HX := Lib.hid ((show Below w.heap.size w W.drew from HB9.out).trans (hb19.mono HB9.out.size))
          clear hb19
          go_wp2
          go_ret
          exact ⟨rfl, HX.out⟩
end Go.Proofs.Ytnkpmjkbkdnfjaa
