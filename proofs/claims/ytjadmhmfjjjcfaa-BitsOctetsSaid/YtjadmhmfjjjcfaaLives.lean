/- Contracts: lives of the statements: the chapter's examples hold. -/
import Derived.Test.YtjadmhmfjjjcfaaPut
import Derived.Test.YtjadmhmfjjjcfaaText
import Derived.Test.YtjadmhmfjjjcfaaRun
import Derived.Test.YtjadmhmfjjjcfaaFlip
import Derived.Test.YtjadmhmfjjjcfaaApart
namespace Go.Proofs.Ytjadmhmfjjjcfaa
open Go.RowKit

/-- A list without spare capacity is returned; with a second result 0. -/
def IsN (n : Nat) (l : List Int) (B : Nat) (e : Ending) (w' : World) : Prop := ∃ g, e = .returned (.slice (some ⟨g, 0, none⟩) n n) ∧ Row .u8 w' (some ⟨g, 0, none⟩) n n l ∧ B ≤ g
def IsN2 (n : Nat) (l : List Int) (B : Nat) (e : Ending) (w' : World) : Prop := ∃ g, e = .returned (.tuple #[.slice (some ⟨g, 0, none⟩) n n, .int .i64 0]) ∧ Row .u8 w' (some ⟨g, 0, none⟩) n n l ∧ B ≤ g

theorem stream_n (s : ByteArray) (n : Nat) (l : List Int) (w : World) (hn : s.size = n) (h : n ≤ 2097152) (hl : (s.data.toList.map fun c => (c.toNat : Int) % 2) = l) :
    Calls Try.prog 28 #[.string s] w fun e w' => IsN n l w.heap.size e w' ∧ Below w.heap.size w w' := by
  subst hl hn
  refine (stream_any s w h).mono ?_
  rintro e w' ⟨rfl, hb, ho⟩
  refine ⟨⟨_, rfl, ho.row0 _ _ (by simp) (Nat.le_refl _) (by unfold maxLen; omega) ?_, Nat.le_refl _⟩, hb⟩
  intro x hx
  obtain ⟨c, _, rfl⟩ := List.mem_map.1 hx
  exact wf_u8.2 (by omega)
theorem of_n (a : Option Addr) (n c m : Nat) (l l' : List Int) (w : World) (h : Row .u8 w a n c l) (hn : n ≤ 131072) (hm : 8 * n = m) (hl : ofL l = l') :
    Calls Try.prog 11 #[.slice a n c] w fun e w' => IsN m l' w.heap.size e w' ∧ Below w.heap.size w w' := by
  subst hm hl
  refine (of_any a n c l w h hn).mono ?_
  rintro e w' ⟨rfl, hb, ho⟩
  refine ⟨⟨_, rfl, ho.row0 _ _ (by rw [ofL_length, h.len]) (Nat.le_refl _) (by unfold maxLen; omega) (fun x hx => wf_u8.2 (by have := ofL_mem hx; omega)), Nat.le_refl _⟩, hb⟩
theorem octets_n (a : Option Addr) (n c m : Nat) (l l' : List Int) (w : World) (h : Row .u8 w a n c l) (he : errOf l = 0) (h8 : n % 8 = 0) (hm : n / 8 = m) (hl : octs l = l') :
    Calls Try.prog 12 #[.slice a n c] w fun e w' => IsN2 m l' w.heap.size e w' ∧ Below w.heap.size w w' := by
  subst hm hl
  refine (octets_ok a n c l w h he h8).mono ?_
  rintro e w' ⟨rfl, hb, ho⟩
  have hn := (errOf_zero he).1
  rw [h.len] at hn
  refine ⟨⟨_, rfl, ho.row0 _ _ (by simp [octs, h.len]) (Nat.le_refl _) (by unfold maxLen; omega) ?_, Nat.le_refl _⟩, hb⟩
  intro x hx
  unfold octs at hx
  obtain ⟨i, _, rfl⟩ := List.mem_map.1 hx
  exact wf_u8.2 (val_oct (h.bits (errOf_zero he).2) _)
theorem put_n (a : Option Addr) (n c m k : Nat) (l l' : List Int) (v : Int) (w : World) (h : Row .u8 w a n c l) (hv0 : 0 ≤ v) (hv : v ≤ 18446744073709551615) (he : putErr l v m = 0) (hk : n + m = k) (hl : l ++ bitsOf v m = l') :
    Calls Try.prog 20 #[.slice a n c, .int .u64 v, .int .i64 m] w fun e w' => IsN2 k l' w.heap.size e w' ∧ Below w.heap.size w w' := by
  subst hk hl
  obtain ⟨h0, _, _, _, hlim⟩ := putErr_zero he
  rw [h.len] at hlim
  refine (put_ok a n c m l v w h hv0 hv he).mono ?_
  rintro e w' ⟨rfl, hb, ho⟩
  refine ⟨⟨_, rfl, ho.row0 _ _ (by rw [List.length_append, bitsOf_length, h.len]) (Nat.le_refl _) (by unfold maxLen; omega) ?_, Nat.le_refl _⟩, hb⟩
  intro x hx
  rcases List.mem_append.1 hx with h1 | h1
  · exact h.wf x h1
  · exact wf_u8.2 (by have := bitsOf_mem h1; omega)
theorem flip_n (a ai : Option Addr) (n c ni ci : Nat) (l li l' : List Int) (w : World) (h : Row .u8 w a n c l) (hi : Row .i64 w ai ni ci li) (he : flipErr l li = 0) (hl : flips l li = l') :
    Calls Try.prog 25 #[.slice a n c, .slice ai ni ci] w fun e w' => IsN2 n l' w.heap.size e w' ∧ Below w.heap.size w w' := by
  subst hl
  have h0 : errOf l = 0 := by
    unfold flipErr at he
    by_cases hh : errOf l = 0
    · exact hh
    · rw [if_pos hh] at he; exact he
  refine (flip_ok a ai n c ni ci l li w h hi he).mono ?_
  rintro e w' ⟨rfl, hb, ho⟩
  refine ⟨⟨_, rfl, ho.row0 _ _ (by rw [flips_length, h.len]) (Nat.le_refl _) (Nat.le_trans h.le h.max) (fun x hx => wf_u8.2 (by have := flips_bits (h.bits (errOf_zero h0).2) li x hx; omega)), by omega⟩, hb⟩

theorem row_lit (k : IntKind) (w : World) (t : Nat) (l : List Int) (n : Nat) (hn : l.length = n) (h : n ≤ 1000) (hw : ∀ x ∈ l, (Lit.int k x).wf = true) :
    Row k (w.alloc (.cells (nums k l).toArray t)) (some ⟨w.heap.size, 0, none⟩) n n l := by
  have ho : Own (w.alloc (.cells (nums k l).toArray t)) w.heap.size t (nums k l) := heap_alloc_new w _
  exact ho.row0 n n hn.symm (Nat.le_refl _) (by unfold maxLen; omega) hw

theorem octets_e (a : Option Addr) (n c : Nat) (l : List Int) (x : Int) (w : World) (h : Row .u8 w a n c l) (he : errOf l = x) (hx : x ≠ 0) :
    Calls Try.prog 12 #[.slice a n c] w fun e w' => e = .returned (.tuple #[.slice none 0 0, .int .i64 x]) ∧ w = w' := by
  subst he; exact octets_err a n c l w h hx
theorem put_e (a : Option Addr) (n c : Nat) (l : List Int) (v m x : Int) (w : World) (h : Row .u8 w a n c l) (hv0 : 0 ≤ v) (hv : v ≤ 18446744073709551615) (he : putErr l v m = x) (hx : x ≠ 0) :
    Calls Try.prog 20 #[.slice a n c, .int .u64 v, .int .i64 m] w fun e w' => e = .returned (.tuple #[.slice none 0 0, .int .i64 x]) ∧ w = w' := by
  subst he; exact put_err a n c l v m w h hv0 hv hx
theorem get_e (a : Option Addr) (n c : Nat) (l : List Int) (p m x : Int) (w : World) (h : Row .u8 w a n c l) (hp0 : -9223372036854775808 ≤ p) (hp1 : p ≤ 9223372036854775807) (he : getErr l p m = x) (hx : x ≠ 0) :
    Calls Try.prog 21 #[.slice a n c, .int .i64 p, .int .i64 m] w fun e w' => e = .returned (.tuple #[.int .u64 0, .int .i64 x]) ∧ w = w' := by
  subst he; exact get_err a n c l p m w h hp0 hp1 hx
theorem get_n (a : Option Addr) (n c p m : Nat) (l : List Int) (x : Int) (w : World) (h : Row .u8 w a n c l) (he : getErr l p m = 0) (hx : val ((l.drop p).take m) = x) :
    Calls Try.prog 21 #[.slice a n c, .int .i64 p, .int .i64 m] w fun e w' => e = .returned (.tuple #[.int .u64 x, .int .i64 0]) ∧ w = w' := by
  subst hx; exact get_ok a n c p m l w h he
theorem text_n (a : Option Addr) (n c : Nat) (l : List Int) (s : ByteArray) (w : World) (h : Row .u8 w a n c l) (he : errOf l = 0) (hs : textOf l = s) :
    Calls Try.prog 22 #[.slice a n c] w fun e w' => e = .returned (.tuple #[.string s, .int .i64 0]) ∧ Below w.heap.size w w' := by
  subst hs; exact text_ok a n c l w h he
theorem parse_e (s : ByteArray) (w : World) (h : s.size ≤ 1048576) (hs : isText s = false) :
    Calls Try.prog 23 #[.string s] w fun e w' => e = .returned (.tuple #[.slice none 0 0, .int .i64 4]) ∧ Below w.heap.size w w' := by
  refine (parse_any s w h).mono ?_
  rintro e w' ⟨h1 | h1, hb⟩
  · exact ⟨h1.2, hb⟩
  · rw [hs] at h1; exact absurd h1.1 (by simp)
def IsI2 (n : Nat) (l : List Int) (e : Ending) (w' : World) : Prop := ∃ a, e = .returned (.tuple #[.slice a n n, .int .i64 0]) ∧ Row .i64 w' a n n l
theorem apart_n (a1 a2 : Option Addr) (n1 c1 n2 c2 m : Nat) (l1 l2 l : List Int) (w : World) (h1 : Row .u8 w a1 n1 c1 l1) (h2 : Row .u8 w a2 n2 c2 l2) (he : apartErr l1 l2 = 0) (hl : diffs l1 l2 l1.length = l) (hm : l.length = m) :
    Calls Try.prog 26 #[.slice a1 n1 c1, .slice a2 n2 c2] w fun e w' => IsI2 m l e w' ∧ Below w.heap.size w w' := by
  subst hm hl; exact apart_ok a1 a2 n1 c1 n2 c2 l1 l2 w h1 h2 he
theorem run_n (a : Option Addr) (n c : Nat) (l : List Int) (v x : Int) (w : World) (h : Row .u8 w a n c l) (hx : runMax v l = x) :
    Calls Try.prog 27 #[.slice a n c, .int .u8 v] w fun e w' => e = .returned (.int .i64 x) ∧ w = w' := by
  subst hx; exact run_any a n c l v w h
theorem Row.front {k : IntKind} {w : World} {a : Option Addr} {n c : Nat} {l : List Int} (h : Row k w a n c l) (m : Nat) (hm : m ≤ n) : Row k w a m c (l.take m) := by
  obtain ⟨hl, hle, hmx, hw, hc, hnil⟩ := h
  refine ⟨by rw [List.length_take]; omega, by omega, hmx, fun x hx => hw x (List.mem_of_mem_take hx), ?_, hnil⟩
  rcases hc with h0 | ⟨b, o, ha, hc⟩
  · exact .inl (by omega)
  · refine .inr ⟨b, o, ha, fun i hi => ?_⟩
    rw [hc i (by omega)]
    simp [List.getD_eq_getElem?_getD, hi]
theorem below_call {w w' : World} {o : Obj} (hb : Below (w.alloc o).heap.size (w.alloc o) w') : Below w.heap.size w w' := (below_alloc w o).trans (hb.mono (by simp))
theorem below_draw (w : World) (n : Nat) : Below w.heap.size w (w.drewN n) := below_drewN (Below.refl _ _) n

theorem row_lit2 (k : IntKind) (w : World) (o : Obj) (t : Nat) (l : List Int) (n : Nat) (hn : l.length = n) (h : n ≤ 1000) (hw : ∀ x ∈ l, (Lit.int k x).wf = true) :
    Row k ((w.alloc o).alloc (.cells (nums k l).toArray t)) (some ⟨w.heap.size + 1, 0, none⟩) n n l := by
  have := row_lit k (w.alloc o) t l n hn h hw
  rwa [World.size_alloc] at this

set_option maxHeartbeats 1000000 in
set_option maxRecDepth 100000 in
theorem lives_any (w : World) : Calls Try.prog 10 #[] w fun e w' => e = .returned (.bool true) ∧ Below w.heap.size w w' := by
  go_enter Try.func10, Try.ntmps10
  -- b := Of(1, 128)
  go_wp2_with fail
  refine (of_n _ 2 2 16 [1, 128] [1, 0, 0, 0, 0, 0, 0, 0, 0, 0, 0, 0, 0, 0, 0, 1] _ (row_lit .u8 w 5 [1, 128] 2 rfl (by decide) (by decide)) (by decide) rfl (by decide)).mono ?_
  rintro e w1 ⟨⟨gb, rfl, rb, hgb⟩, hb⟩
  have B1 := Lib.hid (below_call hb)
  have RB := Lib.hid rb
  clear hb rb hgb
  -- o := Octets(b)
  go_wp2_with fail
  refine (octets_n _ 16 16 2 _ [1, 128] _ RB.out (by decide) rfl rfl (by decide)).mono ?_
  rintro e w2 ⟨⟨go, rfl, ro, hgo⟩, hb⟩
  have B2 := Lib.hid (B1.out.trans (hb.mono B1.out.size))
  have RB2 := Lib.hid (RB.out.later hb)
  have RO := Lib.hid ro
  clear hb ro hgo B1 RB
  -- Bytes(b, Stream(..)), Bytes(o, ..)
  go_wp2_with fail
  refine (stream_n _ 16 [1, 0, 0, 0, 0, 0, 0, 0, 0, 0, 0, 0, 0, 0, 0, 1] _ rfl (by decide) (by decide)).mono ?_
  rintro e w3 ⟨⟨g3, rfl, r3, hg3⟩, hb⟩
  have B3 := Lib.hid (B2.out.trans (hb.mono B2.out.size))
  have RB3 := Lib.hid (RB2.out.later hb)
  have RO3 := Lib.hid (RO.out.later hb)
  have R3 := Lib.hid r3
  clear hb r3 hg3 B2 RB2 RO
  go_wp2_with fail
  refine (bytes_yes _ _ 16 16 16 _ _ RB3.out R3.out).mono ?_
  rintro e w' ⟨rfl, q4, rfl⟩
  have hb4 := below_draw w3 q4
  obtain ⟨w4, hw4⟩ : ∃ x, x = w3.drewN q4 := ⟨_, rfl⟩
  rw [← hw4] at hb4 ⊢
  have B4 := Lib.hid (B3.out.trans (hb4.mono B3.out.size))
  have RB4 := Lib.hid (RB3.out.later hb4)
  have RO4 := Lib.hid (RO3.out.later hb4)
  clear hb4 hw4 B3 RB3 RO3 R3
  go_wp2_with fail
  refine (bytes_yes _ _ 2 2 2 _ _ (RO4.out.later (below_alloc _ _)) (row_lit .u8 w4 5 [1, 128] 2 rfl (by decide) (by decide))).mono ?_
  rintro e w' ⟨rfl, q5, rfl⟩
  have hb5 := below_call (below_draw (w4.alloc (.cells (nums .u8 [1, 128]).toArray 5)) q5)
  obtain ⟨w5, hw5⟩ : ∃ x, x = (w4.alloc (.cells (nums .u8 [1, 128]).toArray 5)).drewN q5 := ⟨_, rfl⟩
  rw [← hw5] at hb5 ⊢
  have B5 := Lib.hid (B4.out.trans (hb5.mono B4.out.size))
  have RB5 := Lib.hid (RB4.out.later hb5)
  clear hb5 hw5 B4 RB4 RO4
  -- Octets(b[:15])
  go_wp2_with fail
  refine (octets_width _ 15 16 _ w5 (RB5.out.front 15 (by decide)) (by decide) (by decide)).mono ?_
  rintro e w' ⟨rfl, rfl⟩
  -- Octets(2)
  go_wp2_with fail
  refine (octets_e _ 1 1 [2] 1 _ (row_lit .u8 w5 5 [2] 1 rfl (by decide) (by decide)) (by decide) (by decide)).mono ?_
  rintro e w' ⟨rfl, rfl⟩
  obtain ⟨w6, hw6⟩ : ∃ x, x = w5.alloc (.cells (nums .u8 [2]).toArray 5) := ⟨_, rfl⟩
  have hb6 := below_alloc w5 (.cells (nums .u8 [2]).toArray 5)
  rw [← hw6] at hb6 ⊢
  have B6 := Lib.hid (B5.out.trans (hb6.mono B5.out.size))
  clear hb6 hw6 B5 RB5
  -- p := Put(1 0, 5, 3)
  go_wp2_with fail
  refine (put_n _ 2 2 3 5 [1, 0] [1, 0, 1, 0, 1] 5 _ (row_lit .u8 w6 5 [1, 0] 2 rfl (by decide) (by decide)) (by decide) (by decide) (by decide) rfl (by decide)).mono ?_
  rintro e w7 ⟨⟨gp, rfl, rp, hgp⟩, hb⟩
  have B7 := Lib.hid (B6.out.trans ((below_call hb).mono B6.out.size))
  have RP := Lib.hid rp
  clear hb rp hgp B6
  -- Put(nil, 8, 3)
  go_wp2_with fail
  refine (put_e none 0 0 [] 8 3 1 w7 (Row.of_nil _ _) (by decide) (by decide) (by decide) (by decide)).mono ?_
  rintro e w' ⟨rfl, rfl⟩
  -- Get(10101, 2, 3)
  go_wp2_with fail
  refine (stream_n _ 5 [1, 0, 1, 0, 1] _ rfl (by decide) (by decide)).mono ?_
  rintro e w8 ⟨⟨g8, rfl, r8, hg8⟩, hb⟩
  have B8 := Lib.hid (B7.out.trans (hb.mono B7.out.size))
  have RP8 := Lib.hid (RP.out.later hb)
  have R8 := Lib.hid r8
  clear hb r8 hg8 B7 RP
  go_wp2_with fail
  refine (get_n _ 5 5 2 3 _ 5 _ R8.out (by decide) (by decide)).mono ?_
  rintro e w' ⟨rfl, rfl⟩
  -- Get(1 0, 1, 2)
  go_wp2_with fail
  refine (get_e _ 2 2 [1, 0] 1 2 5 _ (row_lit .u8 w8 5 [1, 0] 2 rfl (by decide) (by decide)) (by decide) (by decide) (by decide) (by decide)).mono ?_
  rintro e w' ⟨rfl, rfl⟩
  obtain ⟨w9, hw9⟩ : ∃ x, x = w8.alloc (.cells (nums .u8 [1, 0]).toArray 5) := ⟨_, rfl⟩
  have hb9 := below_alloc w8 (.cells (nums .u8 [1, 0]).toArray 5)
  rw [← hw9] at hb9 ⊢
  have B9 := Lib.hid (B8.out.trans (hb9.mono B8.out.size))
  have RP9 := Lib.hid (RP8.out.later hb9)
  clear hb9 hw9 B8 RP8 R8
  -- Bytes(p, 10101)
  go_wp2_with fail
  refine (stream_n _ 5 [1, 0, 1, 0, 1] _ rfl (by decide) (by decide)).mono ?_
  rintro e w10 ⟨⟨g10, rfl, r10, hg10⟩, hb⟩
  have B10 := Lib.hid (B9.out.trans (hb.mono B9.out.size))
  have RP10 := Lib.hid (RP9.out.later hb)
  have R10 := Lib.hid r10
  clear hb r10 hg10 B9 RP9
  go_wp2_with fail
  refine (bytes_yes _ _ 5 5 5 _ _ RP10.out R10.out).mono ?_
  rintro e w' ⟨rfl, q11, rfl⟩
  have hb11 := below_draw w10 q11
  obtain ⟨w11, hw11⟩ : ∃ x, x = w10.drewN q11 := ⟨_, rfl⟩
  rw [← hw11] at hb11 ⊢
  have B11 := Lib.hid (B10.out.trans (hb11.mono B10.out.size))
  clear hb11 hw11 B10 RP10 R10
  -- l := Flip(0 0 0, 2, 0, 2)
  go_wp2_with fail
  refine (flip_n _ _ 3 3 3 3 [0, 0, 0] [2, 0, 2] [1, 0, 0] _ ((row_lit .u8 w11 5 [0, 0, 0] 3 rfl (by decide) (by decide)).later (below_alloc _ _)) (row_lit2 .i64 w11 _ 3 [2, 0, 2] 3 rfl (by decide) (by decide)) (by decide) (by decide)).mono ?_
  rintro e w12 ⟨⟨gl, rfl, rl, hgl⟩, hb⟩
  have B12 := Lib.hid (B11.out.trans ((below_call (below_call hb)).mono B11.out.size))
  have RL := Lib.hid rl
  clear hb rl hgl B11
  -- a := Apart(011, 110)
  go_wp2_with fail
  refine (stream_n _ 3 [0, 1, 1] _ rfl (by decide) (by decide)).mono ?_
  rintro e w13 ⟨⟨g13, rfl, r13, hg13⟩, hb⟩
  have B13 := Lib.hid (B12.out.trans (hb.mono B12.out.size))
  have RL13 := Lib.hid (RL.out.later hb)
  have R13 := Lib.hid r13
  clear hb r13 hg13 B12 RL
  go_wp2_with fail
  refine (stream_n _ 3 [1, 1, 0] _ rfl (by decide) (by decide)).mono ?_
  rintro e w14 ⟨⟨g14, rfl, r14, hg14⟩, hb⟩
  have B14 := Lib.hid (B13.out.trans (hb.mono B13.out.size))
  have RL14 := Lib.hid (RL13.out.later hb)
  have R13b := Lib.hid (R13.out.later hb)
  have R14 := Lib.hid r14
  clear hb r14 hg14 B13 RL13 R13
  go_wp2_with fail
  refine (apart_n _ _ 3 3 3 3 2 _ _ [0, 2] _ R13b.out R14.out (by decide) (by decide) rfl).mono ?_
  rintro e w15 ⟨⟨ga, rfl, ra⟩, hb⟩
  have B15 := Lib.hid (B14.out.trans (hb.mono B14.out.size))
  have RL15 := Lib.hid (RL14.out.later hb)
  have RA := Lib.hid ra
  clear hb ra B14 RL14 R13b R14
  -- t := Text(1 0)
  go_wp2_with fail
  refine (text_n _ 2 2 [1, 0] ⟨#[49, 48]⟩ _ (row_lit .u8 w15 5 [1, 0] 2 rfl (by decide) (by decide)) (by decide) (by decide)).mono ?_
  rintro e w16 ⟨rfl, hb⟩
  have B16 := Lib.hid (B15.out.trans ((below_call hb).mono B15.out.size))
  have RL16 := Lib.hid (RL15.out.later (below_call hb))
  have RA16 := Lib.hid (RA.out.later (below_call hb))
  clear hb B15 RL15 RA
  -- Parse(012)
  go_wp2_with fail
  refine (parse_e _ _ (by decide) (by decide)).mono ?_
  rintro e w17 ⟨rfl, hb⟩
  have B17 := Lib.hid (B16.out.trans (hb.mono B16.out.size))
  have RL17 := Lib.hid (RL16.out.later hb)
  have RA17 := Lib.hid (RA16.out.later hb)
  clear hb B16 RL16 RA16
  -- the last line
  go_wp2_with fail
  refine (stream_n _ 3 [1, 0, 0] _ rfl (by decide) (by decide)).mono ?_
  rintro e w18 ⟨⟨g18, rfl, r18, hg18⟩, hb⟩
  have B18 := Lib.hid (B17.out.trans (hb.mono B17.out.size))
  have RL18 := Lib.hid (RL17.out.later hb)
  have RA18 := Lib.hid (RA17.out.later hb)
  have R18 := Lib.hid r18
  clear hb r18 hg18 B17 RL17 RA17
  go_wp2_with fail
  refine (bytes_yes _ _ 3 3 3 _ _ RL18.out R18.out).mono ?_
  rintro e w' ⟨rfl, q19, rfl⟩
  have hb19 := below_draw w18 q19
  obtain ⟨w19, hw19⟩ : ∃ x, x = w18.drewN q19 := ⟨_, rfl⟩
  rw [← hw19] at hb19 ⊢
  have B19 := Lib.hid (B18.out.trans (hb19.mono B18.out.size))
  have ra19 := RA18.out.later hb19
  obtain ⟨ba, oa, rfl, hca⟩ : ∃ b o, ga = some ⟨b, o, none⟩ ∧ ∀ i, i < 2 → w19.cell? ⟨b, o + i, none⟩ = some (.int .i64 (([0, 2] : List Int).getD i 0)) := by
    rcases ra19.cells with h0 | ⟨b, o, h1, h2⟩
    · omega
    · exact ⟨b, o, h1, h2⟩
  have hc0 : w19.cell? ⟨ba, oa, none⟩ = some (.int .i64 0) := hca 0 (by decide)
  have hc1 : w19.cell? ⟨ba, oa + 1, none⟩ = some (.int .i64 2) := hca 1 (by decide)
  clear hb19 hw19 B18 RL18 RA18 R18 ra19 hca
  -- Run(01101, 1)
  go_wp2_with fail
  refine (stream_n _ 5 [0, 1, 1, 0, 1] _ rfl (by decide) (by decide)).mono ?_
  rintro e w20 ⟨⟨g20, rfl, r20, hg20⟩, hb⟩
  have B20 := Lib.hid (B19.out.trans (hb.mono B19.out.size))
  have R20 := Lib.hid r20
  clear hb r20 hg20 B19
  go_wp2_with fail
  refine (run_n _ 5 5 _ 1 2 _ R20.out (by decide)).mono ?_
  rintro e w' ⟨rfl, rfl⟩
  clear R20
  go_wp2
  go_ret
  exact ⟨rfl, B20.out⟩
end Go.Proofs.Ytjadmhmfjjjcfaa
