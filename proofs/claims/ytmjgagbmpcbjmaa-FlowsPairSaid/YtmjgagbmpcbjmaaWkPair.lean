/- Statements of layer 10: FlowsPair. -/
import Derived.Test.YtmjgagbmpcbjmaaFlOne
import Derived.Deep.RegionHeld3
import Derived.Deep.CutBlock
namespace Go.Proofs.Ytmjgagbmpcbjmaa
open Go.RowKit

/-- Two flow controls beside each other. -/
structure Duo (w0 w : World) (b c : Nat) (x y : Fl) : Prop where
  x : FlAt w b x
  y : FlAt w c y
  bc : b ≠ c
  lb : w0.heap.size ≤ b
  lc : w0.heap.size ≤ c
  bel : Below w0.heap.size w0 w
theorem Duo.more {w0 w w' : World} {b c : Nat} {x y : Fl} (h : Duo w0 w b c x y) (hb : Below w.heap.size w w') : Duo w0 w' b c x y :=
  ⟨h.x.below hb, h.y.below hb, h.bc, h.lb, h.lc, h.bel.trans (Below.mono hb h.bel.size)⟩
theorem Duo.drew {w0 w : World} {b c : Nat} {x y : Fl} (h : Duo w0 w b c x y) (q : Nat) : Duo w0 (w.drewN q) b c x y := h.more (below_draw w q)
theorem Duo.s1 {w0 w w' : World} {b c : Nat} {x y x' : Fl} (h : Duo w0 w b c x y) (n : Nxt w b x' w') : Duo w0 w' b c x' y :=
  ⟨n.1, h.y.exc n.2 (fun e => h.bc e.symm), h.bc, h.lb, h.lc, h.bel.trans (n.2.below h.bel.size (fun i _ e => by have := h.lb; omega))⟩
theorem Duo.s2 {w0 w w' : World} {b c : Nat} {x y y' : Fl} (h : Duo w0 w b c x y) (n : Nxt w c y' w') : Duo w0 w' b c x y' :=
  ⟨h.x.exc n.2 (fun e => h.bc e), n.1, h.bc, h.lb, h.lc, h.bel.trans (n.2.below h.bel.size (fun i _ e => by have := h.lc; omega))⟩
/-- Congested for k ticks; not congested any more. -/
def Fl.cg2 (t : Tm) (k : Nat) : Fl := ⟨t, true, k % t.again, false, false, 0, 0, false⟩
def Fl.un2 (t : Tm) (s : Nat) : Fl := ⟨t, false, s, false, false, 0, 0, false⟩
theorem cg2_tick (t : Tm) (k : Nat) : (Fl.cg2 t k).tick = Fl.cg2 t (k + 1) := by
  have : (k % t.again + 1) % t.again = (k + 1) % t.again := by rw [Nat.add_mod]; simp
  simp [Fl.cg2, Fl.tick, this]
/-- The other end, which has heard the congested one for k ticks. -/
def Fl.pb (u : Tm) (A k : Nat) : Fl := ⟨u, false, 0, false, false, if k = 0 then 0 else u.most - k, if k = 0 then u.wait else u.wait - ((k - 1) % A + 1), false⟩
def Fl.pbh (u : Tm) (A k : Nat) : Fl := if k % A = 0 then (Fl.pb u A k).hear 5 true else Fl.pb u A k
theorem pbh_eq (u : Tm) (A k : Nat) (hA : 1 ≤ A) (hw : A + 1 ≤ u.wait) (hk : k < u.most) : Fl.pbh u A k = ⟨u, false, 0, false, false, u.most - k, u.wait - k % A, false⟩ := by
  unfold Fl.pbh Fl.pb
  by_cases hz : k % A = 0
  · rw [if_pos hz, hz]
    rcases Nat.eq_zero_or_pos k with h0 | h0
    · subst h0
      have : 0 < u.wait := by omega
      simp [Fl.hear, Fl.hearB]
    · have h1 := Nat.mod_lt (k - 1) (show 0 < A by omega)
      have h2 : ¬ k = 0 := by omega
      have h3 : 0 < u.wait - ((k - 1) % A + 1) := by omega
      have h4 : ¬ u.most - k = 0 := by omega
      simp [Fl.hear, Fl.hearB, h2, h4]
      omega
  · rw [if_neg hz]
    have h0 : ¬ k = 0 := fun e => hz (by rw [e]; exact Nat.zero_mod A)
    have h1 : (k - 1) % A + 1 = k % A := by
      have e1 : k - 1 + 1 = k := by omega
      have e2 : k % A = ((k - 1) % A + 1 % A) % A := by rw [← Nat.add_mod, e1]
      have h2 := Nat.mod_lt (k - 1) (show 0 < A by omega)
      by_cases h3 : A = 1
      · subst h3; exact absurd (Nat.mod_one k) hz
      · rw [Nat.mod_eq_of_lt (show 1 < A by omega)] at e2
        by_cases h4 : (k - 1) % A + 1 < A
        · rw [Nat.mod_eq_of_lt h4] at e2; omega
        · have : (k - 1) % A + 1 = A := by omega
          rw [this, Nat.mod_self] at e2; exact absurd e2 hz
    simp [h0, h1]
theorem pb_next (u : Tm) (A k : Nat) (hA : 1 ≤ A) (hw : A + 1 ≤ u.wait) (hk : k + 1 < u.most) : (Fl.pbh u A k).tick = Fl.pb u A (k + 1) := by
  rw [pbh_eq u A k hA hw (by omega)]
  have h1 := Nat.mod_lt k (show 0 < A by omega)
  have h2 : ¬ u.most - k = 1 := by omega
  have h3 : ¬ u.wait - k % A = 1 := by omega
  simp [Fl.tick, Fl.pb, h2, h3]
  omega
theorem pb_last (u : Tm) (A k : Nat) (hA : 1 ≤ A) (hw : A + 1 ≤ u.wait) (hk : k + 1 = u.most) : (Fl.pbh u A k).tick.failed = true := by
  rw [pbh_eq u A k hA hw (by omega)]
  have h2 : u.most - k = 1 := by omega
  simp [Fl.tick, h2]
/-- The state of the other end. -/
def PbI (u : Tm) (A k : Nat) (y : Fl) : Prop := (k < u.most ∧ y = Fl.pb u A k) ∨ (u.most ≤ k ∧ y.failed = true)
def Fl.heard (y : Fl) (A k : Nat) : Fl := if k % A = 0 then y.hear 5 true else y
theorem PbI.next {u : Tm} {A k : Nat} {y : Fl} (hA : 1 ≤ A) (hw : A + 1 ≤ u.wait) (h : PbI u A k y) : PbI u A (k + 1) (y.heard A k).tick := by
  rcases h with ⟨h1, rfl⟩ | ⟨h1, h2⟩
  · by_cases hl : k + 1 = u.most
    · exact .inr ⟨by omega, pb_last u A k hA hw hl⟩
    · exact .inl ⟨by omega, pb_next u A k hA hw (by omega)⟩
  · refine .inr ⟨by omega, ?_⟩
    have e1 : y.heard A k = y := by simp [Fl.heard, Fl.hear, h2]
    rw [e1]
    unfold Fl.tick
    rw [if_pos h2]
    exact h2
theorem cg2_new (t : Tm) : (Fl.new t).congest true = Fl.cg2 t 0 := by simp [Fl.new, Fl.cg2, Fl.congest]
theorem pb_new (v : Tm) (A : Nat) : (Fl.new v).opens true false = Fl.pb v A 0 := by simp [Fl.new, Fl.pb, Fl.opens]
theorem congest_cg2 {w : World} {b : Nat} {t : Tm} (h : FlAt w b (Fl.new t)) :
    Calls Try.prog 19 #[.pointer (some ⟨b, 0, none⟩), .bool true] w fun e w' => e = .returned (.int .i64 0) ∧ Nxt w b (Fl.cg2 t 0) w' := by
  have := fl_congest b (Fl.new t) true w h
  rw [cg2_new] at this
  exact this
theorem open_pb {w : World} {b : Nat} {v : Tm} (A : Nat) (h : FlAt w b (Fl.new v)) :
    Calls Try.prog 20 #[.pointer (some ⟨b, 0, none⟩), .bool true, .bool false] w fun e w' => e = .returned (.int .i64 0) ∧ Nxt w b (Fl.pb v A 0) w' := by
  have := fl_open b (Fl.new v) true false w h
  rw [pb_new v A] at this
  exact this
theorem tick_cg2 {w : World} {b k : Nat} {t : Tm} (h : FlAt w b (Fl.cg2 t k)) :
    Calls Try.prog 23 #[.pointer (some ⟨b, 0, none⟩)] w fun e w' => e = .returned (.int .i64 0) ∧ Nxt w b (Fl.cg2 t (k + 1)) w' := by
  have := fl_tick b (Fl.cg2 t k) w h
  rw [cg2_tick] at this
  exact this
theorem failed_is {w : World} {c : Nat} {y : Fl} {F : Bool} (hF : y.failed = F) (h : FlAt w c y) :
    Calls Try.prog 18 #[.pointer (some ⟨c, 0, none⟩)] w fun e w' => e = .returned (.bool F) ∧ w' = w := by
  rw [← hF]; exact fl_failed c y w h
set_option maxHeartbeats 4000000 in
set_option maxRecDepth 100000 in
theorem pair_any (a0 a1 a2 b0 b1 b2 z : Nat) (w : World) (h0 : a0 ≤ 255) (h1 : a1 ≤ 255) (h2 : a2 ≤ 255) (k0 : b0 ≤ 255) (k1 : b1 ≤ 255) (k2 : b2 ≤ 255) :
    Calls Try.prog 4 #[.agg #[.int .u8 (a0 : Int), .int .u8 (a1 : Int), .int .u8 (a2 : Int)], .agg #[.int .u8 (b0 : Int), .int .u8 (b1 : Int), .int .u8 (b2 : Int)], .int .u8 (z : Int)] w fun e w' => e = .returned (.bool true) ∧ Below w.heap.size w w' := by
  obtain ⟨W, hW⟩ : ∃ X, X = (w.alloc (.cells #[.int .u8 (a0 : Int), .int .u8 (a1 : Int), .int .u8 (a2 : Int)] 23)).alloc (.cells #[.int .u8 (b0 : Int), .int .u8 (b1 : Int), .int .u8 (b2 : Int)] 23) := ⟨_, rfl⟩
  obtain ⟨P1, hP1⟩ : ∃ P, P = w.heap.size + 1 := ⟨_, rfl⟩
  have hbW : Below w.heap.size w W := by rw [hW]; exact (below_alloc _ _).alloc (by simp) _
  have oA : Own W w.heap.size 23 [.int .u8 (a0 : Int), .int .u8 (a1 : Int), .int .u8 (a2 : Int)] := by rw [hW]; exact (Blk.fresh w _ _ _ rfl).below (below_alloc _ _) (by simp)
  have oB : Own W P1 23 [.int .u8 (b0 : Int), .int .u8 (b1 : Int), .int .u8 (b2 : Int)] := by
    rw [hW, hP1]
    have := Blk.fresh (w.alloc (.cells #[.int .u8 (a0 : Int), .int .u8 (a1 : Int), .int .u8 (a2 : Int)] 23)) 23 #[.int .u8 (b0 : Int), .int .u8 (b1 : Int), .int .u8 (b2 : Int)] _ rfl
    rw [World.size_alloc] at this
    exact this
  obtain ⟨t, ht⟩ : ∃ t, t = tmOf a0 a1 a2 := ⟨_, rfl⟩
  obtain ⟨u, hu⟩ : ∃ t, t = tmOf b0 b1 b2 := ⟨_, rfl⟩
  have hlt : t.Low := by rw [ht]; exact tmOf_low ..
  have hlu : u.Low := by rw [hu]; exact tmOf_low ..
  have HOf := Lib.hid (fun W' => of_any a0 a1 a2 W' h0 h1 h2 t ht)
  have HOr := Lib.hid (fun W' => of_any b0 b1 b2 W' k0 k1 k2 u hu)
  have HW := Lib.hid hW
  have HO0 := Lib.hid oA
  have HO1 := Lib.hid oB
  have HB := Lib.hid hbW
  have HLo := Lib.hid (And.intro hlt hlu)
  have HLv := Lib.hid lives_any
  have HP1 := Lib.hid hP1
  obtain ⟨N, hN⟩ : ∃ N, N = z % 41 := ⟨_, rfl⟩
  have hzn : (z : Int) % 41 = (N : Int) := by omega
  have hz0 : (0 : Int) ≤ (N : Int) := by omega
  have HN := Lib.hid (show N ≤ 40 by omega)
  clear hW hbW oA oB ht hu hlt hlu h0 h1 h2 k0 k1 k2 hN hP1
  go_enter Try.func4, Try.ntmps4
  go_upto_region 1 with fail
  rw [← HW.out, ← HP1.out]
  go_cut [7, 8] from 20 (fun v7 v8 wx => ∃ p q : Nat, v7 = .pointer (some ⟨p, 0, none⟩) ∧ v8 = .pointer (some ⟨q, 0, none⟩) ∧ Own wx p 31 [.int .i64 (t.again : Int), .int .i64 (t.most : Int), .int .i64 (t.wait : Int)] ∧ Own wx q 31 [.int .i64 (u.again : Int), .int .i64 (u.most : Int), .int .i64 (u.wait : Int)] ∧ p ≠ q ∧ W.heap.size ≤ p ∧ W.heap.size ≤ q ∧ Below W.heap.size W wx)
  case first =>
    refine wp_region_held_drew (S := fun W1 => Below W.heap.size W W1) (by kernel_rfl) ?_ (fun hHeld => ?_)
    · exact below_draw W 1
    refine wpAnyH_take (i := 0) (oi := { dst := some 20, op := Op.load 23 (Operand.tmp 3), type := 23, pos := "law.go:197", after := #[], guard := none }) (v := ?_) rfl (by kernel_rfl) (by kernel_rfl) (by kernel_rfl) (fun _ _ _ h => h) (Or.inl ⟨by rfl, ?_⟩) (by assumption) ?_
    rotate_left 1
    · intro w1 hSw
      have oo := HO0.out.below hSw HO0.out.lt
      have c0 := oo.cell 0 (by simp)
      have c1 := oo.cell 1 (by simp)
      have c2 := oo.cell 2 (by simp)
      simp only [List.getD_cons_succ, List.getD_cons_zero] at c0 c1 c2
      clear oo
      go_simp
      try with_reducible rfl
    try simp only [Act.put, List.setIfInBounds_toArray, List.set_cons_zero, List.set_cons_succ]
    refine wpAnyH_take (i := 2) (oi := { dst := some 22, op := Op.load 23 (Operand.tmp 4), type := 23, pos := "law.go:197", after := #[], guard := none }) (v := ?_) rfl (by kernel_rfl) (by kernel_rfl) (by kernel_rfl) (fun _ _ _ h => h) (Or.inl ⟨by rfl, ?_⟩) (by assumption) ?_
    rotate_left 1
    · intro w1 hSw
      have oo := HO1.out.below hSw HO1.out.lt
      have c0 := oo.cell 0 (by simp)
      have c1 := oo.cell 1 (by simp)
      have c2 := oo.cell 2 (by simp)
      simp only [List.getD_cons_succ, List.getD_cons_zero] at c0 c1 c2
      clear oo
      go_simp
      try with_reducible rfl
    try simp only [Act.put, List.setIfInBounds_toArray, List.set_cons_zero, List.set_cons_succ]
    obtain ⟨X0, hX0⟩ : ∃ X, X = W.drew := ⟨_, rfl⟩
    rw [← hX0] at hHeld ⊢
    clear hX0
    refine wpAnyH_ready (rs := [1, 4, 5]) (by kernel_rfl) (by simp) ?_
    refine AllReadyH.cons (o := { dst := some 21, op := Op.call { callee := Callee.value (Operand.func 12), args := #[Operand.tmp 20], argTypes := #[23] }, type := 31, pos := "law.go:197", after := #[{ on := 0, ground := Ground.data }], guard := none }) rfl (fun K hK => ?_) ?_
    · go_simp
      with_reducible refine (HOf.out _).mono ?_
      rintro e X1 ⟨rfl, hb⟩
      go_wp2_with fail
      have hy := hHeld.trans (Below.mono hb hHeld.size)
      refine hK.out _ _ hy (fun hHeld => ?_)
      clear hK K
      try simp only [Act.put, List.setIfInBounds_toArray, List.set_cons_zero, List.set_cons_succ]
      refine wpAnyH_ready (rs := [3, 4, 5]) (by kernel_rfl) (by simp) ?_
      refine AllReadyH.cons (o := { dst := some 23, op := Op.call { callee := Callee.value (Operand.func 12), args := #[Operand.tmp 22], argTypes := #[23] }, type := 31, pos := "law.go:197", after := #[{ on := 2, ground := Ground.data }, { on := 1, ground := Ground.chain }], guard := none }) rfl (fun K hK => ?_) ?_
      · go_simp
        with_reducible refine (HOr.out _).mono ?_
        rintro e X2 ⟨rfl, hb⟩
        go_wp2_with fail
        have hy := hHeld.trans (Below.mono hb hHeld.size)
        refine hK.out _ _ hy (fun hHeld => ?_)
        clear hK K
        try simp only [Act.put, List.setIfInBounds_toArray, List.set_cons_zero, List.set_cons_succ]
        refine wpAnyH_ready (rs := [4, 5]) (by kernel_rfl) (by simp) ?_
        refine AllReadyH.cons (o := { dst := some 7, op := Op.alloc 31, type := 0, pos := "law.go:197", after := #[], guard := none }) rfl (fun K hK => ?_) ?_
        · go_simp
          obtain ⟨p, hpe⟩ : ∃ p, p = X2.heap.size := ⟨_, rfl⟩
          obtain ⟨X3, hn⟩ : ∃ Y, Y = X2.alloc (.cells #[.int .i64 0, .int .i64 0, .int .i64 0] 31) := ⟨_, rfl⟩
          have hnb : Below X2.heap.size X2 X3 := by rw [hn]; exact below_alloc _ _
          have hp3 : Own X3 p 31 [.int .i64 0, .int .i64 0, .int .i64 0] := by rw [hn, hpe]; exact Blk.fresh _ _ _ _ rfl
          have hpl : W.heap.size ≤ p := by have := hHeld.size; omega
          have hy := hHeld.trans (Below.mono hnb hHeld.size)
          rw [← hn, ← hpe]
          clear hn hpe
          refine hK.out _ _ hy (fun hHeld => ?_)
          clear hK K
          try simp only [Act.put, List.setIfInBounds_toArray, List.set_cons_zero, List.set_cons_succ]
          refine wpAnyH_ready (rs := [5]) (by kernel_rfl) (by simp) ?_
          refine AllReadyH.cons (o := { dst := some 8, op := Op.alloc 31, type := 0, pos := "law.go:197", after := #[], guard := none }) rfl (fun K hK => ?_) AllReadyH.nil
          · go_simp
            obtain ⟨q, hqe⟩ : ∃ q, q = X3.heap.size := ⟨_, rfl⟩
            obtain ⟨X4, hn⟩ : ∃ Y, Y = X3.alloc (.cells #[.int .i64 0, .int .i64 0, .int .i64 0] 31) := ⟨_, rfl⟩
            have hnb : Below X3.heap.size X3 X4 := by rw [hn]; exact below_alloc _ _
            have hq4 : Own X4 q 31 [.int .i64 0, .int .i64 0, .int .i64 0] := by rw [hn, hqe]; exact Blk.fresh _ _ _ _ rfl
            have hql : W.heap.size ≤ q := by have := hHeld.size; omega
            have hp4 := hp3.below hnb hp3.lt
            have hpq : p ≠ q := by have := hp3.lt; omega
            have hy := hHeld.trans (Below.mono hnb hHeld.size)
            rw [← hn, ← hqe]
            clear hn hqe
            refine hK.out _ _ hy (fun hHeld => ?_)
            clear hK K
            try simp only [Act.put, List.setIfInBounds_toArray, List.set_cons_zero, List.set_cons_succ]
            refine wpAnyH_ready (rs := [6]) (by kernel_rfl) (by simp) ?_
            refine AllReadyH.cons (o := { dst := none, op := Op.store 31 (Operand.tmp 7) (Operand.tmp 21), type := 0, pos := "law.go:197", after := #[{ on := 4, ground := Ground.data }, { on := 1, ground := Ground.data }, { on := 3, ground := Ground.chain }, { on := 0, ground := Ground.phase }, { on := 1, ground := Ground.phase }, { on := 2, ground := Ground.textOnly Departure.lateStores }, { on := 3, ground := Ground.textOnly Departure.lateStoresUnsure }, { on := 4, ground := Ground.phase }, { on := 5, ground := Ground.phase }], guard := none }) rfl (fun K hK => ?_) AllReadyH.nil
            rw [if_pos (by rfl)]
            with_reducible refine wp_store_mid 31 (Operand.tmp 7) (Operand.tmp 21) ?ho p 0 #[.int .i64 (t.again : Int), .int .i64 (t.most : Int), .int .i64 (t.wait : Int)] ?hx ?hy ?ht ?hi ?h1 ?_
            case ho => rfl
            case hx => rfl
            case hy => rfl
            case ht => exact (show World.there X4 p 0 3 from Blk.there hp4)
            case hi => kernel_rfl
            case h1 => simp [Value.oneCell']
            have s1 : Own (X4.setCells p 0 (#[.int .i64 (t.again : Int), .int .i64 (t.most : Int), .int .i64 (t.wait : Int)] : Array Value).toList) p 31 [.int .i64 (t.again : Int), .int .i64 (t.most : Int), .int .i64 (t.wait : Int)] := Blk.own_put _ 0 _ _ hp4
            have x1 : Exc (fun k => k = p) X4 (X4.setCells p 0 (#[.int .i64 (t.again : Int), .int .i64 (t.most : Int), .int .i64 (t.wait : Int)] : Array Value).toList) := Blk.exc_put _ 0 _ (Exc.refl _ _)
            obtain ⟨Y1, hY1⟩ : ∃ Y, Y = X4.setCells p 0 (#[.int .i64 (t.again : Int), .int .i64 (t.most : Int), .int .i64 (t.wait : Int)] : Array Value).toList := ⟨_, rfl⟩
            rw [← hY1] at s1 x1 ⊢
            clear hY1
            have s2 : Own Y1 q 31 [.int .i64 0, .int .i64 0, .int .i64 0] := hq4.exc x1 (fun e => hpq e.symm)
            have y1 := hHeld.trans (x1.below hHeld.size (fun i _ e => by omega))
            refine hK.out _ _ y1 (fun hHeld => ?_)
            clear hK K
            try simp only [Act.put]
            refine wpAnyH_ready (rs := [7]) (by kernel_rfl) (by simp) ?_
            refine AllReadyH.cons (o := { dst := none, op := Op.store 31 (Operand.tmp 8) (Operand.tmp 23), type := 0, pos := "law.go:197", after := #[{ on := 5, ground := Ground.data }, { on := 3, ground := Ground.data }, { on := 6, ground := Ground.chain }, { on := 0, ground := Ground.phase }, { on := 1, ground := Ground.phase }, { on := 2, ground := Ground.phase }, { on := 3, ground := Ground.phase }, { on := 4, ground := Ground.phase }, { on := 5, ground := Ground.phase }, { on := 6, ground := Ground.phase }], guard := none }) rfl (fun K hK => ?_) AllReadyH.nil
            rw [if_pos (by rfl)]
            with_reducible refine wp_store_mid 31 (Operand.tmp 8) (Operand.tmp 23) ?ho q 0 #[.int .i64 (u.again : Int), .int .i64 (u.most : Int), .int .i64 (u.wait : Int)] ?hx ?hy ?ht ?hi ?h1 ?_
            case ho => rfl
            case hx => rfl
            case hy => rfl
            case ht => exact (show World.there Y1 q 0 3 from Blk.there s2)
            case hi => kernel_rfl
            case h1 => simp [Value.oneCell']
            have s3 : Own (Y1.setCells q 0 (#[.int .i64 (u.again : Int), .int .i64 (u.most : Int), .int .i64 (u.wait : Int)] : Array Value).toList) q 31 [.int .i64 (u.again : Int), .int .i64 (u.most : Int), .int .i64 (u.wait : Int)] := Blk.own_put _ 0 _ _ s2
            have x2 : Exc (fun k => k = q) Y1 (Y1.setCells q 0 (#[.int .i64 (u.again : Int), .int .i64 (u.most : Int), .int .i64 (u.wait : Int)] : Array Value).toList) := Blk.exc_put _ 0 _ (Exc.refl _ _)
            obtain ⟨Y2, hY2⟩ : ∃ Y, Y = Y1.setCells q 0 (#[.int .i64 (u.again : Int), .int .i64 (u.most : Int), .int .i64 (u.wait : Int)] : Array Value).toList := ⟨_, rfl⟩
            rw [← hY2] at s3 x2 ⊢
            clear hY2
            have s4 : Own Y2 p 31 [.int .i64 (t.again : Int), .int .i64 (t.most : Int), .int .i64 (t.wait : Int)] := s1.exc x2 hpq
            have y2 := hHeld.trans (x2.below hHeld.size (fun i _ e => by omega))
            refine hK.out _ _ y2 (fun hHeld => ?_)
            clear hK K
            try simp only [Act.put]
            refine wpAnyH_done (by kernel_rfl) ?_ _
            go_wp2_with fail
            go_meet
            exact ⟨p, q, rfl, rfl, s4, s3, hpq, hpl, hql, hHeld⟩
        refine AllReadyH.cons (o := { dst := some 8, op := Op.alloc 31, type := 0, pos := "law.go:197", after := #[], guard := none }) rfl (fun K hK => ?_) AllReadyH.nil
        · go_simp
          obtain ⟨q, hqe⟩ : ∃ q, q = X2.heap.size := ⟨_, rfl⟩
          obtain ⟨X3, hn⟩ : ∃ Y, Y = X2.alloc (.cells #[.int .i64 0, .int .i64 0, .int .i64 0] 31) := ⟨_, rfl⟩
          have hnb : Below X2.heap.size X2 X3 := by rw [hn]; exact below_alloc _ _
          have hq3 : Own X3 q 31 [.int .i64 0, .int .i64 0, .int .i64 0] := by rw [hn, hqe]; exact Blk.fresh _ _ _ _ rfl
          have hql : W.heap.size ≤ q := by have := hHeld.size; omega
          have hy := hHeld.trans (Below.mono hnb hHeld.size)
          rw [← hn, ← hqe]
          clear hn hqe
          refine hK.out _ _ hy (fun hHeld => ?_)
          clear hK K
          try simp only [Act.put, List.setIfInBounds_toArray, List.set_cons_zero, List.set_cons_succ]
          refine wpAnyH_ready (rs := [4]) (by kernel_rfl) (by simp) ?_
          refine AllReadyH.cons (o := { dst := some 7, op := Op.alloc 31, type := 0, pos := "law.go:197", after := #[], guard := none }) rfl (fun K hK => ?_) AllReadyH.nil
          · go_simp
            obtain ⟨p, hpe⟩ : ∃ p, p = X3.heap.size := ⟨_, rfl⟩
            obtain ⟨X4, hn⟩ : ∃ Y, Y = X3.alloc (.cells #[.int .i64 0, .int .i64 0, .int .i64 0] 31) := ⟨_, rfl⟩
            have hnb : Below X3.heap.size X3 X4 := by rw [hn]; exact below_alloc _ _
            have hp4 : Own X4 p 31 [.int .i64 0, .int .i64 0, .int .i64 0] := by rw [hn, hpe]; exact Blk.fresh _ _ _ _ rfl
            have hpl : W.heap.size ≤ p := by have := hHeld.size; omega
            have hq4 := hq3.below hnb hq3.lt
            have hpq : p ≠ q := by have := hq3.lt; omega
            have hy := hHeld.trans (Below.mono hnb hHeld.size)
            rw [← hn, ← hpe]
            clear hn hpe
            refine hK.out _ _ hy (fun hHeld => ?_)
            clear hK K
            try simp only [Act.put, List.setIfInBounds_toArray, List.set_cons_zero, List.set_cons_succ]
            refine wpAnyH_ready (rs := [6]) (by kernel_rfl) (by simp) ?_
            refine AllReadyH.cons (o := { dst := none, op := Op.store 31 (Operand.tmp 7) (Operand.tmp 21), type := 0, pos := "law.go:197", after := #[{ on := 4, ground := Ground.data }, { on := 1, ground := Ground.data }, { on := 3, ground := Ground.chain }, { on := 0, ground := Ground.phase }, { on := 1, ground := Ground.phase }, { on := 2, ground := Ground.textOnly Departure.lateStores }, { on := 3, ground := Ground.textOnly Departure.lateStoresUnsure }, { on := 4, ground := Ground.phase }, { on := 5, ground := Ground.phase }], guard := none }) rfl (fun K hK => ?_) AllReadyH.nil
            rw [if_pos (by rfl)]
            with_reducible refine wp_store_mid 31 (Operand.tmp 7) (Operand.tmp 21) ?ho p 0 #[.int .i64 (t.again : Int), .int .i64 (t.most : Int), .int .i64 (t.wait : Int)] ?hx ?hy ?ht ?hi ?h1 ?_
            case ho => rfl
            case hx => rfl
            case hy => rfl
            case ht => exact (show World.there X4 p 0 3 from Blk.there hp4)
            case hi => kernel_rfl
            case h1 => simp [Value.oneCell']
            have s1 : Own (X4.setCells p 0 (#[.int .i64 (t.again : Int), .int .i64 (t.most : Int), .int .i64 (t.wait : Int)] : Array Value).toList) p 31 [.int .i64 (t.again : Int), .int .i64 (t.most : Int), .int .i64 (t.wait : Int)] := Blk.own_put _ 0 _ _ hp4
            have x1 : Exc (fun k => k = p) X4 (X4.setCells p 0 (#[.int .i64 (t.again : Int), .int .i64 (t.most : Int), .int .i64 (t.wait : Int)] : Array Value).toList) := Blk.exc_put _ 0 _ (Exc.refl _ _)
            obtain ⟨Y1, hY1⟩ : ∃ Y, Y = X4.setCells p 0 (#[.int .i64 (t.again : Int), .int .i64 (t.most : Int), .int .i64 (t.wait : Int)] : Array Value).toList := ⟨_, rfl⟩
            rw [← hY1] at s1 x1 ⊢
            clear hY1
            have s2 : Own Y1 q 31 [.int .i64 0, .int .i64 0, .int .i64 0] := hq4.exc x1 (fun e => hpq e.symm)
            have y1 := hHeld.trans (x1.below hHeld.size (fun i _ e => by omega))
            refine hK.out _ _ y1 (fun hHeld => ?_)
            clear hK K
            try simp only [Act.put]
            refine wpAnyH_ready (rs := [7]) (by kernel_rfl) (by simp) ?_
            refine AllReadyH.cons (o := { dst := none, op := Op.store 31 (Operand.tmp 8) (Operand.tmp 23), type := 0, pos := "law.go:197", after := #[{ on := 5, ground := Ground.data }, { on := 3, ground := Ground.data }, { on := 6, ground := Ground.chain }, { on := 0, ground := Ground.phase }, { on := 1, ground := Ground.phase }, { on := 2, ground := Ground.phase }, { on := 3, ground := Ground.phase }, { on := 4, ground := Ground.phase }, { on := 5, ground := Ground.phase }, { on := 6, ground := Ground.phase }], guard := none }) rfl (fun K hK => ?_) AllReadyH.nil
            rw [if_pos (by rfl)]
            with_reducible refine wp_store_mid 31 (Operand.tmp 8) (Operand.tmp 23) ?ho q 0 #[.int .i64 (u.again : Int), .int .i64 (u.most : Int), .int .i64 (u.wait : Int)] ?hx ?hy ?ht ?hi ?h1 ?_
            case ho => rfl
            case hx => rfl
            case hy => rfl
            case ht => exact (show World.there Y1 q 0 3 from Blk.there s2)
            case hi => kernel_rfl
            case h1 => simp [Value.oneCell']
            have s3 : Own (Y1.setCells q 0 (#[.int .i64 (u.again : Int), .int .i64 (u.most : Int), .int .i64 (u.wait : Int)] : Array Value).toList) q 31 [.int .i64 (u.again : Int), .int .i64 (u.most : Int), .int .i64 (u.wait : Int)] := Blk.own_put _ 0 _ _ s2
            have x2 : Exc (fun k => k = q) Y1 (Y1.setCells q 0 (#[.int .i64 (u.again : Int), .int .i64 (u.most : Int), .int .i64 (u.wait : Int)] : Array Value).toList) := Blk.exc_put _ 0 _ (Exc.refl _ _)
            obtain ⟨Y2, hY2⟩ : ∃ Y, Y = Y1.setCells q 0 (#[.int .i64 (u.again : Int), .int .i64 (u.most : Int), .int .i64 (u.wait : Int)] : Array Value).toList := ⟨_, rfl⟩
            rw [← hY2] at s3 x2 ⊢
            clear hY2
            have s4 : Own Y2 p 31 [.int .i64 (t.again : Int), .int .i64 (t.most : Int), .int .i64 (t.wait : Int)] := s1.exc x2 hpq
            have y2 := hHeld.trans (x2.below hHeld.size (fun i _ e => by omega))
            refine hK.out _ _ y2 (fun hHeld => ?_)
            clear hK K
            try simp only [Act.put]
            refine wpAnyH_done (by kernel_rfl) ?_ _
            go_wp2_with fail
            go_meet
            exact ⟨p, q, rfl, rfl, s4, s3, hpq, hpl, hql, hHeld⟩
      refine AllReadyH.cons (o := { dst := some 7, op := Op.alloc 31, type := 0, pos := "law.go:197", after := #[], guard := none }) rfl (fun K hK => ?_) ?_
      · go_simp
        obtain ⟨p, hpe⟩ : ∃ p, p = X1.heap.size := ⟨_, rfl⟩
        obtain ⟨X2, hn⟩ : ∃ Y, Y = X1.alloc (.cells #[.int .i64 0, .int .i64 0, .int .i64 0] 31) := ⟨_, rfl⟩
        have hnb : Below X1.heap.size X1 X2 := by rw [hn]; exact below_alloc _ _
        have hp2 : Own X2 p 31 [.int .i64 0, .int .i64 0, .int .i64 0] := by rw [hn, hpe]; exact Blk.fresh _ _ _ _ rfl
        have hpl : W.heap.size ≤ p := by have := hHeld.size; omega
        have hy := hHeld.trans (Below.mono hnb hHeld.size)
        rw [← hn, ← hpe]
        clear hn hpe
        refine hK.out _ _ hy (fun hHeld => ?_)
        clear hK K
        try simp only [Act.put, List.setIfInBounds_toArray, List.set_cons_zero, List.set_cons_succ]
        refine wpAnyH_ready (rs := [3, 5]) (by kernel_rfl) (by simp) ?_
        refine AllReadyH.cons (o := { dst := some 23, op := Op.call { callee := Callee.value (Operand.func 12), args := #[Operand.tmp 22], argTypes := #[23] }, type := 31, pos := "law.go:197", after := #[{ on := 2, ground := Ground.data }, { on := 1, ground := Ground.chain }], guard := none }) rfl (fun K hK => ?_) ?_
        · go_simp
          with_reducible refine (HOr.out _).mono ?_
          rintro e X3 ⟨rfl, hb⟩
          go_wp2_with fail
          have hp3 := hp2.below hb hp2.lt
          have hy := hHeld.trans (Below.mono hb hHeld.size)
          refine hK.out _ _ hy (fun hHeld => ?_)
          clear hK K
          try simp only [Act.put, List.setIfInBounds_toArray, List.set_cons_zero, List.set_cons_succ]
          refine wpAnyH_ready (rs := [5]) (by kernel_rfl) (by simp) ?_
          refine AllReadyH.cons (o := { dst := some 8, op := Op.alloc 31, type := 0, pos := "law.go:197", after := #[], guard := none }) rfl (fun K hK => ?_) AllReadyH.nil
          · go_simp
            obtain ⟨q, hqe⟩ : ∃ q, q = X3.heap.size := ⟨_, rfl⟩
            obtain ⟨X4, hn⟩ : ∃ Y, Y = X3.alloc (.cells #[.int .i64 0, .int .i64 0, .int .i64 0] 31) := ⟨_, rfl⟩
            have hnb : Below X3.heap.size X3 X4 := by rw [hn]; exact below_alloc _ _
            have hq4 : Own X4 q 31 [.int .i64 0, .int .i64 0, .int .i64 0] := by rw [hn, hqe]; exact Blk.fresh _ _ _ _ rfl
            have hql : W.heap.size ≤ q := by have := hHeld.size; omega
            have hp4 := hp3.below hnb hp3.lt
            have hpq : p ≠ q := by have := hp3.lt; omega
            have hy := hHeld.trans (Below.mono hnb hHeld.size)
            rw [← hn, ← hqe]
            clear hn hqe
            refine hK.out _ _ hy (fun hHeld => ?_)
            clear hK K
            try simp only [Act.put, List.setIfInBounds_toArray, List.set_cons_zero, List.set_cons_succ]
            refine wpAnyH_ready (rs := [6]) (by kernel_rfl) (by simp) ?_
            refine AllReadyH.cons (o := { dst := none, op := Op.store 31 (Operand.tmp 7) (Operand.tmp 21), type := 0, pos := "law.go:197", after := #[{ on := 4, ground := Ground.data }, { on := 1, ground := Ground.data }, { on := 3, ground := Ground.chain }, { on := 0, ground := Ground.phase }, { on := 1, ground := Ground.phase }, { on := 2, ground := Ground.textOnly Departure.lateStores }, { on := 3, ground := Ground.textOnly Departure.lateStoresUnsure }, { on := 4, ground := Ground.phase }, { on := 5, ground := Ground.phase }], guard := none }) rfl (fun K hK => ?_) AllReadyH.nil
            rw [if_pos (by rfl)]
            with_reducible refine wp_store_mid 31 (Operand.tmp 7) (Operand.tmp 21) ?ho p 0 #[.int .i64 (t.again : Int), .int .i64 (t.most : Int), .int .i64 (t.wait : Int)] ?hx ?hy ?ht ?hi ?h1 ?_
            case ho => rfl
            case hx => rfl
            case hy => rfl
            case ht => exact (show World.there X4 p 0 3 from Blk.there hp4)
            case hi => kernel_rfl
            case h1 => simp [Value.oneCell']
            have s1 : Own (X4.setCells p 0 (#[.int .i64 (t.again : Int), .int .i64 (t.most : Int), .int .i64 (t.wait : Int)] : Array Value).toList) p 31 [.int .i64 (t.again : Int), .int .i64 (t.most : Int), .int .i64 (t.wait : Int)] := Blk.own_put _ 0 _ _ hp4
            have x1 : Exc (fun k => k = p) X4 (X4.setCells p 0 (#[.int .i64 (t.again : Int), .int .i64 (t.most : Int), .int .i64 (t.wait : Int)] : Array Value).toList) := Blk.exc_put _ 0 _ (Exc.refl _ _)
            obtain ⟨Y1, hY1⟩ : ∃ Y, Y = X4.setCells p 0 (#[.int .i64 (t.again : Int), .int .i64 (t.most : Int), .int .i64 (t.wait : Int)] : Array Value).toList := ⟨_, rfl⟩
            rw [← hY1] at s1 x1 ⊢
            clear hY1
            have s2 : Own Y1 q 31 [.int .i64 0, .int .i64 0, .int .i64 0] := hq4.exc x1 (fun e => hpq e.symm)
            have y1 := hHeld.trans (x1.below hHeld.size (fun i _ e => by omega))
            refine hK.out _ _ y1 (fun hHeld => ?_)
            clear hK K
            try simp only [Act.put]
            refine wpAnyH_ready (rs := [7]) (by kernel_rfl) (by simp) ?_
            refine AllReadyH.cons (o := { dst := none, op := Op.store 31 (Operand.tmp 8) (Operand.tmp 23), type := 0, pos := "law.go:197", after := #[{ on := 5, ground := Ground.data }, { on := 3, ground := Ground.data }, { on := 6, ground := Ground.chain }, { on := 0, ground := Ground.phase }, { on := 1, ground := Ground.phase }, { on := 2, ground := Ground.phase }, { on := 3, ground := Ground.phase }, { on := 4, ground := Ground.phase }, { on := 5, ground := Ground.phase }, { on := 6, ground := Ground.phase }], guard := none }) rfl (fun K hK => ?_) AllReadyH.nil
            rw [if_pos (by rfl)]
            with_reducible refine wp_store_mid 31 (Operand.tmp 8) (Operand.tmp 23) ?ho q 0 #[.int .i64 (u.again : Int), .int .i64 (u.most : Int), .int .i64 (u.wait : Int)] ?hx ?hy ?ht ?hi ?h1 ?_
            case ho => rfl
            case hx => rfl
            case hy => rfl
            case ht => exact (show World.there Y1 q 0 3 from Blk.there s2)
            case hi => kernel_rfl
            case h1 => simp [Value.oneCell']
            have s3 : Own (Y1.setCells q 0 (#[.int .i64 (u.again : Int), .int .i64 (u.most : Int), .int .i64 (u.wait : Int)] : Array Value).toList) q 31 [.int .i64 (u.again : Int), .int .i64 (u.most : Int), .int .i64 (u.wait : Int)] := Blk.own_put _ 0 _ _ s2
            have x2 : Exc (fun k => k = q) Y1 (Y1.setCells q 0 (#[.int .i64 (u.again : Int), .int .i64 (u.most : Int), .int .i64 (u.wait : Int)] : Array Value).toList) := Blk.exc_put _ 0 _ (Exc.refl _ _)
            obtain ⟨Y2, hY2⟩ : ∃ Y, Y = Y1.setCells q 0 (#[.int .i64 (u.again : Int), .int .i64 (u.most : Int), .int .i64 (u.wait : Int)] : Array Value).toList := ⟨_, rfl⟩
            rw [← hY2] at s3 x2 ⊢
            clear hY2
            have s4 : Own Y2 p 31 [.int .i64 (t.again : Int), .int .i64 (t.most : Int), .int .i64 (t.wait : Int)] := s1.exc x2 hpq
            have y2 := hHeld.trans (x2.below hHeld.size (fun i _ e => by omega))
            refine hK.out _ _ y2 (fun hHeld => ?_)
            clear hK K
            try simp only [Act.put]
            refine wpAnyH_done (by kernel_rfl) ?_ _
            go_wp2_with fail
            go_meet
            exact ⟨p, q, rfl, rfl, s4, s3, hpq, hpl, hql, hHeld⟩
        refine AllReadyH.cons (o := { dst := some 8, op := Op.alloc 31, type := 0, pos := "law.go:197", after := #[], guard := none }) rfl (fun K hK => ?_) AllReadyH.nil
        · go_simp
          obtain ⟨q, hqe⟩ : ∃ q, q = X2.heap.size := ⟨_, rfl⟩
          obtain ⟨X3, hn⟩ : ∃ Y, Y = X2.alloc (.cells #[.int .i64 0, .int .i64 0, .int .i64 0] 31) := ⟨_, rfl⟩
          have hnb : Below X2.heap.size X2 X3 := by rw [hn]; exact below_alloc _ _
          have hq3 : Own X3 q 31 [.int .i64 0, .int .i64 0, .int .i64 0] := by rw [hn, hqe]; exact Blk.fresh _ _ _ _ rfl
          have hql : W.heap.size ≤ q := by have := hHeld.size; omega
          have hp3 := hp2.below hnb hp2.lt
          have hpq : p ≠ q := by have := hp2.lt; omega
          have hy := hHeld.trans (Below.mono hnb hHeld.size)
          rw [← hn, ← hqe]
          clear hn hqe
          refine hK.out _ _ hy (fun hHeld => ?_)
          clear hK K
          try simp only [Act.put, List.setIfInBounds_toArray, List.set_cons_zero, List.set_cons_succ]
          refine wpAnyH_ready (rs := [3]) (by kernel_rfl) (by simp) ?_
          refine AllReadyH.cons (o := { dst := some 23, op := Op.call { callee := Callee.value (Operand.func 12), args := #[Operand.tmp 22], argTypes := #[23] }, type := 31, pos := "law.go:197", after := #[{ on := 2, ground := Ground.data }, { on := 1, ground := Ground.chain }], guard := none }) rfl (fun K hK => ?_) AllReadyH.nil
          · go_simp
            with_reducible refine (HOr.out _).mono ?_
            rintro e X4 ⟨rfl, hb⟩
            go_wp2_with fail
            have hp4 := hp3.below hb hp3.lt
            have hq4 := hq3.below hb hq3.lt
            have hy := hHeld.trans (Below.mono hb hHeld.size)
            refine hK.out _ _ hy (fun hHeld => ?_)
            clear hK K
            try simp only [Act.put, List.setIfInBounds_toArray, List.set_cons_zero, List.set_cons_succ]
            refine wpAnyH_ready (rs := [6]) (by kernel_rfl) (by simp) ?_
            refine AllReadyH.cons (o := { dst := none, op := Op.store 31 (Operand.tmp 7) (Operand.tmp 21), type := 0, pos := "law.go:197", after := #[{ on := 4, ground := Ground.data }, { on := 1, ground := Ground.data }, { on := 3, ground := Ground.chain }, { on := 0, ground := Ground.phase }, { on := 1, ground := Ground.phase }, { on := 2, ground := Ground.textOnly Departure.lateStores }, { on := 3, ground := Ground.textOnly Departure.lateStoresUnsure }, { on := 4, ground := Ground.phase }, { on := 5, ground := Ground.phase }], guard := none }) rfl (fun K hK => ?_) AllReadyH.nil
            rw [if_pos (by rfl)]
            with_reducible refine wp_store_mid 31 (Operand.tmp 7) (Operand.tmp 21) ?ho p 0 #[.int .i64 (t.again : Int), .int .i64 (t.most : Int), .int .i64 (t.wait : Int)] ?hx ?hy ?ht ?hi ?h1 ?_
            case ho => rfl
            case hx => rfl
            case hy => rfl
            case ht => exact (show World.there X4 p 0 3 from Blk.there hp4)
            case hi => kernel_rfl
            case h1 => simp [Value.oneCell']
            have s1 : Own (X4.setCells p 0 (#[.int .i64 (t.again : Int), .int .i64 (t.most : Int), .int .i64 (t.wait : Int)] : Array Value).toList) p 31 [.int .i64 (t.again : Int), .int .i64 (t.most : Int), .int .i64 (t.wait : Int)] := Blk.own_put _ 0 _ _ hp4
            have x1 : Exc (fun k => k = p) X4 (X4.setCells p 0 (#[.int .i64 (t.again : Int), .int .i64 (t.most : Int), .int .i64 (t.wait : Int)] : Array Value).toList) := Blk.exc_put _ 0 _ (Exc.refl _ _)
            obtain ⟨Y1, hY1⟩ : ∃ Y, Y = X4.setCells p 0 (#[.int .i64 (t.again : Int), .int .i64 (t.most : Int), .int .i64 (t.wait : Int)] : Array Value).toList := ⟨_, rfl⟩
            rw [← hY1] at s1 x1 ⊢
            clear hY1
            have s2 : Own Y1 q 31 [.int .i64 0, .int .i64 0, .int .i64 0] := hq4.exc x1 (fun e => hpq e.symm)
            have y1 := hHeld.trans (x1.below hHeld.size (fun i _ e => by omega))
            refine hK.out _ _ y1 (fun hHeld => ?_)
            clear hK K
            try simp only [Act.put]
            refine wpAnyH_ready (rs := [7]) (by kernel_rfl) (by simp) ?_
            refine AllReadyH.cons (o := { dst := none, op := Op.store 31 (Operand.tmp 8) (Operand.tmp 23), type := 0, pos := "law.go:197", after := #[{ on := 5, ground := Ground.data }, { on := 3, ground := Ground.data }, { on := 6, ground := Ground.chain }, { on := 0, ground := Ground.phase }, { on := 1, ground := Ground.phase }, { on := 2, ground := Ground.phase }, { on := 3, ground := Ground.phase }, { on := 4, ground := Ground.phase }, { on := 5, ground := Ground.phase }, { on := 6, ground := Ground.phase }], guard := none }) rfl (fun K hK => ?_) AllReadyH.nil
            rw [if_pos (by rfl)]
            with_reducible refine wp_store_mid 31 (Operand.tmp 8) (Operand.tmp 23) ?ho q 0 #[.int .i64 (u.again : Int), .int .i64 (u.most : Int), .int .i64 (u.wait : Int)] ?hx ?hy ?ht ?hi ?h1 ?_
            case ho => rfl
            case hx => rfl
            case hy => rfl
            case ht => exact (show World.there Y1 q 0 3 from Blk.there s2)
            case hi => kernel_rfl
            case h1 => simp [Value.oneCell']
            have s3 : Own (Y1.setCells q 0 (#[.int .i64 (u.again : Int), .int .i64 (u.most : Int), .int .i64 (u.wait : Int)] : Array Value).toList) q 31 [.int .i64 (u.again : Int), .int .i64 (u.most : Int), .int .i64 (u.wait : Int)] := Blk.own_put _ 0 _ _ s2
            have x2 : Exc (fun k => k = q) Y1 (Y1.setCells q 0 (#[.int .i64 (u.again : Int), .int .i64 (u.most : Int), .int .i64 (u.wait : Int)] : Array Value).toList) := Blk.exc_put _ 0 _ (Exc.refl _ _)
            obtain ⟨Y2, hY2⟩ : ∃ Y, Y = Y1.setCells q 0 (#[.int .i64 (u.again : Int), .int .i64 (u.most : Int), .int .i64 (u.wait : Int)] : Array Value).toList := ⟨_, rfl⟩
            rw [← hY2] at s3 x2 ⊢
            clear hY2
            have s4 : Own Y2 p 31 [.int .i64 (t.again : Int), .int .i64 (t.most : Int), .int .i64 (t.wait : Int)] := s1.exc x2 hpq
            have y2 := hHeld.trans (x2.below hHeld.size (fun i _ e => by omega))
            refine hK.out _ _ y2 (fun hHeld => ?_)
            clear hK K
            try simp only [Act.put]
            refine wpAnyH_done (by kernel_rfl) ?_ _
            go_wp2_with fail
            go_meet
            exact ⟨p, q, rfl, rfl, s4, s3, hpq, hpl, hql, hHeld⟩
      refine AllReadyH.cons (o := { dst := some 8, op := Op.alloc 31, type := 0, pos := "law.go:197", after := #[], guard := none }) rfl (fun K hK => ?_) AllReadyH.nil
      · go_simp
        obtain ⟨q, hqe⟩ : ∃ q, q = X1.heap.size := ⟨_, rfl⟩
        obtain ⟨X2, hn⟩ : ∃ Y, Y = X1.alloc (.cells #[.int .i64 0, .int .i64 0, .int .i64 0] 31) := ⟨_, rfl⟩
        have hnb : Below X1.heap.size X1 X2 := by rw [hn]; exact below_alloc _ _
        have hq2 : Own X2 q 31 [.int .i64 0, .int .i64 0, .int .i64 0] := by rw [hn, hqe]; exact Blk.fresh _ _ _ _ rfl
        have hql : W.heap.size ≤ q := by have := hHeld.size; omega
        have hy := hHeld.trans (Below.mono hnb hHeld.size)
        rw [← hn, ← hqe]
        clear hn hqe
        refine hK.out _ _ hy (fun hHeld => ?_)
        clear hK K
        try simp only [Act.put, List.setIfInBounds_toArray, List.set_cons_zero, List.set_cons_succ]
        refine wpAnyH_ready (rs := [3, 4]) (by kernel_rfl) (by simp) ?_
        refine AllReadyH.cons (o := { dst := some 23, op := Op.call { callee := Callee.value (Operand.func 12), args := #[Operand.tmp 22], argTypes := #[23] }, type := 31, pos := "law.go:197", after := #[{ on := 2, ground := Ground.data }, { on := 1, ground := Ground.chain }], guard := none }) rfl (fun K hK => ?_) ?_
        · go_simp
          with_reducible refine (HOr.out _).mono ?_
          rintro e X3 ⟨rfl, hb⟩
          go_wp2_with fail
          have hq3 := hq2.below hb hq2.lt
          have hy := hHeld.trans (Below.mono hb hHeld.size)
          refine hK.out _ _ hy (fun hHeld => ?_)
          clear hK K
          try simp only [Act.put, List.setIfInBounds_toArray, List.set_cons_zero, List.set_cons_succ]
          refine wpAnyH_ready (rs := [4]) (by kernel_rfl) (by simp) ?_
          refine AllReadyH.cons (o := { dst := some 7, op := Op.alloc 31, type := 0, pos := "law.go:197", after := #[], guard := none }) rfl (fun K hK => ?_) AllReadyH.nil
          · go_simp
            obtain ⟨p, hpe⟩ : ∃ p, p = X3.heap.size := ⟨_, rfl⟩
            obtain ⟨X4, hn⟩ : ∃ Y, Y = X3.alloc (.cells #[.int .i64 0, .int .i64 0, .int .i64 0] 31) := ⟨_, rfl⟩
            have hnb : Below X3.heap.size X3 X4 := by rw [hn]; exact below_alloc _ _
            have hp4 : Own X4 p 31 [.int .i64 0, .int .i64 0, .int .i64 0] := by rw [hn, hpe]; exact Blk.fresh _ _ _ _ rfl
            have hpl : W.heap.size ≤ p := by have := hHeld.size; omega
            have hq4 := hq3.below hnb hq3.lt
            have hpq : p ≠ q := by have := hq3.lt; omega
            have hy := hHeld.trans (Below.mono hnb hHeld.size)
            rw [← hn, ← hpe]
            clear hn hpe
            refine hK.out _ _ hy (fun hHeld => ?_)
            clear hK K
            try simp only [Act.put, List.setIfInBounds_toArray, List.set_cons_zero, List.set_cons_succ]
            refine wpAnyH_ready (rs := [6]) (by kernel_rfl) (by simp) ?_
            refine AllReadyH.cons (o := { dst := none, op := Op.store 31 (Operand.tmp 7) (Operand.tmp 21), type := 0, pos := "law.go:197", after := #[{ on := 4, ground := Ground.data }, { on := 1, ground := Ground.data }, { on := 3, ground := Ground.chain }, { on := 0, ground := Ground.phase }, { on := 1, ground := Ground.phase }, { on := 2, ground := Ground.textOnly Departure.lateStores }, { on := 3, ground := Ground.textOnly Departure.lateStoresUnsure }, { on := 4, ground := Ground.phase }, { on := 5, ground := Ground.phase }], guard := none }) rfl (fun K hK => ?_) AllReadyH.nil
            rw [if_pos (by rfl)]
            with_reducible refine wp_store_mid 31 (Operand.tmp 7) (Operand.tmp 21) ?ho p 0 #[.int .i64 (t.again : Int), .int .i64 (t.most : Int), .int .i64 (t.wait : Int)] ?hx ?hy ?ht ?hi ?h1 ?_
            case ho => rfl
            case hx => rfl
            case hy => rfl
            case ht => exact (show World.there X4 p 0 3 from Blk.there hp4)
            case hi => kernel_rfl
            case h1 => simp [Value.oneCell']
            have s1 : Own (X4.setCells p 0 (#[.int .i64 (t.again : Int), .int .i64 (t.most : Int), .int .i64 (t.wait : Int)] : Array Value).toList) p 31 [.int .i64 (t.again : Int), .int .i64 (t.most : Int), .int .i64 (t.wait : Int)] := Blk.own_put _ 0 _ _ hp4
            have x1 : Exc (fun k => k = p) X4 (X4.setCells p 0 (#[.int .i64 (t.again : Int), .int .i64 (t.most : Int), .int .i64 (t.wait : Int)] : Array Value).toList) := Blk.exc_put _ 0 _ (Exc.refl _ _)
            obtain ⟨Y1, hY1⟩ : ∃ Y, Y = X4.setCells p 0 (#[.int .i64 (t.again : Int), .int .i64 (t.most : Int), .int .i64 (t.wait : Int)] : Array Value).toList := ⟨_, rfl⟩
            rw [← hY1] at s1 x1 ⊢
            clear hY1
            have s2 : Own Y1 q 31 [.int .i64 0, .int .i64 0, .int .i64 0] := hq4.exc x1 (fun e => hpq e.symm)
            have y1 := hHeld.trans (x1.below hHeld.size (fun i _ e => by omega))
            refine hK.out _ _ y1 (fun hHeld => ?_)
            clear hK K
            try simp only [Act.put]
            refine wpAnyH_ready (rs := [7]) (by kernel_rfl) (by simp) ?_
            refine AllReadyH.cons (o := { dst := none, op := Op.store 31 (Operand.tmp 8) (Operand.tmp 23), type := 0, pos := "law.go:197", after := #[{ on := 5, ground := Ground.data }, { on := 3, ground := Ground.data }, { on := 6, ground := Ground.chain }, { on := 0, ground := Ground.phase }, { on := 1, ground := Ground.phase }, { on := 2, ground := Ground.phase }, { on := 3, ground := Ground.phase }, { on := 4, ground := Ground.phase }, { on := 5, ground := Ground.phase }, { on := 6, ground := Ground.phase }], guard := none }) rfl (fun K hK => ?_) AllReadyH.nil
            rw [if_pos (by rfl)]
            with_reducible refine wp_store_mid 31 (Operand.tmp 8) (Operand.tmp 23) ?ho q 0 #[.int .i64 (u.again : Int), .int .i64 (u.most : Int), .int .i64 (u.wait : Int)] ?hx ?hy ?ht ?hi ?h1 ?_
            case ho => rfl
            case hx => rfl
            case hy => rfl
            case ht => exact (show World.there Y1 q 0 3 from Blk.there s2)
            case hi => kernel_rfl
            case h1 => simp [Value.oneCell']
            have s3 : Own (Y1.setCells q 0 (#[.int .i64 (u.again : Int), .int .i64 (u.most : Int), .int .i64 (u.wait : Int)] : Array Value).toList) q 31 [.int .i64 (u.again : Int), .int .i64 (u.most : Int), .int .i64 (u.wait : Int)] := Blk.own_put _ 0 _ _ s2
            have x2 : Exc (fun k => k = q) Y1 (Y1.setCells q 0 (#[.int .i64 (u.again : Int), .int .i64 (u.most : Int), .int .i64 (u.wait : Int)] : Array Value).toList) := Blk.exc_put _ 0 _ (Exc.refl _ _)
            obtain ⟨Y2, hY2⟩ : ∃ Y, Y = Y1.setCells q 0 (#[.int .i64 (u.again : Int), .int .i64 (u.most : Int), .int .i64 (u.wait : Int)] : Array Value).toList := ⟨_, rfl⟩
            rw [← hY2] at s3 x2 ⊢
            clear hY2
            have s4 : Own Y2 p 31 [.int .i64 (t.again : Int), .int .i64 (t.most : Int), .int .i64 (t.wait : Int)] := s1.exc x2 hpq
            have y2 := hHeld.trans (x2.below hHeld.size (fun i _ e => by omega))
            refine hK.out _ _ y2 (fun hHeld => ?_)
            clear hK K
            try simp only [Act.put]
            refine wpAnyH_done (by kernel_rfl) ?_ _
            go_wp2_with fail
            go_meet
            exact ⟨p, q, rfl, rfl, s4, s3, hpq, hpl, hql, hHeld⟩
        refine AllReadyH.cons (o := { dst := some 7, op := Op.alloc 31, type := 0, pos := "law.go:197", after := #[], guard := none }) rfl (fun K hK => ?_) AllReadyH.nil
        · go_simp
          obtain ⟨p, hpe⟩ : ∃ p, p = X2.heap.size := ⟨_, rfl⟩
          obtain ⟨X3, hn⟩ : ∃ Y, Y = X2.alloc (.cells #[.int .i64 0, .int .i64 0, .int .i64 0] 31) := ⟨_, rfl⟩
          have hnb : Below X2.heap.size X2 X3 := by rw [hn]; exact below_alloc _ _
          have hp3 : Own X3 p 31 [.int .i64 0, .int .i64 0, .int .i64 0] := by rw [hn, hpe]; exact Blk.fresh _ _ _ _ rfl
          have hpl : W.heap.size ≤ p := by have := hHeld.size; omega
          have hq3 := hq2.below hnb hq2.lt
          have hpq : p ≠ q := by have := hq2.lt; omega
          have hy := hHeld.trans (Below.mono hnb hHeld.size)
          rw [← hn, ← hpe]
          clear hn hpe
          refine hK.out _ _ hy (fun hHeld => ?_)
          clear hK K
          try simp only [Act.put, List.setIfInBounds_toArray, List.set_cons_zero, List.set_cons_succ]
          refine wpAnyH_ready (rs := [3]) (by kernel_rfl) (by simp) ?_
          refine AllReadyH.cons (o := { dst := some 23, op := Op.call { callee := Callee.value (Operand.func 12), args := #[Operand.tmp 22], argTypes := #[23] }, type := 31, pos := "law.go:197", after := #[{ on := 2, ground := Ground.data }, { on := 1, ground := Ground.chain }], guard := none }) rfl (fun K hK => ?_) AllReadyH.nil
          · go_simp
            with_reducible refine (HOr.out _).mono ?_
            rintro e X4 ⟨rfl, hb⟩
            go_wp2_with fail
            have hp4 := hp3.below hb hp3.lt
            have hq4 := hq3.below hb hq3.lt
            have hy := hHeld.trans (Below.mono hb hHeld.size)
            refine hK.out _ _ hy (fun hHeld => ?_)
            clear hK K
            try simp only [Act.put, List.setIfInBounds_toArray, List.set_cons_zero, List.set_cons_succ]
            refine wpAnyH_ready (rs := [6]) (by kernel_rfl) (by simp) ?_
            refine AllReadyH.cons (o := { dst := none, op := Op.store 31 (Operand.tmp 7) (Operand.tmp 21), type := 0, pos := "law.go:197", after := #[{ on := 4, ground := Ground.data }, { on := 1, ground := Ground.data }, { on := 3, ground := Ground.chain }, { on := 0, ground := Ground.phase }, { on := 1, ground := Ground.phase }, { on := 2, ground := Ground.textOnly Departure.lateStores }, { on := 3, ground := Ground.textOnly Departure.lateStoresUnsure }, { on := 4, ground := Ground.phase }, { on := 5, ground := Ground.phase }], guard := none }) rfl (fun K hK => ?_) AllReadyH.nil
            rw [if_pos (by rfl)]
            with_reducible refine wp_store_mid 31 (Operand.tmp 7) (Operand.tmp 21) ?ho p 0 #[.int .i64 (t.again : Int), .int .i64 (t.most : Int), .int .i64 (t.wait : Int)] ?hx ?hy ?ht ?hi ?h1 ?_
            case ho => rfl
            case hx => rfl
            case hy => rfl
            case ht => exact (show World.there X4 p 0 3 from Blk.there hp4)
            case hi => kernel_rfl
            case h1 => simp [Value.oneCell']
            have s1 : Own (X4.setCells p 0 (#[.int .i64 (t.again : Int), .int .i64 (t.most : Int), .int .i64 (t.wait : Int)] : Array Value).toList) p 31 [.int .i64 (t.again : Int), .int .i64 (t.most : Int), .int .i64 (t.wait : Int)] := Blk.own_put _ 0 _ _ hp4
            have x1 : Exc (fun k => k = p) X4 (X4.setCells p 0 (#[.int .i64 (t.again : Int), .int .i64 (t.most : Int), .int .i64 (t.wait : Int)] : Array Value).toList) := Blk.exc_put _ 0 _ (Exc.refl _ _)
            obtain ⟨Y1, hY1⟩ : ∃ Y, Y = X4.setCells p 0 (#[.int .i64 (t.again : Int), .int .i64 (t.most : Int), .int .i64 (t.wait : Int)] : Array Value).toList := ⟨_, rfl⟩
            rw [← hY1] at s1 x1 ⊢
            clear hY1
            have s2 : Own Y1 q 31 [.int .i64 0, .int .i64 0, .int .i64 0] := hq4.exc x1 (fun e => hpq e.symm)
            have y1 := hHeld.trans (x1.below hHeld.size (fun i _ e => by omega))
            refine hK.out _ _ y1 (fun hHeld => ?_)
            clear hK K
            try simp only [Act.put]
            refine wpAnyH_ready (rs := [7]) (by kernel_rfl) (by simp) ?_
            refine AllReadyH.cons (o := { dst := none, op := Op.store 31 (Operand.tmp 8) (Operand.tmp 23), type := 0, pos := "law.go:197", after := #[{ on := 5, ground := Ground.data }, { on := 3, ground := Ground.data }, { on := 6, ground := Ground.chain }, { on := 0, ground := Ground.phase }, { on := 1, ground := Ground.phase }, { on := 2, ground := Ground.phase }, { on := 3, ground := Ground.phase }, { on := 4, ground := Ground.phase }, { on := 5, ground := Ground.phase }, { on := 6, ground := Ground.phase }], guard := none }) rfl (fun K hK => ?_) AllReadyH.nil
            rw [if_pos (by rfl)]
            with_reducible refine wp_store_mid 31 (Operand.tmp 8) (Operand.tmp 23) ?ho q 0 #[.int .i64 (u.again : Int), .int .i64 (u.most : Int), .int .i64 (u.wait : Int)] ?hx ?hy ?ht ?hi ?h1 ?_
            case ho => rfl
            case hx => rfl
            case hy => rfl
            case ht => exact (show World.there Y1 q 0 3 from Blk.there s2)
            case hi => kernel_rfl
            case h1 => simp [Value.oneCell']
            have s3 : Own (Y1.setCells q 0 (#[.int .i64 (u.again : Int), .int .i64 (u.most : Int), .int .i64 (u.wait : Int)] : Array Value).toList) q 31 [.int .i64 (u.again : Int), .int .i64 (u.most : Int), .int .i64 (u.wait : Int)] := Blk.own_put _ 0 _ _ s2
            have x2 : Exc (fun k => k = q) Y1 (Y1.setCells q 0 (#[.int .i64 (u.again : Int), .int .i64 (u.most : Int), .int .i64 (u.wait : Int)] : Array Value).toList) := Blk.exc_put _ 0 _ (Exc.refl _ _)
            obtain ⟨Y2, hY2⟩ : ∃ Y, Y = Y1.setCells q 0 (#[.int .i64 (u.again : Int), .int .i64 (u.most : Int), .int .i64 (u.wait : Int)] : Array Value).toList := ⟨_, rfl⟩
            rw [← hY2] at s3 x2 ⊢
            clear hY2
            have s4 : Own Y2 p 31 [.int .i64 (t.again : Int), .int .i64 (t.most : Int), .int .i64 (t.wait : Int)] := s1.exc x2 hpq
            have y2 := hHeld.trans (x2.below hHeld.size (fun i _ e => by omega))
            refine hK.out _ _ y2 (fun hHeld => ?_)
            clear hK K
            try simp only [Act.put]
            refine wpAnyH_done (by kernel_rfl) ?_ _
            go_wp2_with fail
            go_meet
            exact ⟨p, q, rfl, rfl, s4, s3, hpq, hpl, hql, hHeld⟩
    refine AllReadyH.cons (o := { dst := some 7, op := Op.alloc 31, type := 0, pos := "law.go:197", after := #[], guard := none }) rfl (fun K hK => ?_) ?_
    · go_simp
      obtain ⟨p, hpe⟩ : ∃ p, p = X0.heap.size := ⟨_, rfl⟩
      obtain ⟨X1, hn⟩ : ∃ Y, Y = X0.alloc (.cells #[.int .i64 0, .int .i64 0, .int .i64 0] 31) := ⟨_, rfl⟩
      have hnb : Below X0.heap.size X0 X1 := by rw [hn]; exact below_alloc _ _
      have hp1 : Own X1 p 31 [.int .i64 0, .int .i64 0, .int .i64 0] := by rw [hn, hpe]; exact Blk.fresh _ _ _ _ rfl
      have hpl : W.heap.size ≤ p := by have := hHeld.size; omega
      have hy := hHeld.trans (Below.mono hnb hHeld.size)
      rw [← hn, ← hpe]
      clear hn hpe
      refine hK.out _ _ hy (fun hHeld => ?_)
      clear hK K
      try simp only [Act.put, List.setIfInBounds_toArray, List.set_cons_zero, List.set_cons_succ]
      refine wpAnyH_ready (rs := [1, 5]) (by kernel_rfl) (by simp) ?_
      refine AllReadyH.cons (o := { dst := some 21, op := Op.call { callee := Callee.value (Operand.func 12), args := #[Operand.tmp 20], argTypes := #[23] }, type := 31, pos := "law.go:197", after := #[{ on := 0, ground := Ground.data }], guard := none }) rfl (fun K hK => ?_) ?_
      · go_simp
        with_reducible refine (HOf.out _).mono ?_
        rintro e X2 ⟨rfl, hb⟩
        go_wp2_with fail
        have hp2 := hp1.below hb hp1.lt
        have hy := hHeld.trans (Below.mono hb hHeld.size)
        refine hK.out _ _ hy (fun hHeld => ?_)
        clear hK K
        try simp only [Act.put, List.setIfInBounds_toArray, List.set_cons_zero, List.set_cons_succ]
        refine wpAnyH_ready (rs := [3, 5]) (by kernel_rfl) (by simp) ?_
        refine AllReadyH.cons (o := { dst := some 23, op := Op.call { callee := Callee.value (Operand.func 12), args := #[Operand.tmp 22], argTypes := #[23] }, type := 31, pos := "law.go:197", after := #[{ on := 2, ground := Ground.data }, { on := 1, ground := Ground.chain }], guard := none }) rfl (fun K hK => ?_) ?_
        · go_simp
          with_reducible refine (HOr.out _).mono ?_
          rintro e X3 ⟨rfl, hb⟩
          go_wp2_with fail
          have hp3 := hp2.below hb hp2.lt
          have hy := hHeld.trans (Below.mono hb hHeld.size)
          refine hK.out _ _ hy (fun hHeld => ?_)
          clear hK K
          try simp only [Act.put, List.setIfInBounds_toArray, List.set_cons_zero, List.set_cons_succ]
          refine wpAnyH_ready (rs := [5]) (by kernel_rfl) (by simp) ?_
          refine AllReadyH.cons (o := { dst := some 8, op := Op.alloc 31, type := 0, pos := "law.go:197", after := #[], guard := none }) rfl (fun K hK => ?_) AllReadyH.nil
          · go_simp
            obtain ⟨q, hqe⟩ : ∃ q, q = X3.heap.size := ⟨_, rfl⟩
            obtain ⟨X4, hn⟩ : ∃ Y, Y = X3.alloc (.cells #[.int .i64 0, .int .i64 0, .int .i64 0] 31) := ⟨_, rfl⟩
            have hnb : Below X3.heap.size X3 X4 := by rw [hn]; exact below_alloc _ _
            have hq4 : Own X4 q 31 [.int .i64 0, .int .i64 0, .int .i64 0] := by rw [hn, hqe]; exact Blk.fresh _ _ _ _ rfl
            have hql : W.heap.size ≤ q := by have := hHeld.size; omega
            have hp4 := hp3.below hnb hp3.lt
            have hpq : p ≠ q := by have := hp3.lt; omega
            have hy := hHeld.trans (Below.mono hnb hHeld.size)
            rw [← hn, ← hqe]
            clear hn hqe
            refine hK.out _ _ hy (fun hHeld => ?_)
            clear hK K
            try simp only [Act.put, List.setIfInBounds_toArray, List.set_cons_zero, List.set_cons_succ]
            refine wpAnyH_ready (rs := [6]) (by kernel_rfl) (by simp) ?_
            refine AllReadyH.cons (o := { dst := none, op := Op.store 31 (Operand.tmp 7) (Operand.tmp 21), type := 0, pos := "law.go:197", after := #[{ on := 4, ground := Ground.data }, { on := 1, ground := Ground.data }, { on := 3, ground := Ground.chain }, { on := 0, ground := Ground.phase }, { on := 1, ground := Ground.phase }, { on := 2, ground := Ground.textOnly Departure.lateStores }, { on := 3, ground := Ground.textOnly Departure.lateStoresUnsure }, { on := 4, ground := Ground.phase }, { on := 5, ground := Ground.phase }], guard := none }) rfl (fun K hK => ?_) AllReadyH.nil
            rw [if_pos (by rfl)]
            with_reducible refine wp_store_mid 31 (Operand.tmp 7) (Operand.tmp 21) ?ho p 0 #[.int .i64 (t.again : Int), .int .i64 (t.most : Int), .int .i64 (t.wait : Int)] ?hx ?hy ?ht ?hi ?h1 ?_
            case ho => rfl
            case hx => rfl
            case hy => rfl
            case ht => exact (show World.there X4 p 0 3 from Blk.there hp4)
            case hi => kernel_rfl
            case h1 => simp [Value.oneCell']
            have s1 : Own (X4.setCells p 0 (#[.int .i64 (t.again : Int), .int .i64 (t.most : Int), .int .i64 (t.wait : Int)] : Array Value).toList) p 31 [.int .i64 (t.again : Int), .int .i64 (t.most : Int), .int .i64 (t.wait : Int)] := Blk.own_put _ 0 _ _ hp4
            have x1 : Exc (fun k => k = p) X4 (X4.setCells p 0 (#[.int .i64 (t.again : Int), .int .i64 (t.most : Int), .int .i64 (t.wait : Int)] : Array Value).toList) := Blk.exc_put _ 0 _ (Exc.refl _ _)
            obtain ⟨Y1, hY1⟩ : ∃ Y, Y = X4.setCells p 0 (#[.int .i64 (t.again : Int), .int .i64 (t.most : Int), .int .i64 (t.wait : Int)] : Array Value).toList := ⟨_, rfl⟩
            rw [← hY1] at s1 x1 ⊢
            clear hY1
            have s2 : Own Y1 q 31 [.int .i64 0, .int .i64 0, .int .i64 0] := hq4.exc x1 (fun e => hpq e.symm)
            have y1 := hHeld.trans (x1.below hHeld.size (fun i _ e => by omega))
            refine hK.out _ _ y1 (fun hHeld => ?_)
            clear hK K
            try simp only [Act.put]
            refine wpAnyH_ready (rs := [7]) (by kernel_rfl) (by simp) ?_
            refine AllReadyH.cons (o := { dst := none, op := Op.store 31 (Operand.tmp 8) (Operand.tmp 23), type := 0, pos := "law.go:197", after := #[{ on := 5, ground := Ground.data }, { on := 3, ground := Ground.data }, { on := 6, ground := Ground.chain }, { on := 0, ground := Ground.phase }, { on := 1, ground := Ground.phase }, { on := 2, ground := Ground.phase }, { on := 3, ground := Ground.phase }, { on := 4, ground := Ground.phase }, { on := 5, ground := Ground.phase }, { on := 6, ground := Ground.phase }], guard := none }) rfl (fun K hK => ?_) AllReadyH.nil
            rw [if_pos (by rfl)]
            with_reducible refine wp_store_mid 31 (Operand.tmp 8) (Operand.tmp 23) ?ho q 0 #[.int .i64 (u.again : Int), .int .i64 (u.most : Int), .int .i64 (u.wait : Int)] ?hx ?hy ?ht ?hi ?h1 ?_
            case ho => rfl
            case hx => rfl
            case hy => rfl
            case ht => exact (show World.there Y1 q 0 3 from Blk.there s2)
            case hi => kernel_rfl
            case h1 => simp [Value.oneCell']
            have s3 : Own (Y1.setCells q 0 (#[.int .i64 (u.again : Int), .int .i64 (u.most : Int), .int .i64 (u.wait : Int)] : Array Value).toList) q 31 [.int .i64 (u.again : Int), .int .i64 (u.most : Int), .int .i64 (u.wait : Int)] := Blk.own_put _ 0 _ _ s2
            have x2 : Exc (fun k => k = q) Y1 (Y1.setCells q 0 (#[.int .i64 (u.again : Int), .int .i64 (u.most : Int), .int .i64 (u.wait : Int)] : Array Value).toList) := Blk.exc_put _ 0 _ (Exc.refl _ _)
            obtain ⟨Y2, hY2⟩ : ∃ Y, Y = Y1.setCells q 0 (#[.int .i64 (u.again : Int), .int .i64 (u.most : Int), .int .i64 (u.wait : Int)] : Array Value).toList := ⟨_, rfl⟩
            rw [← hY2] at s3 x2 ⊢
            clear hY2
            have s4 : Own Y2 p 31 [.int .i64 (t.again : Int), .int .i64 (t.most : Int), .int .i64 (t.wait : Int)] := s1.exc x2 hpq
            have y2 := hHeld.trans (x2.below hHeld.size (fun i _ e => by omega))
            refine hK.out _ _ y2 (fun hHeld => ?_)
            clear hK K
            try simp only [Act.put]
            refine wpAnyH_done (by kernel_rfl) ?_ _
            go_wp2_with fail
            go_meet
            exact ⟨p, q, rfl, rfl, s4, s3, hpq, hpl, hql, hHeld⟩
        refine AllReadyH.cons (o := { dst := some 8, op := Op.alloc 31, type := 0, pos := "law.go:197", after := #[], guard := none }) rfl (fun K hK => ?_) AllReadyH.nil
        · go_simp
          obtain ⟨q, hqe⟩ : ∃ q, q = X2.heap.size := ⟨_, rfl⟩
          obtain ⟨X3, hn⟩ : ∃ Y, Y = X2.alloc (.cells #[.int .i64 0, .int .i64 0, .int .i64 0] 31) := ⟨_, rfl⟩
          have hnb : Below X2.heap.size X2 X3 := by rw [hn]; exact below_alloc _ _
          have hq3 : Own X3 q 31 [.int .i64 0, .int .i64 0, .int .i64 0] := by rw [hn, hqe]; exact Blk.fresh _ _ _ _ rfl
          have hql : W.heap.size ≤ q := by have := hHeld.size; omega
          have hp3 := hp2.below hnb hp2.lt
          have hpq : p ≠ q := by have := hp2.lt; omega
          have hy := hHeld.trans (Below.mono hnb hHeld.size)
          rw [← hn, ← hqe]
          clear hn hqe
          refine hK.out _ _ hy (fun hHeld => ?_)
          clear hK K
          try simp only [Act.put, List.setIfInBounds_toArray, List.set_cons_zero, List.set_cons_succ]
          refine wpAnyH_ready (rs := [3]) (by kernel_rfl) (by simp) ?_
          refine AllReadyH.cons (o := { dst := some 23, op := Op.call { callee := Callee.value (Operand.func 12), args := #[Operand.tmp 22], argTypes := #[23] }, type := 31, pos := "law.go:197", after := #[{ on := 2, ground := Ground.data }, { on := 1, ground := Ground.chain }], guard := none }) rfl (fun K hK => ?_) AllReadyH.nil
          · go_simp
            with_reducible refine (HOr.out _).mono ?_
            rintro e X4 ⟨rfl, hb⟩
            go_wp2_with fail
            have hp4 := hp3.below hb hp3.lt
            have hq4 := hq3.below hb hq3.lt
            have hy := hHeld.trans (Below.mono hb hHeld.size)
            refine hK.out _ _ hy (fun hHeld => ?_)
            clear hK K
            try simp only [Act.put, List.setIfInBounds_toArray, List.set_cons_zero, List.set_cons_succ]
            refine wpAnyH_ready (rs := [6]) (by kernel_rfl) (by simp) ?_
            refine AllReadyH.cons (o := { dst := none, op := Op.store 31 (Operand.tmp 7) (Operand.tmp 21), type := 0, pos := "law.go:197", after := #[{ on := 4, ground := Ground.data }, { on := 1, ground := Ground.data }, { on := 3, ground := Ground.chain }, { on := 0, ground := Ground.phase }, { on := 1, ground := Ground.phase }, { on := 2, ground := Ground.textOnly Departure.lateStores }, { on := 3, ground := Ground.textOnly Departure.lateStoresUnsure }, { on := 4, ground := Ground.phase }, { on := 5, ground := Ground.phase }], guard := none }) rfl (fun K hK => ?_) AllReadyH.nil
            rw [if_pos (by rfl)]
            with_reducible refine wp_store_mid 31 (Operand.tmp 7) (Operand.tmp 21) ?ho p 0 #[.int .i64 (t.again : Int), .int .i64 (t.most : Int), .int .i64 (t.wait : Int)] ?hx ?hy ?ht ?hi ?h1 ?_
            case ho => rfl
            case hx => rfl
            case hy => rfl
            case ht => exact (show World.there X4 p 0 3 from Blk.there hp4)
            case hi => kernel_rfl
            case h1 => simp [Value.oneCell']
            have s1 : Own (X4.setCells p 0 (#[.int .i64 (t.again : Int), .int .i64 (t.most : Int), .int .i64 (t.wait : Int)] : Array Value).toList) p 31 [.int .i64 (t.again : Int), .int .i64 (t.most : Int), .int .i64 (t.wait : Int)] := Blk.own_put _ 0 _ _ hp4
            have x1 : Exc (fun k => k = p) X4 (X4.setCells p 0 (#[.int .i64 (t.again : Int), .int .i64 (t.most : Int), .int .i64 (t.wait : Int)] : Array Value).toList) := Blk.exc_put _ 0 _ (Exc.refl _ _)
            obtain ⟨Y1, hY1⟩ : ∃ Y, Y = X4.setCells p 0 (#[.int .i64 (t.again : Int), .int .i64 (t.most : Int), .int .i64 (t.wait : Int)] : Array Value).toList := ⟨_, rfl⟩
            rw [← hY1] at s1 x1 ⊢
            clear hY1
            have s2 : Own Y1 q 31 [.int .i64 0, .int .i64 0, .int .i64 0] := hq4.exc x1 (fun e => hpq e.symm)
            have y1 := hHeld.trans (x1.below hHeld.size (fun i _ e => by omega))
            refine hK.out _ _ y1 (fun hHeld => ?_)
            clear hK K
            try simp only [Act.put]
            refine wpAnyH_ready (rs := [7]) (by kernel_rfl) (by simp) ?_
            refine AllReadyH.cons (o := { dst := none, op := Op.store 31 (Operand.tmp 8) (Operand.tmp 23), type := 0, pos := "law.go:197", after := #[{ on := 5, ground := Ground.data }, { on := 3, ground := Ground.data }, { on := 6, ground := Ground.chain }, { on := 0, ground := Ground.phase }, { on := 1, ground := Ground.phase }, { on := 2, ground := Ground.phase }, { on := 3, ground := Ground.phase }, { on := 4, ground := Ground.phase }, { on := 5, ground := Ground.phase }, { on := 6, ground := Ground.phase }], guard := none }) rfl (fun K hK => ?_) AllReadyH.nil
            rw [if_pos (by rfl)]
            with_reducible refine wp_store_mid 31 (Operand.tmp 8) (Operand.tmp 23) ?ho q 0 #[.int .i64 (u.again : Int), .int .i64 (u.most : Int), .int .i64 (u.wait : Int)] ?hx ?hy ?ht ?hi ?h1 ?_
            case ho => rfl
            case hx => rfl
            case hy => rfl
            case ht => exact (show World.there Y1 q 0 3 from Blk.there s2)
            case hi => kernel_rfl
            case h1 => simp [Value.oneCell']
            have s3 : Own (Y1.setCells q 0 (#[.int .i64 (u.again : Int), .int .i64 (u.most : Int), .int .i64 (u.wait : Int)] : Array Value).toList) q 31 [.int .i64 (u.again : Int), .int .i64 (u.most : Int), .int .i64 (u.wait : Int)] := Blk.own_put _ 0 _ _ s2
            have x2 : Exc (fun k => k = q) Y1 (Y1.setCells q 0 (#[.int .i64 (u.again : Int), .int .i64 (u.most : Int), .int .i64 (u.wait : Int)] : Array Value).toList) := Blk.exc_put _ 0 _ (Exc.refl _ _)
            obtain ⟨Y2, hY2⟩ : ∃ Y, Y = Y1.setCells q 0 (#[.int .i64 (u.again : Int), .int .i64 (u.most : Int), .int .i64 (u.wait : Int)] : Array Value).toList := ⟨_, rfl⟩
            rw [← hY2] at s3 x2 ⊢
            clear hY2
            have s4 : Own Y2 p 31 [.int .i64 (t.again : Int), .int .i64 (t.most : Int), .int .i64 (t.wait : Int)] := s1.exc x2 hpq
            have y2 := hHeld.trans (x2.below hHeld.size (fun i _ e => by omega))
            refine hK.out _ _ y2 (fun hHeld => ?_)
            clear hK K
            try simp only [Act.put]
            refine wpAnyH_done (by kernel_rfl) ?_ _
            go_wp2_with fail
            go_meet
            exact ⟨p, q, rfl, rfl, s4, s3, hpq, hpl, hql, hHeld⟩
      refine AllReadyH.cons (o := { dst := some 8, op := Op.alloc 31, type := 0, pos := "law.go:197", after := #[], guard := none }) rfl (fun K hK => ?_) AllReadyH.nil
      · go_simp
        obtain ⟨q, hqe⟩ : ∃ q, q = X1.heap.size := ⟨_, rfl⟩
        obtain ⟨X2, hn⟩ : ∃ Y, Y = X1.alloc (.cells #[.int .i64 0, .int .i64 0, .int .i64 0] 31) := ⟨_, rfl⟩
        have hnb : Below X1.heap.size X1 X2 := by rw [hn]; exact below_alloc _ _
        have hq2 : Own X2 q 31 [.int .i64 0, .int .i64 0, .int .i64 0] := by rw [hn, hqe]; exact Blk.fresh _ _ _ _ rfl
        have hql : W.heap.size ≤ q := by have := hHeld.size; omega
        have hp2 := hp1.below hnb hp1.lt
        have hpq : p ≠ q := by have := hp1.lt; omega
        have hy := hHeld.trans (Below.mono hnb hHeld.size)
        rw [← hn, ← hqe]
        clear hn hqe
        refine hK.out _ _ hy (fun hHeld => ?_)
        clear hK K
        try simp only [Act.put, List.setIfInBounds_toArray, List.set_cons_zero, List.set_cons_succ]
        refine wpAnyH_ready (rs := [1]) (by kernel_rfl) (by simp) ?_
        refine AllReadyH.cons (o := { dst := some 21, op := Op.call { callee := Callee.value (Operand.func 12), args := #[Operand.tmp 20], argTypes := #[23] }, type := 31, pos := "law.go:197", after := #[{ on := 0, ground := Ground.data }], guard := none }) rfl (fun K hK => ?_) AllReadyH.nil
        · go_simp
          with_reducible refine (HOf.out _).mono ?_
          rintro e X3 ⟨rfl, hb⟩
          go_wp2_with fail
          have hp3 := hp2.below hb hp2.lt
          have hq3 := hq2.below hb hq2.lt
          have hy := hHeld.trans (Below.mono hb hHeld.size)
          refine hK.out _ _ hy (fun hHeld => ?_)
          clear hK K
          try simp only [Act.put, List.setIfInBounds_toArray, List.set_cons_zero, List.set_cons_succ]
          refine wpAnyH_ready (rs := [3]) (by kernel_rfl) (by simp) ?_
          refine AllReadyH.cons (o := { dst := some 23, op := Op.call { callee := Callee.value (Operand.func 12), args := #[Operand.tmp 22], argTypes := #[23] }, type := 31, pos := "law.go:197", after := #[{ on := 2, ground := Ground.data }, { on := 1, ground := Ground.chain }], guard := none }) rfl (fun K hK => ?_) AllReadyH.nil
          · go_simp
            with_reducible refine (HOr.out _).mono ?_
            rintro e X4 ⟨rfl, hb⟩
            go_wp2_with fail
            have hp4 := hp3.below hb hp3.lt
            have hq4 := hq3.below hb hq3.lt
            have hy := hHeld.trans (Below.mono hb hHeld.size)
            refine hK.out _ _ hy (fun hHeld => ?_)
            clear hK K
            try simp only [Act.put, List.setIfInBounds_toArray, List.set_cons_zero, List.set_cons_succ]
            refine wpAnyH_ready (rs := [6]) (by kernel_rfl) (by simp) ?_
            refine AllReadyH.cons (o := { dst := none, op := Op.store 31 (Operand.tmp 7) (Operand.tmp 21), type := 0, pos := "law.go:197", after := #[{ on := 4, ground := Ground.data }, { on := 1, ground := Ground.data }, { on := 3, ground := Ground.chain }, { on := 0, ground := Ground.phase }, { on := 1, ground := Ground.phase }, { on := 2, ground := Ground.textOnly Departure.lateStores }, { on := 3, ground := Ground.textOnly Departure.lateStoresUnsure }, { on := 4, ground := Ground.phase }, { on := 5, ground := Ground.phase }], guard := none }) rfl (fun K hK => ?_) AllReadyH.nil
            rw [if_pos (by rfl)]
            with_reducible refine wp_store_mid 31 (Operand.tmp 7) (Operand.tmp 21) ?ho p 0 #[.int .i64 (t.again : Int), .int .i64 (t.most : Int), .int .i64 (t.wait : Int)] ?hx ?hy ?ht ?hi ?h1 ?_
            case ho => rfl
            case hx => rfl
            case hy => rfl
            case ht => exact (show World.there X4 p 0 3 from Blk.there hp4)
            case hi => kernel_rfl
            case h1 => simp [Value.oneCell']
            have s1 : Own (X4.setCells p 0 (#[.int .i64 (t.again : Int), .int .i64 (t.most : Int), .int .i64 (t.wait : Int)] : Array Value).toList) p 31 [.int .i64 (t.again : Int), .int .i64 (t.most : Int), .int .i64 (t.wait : Int)] := Blk.own_put _ 0 _ _ hp4
            have x1 : Exc (fun k => k = p) X4 (X4.setCells p 0 (#[.int .i64 (t.again : Int), .int .i64 (t.most : Int), .int .i64 (t.wait : Int)] : Array Value).toList) := Blk.exc_put _ 0 _ (Exc.refl _ _)
            obtain ⟨Y1, hY1⟩ : ∃ Y, Y = X4.setCells p 0 (#[.int .i64 (t.again : Int), .int .i64 (t.most : Int), .int .i64 (t.wait : Int)] : Array Value).toList := ⟨_, rfl⟩
            rw [← hY1] at s1 x1 ⊢
            clear hY1
            have s2 : Own Y1 q 31 [.int .i64 0, .int .i64 0, .int .i64 0] := hq4.exc x1 (fun e => hpq e.symm)
            have y1 := hHeld.trans (x1.below hHeld.size (fun i _ e => by omega))
            refine hK.out _ _ y1 (fun hHeld => ?_)
            clear hK K
            try simp only [Act.put]
            refine wpAnyH_ready (rs := [7]) (by kernel_rfl) (by simp) ?_
            refine AllReadyH.cons (o := { dst := none, op := Op.store 31 (Operand.tmp 8) (Operand.tmp 23), type := 0, pos := "law.go:197", after := #[{ on := 5, ground := Ground.data }, { on := 3, ground := Ground.data }, { on := 6, ground := Ground.chain }, { on := 0, ground := Ground.phase }, { on := 1, ground := Ground.phase }, { on := 2, ground := Ground.phase }, { on := 3, ground := Ground.phase }, { on := 4, ground := Ground.phase }, { on := 5, ground := Ground.phase }, { on := 6, ground := Ground.phase }], guard := none }) rfl (fun K hK => ?_) AllReadyH.nil
            rw [if_pos (by rfl)]
            with_reducible refine wp_store_mid 31 (Operand.tmp 8) (Operand.tmp 23) ?ho q 0 #[.int .i64 (u.again : Int), .int .i64 (u.most : Int), .int .i64 (u.wait : Int)] ?hx ?hy ?ht ?hi ?h1 ?_
            case ho => rfl
            case hx => rfl
            case hy => rfl
            case ht => exact (show World.there Y1 q 0 3 from Blk.there s2)
            case hi => kernel_rfl
            case h1 => simp [Value.oneCell']
            have s3 : Own (Y1.setCells q 0 (#[.int .i64 (u.again : Int), .int .i64 (u.most : Int), .int .i64 (u.wait : Int)] : Array Value).toList) q 31 [.int .i64 (u.again : Int), .int .i64 (u.most : Int), .int .i64 (u.wait : Int)] := Blk.own_put _ 0 _ _ s2
            have x2 : Exc (fun k => k = q) Y1 (Y1.setCells q 0 (#[.int .i64 (u.again : Int), .int .i64 (u.most : Int), .int .i64 (u.wait : Int)] : Array Value).toList) := Blk.exc_put _ 0 _ (Exc.refl _ _)
            obtain ⟨Y2, hY2⟩ : ∃ Y, Y = Y1.setCells q 0 (#[.int .i64 (u.again : Int), .int .i64 (u.most : Int), .int .i64 (u.wait : Int)] : Array Value).toList := ⟨_, rfl⟩
            rw [← hY2] at s3 x2 ⊢
            clear hY2
            have s4 : Own Y2 p 31 [.int .i64 (t.again : Int), .int .i64 (t.most : Int), .int .i64 (t.wait : Int)] := s1.exc x2 hpq
            have y2 := hHeld.trans (x2.below hHeld.size (fun i _ e => by omega))
            refine hK.out _ _ y2 (fun hHeld => ?_)
            clear hK K
            try simp only [Act.put]
            refine wpAnyH_done (by kernel_rfl) ?_ _
            go_wp2_with fail
            go_meet
            exact ⟨p, q, rfl, rfl, s4, s3, hpq, hpl, hql, hHeld⟩
    refine AllReadyH.cons (o := { dst := some 8, op := Op.alloc 31, type := 0, pos := "law.go:197", after := #[], guard := none }) rfl (fun K hK => ?_) AllReadyH.nil
    · go_simp
      obtain ⟨q, hqe⟩ : ∃ q, q = X0.heap.size := ⟨_, rfl⟩
      obtain ⟨X1, hn⟩ : ∃ Y, Y = X0.alloc (.cells #[.int .i64 0, .int .i64 0, .int .i64 0] 31) := ⟨_, rfl⟩
      have hnb : Below X0.heap.size X0 X1 := by rw [hn]; exact below_alloc _ _
      have hq1 : Own X1 q 31 [.int .i64 0, .int .i64 0, .int .i64 0] := by rw [hn, hqe]; exact Blk.fresh _ _ _ _ rfl
      have hql : W.heap.size ≤ q := by have := hHeld.size; omega
      have hy := hHeld.trans (Below.mono hnb hHeld.size)
      rw [← hn, ← hqe]
      clear hn hqe
      refine hK.out _ _ hy (fun hHeld => ?_)
      clear hK K
      try simp only [Act.put, List.setIfInBounds_toArray, List.set_cons_zero, List.set_cons_succ]
      refine wpAnyH_ready (rs := [1, 4]) (by kernel_rfl) (by simp) ?_
      refine AllReadyH.cons (o := { dst := some 21, op := Op.call { callee := Callee.value (Operand.func 12), args := #[Operand.tmp 20], argTypes := #[23] }, type := 31, pos := "law.go:197", after := #[{ on := 0, ground := Ground.data }], guard := none }) rfl (fun K hK => ?_) ?_
      · go_simp
        with_reducible refine (HOf.out _).mono ?_
        rintro e X2 ⟨rfl, hb⟩
        go_wp2_with fail
        have hq2 := hq1.below hb hq1.lt
        have hy := hHeld.trans (Below.mono hb hHeld.size)
        refine hK.out _ _ hy (fun hHeld => ?_)
        clear hK K
        try simp only [Act.put, List.setIfInBounds_toArray, List.set_cons_zero, List.set_cons_succ]
        refine wpAnyH_ready (rs := [3, 4]) (by kernel_rfl) (by simp) ?_
        refine AllReadyH.cons (o := { dst := some 23, op := Op.call { callee := Callee.value (Operand.func 12), args := #[Operand.tmp 22], argTypes := #[23] }, type := 31, pos := "law.go:197", after := #[{ on := 2, ground := Ground.data }, { on := 1, ground := Ground.chain }], guard := none }) rfl (fun K hK => ?_) ?_
        · go_simp
          with_reducible refine (HOr.out _).mono ?_
          rintro e X3 ⟨rfl, hb⟩
          go_wp2_with fail
          have hq3 := hq2.below hb hq2.lt
          have hy := hHeld.trans (Below.mono hb hHeld.size)
          refine hK.out _ _ hy (fun hHeld => ?_)
          clear hK K
          try simp only [Act.put, List.setIfInBounds_toArray, List.set_cons_zero, List.set_cons_succ]
          refine wpAnyH_ready (rs := [4]) (by kernel_rfl) (by simp) ?_
          refine AllReadyH.cons (o := { dst := some 7, op := Op.alloc 31, type := 0, pos := "law.go:197", after := #[], guard := none }) rfl (fun K hK => ?_) AllReadyH.nil
          · go_simp
            obtain ⟨p, hpe⟩ : ∃ p, p = X3.heap.size := ⟨_, rfl⟩
            obtain ⟨X4, hn⟩ : ∃ Y, Y = X3.alloc (.cells #[.int .i64 0, .int .i64 0, .int .i64 0] 31) := ⟨_, rfl⟩
            have hnb : Below X3.heap.size X3 X4 := by rw [hn]; exact below_alloc _ _
            have hp4 : Own X4 p 31 [.int .i64 0, .int .i64 0, .int .i64 0] := by rw [hn, hpe]; exact Blk.fresh _ _ _ _ rfl
            have hpl : W.heap.size ≤ p := by have := hHeld.size; omega
            have hq4 := hq3.below hnb hq3.lt
            have hpq : p ≠ q := by have := hq3.lt; omega
            have hy := hHeld.trans (Below.mono hnb hHeld.size)
            rw [← hn, ← hpe]
            clear hn hpe
            refine hK.out _ _ hy (fun hHeld => ?_)
            clear hK K
            try simp only [Act.put, List.setIfInBounds_toArray, List.set_cons_zero, List.set_cons_succ]
            refine wpAnyH_ready (rs := [6]) (by kernel_rfl) (by simp) ?_
            refine AllReadyH.cons (o := { dst := none, op := Op.store 31 (Operand.tmp 7) (Operand.tmp 21), type := 0, pos := "law.go:197", after := #[{ on := 4, ground := Ground.data }, { on := 1, ground := Ground.data }, { on := 3, ground := Ground.chain }, { on := 0, ground := Ground.phase }, { on := 1, ground := Ground.phase }, { on := 2, ground := Ground.textOnly Departure.lateStores }, { on := 3, ground := Ground.textOnly Departure.lateStoresUnsure }, { on := 4, ground := Ground.phase }, { on := 5, ground := Ground.phase }], guard := none }) rfl (fun K hK => ?_) AllReadyH.nil
            rw [if_pos (by rfl)]
            with_reducible refine wp_store_mid 31 (Operand.tmp 7) (Operand.tmp 21) ?ho p 0 #[.int .i64 (t.again : Int), .int .i64 (t.most : Int), .int .i64 (t.wait : Int)] ?hx ?hy ?ht ?hi ?h1 ?_
            case ho => rfl
            case hx => rfl
            case hy => rfl
            case ht => exact (show World.there X4 p 0 3 from Blk.there hp4)
            case hi => kernel_rfl
            case h1 => simp [Value.oneCell']
            have s1 : Own (X4.setCells p 0 (#[.int .i64 (t.again : Int), .int .i64 (t.most : Int), .int .i64 (t.wait : Int)] : Array Value).toList) p 31 [.int .i64 (t.again : Int), .int .i64 (t.most : Int), .int .i64 (t.wait : Int)] := Blk.own_put _ 0 _ _ hp4
            have x1 : Exc (fun k => k = p) X4 (X4.setCells p 0 (#[.int .i64 (t.again : Int), .int .i64 (t.most : Int), .int .i64 (t.wait : Int)] : Array Value).toList) := Blk.exc_put _ 0 _ (Exc.refl _ _)
            obtain ⟨Y1, hY1⟩ : ∃ Y, Y = X4.setCells p 0 (#[.int .i64 (t.again : Int), .int .i64 (t.most : Int), .int .i64 (t.wait : Int)] : Array Value).toList := ⟨_, rfl⟩
            rw [← hY1] at s1 x1 ⊢
            clear hY1
            have s2 : Own Y1 q 31 [.int .i64 0, .int .i64 0, .int .i64 0] := hq4.exc x1 (fun e => hpq e.symm)
            have y1 := hHeld.trans (x1.below hHeld.size (fun i _ e => by omega))
            refine hK.out _ _ y1 (fun hHeld => ?_)
            clear hK K
            try simp only [Act.put]
            refine wpAnyH_ready (rs := [7]) (by kernel_rfl) (by simp) ?_
            refine AllReadyH.cons (o := { dst := none, op := Op.store 31 (Operand.tmp 8) (Operand.tmp 23), type := 0, pos := "law.go:197", after := #[{ on := 5, ground := Ground.data }, { on := 3, ground := Ground.data }, { on := 6, ground := Ground.chain }, { on := 0, ground := Ground.phase }, { on := 1, ground := Ground.phase }, { on := 2, ground := Ground.phase }, { on := 3, ground := Ground.phase }, { on := 4, ground := Ground.phase }, { on := 5, ground := Ground.phase }, { on := 6, ground := Ground.phase }], guard := none }) rfl (fun K hK => ?_) AllReadyH.nil
            rw [if_pos (by rfl)]
            with_reducible refine wp_store_mid 31 (Operand.tmp 8) (Operand.tmp 23) ?ho q 0 #[.int .i64 (u.again : Int), .int .i64 (u.most : Int), .int .i64 (u.wait : Int)] ?hx ?hy ?ht ?hi ?h1 ?_
            case ho => rfl
            case hx => rfl
            case hy => rfl
            case ht => exact (show World.there Y1 q 0 3 from Blk.there s2)
            case hi => kernel_rfl
            case h1 => simp [Value.oneCell']
            have s3 : Own (Y1.setCells q 0 (#[.int .i64 (u.again : Int), .int .i64 (u.most : Int), .int .i64 (u.wait : Int)] : Array Value).toList) q 31 [.int .i64 (u.again : Int), .int .i64 (u.most : Int), .int .i64 (u.wait : Int)] := Blk.own_put _ 0 _ _ s2
            have x2 : Exc (fun k => k = q) Y1 (Y1.setCells q 0 (#[.int .i64 (u.again : Int), .int .i64 (u.most : Int), .int .i64 (u.wait : Int)] : Array Value).toList) := Blk.exc_put _ 0 _ (Exc.refl _ _)
            obtain ⟨Y2, hY2⟩ : ∃ Y, Y = Y1.setCells q 0 (#[.int .i64 (u.again : Int), .int .i64 (u.most : Int), .int .i64 (u.wait : Int)] : Array Value).toList := ⟨_, rfl⟩
            rw [← hY2] at s3 x2 ⊢
            clear hY2
            have s4 : Own Y2 p 31 [.int .i64 (t.again : Int), .int .i64 (t.most : Int), .int .i64 (t.wait : Int)] := s1.exc x2 hpq
            have y2 := hHeld.trans (x2.below hHeld.size (fun i _ e => by omega))
            refine hK.out _ _ y2 (fun hHeld => ?_)
            clear hK K
            try simp only [Act.put]
            refine wpAnyH_done (by kernel_rfl) ?_ _
            go_wp2_with fail
            go_meet
            exact ⟨p, q, rfl, rfl, s4, s3, hpq, hpl, hql, hHeld⟩
        refine AllReadyH.cons (o := { dst := some 7, op := Op.alloc 31, type := 0, pos := "law.go:197", after := #[], guard := none }) rfl (fun K hK => ?_) AllReadyH.nil
        · go_simp
          obtain ⟨p, hpe⟩ : ∃ p, p = X2.heap.size := ⟨_, rfl⟩
          obtain ⟨X3, hn⟩ : ∃ Y, Y = X2.alloc (.cells #[.int .i64 0, .int .i64 0, .int .i64 0] 31) := ⟨_, rfl⟩
          have hnb : Below X2.heap.size X2 X3 := by rw [hn]; exact below_alloc _ _
          have hp3 : Own X3 p 31 [.int .i64 0, .int .i64 0, .int .i64 0] := by rw [hn, hpe]; exact Blk.fresh _ _ _ _ rfl
          have hpl : W.heap.size ≤ p := by have := hHeld.size; omega
          have hq3 := hq2.below hnb hq2.lt
          have hpq : p ≠ q := by have := hq2.lt; omega
          have hy := hHeld.trans (Below.mono hnb hHeld.size)
          rw [← hn, ← hpe]
          clear hn hpe
          refine hK.out _ _ hy (fun hHeld => ?_)
          clear hK K
          try simp only [Act.put, List.setIfInBounds_toArray, List.set_cons_zero, List.set_cons_succ]
          refine wpAnyH_ready (rs := [3]) (by kernel_rfl) (by simp) ?_
          refine AllReadyH.cons (o := { dst := some 23, op := Op.call { callee := Callee.value (Operand.func 12), args := #[Operand.tmp 22], argTypes := #[23] }, type := 31, pos := "law.go:197", after := #[{ on := 2, ground := Ground.data }, { on := 1, ground := Ground.chain }], guard := none }) rfl (fun K hK => ?_) AllReadyH.nil
          · go_simp
            with_reducible refine (HOr.out _).mono ?_
            rintro e X4 ⟨rfl, hb⟩
            go_wp2_with fail
            have hp4 := hp3.below hb hp3.lt
            have hq4 := hq3.below hb hq3.lt
            have hy := hHeld.trans (Below.mono hb hHeld.size)
            refine hK.out _ _ hy (fun hHeld => ?_)
            clear hK K
            try simp only [Act.put, List.setIfInBounds_toArray, List.set_cons_zero, List.set_cons_succ]
            refine wpAnyH_ready (rs := [6]) (by kernel_rfl) (by simp) ?_
            refine AllReadyH.cons (o := { dst := none, op := Op.store 31 (Operand.tmp 7) (Operand.tmp 21), type := 0, pos := "law.go:197", after := #[{ on := 4, ground := Ground.data }, { on := 1, ground := Ground.data }, { on := 3, ground := Ground.chain }, { on := 0, ground := Ground.phase }, { on := 1, ground := Ground.phase }, { on := 2, ground := Ground.textOnly Departure.lateStores }, { on := 3, ground := Ground.textOnly Departure.lateStoresUnsure }, { on := 4, ground := Ground.phase }, { on := 5, ground := Ground.phase }], guard := none }) rfl (fun K hK => ?_) AllReadyH.nil
            rw [if_pos (by rfl)]
            with_reducible refine wp_store_mid 31 (Operand.tmp 7) (Operand.tmp 21) ?ho p 0 #[.int .i64 (t.again : Int), .int .i64 (t.most : Int), .int .i64 (t.wait : Int)] ?hx ?hy ?ht ?hi ?h1 ?_
            case ho => rfl
            case hx => rfl
            case hy => rfl
            case ht => exact (show World.there X4 p 0 3 from Blk.there hp4)
            case hi => kernel_rfl
            case h1 => simp [Value.oneCell']
            have s1 : Own (X4.setCells p 0 (#[.int .i64 (t.again : Int), .int .i64 (t.most : Int), .int .i64 (t.wait : Int)] : Array Value).toList) p 31 [.int .i64 (t.again : Int), .int .i64 (t.most : Int), .int .i64 (t.wait : Int)] := Blk.own_put _ 0 _ _ hp4
            have x1 : Exc (fun k => k = p) X4 (X4.setCells p 0 (#[.int .i64 (t.again : Int), .int .i64 (t.most : Int), .int .i64 (t.wait : Int)] : Array Value).toList) := Blk.exc_put _ 0 _ (Exc.refl _ _)
            obtain ⟨Y1, hY1⟩ : ∃ Y, Y = X4.setCells p 0 (#[.int .i64 (t.again : Int), .int .i64 (t.most : Int), .int .i64 (t.wait : Int)] : Array Value).toList := ⟨_, rfl⟩
            rw [← hY1] at s1 x1 ⊢
            clear hY1
            have s2 : Own Y1 q 31 [.int .i64 0, .int .i64 0, .int .i64 0] := hq4.exc x1 (fun e => hpq e.symm)
            have y1 := hHeld.trans (x1.below hHeld.size (fun i _ e => by omega))
            refine hK.out _ _ y1 (fun hHeld => ?_)
            clear hK K
            try simp only [Act.put]
            refine wpAnyH_ready (rs := [7]) (by kernel_rfl) (by simp) ?_
            refine AllReadyH.cons (o := { dst := none, op := Op.store 31 (Operand.tmp 8) (Operand.tmp 23), type := 0, pos := "law.go:197", after := #[{ on := 5, ground := Ground.data }, { on := 3, ground := Ground.data }, { on := 6, ground := Ground.chain }, { on := 0, ground := Ground.phase }, { on := 1, ground := Ground.phase }, { on := 2, ground := Ground.phase }, { on := 3, ground := Ground.phase }, { on := 4, ground := Ground.phase }, { on := 5, ground := Ground.phase }, { on := 6, ground := Ground.phase }], guard := none }) rfl (fun K hK => ?_) AllReadyH.nil
            rw [if_pos (by rfl)]
            with_reducible refine wp_store_mid 31 (Operand.tmp 8) (Operand.tmp 23) ?ho q 0 #[.int .i64 (u.again : Int), .int .i64 (u.most : Int), .int .i64 (u.wait : Int)] ?hx ?hy ?ht ?hi ?h1 ?_
            case ho => rfl
            case hx => rfl
            case hy => rfl
            case ht => exact (show World.there Y1 q 0 3 from Blk.there s2)
            case hi => kernel_rfl
            case h1 => simp [Value.oneCell']
            have s3 : Own (Y1.setCells q 0 (#[.int .i64 (u.again : Int), .int .i64 (u.most : Int), .int .i64 (u.wait : Int)] : Array Value).toList) q 31 [.int .i64 (u.again : Int), .int .i64 (u.most : Int), .int .i64 (u.wait : Int)] := Blk.own_put _ 0 _ _ s2
            have x2 : Exc (fun k => k = q) Y1 (Y1.setCells q 0 (#[.int .i64 (u.again : Int), .int .i64 (u.most : Int), .int .i64 (u.wait : Int)] : Array Value).toList) := Blk.exc_put _ 0 _ (Exc.refl _ _)
            obtain ⟨Y2, hY2⟩ : ∃ Y, Y = Y1.setCells q 0 (#[.int .i64 (u.again : Int), .int .i64 (u.most : Int), .int .i64 (u.wait : Int)] : Array Value).toList := ⟨_, rfl⟩
            rw [← hY2] at s3 x2 ⊢
            clear hY2
            have s4 : Own Y2 p 31 [.int .i64 (t.again : Int), .int .i64 (t.most : Int), .int .i64 (t.wait : Int)] := s1.exc x2 hpq
            have y2 := hHeld.trans (x2.below hHeld.size (fun i _ e => by omega))
            refine hK.out _ _ y2 (fun hHeld => ?_)
            clear hK K
            try simp only [Act.put]
            refine wpAnyH_done (by kernel_rfl) ?_ _
            go_wp2_with fail
            go_meet
            exact ⟨p, q, rfl, rfl, s4, s3, hpq, hpl, hql, hHeld⟩
      refine AllReadyH.cons (o := { dst := some 7, op := Op.alloc 31, type := 0, pos := "law.go:197", after := #[], guard := none }) rfl (fun K hK => ?_) AllReadyH.nil
      · go_simp
        obtain ⟨p, hpe⟩ : ∃ p, p = X1.heap.size := ⟨_, rfl⟩
        obtain ⟨X2, hn⟩ : ∃ Y, Y = X1.alloc (.cells #[.int .i64 0, .int .i64 0, .int .i64 0] 31) := ⟨_, rfl⟩
        have hnb : Below X1.heap.size X1 X2 := by rw [hn]; exact below_alloc _ _
        have hp2 : Own X2 p 31 [.int .i64 0, .int .i64 0, .int .i64 0] := by rw [hn, hpe]; exact Blk.fresh _ _ _ _ rfl
        have hpl : W.heap.size ≤ p := by have := hHeld.size; omega
        have hq2 := hq1.below hnb hq1.lt
        have hpq : p ≠ q := by have := hq1.lt; omega
        have hy := hHeld.trans (Below.mono hnb hHeld.size)
        rw [← hn, ← hpe]
        clear hn hpe
        refine hK.out _ _ hy (fun hHeld => ?_)
        clear hK K
        try simp only [Act.put, List.setIfInBounds_toArray, List.set_cons_zero, List.set_cons_succ]
        refine wpAnyH_ready (rs := [1]) (by kernel_rfl) (by simp) ?_
        refine AllReadyH.cons (o := { dst := some 21, op := Op.call { callee := Callee.value (Operand.func 12), args := #[Operand.tmp 20], argTypes := #[23] }, type := 31, pos := "law.go:197", after := #[{ on := 0, ground := Ground.data }], guard := none }) rfl (fun K hK => ?_) AllReadyH.nil
        · go_simp
          with_reducible refine (HOf.out _).mono ?_
          rintro e X3 ⟨rfl, hb⟩
          go_wp2_with fail
          have hp3 := hp2.below hb hp2.lt
          have hq3 := hq2.below hb hq2.lt
          have hy := hHeld.trans (Below.mono hb hHeld.size)
          refine hK.out _ _ hy (fun hHeld => ?_)
          clear hK K
          try simp only [Act.put, List.setIfInBounds_toArray, List.set_cons_zero, List.set_cons_succ]
          refine wpAnyH_ready (rs := [3]) (by kernel_rfl) (by simp) ?_
          refine AllReadyH.cons (o := { dst := some 23, op := Op.call { callee := Callee.value (Operand.func 12), args := #[Operand.tmp 22], argTypes := #[23] }, type := 31, pos := "law.go:197", after := #[{ on := 2, ground := Ground.data }, { on := 1, ground := Ground.chain }], guard := none }) rfl (fun K hK => ?_) AllReadyH.nil
          · go_simp
            with_reducible refine (HOr.out _).mono ?_
            rintro e X4 ⟨rfl, hb⟩
            go_wp2_with fail
            have hp4 := hp3.below hb hp3.lt
            have hq4 := hq3.below hb hq3.lt
            have hy := hHeld.trans (Below.mono hb hHeld.size)
            refine hK.out _ _ hy (fun hHeld => ?_)
            clear hK K
            try simp only [Act.put, List.setIfInBounds_toArray, List.set_cons_zero, List.set_cons_succ]
            refine wpAnyH_ready (rs := [6]) (by kernel_rfl) (by simp) ?_
            refine AllReadyH.cons (o := { dst := none, op := Op.store 31 (Operand.tmp 7) (Operand.tmp 21), type := 0, pos := "law.go:197", after := #[{ on := 4, ground := Ground.data }, { on := 1, ground := Ground.data }, { on := 3, ground := Ground.chain }, { on := 0, ground := Ground.phase }, { on := 1, ground := Ground.phase }, { on := 2, ground := Ground.textOnly Departure.lateStores }, { on := 3, ground := Ground.textOnly Departure.lateStoresUnsure }, { on := 4, ground := Ground.phase }, { on := 5, ground := Ground.phase }], guard := none }) rfl (fun K hK => ?_) AllReadyH.nil
            rw [if_pos (by rfl)]
            with_reducible refine wp_store_mid 31 (Operand.tmp 7) (Operand.tmp 21) ?ho p 0 #[.int .i64 (t.again : Int), .int .i64 (t.most : Int), .int .i64 (t.wait : Int)] ?hx ?hy ?ht ?hi ?h1 ?_
            case ho => rfl
            case hx => rfl
            case hy => rfl
            case ht => exact (show World.there X4 p 0 3 from Blk.there hp4)
            case hi => kernel_rfl
            case h1 => simp [Value.oneCell']
            have s1 : Own (X4.setCells p 0 (#[.int .i64 (t.again : Int), .int .i64 (t.most : Int), .int .i64 (t.wait : Int)] : Array Value).toList) p 31 [.int .i64 (t.again : Int), .int .i64 (t.most : Int), .int .i64 (t.wait : Int)] := Blk.own_put _ 0 _ _ hp4
            have x1 : Exc (fun k => k = p) X4 (X4.setCells p 0 (#[.int .i64 (t.again : Int), .int .i64 (t.most : Int), .int .i64 (t.wait : Int)] : Array Value).toList) := Blk.exc_put _ 0 _ (Exc.refl _ _)
            obtain ⟨Y1, hY1⟩ : ∃ Y, Y = X4.setCells p 0 (#[.int .i64 (t.again : Int), .int .i64 (t.most : Int), .int .i64 (t.wait : Int)] : Array Value).toList := ⟨_, rfl⟩
            rw [← hY1] at s1 x1 ⊢
            clear hY1
            have s2 : Own Y1 q 31 [.int .i64 0, .int .i64 0, .int .i64 0] := hq4.exc x1 (fun e => hpq e.symm)
            have y1 := hHeld.trans (x1.below hHeld.size (fun i _ e => by omega))
            refine hK.out _ _ y1 (fun hHeld => ?_)
            clear hK K
            try simp only [Act.put]
            refine wpAnyH_ready (rs := [7]) (by kernel_rfl) (by simp) ?_
            refine AllReadyH.cons (o := { dst := none, op := Op.store 31 (Operand.tmp 8) (Operand.tmp 23), type := 0, pos := "law.go:197", after := #[{ on := 5, ground := Ground.data }, { on := 3, ground := Ground.data }, { on := 6, ground := Ground.chain }, { on := 0, ground := Ground.phase }, { on := 1, ground := Ground.phase }, { on := 2, ground := Ground.phase }, { on := 3, ground := Ground.phase }, { on := 4, ground := Ground.phase }, { on := 5, ground := Ground.phase }, { on := 6, ground := Ground.phase }], guard := none }) rfl (fun K hK => ?_) AllReadyH.nil
            rw [if_pos (by rfl)]
            with_reducible refine wp_store_mid 31 (Operand.tmp 8) (Operand.tmp 23) ?ho q 0 #[.int .i64 (u.again : Int), .int .i64 (u.most : Int), .int .i64 (u.wait : Int)] ?hx ?hy ?ht ?hi ?h1 ?_
            case ho => rfl
            case hx => rfl
            case hy => rfl
            case ht => exact (show World.there Y1 q 0 3 from Blk.there s2)
            case hi => kernel_rfl
            case h1 => simp [Value.oneCell']
            have s3 : Own (Y1.setCells q 0 (#[.int .i64 (u.again : Int), .int .i64 (u.most : Int), .int .i64 (u.wait : Int)] : Array Value).toList) q 31 [.int .i64 (u.again : Int), .int .i64 (u.most : Int), .int .i64 (u.wait : Int)] := Blk.own_put _ 0 _ _ s2
            have x2 : Exc (fun k => k = q) Y1 (Y1.setCells q 0 (#[.int .i64 (u.again : Int), .int .i64 (u.most : Int), .int .i64 (u.wait : Int)] : Array Value).toList) := Blk.exc_put _ 0 _ (Exc.refl _ _)
            obtain ⟨Y2, hY2⟩ : ∃ Y, Y = Y1.setCells q 0 (#[.int .i64 (u.again : Int), .int .i64 (u.most : Int), .int .i64 (u.wait : Int)] : Array Value).toList := ⟨_, rfl⟩
            rw [← hY2] at s3 x2 ⊢
            clear hY2
            have s4 : Own Y2 p 31 [.int .i64 (t.again : Int), .int .i64 (t.most : Int), .int .i64 (t.wait : Int)] := s1.exc x2 hpq
            have y2 := hHeld.trans (x2.below hHeld.size (fun i _ e => by omega))
            refine hK.out _ _ y2 (fun hHeld => ?_)
            clear hK K
            try simp only [Act.put]
            refine wpAnyH_done (by kernel_rfl) ?_ _
            go_wp2_with fail
            go_meet
            exact ⟨p, q, rfl, rfl, s4, s3, hpq, hpl, hql, hHeld⟩
  case rest =>
    obtain ⟨p, q, rfl, rfl, op, oq, hpq, hpl, hql, hbx⟩ := hcut
    clear HOf HOr HO0 HO1 HW HP1
    obtain ⟨M, hM⟩ : ∃ M, M = max u.wait (t.again + 1) := ⟨_, rfl⟩
    have hmax : max (u.wait : Int) ((t.again + 1 : Nat) : Int) = (M : Int) := by rw [hM]; omega
    have hwA : IntKind.i64.wrap ((t.again : Int) + 1) = ((t.again + 1 : Nat) : Int) := by have := HLo.out.1.a; rw [IntWalk.i64_in _ (by omega)]; omega
    obtain ⟨A1, hA1⟩ : ∃ A, A = t.again + 1 := ⟨_, rfl⟩
    rw [← hA1] at hmax hwA
    have hif : (if u.wait < A1 then (A1 : Int) else (u.wait : Int)) = (M : Int) := by rw [← hmax]; split <;> omega
    have d2 := oq.cell 2 (by simp)
    have d0 := op.cell 0 (by simp)
    simp only [List.getD_cons_succ, List.getD_cons_zero] at d0 d2
    have fq := oq.frozen 2
    obtain ⟨W3, hW3⟩ : ∃ X, X = wc.setCell ⟨q, 2, none⟩ (.int .i64 (M : Int)) := ⟨_, rfl⟩
    have oq3 : Own W3 q 31 [.int .i64 (u.again : Int), .int .i64 (u.most : Int), .int .i64 (M : Int)] := by rw [hW3]; exact oq.set 2 (.int .i64 (M : Int))
    have op3 : Own W3 p 31 [.int .i64 (t.again : Int), .int .i64 (t.most : Int), .int .i64 (t.wait : Int)] := by rw [hW3]; exact op.other ⟨q, 2, none⟩ hpq _
    have hbw3 : Below w.heap.size w W3 := by rw [hW3]; exact (HB.out.trans (Below.mono hbx HB.out.size)).setCell (by have := HB.out.size; show w.heap.size ≤ q; omega) _
    have HW3 := Lib.hid hW3
    have HO := Lib.hid (And.intro op3 oq3)
    have HB3 := Lib.hid hbw3
    have HM := Lib.hid (show t.again + 1 ≤ M ∧ M ≤ 21 by have := HLo.out.1.a; have := HLo.out.2.w; omega)
    have e0 := op3.cell 0 (by simp)
    have e1 := op3.cell 1 (by simp)
    have e2 := op3.cell 2 (by simp)
    simp only [List.getD_cons_succ, List.getD_cons_zero] at e0 e1 e2
    clear hM hA1 hW3 op3 oq3 hbw3 op oq hbx hpl hql hpq
    go_upto_region 3 with fail
    rw [← HW3.out]
    clear HW3 HB hmax hwA hif d0 d2 fq
    go_wp2_with fail
    with_reducible refine (new_one t HLo.out.1.fit (Below.refl W3.heap.size W3)).mono ?_
    rintro e w4 ⟨b, rfl, _, h4, _⟩
    have oq4 := HO.out.2.below h4.bel HO.out.2.lt
    have e0 := oq4.cell 0 (by simp)
    have e1 := oq4.cell 1 (by simp)
    have e2 := oq4.cell 2 (by simp)
    simp only [List.getD_cons_succ, List.getD_cons_zero] at e0 e1 e2
    have H4 := Lib.hid h4
    clear h4 oq4
    obtain ⟨v, hv⟩ : ∃ v : Tm, v = ⟨u.again, u.most, M⟩ := ⟨_, rfl⟩
    have hvf : v.Fit := by have h1 := HLo.out.2.fit; have h2 := HM.out; rw [hv]; exact ⟨h1.a0, h1.a1, h1.m0, h1.m1, by dsimp only; omega, by dsimp only; omega⟩
    have HV := Lib.hid (And.intro hvf (show v.most = u.most ∧ v.wait = M by rw [hv]; exact ⟨rfl, rfl⟩))
    go_wp2_with fail
    with_reducible refine (show Calls Try.prog 11 #[.agg #[.int .i64 (u.again : Int), .int .i64 (u.most : Int), .int .i64 (M : Int)]] w4 (fun e w' => ∃ c, e = .returned (.tuple #[.pointer (some ⟨c, 0, none⟩), .int .i64 0]) ∧ w4.heap.size ≤ c ∧ One W3 w' c (Fl.new v) ∧ Below w4.heap.size w4 w') from hv ▸ new_one v (hvf) H4.out.bel).mono ?_
    rintro e w5 ⟨c, rfl, lc, h5, b5⟩
    have Hw5 := Lib.hid (show Duo W3 w5 b c (Fl.new t) (Fl.new v) from ⟨H4.out.at'.below b5, h5.at', by have := H4.out.at'.lt; omega, H4.out.low, h5.low, h5.bel⟩)
    clear h5 b5 lc H4 e0 e1 e2 hv hvf
    go_wp2_with fail
    with_reducible refine (congest_cg2 Hw5.out.x).mono ?_
    rintro e w6 ⟨rfl, hn⟩
    have Hw6 := Lib.hid (Hw5.out.s1 hn)
    clear hn Hw5
    go_wp2_with fail
    with_reducible refine (open_pb t.again Hw6.out.y).mono ?_
    rintro e w7 ⟨rfl, hn⟩
    have Hw7 := Lib.hid (Hw6.out.s2 hn)
    clear hn Hw6
    have h7 : ∃ y, Duo W3 w7 b c (Fl.cg2 t 0) y ∧ PbI v t.again 0 y := ⟨_, Hw7.out, .inl ⟨by have := HV.out.1.m0; omega, rfl⟩⟩
    have H7 := Lib.hid h7
    clear h7 Hw7
    go_wp2_with fail
    clear hzn
    go_loopw [14] (fun v1 wr => ∃ k : Nat, k ≤ N ∧ v1 = .int .i64 k ∧ ∃ y, Duo W3 wr b c (Fl.cg2 t k) y ∧ PbI v t.again k y) (fun v1 _ => N - (intOf v1).toNat)
    case atStart => exact ⟨0, Nat.zero_le _, rfl, H7.out⟩
    case round =>
      obtain ⟨k, hk, rfl, y, hd, hy⟩ := hrel
      have HD := Lib.hid hd
      have HY := Lib.hid hy
      clear hd hy H7
      by_cases hlt : k < N
      · have hki : (k : Int) < (N : Int) := by omega
        have k0 : (0 : Int) ≤ (k : Int) := by omega
        have hw1 : IntKind.i64.wrap ((k : Int) + 1) = ((k + 1 : Nat) : Int) := by have := HN.out; rw [IntWalk.i64_in _ (by omega)]; omega
        obtain ⟨K, hK⟩ : ∃ K, K = k + 1 := ⟨_, rfl⟩
        rw [← hK] at hw1
        have HK := Lib.hid (And.intro hK hlt)
        clear hK hlt hk
        have hst := fl_sends b (Fl.cg2 t k) wr HD.out.x
        by_cases hz : k % t.again = 0
        · have e1 : (Fl.cg2 t k).st = 5 := by simp [Fl.st, Fl.is, Fl.cg2, hz]
          have e2 : (Fl.cg2 t k).is = true := by simp [Fl.is, Fl.cg2, hz]
          rw [e1, e2, show ((5 : Nat) : Int) = 5 from rfl] at hst
          have HSt := Lib.hid hst
          have hh := fl_hear c y 5 true wr HD.out.y (by decide)
          rw [show ((5 : Nat) : Int) = 5 from rfl] at hh
          have hye : y.hear 5 true = y.heard t.again k := by unfold Fl.heard; rw [if_pos hz]
          rw [hye] at hh
          have HH := Lib.hid hh
          clear hst e1 e2 hh hye hz
          go_wp2_with fail
          with_reducible refine HSt.out.mono ?_
          rintro e w' ⟨rfl, rfl⟩
          clear HSt
          go_wp2_with fail
          with_reducible refine HH.out.mono ?_
          rintro e w9 ⟨rfl, hn⟩
          have H9 := Lib.hid (HD.out.s2 hn)
          clear hn HH HD
          go_wp2_with fail
          with_reducible refine (tick_cg2 H9.out.x).mono ?_
          rintro e w10 ⟨rfl, hn⟩
          have H10 := Lib.hid (H9.out.s1 hn)
          clear hn H9
          go_wp2_with fail
          with_reducible refine (fl_tick c _ _ H10.out.y).mono ?_
          rintro e w11 ⟨rfl, hn⟩
          have H11 := Lib.hid (H10.out.s2 hn)
          clear hn H10
          go_wp2_with fail
          obtain ⟨hK, hlt⟩ := HK.out
          subst hK
          exact ⟨⟨k + 1, by omega, by rfl, _, H11.out, HY.out.next (by have := HLo.out.1.a; omega) (by have := HM.out; have := HV.out.2.2; omega)⟩, by simp only [intOf]; omega⟩
        · have e1 : (Fl.cg2 t k).st = 0 := by simp [Fl.st, Fl.is, Fl.cg2, hz]
          have e2 : (Fl.cg2 t k).is = false := by simp [Fl.is, Fl.cg2, hz]
          rw [e1, e2, show ((0 : Nat) : Int) = 0 from rfl] at hst
          have HSt := Lib.hid hst
          have hye : y.heard t.again k = y := by unfold Fl.heard; rw [if_neg hz]
          have H9 := Lib.hid (show Duo W3 wr b c (Fl.cg2 t k) (y.heard t.again k) from by rw [hye]; exact HD.out)
          clear hst e1 e2 hye hz HD
          go_wp2_with fail
          with_reducible refine HSt.out.mono ?_
          rintro e w' ⟨rfl, rfl⟩
          clear HSt
          go_wp2_with fail
          with_reducible refine (tick_cg2 H9.out.x).mono ?_
          rintro e w10 ⟨rfl, hn⟩
          have H10 := Lib.hid (H9.out.s1 hn)
          clear hn H9
          go_wp2_with fail
          with_reducible refine (fl_tick c _ _ H10.out.y).mono ?_
          rintro e w11 ⟨rfl, hn⟩
          have H11 := Lib.hid (H10.out.s2 hn)
          clear hn H10
          go_wp2_with fail
          obtain ⟨hK, hlt⟩ := HK.out
          subst hK
          exact ⟨⟨k + 1, by omega, by rfl, _, H11.out, HY.out.next (by have := HLo.out.1.a; omega) (by have := HM.out; have := HV.out.2.2; omega)⟩, by simp only [intOf]; omega⟩
      · obtain rfl : k = N := by omega
        have hki : ¬ (k : Int) < (k : Int) := by omega
        clear hlt hk
        have hcf := fl_congest b (Fl.cg2 t k) false wr HD.out.x
        rw [show (Fl.cg2 t k).congest false = Fl.un2 t (k % t.again) by simp [Fl.un2, Fl.cg2, Fl.congest], show (Fl.cg2 t k).code = 0 from rfl] at hcf
        have HCf := Lib.hid hcf
        clear hcf
        go_wp2_with fail
        with_reducible refine HCf.out.mono ?_
        rintro e w9 ⟨rfl, hn⟩
        have H9 := Lib.hid (HD.out.s1 hn)
        clear hn HD HCf
        go_wp2_with fail
        with_reducible refine (show Calls Try.prog 15 #[.pointer (some ⟨b, 0, none⟩)] _ (fun e w' => e = .returned (.tuple #[.bool false, .bool false]) ∧ ∃ q, w' = w9.drewN q) from fl_held b (Fl.un2 t (k % t.again)) w9 H9.out.x).mono ?_
        rintro e w10 ⟨rfl, q1, rfl⟩
        have h10 := H9.out.drew q1
        generalize w9.drewN q1 = W10 at h10 ⊢
        have H10 := Lib.hid h10
        have d1 := (HO.out.2.below h10.bel HO.out.2.lt).cell 1 (by simp)
        simp only [List.getD_cons_succ, List.getD_cons_zero] at d1
        clear h10 H9
        obtain ⟨V, hV⟩ : ∃ V, V = u.most := ⟨_, rfl⟩
        rw [← hV] at d1
        rcases HY.out with ⟨hy1, hy2⟩ | ⟨hy1, hy2⟩
        · have g1 : ¬ (V : Int) ≤ (k : Int) := by have := HV.out.2.1; omega
          have g2 : decide ((V : Int) ≤ (k : Int)) = false := decide_eq_false g1
          have g3 : ¬ V ≤ k := by omega
          have g4 : decide (V ≤ k) = false := decide_eq_false g3
          have hfl : y.failed = false := by rw [hy2]; rfl
          have HFl := Lib.hid (And.intro hfl hy2)
          clear hy1 hy2 hfl hV HY
          go_wp2_with fail
          go_quiet (first
            | (go_at_call 18; exact Calls.quiet_of_same (failed_is HFl.out.1 (H10.out.drew _).y))
            | (go_at_call 18; exact Calls.quiet_of_same (failed_is (show (Fl.un2 t (k % t.again)).failed = false from rfl) (H10.out.drew _).x))
            | fail)
          have h11 := H10.out.drew nq
          generalize W10.drewN nq = W11 at h11 ⊢
          have H11 := Lib.hid h11
          clear h11 H10 d1
          go_wp2_with fail
          with_reducible refine (failed_is HFl.out.1 H11.out.y).mono ?_
          rintro e w' ⟨rfl, rfl⟩
          have hop := fl_open c y false true _ H11.out.y
          rw [show y.opens false true = Fl.new v by rw [HFl.out.2]; rfl, show y.code = 0 by rw [HFl.out.2]; rfl] at hop
          have HOp := Lib.hid hop
          clear hop
          go_wp2_with fail
          with_reducible refine HOp.out.mono ?_
          rintro e w12 ⟨rfl, hn⟩
          have H12 := Lib.hid (H11.out.s2 hn)
          clear hn H11 HOp
          go_wp2_with fail
          go_loopw [19] (fun v1 wr => ∃ j : Nat, j ≤ 50 ∧ v1 = .int .i64 j ∧ Duo W3 wr b c (Fl.un2 t (k % t.again)) (Fl.new v)) (fun v1 _ => 50 - (intOf v1).toNat)
          case atStart => exact ⟨0, Nat.zero_le _, rfl, H12.out⟩
          case round =>
            obtain ⟨j, hj, rfl, hd⟩ := hrel
            have HD := Lib.hid hd
            clear hd H12
            by_cases hlj : j < 50
            · have hji : (j : Int) < 50 := by omega
              have hw1 : IntKind.i64.wrap ((j : Int) + 1) = ((j + 1 : Nat) : Int) := by rw [IntWalk.i64_in _ (by omega)]; omega
              obtain ⟨K, hK⟩ : ∃ K, K = j + 1 := ⟨_, rfl⟩
              rw [← hK] at hw1
              have HK := Lib.hid (And.intro hK hlj)
              clear hK hlj hj
              go_wp2_with fail
              with_reducible refine (show Calls Try.prog 23 #[.pointer (some ⟨c, 0, none⟩)] _ (fun e w' => e = .returned (.int .i64 0) ∧ Nxt _ c (Fl.new v) w') from fl_tick c (Fl.new v) _ HD.out.y).mono ?_
              rintro e w13 ⟨rfl, hn⟩
              have H13 := Lib.hid (HD.out.s2 hn)
              clear hn HD
              go_wp2_with fail
              obtain ⟨hK, hlj⟩ := HK.out
              exact ⟨⟨K, by omega, by rfl, H13.out⟩, by simp only [intOf]; omega⟩
            · obtain rfl : j = 50 := by omega
              clear hlj hj
              go_wp2_with fail
              with_reducible refine (show Calls Try.prog 18 #[.pointer (some ⟨c, 0, none⟩)] _ (fun e w' => e = .returned (.bool false) ∧ w' = _) from fl_failed c (Fl.new v) _ HD.out.y).mono ?_
              rintro e w' ⟨rfl, rfl⟩
              go_wp2_with fail
              with_reducible refine (HLv.out _).mono ?_
              rintro e w99 ⟨rfl, hb99⟩
              have HB99 := Lib.hid ((HB3.out.trans (Below.mono HD.out.bel HB3.out.size)).trans (Below.mono hb99 (HB3.out.trans (Below.mono HD.out.bel HB3.out.size)).size))
              clear hb99 HLv
              go_wp2
              go_ret
              exact ⟨rfl, HB99.out⟩
        · have g1 : (V : Int) ≤ (k : Int) := by have := HV.out.2.1; omega
          have g2 : decide ((V : Int) ≤ (k : Int)) = true := decide_eq_true g1
          have g3 : V ≤ k := by omega
          have g4 : decide (V ≤ k) = true := decide_eq_true g3
          have HFl := Lib.hid hy2
          clear hy1 hy2 hV HY
          go_wp2_with fail
          go_quiet (first
            | (go_at_call 18; exact Calls.quiet_of_same (failed_is HFl.out (H10.out.drew _).y))
            | (go_at_call 18; exact Calls.quiet_of_same (failed_is (show (Fl.un2 t (k % t.again)).failed = false from rfl) (H10.out.drew _).x))
            | fail)
          have h11 := H10.out.drew nq
          generalize W10.drewN nq = W11 at h11 ⊢
          have H11 := Lib.hid h11
          clear h11 H10 d1
          go_wp2_with fail
          with_reducible refine (failed_is HFl.out H11.out.y).mono ?_
          rintro e w' ⟨rfl, rfl⟩
          go_wp2_with fail
          with_reducible refine (HLv.out _).mono ?_
          rintro e w99 ⟨rfl, hb99⟩
          have HB99 := Lib.hid ((HB3.out.trans (Below.mono H11.out.bel HB3.out.size)).trans (Below.mono hb99 (HB3.out.trans (Below.mono H11.out.bel HB3.out.size)).size))
          clear hb99 HLv
          go_wp2
          go_ret
          exact ⟨rfl, HB99.out⟩
end Go.Proofs.Ytmjgagbmpcbjmaa
