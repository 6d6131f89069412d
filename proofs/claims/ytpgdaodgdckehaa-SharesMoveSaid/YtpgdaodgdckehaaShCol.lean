/- The code's closures over choices and links, and collect with each of them. -/
import Derived.Test.YtpgdaodgdckehaaShBest
namespace Go.Proofs.Ytpgdaodgdckehaa
open Go.RowKit

def iN (l : List Nat) : List Int := l.map fun (x : Nat) => (x : Int)
theorem iN_length (l : List Nat) : (iN l).length = l.length := by simp [iN]
theorem iN_getD (l : List Nat) (i : Nat) : (iN l).getD i 0 = ((l.getD i 0 : Nat) : Int) := by
  unfold iN
  simp only [List.getD_eq_getElem?_getD, List.getElem?_map]
  cases l[i]? <;> rfl
theorem iN_append (l m : List Nat) : iN (l ++ m) = iN l ++ iN m := by simp [iN]
def fl (p : Nat → Bool) (k : Nat) : List Nat := (List.range k).filter p
theorem fl_in {p : Nat → Bool} {k : Nat} (h : p k = true) : fl p (k + 1) = fl p k ++ [k] := by
  unfold fl; rw [List.range_succ, List.filter_append, List.filter_cons_of_pos h]; rfl
theorem fl_out {p : Nat → Bool} {k : Nat} (h : p k = false) : fl p (k + 1) = fl p k := by
  unfold fl; rw [List.range_succ, List.filter_append, List.filter_cons_of_neg (by simp [h])]; simp
theorem fl_le (p : Nat → Bool) (k : Nat) : (fl p k).length ≤ k := by
  have := List.length_filter_le p (List.range k); simpa [fl] using this
theorem fl_wf {p : Nat → Bool} {k : Nat} (hk : k ≤ 1000000) : ∀ x ∈ iN (fl p k), (Lit.int .i64 x).wf = true := by
  intro x hx
  unfold iN at hx
  obtain ⟨y, hy, rfl⟩ := List.mem_map.1 hx
  have := List.mem_range.1 (List.mem_filter.1 hy).1
  simp [Lit.wf, IntKind.min, IntKind.max, IntKind.bits, IntKind.signed]; omega
theorem cell_later {w w' : World} {p : Addr} {v : Value} (h : w.cell? p = some v) (hb : Below w.heap.size w w') : w'.cell? p = some v := by
  rw [hb.cell (p := p) (World.block_lt_of_cell? w _ h)]; exact h
/-- What collect hands back: the numbers below n that are wanted, in a slice of the call's own. -/
def ColOut (p : Nat → Bool) (n : Nat) (w : World) (e : Ending) (w' : World) : Prop :=
  ∃ v, e = .returned v ∧ w'.ownsRow w.heap.size 3 1 v (fl p n).length (nums .i64 (iN (fl p n))) ∧ Below w.heap.size w w'
theorem nextA_any (i x y rk : Int) (qb : Nat) (w : World) (hq : w.cell? ⟨qb, 0, none⟩ = some (.int .i64 rk)) :
    Calls Try.prog 18 #[.int .i64 i, .agg #[.int .u16 x, .int .i64 y], .pointer (some ⟨qb, 0, none⟩)] w fun e w' => e = .returned (.bool (y == rk)) ∧ Below w.heap.size w w' := by
  have hqa := cell_later hq (below_alloc w (.cells #[.int .u16 x, .int .i64 y] 48))

  go_enter Try.func18, Try.ntmps18
  go_wp2
  go_ret
  exact ⟨rfl, below_alloc _ _⟩
theorem nextB_any (i : Nat) (x y rk st : Int) (qb sb tb : Nat) (a' : Option Addr) (n' c' : Nat) (S : List Int) (w : World) (hS : Row .u8 w a' n' c' S)
    (hq : w.cell? ⟨qb, 0, none⟩ = some (.int .i64 rk)) (hs : w.cell? ⟨sb, 0, none⟩ = some (.slice a' n' c')) (ht : w.cell? ⟨tb, 0, none⟩ = some (.int .u8 st)) :
    Calls Try.prog 19 #[.int .i64 (i : Int), .agg #[.int .u16 x, .int .i64 y], .pointer (some ⟨qb, 0, none⟩), .pointer (some ⟨sb, 0, none⟩), .pointer (some ⟨tb, 0, none⟩)] w fun e w' =>
      e = .returned (.bool (y == rk && stM S i == st)) ∧ Below w.heap.size w w' := by
  have hba := below_alloc w (.cells #[.int .u16 x, .int .i64 y] 48)
  have hqa := cell_later hq hba
  have hsa := cell_later hs hba
  have hta := cell_later ht hba
  have hcon : ∀ q, Calls Try.prog 20 #[.slice a' n' c', .int .i64 (i : Int)] ((w.alloc (.cells #[.int .u16 x, .int .i64 y] 48)).drewN q) fun e w' => e = .returned (.int .u8 (stM S i)) ∧ w' = (w.alloc (.cells #[.int .u16 x, .int .i64 y] 48)).drewN q :=
    fun q => (statusAt_any a' n' c' S i _ ((hS.later hba).later (below_draw _ q))).mono fun _ _ ⟨h1, h2⟩ => ⟨h1, h2.symm⟩
  generalize stM S i = s at *
  have HC := Lib.hid hcon
  have HBA := Lib.hid hba
  clear hq hs ht hba hcon hS
  by_cases h1 : y = rk
  · have h1b : (y == rk) = true := by simpa using h1
    rw [h1b]
    subst h1
    go_enter Try.func19, Try.ntmps19
    go_wp2_with fail
    go_quiet ((go_at_call 20; exact Calls.quiet_of_same (HC.out _)))
    go_wp2
    go_ret
    exact ⟨rfl, HBA.out.trans ((below_draw _ _).mono HBA.out.size)⟩
  · have h1b : (y == rk) = false := by simpa using h1
    rw [h1b]
    go_enter Try.func19, Try.ntmps19
    go_wp2_with fail
    go_quiet ((go_at_call 20; exact Calls.quiet_of_same (HC.out _)))
    go_wp2
    go_ret
    exact ⟨rfl, HBA.out.trans ((below_draw _ _).mono HBA.out.size)⟩
theorem linkA_any (i A B C : Int) (w : World) :
    Calls Try.prog 24 #[.int .i64 i, .agg #[.int .u16 A, .int .u16 B, .int .u8 C]] w fun e w' => e = .returned (.bool true) ∧ Below w.heap.size w w' := by
  go_enter Try.func24, Try.ntmps24
  go_wp2
  go_ret
  exact ⟨rfl, below_alloc _ _⟩
/-- Whether a link is up. -/
def upM (U : List Bool) (i : Nat) : Bool := decide (i < U.length) && U.getD i true
theorem linkB_any (i : Nat) (A B C : Int) (ub : Nat) (a' : Option Addr) (n' c' : Nat) (U : List Bool) (w : World) (hU : BRow w a' n' c' U) (hu : w.cell? ⟨ub, 0, none⟩ = some (.slice a' n' c')) :
    Calls Try.prog 25 #[.int .i64 (i : Int), .agg #[.int .u16 A, .int .u16 B, .int .u8 C], .pointer (some ⟨ub, 0, none⟩)] w fun e w' => e = .returned (.bool (upM U i)) ∧ Below w.heap.size w w' := by
  have hba := below_alloc w (.cells #[.int .u16 A, .int .u16 B, .int .u8 C] 43)
  have hua := cell_later hu hba
  have hUa := hU.later hba
  have hl := hU.len
  have HBA := Lib.hid hba
  clear hu hba hU
  by_cases hi : i < n'
  · obtain ⟨b, off, rfl, hc⟩ := hUa.at (by omega)
    have c0 := hc i hi
    have e : upM U i = U.getD i true := by unfold upM; rw [decide_eq_true (by omega), Bool.true_and]
    rw [e]
    generalize U.getD i true = u at *
    have hd : (i : Int) < (n' : Int) := by omega
    clear hc hUa e
    go_enter Try.func25, Try.ntmps25
    go_wp2
    go_ret
    exact ⟨rfl, HBA.out⟩
  · have e : upM U i = false := by unfold upM; rw [decide_eq_false (by omega), Bool.false_and]
    rw [e]
    have hd : ¬ (i : Int) < (n' : Int) := by omega
    clear e hUa
    go_enter Try.func25, Try.ntmps25
    go_wp2
    go_ret
    exact ⟨rfl, HBA.out⟩
/-- A choice has the rank; it has the rank and the status. -/
def rkP (R : List (Int × Int)) (rk : Int) (i : Nat) : Bool := (rks R).getD i 0 == rk
def stP (S : List Int) (st : Int) (i : Nat) : Bool := stM S i == st
def rsP (R : List (Int × Int)) (S : List Int) (rk st : Int) (i : Nat) : Bool := rkP R rk i && stP S st i
set_option maxHeartbeats 1000000 in
theorem colC1_any (a : Option Addr) (n c : Nat) (R : List (Int × Int)) (qb : Nat) (rk : Int) (w : World) (hn : n ≤ 1000000) (hR : CRow w a n c R) (hq : w.cell? ⟨qb, 0, none⟩ = some (.int .i64 rk)) :
    Calls Try.prog 17 #[.slice a n c, .func (.func 18) #[] #[.pointer (some ⟨qb, 0, none⟩)]] w (ColOut (rkP R rk) n w) := by
  have HR := Lib.hid hR
  have hcon : ∀ k W, Below w.heap.size w W → Calls Try.prog 18 #[.int .i64 (k : Nat), .agg #[.int .u16 (R.getD k (0, 0)).1, .int .i64 (R.getD k (0, 0)).2], .pointer (some ⟨qb, 0, none⟩)] W fun e w' => e = .returned (.bool ((rkP R rk) k)) ∧ Below W.heap.size W w' := fun k W h => by rw [show (rkP R rk) k = ((R.getD k (0, 0)).2 == rk) by unfold rkP; rw [rks_getD]]; exact nextA_any _ _ _ rk qb W (cell_later hq h)
  have HC := Lib.hid hcon
  clear hcon hR hq
  generalize (rkP R rk) = p at *
  go_enter Try.func17, Try.ntmps17
  go_wp2_with fail
  go_loopw [5, 10] (fun v i wr => ∃ k : Nat, k ≤ n ∧ i = .int .i64 k ∧ wr.ownsRow w.heap.size 3 1 v (fl p k).length (nums .i64 (iN (fl p k))) ∧ Below w.heap.size w wr) (fun _ i _ => n - (intOf i).toNat)
  case atStart => exact ⟨0, Nat.zero_le _, rfl, ⟨rfl, .inl ⟨rfl, rfl⟩⟩, Below.refl _ _⟩
  case round =>
    obtain ⟨k, hk, rfl, hown, hb⟩ := hrel
    by_cases hkn : k < n
    · obtain ⟨b, off, rfl, hc⟩ := (HR.out.later hb).cells.resolve_left (by omega)
      obtain ⟨c0, c1⟩ := hc k hkn
      have hcon2 := HC.out k
      obtain ⟨x, hx⟩ : ∃ x, x = (R.getD k (0, 0)).1 := ⟨_, rfl⟩
      obtain ⟨y, hy⟩ : ∃ y, y = (R.getD k (0, 0)).2 := ⟨_, rfl⟩
      rw [← hx] at c0
      rw [← hy] at c1
      rw [← hx, ← hy] at hcon2
      clear hx hy
      have hb2 : Below w.heap.size w (wr.alloc (.cells #[.int .u16 x, .int .i64 y] 48)) := hb.trans ((below_alloc wr _).mono hb.size)
      have hsz := hb.size
      have hfl := fl_le p k
      have HB := Lib.hid hb
      have HB2 := Lib.hid hb2
      have HO := Lib.hid hown
      have HC2 := Lib.hid hcon2
      clear hc hb hb2 hown hcon2
      obtain ⟨q, hq⟩ : ∃ q, q = p k := ⟨_, rfl⟩
      rw [← hq] at HC2
      have HQ := Lib.hid hq
      clear hq
      cases q
      · go_wp2_with fail
        with_reducible refine (HC2.out _ HB2.out).mono ?_
        rintro e w' ⟨rfl, hb3⟩
        have hb4 := (below_alloc wr (.cells #[.int .u16 x, .int .i64 y] 48)).trans (hb3.mono (below_alloc wr _).size)
        have HB4 := Lib.hid hb4
        clear hb3 hb4
        go_wp2
        refine ⟨⟨k + 1, by omega, by go_num, ?_, HB.out.trans (HB4.out.mono HB.out.size)⟩, by simp [intOf]; omega⟩
        rw [fl_out HQ.out.symm]
        exact ownsRow_below HO.out HB4.out
      · go_wp2_with fail
        with_reducible refine (HC2.out _ HB2.out).mono ?_
        rintro e w' ⟨rfl, hb3⟩
        have hb4 := (below_alloc wr (.cells #[.int .u16 x, .int .i64 y] 48)).trans (hb3.mono (below_alloc wr _).size)
        have hb5 := HB.out.trans (hb4.mono HB.out.size)
        have ho4 := ownsRow_below HO.out hb4
        have hsz5 := hb5.size
        have HB5 := Lib.hid hb5
        have HO4 := Lib.hid ho4
        clear hb3 hb4 hb5 ho4
        go_wp2_with (at_builtin; refine wpList_append_one Try.underlying31 info64 (by decide) rfl (.tmp 19) (.tmp 21) rfl w.heap.size _ (fl p k).length (iN (fl p k)) (k : Int) rfl (by exact HO4.out) rfl (by omega) hsz5 ?_)
        intro v2 w2 h2 h3 _ _ _
        have hb6 := HB5.out.trans (h3.below (B := w.heap.size) hsz5 (fun j hj => (World.ownsRow.lt HO4.out j hj).1))
        have H2 := Lib.hid h2
        have HB6 := Lib.hid hb6
        clear h2 h3 hb6
        go_wp2
        refine ⟨⟨k + 1, by omega, by go_num, ?_, HB6.out⟩, by simp [intOf]; omega⟩
        rw [fl_in HQ.out.symm, iN_append, List.length_append]
        exact H2.out
    · obtain rfl : k = n := by omega
      go_wp2
      go_ret
      exact ⟨_, rfl, hown, hb⟩
set_option maxHeartbeats 1000000 in
theorem colC2_any (a : Option Addr) (n c : Nat) (R : List (Int × Int)) (qb sb tb : Nat) (rk st : Int) (a' : Option Addr) (n' c' : Nat) (S : List Int) (w : World) (hn : n ≤ 1000000) (hR : CRow w a n c R) (hS : Row .u8 w a' n' c' S) (hq : w.cell? ⟨qb, 0, none⟩ = some (.int .i64 rk)) (hs : w.cell? ⟨sb, 0, none⟩ = some (.slice a' n' c')) (ht : w.cell? ⟨tb, 0, none⟩ = some (.int .u8 st)) :
    Calls Try.prog 17 #[.slice a n c, .func (.func 19) #[] #[.pointer (some ⟨qb, 0, none⟩), .pointer (some ⟨sb, 0, none⟩), .pointer (some ⟨tb, 0, none⟩)]] w (ColOut (rsP R S rk st) n w) := by
  have HR := Lib.hid hR
  have hcon : ∀ k W, Below w.heap.size w W → Calls Try.prog 19 #[.int .i64 (k : Nat), .agg #[.int .u16 (R.getD k (0, 0)).1, .int .i64 (R.getD k (0, 0)).2], .pointer (some ⟨qb, 0, none⟩), .pointer (some ⟨sb, 0, none⟩), .pointer (some ⟨tb, 0, none⟩)] W fun e w' => e = .returned (.bool ((rsP R S rk st) k)) ∧ Below W.heap.size W w' := fun k W h => by rw [show (rsP R S rk st) k = ((R.getD k (0, 0)).2 == rk && stM S k == st) by unfold rsP rkP stP; rw [rks_getD]]; exact nextB_any k _ _ rk st qb sb tb a' n' c' S W (hS.later h) (cell_later hq h) (cell_later hs h) (cell_later ht h)
  have HC := Lib.hid hcon
  clear hcon hR hS hq hs ht
  generalize (rsP R S rk st) = p at *
  go_enter Try.func17, Try.ntmps17
  go_wp2_with fail
  go_loopw [5, 10] (fun v i wr => ∃ k : Nat, k ≤ n ∧ i = .int .i64 k ∧ wr.ownsRow w.heap.size 3 1 v (fl p k).length (nums .i64 (iN (fl p k))) ∧ Below w.heap.size w wr) (fun _ i _ => n - (intOf i).toNat)
  case atStart => exact ⟨0, Nat.zero_le _, rfl, ⟨rfl, .inl ⟨rfl, rfl⟩⟩, Below.refl _ _⟩
  case round =>
    obtain ⟨k, hk, rfl, hown, hb⟩ := hrel
    by_cases hkn : k < n
    · obtain ⟨b, off, rfl, hc⟩ := (HR.out.later hb).cells.resolve_left (by omega)
      obtain ⟨c0, c1⟩ := hc k hkn
      have hcon2 := HC.out k
      obtain ⟨x, hx⟩ : ∃ x, x = (R.getD k (0, 0)).1 := ⟨_, rfl⟩
      obtain ⟨y, hy⟩ : ∃ y, y = (R.getD k (0, 0)).2 := ⟨_, rfl⟩
      rw [← hx] at c0
      rw [← hy] at c1
      rw [← hx, ← hy] at hcon2
      clear hx hy
      have hb2 : Below w.heap.size w (wr.alloc (.cells #[.int .u16 x, .int .i64 y] 48)) := hb.trans ((below_alloc wr _).mono hb.size)
      have hsz := hb.size
      have hfl := fl_le p k
      have HB := Lib.hid hb
      have HB2 := Lib.hid hb2
      have HO := Lib.hid hown
      have HC2 := Lib.hid hcon2
      clear hc hb hb2 hown hcon2
      obtain ⟨q, hq⟩ : ∃ q, q = p k := ⟨_, rfl⟩
      rw [← hq] at HC2
      have HQ := Lib.hid hq
      clear hq
      cases q
      · go_wp2_with fail
        with_reducible refine (HC2.out _ HB2.out).mono ?_
        rintro e w' ⟨rfl, hb3⟩
        have hb4 := (below_alloc wr (.cells #[.int .u16 x, .int .i64 y] 48)).trans (hb3.mono (below_alloc wr _).size)
        have HB4 := Lib.hid hb4
        clear hb3 hb4
        go_wp2
        refine ⟨⟨k + 1, by omega, by go_num, ?_, HB.out.trans (HB4.out.mono HB.out.size)⟩, by simp [intOf]; omega⟩
        rw [fl_out HQ.out.symm]
        exact ownsRow_below HO.out HB4.out
      · go_wp2_with fail
        with_reducible refine (HC2.out _ HB2.out).mono ?_
        rintro e w' ⟨rfl, hb3⟩
        have hb4 := (below_alloc wr (.cells #[.int .u16 x, .int .i64 y] 48)).trans (hb3.mono (below_alloc wr _).size)
        have hb5 := HB.out.trans (hb4.mono HB.out.size)
        have ho4 := ownsRow_below HO.out hb4
        have hsz5 := hb5.size
        have HB5 := Lib.hid hb5
        have HO4 := Lib.hid ho4
        clear hb3 hb4 hb5 ho4
        go_wp2_with (at_builtin; refine wpList_append_one Try.underlying31 info64 (by decide) rfl (.tmp 19) (.tmp 21) rfl w.heap.size _ (fl p k).length (iN (fl p k)) (k : Int) rfl (by exact HO4.out) rfl (by omega) hsz5 ?_)
        intro v2 w2 h2 h3 _ _ _
        have hb6 := HB5.out.trans (h3.below (B := w.heap.size) hsz5 (fun j hj => (World.ownsRow.lt HO4.out j hj).1))
        have H2 := Lib.hid h2
        have HB6 := Lib.hid hb6
        clear h2 h3 hb6
        go_wp2
        refine ⟨⟨k + 1, by omega, by go_num, ?_, HB6.out⟩, by simp [intOf]; omega⟩
        rw [fl_in HQ.out.symm, iN_append, List.length_append]
        exact H2.out
    · obtain rfl : k = n := by omega
      go_wp2
      go_ret
      exact ⟨_, rfl, hown, hb⟩
set_option maxHeartbeats 1000000 in
theorem colZ1_any (a : Option Addr) (n c : Nat) (R : List (Int × Int × Int))  (w : World) (hn : n ≤ 1000000) (hR : ZRow w a n c R)  :
    Calls Try.prog 23 #[.slice a n c, .func (.func 24) #[] #[]] w (ColOut (fun _ => true) n w) := by
  have HR := Lib.hid hR
  have hcon : ∀ k W, Below w.heap.size w W → Calls Try.prog 24 #[.int .i64 (k : Nat), .agg #[.int .u16 (R.getD k (0, 0, 0)).1, .int .u16 (R.getD k (0, 0, 0)).2.1, .int .u8 (R.getD k (0, 0, 0)).2.2]] W fun e w' => e = .returned (.bool ((fun (_ : Nat) => true) k)) ∧ Below W.heap.size W w' := fun k W _ => linkA_any _ _ _ _ W
  have HC := Lib.hid hcon
  clear hcon hR 
  generalize (fun _ => true) = p at *
  go_enter Try.func23, Try.ntmps23
  go_wp2_with fail
  go_loopw [5, 10] (fun v i wr => ∃ k : Nat, k ≤ n ∧ i = .int .i64 k ∧ wr.ownsRow w.heap.size 3 1 v (fl p k).length (nums .i64 (iN (fl p k))) ∧ Below w.heap.size w wr) (fun _ i _ => n - (intOf i).toNat)
  case atStart => exact ⟨0, Nat.zero_le _, rfl, ⟨rfl, .inl ⟨rfl, rfl⟩⟩, Below.refl _ _⟩
  case round =>
    obtain ⟨k, hk, rfl, hown, hb⟩ := hrel
    by_cases hkn : k < n
    · obtain ⟨b, off, rfl, hc⟩ := (HR.out.later hb).cells.resolve_left (by omega)
      obtain ⟨c0, c1, c2⟩ := hc k hkn
      have hcon2 := HC.out k
      obtain ⟨x, hx⟩ : ∃ x, x = (R.getD k (0, 0, 0)).1 := ⟨_, rfl⟩
      obtain ⟨y, hy⟩ : ∃ y, y = (R.getD k (0, 0, 0)).2.1 := ⟨_, rfl⟩
      obtain ⟨z, hz⟩ : ∃ z, z = (R.getD k (0, 0, 0)).2.2 := ⟨_, rfl⟩
      rw [← hx] at c0
      rw [← hy] at c1
      rw [← hz] at c2
      rw [← hx, ← hy, ← hz] at hcon2
      clear hx hy hz
      have hb2 : Below w.heap.size w (wr.alloc (.cells #[.int .u16 x, .int .u16 y, .int .u8 z] 43)) := hb.trans ((below_alloc wr _).mono hb.size)
      have hsz := hb.size
      have hfl := fl_le p k
      have HB := Lib.hid hb
      have HB2 := Lib.hid hb2
      have HO := Lib.hid hown
      have HC2 := Lib.hid hcon2
      clear hc hb hb2 hown hcon2
      obtain ⟨q, hq⟩ : ∃ q, q = p k := ⟨_, rfl⟩
      rw [← hq] at HC2
      have HQ := Lib.hid hq
      clear hq
      cases q
      · go_wp2_with fail
        with_reducible refine (HC2.out _ HB2.out).mono ?_
        rintro e w' ⟨rfl, hb3⟩
        have hb4 := (below_alloc wr (.cells #[.int .u16 x, .int .u16 y, .int .u8 z] 43)).trans (hb3.mono (below_alloc wr _).size)
        have HB4 := Lib.hid hb4
        clear hb3 hb4
        go_wp2
        refine ⟨⟨k + 1, by omega, by go_num, ?_, HB.out.trans (HB4.out.mono HB.out.size)⟩, by simp [intOf]; omega⟩
        rw [fl_out HQ.out.symm]
        exact ownsRow_below HO.out HB4.out
      · go_wp2_with fail
        with_reducible refine (HC2.out _ HB2.out).mono ?_
        rintro e w' ⟨rfl, hb3⟩
        have hb4 := (below_alloc wr (.cells #[.int .u16 x, .int .u16 y, .int .u8 z] 43)).trans (hb3.mono (below_alloc wr _).size)
        have hb5 := HB.out.trans (hb4.mono HB.out.size)
        have ho4 := ownsRow_below HO.out hb4
        have hsz5 := hb5.size
        have HB5 := Lib.hid hb5
        have HO4 := Lib.hid ho4
        clear hb3 hb4 hb5 ho4
        go_wp2_with (at_builtin; refine wpList_append_one Try.underlying31 info64 (by decide) rfl (.tmp 19) (.tmp 21) rfl w.heap.size _ (fl p k).length (iN (fl p k)) (k : Int) rfl (by exact HO4.out) rfl (by omega) hsz5 ?_)
        intro v2 w2 h2 h3 _ _ _
        have hb6 := HB5.out.trans (h3.below (B := w.heap.size) hsz5 (fun j hj => (World.ownsRow.lt HO4.out j hj).1))
        have H2 := Lib.hid h2
        have HB6 := Lib.hid hb6
        clear h2 h3 hb6
        go_wp2
        refine ⟨⟨k + 1, by omega, by go_num, ?_, HB6.out⟩, by simp [intOf]; omega⟩
        rw [fl_in HQ.out.symm, iN_append, List.length_append]
        exact H2.out
    · obtain rfl : k = n := by omega
      go_wp2
      go_ret
      exact ⟨_, rfl, hown, hb⟩
set_option maxHeartbeats 1000000 in
theorem colZ2_any (a : Option Addr) (n c : Nat) (R : List (Int × Int × Int)) (ub : Nat) (a' : Option Addr) (n' c' : Nat) (U : List Bool) (w : World) (hn : n ≤ 1000000) (hR : ZRow w a n c R) (hU : BRow w a' n' c' U) (hu : w.cell? ⟨ub, 0, none⟩ = some (.slice a' n' c')) :
    Calls Try.prog 23 #[.slice a n c, .func (.func 25) #[] #[.pointer (some ⟨ub, 0, none⟩)]] w (ColOut (upM U) n w) := by
  have HR := Lib.hid hR
  have hcon : ∀ k W, Below w.heap.size w W → Calls Try.prog 25 #[.int .i64 (k : Nat), .agg #[.int .u16 (R.getD k (0, 0, 0)).1, .int .u16 (R.getD k (0, 0, 0)).2.1, .int .u8 (R.getD k (0, 0, 0)).2.2], .pointer (some ⟨ub, 0, none⟩)] W fun e w' => e = .returned (.bool ((upM U) k)) ∧ Below W.heap.size W w' := fun k W h => linkB_any k _ _ _ ub a' n' c' U W (hU.later h) (cell_later hu h)
  have HC := Lib.hid hcon
  clear hcon hR hU hu
  generalize (upM U) = p at *
  go_enter Try.func23, Try.ntmps23
  go_wp2_with fail
  go_loopw [5, 10] (fun v i wr => ∃ k : Nat, k ≤ n ∧ i = .int .i64 k ∧ wr.ownsRow w.heap.size 3 1 v (fl p k).length (nums .i64 (iN (fl p k))) ∧ Below w.heap.size w wr) (fun _ i _ => n - (intOf i).toNat)
  case atStart => exact ⟨0, Nat.zero_le _, rfl, ⟨rfl, .inl ⟨rfl, rfl⟩⟩, Below.refl _ _⟩
  case round =>
    obtain ⟨k, hk, rfl, hown, hb⟩ := hrel
    by_cases hkn : k < n
    · obtain ⟨b, off, rfl, hc⟩ := (HR.out.later hb).cells.resolve_left (by omega)
      obtain ⟨c0, c1, c2⟩ := hc k hkn
      have hcon2 := HC.out k
      obtain ⟨x, hx⟩ : ∃ x, x = (R.getD k (0, 0, 0)).1 := ⟨_, rfl⟩
      obtain ⟨y, hy⟩ : ∃ y, y = (R.getD k (0, 0, 0)).2.1 := ⟨_, rfl⟩
      obtain ⟨z, hz⟩ : ∃ z, z = (R.getD k (0, 0, 0)).2.2 := ⟨_, rfl⟩
      rw [← hx] at c0
      rw [← hy] at c1
      rw [← hz] at c2
      rw [← hx, ← hy, ← hz] at hcon2
      clear hx hy hz
      have hb2 : Below w.heap.size w (wr.alloc (.cells #[.int .u16 x, .int .u16 y, .int .u8 z] 43)) := hb.trans ((below_alloc wr _).mono hb.size)
      have hsz := hb.size
      have hfl := fl_le p k
      have HB := Lib.hid hb
      have HB2 := Lib.hid hb2
      have HO := Lib.hid hown
      have HC2 := Lib.hid hcon2
      clear hc hb hb2 hown hcon2
      obtain ⟨q, hq⟩ : ∃ q, q = p k := ⟨_, rfl⟩
      rw [← hq] at HC2
      have HQ := Lib.hid hq
      clear hq
      cases q
      · go_wp2_with fail
        with_reducible refine (HC2.out _ HB2.out).mono ?_
        rintro e w' ⟨rfl, hb3⟩
        have hb4 := (below_alloc wr (.cells #[.int .u16 x, .int .u16 y, .int .u8 z] 43)).trans (hb3.mono (below_alloc wr _).size)
        have HB4 := Lib.hid hb4
        clear hb3 hb4
        go_wp2
        refine ⟨⟨k + 1, by omega, by go_num, ?_, HB.out.trans (HB4.out.mono HB.out.size)⟩, by simp [intOf]; omega⟩
        rw [fl_out HQ.out.symm]
        exact ownsRow_below HO.out HB4.out
      · go_wp2_with fail
        with_reducible refine (HC2.out _ HB2.out).mono ?_
        rintro e w' ⟨rfl, hb3⟩
        have hb4 := (below_alloc wr (.cells #[.int .u16 x, .int .u16 y, .int .u8 z] 43)).trans (hb3.mono (below_alloc wr _).size)
        have hb5 := HB.out.trans (hb4.mono HB.out.size)
        have ho4 := ownsRow_below HO.out hb4
        have hsz5 := hb5.size
        have HB5 := Lib.hid hb5
        have HO4 := Lib.hid ho4
        clear hb3 hb4 hb5 ho4
        go_wp2_with (at_builtin; refine wpList_append_one Try.underlying31 info64 (by decide) rfl (.tmp 19) (.tmp 21) rfl w.heap.size _ (fl p k).length (iN (fl p k)) (k : Int) rfl (by exact HO4.out) rfl (by omega) hsz5 ?_)
        intro v2 w2 h2 h3 _ _ _
        have hb6 := HB5.out.trans (h3.below (B := w.heap.size) hsz5 (fun j hj => (World.ownsRow.lt HO4.out j hj).1))
        have H2 := Lib.hid h2
        have HB6 := Lib.hid hb6
        clear h2 h3 hb6
        go_wp2
        refine ⟨⟨k + 1, by omega, by go_num, ?_, HB6.out⟩, by simp [intOf]; omega⟩
        rw [fl_in HQ.out.symm, iN_append, List.length_append]
        exact H2.out
    · obtain rfl : k = n := by omega
      go_wp2
      go_ret
      exact ⟨_, rfl, hown, hb⟩
end Go.Proofs.Ytpgdaodgdckehaa
