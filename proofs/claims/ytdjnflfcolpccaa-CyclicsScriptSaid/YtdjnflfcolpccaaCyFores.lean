/- Contracts: the statements' fores (the numbers of the next units) and equal. -/
import Derived.Test.YtdjnflfcolpccaaBaTwo
import Derived.Test.YtdjnflfcolpccaaBaLists
import Derived.Test.YtdjnflfcolpccaaCyNext
namespace Go.Proofs.Ytdjnflfcolpccaa
open Go.RowKit

theorem wpList_append_one_at {k : IntKind} {t e : TypeId} {bytes : Nat} (ht : Try.prog.underlying t = some (.slice e)) (hin : (Try.prog.info? e).map (fun i => (i.zero, i.size, i.bytes)) = some (some (.int k 0), 1, bytes)) (hby8 : bytes ≤ 8)
    {ops : Array Oper} {rest : List Oper} {o : Oper} {a : Act} {Q : Exit → Act → World → Prop} {w0 : World} (hgd : o.guard = none) (s x : Operand)
    (ho : o.op = .call { callee := .builtin .append, args := #[s, x], argTypes := #[t, t] })
    (H : Nat) (hH : w0.heap.size = H) (B : Nat) (v : Value) (n : Nat) (xs : List Int) (y : Int) (hs : a.eval s = v) (hown : w0.ownsRow B e 1 v n (nums k xs)) (hx : a.eval x = .slice (some ⟨H, 0, none⟩) 1 1)
    (hn : n + 1 ≤ 2199023255552) (hB : B ≤ w0.heap.size)
    (h : ∀ v' w', w'.ownsRow B e 1 v' (n + 1) (nums k (xs ++ [y])) → Grow v w0 v' w' → (∃ g c, v' = .slice (some ⟨g, 0, none⟩) (n + 1) c) → wpList Try.prog ops Q rest (a.put o.dst v') w') :
    wpList Try.prog ops Q (o :: rest) a (w0.alloc (.cells #[.int k y] e)) := by
  subst hH
  exact wpList_append_one ht hin hby8 hgd s x ho B v n xs y hs hown hx hn hB h
/-- What is left of an end that has sent k units. -/
def runE (x : En) : Nat → En
  | 0 => x
  | k + 1 => (runE x k).next.2
/-- Their numbers. -/
def runF (x : En) : Nat → List Int
  | 0 => []
  | k + 1 => runF x k ++ [((runE x k).next.1.fore : Int)]
theorem runF_length (x : En) (k : Nat) : (runF x k).length = k := by
  induction k with
  | zero => rfl
  | succ k ih => show (runF x k ++ [_]).length = _; rw [List.length_append, ih]; rfl
theorem En.next_failed (x : En) : x.next.2.failed = x.failed := by
  have hp : x.pre.failed = x.failed := by
    rcases x.pre_cases with ⟨_, _, e⟩ | ⟨_, _, e⟩ | ⟨_, _, e⟩ | ⟨_, _, e⟩ <;> rw [e]
  have ha : ∀ y : En, y.again.2.failed = y.failed := fun y => by
    unfold En.again
    split <;> rfl
  unfold En.next En.go
  rw [← hp]
  cases x.pre.que with
  | nil => exact ha _
  | cons l q =>
    simp only
    split
    · rfl
    · exact ha _
theorem runE_failed (x : En) (k : Nat) : (runE x k).failed = x.failed := by
  induction k with
  | zero => rfl
  | succ k ih => exact (En.next_failed _).trans ih
theorem En.next_fore (x : En) (hf : x.Fit) : x.next.1.fore < 128 := by
  have hs : x.pre.sent = x.sent := by
    rcases x.pre_cases with ⟨_, _, e⟩ | ⟨_, _, e⟩ | ⟨_, _, e⟩ | ⟨_, _, e⟩ <;> rw [e]
  have h1 := hf.sent
  rcases En.next_cases x hf with ⟨_, _, _, e⟩ | ⟨_, _, e⟩ | ⟨_, _, e⟩
  · rw [e]; exact Nat.mod_lt _ (by decide)
  · rw [e]; exact Nat.mod_lt _ (by decide)
  · rw [e]; show x.pre.sent < 128; rw [hs]; exact h1
set_option maxHeartbeats 4000000 in
set_option maxRecDepth 100000 in
theorem fores_any (I : EndFace) (n : Nat) (hn : n ≤ 1000) {b : Nat} {S : Nat → Prop} {x : En} {w : World} (h : I.At w b S x) (hf : x.failed = false) (hl : ∀ k, k < n → (runE x k).next.1.kind = 2) :
    Calls Try.prog 27 #[.pointer (some ⟨b, 0, none⟩), .int .i64 (n : Int)] w fun e w' => ∃ v, e = .returned v ∧ w'.ownsRow w.heap.size 5 1 v n (nums .u8 (runF x n)) ∧ ∃ S', I.At w' b S' (runE x n) ∧ Turn S w S' w' ∧ ∀ j, v.ownBlock = some j → ¬ S' j := by
  have H := Lib.hid h
  have HL := Lib.hid hl
  have HF := Lib.hid hf
  clear h hl hf
  go_enter Try.func27, Try.ntmps27
  go_wp2_with fail
  go_loopw [5, 6] (fun v i wr => ∃ k : Nat, k ≤ n ∧ i = .int .i64 k ∧ wr.ownsRow w.heap.size 5 1 v k (nums .u8 (runF x k)) ∧ ∃ S', I.At wr b S' (runE x k) ∧ Turn S w S' wr ∧ ∀ j, v.ownBlock = some j → ¬ S' j) (fun _ i _ => n - (intOf i).toNat)
  case atStart => exact ⟨0, Nat.zero_le _, rfl, World.ownsRow_nil _ _ _ _, S, H.out, ⟨Exc.refl _ _, fun _ hk => .inl hk⟩, fun j hj => by simp [Value.ownBlock] at hj⟩
  case round =>
    obtain ⟨k, hk, rfl, hown, S1, h1, ht1, hv1⟩ := hrel
    by_cases hlt : k < n
    · have hki : (k : Int) < (n : Int) := by omega
      have hfl : (runE x k).failed = false := by rw [runE_failed]; exact HF.out
      have hkd := HL.out k hlt
      obtain ⟨_, f2, f3, _, _⟩ := En.next_facts (runE x k)
      have hfo := En.next_fore (runE x k) (I.fit h1)
      have hcon := I.next h1 hfl
      obtain ⟨y, hy⟩ : ∃ y, y = (runE x k).next.1 := ⟨_, rfl⟩
      rw [← hy] at hcon hkd f2 f3 hfo
      obtain ⟨ub, bb, uf, fb, uk, us, ul⟩ := y
      try simp only at hkd f2 f3 hfo
      subst hkd
      subst f2
      subst f3
      have hzw := ht1.exc.size
      unfold Sends at hcon
      simp only [unCells] at hcon
      have HC := Lib.hid hcon
      have HO := Lib.hid hown
      have HT1 := Lib.hid ht1
      have HV1 := Lib.hid hv1
      have HY := Lib.hid hy
      have HVl := Lib.hid (fun j (hj : Value.ownBlock _ = some j) => World.ownsRow.lt hown j hj)
      clear hcon hown ht1 hv1 hy h1
      go_wp2_with fail
      refine HC.out.mono ?_
      rintro e w2 ⟨S2, ⟨s, rfl, hr, hz⟩, h2, ht2⟩
      have hv2 : ∀ j, Value.ownBlock _ = some j → ¬ S2 j := fun j hj hs => by
        rcases ht2.lies j hs with h5 | h5
        · exact HV1.out j hj h5
        · have := (HVl.out j hj).2; omega
      have hown2 := ownsRow_exc HO.out ht2.exc (fun j hj => HV1.out j hj)
      have hba := below_alloc w2 (.cells #[.int .u8 (ub : Int), .bool true, .int .u8 (uf : Int), .bool true, .int .u8 2, .int .u8 (us : Int), .slice s ul.length ul.length] 45)
      have hzw2 := ht2.exc.size
      have hsz : w.heap.size ≤ (w2.alloc (.cells #[.int .u8 (ub : Int), .bool true, .int .u8 (uf : Int), .bool true, .int .u8 2, .int .u8 (us : Int), .slice s ul.length ul.length] 45)).heap.size := Nat.le_trans (Nat.le_trans hzw hzw2) hba.size
      have H2 := Lib.hid (I.exc (T := fun _ => False) h2 (Exc.of_below hba) (fun _ _ hh => hh))
      have HT2 := Lib.hid (show Turn S w S2 (w2.alloc (.cells #[.int .u8 (ub : Int), .bool true, .int .u8 (uf : Int), .bool true, .int .u8 2, .int .u8 (us : Int), .slice s ul.length ul.length] 45)) from
        ⟨(HT1.out.exc.trans ht2.exc (fun j hj hs => by rcases HT1.out.lies j hs with h5 | h5 <;> first | exact h5 | (exfalso; omega))).trans (S' := fun _ => False) (Exc.of_below hba) (fun _ _ hh => hh.elim), fun j hj => by
          rcases ht2.lies j hj with h5 | h5
          · exact HT1.out.lies j h5
          · exact .inr (Nat.le_trans hzw h5)⟩)
      have HV2 := Lib.hid hv2
      have HO2 := Lib.hid (hown2.alloc (.cells #[.int .u8 (ub : Int), .bool true, .int .u8 (uf : Int), .bool true, .int .u8 2, .int .u8 (us : Int), .slice s ul.length ul.length] 45))
      have HS2 := Lib.hid (I.lt h2)
      have HB2 := Lib.hid hba
      have HS1 := Lib.hid (World.size_alloc w2 (.cells #[.int .u8 (ub : Int), .bool true, .int .u8 (uf : Int), .bool true, .int .u8 2, .int .u8 (us : Int), .slice s ul.length ul.length] 45))
      clear hr hz h2 ht2 hv2 hown2 hba HC HO
      go_wp2_with (at_builtin; refine wpList_append_one_at Try.underlying36 info8 (by decide) rfl _ _ rfl (w2.heap.size + 1) (by exact HS1.out) w.heap.size _ _ _ _ rfl (by exact HO2.out) rfl (by omega) hsz ?_)
      intro v' w3 hown3 hg3 gb cb hvb
      clear hvb
      have h3 := I.exc H2.out hg3.exc (fun j hj hs => HV2.out j hs hj)
      have hxx := hg3.exc
      have hli := hg3.lies
      have ht3 : Turn S w S2 w3 := ⟨HT2.out.exc.trans hxx (fun j hj hs => by have := (HVl.out j hs).1; exfalso; omega), HT2.out.lies⟩
      have hv3 : ∀ j, v'.ownBlock = some j → ¬ S2 j := fun j hj hs => by
        rcases hli j hj with h5 | h5
        · exact HV2.out j h5 hs
        · have := HS2.out j hs; have := HB2.out.size; omega
      have hY := HY.out
      have ef : runF x (k + 1) = runF x k ++ [(uf : Int)] := by
        show runF x k ++ [((runE x k).next.1.fore : Int)] = _
        rw [← hY]
      rw [← ef] at hown3
      have H3 := Lib.hid (And.intro hown3 (And.intro h3 (And.intro ht3 hv3)))
      clear hown3 hg3 h3 hxx hli ht3 hv3 hY ef
      go_wp2
      exact ⟨⟨k + 1, by omega, by go_num, H3.out.1, S2, H3.out.2.1, H3.out.2.2.1, H3.out.2.2.2⟩, by simp [intOf]; omega⟩
    · obtain rfl : k = n := by omega
      have hki : ¬ (k : Int) < (k : Int) := by omega
      have HO := Lib.hid hown
      have HX := Lib.hid (And.intro h1 (And.intro ht1 hv1))
      clear hown h1 ht1 hv1
      go_wp2
      go_ret
      exact ⟨_, rfl, HO.out, S1, HX.out.1, HX.out.2.1, HX.out.2.2⟩
set_option maxHeartbeats 1000000 in
/-- Two lists of numbers that agree. -/
theorem equal_yes (w : World) (B : Nat) (v : Value) (n : Nat) (l : List Int) (a2 : Option Addr) (c2 : Nat) (h1 : w.ownsRow B 5 1 v n (nums .u8 l)) (hl : ∀ x ∈ l, (Lit.int .u8 x).wf = true) (h2 : Row .u8 w a2 n c2 l) :
    Calls Try.prog 26 #[v, .slice a2 n c2] w fun e w' => e = .returned (.bool true) ∧ ∃ q, w' = w.drewN q := by
  obtain ⟨a, c, rfl, hr, _⟩ := ownsRow_rowN .u8 h1 hl
  have hle := hr.le
  have hmx := hr.max
  unfold maxLen at hmx
  have hr' : Row .u8 w a n n l := ⟨hr.len, Nat.le_refl _, Nat.le_trans hr.le hr.max, hr.wf, hr.cells, fun h => by have := hr.isNil h; have := hr.le; omega⟩
  have hcon := bytes_yes a a2 n n c2 l w hr' h2
  have HC := Lib.hid hcon
  clear hcon hr hr' h1 h2 hl
  have hci : (n : Int) ≤ (c : Int) := by omega
  go_enter Try.func26, Try.ntmps26
  go_wp2_with fail
  refine HC.out.mono ?_
  rintro e w' ⟨rfl, q, rfl⟩
  go_wp2
  go_ret
  exact ⟨rfl, q, rfl⟩
end Go.Proofs.Ytdjnflfcolpccaa
