/- Joined: PcWrite PcWriteK. -/
import Derived.Test.YthlckipcgogogaaGreatDoorPlShelfK
import Derived.Test.YthlckipcgogogaaGreatDoorPlCells
/- Write: the closure that writes a line; the text of a plan. -/
namespace Go.Proofs.YthlckipcgogogaaGreatDoor
set_option linter.unusedVariables false
open Go.RowKit Go.Lib

abbrev IsB (B b : Nat) (l : List UInt8) (w : World) : Prop := Lib.IsBuilder 82 5 B b (Lib.byteCells l) w
theorem isB_below {B b : Nat} {l : List UInt8} {w w' : World} (h : IsB B b l w) (hb : Below w.heap.size w w') (hlt : b < w.heap.size) : IsB B b l w' := by
  rcases h with ⟨hB, v, h1, h2, h3⟩ | ⟨hB, v, h1, h2, h3⟩
  · exact .inl ⟨hB, v, (hb.block b hlt).trans h1, ownsK_below h2 hb, h3⟩
  · exact .inr ⟨hB, v, (hb.block b hlt).trans h1, ownsK_below h2 hb, h3⟩
theorem isB_lt {B b : Nat} {l : List UInt8} {w : World} (h : IsB B b l w) : B ≤ b ∧ b < w.heap.size := by
  rcases h with ⟨hB, v, h1, _, _⟩ | ⟨hB, v, h1, _, _⟩
  · exact ⟨hB, (Array.getElem?_eq_some_iff.1 h1).1⟩
  · exact ⟨hB, (Array.getElem?_eq_some_iff.1 h1).1⟩
/-- A line of words. -/
def lineL (xs : List (List UInt8)) : List UInt8 := Lib.join xs [32] ++ [10]
set_option maxHeartbeats 1000000 in
theorem line_any (B b bk c : Nat) (l : List UInt8) (xs : List ByteArray) (w : World) (h : IsB B b l w) (hBw : B ≤ w.heap.size) (hc : ∀ (j : Nat) x, xs[j]? = some x → w.cell? ⟨bk, j, none⟩ = some (.string x)) (hbk : bk < w.heap.size) (hn : xs.length ≤ 100) (hcap : xs.length ≤ c)
    (hlen : (Lib.join (xs.map (·.data.toList)) [32]).length ≤ 10000) (hl : l.length ≤ 100000000) :
    Calls Tryz.prog 30 #[.slice (some ⟨bk, 0, none⟩) xs.length c, .pointer (some ⟨b, 0, none⟩)] w fun e w' => e = .returned (.tuple #[]) ∧ IsB B b (l ++ lineL (xs.map (·.data.toList))) w' ∧ Below B w w' := by
  have hj := join_any bk 0 c xs ⟨#[32]⟩ w (fun j x hx => by rw [Nat.zero_add]; exact hc j x hx) hbk (by omega) hcap (by show (Lib.join (xs.map (·.data.toList)) [32]).length ≤ _; omega)
  obtain ⟨J, hJ⟩ : ∃ J : ByteArray, J = ⟨(Lib.join (xs.map (·.data.toList)) [32]).toArray⟩ := ⟨_, rfl⟩
  change Calls _ _ _ _ (fun e w' => e = .returned (.string ⟨(Lib.join (xs.map (·.data.toList)) [32]).toArray⟩) ∧ Below w.heap.size w w') at hj
  rw [← hJ] at hj
  have hJs : J.size ≤ 10000 := by rw [hJ]; simpa [ByteArray.size] using hlen
  have h10 : (⟨#[10]⟩ : ByteArray).size = 1 := rfl
  have eS : ∀ W, (Op.stringOp .add J ⟨#[10]⟩).run Tryz.prog W = .ok (.string (J ++ ⟨#[10]⟩)) W := fun W => run_string_add_sum W J ⟨#[10]⟩ (by omega)
  obtain ⟨S, hS⟩ : ∃ S, S = J ++ ⟨#[10]⟩ := ⟨_, rfl⟩
  have hSd : S.data.toList = lineL (xs.map (·.data.toList)) := by rw [hS, hJ]; simp [lineL]
  have hSs : S.size ≤ 10001 := by rw [hS, ByteArray.size_append, h10]; omega
  rw [← hS] at eS
  have eB : ∀ W, (binOp .add 9 (.string J) (.string ⟨#[10]⟩)).run Tryz.prog W = .ok (.string S) W := fun W => by rw [binOp_string_add]; exact eS W
  obtain ⟨n, hn9⟩ : ∃ n, n = xs.length := ⟨_, rfl⟩
  rw [← hn9] at hj hn hcap ⊢
  have HJ := Lib.hid hj
  have HJe := Lib.hid hJ
  have HI := Lib.hid h
  have hlt := isB_lt h
  have HSd := Lib.hid hSd
  clear hj hJ hc h hn9 hS hSd h10
  go_enter Tryz.func30, Tryz.ntmps30
  go_wp2_with fail
  with_reducible refine HJ.out.mono ?_
  rintro e w1 ⟨rfl, hb⟩
  have HI1 := Lib.hid (isB_below HI.out hb hlt.2)
  have HB1 := Lib.hid hb
  clear hb
  go_wp2_with fail
  with_reducible refine (write_string B b _ S w1 HI1.out (by rw [Lib.byteCells_length]; omega) (Nat.le_trans hBw HB1.out.size)).mono ?_
  rintro e w2 ⟨rfl, hat, hb⟩
  have HA := Lib.hid hat
  have HB2 := Lib.hid ((HB1.out.mono hBw).trans hb)
  clear hat hb
  go_wp2
  go_end0
  refine ⟨rfl, .inr ?_, HB2.out⟩
  have h := HA.out
  rw [Lib.strCells_eq, HSd.out, ← Lib.byteCells_append] at h
  exact h
theorem kind_any (b : Bool) (w : World) : Calls Tryz.prog 33 #[.bool b] w fun e w' => e = .returned (.string (if b then ⟨#[116, 114, 97, 110, 115, 102, 101, 114]⟩ else ⟨#[101, 110, 100]⟩)) ∧ w' = w := by
  cases b
  · go_enter Tryz.func33, Tryz.ntmps33
    go_wp2
    go_ret
    exact ⟨rfl, rfl⟩
  · go_enter Tryz.func33, Tryz.ntmps33
    go_wp2
    go_ret
    exact ⟨rfl, rfl⟩
def LineOut (B b : Nat) (l : List UInt8) (xs : List ByteArray) (w : World) (e : Ending) (w' : World) : Prop := e = .returned (.tuple #[]) ∧ IsB B b (l ++ lineL (xs.map (·.data.toList))) w' ∧ Below B w w'
/-- .. of words that lie in a block that has just been made. -/
theorem line_lit (B b : Nat) (l : List UInt8) (xs : List ByteArray) (V : World) (h : IsB B b l V) (hBw : B ≤ V.heap.size) (hn : xs.length ≤ 100)
    (hlen : (Lib.join (xs.map (·.data.toList)) [32]).length ≤ 10000) (hl : l.length ≤ 100000000) :
    Calls Tryz.prog 30 #[.slice (some ⟨V.heap.size, 0, none⟩) xs.length xs.length, .pointer (some ⟨b, 0, none⟩)] (V.alloc (.cells (xs.map Value.string).toArray 9)) (LineOut B b l xs V) := by
  have ho : Own (V.alloc (.cells (xs.map Value.string).toArray 9)) V.heap.size 9 (xs.map Value.string) := heap_alloc_new V _
  have hb := below_alloc V (.cells (xs.map Value.string).toArray 9)
  refine (line_any B b V.heap.size xs.length l xs _ (isB_below h hb (isB_lt h).2) (Nat.le_trans hBw hb.size) (fun j x hx => ?_) ho.lt hn (Nat.le_refl _) hlen hl).mono fun e w' h => ⟨h.1, h.2.1, (hb.mono hBw).trans h.2.2⟩
  have hj := (List.getElem?_eq_some_iff.1 hx).1
  rw [ho.cell j (by rw [List.length_map]; exact hj), List.getD_eq_getElem?_getD, List.getElem?_map, hx]
  rfl
end Go.Proofs.YthlckipcgogogaaGreatDoor
/- Write: the closure that writes a line, and what it keeps. -/
namespace Go.Proofs.YthlckipcgogogaaGreatDoor
set_option linter.unusedVariables false
open Go.RowKit Go.Lib

abbrev IsBK (B b : Nat) (l : List UInt8) (w : World) : Prop := Lib.IsBuilderF 82 5 B b (Lib.byteCells l) w
theorem ownsF_below {w w' : World} {B e k : Nat} {v : Value} {n : Nat} {xs : List Value} (h : w.ownsRowF B e k v n xs) (hb : Below w.heap.size w w') : w'.ownsRowF B e k v n xs := by
  refine ⟨h.1, ?_⟩
  rcases h.2 with hn | ⟨g, cap, cur, fz, hv, h1, hg, rest⟩
  · exact .inl hn
  · exact .inr ⟨g, cap, cur, fz, hv, h1, (hb.block g (Array.getElem?_eq_some_iff.1 hg).1).trans hg, rest⟩
theorem isBK_below {B b : Nat} {l : List UInt8} {w w' : World} (h : IsBK B b l w) (hb : Below w.heap.size w w') (hlt : b < w.heap.size) : IsBK B b l w' := by
  rcases h with ⟨hB, v, h1, h2, h3⟩ | ⟨hB, v, h1, h2, h3⟩
  · exact .inl ⟨hB, v, (hb.block b hlt).trans h1, ownsF_below h2 hb, h3⟩
  · exact .inr ⟨hB, v, (hb.block b hlt).trans h1, ownsF_below h2 hb, h3⟩
/-- What lies still: every block but b and the rows of bytes. -/
abbrev Kept (b : Nat) (w w' : World) : Prop := Lib.OthersKept 5 (some b) w w'
theorem kept_below {b : Nat} {w w' : World} (hb : Below w.heap.size w w') : Kept b w w' := fun k _ h _ _ => (hb.block k (Array.getElem?_eq_some_iff.1 h).1).trans h
theorem isBK_lt {B b : Nat} {l : List UInt8} {w : World} (h : IsBK B b l w) : B ≤ b ∧ b < w.heap.size := by
  rcases h with ⟨hB, v, h1, _, _⟩ | ⟨hB, v, h1, _, _⟩
  · exact ⟨hB, (Array.getElem?_eq_some_iff.1 h1).1⟩
  · exact ⟨hB, (Array.getElem?_eq_some_iff.1 h1).1⟩
set_option maxHeartbeats 1000000 in
theorem line_anyK (B b bk c : Nat) (l : List UInt8) (xs : List ByteArray) (w : World) (h : IsBK B b l w) (hBw : B ≤ w.heap.size) (hc : ∀ (j : Nat) x, xs[j]? = some x → w.cell? ⟨bk, j, none⟩ = some (.string x)) (hbk : bk < w.heap.size) (hn : xs.length ≤ 100) (hcap : xs.length ≤ c)
    (hlen : (Lib.join (xs.map (·.data.toList)) [32]).length ≤ 10000) (hl : l.length ≤ 100000000) :
    Calls Tryz.prog 30 #[.slice (some ⟨bk, 0, none⟩) xs.length c, .pointer (some ⟨b, 0, none⟩)] w fun e w' => e = .returned (.tuple #[]) ∧ IsBK B b (l ++ lineL (xs.map (·.data.toList))) w' ∧ Below B w w' ∧ Kept b w w' := by
  have hj := join_any bk 0 c xs ⟨#[32]⟩ w (fun j x hx => by rw [Nat.zero_add]; exact hc j x hx) hbk (by omega) hcap (by show (Lib.join (xs.map (·.data.toList)) [32]).length ≤ _; omega)
  obtain ⟨J, hJ⟩ : ∃ J : ByteArray, J = ⟨(Lib.join (xs.map (·.data.toList)) [32]).toArray⟩ := ⟨_, rfl⟩
  change Calls _ _ _ _ (fun e w' => e = .returned (.string ⟨(Lib.join (xs.map (·.data.toList)) [32]).toArray⟩) ∧ Below w.heap.size w w') at hj
  rw [← hJ] at hj
  have hJs : J.size ≤ 10000 := by rw [hJ]; simpa [ByteArray.size] using hlen
  have h10 : (⟨#[10]⟩ : ByteArray).size = 1 := rfl
  have eS : ∀ W, (Op.stringOp .add J ⟨#[10]⟩).run Tryz.prog W = .ok (.string (J ++ ⟨#[10]⟩)) W := fun W => run_string_add_sum W J ⟨#[10]⟩ (by omega)
  obtain ⟨S, hS⟩ : ∃ S, S = J ++ ⟨#[10]⟩ := ⟨_, rfl⟩
  have hSd : S.data.toList = lineL (xs.map (·.data.toList)) := by rw [hS, hJ]; simp [lineL]
  have hSs : S.size ≤ 10001 := by rw [hS, ByteArray.size_append, h10]; omega
  rw [← hS] at eS
  have eB : ∀ W, (binOp .add 9 (.string J) (.string ⟨#[10]⟩)).run Tryz.prog W = .ok (.string S) W := fun W => by rw [binOp_string_add]; exact eS W
  obtain ⟨n, hn9⟩ : ∃ n, n = xs.length := ⟨_, rfl⟩
  rw [← hn9] at hj hn hcap ⊢
  have HJ := Lib.hid hj
  have HJe := Lib.hid hJ
  have HI := Lib.hid h
  have hlt := isBK_lt h
  have HSd := Lib.hid hSd
  clear hj hJ hc h hn9 hS hSd h10
  go_enter Tryz.func30, Tryz.ntmps30
  go_wp2_with fail
  with_reducible refine HJ.out.mono ?_
  rintro e w1 ⟨rfl, hb⟩
  have HI1 := Lib.hid (isBK_below HI.out hb hlt.2)
  have HB1 := Lib.hid hb
  clear hb
  go_wp2_with fail
  with_reducible refine (write_stringK B b _ S w1 HI1.out (by rw [Lib.byteCells_length]; omega) (Nat.le_trans hBw HB1.out.size)).mono ?_
  rintro e w2 ⟨rfl, hat, hb, hk⟩
  have HA := Lib.hid hat
  have HB2 := Lib.hid ((HB1.out.mono hBw).trans hb)
  have HKp := Lib.hid ((kept_below (b := b) HB1.out).trans hk)
  clear hat hb hk
  go_wp2
  go_end0
  refine ⟨rfl, .inr ?_, HB2.out, HKp.out⟩
  have h := HA.out
  rw [Lib.strCells_eq, HSd.out, ← Lib.byteCells_append] at h
  exact h
def LineOutK (B b : Nat) (l : List UInt8) (xs : List ByteArray) (w : World) (e : Ending) (w' : World) : Prop := e = .returned (.tuple #[]) ∧ IsBK B b (l ++ lineL (xs.map (·.data.toList))) w' ∧ Below B w w' ∧ Kept b w w'
/-- .. of words that lie in a block that has just been made. -/
theorem line_litK (B b : Nat) (l : List UInt8) (xs : List ByteArray) (V : World) (h : IsBK B b l V) (hBw : B ≤ V.heap.size) (hn : xs.length ≤ 100)
    (hlen : (Lib.join (xs.map (·.data.toList)) [32]).length ≤ 10000) (hl : l.length ≤ 100000000) :
    Calls Tryz.prog 30 #[.slice (some ⟨V.heap.size, 0, none⟩) xs.length xs.length, .pointer (some ⟨b, 0, none⟩)] (V.alloc (.cells (xs.map Value.string).toArray 9)) (LineOutK B b l xs V) := by
  have ho : Own (V.alloc (.cells (xs.map Value.string).toArray 9)) V.heap.size 9 (xs.map Value.string) := heap_alloc_new V _
  have hb := below_alloc V (.cells (xs.map Value.string).toArray 9)
  refine (line_anyK B b V.heap.size xs.length l xs _ (isBK_below h hb (isBK_lt h).2) (Nat.le_trans hBw hb.size) (fun j x hx => ?_) ho.lt hn (Nat.le_refl _) hlen hl).mono fun e w' h => ⟨h.1, h.2.1, (hb.mono hBw).trans h.2.2.1, (kept_below hb).trans h.2.2.2⟩
  have hj := (List.getElem?_eq_some_iff.1 hx).1
  rw [ho.cell j (by rw [List.length_map]; exact hj), List.getD_eq_getElem?_getD, List.getElem?_map, hx]
  rfl
end Go.Proofs.YthlckipcgogogaaGreatDoor
