/- Joined: LbSplitLay PrEnd PrNum. -/
import Derived.Test.YthlckipcgogogaaGreatDoorBase
import Derived.Shelf.Strings.SplitCore
import Derived.Shelf.Strings.Search3
import Derived.Shelf.Strings.Count
import Derived.Test.YthlckipcgogogaaGreatDoorPlShelfK
import Derived.Test.YthlckipcgogogaaGreatDoorPcWriteT
import Derived.Test.YthlckipcgogogaaGreatDoorPrMath
/- The library's functions under strings.Split, as this program bears them (the shelf's laying, in plain words). -/
namespace Go.Proofs.YthlckipcgogogaaGreatDoor
set_option linter.unusedVariables false
open Go.Shelf
def lay221_ren : Go.Shelf.Ren := ⟨fun | 221 => 54 | 268 => 83 | 138 => 13 | 143 => 49 | 195 => 47 | 197 => 57 | 218 => 48 | 219 => 80 | 260 => 86 | 217 => 101 | 225 => 104 | 224 => 105 | 267 => 106 | 266 => 127 | 314 => 129 | n => n, fun | 9 => 9 | 3 => 3 | 31 => 46 | 4 => 4 | 0 => 0 | 105 => 114 | 21 => 21 | 5 => 5 | 46 => 130 | 119 => 162 | 139 => 165 | 138 => 164 | 146 => 186 | 51 => 177 | n => n, fun | 1 => 0 | 3 => 1 | 4 => 2 | n => n⟩
theorem lay221 : Go.Proofs.Lays.n221 Tryz.prog lay221_ren := {
  mixed := by kernel_rfl
  f138 := Tryz.func13.trans (congrArg some (by kernel_rfl))
  f143 := Tryz.func49.trans (congrArg some (by kernel_rfl))
  f195 := Tryz.func47.trans (congrArg some (by kernel_rfl))
  f197 := Tryz.func57.trans (congrArg some (by kernel_rfl))
  f217 := Tryz.func101.trans (congrArg some (by kernel_rfl))
  f218 := Tryz.func48.trans (congrArg some (by kernel_rfl))
  f219 := Tryz.func80.trans (congrArg some (by kernel_rfl))
  f221 := Tryz.func54.trans (congrArg some (by kernel_rfl))
  f224 := Tryz.func105.trans (congrArg some (by kernel_rfl))
  f225 := Tryz.func104.trans (congrArg some (by kernel_rfl))
  f260 := Tryz.func86.trans (congrArg some (by kernel_rfl))
  f266 := Tryz.func127.trans (congrArg some (by kernel_rfl))
  f267 := Tryz.func106.trans (congrArg some (by kernel_rfl))
  f268 := Tryz.func83.trans (congrArg some (by kernel_rfl))
  f314 := Tryz.func129.trans (congrArg some (by kernel_rfl))
  t0 := Tryz.underlying0
  a0 := Tryz.isAgg0
  z0 := Tryz.sizeOf0
  v0 := Tryz.zeroValue0
  t3 := Tryz.underlying3
  a3 := Tryz.isAgg3
  z3 := Tryz.sizeOf3
  v3 := Tryz.zeroValue3
  t4 := Tryz.underlying4
  a4 := Tryz.isAgg4
  z4 := Tryz.sizeOf4
  v4 := Tryz.zeroValue4
  t5 := Tryz.underlying5
  a5 := Tryz.isAgg5
  z5 := Tryz.sizeOf5
  v5 := Tryz.zeroValue5
  t9 := Tryz.underlying9
  a9 := Tryz.isAgg9
  z9 := Tryz.sizeOf9
  v9 := Tryz.zeroValue9
  t21 := Tryz.underlying21
  a21 := Tryz.isAgg21
  z21 := Tryz.sizeOf21
  v21 := Tryz.zeroValue21
  t31 := Tryz.underlying46
  a31 := Tryz.isAgg46
  z31 := Tryz.sizeOf46
  v31 := Tryz.zeroValue46
  t46 := Tryz.underlying130
  a46 := Tryz.isAgg130
  z46 := Tryz.sizeOf130
  v46 := Tryz.zeroValue130
  t51 := Tryz.underlying177
  a51 := Tryz.isAgg177
  z51 := Tryz.sizeOf177
  v51 := Tryz.zeroValue177
  t105 := Tryz.underlying114
  a105 := Tryz.isAgg114
  z105 := Tryz.sizeOf114
  v105 := Tryz.zeroValue114
  t119 := Tryz.underlying162
  a119 := Tryz.isAgg162
  z119 := Tryz.sizeOf162
  t138 := Tryz.underlying164
  a138 := Tryz.isAgg164
  z138 := Tryz.sizeOf164
  v138 := Tryz.zeroValue164
  t139 := Tryz.underlying165
  a139 := Tryz.isAgg165
  z139 := Tryz.sizeOf165
  v139 := Tryz.zeroValue165
  t146 := Tryz.underlying186
  a146 := Tryz.isAgg186
  z146 := Tryz.sizeOf186
  v146 := Tryz.zeroValue186
  g1 := by kernel_rfl
  g3 := by kernel_rfl
  g4 := by kernel_rfl }
end Go.Proofs.YthlckipcgogogaaGreatDoor
/- What PlansText wants besides: newlines and faults, the length of a text, strings.Count. -/
namespace Go.Proofs.YthlckipcgogogaaGreatDoor
set_option linter.unusedVariables false
open Go.RowKit Go.Shelf

theorem count_any (s : List UInt8) (w : World) : Calls Tryz.prog 13 #[.string (bs s), .string ⟨#[10]⟩] w fun e w' => e = .returned (.int .i64 ((s.count 10 : Nat) : Int)) ∧ w = w' := by
  refine (Any.strings_Count_one { lay221 with } (bs s) 10 w).mono fun e w' ⟨he, hw⟩ => ⟨?_, hw.symm⟩
  rw [he]
  unfold Lib.countByte
  rw [bs_toList]
/-- A fault lies behind the lines before, and not behind the last line by more than one. -/
theorem fault_count : ∀ (f : Nat) (s : List UInt8) (n : Nat) (p : Pn) (part k : Nat), readF f s n p part = .fault k → n < k ∧ k ≤ n + 1 + s.count 10
  | 0, s, n, p, part, k, h => by
    unfold readF at h
    split at h
    · cases h
    · injection h with h; omega
  | f + 1, s, n, p, part, k, h => by
    unfold readF at h
    split at h
    · split at h
      · cases h
      · injection h with h; omega
    · split at h
      · injection h with h; omega
      · rename_i h1
        split at h
        · injection h with h; omega
        · rename_i q part' _
          have h2 := fault_count f _ _ q part' k h
          have h3 := congrArg (List.count 10) (nl_split s h1)
          rw [List.count_append, List.count_cons] at h3
          simp at h3
          simp at h2
          omega
theorem pn_mem {P : List (Int × Bool)} {x : Int × Bool} (h : x ∈ P) : ∃ k, k < P.length ∧ x.1 = pc P k := by
  obtain ⟨k, hk, rfl⟩ := List.getElem_of_mem h
  exact ⟨k, hk, by simp [pc, List.getD_eq_getElem?_getD, hk]⟩
theorem ln_mem {L : List Ln} {x : Ln} (h : x ∈ L) : ∃ k, k < L.length ∧ x = lnAt L k := by
  obtain ⟨k, hk, rfl⟩ := List.getElem_of_mem h
  exact ⟨k, hk, by simp [lnAt, List.getD_eq_getElem?_getD, hk]⟩
theorem valid_fine {p : Pn} {w : World} {a a' : Option Addr} {n c n' c' : Nat} (hP : PRow w a n c p.P) (hL : LRow w a' n' c' p.L) (hv : ValidPl p) : FineP p := by
  have h9 := valid_nums hv
  refine ⟨fun x hx => ?_, fun x hx => ?_, by omega, by omega, by omega, by omega, by omega⟩
  · obtain ⟨k, hk, e⟩ := pn_mem hx
    have h1 := valid_pl hv hk
    have h2 := hP.wf x hx
    omega
  · obtain ⟨k, hk, e⟩ := ln_mem hx
    have h1 := valid_ln hv hk
    have h2 := hL.wf x hx
    rw [← e] at h1
    omega
theorem flat_len {α : Type} {f : α → List UInt8} : ∀ {l : List α}, (∀ x ∈ l, (f x).length ≤ 100) → (l.flatMap f).length ≤ 100 * l.length
  | [], _ => by simp
  | x :: l, h => by
    have h1 := flat_len (l := l) fun y hy => h y (List.mem_cons_of_mem _ hy)
    have h2 := h x (by simp)
    simp only [List.flatMap_cons, List.length_append, List.length_cons]
    omega
theorem text_len {p : Pn} (hv : ValidPl p) : (partText p 4).length ≤ 1000000 := by
  have h1 : (p.P.flatMap plText).length ≤ 100 * p.P.length := flat_len fun x _ => by
    have h := pcL_len x.1.toNat
    unfold plText
    cases x.2 <;> simp only [unw, placeW, transferW, endW, List.length_append, List.length_cons, List.length_nil, if_true, Bool.false_eq_true, if_false] <;> omega
  have h2 : (p.L.flatMap lnText).length ≤ 100 * p.L.length := flat_len fun x _ => by
    have h := pcL_len x.A.toNat
    have h' := pcL_len x.B.toNat
    have h3 := numL_3 x.C.toNat
    have h4 := numL_3 x.D.toNat
    unfold lnText
    simp only [unw, lineW, List.length_append, List.length_cons, List.length_nil]
    omega
  have h3 := hv.np
  have h4 := hv.nl
  have n1 := numL_3 p.rate.toNat
  have n2 := numL_3 p.room.toNat
  have n3 := numL_3 p.m0.toNat
  have n4 := numL_3 p.m1.toNat
  have n5 := numL_3 p.m2.toNat
  unfold partText
  rw [if_pos (by decide), if_pos (by decide), if_pos (by decide)]
  simp only [unw, rateW, roomW, marksW, List.length_append, List.length_cons, List.length_nil]
  omega
/-- An accepted text of a valid plan is the one that is written. -/
theorem read_is {s : List UInt8} {q : Pn} (h : readF s.length s 0 emptyPn 0 = .plan q) (hv : ValidPl q) : partText q 4 = s := by
  have h9 := valid_nums hv
  have h1 := read_text s.length s 0 emptyPn 0 q (Nat.le_refl _) h (fun _ => rfl) ⟨fun x hx => by
    obtain ⟨k, hk, e⟩ := ln_mem hx
    have h2 := valid_ln hv hk
    rw [← e] at h2
    omega, fun _ => by omega, fun _ => by omega, fun _ => by omega⟩
  rw [h1.2]
  simp [partText, emptyPn]
theorem read_back_len {p : Pn} (h : FineP p) : readF (partText p 4).length (partText p 4) 0 emptyPn 0 = .plan p := read_back h (Nat.le_refl _)
end Go.Proofs.YthlckipcgogogaaGreatDoor
/- The reader's numberOf and storePoint. -/
namespace Go.Proofs.YthlckipcgogogaaGreatDoor
set_option linter.unusedVariables false
open Go.RowKit

theorem numV_lt : ∀ l : List UInt8, l.all digitB = true → numV l < 10 ^ l.length
  | [], _ => by simp [numV]
  | c :: l, h => by
    simp only [List.all_cons, Bool.and_eq_true] at h
    have ih := numV_lt l h.2
    obtain ⟨d, hd, rfl⟩ := digit_of h.1
    have hv : (48 + UInt8.ofNat d : UInt8).toNat - 48 = d := by
      have : ∀ i : Fin 10, (48 + UInt8.ofNat i.val : UInt8).toNat - 48 = i.val := by decide
      exact this ⟨d, hd⟩
    rw [numV_cons, hv, List.length_cons, Nat.pow_succ]
    have : d * 10 ^ l.length ≤ 9 * 10 ^ l.length := Nat.mul_le_mul_right _ (by omega)
    omega
theorem numV_6 {l : List UInt8} (h : l.all digitB = true) (hl : l.length ≤ 5) : numV l ≤ 99999 := by
  have h1 := numV_lt l h
  have h2 : 10 ^ l.length ≤ 10 ^ 5 := Nat.pow_le_pow_right (by decide) hl
  omega
/-- The number of a word as Go hands it back. -/
def NumOut (l : List UInt8) : Ending := .returned (.tuple #[.int .i64 (((numO l).getD 0 : Nat) : Int), .bool (numO l).isSome])
theorem numOut_no {l : List UInt8} (h : numS l = false) : NumOut l = .returned (.tuple #[.int .i64 0, .bool false]) := by
  unfold NumOut numO; rw [h]; rfl
theorem numOut_yes {l : List UInt8} (h : numS l = true) : NumOut l = .returned (.tuple #[.int .i64 (numV l : Int), .bool true]) := by
  unfold NumOut numO; rw [h]; rfl
set_option maxHeartbeats 1000000 in
theorem numberOf_any (l : List UInt8) (w : World) (hl : l.length ≤ 9223372036854775806) :
    Calls Tryz.prog 103 #[.string (bs l)] w fun e w' => e = NumOut l ∧ w = w' := by
  have hsz := bs_len l
  have hix := fun i hi w => run_index_bs l i hi w
  obtain ⟨S, hS⟩ : ∃ S, S = bs l := ⟨_, rfl⟩
  obtain ⟨n, hn⟩ : ∃ n, n = l.length := ⟨_, rfl⟩
  rw [← hS] at hix
  rw [← hS, ← hn] at hsz
  rw [← hS]
  rw [← hn] at hix hl
  have HN := Lib.hid hn
  clear hS hn
  by_cases h0 : n = 0
  · have hno : numS l = false := by unfold numS; rw [← HN.out, h0]; rfl
    rw [numOut_no hno]
    clear hix
    subst h0
    go_enter Tryz.func103, Tryz.ntmps103
    go_wp2
    go_ret2
    exact ⟨rfl, rfl⟩
  · have t0 : ((n : Int) == 0) = false := by simp; omega
    by_cases h6 : 6 < n
    · have hno : numS l = false := by
        unfold numS; rw [← HN.out]
        rw [decide_eq_false (show ¬ n ≤ 6 by omega)]; simp
      rw [numOut_no hno]
      have t1 : decide ((6 : Int) < (n : Int)) = true := by simp; omega
      clear hix
      go_enter Tryz.func103, Tryz.ntmps103
      go_wp2
      go_ret2
      exact ⟨rfl, rfl⟩
    · have t1 : decide ((6 : Int) < (n : Int)) = false := by simp; omega
      have g0 := fun w => hix 0 (by omega) w
      obtain ⟨c0, hc0⟩ : ∃ c, c = (((l.getD 0 0).toNat : Nat) : Int) := ⟨_, rfl⟩
      rw [← hc0] at g0
      simp only [show ((0 : Nat) : Int) = 0 from rfl] at g0
      by_cases hz : 1 < n ∧ c0 = 48
      · obtain ⟨hz1, rfl⟩ := hz
        have t2 : decide ((1 : Int) < (n : Int)) = true := by simp; omega
        have hno : numS l = false := by
          unfold numS; rw [← HN.out]
          have : l.getD 0 0 = 48 := UInt8.toNat_inj.1 (by rw [show (48 : UInt8).toNat = 48 from rfl]; omega)
          rw [this, show (n == 1) = false by simp; omega]
          simp
        rw [numOut_no hno]
        clear hix hc0
        go_enter Tryz.func103, Tryz.ntmps103
        go_wp2
        go_ret2
        exact ⟨rfl, rfl⟩
      · have hsh : (n == 1 || l.getD 0 0 != 48) = true := by
          by_cases h1 : n = 1
          · simp [h1]
          · have : l.getD 0 0 ≠ 48 := by
              intro e
              apply hz
              refine ⟨by omega, ?_⟩
              rw [hc0, e]; rfl
            simp only [Bool.or_eq_true, bne_iff_ne, ne_eq]
            exact .inr this
        have hns : numS l = l.all digitB := by
          unfold numS
          rw [← HN.out, hsh, decide_eq_true (show 1 ≤ n by omega), decide_eq_true (show n ≤ 6 by omega)]
          simp
        have t2 : decide ((1 : Int) < (n : Int)) = false ∨ (decide ((1 : Int) < (n : Int)) = true ∧ (c0 == 48) = false) := by
          by_cases h1 : 1 < n
          · right
            refine ⟨by simp; omega, ?_⟩
            simp only [beq_eq_false_iff_ne, ne_eq]
            exact fun e => hz ⟨h1, e⟩
          · left; simp; omega
        have HX := Lib.hid hix
        have HNs := Lib.hid hns
        clear hix hns hz hc0 hsh
        rcases t2 with t2 | ⟨t2, t3⟩
        · go_enter Tryz.func103, Tryz.ntmps103
          go_wp2
          clear g0 t0 t1 t2
          go_loop [4, 26] (fun v i => ∃ k : Nat, k ≤ n ∧ i = .int .i64 (k : Int) ∧ v = .int .i64 ((numV (l.take k) : Nat) : Int) ∧ (l.take k).all digitB = true) (fun _ i => n - (intOf i).toNat)
          case atStart => exact ⟨0, Nat.zero_le _, rfl, rfl, rfl⟩
          case round =>
            obtain ⟨k, hk, rfl, rfl, hd⟩ := hrel
            by_cases hlt : k < n
            · obtain ⟨c, hc⟩ : ∃ c : Int, c = (((l.getD k 0).toNat : Nat) : Int) := ⟨_, rfl⟩
              have g := fun w => HX.out k hlt w
              rw [← hc] at g
              have hv := numV_6 hd (by rw [List.length_take]; omega)
              obtain ⟨N, hN⟩ : ∃ N, N = numV (l.take k) := ⟨_, rfl⟩
              rw [← hN] at hv ⊢
              have hcr : 0 ≤ c ∧ c ≤ 255 := by rw [hc]; exact u8_range _
              by_cases h48 : c < 48
              · have HF : Hid (numS l = false) := Lib.hid (by
                  have hb : digitB (l.getD k 0) = false := by
                    cases hq : digitB (l.getD k 0) with
                    | false => rfl
                    | true => exact absurd ((digitB_iff _).1 hq).1 (by omega)
                  rw [HNs.out]; exact all_take_false (by rw [← HN.out]; exact hlt) hb)
                clear hc hd hN hv hcr
                go_wp2
                go_ret2
                exact ⟨(numOut_no HF.out).symm, rfl⟩
              · have h48' : ¬ c < 48 := h48
                by_cases h57 : 57 < c
                · have HF : Hid (numS l = false) := Lib.hid (by
                    have hb : digitB (l.getD k 0) = false := by
                      cases hq : digitB (l.getD k 0) with
                      | false => rfl
                      | true => exact absurd ((digitB_iff _).1 hq).2 (by omega)
                    rw [HNs.out]; exact all_take_false (by rw [← HN.out]; exact hlt) hb)
                  clear hc hd hN hv hcr
                  go_wp2
                  go_ret2
                  exact ⟨(numOut_no HF.out).symm, rfl⟩
                · have e1 : 0 ≤ c - 48 := by omega
                  have e2 : c - 48 ≤ 9 := by omega
                  have HD : Hid ((l.take (k + 1)).all digitB = true ∧ ((numV (l.take (k + 1)) : Nat) : Int) = 10 * (N : Int) + (c - 48)) := Lib.hid (by
                    have hb : digitB (l.getD k 0) = true := (digitB_iff _).2 (by omega)
                    rw [take_snoc l k (by rw [← HN.out]; exact hlt), numV_snoc, ← hN]
                    exact ⟨by rw [List.all_append, hd, List.all_cons, hb]; rfl, by omega⟩)
                  have h57' : ¬ 57 < c := h57
                  clear hc hd hN
                  go_wp2
                  refine ⟨⟨k + 1, by omega, by go_num, ?_, HD.out.1⟩, by simp [intOf]; omega⟩
                  rw [HD.out.2]
            · obtain rfl : k = n := by omega
              have HF : Hid (NumOut l = .returned (.tuple #[.int .i64 ((numV (l.take k) : Nat) : Int), .bool true])) := Lib.hid (by
                rw [List.take_of_length_le (by rw [HN.out]; exact Nat.le_refl _)] at hd ⊢
                exact numOut_yes (by rw [HNs.out]; exact hd))
              clear hd
              go_wp2
              go_ret2
              exact ⟨HF.out.symm, rfl⟩
        · go_enter Tryz.func103, Tryz.ntmps103
          go_wp2
          clear g0 t0 t1 t2 t3
          go_loop [4, 26] (fun v i => ∃ k : Nat, k ≤ n ∧ i = .int .i64 (k : Int) ∧ v = .int .i64 ((numV (l.take k) : Nat) : Int) ∧ (l.take k).all digitB = true) (fun _ i => n - (intOf i).toNat)
          case atStart => exact ⟨0, Nat.zero_le _, rfl, rfl, rfl⟩
          case round =>
            obtain ⟨k, hk, rfl, rfl, hd⟩ := hrel
            by_cases hlt : k < n
            · obtain ⟨c, hc⟩ : ∃ c : Int, c = (((l.getD k 0).toNat : Nat) : Int) := ⟨_, rfl⟩
              have g := fun w => HX.out k hlt w
              rw [← hc] at g
              have hv := numV_6 hd (by rw [List.length_take]; omega)
              obtain ⟨N, hN⟩ : ∃ N, N = numV (l.take k) := ⟨_, rfl⟩
              rw [← hN] at hv ⊢
              have hcr : 0 ≤ c ∧ c ≤ 255 := by rw [hc]; exact u8_range _
              by_cases h48 : c < 48
              · have HF : Hid (numS l = false) := Lib.hid (by
                  have hb : digitB (l.getD k 0) = false := by
                    cases hq : digitB (l.getD k 0) with
                    | false => rfl
                    | true => exact absurd ((digitB_iff _).1 hq).1 (by omega)
                  rw [HNs.out]; exact all_take_false (by rw [← HN.out]; exact hlt) hb)
                clear hc hd hN hv hcr
                go_wp2
                go_ret2
                exact ⟨(numOut_no HF.out).symm, rfl⟩
              · have h48' : ¬ c < 48 := h48
                by_cases h57 : 57 < c
                · have HF : Hid (numS l = false) := Lib.hid (by
                    have hb : digitB (l.getD k 0) = false := by
                      cases hq : digitB (l.getD k 0) with
                      | false => rfl
                      | true => exact absurd ((digitB_iff _).1 hq).2 (by omega)
                    rw [HNs.out]; exact all_take_false (by rw [← HN.out]; exact hlt) hb)
                  clear hc hd hN hv hcr
                  go_wp2
                  go_ret2
                  exact ⟨(numOut_no HF.out).symm, rfl⟩
                · have e1 : 0 ≤ c - 48 := by omega
                  have e2 : c - 48 ≤ 9 := by omega
                  have HD : Hid ((l.take (k + 1)).all digitB = true ∧ ((numV (l.take (k + 1)) : Nat) : Int) = 10 * (N : Int) + (c - 48)) := Lib.hid (by
                    have hb : digitB (l.getD k 0) = true := (digitB_iff _).2 (by omega)
                    rw [take_snoc l k (by rw [← HN.out]; exact hlt), numV_snoc, ← hN]
                    exact ⟨by rw [List.all_append, hd, List.all_cons, hb]; rfl, by omega⟩)
                  have h57' : ¬ 57 < c := h57
                  clear hc hd hN
                  go_wp2
                  refine ⟨⟨k + 1, by omega, by go_num, ?_, HD.out.1⟩, by simp [intOf]; omega⟩
                  rw [HD.out.2]
            · obtain rfl : k = n := by omega
              have HF : Hid (NumOut l = .returned (.tuple #[.int .i64 ((numV (l.take k) : Nat) : Int), .bool true])) := Lib.hid (by
                rw [List.take_of_length_le (by rw [HN.out]; exact Nat.le_refl _)] at hd ⊢
                exact numOut_yes (by rw [HNs.out]; exact hd))
              clear hd
              go_wp2
              go_ret2
              exact ⟨HF.out.symm, rfl⟩
end Go.Proofs.YthlckipcgogogaaGreatDoor
