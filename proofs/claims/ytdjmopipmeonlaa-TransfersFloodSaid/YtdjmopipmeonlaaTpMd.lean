/- Joined: PcStable TeBase TpMd. -/
import Derived.Test.YtdjmopipmeonlaaPcMerge
import Derived.Test.YtdjmopipmeonlaaPcSmall
import Derived.Test.YtdjmopipmeonlaaTeErr
/- The library's stable sort of many, weakly: the row holds as many places afterwards. -/
namespace Go.Proofs.Ytdjmopipmeonlaa
set_option linter.unusedVariables false
open Go.RowKit Go.Sort Go.Lib

set_option maxRecDepth 20000 in
set_option maxHeartbeats 4000000 in
theorem stable_many (l : List Int) (n : Nat) [Inhabited (Fin n)] (bx g blk cap : Nat) (d : Array (Fin n)) (w : World) (hl : l.length = n) (hb : w.cell? ⟨bx, 0, none⟩ = some (.slice (some ⟨g, 0, none⟩) n n)) (ho : Own w g 3 (nums .i64 l)) (h1 : bx ≠ blk) (h2 : g ≠ blk)
    (hH : Holds (encF (n := n)) w blk 0 d) (hblk : blk < w.heap.size) (hd : d.size ≤ 64) :
    Calls Try.prog 77 #[.slice (some ⟨blk, 0, none⟩) d.size cap, .int .i64 (d.size : Int), .func (.func 64) #[] #[.pointer (some ⟨bx, 0, none⟩)]] w (StOut (fun _ => True) w blk d) := by
  have eg : ∀ args w, (callFunc 64 args).run Try.prog w = .ok (.enter 64 args) w := enters_of Try.func64 (by kernel_rfl) rfl
  have R : Row1 (encF (n := n)) w blk 0 d := ⟨fun _ => rfl, hH, hblk⟩
  have hins : ∀ (W : World), Keep (n := n) w blk d.size W → ∀ a b : Nat, a ≤ b → b ≤ d.size → Calls Try.prog 92 #[.slice (some ⟨blk, 0, none⟩) d.size cap, .int .i64 a, .int .i64 b, .func (.func 64) #[] #[.pointer (some ⟨bx, 0, none⟩)]] W fun e w' => e = .returned (.tuple #[]) ∧ Keep (n := n) w blk d.size w' := by
    intro W hk a b hab hbd
    obtain ⟨dk, hs, S⟩ := hk
    have h := Any.insertionSortCmpFunc_s layInsert (encF (n := n)) (cfL l n) 64 #[.pointer (some ⟨bx, 0, none⟩)] blk 0 cap a b d dk w W eg (lays_any l n bx g blk d.size w hl hb ho h1 h2) R hs.symm S hab (by rw [hs]; exact hbd) (by omega)
    rw [hs] at h
    exact h.mono fun e w' ⟨he, hsw⟩ => ⟨he, _, by rw [ltOf_cf, (insertionSort_holds (lt := ltF (fun x : Fin n => l.getD x.val 0)) (ltF_swo _) dk a b hab (by rw [hs]; exact hbd)).1.1]; exact hs, hsw⟩
  have hmer : ∀ (W : World), Keep (n := n) w blk d.size W → ∀ a m b : Nat, a < m → m < b → b ≤ d.size → Calls Try.prog 93 #[.slice (some ⟨blk, 0, none⟩) d.size cap, .int .i64 a, .int .i64 m, .int .i64 b, .func (.func 64) #[] #[.pointer (some ⟨bx, 0, none⟩)]] W fun e w' => e = .returned (.tuple #[]) ∧ Keep (n := n) w blk d.size w' := fun W hk a m b h3 h4 h5 =>
    symMerge_any l bx blk cap d w R (cmpOk_any l bx g blk d.size w hl hb ho h1 h2) hd (b - a) a m b W hk (Nat.le_refl _) h3 h4 h5
  have hk0 : Keep (n := n) w blk d.size w := ⟨d, rfl, SW.start hH⟩
  have hOut : ∀ e w', e = .returned (.tuple #[]) → Keep (n := n) w blk d.size w' → StOut (fun _ => True) w blk d e w' := fun e w' he ⟨dk, hs, S⟩ => ⟨he, dk, hs, trivial, S⟩
  obtain ⟨N, hN⟩ : ∃ N, N = d.size := ⟨_, rfl⟩
  rw [← hN] at hins hmer hk0 hd hOut ⊢
  have HI := Lib.hid hins
  have HM := Lib.hid hmer
  have HK0 := Lib.hid hk0
  have HO := Lib.hid hOut
  clear hins hmer hk0 hOut R eg hb ho hH hl h1 h2 hblk hN
  go_enter Try.func77, Try.ntmps77
  go_wp2_with fail
  go_loopw [7, 8] (fun sa sb wr => ∃ a : Nat, a ≤ N ∧ sa = .int .i64 a ∧ sb = .int .i64 (a + 20 : Nat) ∧ Keep (n := n) w blk N wr) (fun _ sb _ => N + 20 - (intOf sb).toNat)
  case atStart => exact ⟨0, Nat.zero_le _, rfl, rfl, HK0.out⟩
  case round =>
    obtain ⟨a, ha, rfl, rfl, hkp⟩ := hrel
    have HK := Lib.hid hkp
    clear hkp
    obtain ⟨b, hb⟩ : ∃ b, b = a + 20 := ⟨_, rfl⟩
    rw [← hb]
    have hb2 : b ≤ 84 := by omega
    by_cases hle : b ≤ N
    · have k1 : (b : Int) ≤ (N : Int) := by omega
      have HB := Lib.hid hb
      have hab : a ≤ b := by omega
      clear hb
      go_wp2_with fail
      with_reducible refine (HI.out _ HK.out a b hab hle).mono ?_
      rintro e w1 ⟨rfl, hk1⟩
      have HK1 := Lib.hid hk1
      clear hk1
      go_wp2_with fail
      exact ⟨⟨b, hle, rfl, by go_num, HK1.out⟩, by have := HB.out; simp [intOf]; omega⟩
    · have k1 : ¬ (b : Int) ≤ (N : Int) := by omega
      clear hb
      go_wp2_with fail
      with_reducible refine (HI.out _ HK.out a N ha (Nat.le_refl _)).mono ?_
      rintro e w1 ⟨rfl, hk1⟩
      have HK1 := Lib.hid hk1
      clear hk1
      go_wp2_with fail
      go_loopw [6] (fun sv wr => ∃ s : Nat, 0 < s ∧ s ≤ 200 ∧ sv = .int .i64 s ∧ Keep (n := n) w blk N wr) (fun sv _ => N - (intOf sv).toNat)
      case atStart => exact ⟨20, by omega, by omega, rfl, HK1.out⟩
      case round =>
        obtain ⟨s, hs0, hs2, rfl, hkp⟩ := hrel
        have HKs := Lib.hid hkp
        clear hkp
        by_cases hsN : s < N
        · have i1 : (s : Int) < (N : Int) := by omega
          obtain ⟨w5, hw5⟩ : ∃ x, x = wr := ⟨_, rfl⟩
          subst hw5
          obtain ⟨s2, hs9⟩ : ∃ s2, s2 = 2 * s := ⟨_, rfl⟩
          have e2 : 2 * (s : Int) = (s2 : Int) := by omega
          have e3 : (s : Int) * 2 = (s2 : Int) := by omega
          have hs8 : s < s2 ∧ s2 ≤ 400 := by omega
          have HS2 := Lib.hid hs9
          clear hs9
          go_wp2_with fail
          go_loopw [7, 8] (fun sa sb wr => ∃ a : Nat, a ≤ N ∧ sa = .int .i64 a ∧ sb = .int .i64 (a + s2 : Nat) ∧ Keep (n := n) w blk N wr) (fun _ sb _ => N + s2 - (intOf sb).toNat)
          case atStart => exact ⟨0, Nat.zero_le _, rfl, by rw [Nat.zero_add], HKs.out⟩
          case round =>
            obtain ⟨a, ha, rfl, rfl, hkp⟩ := hrel
            have HKt := Lib.hid hkp
            clear hkp
            obtain ⟨b, hb⟩ : ∃ b, b = a + s2 := ⟨_, rfl⟩
            rw [← hb]
            have hb2 : b ≤ 500 := by omega
            obtain ⟨m, hm⟩ : ∃ m, m = a + s := ⟨_, rfl⟩
            have e4 : (a : Int) + (s : Int) = (m : Int) := by omega
            have ham : a < m := by omega
            have hmb : m < b := by omega
            by_cases hle : b ≤ N
            · have k1 : (b : Int) ≤ (N : Int) := by omega
              have HB := Lib.hid hb
              clear hb hm
              go_wp2_with fail
              with_reducible refine (HM.out _ HKt.out a m b ham hmb hle).mono ?_
              rintro e w2 ⟨rfl, hk2⟩
              have HK2 := Lib.hid hk2
              clear hk2
              go_wp2_with fail
              exact ⟨⟨b, hle, rfl, by go_num, HK2.out⟩, by have := HB.out; simp [intOf]; omega⟩
            · have k1 : ¬ (b : Int) ≤ (N : Int) := by omega
              clear hb hm
              by_cases hmN : m < N
              · have k2 : (m : Int) < (N : Int) := by omega
                go_wp2_with fail
                with_reducible refine (HM.out _ HKt.out a m N ham hmN (Nat.le_refl _)).mono ?_
                rintro e w2 ⟨rfl, hk2⟩
                have HK2 := Lib.hid hk2
                clear hk2
                go_wp2_with fail
                exact ⟨⟨s2, by omega, by have := HS2.out; omega, rfl, HK2.out⟩, by simp [intOf]; omega⟩
              · have k2 : ¬ (m : Int) < (N : Int) := by omega
                go_wp2_with fail
                exact ⟨⟨s2, by omega, by have := HS2.out; omega, rfl, HKt.out⟩, by simp [intOf]; omega⟩
        · have i1 : ¬ (s : Int) < (N : Int) := by omega
          go_wp2
          go_end0
          exact HO.out _ _ rfl HKs.out
theorem wayF_size_le (n : Nat) [Inhabited (Fin n)] (l : List Int) : (wayF n l).size ≤ n := by
  have h := congrArg List.length (wayF_map n l)
  rw [List.length_map, Array.length_toList] at h
  rw [h]
  unfold wayL
  have := List.length_filter_le (fun i => decide (l.getD i 0 ≠ -1)) (List.range n)
  rwa [List.length_range] at this
/-- Whatever the number of places: heights without their order. -/
theorem stAll_many (p : Pn) (t : Int) (hn : p.P.length ≤ 64) : StAll p t (fun _ _ => True) := by
  intro _ l g hok bx blk cap W hb ho h1 h2 hH hblk _
  exact stable_many l p.P.length bx g blk cap (wayF p.P.length l) W hok.len hb ho h1 h2 hH hblk (Nat.le_trans (wayF_size_le _ _) hn)
/-- What the functions that need heights return for any valid plan: that there is no error. -/
def HtOk (w : World) (e : Ending) (w' : World) : Prop := ∃ a n, e = .returned (.tuple #[.slice a n n, .int .i64 0]) ∧ Below w.heap.size w w'
def HoOk (w : World) (e : Ending) (w' : World) : Prop := ∃ X E : Int, e = .returned (.tuple #[.int .i64 X, .int .i64 E]) ∧ (E = 0 ∨ E = 11) ∧ Below w.heap.size w w'
/-- What Choices returns for any valid plan: neighbors of the place, in memory of the call's own. -/
def ChA (p : Pn) (t : Int) (w : World) (e : Ending) (w' : World) : Prop := ∃ a X, e = .returned (.tuple #[.slice a X.length X.length, .int .i64 0]) ∧ X.length ≤ 1024 ∧ (∀ c ∈ X, c.1 ∈ nbrs p t) ∧ CRow w' a X.length X.length X ∧ Below w.heap.size w w' ∧ ∀ z, a = some z → w.heap.size ≤ z.block
theorem candL_mem {P : List (Int × Bool)} {u : Int} {l h : List Int} {own : Nat} {C : List Int} {x : Int × Int} (hx : x ∈ candL P u l h own C) : x.1 ∈ C := by
  unfold candL at hx
  obtain ⟨c, hc, e⟩ := List.mem_filterMap.1 hx
  unfold candO at e
  split at e
  · split at e
    · simp only [Option.some.injEq] at e; rw [← e]; exact hc
    · cases e
  · cases e
theorem choices_all (p : Pn) (a : Option Addr) (n c : Nat) (a' : Option Addr) (n' c' : Nat) (t u : Int) (w : World) (hP : PRow w a n c p.P) (hL : LRow w a' n' c' p.L) (hE : chkPts p [t, u] = 0) (htu : t ≠ u) (i s : Nat) (hi : fnd p.P t = some i) (hs : fnd p.P u = some s) (hv : ValidPl p) :
    Calls Try.prog 32 #[planV a n c a' n' c' p, .int .u16 t, .int .u16 u] w (ChA p t w) := by
  refine (choices_ok p a n c a' n' c' t u w hP hL hE htu i s hi hs hv _ (stAll_many p u hv.np)).mono fun e w' h => ?_
  obtain ⟨l, o, a2, X, _, _, _, hp, _, he, hcr, hb, hfr⟩ := h
  refine ⟨a2, X, he, ?_, fun c hc => candL_mem (hp.mem_iff.1 hc), hcr, hb, hfr⟩
  have h1 := hp.length_eq
  have h2 := candL_le p.P u l (putPos l o o.length) i (nbrs p t)
  have h3 := nbrs_none p t
  have h4 := hv.nl
  omega
end Go.Proofs.Ytdjmopipmeonlaa
/- TransfersErrors: what its walks share. -/
namespace Go.Proofs.Ytdjmopipmeonlaa
set_option linter.unusedVariables false
open Go.RowKit Go.Maps

/-- A new table, with its choices. -/
def nT (p : Pn) (t : Int) (i : Nat) (C : Int → List (Int × Int)) : Tb := ⟨t, pt p.P i, nbrs p t, destsP p.P t, C, fun _ => true, fun _ _ => 0, fun _ _ => 0⟩
theorem TbAt.nT {w : World} {y : Tl} {T : Tb} {p : Pn} {t : Int} {i : Nat} {Good : Int → List (Int × Int) → Prop} (h : TbAt w y T) (hn : IsNew p t i Good T) : TbAt w y (Go.Proofs.Ytdjmopipmeonlaa.nT p t i T.C) := by
  obtain ⟨me, tr, N, D, C', up, told, said⟩ := T
  obtain ⟨h1, h2, h3, h4, h5, h6, h7, h8⟩ := hn
  dsimp only at h1 h2 h3 h4 h5 h6 h7 h8
  subst h1 h2 h3 h4 h6 h7 h8
  exact h
theorem code_fnd {p : Pn} (hv : ValidPl p) {u : Int} (hu : u ∈ codesP p.P) : ∃ s, fnd p.P u = some s := by
  obtain ⟨k, hk, e⟩ := List.getElem_of_mem hu
  have hk' : k < p.P.length := by rw [codesP_length] at hk; exact hk
  refine ⟨k, ?_⟩
  have e2 : pc p.P k = u := by rw [← codesP_getD, List.getD_eq_getElem?_getD, List.getElem?_eq_getElem hk]; exact e
  rw [← e2]
  exact hv.asc.fnd hk'
theorem fnd_code {p : Pn} {u : Int} {s : Nat} (h : fnd p.P u = some s) : u ∈ codesP p.P := by
  obtain ⟨h1, h2, _⟩ := fnd_some_iff.1 h
  rw [← h2, ← codesP_getD]
  exact mem_getD (by rw [codesP_length]; exact h1)
theorem two_ok {p : Pn} (hv : ValidPl p) {t u : Int} {i s : Nat} (hi : fnd p.P t = some i) (hs : fnd p.P u = some s) : chkPts p [t, u] = 0 :=
  chkPts_ok.2 ⟨hv, by simp [badI, (idN_some hi).2, (idN_some hs).2]⟩
theorem one_ok {p : Pn} (hv : ValidPl p) {t : Int} {i : Nat} (hi : fnd p.P t = some i) : chkPts p [t] = 0 :=
  chkPts_ok.2 ⟨hv, by simp [badI, (idN_some hi).2]⟩
theorem stsMe {b : Nat} {u t : Int} {w : World} {Q : Ending → World → Prop} (e : u = t) (h : Calls Try.prog 15 #[.pointer (some ⟨b, 0, none⟩), .int .u16 u] w Q) : Calls Try.prog 15 #[.pointer (some ⟨b, 0, none⟩), .int .u16 t] w Q := by rw [← e]; exact h
theorem stMe {b : Nat} {u t : Int} {w : World} {Q : Ending → World → Prop} (e : u = t) (h : Calls Try.prog 13 #[.pointer (some ⟨b, 0, none⟩), .int .u16 u] w Q) : Calls Try.prog 13 #[.pointer (some ⟨b, 0, none⟩), .int .u16 t] w Q := by rw [← e]; exact h
def AnyGood (_ : Int) (X : List (Int × Int)) : Prop := X.length ≤ 1024 ∧ ∀ c ∈ X, (Lit.int .u16 c.1).wf = true
theorem choices_good (p : Pn) (a : Option Addr) (n c : Nat) (a' : Option Addr) (n' c' : Nat) (t u : Int) (w : World) (hP : PRow w a n c p.P) (hL : LRow w a' n' c' p.L) (i : Nat) (hi : fnd p.P t = some i) (hu : u ∈ codesP p.P) (hne : u ≠ t) (hv : ValidPl p) :
    Calls Try.prog 32 #[planV a n c a' n' c' p, .int .u16 t, .int .u16 u] w (ChOut AnyGood u w) := by
  obtain ⟨s, hs⟩ := code_fnd hv hu
  refine (choices_all p a n c a' n' c' t u w hP hL (two_ok hv hi hs) (Ne.symm hne) i s hi hs hv).mono fun e w' h => ?_
  obtain ⟨a2, X, he, hl, hn, hcr, hb, hfr⟩ := h
  refine ⟨a2, X, he, ⟨hl, fun c hc => ?_⟩, hcr, hb, hfr⟩
  obtain ⟨k, hk, e, _⟩ := nbrs_place hv (hn c hc)
  rw [← e]
  exact wf16.2 (hP.wf (p.P.getD k (0, false)) (mem_getD hk))
end Go.Proofs.Ytdjmopipmeonlaa
/- The statements' own model of a table, in memory: it holds what the table knows, by the places' numbers. -/
namespace Go.Proofs.Ytdjmopipmeonlaa
set_option linter.unusedVariables false
open Go.RowKit Go.Maps

/-- What the model holds at its j-th cell. -/
structure Md where
  up : Nat → Bool
  near : Nat → Bool
  told : Nat → Nat → Int
  said : Nat → Nat → Int
def mdG (pl : List Value) (at' : Nat) (M : Md) (i : Nat) : Value :=
  if i < 7 then pl.getD i undef else if i = 7 then .int .i64 at' else if i < 14 then .bool (M.up (i - 8)) else if i < 20 then .bool (M.near (i - 14)) else if i < 56 then .int .u8 (M.told ((i - 20) / 6) ((i - 20) % 6)) else .int .u8 (M.said ((i - 56) / 6) ((i - 56) % 6))
def MdAt (w : World) (mb : Nat) (pl : List Value) (at' : Nat) (M : Md) : Prop := Own w mb 108 ((List.range 92).map (mdG pl at' M))
theorem MdAt.cell {w : World} {mb : Nat} {pl : List Value} {at' : Nat} {M : Md} (h : MdAt w mb pl at' M) (i : Nat) (hi : i < 92) : w.cell? ⟨mb, i, none⟩ = some (mdG pl at' M i) := by
  rw [Own.cell h i (by simpa using hi), List.getD_eq_getElem?_getD, List.getElem?_map, List.getElem?_range hi]; rfl
theorem MdAt.frozen {w : World} {mb : Nat} {pl : List Value} {at' : Nat} {M : Md} (h : MdAt w mb pl at' M) (i : Nat) : w.frozen? ⟨mb, i, none⟩ = false := Own.frozen h i
theorem MdAt.cUp {w : World} {mb : Nat} {pl : List Value} {at' : Nat} {M : Md} (h : MdAt w mb pl at' M) {i : Nat} (hi : i < 6) : w.cell? ⟨mb, 8 + i, none⟩ = some (.bool (M.up i)) := by
  rw [h.cell _ (by omega)]; unfold mdG
  rw [if_neg (by omega), if_neg (by omega), if_pos (by omega), Nat.add_sub_cancel_left]
theorem MdAt.cNear {w : World} {mb : Nat} {pl : List Value} {at' : Nat} {M : Md} (h : MdAt w mb pl at' M) {i : Nat} (hi : i < 6) : w.cell? ⟨mb, 14 + i, none⟩ = some (.bool (M.near i)) := by
  rw [h.cell _ (by omega)]; unfold mdG
  rw [if_neg (by omega), if_neg (by omega), if_neg (by omega), if_pos (by omega), Nat.add_sub_cancel_left]
theorem MdAt.cTold {w : World} {mb : Nat} {pl : List Value} {at' : Nat} {M : Md} (h : MdAt w mb pl at' M) {i j : Nat} (hi : i < 6) (hj : j < 6) : w.cell? ⟨mb, 20 + i * 6 + j, none⟩ = some (.int .u8 (M.told i j)) := by
  rw [h.cell _ (by omega)]; unfold mdG
  rw [if_neg (by omega), if_neg (by omega), if_neg (by omega), if_neg (by omega), if_pos (by omega), show 20 + i * 6 + j - 20 = i * 6 + j by omega, show (i * 6 + j) / 6 = i by omega, show (i * 6 + j) % 6 = j by omega]
theorem MdAt.cSaid {w : World} {mb : Nat} {pl : List Value} {at' : Nat} {M : Md} (h : MdAt w mb pl at' M) {i j : Nat} (hi : i < 6) (hj : j < 6) : w.cell? ⟨mb, 56 + i * 6 + j, none⟩ = some (.int .u8 (M.said i j)) := by
  rw [h.cell _ (by omega)]; unfold mdG
  rw [if_neg (by omega), if_neg (by omega), if_neg (by omega), if_neg (by omega), if_neg (by omega), show 56 + i * 6 + j - 56 = i * 6 + j by omega, show (i * 6 + j) / 6 = i by omega, show (i * 6 + j) % 6 = j by omega]
theorem MdAt.cAt {w : World} {mb : Nat} {pl : List Value} {at' : Nat} {M : Md} (h : MdAt w mb pl at' M) : w.cell? ⟨mb, 7, none⟩ = some (.int .i64 at') := by
  rw [h.cell 7 (by omega)]; rfl
theorem MdAt.cPl {w : World} {mb : Nat} {pl : List Value} {at' : Nat} {M : Md} (h : MdAt w mb pl at' M) {i : Nat} (hi : i < 7) : w.cell? ⟨mb, i, none⟩ = some (pl.getD i undef) := by
  rw [h.cell i (by omega)]; unfold mdG; rw [if_pos hi]
theorem set_map (g g' : Nat → Value) (k : Nat) (v : Value) (m : Nat) (h1 : g' k = v) (h2 : ∀ i, i < m → i ≠ k → g' i = g i) : ((List.range m).map g).set k v = (List.range m).map g' := by
  refine List.ext_getElem? fun i => ?_
  by_cases hi : i < m
  · by_cases e : k = i
    · subst e
      rw [List.getElem?_set_self (by simpa using hi), List.getElem?_map, List.getElem?_range hi]; simp [h1]
    · rw [List.getElem?_set_ne e, List.getElem?_map, List.getElem?_map, List.getElem?_range hi]
      simp [h2 i hi (fun h => e h.symm)]
  · rw [List.getElem?_eq_none (by simp; omega), List.getElem?_eq_none (by simp; omega)]
def updU (f : Nat → Bool) (a : Nat) (b : Bool) : Nat → Bool := fun i => if i = a then b else f i
def updT (f : Nat → Nat → Int) (a c : Nat) (v : Int) : Nat → Nat → Int := fun i j => if i = a ∧ j = c then v else f i j
theorem MdAt.sUp {w : World} {mb : Nat} {pl : List Value} {at' : Nat} {M : Md} (h : MdAt w mb pl at' M) {a : Nat} (ha : a < 6) (b : Bool) : MdAt (w.setCell ⟨mb, 8 + a, none⟩ (.bool b)) mb pl at' { M with up := updU M.up a b } := by
  have h2 := Own.set h (8 + a) (.bool b)
  rw [set_map _ (mdG pl at' { M with up := updU M.up a b }) _ _ 92 ?_ ?_] at h2
  · exact h2
  · unfold mdG
    rw [if_neg (by omega), if_neg (by omega), if_pos (by omega), Nat.add_sub_cancel_left]
    exact congrArg Value.bool (if_pos rfl)
  · intro i hi hne
    unfold mdG
    split
    · rfl
    · split
      · rfl
      · split
        · have : updU M.up a b (i - 8) = M.up (i - 8) := if_neg (by omega)
          simp only [this]
        · rfl
theorem MdAt.sNear {w : World} {mb : Nat} {pl : List Value} {at' : Nat} {M : Md} (h : MdAt w mb pl at' M) {a : Nat} (ha : a < 6) (b : Bool) : MdAt (w.setCell ⟨mb, 14 + a, none⟩ (.bool b)) mb pl at' { M with near := updU M.near a b } := by
  have h2 := Own.set h (14 + a) (.bool b)
  rw [set_map _ (mdG pl at' { M with near := updU M.near a b }) _ _ 92 ?_ ?_] at h2
  · exact h2
  · unfold mdG
    rw [if_neg (by omega), if_neg (by omega), if_neg (by omega), if_pos (by omega), Nat.add_sub_cancel_left]
    exact congrArg Value.bool (if_pos rfl)
  · intro i hi hne
    unfold mdG
    split
    · rfl
    · split
      · rfl
      · split
        · rfl
        · split
          · have : updU M.near a b (i - 14) = M.near (i - 14) := if_neg (by omega)
            simp only [this]
          · rfl
theorem MdAt.sTold {w : World} {mb : Nat} {pl : List Value} {at' : Nat} {M : Md} (h : MdAt w mb pl at' M) {a c : Nat} (ha : a < 6) (hc : c < 6) (v : Int) : MdAt (w.setCell ⟨mb, 20 + a * 6 + c, none⟩ (.int .u8 v)) mb pl at' { M with told := updT M.told a c v } := by
  have h2 := Own.set h (20 + a * 6 + c) (.int .u8 v)
  rw [set_map _ (mdG pl at' { M with told := updT M.told a c v }) _ _ 92 ?_ ?_] at h2
  · exact h2
  · unfold mdG
    rw [if_neg (by omega), if_neg (by omega), if_neg (by omega), if_neg (by omega), if_pos (by omega), show 20 + a * 6 + c - 20 = a * 6 + c by omega, show (a * 6 + c) / 6 = a by omega, show (a * 6 + c) % 6 = c by omega]
    exact congrArg (Value.int .u8) (if_pos ⟨rfl, rfl⟩)
  · intro i hi hne
    unfold mdG
    split
    · rfl
    · split
      · rfl
      · split
        · rfl
        · split
          · rfl
          · split
            · have : updT M.told a c v ((i - 20) / 6) ((i - 20) % 6) = M.told ((i - 20) / 6) ((i - 20) % 6) := if_neg (by omega)
              simp only [this]
            · rfl
theorem MdAt.sSaid {w : World} {mb : Nat} {pl : List Value} {at' : Nat} {M : Md} (h : MdAt w mb pl at' M) {a c : Nat} (ha : a < 6) (hc : c < 6) (v : Int) : MdAt (w.setCell ⟨mb, 56 + a * 6 + c, none⟩ (.int .u8 v)) mb pl at' { M with said := updT M.said a c v } := by
  have h2 := Own.set h (56 + a * 6 + c) (.int .u8 v)
  rw [set_map _ (mdG pl at' { M with said := updT M.said a c v }) _ _ 92 ?_ ?_] at h2
  · exact h2
  · unfold mdG
    rw [if_neg (by omega), if_neg (by omega), if_neg (by omega), if_neg (by omega), if_neg (by omega), show 56 + a * 6 + c - 56 = a * 6 + c by omega, show (a * 6 + c) / 6 = a by omega, show (a * 6 + c) % 6 = c by omega]
    exact congrArg (Value.int .u8) (if_pos ⟨rfl, rfl⟩)
  · intro i hi hne
    unfold mdG
    split
    · rfl
    · split
      · rfl
      · split
        · rfl
        · split
          · rfl
          · split
            · rfl
            · have : updT M.said a c v ((i - 56) / 6) ((i - 56) % 6) = M.said ((i - 56) / 6) ((i - 56) % 6) := if_neg (by omega)
              simp only [this]
theorem MdAt.exc {S : Nat → Prop} {w w' : World} {mb : Nat} {pl : List Value} {at' : Nat} {M : Md} (h : MdAt w mb pl at' M) (hx : Exc S w w') (hn : ¬ S mb) : MdAt w' mb pl at' M := own_exc h hx hn
theorem MdAt.below {w w' : World} {mb : Nat} {pl : List Value} {at' : Nat} {M : Md} (h : MdAt w mb pl at' M) (hb : Below w.heap.size w w') : MdAt w' mb pl at' M := Own.below h hb (Own.lt h)
/-- The model of what a table knows. -/
def mdOf (T : Tb) (p : Pn) : Md := ⟨fun i => decide (i < p.P.length) && T.isUp (pc p.P i), fun i => decide (i < p.P.length) && decide (pc p.P i ∈ T.N), fun i j => if i < p.P.length ∧ j < p.P.length then T.told (pc p.P i) (pc p.P j) else 0, fun i j => if i < p.P.length ∧ j < p.P.length then T.said (pc p.P i) (pc p.P j) else 0⟩
theorem mdOf_up {T : Tb} {p : Pn} {i : Nat} (h : i < p.P.length) : (mdOf T p).up i = T.isUp (pc p.P i) := by unfold mdOf; simp [h]
theorem mdOf_near {T : Tb} {p : Pn} {i : Nat} (h : i < p.P.length) : (mdOf T p).near i = decide (pc p.P i ∈ T.N) := by unfold mdOf; simp [h]
theorem mdOf_told {T : Tb} {p : Pn} {i j : Nat} (h : i < p.P.length) (h2 : j < p.P.length) : (mdOf T p).told i j = T.told (pc p.P i) (pc p.P j) := by unfold mdOf; simp [h, h2]
theorem mdOf_said {T : Tb} {p : Pn} {i j : Nat} (h : i < p.P.length) (h2 : j < p.P.length) : (mdOf T p).said i j = T.said (pc p.P i) (pc p.P j) := by unfold mdOf; simp [h, h2]
/-- What always holds of a table of a small plan. -/
structure Inv (p : Pn) (at' : Nat) (T : Tb) : Prop where
  me : T.me = pc p.P at'
  tr : T.tr = pt p.P at'
  N : T.N = nbrs p (pc p.P at')
  D : T.D = destsP p.P (pc p.P at')
  C : ∀ k, k < p.P.length → k ≠ at' → ∃ l, DisOk p (pc p.P k) l ∧ T.C (pc p.P k) = chC p (pc p.P k) l at'
  toldMe : ∀ x, T.told x (pc p.P at') = 0
  toldSelf : ∀ x, T.told x x = 0
  saidMe : ∀ x, T.said x (pc p.P at') = 0
  saidSelf : ∀ x, T.said x x = 0
  told : ∀ x y, 0 ≤ T.told x y ∧ T.told x y ≤ 2
  said : ∀ x y, 0 ≤ T.said x y ∧ T.said x y ≤ 2
/-- A model is read at the numbers of places alone. -/
theorem MdAt.congr {w : World} {mb : Nat} {pl : List Value} {at' : Nat} {M M' : Md} (h : MdAt w mb pl at' M) (h1 : ∀ i, i < 6 → M'.up i = M.up i) (h2 : ∀ i, i < 6 → M'.near i = M.near i) (h3 : ∀ i, i < 6 → ∀ j, j < 6 → M'.told i j = M.told i j) (h4 : ∀ i, i < 6 → ∀ j, j < 6 → M'.said i j = M.said i j) : MdAt w mb pl at' M' := by
  unfold MdAt at h ⊢
  rw [show (List.range 92).map (mdG pl at' M') = (List.range 92).map (mdG pl at' M) from List.map_congr_left fun i hi => ?_]
  · exact h
  · have hi := List.mem_range.1 hi
    unfold mdG
    split
    · rfl
    · split
      · rfl
      · split
        · rw [h1 _ (by omega)]
        · split
          · rw [h2 _ (by omega)]
          · split
            · rw [h3 _ (by omega) _ (by omega)]
            · rw [h4 _ (by omega) _ (by omega)]
end Go.Proofs.Ytdjmopipmeonlaa
