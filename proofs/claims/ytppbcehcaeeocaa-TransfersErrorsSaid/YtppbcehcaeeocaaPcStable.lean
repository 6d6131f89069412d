/- The library's stable sort of many, weakly: the row holds as many places afterwards. -/
import Derived.Test.YtppbcehcaeeocaaPcMerge
import Derived.Test.YtppbcehcaeeocaaPcSmall
namespace Go.Proofs.Ytppbcehcaeeocaa
open Go.RowKit Go.Sort Go.Lib

set_option maxRecDepth 20000 in
set_option maxHeartbeats 4000000 in
theorem stable_many (l : List Int) (n : Nat) [Inhabited (Fin n)] (bx g blk cap : Nat) (d : Array (Fin n)) (w : World) (hl : l.length = n) (hb : w.cell? ⟨bx, 0, none⟩ = some (.slice (some ⟨g, 0, none⟩) n n)) (ho : Own w g 3 (nums .i64 l)) (h1 : bx ≠ blk) (h2 : g ≠ blk)
    (hH : Holds (encF (n := n)) w blk 0 d) (hblk : blk < w.heap.size) (hd : d.size ≤ 64) :
    Calls Try.prog 77 #[.slice (some ⟨blk, 0, none⟩) d.size cap, .int .i64 (d.size : Int), .func (.func 64) #[] #[.pointer (some ⟨bx, 0, none⟩)]] w (StOut (fun _ => True) w blk d) := by
  have eg : ∀ args w, (callFunc 64 args).run Try.prog w = .ok (.enter 64 args) w := enters_of Try.func64 (by kernel_rfl) rfl
  have R : Row1 (encF (n := n)) w blk 0 d := ⟨fun _ => rfl, hH, hblk⟩
  have hins : ∀ (W : World), Keep (n := n) w blk d.size W → ∀ a b : Nat, a ≤ b → b ≤ d.size → Calls Try.prog 92 #[.slice (some ⟨blk, 0, none⟩) d.size cap, .int .i64 a, .int .i64 b, .func (.func 64) #[] #[.pointer (some ⟨bx, 0, none⟩)]] W fun e w' => e = .returned (.tuple #[]) ∧ Keep (n := n) w blk d.size w' := by
    intro W hk a b hab hbd
    obtain ⟨dk, hs, S⟩ := hk
    have h := Any.insertionSortCmpFunc_s layInsert (encF (n := n)) (cfL l n) 64 #[.pointer (some ⟨bx, 0, none⟩)] blk 0 cap a b d dk w W eg (lays_any l n bx g blk d.size w hl hb ho h1 h2) R hs.symm S hab (by rw [hs]; exact hbd) (by omega)
    rw [hs] at h
    exact h.mono fun e w' ⟨he, hsw⟩ => ⟨he, _, by rw [ltOf_cf, (insertionSort_holds (lt := ltF (fun x : Fin n => l.getD x.val 0)) (ltF_swo _) dk a b hab (by rw [hs]; exact hbd)).1.1]; exact hs, hsw⟩
  have hmer : ∀ (W : World), Keep (n := n) w blk d.size W → ∀ a m b : Nat, a < m → m < b → b ≤ d.size → Calls Try.prog 93 #[.slice (some ⟨blk, 0, none⟩) d.size cap, .int .i64 a, .int .i64 m, .int .i64 b, .func (.func 64) #[] #[.pointer (some ⟨bx, 0, none⟩)]] W fun e w' => e = .returned (.tuple #[]) ∧ Keep (n := n) w blk d.size w' := fun W hk a m b h3 h4 h5 =>
    symMerge_any l bx blk cap d w R (cmpOk_any l bx g blk d.size w hl hb ho h1 h2) hd (b - a) a m b W hk (Nat.le_refl _) h3 h4 h5
  have hk0 : Keep (n := n) w blk d.size w := ⟨d, rfl, SW.start hH⟩
  have hOut : ∀ e w', e = .returned (.tuple #[]) → Keep (n := n) w blk d.size w' → StOut (fun _ => True) w blk d e w' := fun e w' he ⟨dk, hs, S⟩ => ⟨he, dk, hs, trivial, S⟩
  obtain ⟨N, hN⟩ : ∃ N, N = d.size := ⟨_, rfl⟩
  rw [← hN] at hins hmer hk0 hd hOut ⊢
  have HI := Lib.hid hins
  have HM := Lib.hid hmer
  have HK0 := Lib.hid hk0
  have HO := Lib.hid hOut
  clear hins hmer hk0 hOut R eg hb ho hH hl h1 h2 hblk hN
  go_enter Try.func77, Try.ntmps77
  go_wp2_with fail
  go_loopw [7, 8] (fun sa sb wr => ∃ a : Nat, a ≤ N ∧ sa = .int .i64 a ∧ sb = .int .i64 (a + 20 : Nat) ∧ Keep (n := n) w blk N wr) (fun _ sb _ => N + 20 - (intOf sb).toNat)
  case atStart => exact ⟨0, Nat.zero_le _, rfl, rfl, HK0.out⟩
  case round =>
    obtain ⟨a, ha, rfl, rfl, hkp⟩ := hrel
    have HK := Lib.hid hkp
    clear hkp
    obtain ⟨b, hb⟩ : ∃ b, b = a + 20 := ⟨_, rfl⟩
    rw [← hb]
    have hb2 : b ≤ 84 := by omega
    by_cases hle : b ≤ N
    · have k1 : (b : Int) ≤ (N : Int) := by omega
      have HB := Lib.hid hb
      have hab : a ≤ b := by omega
      clear hb
      go_wp2_with fail
      with_reducible refine (HI.out _ HK.out a b hab hle).mono ?_
      rintro e w1 ⟨rfl, hk1⟩
      have HK1 := Lib.hid hk1
      clear hk1
      go_wp2_with fail
      exact ⟨⟨b, hle, rfl, by go_num, HK1.out⟩, by have := HB.out; simp [intOf]; omega⟩
    · have k1 : ¬ (b : Int) ≤ (N : Int) := by omega
      clear hb
      go_wp2_with fail
      with_reducible refine (HI.out _ HK.out a N ha (Nat.le_refl _)).mono ?_
      rintro e w1 ⟨rfl, hk1⟩
      have HK1 := Lib.hid hk1
      clear hk1
      go_wp2_with fail
      go_loopw [6] (fun sv wr => ∃ s : Nat, 0 < s ∧ s ≤ 200 ∧ sv = .int .i64 s ∧ Keep (n := n) w blk N wr) (fun sv _ => N - (intOf sv).toNat)
      case atStart => exact ⟨20, by omega, by omega, rfl, HK1.out⟩
      case round =>
        obtain ⟨s, hs0, hs2, rfl, hkp⟩ := hrel
        have HKs := Lib.hid hkp
        clear hkp
        by_cases hsN : s < N
        · have i1 : (s : Int) < (N : Int) := by omega
          obtain ⟨w5, hw5⟩ : ∃ x, x = wr := ⟨_, rfl⟩
          subst hw5
          obtain ⟨s2, hs9⟩ : ∃ s2, s2 = 2 * s := ⟨_, rfl⟩
          have e2 : 2 * (s : Int) = (s2 : Int) := by omega
          have e3 : (s : Int) * 2 = (s2 : Int) := by omega
          have hs8 : s < s2 ∧ s2 ≤ 400 := by omega
          have HS2 := Lib.hid hs9
          clear hs9
          go_wp2_with fail
          go_loopw [7, 8] (fun sa sb wr => ∃ a : Nat, a ≤ N ∧ sa = .int .i64 a ∧ sb = .int .i64 (a + s2 : Nat) ∧ Keep (n := n) w blk N wr) (fun _ sb _ => N + s2 - (intOf sb).toNat)
          case atStart => exact ⟨0, Nat.zero_le _, rfl, by rw [Nat.zero_add], HKs.out⟩
          case round =>
            obtain ⟨a, ha, rfl, rfl, hkp⟩ := hrel
            have HKt := Lib.hid hkp
            clear hkp
            obtain ⟨b, hb⟩ : ∃ b, b = a + s2 := ⟨_, rfl⟩
            rw [← hb]
            have hb2 : b ≤ 500 := by omega
            obtain ⟨m, hm⟩ : ∃ m, m = a + s := ⟨_, rfl⟩
            have e4 : (a : Int) + (s : Int) = (m : Int) := by omega
            have ham : a < m := by omega
            have hmb : m < b := by omega
            by_cases hle : b ≤ N
            · have k1 : (b : Int) ≤ (N : Int) := by omega
              have HB := Lib.hid hb
              clear hb hm
              go_wp2_with fail
              with_reducible refine (HM.out _ HKt.out a m b ham hmb hle).mono ?_
              rintro e w2 ⟨rfl, hk2⟩
              have HK2 := Lib.hid hk2
              clear hk2
              go_wp2_with fail
              exact ⟨⟨b, hle, rfl, by go_num, HK2.out⟩, by have := HB.out; simp [intOf]; omega⟩
            · have k1 : ¬ (b : Int) ≤ (N : Int) := by omega
              clear hb hm
              by_cases hmN : m < N
              · have k2 : (m : Int) < (N : Int) := by omega
                go_wp2_with fail
                with_reducible refine (HM.out _ HKt.out a m N ham hmN (Nat.le_refl _)).mono ?_
                rintro e w2 ⟨rfl, hk2⟩
                have HK2 := Lib.hid hk2
                clear hk2
                go_wp2_with fail
                exact ⟨⟨s2, by omega, by have := HS2.out; omega, rfl, HK2.out⟩, by simp [intOf]; omega⟩
              · have k2 : ¬ (m : Int) < (N : Int) := by omega
                go_wp2_with fail
                exact ⟨⟨s2, by omega, by have := HS2.out; omega, rfl, HKt.out⟩, by simp [intOf]; omega⟩
        · have i1 : ¬ (s : Int) < (N : Int) := by omega
          go_wp2
          go_end0
          exact HO.out _ _ rfl HKs.out
theorem wayF_size_le (n : Nat) [Inhabited (Fin n)] (l : List Int) : (wayF n l).size ≤ n := by
  have h := congrArg List.length (wayF_map n l)
  rw [List.length_map, Array.length_toList] at h
  rw [h]
  unfold wayL
  have := List.length_filter_le (fun i => decide (l.getD i 0 ≠ -1)) (List.range n)
  rwa [List.length_range] at this
/-- Whatever the number of places: heights without their order. -/
theorem stAll_many (p : Pn) (t : Int) (hn : p.P.length ≤ 64) : StAll p t (fun _ _ => True) := by
  intro _ l g hok bx blk cap W hb ho h1 h2 hH hblk _
  exact stable_many l p.P.length bx g blk cap (wayF p.P.length l) W hok.len hb ho h1 h2 hH hblk (Nat.le_trans (wayF_size_le _ _) hn)
/-- What the functions that need heights return for any valid plan: that there is no error. -/
def HtOk (w : World) (e : Ending) (w' : World) : Prop := ∃ a n, e = .returned (.tuple #[.slice a n n, .int .i64 0]) ∧ Below w.heap.size w w'
def HoOk (w : World) (e : Ending) (w' : World) : Prop := ∃ X E : Int, e = .returned (.tuple #[.int .i64 X, .int .i64 E]) ∧ (E = 0 ∨ E = 11) ∧ Below w.heap.size w w'
/-- What Choices returns for any valid plan: neighbors of the place, in memory of the call's own. -/
def ChA (p : Pn) (t : Int) (w : World) (e : Ending) (w' : World) : Prop := ∃ a X, e = .returned (.tuple #[.slice a X.length X.length, .int .i64 0]) ∧ X.length ≤ 1024 ∧ (∀ c ∈ X, c.1 ∈ nbrs p t) ∧ CRow w' a X.length X.length X ∧ Below w.heap.size w w' ∧ ∀ z, a = some z → w.heap.size ≤ z.block
theorem candL_mem {P : List (Int × Bool)} {u : Int} {l h : List Int} {own : Nat} {C : List Int} {x : Int × Int} (hx : x ∈ candL P u l h own C) : x.1 ∈ C := by
  unfold candL at hx
  obtain ⟨c, hc, e⟩ := List.mem_filterMap.1 hx
  unfold candO at e
  split at e
  · split at e
    · simp only [Option.some.injEq] at e; rw [← e]; exact hc
    · cases e
  · cases e
theorem choices_all (p : Pn) (a : Option Addr) (n c : Nat) (a' : Option Addr) (n' c' : Nat) (t u : Int) (w : World) (hP : PRow w a n c p.P) (hL : LRow w a' n' c' p.L) (hE : chkPts p [t, u] = 0) (htu : t ≠ u) (i s : Nat) (hi : fnd p.P t = some i) (hs : fnd p.P u = some s) (hv : ValidPl p) :
    Calls Try.prog 32 #[planV a n c a' n' c' p, .int .u16 t, .int .u16 u] w (ChA p t w) := by
  refine (choices_ok p a n c a' n' c' t u w hP hL hE htu i s hi hs hv _ (stAll_many p u hv.np)).mono fun e w' h => ?_
  obtain ⟨l, o, a2, X, _, _, _, hp, _, he, hcr, hb, hfr⟩ := h
  refine ⟨a2, X, he, ?_, fun c hc => candL_mem (hp.mem_iff.1 hc), hcr, hb, hfr⟩
  have h1 := hp.length_eq
  have h2 := candL_le p.P u l (putPos l o o.length) i (nbrs p t)
  have h3 := nbrs_none p t
  have h4 := hv.nl
  omega
end Go.Proofs.Ytppbcehcaeeocaa
