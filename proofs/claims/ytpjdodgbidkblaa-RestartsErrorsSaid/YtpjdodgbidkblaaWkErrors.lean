/- RestartsErrors: the errors of New; a nil machine and the zero one. -/
import Derived.Test.YtpjdodgbidkblaaRsLives
import Derived.BigQuiet
namespace Go.Proofs.Ytpjdodgbidkblaa
open Go.RowKit Go.Maps

/-- What the statement reckons: no point twice, none too great, among the first i. -/
def okI (l : List Int) (i : Nat) : Prop := (l.take i).Nodup ∧ ∀ n, n ∈ l.take i → n ≤ 16383
def okK (l : List Int) (i k : Nat) : Prop := okI l i ∧ l.getD i 0 ∉ l.take k
theorem okI_zero (l : List Int) : okI l 0 := by unfold okI; rw [List.take_zero]; exact ⟨List.nodup_nil, fun n hn => by cases hn⟩
theorem okK_zero (l : List Int) (i : Nat) : okK l i 0 ↔ okI l i := by unfold okK; rw [List.take_zero]; simp
theorem okK_succ {l : List Int} {i k : Nat} (hk : k < l.length) : okK l i (k + 1) ↔ okK l i k ∧ l.getD i 0 ≠ l.getD k 0 := by
  unfold okK
  rw [take_one' (d := 0) hk, List.mem_append, List.mem_singleton]
  constructor
  · rintro ⟨h1, h2⟩; exact ⟨⟨h1, fun h => h2 (.inl h)⟩, fun h => h2 (.inr h)⟩
  · rintro ⟨⟨h1, h2⟩, h3⟩; exact ⟨h1, fun h => h.elim h2 h3⟩
theorem okI_succ {l : List Int} {i : Nat} (hi : i < l.length) : okI l (i + 1) ↔ okK l i i ∧ l.getD i 0 ≤ 16383 := by
  unfold okK okI
  rw [take_one' (d := 0) hi, List.nodup_append]
  constructor
  · rintro ⟨⟨h1, _, h2⟩, h3⟩
    exact ⟨⟨⟨h1, fun n hn => h3 n (List.mem_append_left _ hn)⟩, fun h => h2 _ h _ (by simp) rfl⟩, h3 _ (by simp)⟩
  · rintro ⟨⟨⟨h1, h2⟩, h3⟩, h4⟩
    refine ⟨⟨h1, by simp, fun a ha b hb e => ?_⟩, fun n hn => ?_⟩
    · simp only [List.mem_singleton] at hb
      rw [e, hb] at ha
      exact h3 ha
    · rcases List.mem_append.1 hn with h | h
      · exact h2 n h
      · simp only [List.mem_singleton] at h
        rw [h]; exact h4
/-- The number v says whether P holds: 0 if so, 1 if not. -/
def Says (v : Int) (P : Prop) : Prop := (v = 0 ∧ P) ∨ (v = 1 ∧ ¬ P)
theorem Says.congr {v : Int} {P Q : Prop} (h : Says v P) (e : Q ↔ P) : Says v Q := by
  rcases h with ⟨h1, h2⟩ | ⟨h1, h2⟩
  · exact .inl ⟨h1, e.2 h2⟩
  · exact .inr ⟨h1, fun h => h2 (e.1 h)⟩
theorem Says.more {v : Int} {P Q : Prop} (h : Says v P) (hq : Q) : Says v (P ∧ Q) := h.congr ⟨fun h => h.1, fun h => ⟨h, hq⟩⟩
theorem Says.not {P Q : Prop} (hq : ¬ Q) : Says 1 (P ∧ Q) := .inr ⟨rfl, fun h => hq h.2⟩
theorem nul_none (w : World) : Nul w none := .inl rfl
set_option maxHeartbeats 8000000 in
set_option maxRecDepth 100000 in
theorem errors_walk (a : Option Addr) (N c : Nat) (l : List Int) (base now : Int) (w : World) (h : Row .u16 w a N c l) (h1 : (Lit.int .i64 base).wf = true) (h2 : (Lit.int .i64 now).wf = true) :
    Calls Try.prog 6 #[.slice a N c, .int .i64 base, .int .i64 now] w fun e w' => e = .returned (.bool true) ∧ Below w.heap.size w w' := by
  have HR := Lib.hid h
  have hlen := h.len
  have HL := Lib.hid hlen
  have HW1 := Lib.hid h1
  have HW2 := Lib.hid h2
  clear hlen h h1 h2
  by_cases hbig : (N : Int) > 80
  · go_enter Try.func6, Try.ntmps6
    go_wp2_with fail
    refine (lives_any w).mono ?_
    rintro e w2 ⟨rfl, hb⟩
    have HB := Lib.hid hb
    clear hb
    go_wp2
    go_ret
    exact ⟨rfl, HB.out⟩
  have HS := Lib.hid (show N ≤ 80 by omega)
  go_enter Try.func6, Try.ntmps6
  go_wp2_with fail
  clear hbig
  go_loopw [7, 8] (fun u v wr => ∃ (i : Nat) (z : Int), i ≤ N ∧ v = .int .i64 i ∧ u = .int .i64 z ∧ Says z (okI l i) ∧ Below w.heap.size w wr) (fun _ v _ => N - (intOf v).toNat)
  case atStart => exact ⟨0, 0, Nat.zero_le _, rfl, rfl, .inl ⟨rfl, okI_zero l⟩, Below.refl _ _⟩
  case round =>
    obtain ⟨i, z, hi, rfl, rfl, hz, hb⟩ := hrel
    have HZ := Lib.hid hz
    have HB := Lib.hid hb
    clear hz hb
    by_cases hin : i < N
    · have i1 : (i : Int) < (N : Int) := by omega
      have i2 : (0 : Int) ≤ (i : Int) := by omega
      have HI := Lib.hid (show i < l.length by rw [HL.out]; exact hin)
      have HIN := Lib.hid hin
      have HMN := Lib.hid (Nat.le_refl N)
      have iw : IntKind.i64.wrap ((i : Int) + 1) = (i : Int) + 1 := IntWalk.i64_in _ (by have := HS.out; omega)
      go_wp2_with fail
      go_loopw [7, 9] (fun u v w5 => ∃ (k : Nat) (z : Int), k ≤ i ∧ v = .int .i64 k ∧ u = .int .i64 z ∧ Says z (okK l i k) ∧ Below w.heap.size w w5) (fun _ v _ => i - (intOf v).toNat)
      case atStart => exact ⟨0, z, Nat.zero_le _, rfl, rfl, HZ.out.congr (okK_zero l i), HB.out⟩
      case round =>
        obtain ⟨k, z5, hk, rfl, rfl, hz, hb⟩ := hrel
        have HZ5 := Lib.hid hz
        have HB5 := Lib.hid hb
        have hrow := HR.out.later hb
        obtain ⟨b, off, had, hc⟩ := hrow.cells.resolve_left (by omega)
        have ci := hc i hin
        obtain ⟨p, hp⟩ : ∃ p, p = l.getD i 0 := ⟨_, rfl⟩
        rw [← hp] at ci
        have HP := Lib.hid hp
        clear hz hb hrow hp
        subst had
        by_cases hki : k < i
        · have ck := hc k (by omega)
          obtain ⟨q, hq⟩ : ∃ q, q = l.getD k 0 := ⟨_, rfl⟩
          rw [← hq] at ck
          have HK := Lib.hid (okK_succ (i := i) (show k < l.length by have := HI.out; omega))
          have hKe := HK.out
          rw [← hq, ← HP.out] at hKe
          have HKe := Lib.hid hKe
          have HDr : Hid (∀ m, Below w.heap.size w (wr.drewN m)) := Lib.hid (fun m => below_drewN HB5.out m)
          have k1 : (k : Int) < (i : Int) := by omega
          have k2 : (0 : Int) ≤ (k : Int) := by omega
          have k3 : (k : Int) < (N : Int) := by omega
          have kw : IntKind.i64.wrap ((k : Int) + 1) = (k : Int) + 1 := IntWalk.i64_in _ (by have := HS.out; omega)
          clear hq hc hKe HK
          by_cases hpq : p = q
          · have e1 : (p == q) = true := by simpa using hpq
            have HPQ := Lib.hid hpq
            clear hpq
            go_wp2_with go_quiet (fail)
            refine ⟨⟨k + 1, 1, by omega, by go_num, rfl, (Says.not (P := okK l i k) (Q := p ≠ q) (fun h => h HPQ.out)).congr HKe.out, HDr.out _⟩, by simp [intOf]; omega⟩
          · have e1 : (p == q) = false := by simpa using hpq
            have HPQ := Lib.hid hpq
            clear hpq
            go_wp2_with go_quiet (fail)
            refine ⟨⟨k + 1, z5, by omega, by go_num, rfl, (HZ5.out.more (Q := p ≠ q) HPQ.out).congr HKe.out, HDr.out _⟩, by simp [intOf]; omega⟩
        · obtain rfl : k = i := by omega
          have hIe := okI_succ HI.out
          rw [← HP.out] at hIe
          have HIe := Lib.hid hIe
          have HZ6 := Lib.hid HZ5.out
          clear hIe hc
          by_cases hpb : p > 16383
          · have HPB := Lib.hid hpb
            go_wp2
            refine ⟨⟨k + 1, 1, by omega, by go_num, rfl, (Says.not (P := okK l k k) (Q := p ≤ 16383) (by have := HPB.out; omega)).congr HIe.out, HB5.out⟩, by simp [intOf]; omega⟩
          · have HPB := Lib.hid hpb
            go_wp2
            refine ⟨⟨k + 1, z5, by omega, by go_num, rfl, (HZ6.out.more (Q := p ≤ 16383) (by have := HPB.out; omega)).congr HIe.out, HB5.out⟩, by simp [intOf]; omega⟩
    · obtain rfl : i = N := by omega
      have hOk : Says z (l.Nodup ∧ ∀ n, n ∈ l → n ≤ 16383) := by
        have h := HZ.out
        unfold okI at h
        rw [List.take_of_length_le (by rw [HL.out]; exact Nat.le_refl _)] at h
        exact h
      obtain ⟨W1, hW1⟩ : ∃ x, x = wr := ⟨_, rfl⟩
      subst hW1
      have HR1 := Lib.hid (HR.out.later HB.out)
      have hnl : newErr l base = if 64 < i then 3 else if base < 0 then 1 else if l.Nodup ∧ ∀ n, n ∈ l → n ≤ 16383 then 0 else 1 := by unfold newErr; rw [HL.out]
      by_cases hbig : (i : Int) > 64
      · have he : newErr l base = 3 := by rw [hnl, if_pos (by omega)]
        clear hnl hOk
        by_cases hneg : base < 0
        · as_aux_lemma =>
            have HE := Lib.hid he
            clear he
            go_wp2_with fail
            refine (new_any a i c l base W1 HR1.out HW1.out HL.out.symm (by have := HS.out; omega)).mono ?_
            rintro e w2 ⟨hb2, hn2⟩
            have HB2 := Lib.hid (HB.out.trans (hb2.mono HB.out.size))
            clear hb2
            rcases hn2 with ⟨h1, _⟩ | ⟨_, rfl⟩
            · exact absurd (HE.out.symm.trans h1) (by decide)
            rw [HE.out]
            go_wp2_with fail
            have hz1 : Own (w2.alloc (.cells #[.map none, .int .i64 0, .int .u8 0, .int .i64 0] 46)) w2.heap.size 46 [.map none, .int .i64 0, .int .u8 0, .int .i64 0] := heap_alloc_new w2 _
            have hs2 : (w2.alloc (.cells #[.map none, .int .i64 0, .int .u8 0, .int .i64 0] 46)).heap.size = w2.heap.size + 1 := by simp
            have hz2 : Own ((w2.alloc (.cells #[.map none, .int .i64 0, .int .u8 0, .int .i64 0] 46)).alloc (.cells #[.pointer none, .pointer (some ⟨w2.heap.size, 0, none⟩)] 27)) _ 27 [.pointer none, .pointer (some ⟨w2.heap.size, 0, none⟩)] := heap_alloc_new _ _
            have hb3 : Below w2.heap.size w2 ((w2.alloc (.cells #[.map none, .int .i64 0, .int .u8 0, .int .i64 0] 46)).alloc (.cells #[.pointer none, .pointer (some ⟨w2.heap.size, 0, none⟩)] 27)) := (below_alloc w2 _).trans ((below_alloc _ _).mono (by rw [hs2]; omega))
            have hz1 := hz1.below (below_alloc _ (.cells #[.pointer none, .pointer (some ⟨w2.heap.size, 0, none⟩)] 27)) hz1.lt
            rw [hs2] at hz2
            obtain ⟨zb, hzb⟩ : ∃ x, x = w2.heap.size := ⟨_, rfl⟩
            have HB3 := Lib.hid (HB2.out.trans (hb3.mono HB2.out.size))
            have hB3 := HB3.out
            rw [← hzb] at hz1 hz2 hB3 ⊢
            generalize (w2.alloc (.cells #[.map none, .int .i64 0, .int .u8 0, .int .i64 0] 46)).alloc (.cells #[.pointer none, .pointer (some ⟨zb, 0, none⟩)] 27) = WZ at hz1 hz2 hB3 ⊢
            have HB3 := Lib.hid hB3
            have HNul : Hid (Nul WZ (some ⟨zb, 0, none⟩)) := Lib.hid (.inr ⟨zb, rfl, hz1.cell 0 (by simp)⟩)
            obtain ⟨c0, c1⟩ : _ ∧ _ := ⟨hz2.cell 0 (by simp), hz2.cell 1 (by simp)⟩
            simp only [List.getD_cons_zero, List.getD_cons_succ] at c0 c1
            clear hz1 hz2 hs2 hb3 hB3 hzb
            go_loopw [15] (fun v wr => ∃ j : Nat, j ≤ 2 ∧ v = .int .i64 j ∧ wr = WZ) (fun v _ => 2 - (intOf v).toNat)
            case atStart => exact ⟨0, by omega, rfl, rfl⟩
            case round =>
              obtain ⟨j, hj, rfl, rfl⟩ := hrel
              rcases (show j = 0 ∨ j = 1 ∨ j = 2 by omega) with rfl | rfl | rfl
              · go_wp2_with fail
                refine (state_nul none wr (nul_none wr)).mono ?_
                rintro e w9 ⟨rfl, rfl⟩
                go_wp2_with fail
                refine (tick_nul none now wr (nul_none wr)).mono ?_
                rintro e w9 ⟨rfl, rfl⟩
                go_wp2_with fail
                refine (up_nul none now 1 wr (nul_none wr)).mono ?_
                rintro e w9 ⟨rfl, rfl⟩
                go_wp2_with fail
                refine (down_nul none 1 wr (nul_none wr)).mono ?_
                rintro e w9 ⟨rfl, rfl⟩
                go_wp2_with fail
                refine (done_nul none 1 wr (nul_none wr)).mono ?_
                rintro e w9 ⟨rfl, rfl⟩
                go_wp2
                exact ⟨⟨1, by omega, rfl, by simp⟩, by simp [intOf]⟩
              · go_wp2_with fail
                refine (state_nul _ wr HNul.out).mono ?_
                rintro e w9 ⟨rfl, rfl⟩
                go_wp2_with fail
                refine (tick_nul _ now wr HNul.out).mono ?_
                rintro e w9 ⟨rfl, rfl⟩
                go_wp2_with fail
                refine (up_nul _ now 1 wr HNul.out).mono ?_
                rintro e w9 ⟨rfl, rfl⟩
                go_wp2_with fail
                refine (down_nul _ 1 wr HNul.out).mono ?_
                rintro e w9 ⟨rfl, rfl⟩
                go_wp2_with fail
                refine (done_nul _ 1 wr HNul.out).mono ?_
                rintro e w9 ⟨rfl, rfl⟩
                go_wp2
                exact ⟨⟨2, by omega, rfl, by simp⟩, by simp [intOf]⟩
              · go_wp2_with fail
                refine (lives_any wr).mono ?_
                rintro e w8 ⟨rfl, hb⟩
                have HB8 := Lib.hid (HB3.out.trans (hb.mono HB3.out.size))
                clear hb
                go_wp2
                go_ret
                exact ⟨rfl, HB8.out⟩
        · as_aux_lemma =>
            have HE := Lib.hid he
            clear he
            go_wp2_with fail
            refine (new_any a i c l base W1 HR1.out HW1.out HL.out.symm (by have := HS.out; omega)).mono ?_
            rintro e w2 ⟨hb2, hn2⟩
            have HB2 := Lib.hid (HB.out.trans (hb2.mono HB.out.size))
            clear hb2
            rcases hn2 with ⟨h1, _⟩ | ⟨_, rfl⟩
            · exact absurd (HE.out.symm.trans h1) (by decide)
            rw [HE.out]
            go_wp2_with fail
            have hz1 : Own (w2.alloc (.cells #[.map none, .int .i64 0, .int .u8 0, .int .i64 0] 46)) w2.heap.size 46 [.map none, .int .i64 0, .int .u8 0, .int .i64 0] := heap_alloc_new w2 _
            have hs2 : (w2.alloc (.cells #[.map none, .int .i64 0, .int .u8 0, .int .i64 0] 46)).heap.size = w2.heap.size + 1 := by simp
            have hz2 : Own ((w2.alloc (.cells #[.map none, .int .i64 0, .int .u8 0, .int .i64 0] 46)).alloc (.cells #[.pointer none, .pointer (some ⟨w2.heap.size, 0, none⟩)] 27)) _ 27 [.pointer none, .pointer (some ⟨w2.heap.size, 0, none⟩)] := heap_alloc_new _ _
            have hb3 : Below w2.heap.size w2 ((w2.alloc (.cells #[.map none, .int .i64 0, .int .u8 0, .int .i64 0] 46)).alloc (.cells #[.pointer none, .pointer (some ⟨w2.heap.size, 0, none⟩)] 27)) := (below_alloc w2 _).trans ((below_alloc _ _).mono (by rw [hs2]; omega))
            have hz1 := hz1.below (below_alloc _ (.cells #[.pointer none, .pointer (some ⟨w2.heap.size, 0, none⟩)] 27)) hz1.lt
            rw [hs2] at hz2
            obtain ⟨zb, hzb⟩ : ∃ x, x = w2.heap.size := ⟨_, rfl⟩
            have HB3 := Lib.hid (HB2.out.trans (hb3.mono HB2.out.size))
            have hB3 := HB3.out
            rw [← hzb] at hz1 hz2 hB3 ⊢
            generalize (w2.alloc (.cells #[.map none, .int .i64 0, .int .u8 0, .int .i64 0] 46)).alloc (.cells #[.pointer none, .pointer (some ⟨zb, 0, none⟩)] 27) = WZ at hz1 hz2 hB3 ⊢
            have HB3 := Lib.hid hB3
            have HNul : Hid (Nul WZ (some ⟨zb, 0, none⟩)) := Lib.hid (.inr ⟨zb, rfl, hz1.cell 0 (by simp)⟩)
            obtain ⟨c0, c1⟩ : _ ∧ _ := ⟨hz2.cell 0 (by simp), hz2.cell 1 (by simp)⟩
            simp only [List.getD_cons_zero, List.getD_cons_succ] at c0 c1
            clear hz1 hz2 hs2 hb3 hB3 hzb
            go_loopw [15] (fun v wr => ∃ j : Nat, j ≤ 2 ∧ v = .int .i64 j ∧ wr = WZ) (fun v _ => 2 - (intOf v).toNat)
            case atStart => exact ⟨0, by omega, rfl, rfl⟩
            case round =>
              obtain ⟨j, hj, rfl, rfl⟩ := hrel
              rcases (show j = 0 ∨ j = 1 ∨ j = 2 by omega) with rfl | rfl | rfl
              · go_wp2_with fail
                refine (state_nul none wr (nul_none wr)).mono ?_
                rintro e w9 ⟨rfl, rfl⟩
                go_wp2_with fail
                refine (tick_nul none now wr (nul_none wr)).mono ?_
                rintro e w9 ⟨rfl, rfl⟩
                go_wp2_with fail
                refine (up_nul none now 1 wr (nul_none wr)).mono ?_
                rintro e w9 ⟨rfl, rfl⟩
                go_wp2_with fail
                refine (down_nul none 1 wr (nul_none wr)).mono ?_
                rintro e w9 ⟨rfl, rfl⟩
                go_wp2_with fail
                refine (done_nul none 1 wr (nul_none wr)).mono ?_
                rintro e w9 ⟨rfl, rfl⟩
                go_wp2
                exact ⟨⟨1, by omega, rfl, by simp⟩, by simp [intOf]⟩
              · go_wp2_with fail
                refine (state_nul _ wr HNul.out).mono ?_
                rintro e w9 ⟨rfl, rfl⟩
                go_wp2_with fail
                refine (tick_nul _ now wr HNul.out).mono ?_
                rintro e w9 ⟨rfl, rfl⟩
                go_wp2_with fail
                refine (up_nul _ now 1 wr HNul.out).mono ?_
                rintro e w9 ⟨rfl, rfl⟩
                go_wp2_with fail
                refine (down_nul _ 1 wr HNul.out).mono ?_
                rintro e w9 ⟨rfl, rfl⟩
                go_wp2_with fail
                refine (done_nul _ 1 wr HNul.out).mono ?_
                rintro e w9 ⟨rfl, rfl⟩
                go_wp2
                exact ⟨⟨2, by omega, rfl, by simp⟩, by simp [intOf]⟩
              · go_wp2_with fail
                refine (lives_any wr).mono ?_
                rintro e w8 ⟨rfl, hb⟩
                have HB8 := Lib.hid (HB3.out.trans (hb.mono HB3.out.size))
                clear hb
                go_wp2
                go_ret
                exact ⟨rfl, HB8.out⟩
      · by_cases hneg : base < 0
        · have he : newErr l base = 1 := by rw [hnl, if_neg (by omega), if_pos hneg]
          clear hnl hOk
          as_aux_lemma =>
            have HE := Lib.hid he
            clear he
            go_wp2_with fail
            refine (new_any a i c l base W1 HR1.out HW1.out HL.out.symm (by have := HS.out; omega)).mono ?_
            rintro e w2 ⟨hb2, hn2⟩
            have HB2 := Lib.hid (HB.out.trans (hb2.mono HB.out.size))
            clear hb2
            rcases hn2 with ⟨h1, _⟩ | ⟨_, rfl⟩
            · exact absurd (HE.out.symm.trans h1) (by decide)
            rw [HE.out]
            go_wp2_with fail
            have hz1 : Own (w2.alloc (.cells #[.map none, .int .i64 0, .int .u8 0, .int .i64 0] 46)) w2.heap.size 46 [.map none, .int .i64 0, .int .u8 0, .int .i64 0] := heap_alloc_new w2 _
            have hs2 : (w2.alloc (.cells #[.map none, .int .i64 0, .int .u8 0, .int .i64 0] 46)).heap.size = w2.heap.size + 1 := by simp
            have hz2 : Own ((w2.alloc (.cells #[.map none, .int .i64 0, .int .u8 0, .int .i64 0] 46)).alloc (.cells #[.pointer none, .pointer (some ⟨w2.heap.size, 0, none⟩)] 27)) _ 27 [.pointer none, .pointer (some ⟨w2.heap.size, 0, none⟩)] := heap_alloc_new _ _
            have hb3 : Below w2.heap.size w2 ((w2.alloc (.cells #[.map none, .int .i64 0, .int .u8 0, .int .i64 0] 46)).alloc (.cells #[.pointer none, .pointer (some ⟨w2.heap.size, 0, none⟩)] 27)) := (below_alloc w2 _).trans ((below_alloc _ _).mono (by rw [hs2]; omega))
            have hz1 := hz1.below (below_alloc _ (.cells #[.pointer none, .pointer (some ⟨w2.heap.size, 0, none⟩)] 27)) hz1.lt
            rw [hs2] at hz2
            obtain ⟨zb, hzb⟩ : ∃ x, x = w2.heap.size := ⟨_, rfl⟩
            have HB3 := Lib.hid (HB2.out.trans (hb3.mono HB2.out.size))
            have hB3 := HB3.out
            rw [← hzb] at hz1 hz2 hB3 ⊢
            generalize (w2.alloc (.cells #[.map none, .int .i64 0, .int .u8 0, .int .i64 0] 46)).alloc (.cells #[.pointer none, .pointer (some ⟨zb, 0, none⟩)] 27) = WZ at hz1 hz2 hB3 ⊢
            have HB3 := Lib.hid hB3
            have HNul : Hid (Nul WZ (some ⟨zb, 0, none⟩)) := Lib.hid (.inr ⟨zb, rfl, hz1.cell 0 (by simp)⟩)
            obtain ⟨c0, c1⟩ : _ ∧ _ := ⟨hz2.cell 0 (by simp), hz2.cell 1 (by simp)⟩
            simp only [List.getD_cons_zero, List.getD_cons_succ] at c0 c1
            clear hz1 hz2 hs2 hb3 hB3 hzb
            go_loopw [15] (fun v wr => ∃ j : Nat, j ≤ 2 ∧ v = .int .i64 j ∧ wr = WZ) (fun v _ => 2 - (intOf v).toNat)
            case atStart => exact ⟨0, by omega, rfl, rfl⟩
            case round =>
              obtain ⟨j, hj, rfl, rfl⟩ := hrel
              rcases (show j = 0 ∨ j = 1 ∨ j = 2 by omega) with rfl | rfl | rfl
              · go_wp2_with fail
                refine (state_nul none wr (nul_none wr)).mono ?_
                rintro e w9 ⟨rfl, rfl⟩
                go_wp2_with fail
                refine (tick_nul none now wr (nul_none wr)).mono ?_
                rintro e w9 ⟨rfl, rfl⟩
                go_wp2_with fail
                refine (up_nul none now 1 wr (nul_none wr)).mono ?_
                rintro e w9 ⟨rfl, rfl⟩
                go_wp2_with fail
                refine (down_nul none 1 wr (nul_none wr)).mono ?_
                rintro e w9 ⟨rfl, rfl⟩
                go_wp2_with fail
                refine (done_nul none 1 wr (nul_none wr)).mono ?_
                rintro e w9 ⟨rfl, rfl⟩
                go_wp2
                exact ⟨⟨1, by omega, rfl, by simp⟩, by simp [intOf]⟩
              · go_wp2_with fail
                refine (state_nul _ wr HNul.out).mono ?_
                rintro e w9 ⟨rfl, rfl⟩
                go_wp2_with fail
                refine (tick_nul _ now wr HNul.out).mono ?_
                rintro e w9 ⟨rfl, rfl⟩
                go_wp2_with fail
                refine (up_nul _ now 1 wr HNul.out).mono ?_
                rintro e w9 ⟨rfl, rfl⟩
                go_wp2_with fail
                refine (down_nul _ 1 wr HNul.out).mono ?_
                rintro e w9 ⟨rfl, rfl⟩
                go_wp2_with fail
                refine (done_nul _ 1 wr HNul.out).mono ?_
                rintro e w9 ⟨rfl, rfl⟩
                go_wp2
                exact ⟨⟨2, by omega, rfl, by simp⟩, by simp [intOf]⟩
              · go_wp2_with fail
                refine (lives_any wr).mono ?_
                rintro e w8 ⟨rfl, hb⟩
                have HB8 := Lib.hid (HB3.out.trans (hb.mono HB3.out.size))
                clear hb
                go_wp2
                go_ret
                exact ⟨rfl, HB8.out⟩
        · rcases hOk with ⟨rfl, hOk⟩ | ⟨rfl, hOk⟩
          · have he : newErr l base = 0 := by rw [hnl, if_neg (by omega), if_neg hneg, if_pos hOk]
            clear hnl hOk
            as_aux_lemma =>
              have HE := Lib.hid he
              clear he
              go_wp2_with fail
              refine (new_any a i c l base W1 HR1.out HW1.out HL.out.symm (by have := HS.out; omega)).mono ?_
              rintro e w2 ⟨hb2, hn2⟩
              have HB2 := Lib.hid (HB.out.trans (hb2.mono HB.out.size))
              clear hb2
              rcases hn2 with ⟨_, mb, bm, rfl, hm, _, _⟩ | ⟨h1, _⟩
              rotate_left
              · exact absurd HE.out h1
              have HM := Lib.hid hm
              clear hm
              go_wp2_with fail
              refine (state_any w2 HM.out).mono ?_
              rintro e w3 ⟨rfl, rfl⟩
              rw [show (Mc.fresh l base).st = 0 from rfl]
              go_wp2_with fail
              have hz1 : Own (w2.alloc (.cells #[.map none, .int .i64 0, .int .u8 0, .int .i64 0] 46)) w2.heap.size 46 [.map none, .int .i64 0, .int .u8 0, .int .i64 0] := heap_alloc_new w2 _
              have hs2 : (w2.alloc (.cells #[.map none, .int .i64 0, .int .u8 0, .int .i64 0] 46)).heap.size = w2.heap.size + 1 := by simp
              have hz2 : Own ((w2.alloc (.cells #[.map none, .int .i64 0, .int .u8 0, .int .i64 0] 46)).alloc (.cells #[.pointer none, .pointer (some ⟨w2.heap.size, 0, none⟩)] 27)) _ 27 [.pointer none, .pointer (some ⟨w2.heap.size, 0, none⟩)] := heap_alloc_new _ _
              have hb3 : Below w2.heap.size w2 ((w2.alloc (.cells #[.map none, .int .i64 0, .int .u8 0, .int .i64 0] 46)).alloc (.cells #[.pointer none, .pointer (some ⟨w2.heap.size, 0, none⟩)] 27)) := (below_alloc w2 _).trans ((below_alloc _ _).mono (by rw [hs2]; omega))
              have hz1 := hz1.below (below_alloc _ (.cells #[.pointer none, .pointer (some ⟨w2.heap.size, 0, none⟩)] 27)) hz1.lt
              rw [hs2] at hz2
              obtain ⟨zb, hzb⟩ : ∃ x, x = w2.heap.size := ⟨_, rfl⟩
              have HB3 := Lib.hid (HB2.out.trans (hb3.mono HB2.out.size))
              have hB3 := HB3.out
              rw [← hzb] at hz1 hz2 hB3 ⊢
              generalize (w2.alloc (.cells #[.map none, .int .i64 0, .int .u8 0, .int .i64 0] 46)).alloc (.cells #[.pointer none, .pointer (some ⟨zb, 0, none⟩)] 27) = WZ at hz1 hz2 hB3 ⊢
              have HB3 := Lib.hid hB3
              have HNul : Hid (Nul WZ (some ⟨zb, 0, none⟩)) := Lib.hid (.inr ⟨zb, rfl, hz1.cell 0 (by simp)⟩)
              obtain ⟨c0, c1⟩ : _ ∧ _ := ⟨hz2.cell 0 (by simp), hz2.cell 1 (by simp)⟩
              simp only [List.getD_cons_zero, List.getD_cons_succ] at c0 c1
              clear hz1 hz2 hs2 hb3 hB3 hzb
              go_loopw [15] (fun v wr => ∃ j : Nat, j ≤ 2 ∧ v = .int .i64 j ∧ wr = WZ) (fun v _ => 2 - (intOf v).toNat)
              case atStart => exact ⟨0, by omega, rfl, rfl⟩
              case round =>
                obtain ⟨j, hj, rfl, rfl⟩ := hrel
                rcases (show j = 0 ∨ j = 1 ∨ j = 2 by omega) with rfl | rfl | rfl
                · go_wp2_with fail
                  refine (state_nul none wr (nul_none wr)).mono ?_
                  rintro e w9 ⟨rfl, rfl⟩
                  go_wp2_with fail
                  refine (tick_nul none now wr (nul_none wr)).mono ?_
                  rintro e w9 ⟨rfl, rfl⟩
                  go_wp2_with fail
                  refine (up_nul none now 1 wr (nul_none wr)).mono ?_
                  rintro e w9 ⟨rfl, rfl⟩
                  go_wp2_with fail
                  refine (down_nul none 1 wr (nul_none wr)).mono ?_
                  rintro e w9 ⟨rfl, rfl⟩
                  go_wp2_with fail
                  refine (done_nul none 1 wr (nul_none wr)).mono ?_
                  rintro e w9 ⟨rfl, rfl⟩
                  go_wp2
                  exact ⟨⟨1, by omega, rfl, by simp⟩, by simp [intOf]⟩
                · go_wp2_with fail
                  refine (state_nul _ wr HNul.out).mono ?_
                  rintro e w9 ⟨rfl, rfl⟩
                  go_wp2_with fail
                  refine (tick_nul _ now wr HNul.out).mono ?_
                  rintro e w9 ⟨rfl, rfl⟩
                  go_wp2_with fail
                  refine (up_nul _ now 1 wr HNul.out).mono ?_
                  rintro e w9 ⟨rfl, rfl⟩
                  go_wp2_with fail
                  refine (down_nul _ 1 wr HNul.out).mono ?_
                  rintro e w9 ⟨rfl, rfl⟩
                  go_wp2_with fail
                  refine (done_nul _ 1 wr HNul.out).mono ?_
                  rintro e w9 ⟨rfl, rfl⟩
                  go_wp2
                  exact ⟨⟨2, by omega, rfl, by simp⟩, by simp [intOf]⟩
                · go_wp2_with fail
                  refine (lives_any wr).mono ?_
                  rintro e w8 ⟨rfl, hb⟩
                  have HB8 := Lib.hid (HB3.out.trans (hb.mono HB3.out.size))
                  clear hb
                  go_wp2
                  go_ret
                  exact ⟨rfl, HB8.out⟩
          · have he : newErr l base = 1 := by rw [hnl, if_neg (by omega), if_neg hneg, if_neg hOk]
            clear hnl hOk
            as_aux_lemma =>
              have HE := Lib.hid he
              clear he
              go_wp2_with fail
              refine (new_any a i c l base W1 HR1.out HW1.out HL.out.symm (by have := HS.out; omega)).mono ?_
              rintro e w2 ⟨hb2, hn2⟩
              have HB2 := Lib.hid (HB.out.trans (hb2.mono HB.out.size))
              clear hb2
              rcases hn2 with ⟨h1, _⟩ | ⟨_, rfl⟩
              · exact absurd (HE.out.symm.trans h1) (by decide)
              rw [HE.out]
              go_wp2_with fail
              have hz1 : Own (w2.alloc (.cells #[.map none, .int .i64 0, .int .u8 0, .int .i64 0] 46)) w2.heap.size 46 [.map none, .int .i64 0, .int .u8 0, .int .i64 0] := heap_alloc_new w2 _
              have hs2 : (w2.alloc (.cells #[.map none, .int .i64 0, .int .u8 0, .int .i64 0] 46)).heap.size = w2.heap.size + 1 := by simp
              have hz2 : Own ((w2.alloc (.cells #[.map none, .int .i64 0, .int .u8 0, .int .i64 0] 46)).alloc (.cells #[.pointer none, .pointer (some ⟨w2.heap.size, 0, none⟩)] 27)) _ 27 [.pointer none, .pointer (some ⟨w2.heap.size, 0, none⟩)] := heap_alloc_new _ _
              have hb3 : Below w2.heap.size w2 ((w2.alloc (.cells #[.map none, .int .i64 0, .int .u8 0, .int .i64 0] 46)).alloc (.cells #[.pointer none, .pointer (some ⟨w2.heap.size, 0, none⟩)] 27)) := (below_alloc w2 _).trans ((below_alloc _ _).mono (by rw [hs2]; omega))
              have hz1 := hz1.below (below_alloc _ (.cells #[.pointer none, .pointer (some ⟨w2.heap.size, 0, none⟩)] 27)) hz1.lt
              rw [hs2] at hz2
              obtain ⟨zb, hzb⟩ : ∃ x, x = w2.heap.size := ⟨_, rfl⟩
              have HB3 := Lib.hid (HB2.out.trans (hb3.mono HB2.out.size))
              have hB3 := HB3.out
              rw [← hzb] at hz1 hz2 hB3 ⊢
              generalize (w2.alloc (.cells #[.map none, .int .i64 0, .int .u8 0, .int .i64 0] 46)).alloc (.cells #[.pointer none, .pointer (some ⟨zb, 0, none⟩)] 27) = WZ at hz1 hz2 hB3 ⊢
              have HB3 := Lib.hid hB3
              have HNul : Hid (Nul WZ (some ⟨zb, 0, none⟩)) := Lib.hid (.inr ⟨zb, rfl, hz1.cell 0 (by simp)⟩)
              obtain ⟨c0, c1⟩ : _ ∧ _ := ⟨hz2.cell 0 (by simp), hz2.cell 1 (by simp)⟩
              simp only [List.getD_cons_zero, List.getD_cons_succ] at c0 c1
              clear hz1 hz2 hs2 hb3 hB3 hzb
              go_loopw [15] (fun v wr => ∃ j : Nat, j ≤ 2 ∧ v = .int .i64 j ∧ wr = WZ) (fun v _ => 2 - (intOf v).toNat)
              case atStart => exact ⟨0, by omega, rfl, rfl⟩
              case round =>
                obtain ⟨j, hj, rfl, rfl⟩ := hrel
                rcases (show j = 0 ∨ j = 1 ∨ j = 2 by omega) with rfl | rfl | rfl
                · go_wp2_with fail
                  refine (state_nul none wr (nul_none wr)).mono ?_
                  rintro e w9 ⟨rfl, rfl⟩
                  go_wp2_with fail
                  refine (tick_nul none now wr (nul_none wr)).mono ?_
                  rintro e w9 ⟨rfl, rfl⟩
                  go_wp2_with fail
                  refine (up_nul none now 1 wr (nul_none wr)).mono ?_
                  rintro e w9 ⟨rfl, rfl⟩
                  go_wp2_with fail
                  refine (down_nul none 1 wr (nul_none wr)).mono ?_
                  rintro e w9 ⟨rfl, rfl⟩
                  go_wp2_with fail
                  refine (done_nul none 1 wr (nul_none wr)).mono ?_
                  rintro e w9 ⟨rfl, rfl⟩
                  go_wp2
                  exact ⟨⟨1, by omega, rfl, by simp⟩, by simp [intOf]⟩
                · go_wp2_with fail
                  refine (state_nul _ wr HNul.out).mono ?_
                  rintro e w9 ⟨rfl, rfl⟩
                  go_wp2_with fail
                  refine (tick_nul _ now wr HNul.out).mono ?_
                  rintro e w9 ⟨rfl, rfl⟩
                  go_wp2_with fail
                  refine (up_nul _ now 1 wr HNul.out).mono ?_
                  rintro e w9 ⟨rfl, rfl⟩
                  go_wp2_with fail
                  refine (down_nul _ 1 wr HNul.out).mono ?_
                  rintro e w9 ⟨rfl, rfl⟩
                  go_wp2_with fail
                  refine (done_nul _ 1 wr HNul.out).mono ?_
                  rintro e w9 ⟨rfl, rfl⟩
                  go_wp2
                  exact ⟨⟨2, by omega, rfl, by simp⟩, by simp [intOf]⟩
                · go_wp2_with fail
                  refine (lives_any wr).mono ?_
                  rintro e w8 ⟨rfl, hb⟩
                  have HB8 := Lib.hid (HB3.out.trans (hb.mono HB3.out.size))
                  clear hb
                  go_wp2
                  go_ret
                  exact ⟨rfl, HB8.out⟩
end Go.Proofs.Ytpjdodgbidkblaa
