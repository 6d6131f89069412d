/- The code's end of a link: what only looks, and clone. -/
import Derived.Test.YtdjnflfcolpccaaEaAt
import Derived.Test.YtdjnflfcolpccaaUnCheck
import Derived.Test.YtdjnflfcolpccaaUnNum
namespace Go.Proofs.Ytdjnflfcolpccaa
open Go.RowKit

set_option maxHeartbeats 1000000 in
set_option maxRecDepth 100000 in
/-- A copy without spare. -/
theorem bclone_any (a : Option Addr) (n c : Nat) (l : List Int) (w : World) (h : Row .u8 w a n c l) (hn : n ≤ 100000) :
    Calls Try.prog 30 #[.slice a n c] w fun e w' => e = .returned (.slice (some ⟨w.heap.size, 0, none⟩) n n) ∧ Below w.heap.size w w' ∧ Own w' w.heap.size 5 (nums .u8 l) := by
  have hmk := fun q => make8 n (by omega) (w.drewN q)
  have hmk0 := make8 n (by omega) w
  obtain ⟨hl, hle, hmx, hw, hc, hnil⟩ := h
  obtain ⟨cs, hcs⟩ : ∃ cs, cs = nums .u8 l := ⟨_, rfl⟩
  have hlen : cs.length = n := by rw [hcs, nums_length, hl]
  have hsrc : ∀ j v, cs[j]? = some v → ∃ b off, a = some ⟨b, off, none⟩ ∧ b < w.heap.size ∧ w.cell? ⟨b, off + j, none⟩ = some v := by
    intro j v hj
    have hjn : j < n := by
      rw [← hlen]; exact (List.getElem?_eq_some_iff.1 hj).1
    rcases hc with h0 | ⟨b, o, ha, hc⟩
    · omega
    refine ⟨b, o, ha, World.block_lt_of_cell? w _ (hc j hjn), ?_⟩
    rw [hc j hjn, ← hj, hcs, nums, List.getElem?_map, List.getD_eq_getElem?_getD, List.getElem?_eq_getElem (by omega)]
    rfl
  have HL := Lib.hid hl
  have HC := Lib.hid hcs
  have HS := Lib.hid hsrc
  have HN := Lib.hid hlen
  clear hl hw hcs hsrc hlen hc hnil hmk
  go_enter Try.func30, Try.ntmps30
  go_wp2_with (with_reducible refine wpList_copy_splice rfl (.tmp 7) (.tmp 8) 36 36 rfl 5 Try.underlying36 size8 _ _ n n n c rfl rfl w.heap.size 0 (nums .u8 (List.replicate n 0)) 5 ?_ cs ?_ ?_ ?_ ?_ w.heap.size w ?_ (Nat.le_refl _) ?_)
  · exact own_made .u8 n 5 w
  · rw [HN.out]; simp
  · intro hpos
    have h0 : cs[0]? = some cs[0] := List.getElem?_eq_getElem hpos
    obtain ⟨b, off, ha, hb, _⟩ := HS.out 0 _ h0
    refine ⟨⟨b, off, none⟩, ha, fun j v hj => ?_⟩
    obtain ⟨b', off', ha', hb', hcell⟩ := HS.out j v hj
    rw [ha] at ha'
    simp at ha'
    obtain ⟨rfl, rfl⟩ := ha'
    rw [(below_alloc w _).cell (by rw [Addr.add]; split <;> exact hb)]
    rw [← hcell]
    congr 1
    unfold Addr.add
    split <;> simp_all
  · rw [HN.out, nums_length, List.length_replicate]; omega
  · intro v hv
    rw [HC.out, nums, List.mem_map] at hv
    obtain ⟨y, _, rfl⟩ := hv
    rfl
  · exact below_alloc _ _
  · intro w' hg hb
    have HG := hg
    have HB := Lib.hid hb
    clear hg hb
    go_wp2
    go_ret
    refine ⟨rfl, HB.out, ?_⟩
    have := HG.out
    unfold Own
    rw [this]
    congr 3
    have hL := HN.out
    rw [HC.out, nums_length] at hL
    rw [splice, HC.out, nums_length, hL]
    simp [nums]
set_option maxHeartbeats 1000000 in
set_option maxRecDepth 100000 in
theorem isNone_any (b : Nat) (x : En) (L : ELay) (w : World) (h : EndL w b x L) :
    Calls Try.prog 39 #[.pointer (some ⟨b, 0, none⟩)] w fun e w' => e = .returned (.bool false) ∧ ∃ q, w' = w.drewN q := by
  obtain ⟨c0, c1, _, _, _, _, _, _, _, _, _⟩ := h.cells
  have hl1 := h.fit.lm1
  have hne : ((x.lm : Int) == 0) = false := by simp; omega
  have hne2 : ¬ (x.lm : Int) = 0 := by omega
  clear h
  go_enter Try.func39, Try.ntmps39
  go_wp2
  go_ret
  exact ⟨rfl, 0, rfl⟩
set_option maxHeartbeats 1000000 in
set_option maxRecDepth 100000 in
theorem echeck_any (b : Nat) (x : En) (L : ELay) (w : World) (h : EndL w b x L) :
    Calls Try.prog 28 #[.pointer (some ⟨b, 0, none⟩)] w fun e w' => e = .returned (.int .i64 (if x.failed then 6 else 0)) ∧ ∃ q, w' = w.drewN q := by
  have hcon := isNone_any b x L w h
  have H := Lib.hid h
  have HC := Lib.hid hcon
  clear h hcon
  go_enter Try.func28, Try.ntmps28
  go_wp2_with fail
  refine HC.out.mono ?_
  rintro e w' ⟨rfl, q, rfl⟩
  obtain ⟨_, _, _, _, _, _, _, _, _, _, c10⟩ := H.out.cells
  cases hf : x.failed
  all_goals
    rw [hf] at c10
    go_wp2
    all_goals
      go_ret
      exact ⟨rfl, q, rfl⟩
set_option maxHeartbeats 1000000 in
set_option maxRecDepth 100000 in
theorem efailed_any (b : Nat) (x : En) (L : ELay) (w : World) (h : EndL w b x L) :
    Calls Try.prog 20 #[.pointer (some ⟨b, 0, none⟩)] w fun e w' => e = .returned (.bool x.failed) ∧ ∃ q, w' = w.drewN q := by
  have hcon := isNone_any b x L w h
  have H := Lib.hid h
  have HC := Lib.hid hcon
  clear h hcon
  go_enter Try.func20, Try.ntmps20
  go_wp2_with fail
  refine HC.out.mono ?_
  rintro e w' ⟨rfl, q, rfl⟩
  obtain ⟨_, _, _, _, _, _, _, _, _, _, c10⟩ := H.out.cells
  go_wp2
  go_ret
  exact ⟨rfl, q, rfl⟩
set_option maxHeartbeats 1000000 in
set_option maxRecDepth 100000 in
theorem elast_any (b : Nat) (x : En) (L : ELay) (w : World) (h : EndL w b x L) :
    Calls Try.prog 21 #[.pointer (some ⟨b, 0, none⟩)] w fun e w' => e = .returned (.int .u8 (x.acc : Int)) ∧ ∃ q, w' = w.drewN q := by
  have hcon := isNone_any b x L w h
  have H := Lib.hid h
  have HC := Lib.hid hcon
  clear h hcon
  go_enter Try.func21, Try.ntmps21
  go_wp2_with fail
  refine HC.out.mono ?_
  rintro e w' ⟨rfl, q, rfl⟩
  obtain ⟨_, _, _, _, _, _, _, c5, _, _, _⟩ := H.out.cells
  go_wp2
  go_ret
  exact ⟨rfl, q, rfl⟩
set_option maxHeartbeats 1000000 in
set_option maxRecDepth 100000 in
theorem ewaiting_any (b : Nat) (x : En) (L : ELay) (w : World) (h : EndL w b x L) :
    Calls Try.prog 18 #[.pointer (some ⟨b, 0, none⟩)] w fun e w' => e = .returned (.tuple #[.int .i64 (x.que.length : Int), .int .i64 (x.una.length : Int)]) ∧ ∃ q, w' = w.drewN q := by
  have hcon := isNone_any b x L w h
  have H := Lib.hid h
  have HC := Lib.hid hcon
  clear h hcon
  go_enter Try.func18, Try.ntmps18
  go_wp2_with fail
  refine HC.out.mono ?_
  rintro e w' ⟨rfl, q, rfl⟩
  obtain ⟨_, _, c0, c1, _, _, _, _, _, _, _⟩ := H.out.cells
  go_wp2
  go_quiet (fail)
  go_wp2
  go_ret2
  exact ⟨rfl, q + nq, by rw [World.drewN_drewN]⟩
set_option maxHeartbeats 1000000 in
set_option maxRecDepth 100000 in
theorem covers_any (b : Nat) (x : En) (L : ELay) (w : World) (t : Nat) (h : EndL w b x L) (ht : t < 256) :
    Calls Try.prog 35 #[.pointer (some ⟨b, 0, none⟩), .int .u8 (t : Int)] w fun e w' => e = .returned (.int .i64 ((x.ahead t : Nat) : Int)) ∧ ∃ q, w' = w.drewN q := by
  obtain ⟨_, _, _, c1, _, _, c3, _, _, _, _⟩ := h.cells
  have hs := h.fit.sent
  have hu := h.fit.una
  obtain ⟨A, hA⟩ : ∃ A, A = x.acked := ⟨_, rfl⟩
  have hA2 : A < 128 := by rw [hA]; unfold En.acked; omega
  have hac : ((x.sent : Int) + -(x.una.length : Int)) % 128 = (A : Int) := by rw [hA]; unfold En.acked; omega
  have hah : ((t : Int) - (A : Int)) % 128 = ((x.ahead t : Nat) : Int) := by unfold En.ahead; rw [← hA]; omega
  have hcon : ∀ q, Calls Try.prog 48 #[.int .u8 (x.sent : Int), .int .i64 (-(x.una.length : Int))] (w.drewN q) fun e w' => e = .returned (.int .u8 (A : Int)) ∧ w' = w.drewN q := fun q => by
    have hh := after_any (x.sent : Int) (-(x.una.length : Int)) (w.drewN q) (by omega) (by omega)
    rw [hac] at hh
    exact hh.mono fun _ _ ⟨h1, h2⟩ => ⟨h1, h2.symm⟩
  have hcon2 := fun w => ahead_any (A : Int) (t : Int) w (by omega) (by omega) (by omega) (by omega)
  rw [hah] at hcon2
  have HC := Lib.hid hcon
  have HC2 := Lib.hid hcon2
  clear hcon hcon2 hac hah hA
  have hneg : IntKind.i64.wrap (-(x.una.length : Int)) = -(x.una.length : Int) := IntWalk.i64_in _ (by omega)
  go_enter Try.func35, Try.ntmps35
  go_wp2_with fail
  go_quiet ((go_at_call 48; exact Calls.quiet_of_same (HC.out _)))
  go_wp2_with fail
  refine (HC2.out _).mono ?_
  rintro e w' ⟨rfl, rfl⟩
  go_wp2
  go_ret
  exact ⟨rfl, _, rfl⟩
end Go.Proofs.Ytdjnflfcolpccaa
