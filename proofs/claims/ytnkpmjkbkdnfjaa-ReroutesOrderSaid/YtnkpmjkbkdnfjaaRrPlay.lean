/- Layer 17: an act done with a gate (play), and the same with the model (do), as one plain act. -/
import Derived.Test.YtnkpmjkbkdnfjaaRrDo
import Derived.Test.YtnkpmjkbkdnfjaaRrLives
namespace Go.Proofs.Ytnkpmjkbkdnfjaa
open Go.RowKit

/-- An act as plain data: what comes out, the error, and what the gate is then. -/
def Pn.act (s : Pn) (q : Int) (y : Wy) (now : Int) (n : Nat) : List Nat × Int × Pn :=
  if q < 3 then ([], 0, s.offer n)
  else if q < 5 then (if s.ns ≠ [] ∧ s.free now y then (s.ns, 0, s.went now y) else ([], 0, s))
  else if q = 5 then (if s.ph = 1 ∨ s.ph = 3 then ([], 6, s) else ([], 0, s.cut))
  else if q = 6 then (if s.ph = 3 then ([], 0, s.back [n, n + 1]) else ([], 6, s))
  else (s.ns, 0, s.flushed)
def PlOut (w0 w : World) (b : Nat) (x : Gt) (r : List Nat × Int × Pn) (e : Ending) (w' : World) : Prop :=
  ActOut w0 w b x r.2.2 r.1 (fun v => .tuple #[v, .int .i64 r.2.1]) e w'
theorem PlOut.nil {w0 w : World} {b : Nat} {x x' : Gt} {s' : Pn} {er : Int} {w' : World} (ht : GtTo w b x x' w') (hg : GN w0 w' b x' s') : PlOut w0 w b x ([], er, s') (.returned (.tuple #[.slice none 0 0, .int .i64 er])) w' :=
  ⟨none, [], x', rfl, rfl, Went.nil _ _ _ _, ht, hg⟩
theorem row_below {w w' : World} {a : Option Addr} {n c : Nat} {l : List Int} (h : Row .u8 w a n c l) (hb : Below w.heap.size w w') : Row .u8 w' a n c l := h.later hb
set_option maxHeartbeats 4000000 in
set_option maxRecDepth 100000 in
theorem play_offer0 (w0 w : World) (b : Nat) (x : Gt) (s : Pn) (A B C now : Int) (n : Nat) (h : GN w0 w b x s) (hA : 0 ≤ A ∧ A ≤ 255) (hB : 0 ≤ B ∧ B ≤ 255) (hq : A % 8 = 0) (hf : s.ns.length < 60000) (hn : n ≤ 60000) :
    Calls Try.prog 12 #[.pointer (some ⟨b, 0, none⟩), .agg #[.int .u8 A, .int .u8 B, .int .u8 C], .int .i64 now, .int .i64 (n : Int)] w fun e w' => PlOut w0 w b x ([], 0, s.offer n) e w' := by
  have hb0 := below_alloc w (.cells #[.int .u8 A, .int .u8 B, .int .u8 C] 38)
  have ho0 := own_lit w 38 #[.int .u8 A, .int .u8 B, .int .u8 C] _ rfl
  have hmod : A.tmod 8 = 0 := (Int.tmod_eq_emod_of_nonneg hA.1).trans hq
  have c0 := ho0.cell 0 (by simp)
  have c1 := ho0.cell 1 (by simp)
  have hg0 := h.more hb0
  have HG := Lib.hid hg0
  have HX := Lib.hid h.here
  have HO := Lib.hid (And.intro ho0 hb0)
  have HBw := Lib.hid hB
  clear ho0 hb0 hq hA hB hg0 h
  simp only [List.getD_cons_zero, List.getD_cons_succ] at c0 c1
  go_enter Try.func12, Try.ntmps12
  go_wp2_with fail
  refine (item_any n _ hn).mono ?_
  rintro e w2 ⟨g2, rfl, hr, hgg, hb2⟩
  have hg2 := HG.out.more hb2
  have hb02 := HO.out.2.trans (hb2.mono HO.out.2.size)
  have HC := Lib.hid (offerN w0 b x s n g2 w2 hg2 hf hr)
  have HB2 := Lib.hid hb02
  clear hr hgg hb2 hg2 hb02 c0 c1
  go_wp2_with fail
  refine HC.out.mono ?_
  rintro e w3 ⟨x3, rfl, ht, hg⟩
  have HR := Lib.hid (And.intro (ht.after HB2.out) hg)
  clear ht hg
  go_wp2
  go_ret2
  exact PlOut.nil HR.out.1 HR.out.2
set_option maxHeartbeats 4000000 in
set_option maxRecDepth 100000 in
theorem play_offer1 (w0 w : World) (b : Nat) (x : Gt) (s : Pn) (A B C now : Int) (n : Nat) (h : GN w0 w b x s) (hA : 0 ≤ A ∧ A ≤ 255) (hB : 0 ≤ B ∧ B ≤ 255) (hq : A % 8 = 1) (hf : s.ns.length < 60000) (hn : n ≤ 60000) :
    Calls Try.prog 12 #[.pointer (some ⟨b, 0, none⟩), .agg #[.int .u8 A, .int .u8 B, .int .u8 C], .int .i64 now, .int .i64 (n : Int)] w fun e w' => PlOut w0 w b x ([], 0, s.offer n) e w' := by
  have hb0 := below_alloc w (.cells #[.int .u8 A, .int .u8 B, .int .u8 C] 38)
  have ho0 := own_lit w 38 #[.int .u8 A, .int .u8 B, .int .u8 C] _ rfl
  have hmod : A.tmod 8 = 1 := (Int.tmod_eq_emod_of_nonneg hA.1).trans hq
  have c0 := ho0.cell 0 (by simp)
  have c1 := ho0.cell 1 (by simp)
  have hg0 := h.more hb0
  have HG := Lib.hid hg0
  have HX := Lib.hid h.here
  have HO := Lib.hid (And.intro ho0 hb0)
  have HBw := Lib.hid hB
  clear ho0 hb0 hq hA hB hg0 h
  simp only [List.getD_cons_zero, List.getD_cons_succ] at c0 c1
  go_enter Try.func12, Try.ntmps12
  go_wp2_with fail
  refine (item_any n _ hn).mono ?_
  rintro e w2 ⟨g2, rfl, hr, hgg, hb2⟩
  have hg2 := HG.out.more hb2
  have hb02 := HO.out.2.trans (hb2.mono HO.out.2.size)
  have HC := Lib.hid (offerN w0 b x s n g2 w2 hg2 hf hr)
  have HB2 := Lib.hid hb02
  clear hr hgg hb2 hg2 hb02 c0 c1
  go_wp2_with fail
  refine HC.out.mono ?_
  rintro e w3 ⟨x3, rfl, ht, hg⟩
  have HR := Lib.hid (And.intro (ht.after HB2.out) hg)
  clear ht hg
  go_wp2
  go_ret2
  exact PlOut.nil HR.out.1 HR.out.2
set_option maxHeartbeats 4000000 in
set_option maxRecDepth 100000 in
theorem play_offer2 (w0 w : World) (b : Nat) (x : Gt) (s : Pn) (A B C now : Int) (n : Nat) (h : GN w0 w b x s) (hA : 0 ≤ A ∧ A ≤ 255) (hB : 0 ≤ B ∧ B ≤ 255) (hq : A % 8 = 2) (hf : s.ns.length < 60000) (hn : n ≤ 60000) :
    Calls Try.prog 12 #[.pointer (some ⟨b, 0, none⟩), .agg #[.int .u8 A, .int .u8 B, .int .u8 C], .int .i64 now, .int .i64 (n : Int)] w fun e w' => PlOut w0 w b x ([], 0, s.offer n) e w' := by
  have hb0 := below_alloc w (.cells #[.int .u8 A, .int .u8 B, .int .u8 C] 38)
  have ho0 := own_lit w 38 #[.int .u8 A, .int .u8 B, .int .u8 C] _ rfl
  have hmod : A.tmod 8 = 2 := (Int.tmod_eq_emod_of_nonneg hA.1).trans hq
  have c0 := ho0.cell 0 (by simp)
  have c1 := ho0.cell 1 (by simp)
  have hg0 := h.more hb0
  have HG := Lib.hid hg0
  have HX := Lib.hid h.here
  have HO := Lib.hid (And.intro ho0 hb0)
  have HBw := Lib.hid hB
  clear ho0 hb0 hq hA hB hg0 h
  simp only [List.getD_cons_zero, List.getD_cons_succ] at c0 c1
  go_enter Try.func12, Try.ntmps12
  go_wp2_with fail
  refine (item_any n _ hn).mono ?_
  rintro e w2 ⟨g2, rfl, hr, hgg, hb2⟩
  have hg2 := HG.out.more hb2
  have hb02 := HO.out.2.trans (hb2.mono HO.out.2.size)
  have HC := Lib.hid (offerN w0 b x s n g2 w2 hg2 hf hr)
  have HB2 := Lib.hid hb02
  clear hr hgg hb2 hg2 hb02 c0 c1
  go_wp2_with fail
  refine HC.out.mono ?_
  rintro e w3 ⟨x3, rfl, ht, hg⟩
  have HR := Lib.hid (And.intro (ht.after HB2.out) hg)
  clear ht hg
  go_wp2
  go_ret2
  exact PlOut.nil HR.out.1 HR.out.2
set_option maxHeartbeats 4000000 in
set_option maxRecDepth 100000 in
theorem play_no3 (w0 w : World) (b : Nat) (x : Gt) (s : Pn) (A B C now : Int) (n : Nat) (h : GN w0 w b x s) (hA : 0 ≤ A ∧ A ≤ 255) (hB : 0 ≤ B ∧ B ≤ 255) (hq : A % 8 = 3) (hf : s.ns = [] ∨ ¬ s.free now (wayN B)) :
    Calls Try.prog 12 #[.pointer (some ⟨b, 0, none⟩), .agg #[.int .u8 A, .int .u8 B, .int .u8 C], .int .i64 now, .int .i64 (n : Int)] w fun e w' => PlOut w0 w b x ([], 0, s) e w' := by
  have hb0 := below_alloc w (.cells #[.int .u8 A, .int .u8 B, .int .u8 C] 38)
  have ho0 := own_lit w 38 #[.int .u8 A, .int .u8 B, .int .u8 C] _ rfl
  have hmod : A.tmod 8 = 3 := (Int.tmod_eq_emod_of_nonneg hA.1).trans hq
  have c0 := ho0.cell 0 (by simp)
  have c1 := ho0.cell 1 (by simp)
  have hg0 := h.more hb0
  have HG := Lib.hid hg0
  have HX := Lib.hid h.here
  have HO := Lib.hid (And.intro ho0 hb0)
  have HBw := Lib.hid hB
  clear ho0 hb0 hq hA hB hg0 h
  simp only [List.getD_cons_zero, List.getD_cons_succ] at c0 c1
  go_enter Try.func12, Try.ntmps12
  go_wp2_with fail
  refine (wayN_any B _ HBw.out.1 HBw.out.2).mono ?_
  rintro e w2 ⟨rfl, hb2⟩
  have hg2 := HG.out.more hb2
  have hb02 := HO.out.2.trans (hb2.mono HO.out.2.size)
  have HB2 := Lib.hid hb02
  have HC := Lib.hid (passN_no w0 b x s now _ _ _ _ w2 hg2 hf)
  clear hb2 hg2 hb02 c0 c1
  go_wp2_with fail
  refine HC.out.mono ?_
  rintro e w3 ⟨a3, C3, x3, rfl, hC, hoff, ht, hg⟩
  have HR := Lib.hid (And.intro (ht.after HB2.out) (And.intro hg (And.intro hC hoff)))
  clear ht hg hC hoff
  simp only [id]
  go_wp2
  go_ret2
  exact ⟨a3, C3, x3, rfl, HR.out.2.2.1, HR.out.2.2.2, HR.out.1, HR.out.2.1⟩
set_option maxHeartbeats 4000000 in
set_option maxRecDepth 100000 in
theorem play_ok3 (w0 w : World) (b : Nat) (x : Gt) (s : Pn) (A B C now : Int) (n : Nat) (h : GN w0 w b x s) (hA : 0 ≤ A ∧ A ≤ 255) (hB : 0 ≤ B ∧ B ≤ 255) (hq : A % 8 = 3) (hn0 : s.ns ≠ []) (hf : s.free now (wayN B)) (hw : -9223372036854775808 ≤ now ∧ now ≤ 9223372036854775807) :
    Calls Try.prog 12 #[.pointer (some ⟨b, 0, none⟩), .agg #[.int .u8 A, .int .u8 B, .int .u8 C], .int .i64 now, .int .i64 (n : Int)] w fun e w' => PlOut w0 w b x (s.ns, 0, s.went now (wayN B)) e w' := by
  have hb0 := below_alloc w (.cells #[.int .u8 A, .int .u8 B, .int .u8 C] 38)
  have ho0 := own_lit w 38 #[.int .u8 A, .int .u8 B, .int .u8 C] _ rfl
  have hmod : A.tmod 8 = 3 := (Int.tmod_eq_emod_of_nonneg hA.1).trans hq
  have c0 := ho0.cell 0 (by simp)
  have c1 := ho0.cell 1 (by simp)
  have hg0 := h.more hb0
  have HG := Lib.hid hg0
  have HX := Lib.hid h.here
  have HO := Lib.hid (And.intro ho0 hb0)
  have HBw := Lib.hid hB
  clear ho0 hb0 hq hA hB hg0 h
  simp only [List.getD_cons_zero, List.getD_cons_succ] at c0 c1
  go_enter Try.func12, Try.ntmps12
  go_wp2_with fail
  refine (wayN_any B _ HBw.out.1 HBw.out.2).mono ?_
  rintro e w2 ⟨rfl, hb2⟩
  have hg2 := HG.out.more hb2
  have hb02 := HO.out.2.trans (hb2.mono HO.out.2.size)
  have HB2 := Lib.hid hb02
  have HC := Lib.hid (passN_ok w0 b x s now _ _ _ _ w2 hg2 hn0 hf hw)
  clear hb2 hg2 hb02 c0 c1
  go_wp2_with fail
  refine HC.out.mono ?_
  rintro e w3 ⟨a3, C3, x3, rfl, hC, hoff, ht, hg⟩
  have HR := Lib.hid (And.intro (ht.after HB2.out) (And.intro hg (And.intro hC hoff)))
  clear ht hg hC hoff
  simp only [id]
  go_wp2
  go_ret2
  exact ⟨a3, C3, x3, rfl, HR.out.2.2.1, HR.out.2.2.2, HR.out.1, HR.out.2.1⟩
set_option maxHeartbeats 4000000 in
set_option maxRecDepth 100000 in
theorem play_no4 (w0 w : World) (b : Nat) (x : Gt) (s : Pn) (A B C now : Int) (n : Nat) (h : GN w0 w b x s) (hA : 0 ≤ A ∧ A ≤ 255) (hB : 0 ≤ B ∧ B ≤ 255) (hq : A % 8 = 4) (hf : s.ns = [] ∨ ¬ s.free now (wayN B)) :
    Calls Try.prog 12 #[.pointer (some ⟨b, 0, none⟩), .agg #[.int .u8 A, .int .u8 B, .int .u8 C], .int .i64 now, .int .i64 (n : Int)] w fun e w' => PlOut w0 w b x ([], 0, s) e w' := by
  have hb0 := below_alloc w (.cells #[.int .u8 A, .int .u8 B, .int .u8 C] 38)
  have ho0 := own_lit w 38 #[.int .u8 A, .int .u8 B, .int .u8 C] _ rfl
  have hmod : A.tmod 8 = 4 := (Int.tmod_eq_emod_of_nonneg hA.1).trans hq
  have c0 := ho0.cell 0 (by simp)
  have c1 := ho0.cell 1 (by simp)
  have hg0 := h.more hb0
  have HG := Lib.hid hg0
  have HX := Lib.hid h.here
  have HO := Lib.hid (And.intro ho0 hb0)
  have HBw := Lib.hid hB
  clear ho0 hb0 hq hA hB hg0 h
  simp only [List.getD_cons_zero, List.getD_cons_succ] at c0 c1
  go_enter Try.func12, Try.ntmps12
  go_wp2_with fail
  refine (wayN_any B _ HBw.out.1 HBw.out.2).mono ?_
  rintro e w2 ⟨rfl, hb2⟩
  have hg2 := HG.out.more hb2
  have hb02 := HO.out.2.trans (hb2.mono HO.out.2.size)
  have HB2 := Lib.hid hb02
  have HC := Lib.hid (passN_no w0 b x s now _ _ _ _ w2 hg2 hf)
  clear hb2 hg2 hb02 c0 c1
  go_wp2_with fail
  refine HC.out.mono ?_
  rintro e w3 ⟨a3, C3, x3, rfl, hC, hoff, ht, hg⟩
  have HR := Lib.hid (And.intro (ht.after HB2.out) (And.intro hg (And.intro hC hoff)))
  clear ht hg hC hoff
  simp only [id]
  go_wp2
  go_ret2
  exact ⟨a3, C3, x3, rfl, HR.out.2.2.1, HR.out.2.2.2, HR.out.1, HR.out.2.1⟩
set_option maxHeartbeats 4000000 in
set_option maxRecDepth 100000 in
theorem play_ok4 (w0 w : World) (b : Nat) (x : Gt) (s : Pn) (A B C now : Int) (n : Nat) (h : GN w0 w b x s) (hA : 0 ≤ A ∧ A ≤ 255) (hB : 0 ≤ B ∧ B ≤ 255) (hq : A % 8 = 4) (hn0 : s.ns ≠ []) (hf : s.free now (wayN B)) (hw : -9223372036854775808 ≤ now ∧ now ≤ 9223372036854775807) :
    Calls Try.prog 12 #[.pointer (some ⟨b, 0, none⟩), .agg #[.int .u8 A, .int .u8 B, .int .u8 C], .int .i64 now, .int .i64 (n : Int)] w fun e w' => PlOut w0 w b x (s.ns, 0, s.went now (wayN B)) e w' := by
  have hb0 := below_alloc w (.cells #[.int .u8 A, .int .u8 B, .int .u8 C] 38)
  have ho0 := own_lit w 38 #[.int .u8 A, .int .u8 B, .int .u8 C] _ rfl
  have hmod : A.tmod 8 = 4 := (Int.tmod_eq_emod_of_nonneg hA.1).trans hq
  have c0 := ho0.cell 0 (by simp)
  have c1 := ho0.cell 1 (by simp)
  have hg0 := h.more hb0
  have HG := Lib.hid hg0
  have HX := Lib.hid h.here
  have HO := Lib.hid (And.intro ho0 hb0)
  have HBw := Lib.hid hB
  clear ho0 hb0 hq hA hB hg0 h
  simp only [List.getD_cons_zero, List.getD_cons_succ] at c0 c1
  go_enter Try.func12, Try.ntmps12
  go_wp2_with fail
  refine (wayN_any B _ HBw.out.1 HBw.out.2).mono ?_
  rintro e w2 ⟨rfl, hb2⟩
  have hg2 := HG.out.more hb2
  have hb02 := HO.out.2.trans (hb2.mono HO.out.2.size)
  have HB2 := Lib.hid hb02
  have HC := Lib.hid (passN_ok w0 b x s now _ _ _ _ w2 hg2 hn0 hf hw)
  clear hb2 hg2 hb02 c0 c1
  go_wp2_with fail
  refine HC.out.mono ?_
  rintro e w3 ⟨a3, C3, x3, rfl, hC, hoff, ht, hg⟩
  have HR := Lib.hid (And.intro (ht.after HB2.out) (And.intro hg (And.intro hC hoff)))
  clear ht hg hC hoff
  simp only [id]
  go_wp2
  go_ret2
  exact ⟨a3, C3, x3, rfl, HR.out.2.2.1, HR.out.2.2.2, HR.out.1, HR.out.2.1⟩
set_option maxHeartbeats 4000000 in
set_option maxRecDepth 100000 in
theorem play_cut_bad (w0 w : World) (b : Nat) (x : Gt) (s : Pn) (A B C now : Int) (n : Nat) (h : GN w0 w b x s) (hA : 0 ≤ A ∧ A ≤ 255) (hB : 0 ≤ B ∧ B ≤ 255) (hq : A % 8 = 5) (hp : s.ph = 1 ∨ s.ph = 3) :
    Calls Try.prog 12 #[.pointer (some ⟨b, 0, none⟩), .agg #[.int .u8 A, .int .u8 B, .int .u8 C], .int .i64 now, .int .i64 (n : Int)] w fun e w' => PlOut w0 w b x ([], 6, s) e w' := by
  have hb0 := below_alloc w (.cells #[.int .u8 A, .int .u8 B, .int .u8 C] 38)
  have ho0 := own_lit w 38 #[.int .u8 A, .int .u8 B, .int .u8 C] _ rfl
  have hmod : A.tmod 8 = 5 := (Int.tmod_eq_emod_of_nonneg hA.1).trans hq
  have c0 := ho0.cell 0 (by simp)
  have c1 := ho0.cell 1 (by simp)
  have hg0 := h.more hb0
  have HG := Lib.hid hg0
  have HX := Lib.hid h.here
  have HO := Lib.hid (And.intro ho0 hb0)
  have HBw := Lib.hid hB
  clear ho0 hb0 hq hA hB hg0 h
  simp only [List.getD_cons_zero, List.getD_cons_succ] at c0 c1
  go_enter Try.func12, Try.ntmps12
  have HC := Lib.hid (cutN_bad w0 b x s _ HG.out hp)
  clear c1
  go_wp2_with fail
  refine HC.out.mono ?_
  rintro e w3 ⟨x3, rfl, ht, hg⟩
  have HR := Lib.hid (And.intro (ht.after HO.out.2) hg)
  clear ht hg c0
  go_wp2
  go_ret2
  exact PlOut.nil HR.out.1 HR.out.2
set_option maxHeartbeats 4000000 in
set_option maxRecDepth 100000 in
theorem play_cut_ok (w0 w : World) (b : Nat) (x : Gt) (s : Pn) (A B C now : Int) (n : Nat) (h : GN w0 w b x s) (hA : 0 ≤ A ∧ A ≤ 255) (hB : 0 ≤ B ∧ B ≤ 255) (hq : A % 8 = 5) (hp1 : s.ph ≠ 1) (hp3 : s.ph ≠ 3) :
    Calls Try.prog 12 #[.pointer (some ⟨b, 0, none⟩), .agg #[.int .u8 A, .int .u8 B, .int .u8 C], .int .i64 now, .int .i64 (n : Int)] w fun e w' => PlOut w0 w b x ([], 0, s.cut) e w' := by
  have hb0 := below_alloc w (.cells #[.int .u8 A, .int .u8 B, .int .u8 C] 38)
  have ho0 := own_lit w 38 #[.int .u8 A, .int .u8 B, .int .u8 C] _ rfl
  have hmod : A.tmod 8 = 5 := (Int.tmod_eq_emod_of_nonneg hA.1).trans hq
  have c0 := ho0.cell 0 (by simp)
  have c1 := ho0.cell 1 (by simp)
  have hg0 := h.more hb0
  have HG := Lib.hid hg0
  have HX := Lib.hid h.here
  have HO := Lib.hid (And.intro ho0 hb0)
  have HBw := Lib.hid hB
  clear ho0 hb0 hq hA hB hg0 h
  simp only [List.getD_cons_zero, List.getD_cons_succ] at c0 c1
  go_enter Try.func12, Try.ntmps12
  have HC := Lib.hid (cutN_ok w0 b x s _ HG.out hp1 hp3)
  clear c1
  go_wp2_with fail
  refine HC.out.mono ?_
  rintro e w3 ⟨x3, rfl, ht, hg⟩
  have HR := Lib.hid (And.intro (ht.after HO.out.2) hg)
  clear ht hg c0
  go_wp2
  go_ret2
  exact PlOut.nil HR.out.1 HR.out.2
set_option maxHeartbeats 4000000 in
set_option maxRecDepth 100000 in
theorem play_flush (w0 w : World) (b : Nat) (x : Gt) (s : Pn) (A B C now : Int) (n : Nat) (h : GN w0 w b x s) (hA : 0 ≤ A ∧ A ≤ 255) (hB : 0 ≤ B ∧ B ≤ 255) (hq : A % 8 = 7) :
    Calls Try.prog 12 #[.pointer (some ⟨b, 0, none⟩), .agg #[.int .u8 A, .int .u8 B, .int .u8 C], .int .i64 now, .int .i64 (n : Int)] w fun e w' => PlOut w0 w b x (s.ns, 0, s.flushed) e w' := by
  have hb0 := below_alloc w (.cells #[.int .u8 A, .int .u8 B, .int .u8 C] 38)
  have ho0 := own_lit w 38 #[.int .u8 A, .int .u8 B, .int .u8 C] _ rfl
  have hmod : A.tmod 8 = 7 := (Int.tmod_eq_emod_of_nonneg hA.1).trans hq
  have c0 := ho0.cell 0 (by simp)
  have c1 := ho0.cell 1 (by simp)
  have hg0 := h.more hb0
  have HG := Lib.hid hg0
  have HX := Lib.hid h.here
  have HO := Lib.hid (And.intro ho0 hb0)
  have HBw := Lib.hid hB
  clear ho0 hb0 hq hA hB hg0 h
  simp only [List.getD_cons_zero, List.getD_cons_succ] at c0 c1
  go_enter Try.func12, Try.ntmps12
  have HC := Lib.hid (flushN w0 b x s _ HG.out)
  clear c1
  go_wp2_with fail
  refine HC.out.mono ?_
  rintro e w3 ⟨a3, C3, x3, rfl, hC, hoff, ht, hg⟩
  have HR := Lib.hid (And.intro (ht.after HO.out.2) (And.intro hg (And.intro hC hoff)))
  clear ht hg hC hoff c0
  simp only [id]
  go_wp2
  go_ret2
  exact ⟨a3, C3, x3, rfl, HR.out.2.2.1, HR.out.2.2.2, HR.out.1, HR.out.2.1⟩
set_option maxHeartbeats 4000000 in
set_option maxRecDepth 100000 in
theorem play_back_bad (w0 w : World) (b : Nat) (x : Gt) (s : Pn) (A B C now : Int) (n : Nat) (h : GN w0 w b x s) (hA : 0 ≤ A ∧ A ≤ 255) (hB : 0 ≤ B ∧ B ≤ 255) (hq : A % 8 = 6) (hp : s.ph ≠ 3) (hn : n + 1 ≤ 60000) :
    Calls Try.prog 12 #[.pointer (some ⟨b, 0, none⟩), .agg #[.int .u8 A, .int .u8 B, .int .u8 C], .int .i64 now, .int .i64 (n : Int)] w fun e w' => PlOut w0 w b x ([], 6, s) e w' := by
  have hb0 := below_alloc w (.cells #[.int .u8 A, .int .u8 B, .int .u8 C] 38)
  have ho0 := own_lit w 38 #[.int .u8 A, .int .u8 B, .int .u8 C] _ rfl
  have hmod : A.tmod 8 = 6 := (Int.tmod_eq_emod_of_nonneg hA.1).trans hq
  have c0 := ho0.cell 0 (by simp)
  have c1 := ho0.cell 1 (by simp)
  have hg0 := h.more hb0
  have HG := Lib.hid hg0
  have HX := Lib.hid h.here
  have HO := Lib.hid (And.intro ho0 hb0)
  have HBw := Lib.hid hB
  clear ho0 hb0 hq hA hB hg0 h
  simp only [List.getD_cons_zero, List.getD_cons_succ] at c0 c1
  go_enter Try.func12, Try.ntmps12
  have hw1 : IntKind.i64.wrap ((n : Int) + 1) = ((n + 1 : Nat) : Int) := by rw [IntWalk.i64_in _ (by omega)]; push_cast; rfl
  have hn2 : n + 1 ≤ 60000 := hn
  obtain ⟨n1, hn1⟩ : ∃ n1, n1 = n + 1 := ⟨_, rfl⟩
  rw [← hn1] at hw1 hn2
  have HN1 := Lib.hid hn1
  clear hn1
  go_wp2_with fail
  refine (item_any n _ (by omega)).mono ?_
  rintro e w2 ⟨g2, rfl, hr2, hgg, hb2⟩
  have HB2 := Lib.hid (HO.out.2.trans (hb2.mono HO.out.2.size))
  have HG2 := Lib.hid (HG.out.more hb2)
  have HR2 := Lib.hid hr2
  clear hr2 hgg hb2 c0 c1
  go_wp2_with fail
  refine (item_any n1 _ hn2).mono ?_
  rintro e w3 ⟨g3, rfl, hr3, hgg, hb3⟩
  have hA := arg_two n n1 g2 g3 w3 (HR2.out.later hb3) hr3
  have hb34 := below_alloc w3 (.cells #[.int .i64 (n : Int), .int .u8 5, .int .u8 0, .int .u8 0, .int .u16 0, .int .u16 0, .int .u8 0, .slice (some ⟨g2, 0, none⟩) 1 1, .int .i64 (n1 : Int), .int .u8 5, .int .u8 0, .int .u8 0, .int .u16 0, .int .u16 0, .int .u8 0, .slice (some ⟨g3, 0, none⟩) 1 1] 56)
  have hb24 := hb3.trans (hb34.mono hb3.size)
  have HB4 := Lib.hid (HB2.out.trans (hb24.mono HB2.out.size))
  have HG4 := Lib.hid (HG2.out.more hb24)
  have HA := Lib.hid hA
  clear hr3 hgg hb3 hb34 hb24 hA HR2
  have HC := Lib.hid (returnN_bad w0 b x s (some ⟨w3.heap.size, 0, none⟩) 2 2 _ HG4.out hp)
  go_wp2_with fail
  refine HC.out.mono ?_
  rintro e w5 ⟨x5, rfl, ht, hg⟩
  have HR := Lib.hid (And.intro (ht.after HB4.out) hg)
  clear ht hg
  go_wp2
  go_ret2
  exact PlOut.nil HR.out.1 HR.out.2
set_option maxHeartbeats 4000000 in
set_option maxRecDepth 100000 in
theorem play_back_ok (w0 w : World) (b : Nat) (x : Gt) (s : Pn) (A B C now : Int) (n : Nat) (h : GN w0 w b x s) (hA : 0 ≤ A ∧ A ≤ 255) (hB : 0 ≤ B ∧ B ≤ 255) (hq : A % 8 = 6) (hp : s.ph = 3) (hn : n + 1 ≤ 60000) (hf : 2 + s.ns.length ≤ 60000) :
    Calls Try.prog 12 #[.pointer (some ⟨b, 0, none⟩), .agg #[.int .u8 A, .int .u8 B, .int .u8 C], .int .i64 now, .int .i64 (n : Int)] w fun e w' => PlOut w0 w b x ([], 0, s.back [n, n + 1]) e w' := by
  have hb0 := below_alloc w (.cells #[.int .u8 A, .int .u8 B, .int .u8 C] 38)
  have ho0 := own_lit w 38 #[.int .u8 A, .int .u8 B, .int .u8 C] _ rfl
  have hmod : A.tmod 8 = 6 := (Int.tmod_eq_emod_of_nonneg hA.1).trans hq
  have c0 := ho0.cell 0 (by simp)
  have c1 := ho0.cell 1 (by simp)
  have hg0 := h.more hb0
  have HG := Lib.hid hg0
  have HX := Lib.hid h.here
  have HO := Lib.hid (And.intro ho0 hb0)
  have HBw := Lib.hid hB
  clear ho0 hb0 hq hA hB hg0 h
  simp only [List.getD_cons_zero, List.getD_cons_succ] at c0 c1
  go_enter Try.func12, Try.ntmps12
  have hw1 : IntKind.i64.wrap ((n : Int) + 1) = ((n + 1 : Nat) : Int) := by rw [IntWalk.i64_in _ (by omega)]; push_cast; rfl
  have hn2 : n + 1 ≤ 60000 := hn
  obtain ⟨n1, hn1⟩ : ∃ n1, n1 = n + 1 := ⟨_, rfl⟩
  rw [← hn1] at hw1 hn2
  have HN1 := Lib.hid hn1
  clear hn1
  go_wp2_with fail
  refine (item_any n _ (by omega)).mono ?_
  rintro e w2 ⟨g2, rfl, hr2, hgg, hb2⟩
  have HB2 := Lib.hid (HO.out.2.trans (hb2.mono HO.out.2.size))
  have HG2 := Lib.hid (HG.out.more hb2)
  have HR2 := Lib.hid hr2
  clear hr2 hgg hb2 c0 c1
  go_wp2_with fail
  refine (item_any n1 _ hn2).mono ?_
  rintro e w3 ⟨g3, rfl, hr3, hgg, hb3⟩
  have hA := arg_two n n1 g2 g3 w3 (HR2.out.later hb3) hr3
  have hb34 := below_alloc w3 (.cells #[.int .i64 (n : Int), .int .u8 5, .int .u8 0, .int .u8 0, .int .u16 0, .int .u16 0, .int .u8 0, .slice (some ⟨g2, 0, none⟩) 1 1, .int .i64 (n1 : Int), .int .u8 5, .int .u8 0, .int .u8 0, .int .u16 0, .int .u16 0, .int .u8 0, .slice (some ⟨g3, 0, none⟩) 1 1] 56)
  have hb24 := hb3.trans (hb34.mono hb3.size)
  have HB4 := Lib.hid (HB2.out.trans (hb24.mono HB2.out.size))
  have HG4 := Lib.hid (HG2.out.more hb24)
  have HA := Lib.hid hA
  clear hr3 hgg hb3 hb34 hb24 hA HR2
  have HC := Lib.hid (returnN w0 b x s (some ⟨w3.heap.size, 0, none⟩) 2 2 [n, n1] _ _ _ HG4.out hp HA.out rfl hf)
  go_wp2_with fail
  refine HC.out.mono ?_
  rintro e w5 ⟨x5, rfl, ht, hg⟩
  have HR := Lib.hid (And.intro (ht.after HB4.out) hg)
  clear ht hg
  go_wp2
  go_ret2
  have hR := HR.out
  rw [HN1.out] at hR
  exact PlOut.nil hR.1 hR.2
theorem mod8 (A : Int) : A % 8 = 0 ∨ A % 8 = 1 ∨ A % 8 = 2 ∨ A % 8 = 3 ∨ A % 8 = 4 ∨ A % 8 = 5 ∨ A % 8 = 6 ∨ A % 8 = 7 := by omega
theorem play_any (w0 w : World) (b : Nat) (x : Gt) (s : Pn) (A B C now : Int) (n : Nat) (h : GN w0 w b x s) (hA : 0 ≤ A ∧ A ≤ 255) (hB : 0 ≤ B ∧ B ≤ 255) (hf : s.ns.length ≤ 50000) (hn : n + 1 ≤ 60000) (hw : -9223372036854775808 ≤ now ∧ now ≤ 9223372036854775807) :
    Calls Try.prog 12 #[.pointer (some ⟨b, 0, none⟩), .agg #[.int .u8 A, .int .u8 B, .int .u8 C], .int .i64 now, .int .i64 (n : Int)] w fun e w' => PlOut w0 w b x (s.act (A % 8) (wayN B) now n) e w' := by
  have hf1 : s.ns.length < 60000 := by omega
  have hn1 : n ≤ 60000 := by omega
  rcases mod8 A with hq | hq | hq | hq | hq | hq | hq | hq
  · rw [show s.act (A % 8) (wayN B) now n = ([], 0, s.offer n) by rw [hq]; rfl]
    exact play_offer0 w0 w b x s A B C now n h hA hB hq hf1 hn1
  · rw [show s.act (A % 8) (wayN B) now n = ([], 0, s.offer n) by rw [hq]; rfl]
    exact play_offer1 w0 w b x s A B C now n h hA hB hq hf1 hn1
  · rw [show s.act (A % 8) (wayN B) now n = ([], 0, s.offer n) by rw [hq]; rfl]
    exact play_offer2 w0 w b x s A B C now n h hA hB hq hf1 hn1
  · by_cases hc : s.ns ≠ [] ∧ s.free now (wayN B)
    · rw [show s.act (A % 8) (wayN B) now n = (s.ns, 0, s.went now (wayN B)) by rw [hq]; exact if_pos hc]
      exact play_ok3 w0 w b x s A B C now n h hA hB hq hc.1 hc.2 hw
    · rw [show s.act (A % 8) (wayN B) now n = ([], 0, s) by rw [hq]; exact if_neg hc]
      exact play_no3 w0 w b x s A B C now n h hA hB hq (by by_cases h0 : s.ns = []; exact .inl h0; exact .inr fun hh => hc ⟨h0, hh⟩)
  · by_cases hc : s.ns ≠ [] ∧ s.free now (wayN B)
    · rw [show s.act (A % 8) (wayN B) now n = (s.ns, 0, s.went now (wayN B)) by rw [hq]; exact if_pos hc]
      exact play_ok4 w0 w b x s A B C now n h hA hB hq hc.1 hc.2 hw
    · rw [show s.act (A % 8) (wayN B) now n = ([], 0, s) by rw [hq]; exact if_neg hc]
      exact play_no4 w0 w b x s A B C now n h hA hB hq (by by_cases h0 : s.ns = []; exact .inl h0; exact .inr fun hh => hc ⟨h0, hh⟩)
  · by_cases hc : s.ph = 1 ∨ s.ph = 3
    · rw [show s.act (A % 8) (wayN B) now n = ([], 6, s) by rw [hq]; exact if_pos hc]
      exact play_cut_bad w0 w b x s A B C now n h hA hB hq hc
    · rw [show s.act (A % 8) (wayN B) now n = ([], 0, s.cut) by rw [hq]; exact if_neg hc]
      exact play_cut_ok w0 w b x s A B C now n h hA hB hq (fun h0 => hc (.inl h0)) (fun h0 => hc (.inr h0))
  · by_cases hc : s.ph = 3
    · rw [show s.act (A % 8) (wayN B) now n = ([], 0, s.back [n, n + 1]) by rw [hq]; exact if_pos hc]
      exact play_back_ok w0 w b x s A B C now n h hA hB hq hc hn (by omega)
    · rw [show s.act (A % 8) (wayN B) now n = ([], 6, s) by rw [hq]; exact if_neg hc]
      exact play_back_bad w0 w b x s A B C now n h hA hB hq hc hn
  · rw [show s.act (A % 8) (wayN B) now n = (s.ns, 0, s.flushed) by rw [hq]; rfl]
    exact play_flush w0 w b x s A B C now n h hA hB hq
theorem do_any (w : World) (mb : Nat) (s : Pn) (g : Option Nat) (a : Option Addr) (c : Nat) (A B C now : Int) (n : Nat) (h : MdAt w mb s g a c) (hA : 0 ≤ A ∧ A ≤ 255) (hB : 0 ≤ B ∧ B ≤ 255) (hh : s.hold ≤ 255 ∧ 0 ≤ s.hold ∧ s.last ≤ 1000000 ∧ 0 ≤ s.last) (hf : s.ns.length ≤ 50000) (hn : n + 1 ≤ 60000) (hl : ∀ k ∈ s.ns, k ≤ 60000) :
    Calls Try.prog 11 #[.pointer (some ⟨mb, 0, none⟩), .agg #[.int .u8 A, .int .u8 B, .int .u8 C], .int .i64 now, .int .i64 (n : Int)] w fun e w' => MdOut w mb g (s.act (A % 8) (wayN B) now n).2.2 (s.act (A % 8) (wayN B) now n).1 (s.act (A % 8) (wayN B) now n).2.1 e w' := by
  have hf1 : s.ns.length < 60000 := by omega
  have hn1 : n ≤ 60000 := by omega
  rcases mod8 A with hq | hq | hq | hq | hq | hq | hq | hq
  · rw [show s.act (A % 8) (wayN B) now n = ([], 0, s.offer n) by rw [hq]; rfl]
    exact do_offer0 w mb s g a c A B C now n h hA hB hq hf1 hn1 hl
  · rw [show s.act (A % 8) (wayN B) now n = ([], 0, s.offer n) by rw [hq]; rfl]
    exact do_offer1 w mb s g a c A B C now n h hA hB hq hf1 hn1 hl
  · rw [show s.act (A % 8) (wayN B) now n = ([], 0, s.offer n) by rw [hq]; rfl]
    exact do_offer2 w mb s g a c A B C now n h hA hB hq hf1 hn1 hl
  · by_cases hc : s.ns ≠ [] ∧ s.free now (wayN B)
    · rw [show s.act (A % 8) (wayN B) now n = (s.ns, 0, s.went now (wayN B)) by rw [hq]; exact if_pos hc]
      exact do_pass_ok3 w mb s g a c A B C now n h hA hB hq hh hl hc.1 hc.2
    · rw [show s.act (A % 8) (wayN B) now n = ([], 0, s) by rw [hq]; exact if_neg hc]
      exact do_pass_no3 w mb s g a c A B C now n h hA hB hq hh (by by_cases h0 : s.ns = []; exact .inl h0; exact .inr fun hh => hc ⟨h0, hh⟩)
  · by_cases hc : s.ns ≠ [] ∧ s.free now (wayN B)
    · rw [show s.act (A % 8) (wayN B) now n = (s.ns, 0, s.went now (wayN B)) by rw [hq]; exact if_pos hc]
      exact do_pass_ok4 w mb s g a c A B C now n h hA hB hq hh hl hc.1 hc.2
    · rw [show s.act (A % 8) (wayN B) now n = ([], 0, s) by rw [hq]; exact if_neg hc]
      exact do_pass_no4 w mb s g a c A B C now n h hA hB hq hh (by by_cases h0 : s.ns = []; exact .inl h0; exact .inr fun hh => hc ⟨h0, hh⟩)
  · by_cases hc : s.ph = 1 ∨ s.ph = 3
    · rw [show s.act (A % 8) (wayN B) now n = ([], 6, s) by rw [hq]; exact if_pos hc]
      rcases hc with hc | hc
      · exact do_cut_bad1 w mb s g a c A B C now n h hA hB hq hc
      · exact do_cut_bad3 w mb s g a c A B C now n h hA hB hq hc
    · rw [show s.act (A % 8) (wayN B) now n = ([], 0, s.cut) by rw [hq]; exact if_neg hc]
      exact do_cut_ok w mb s g a c A B C now n h hA hB hq (fun h0 => hc (.inl h0)) (fun h0 => hc (.inr h0))
  · by_cases hc : s.ph = 3
    · rw [show s.act (A % 8) (wayN B) now n = ([], 0, s.back [n, n + 1]) by rw [hq]; exact if_pos hc]
      exact do_back_ok w mb s g a c A B C now n h hA hB hq hc hf1 hn1 hl
    · rw [show s.act (A % 8) (wayN B) now n = ([], 6, s) by rw [hq]; exact if_neg hc]
      exact do_back_bad w mb s g a c A B C now n h hA hB hq hc
  · rw [show s.act (A % 8) (wayN B) now n = (s.ns, 0, s.flushed) by rw [hq]; rfl]
    exact do_flush w mb s g a c A B C now n h hA hB hq hl
end Go.Proofs.Ytnkpmjkbkdnfjaa
