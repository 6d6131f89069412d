/- The plain mathematics of the check sequence: a register as a natural number. -/
namespace Go.Proofs.YtkalpjccfknopaaDoor.Crc
/-- The register behind a bit 0. -/
def sh (r : Nat) : Nat := (r >>> 1) ^^^ (if r.testBit 0 then 33800 else 0)
def shn : Nat → Nat → Nat
  | 0, r => r
  | n + 1, r => shn n (sh r)
theorem sh_zero : sh 0 = 0 := rfl
theorem sh_xor (a b : Nat) : sh (a ^^^ b) = sh a ^^^ sh b := by
  unfold sh
  rw [Nat.shiftRight_xor_distrib, Nat.testBit_xor]
  cases a.testBit 0 <;> cases b.testBit 0 <;> simp [Nat.xor_assoc]
  · rw [Nat.xor_comm 33800]
  · rw [← Nat.xor_assoc 33800, Nat.xor_comm 33800, Nat.xor_assoc, Nat.xor_self, Nat.xor_zero]
theorem shn_zero (n : Nat) : shn n 0 = 0 := by induction n with
  | zero => rfl
  | succ n ih => exact ih
theorem shn_xor (n a b : Nat) : shn n (a ^^^ b) = shn n a ^^^ shn n b := by
  induction n generalizing a b with
  | zero => rfl
  | succ n ih => rw [shn, sh_xor, ih]; rfl
theorem shn_add (m n r : Nat) : shn (m + n) r = shn n (shn m r) := by
  induction m generalizing r with
  | zero => simp [shn]
  | succ m ih => rw [Nat.succ_add, shn, ih]; rfl
theorem sh_lt {r : Nat} (h : r < 65536) : sh r < 65536 := by
  unfold sh
  have h1 : r >>> 1 < 2 ^ 16 := by rw [Nat.shiftRight_eq_div_pow]; omega
  split
  · exact Nat.xor_lt_two_pow h1 (by decide)
  · exact Nat.xor_lt_two_pow h1 (by decide)
theorem shn_lt {n r : Nat} (h : r < 65536) : shn n r < 65536 := by
  induction n generalizing r with
  | zero => exact h
  | succ n ih => exact ih (sh_lt h)
theorem sh_even (v : Nat) : sh (2 * v) = v := by
  unfold sh
  have h0 : (2 * v).testBit 0 = false := by simp
  rw [h0, Nat.shiftRight_eq_div_pow]
  simp
theorem sh_inj0 {r : Nat} (h : r < 65536) (h0 : sh r = 0) : r = 0 := by
  unfold sh at h0
  by_cases hb : r.testBit 0 = true
  · rw [if_pos hb] at h0
    have := congrArg (fun x => Nat.testBit x 15) h0
    simp only [Nat.testBit_xor, Nat.testBit_shiftRight] at this
    have h16 : r.testBit (1 + 15) = false := Nat.testBit_lt_two_pow (by omega)
    rw [h16] at this
    exact absurd this (by decide)
  · rw [if_neg hb, Nat.xor_zero, Nat.shiftRight_eq_div_pow] at h0
    simp [Nat.testBit_zero] at hb
    omega
theorem shn_inj0 {n r : Nat} (h : r < 65536) (h0 : shn n r = 0) : r = 0 := by
  induction n generalizing r with
  | zero => exact h0
  | succ n ih => exact sh_inj0 h (ih (sh_lt h) h0)
theorem xor_lt {a b : Nat} (ha : a < 65536) (hb : b < 65536) : a ^^^ b < 65536 := Nat.xor_lt_two_pow (n := 16) ha hb
theorem xor_eq_zero {a b : Nat} (h : a ^^^ b = 0) : a = b := by
  have := congrArg (· ^^^ b) h
  simpa [Nat.xor_assoc] using this
theorem shn_inj {n a b : Nat} (ha : a < 65536) (hb : b < 65536) (h : shn n a = shn n b) : a = b :=
  xor_eq_zero (shn_inj0 (n := n) (xor_lt ha hb) (by rw [shn_xor, h, Nat.xor_self]))
/-- The register behind an octet. -/
def oct (r v : Nat) : Nat := shn 8 (r ^^^ v)
def ext (r : Nat) (l : List Nat) : Nat := l.foldl oct r
def nib (r : Nat) : Nat := (r >>> 4) ^^^ shn 4 (r % 16)
theorem shn_even (n v : Nat) : shn n (2 ^ n * v) = v := by
  induction n generalizing v with
  | zero => simp [shn]
  | succ n ih => rw [shn, Nat.pow_succ, Nat.mul_comm (2 ^ n) 2, Nat.mul_assoc, sh_even, ih]
theorem nib_eq (r : Nat) : nib r = shn 4 r := by
  have h : r = (2 ^ 4 * (r / 16)) ^^^ (r % 16) := by
    have := Nat.two_pow_add_eq_or_of_lt (i := 4) (b := r % 16) (by omega) (r / 16)
    have h2 := Nat.div_add_mod r 16
    have hx : 2 ^ 4 * (r / 16) ||| r % 16 = 2 ^ 4 * (r / 16) ^^^ r % 16 := by
      apply Nat.eq_of_testBit_eq
      intro i
      rw [Nat.testBit_or, Nat.testBit_xor]
      by_cases hi : i < 4
      · have : (2 ^ 4 * (r / 16)).testBit i = false := by
          rw [Nat.testBit_two_pow_mul]; simp; omega
        rw [this]; simp
      · have : (r % 16).testBit i = false := Nat.testBit_lt_two_pow (Nat.lt_of_lt_of_le (Nat.mod_lt r (by decide)) (by
          have := Nat.pow_le_pow_right (n := 2) (by decide) (show 4 ≤ i by omega); omega))
        rw [this]; simp
    omega
  unfold nib
  conv => rhs; rw [h, shn_xor, shn_even]
  rw [Nat.shiftRight_eq_div_pow]
theorem oct_nib (r v : Nat) : oct r v = nib (nib (r ^^^ v)) := by
  rw [nib_eq, nib_eq, oct, show 8 = 4 + 4 from rfl, shn_add]
theorem oct_xor (a b u v : Nat) : oct (a ^^^ b) (u ^^^ v) = oct a u ^^^ oct b v := by
  unfold oct
  rw [← shn_xor]
  congr 1
  rw [Nat.xor_assoc, Nat.xor_assoc, ← Nat.xor_assoc b u, Nat.xor_comm b u, Nat.xor_assoc]
theorem oct_lt {r v : Nat} (hr : r < 65536) (hv : v < 256) : oct r v < 65536 := shn_lt (xor_lt hr (by omega))
theorem ext_lt {r : Nat} {l : List Nat} (hr : r < 65536) (hl : ∀ x ∈ l, x < 256) : ext r l < 65536 := by
  induction l generalizing r with
  | nil => exact hr
  | cons x l ih => exact ih (oct_lt hr (hl x (by simp))) (fun y hy => hl y (by simp [hy]))
theorem ext_append (r : Nat) (a b : List Nat) : ext r (a ++ b) = ext (ext r a) b := by simp [ext]
theorem ext_snoc (r : Nat) (a : List Nat) (x : Nat) : ext r (a ++ [x]) = oct (ext r a) x := by simp [ext]
/-- What a change of the register makes behind further octets. -/
theorem ext_mark (r y : Nat) (l : List Nat) : ext (r ^^^ y) l = ext r l ^^^ shn (8 * l.length) y := by
  induction l generalizing r y with
  | nil => rfl
  | cons x l ih =>
    have h1 : oct (r ^^^ y) x = oct r x ^^^ shn 8 y := by
      have := oct_xor r y x 0
      rw [Nat.xor_zero] at this
      rw [this]; congr 1; unfold oct; rw [Nat.xor_zero]
    show ext (oct (r ^^^ y) x) l = ext (oct r x) l ^^^ _
    rw [h1, ih, List.length_cons, Nat.mul_add, Nat.add_comm, shn_add]
/-- One octet changed by y. -/
theorem ext_set (r y : Nat) (l : List Nat) (q : Nat) (hq : q < l.length) : ext r (l.set q (l.getD q 0 ^^^ y)) = ext r l ^^^ shn (8 * (l.length - q)) y := by
  induction l generalizing r q with
  | nil => simp at hq
  | cons x l ih =>
    cases q with
    | zero =>
      show ext (oct r (x ^^^ y)) l = ext (oct r x) l ^^^ _
      have h1 : oct r (x ^^^ y) = oct r x ^^^ shn 8 y := by
        have := oct_xor r 0 x y
        rw [Nat.xor_zero] at this
        rw [this]; congr 1; unfold oct; rw [Nat.zero_xor]
      rw [h1, ext_mark, List.length_cons, Nat.sub_zero, Nat.mul_add, Nat.add_comm, shn_add]
    | succ q =>
      show ext (oct r x) (l.set q (l.getD q 0 ^^^ y)) = ext (oct r x) l ^^^ _
      rw [ih _ q (by simpa using hq), List.length_cons, Nat.succ_sub_succ]
theorem shn_pow (t k : Nat) : shn (t + k) (2 ^ t) = shn k 1 := by
  rw [shn_add]
  have := shn_even t 1
  rw [Nat.mul_one] at this
  rw [this]
/-- The mark of a place: what the change of that bit makes of the register behind N bits. -/
def mark (N k : Nat) : Nat := shn (N - k) 1
theorem ext_flip (r : Nat) (l : List Nat) (k : Nat) (hk : k < 8 * l.length) : ext r (l.set (k / 8) (l.getD (k / 8) 0 ^^^ 2 ^ (k % 8))) = ext r l ^^^ mark (8 * l.length) k := by
  rw [ext_set _ _ _ _ (by omega)]
  have : 8 * (l.length - k / 8) = k % 8 + (8 * l.length - k) := by omega
  rw [this, shn_pow]; rfl
def flips (l : List Nat) (at_ : List Nat) : List Nat := at_.foldl (fun s k => s.set (k / 8) (s.getD (k / 8) 0 ^^^ 2 ^ (k % 8))) l
def marks (N : Nat) (at_ : List Nat) : Nat := at_.foldl (fun r k => r ^^^ mark N k) 0
theorem flips_length (l at_ : List Nat) : (flips l at_).length = l.length := by
  induction at_ generalizing l with
  | nil => rfl
  | cons k t ih => show (flips _ t).length = _; rw [ih]; simp
theorem foldl_marks (N : Nat) (at_ : List Nat) (r : Nat) : at_.foldl (fun r k => r ^^^ mark N k) r = r ^^^ marks N at_ := by
  induction at_ generalizing r with
  | nil => exact (Nat.xor_zero r).symm
  | cons k t ih =>
    show List.foldl _ (r ^^^ mark N k) t = _
    rw [ih]
    show _ = r ^^^ List.foldl _ (0 ^^^ mark N k) t
    rw [ih, Nat.zero_xor, Nat.xor_assoc]
theorem marks_cons (N k : Nat) (t : List Nat) : marks N (k :: t) = mark N k ^^^ marks N t := by
  show List.foldl _ (0 ^^^ mark N k) t = _
  rw [foldl_marks, Nat.zero_xor]
theorem marks_append (N : Nat) (s t : List Nat) : marks N (s ++ t) = marks N s ^^^ marks N t := by
  show List.foldl _ 0 (s ++ t) = _
  rw [List.foldl_append, foldl_marks]; rfl
theorem ext_flips (r : Nat) (l at_ : List Nat) (h : ∀ k ∈ at_, k < 8 * l.length) : ext r (flips l at_) = ext r l ^^^ marks (8 * l.length) at_ := by
  induction at_ generalizing l with
  | nil => exact (Nat.xor_zero _).symm
  | cons k t ih =>
    show ext r (flips _ t) = _
    have hlen : (l.set (k / 8) (l.getD (k / 8) 0 ^^^ 2 ^ (k % 8))).length = l.length := by simp
    rw [ih _ (by rw [hlen]; exact fun x hx => h x (by simp [hx])), hlen, ext_flip _ _ _ (h k (by simp)), marks_cons, Nat.xor_assoc]
/-- Parity of the lowest n bits. -/
def par : Nat → Nat → Bool
  | 0, _ => false
  | n + 1, r => r.testBit 0 ^^ par n (r >>> 1)
theorem par_xor (n a b : Nat) : par n (a ^^^ b) = (par n a ^^ par n b) := by
  induction n generalizing a b with
  | zero => rfl
  | succ n ih =>
    simp only [par, Nat.shiftRight_xor_distrib, Nat.testBit_xor, ih]
    cases a.testBit 0 <;> cases b.testBit 0 <;> simp
theorem par_succ (n r : Nat) : par (n + 1) r = (par n r ^^ r.testBit n) := by
  induction n generalizing r with
  | zero => simp [par]
  | succ n ih =>
    rw [par, ih, par, Nat.testBit_shiftRight, Nat.add_comm 1 n]
    cases r.testBit 0 <;> simp
theorem par_sh {r : Nat} (h : r < 65536) : par 16 (sh r) = par 16 r := by
  have h1 : par 17 r = (par 16 r ^^ r.testBit 16) := par_succ 16 r
  rw [Nat.testBit_lt_two_pow (show r < 2 ^ 16 by omega), Bool.xor_false] at h1
  have h2 : par 17 r = (r.testBit 0 ^^ par 16 (r >>> 1)) := rfl
  unfold sh
  rw [par_xor]
  rw [h1] at h2
  rw [h2]
  cases r.testBit 0
  · have : par 16 0 = false := by decide
    simp [this]
  · have : par 16 33800 = true := by decide
    simp [this]
theorem par_shn {n r : Nat} (h : r < 65536) : par 16 (shn n r) = par 16 r := by
  induction n generalizing r with
  | zero => rfl
  | succ n ih => rw [shn, ih (sh_lt h), par_sh h]
theorem mark_lt (N k : Nat) : mark N k < 65536 := shn_lt (by decide)
theorem marks_nil (N : Nat) : marks N [] = 0 := rfl
theorem marks_lt (N : Nat) (l : List Nat) : marks N l < 65536 := by
  induction l with
  | nil => rw [marks_nil]; decide
  | cons k t ih => rw [marks_cons]; exact xor_lt (mark_lt N k) ih
theorem par_marks (N : Nat) (l : List Nat) : par 16 (marks N l) = decide (l.length % 2 = 1) := by
  induction l with
  | nil => rw [marks_nil]; decide
  | cons k t ih =>
    rw [marks_cons, par_xor, ih, mark, par_shn (by decide), List.length_cons]
    have : par 16 1 = true := by decide
    rw [this]
    rcases Nat.mod_two_eq_zero_or_one t.length with h | h
    · have h2 : (t.length + 1) % 2 = 1 := by omega
      simp [h, h2]
    · have h2 : (t.length + 1) % 2 = 0 := by omega
      simp [h, h2]
theorem marks_odd (N : Nat) (l : List Nat) (h : l.length % 2 = 1) : marks N l ≠ 0 := by
  intro h0
  have := par_marks N l
  rw [h0, h] at this
  exact absurd this (by decide)
def cyc : Nat → Nat → Bool
  | 0, _ => true
  | n + 1, r => (sh r != 1) && cyc n (sh r)
theorem cyc_get {n r : Nat} (h : cyc n r = true) : ∀ d, d < n → shn (d + 1) r ≠ 1 := by
  induction n generalizing r with
  | zero => intro d hd; omega
  | succ n ih =>
    simp only [cyc, Bool.and_eq_true, bne_iff_ne] at h
    intro d hd
    cases d with
    | zero => exact h.1
    | succ d => exact ih h.2 d (by omega)
theorem cyc_ok : cyc 2300 1 = true := by decide +kernel
theorem marks_two {N i j : Nat} (hN : N ≤ 2300) (hi : i < N) (hj : j < N) (hij : i ≠ j) : mark N i ^^^ mark N j ≠ 0 := by
  have key : ∀ i j, i < j → j < N → mark N i ≠ mark N j := by
    intro i j hij hj h
    unfold mark at h
    have e : N - i = (j - i) + (N - j) := by omega
    rw [e, shn_add] at h
    have h2 := shn_inj (shn_lt (by decide)) (by decide) h
    have h3 := cyc_get cyc_ok (j - i - 1) (by omega)
    rw [show j - i - 1 + 1 = j - i by omega] at h3
    exact h3 h2
  intro h
  have h := xor_eq_zero h
  rcases Nat.lt_or_gt_of_ne hij with h1 | h1
  · exact key i j h1 hj h
  · exact key j i h1 hi h.symm
/-- One, two or three changes, or an odd number of them, are found. -/
theorem marks_few {N : Nat} (hN : N ≤ 2300) (l : List Nat) (hl : ∀ k ∈ l, k < N) (hn : l.Nodup) (h0 : l ≠ []) (h : ¬ (3 < l.length ∧ l.length % 2 = 0)) : marks N l ≠ 0 := by
  rcases Nat.mod_two_eq_zero_or_one l.length with he | he
  · match l, hl, hn, h0, h, he with
    | [], _, _, h0, _, _ => exact absurd rfl h0
    | [_], _, _, _, _, he => simp at he
    | [i, j], hl, hn, _, _, _ =>
      rw [marks_cons, marks_cons]
      show mark N i ^^^ (mark N j ^^^ 0) ≠ 0
      rw [Nat.xor_zero]
      exact marks_two hN (hl i (by simp)) (hl j (by simp)) (by simp at hn; exact hn)
    | [_, _, _], _, _, _, _, he => simp at he
    | _ :: _ :: _ :: _ :: t, _, _, _, h, he => exact absurd ⟨by simp, he⟩ h
  · exact marks_odd N l he
theorem mod_pow_succ (x m : Nat) : x % 2 ^ (m + 1) = x % 2 ^ m ^^^ (if x.testBit m then 2 ^ m else 0) := by
  apply Nat.eq_of_testBit_eq
  intro j
  rw [Nat.testBit_xor, Nat.testBit_mod_two_pow, Nat.testBit_mod_two_pow]
  by_cases hm : x.testBit m = true
  · rw [if_pos hm, Nat.testBit_two_pow]
    rcases Nat.lt_trichotomy j m with h | h | h
    · have h1 : j < m + 1 := by omega
      have h2 : ¬ m = j := by omega
      simp [h, h1, h2]
    · subst h; simp [hm]
    · have h1 : ¬ j < m + 1 := by omega
      have h2 : ¬ m = j := by omega
      have h3 : ¬ j < m := by omega
      simp [h1, h2, h3]
  · rw [if_neg hm, Nat.zero_testBit, Bool.xor_false]
    rcases Nat.lt_trichotomy j m with h | h | h
    · have h1 : j < m + 1 := by omega
      simp [h, h1]
    · subst h; simp at hm; simp [hm]
    · have h1 : ¬ j < m + 1 := by omega
      have h3 : ¬ j < m := by omega
      simp [h1, h3]
/-- The places of the first m bits of a burst from place p on, of N places. -/
def burst (N p v : Nat) : Nat → List Nat
  | 0 => []
  | m + 1 => burst N p v m ++ (if v.testBit m && decide (p + m < N) then [p + m] else [])
theorem burst_marks {N p v : Nat} (hp : p < N) (m : Nat) : marks N (burst N p v m) = shn (N - p) (v % 2 ^ (min m (N - p))) := by
  induction m with
  | zero => simp [burst, marks, Nat.mod_one, shn_zero]
  | succ m ih =>
    rw [burst, marks_append, ih]
    by_cases hm : p + m < N
    · have h1 : min m (N - p) = m := by omega
      have h2 : min (m + 1) (N - p) = m + 1 := by omega
      rw [h1, h2, mod_pow_succ, shn_xor]
      congr 1
      cases v.testBit m
      · simp [marks, shn_zero]
      · simp only [hm, decide_true, Bool.and_self, if_true]
        rw [marks_cons]
        show mark N (p + m) ^^^ 0 = _
        rw [Nat.xor_zero, mark, show N - p = m + (N - (p + m)) by omega, shn_pow]
    · have h1 : min m (N - p) = N - p := by omega
      have h2 : min (m + 1) (N - p) = N - p := by omega
      rw [h1, h2]
      simp [hm, marks]
theorem burst_lt {N p v m k : Nat} (h : k ∈ burst N p v m) : k < N := by
  induction m with
  | zero => simp [burst] at h
  | succ m ih =>
    rw [burst, List.mem_append] at h
    rcases h with h | h
    · exact ih h
    · split at h
      · rename_i hc
        simp at h hc
        omega
      · simp at h
theorem burst_some {N p v m : Nat} (h : burst N p v m ≠ []) : ∃ j, j < m ∧ v.testBit j = true ∧ p + j < N := by
  induction m with
  | zero => exact absurd rfl h
  | succ m ih =>
    by_cases h1 : burst N p v m = []
    · rw [burst, h1, List.nil_append] at h
      by_cases hc : (v.testBit m && decide (p + m < N)) = true
      · simp at hc
        exact ⟨m, by omega, hc.1, hc.2⟩
      · rw [if_neg hc] at h
        exact absurd rfl h
    · obtain ⟨j, hj, hv⟩ := ih h1
      exact ⟨j, by omega, hv⟩
theorem burst_found {N p v m : Nat} (hp : p < N) (hm : m ≤ 16) (h : burst N p v m ≠ []) : marks N (burst N p v m) ≠ 0 := by
  rw [burst_marks hp]
  intro h0
  have hlt : v % 2 ^ min m (N - p) < 65536 := Nat.lt_of_lt_of_le (Nat.mod_lt _ (Nat.two_pow_pos _)) (Nat.pow_le_pow_right (n := 2) (by decide) (show min m (N - p) ≤ 16 by omega))
  have h1 := shn_inj0 hlt h0
  obtain ⟨j, hj, hv, hjN⟩ := burst_some h
  have h2 := congrArg (fun x => Nat.testBit x j) h1
  simp only [Nat.testBit_mod_two_pow, hv, Nat.zero_testBit] at h2
  have : j < min m (N - p) := by omega
  simp [this] at h2
/-- The check sequence. -/
def crc (l : List Nat) : Nat := ext 65535 l ^^^ 65535
theorem crc_lt {l : List Nat} (h : ∀ x ∈ l, x < 256) : crc l < 65536 := xor_lt (ext_lt (by decide) h) (by decide)
theorem oct2 (c lo hi : Nat) (hlo : lo < 256) : oct (oct c lo) hi = shn 16 (c ^^^ (lo + 256 * hi)) := by
  have h : lo + 256 * hi = lo ^^^ (2 ^ 8 * hi) := by
    have h1 := Nat.two_pow_add_eq_or_of_lt (i := 8) (b := lo) (by omega) hi
    have hx : 2 ^ 8 * hi ||| lo = lo ^^^ 2 ^ 8 * hi := by
      apply Nat.eq_of_testBit_eq
      intro i
      rw [Nat.testBit_or, Nat.testBit_xor]
      by_cases hi8 : i < 8
      · have : (2 ^ 8 * hi).testBit i = false := by
          rw [Nat.testBit_two_pow_mul]; simp; omega
        rw [this]; simp
      · have : lo.testBit i = false := Nat.testBit_lt_two_pow (Nat.lt_of_lt_of_le hlo (by
          have := Nat.pow_le_pow_right (n := 2) (by decide) (show 8 ≤ i by omega); omega))
        rw [this]; simp
    omega
  rw [h, ← Nat.xor_assoc, show 16 = 8 + 8 from rfl, shn_add, shn_xor 8 _ (2 ^ 8 * hi), shn_even]
  rfl
theorem residue_start : shn 16 65535 = 61624 := by decide +kernel
theorem ext_add (l : List Nat) (lo hi : Nat) (hlo : lo < 256) : ext 65535 (l ++ [lo, hi]) = shn 16 (ext 65535 l ^^^ (lo + 256 * hi)) := by
  rw [ext_append]; exact oct2 _ _ _ hlo
/-- The octets are protected exactly if the register behind them is the residue. -/
theorem residue_iff (l : List Nat) (hl : ∀ x ∈ l, x < 256) (lo hi : Nat) (hlo : lo < 256) (hhi : hi < 256) : ext 65535 (l ++ [lo, hi]) = 61624 ↔ lo + 256 * hi = crc l := by
  rw [ext_add l lo hi hlo, ← residue_start]
  constructor
  · intro h
    have h1 := shn_inj (xor_lt (ext_lt (by decide) hl) (by omega)) (by decide) h
    have h2 := congrArg (ext 65535 l ^^^ ·) h1
    simp only [← Nat.xor_assoc, Nat.xor_self, Nat.zero_xor] at h2
    exact h2
  · intro h
    rw [h]; unfold crc
    rw [← Nat.xor_assoc, Nat.xor_self, Nat.zero_xor]
def add (l : List Nat) : List Nat := l ++ [crc l % 256, crc l / 256]
theorem add_lt {l : List Nat} (h : ∀ x ∈ l, x < 256) : ∀ x ∈ add l, x < 256 := by
  have := crc_lt h
  intro x hx
  rw [add, List.mem_append] at hx
  rcases hx with hx | hx
  · exact h x hx
  · simp at hx; omega
theorem add_length (l : List Nat) : (add l).length = l.length + 2 := by simp [add]
theorem add_residue {l : List Nat} (h : ∀ x ∈ l, x < 256) : ext 65535 (add l) = 61624 := by
  have := crc_lt h
  exact (residue_iff l h _ _ (by omega) (by omega)).2 (by omega)
/-- Protected octets (whatever is in front of the last two). -/
def good (l : List Nat) : Prop := l.getD (l.length - 2) 0 + 256 * l.getD (l.length - 1) 0 = crc (l.take (l.length - 2))
theorem split2 {l : List Nat} (h : 2 ≤ l.length) : l = l.take (l.length - 2) ++ [l.getD (l.length - 2) 0, l.getD (l.length - 1) 0] := by
  have h1 : l.drop (l.length - 2) = [l.getD (l.length - 2) 0, l.getD (l.length - 1) 0] := by
    apply List.ext_getElem
    · simp; omega
    · intro i h1 h2
      simp only [List.length_cons, List.length_nil] at h2
      rw [List.getElem_drop]
      rcases (show i = 0 ∨ i = 1 by omega) with rfl | rfl
      · simp only [List.getElem_cons_zero, List.getD_eq_getElem?_getD]
        rw [List.getElem?_eq_getElem (by omega), Option.getD_some]
        rfl
      · simp only [List.getElem_cons_succ, List.getElem_cons_zero, List.getD_eq_getElem?_getD]
        rw [List.getElem?_eq_getElem (by omega), Option.getD_some]
        congr 1
        omega
  conv => lhs; rw [← List.take_append_drop (l.length - 2) l, h1]
theorem getD_lt {l : List Nat} (h : ∀ x ∈ l, x < 256) (i : Nat) : l.getD i 0 < 256 := by
  rw [List.getD_eq_getElem?_getD]
  by_cases hi : i < l.length
  · rw [List.getElem?_eq_getElem hi]; exact h _ (List.getElem_mem hi)
  · rw [List.getElem?_eq_none (by omega)]; decide
theorem good_iff {l : List Nat} (h2 : 2 ≤ l.length) (h : ∀ x ∈ l, x < 256) : good l ↔ ext 65535 l = 61624 := by
  have e := split2 h2
  have := residue_iff (l.take (l.length - 2)) (fun x hx => h x (List.mem_of_mem_take hx)) _ _ (getD_lt h (l.length - 2)) (getD_lt h (l.length - 1))
  rw [← e] at this
  exact this.symm
theorem flips_lt {l at_ : List Nat} (h : ∀ x ∈ l, x < 256) : ∀ x ∈ flips l at_, x < 256 := by
  induction at_ generalizing l with
  | nil => exact h
  | cons k t ih =>
    refine ih (l := l.set (k / 8) (l.getD (k / 8) 0 ^^^ 2 ^ (k % 8))) ?_
    intro x hx
    rcases List.mem_or_eq_of_mem_set hx with h1 | h1
    · exact h x h1
    · rw [h1]
      exact Nat.xor_lt_two_pow (n := 8) (getD_lt h _) (Nat.pow_lt_pow_right (by decide) (Nat.mod_lt _ (by decide)))
/-- Changed protected octets are protected exactly if the marks of the changed places cancel. -/
theorem changed_good {l at_ : List Nat} (h : ∀ x ∈ l, x < 256) (hat : ∀ k ∈ at_, k < 8 * (l.length + 2)) : good (flips (add l) at_) ↔ marks (8 * (l.length + 2)) at_ = 0 := by
  rw [good_iff (by rw [flips_length, add_length]; omega) (flips_lt (add_lt h)), ext_flips _ _ _ (by rw [add_length]; exact hat), add_residue h, add_length]
  constructor
  · intro h1
    have := congrArg (61624 ^^^ ·) h1
    simpa [← Nat.xor_assoc] using this
  · intro h1
    rw [h1, Nat.xor_zero]
theorem compl {x : Nat} (h : x < 65536) : x ^^^ 65535 = 65535 - x := by
  apply Nat.eq_of_testBit_eq
  intro i
  have h1 : 65535 - x = 2 ^ 16 - (x + 1) := by omega
  rw [h1, Nat.testBit_two_pow_sub_succ (show x < 2 ^ 16 by omega), Nat.testBit_xor, show 65535 = 2 ^ 16 - 1 from rfl, Nat.testBit_two_pow_sub_one]
  by_cases hi : i < 16
  · simp [hi]
  · have : x.testBit i = false := Nat.testBit_lt_two_pow (Nat.lt_of_lt_of_le h (by
      have := Nat.pow_le_pow_right (n := 2) (by decide) (show 16 ≤ i by omega); omega))
    simp [hi, this]
/-- Three lists added. -/
def xor3 : List Nat → List Nat → List Nat → List Nat
  | a :: l, b :: m, c :: n => (a ^^^ b ^^^ c) :: xor3 l m n
  | _, _, _ => []
theorem ext_xor3 (r s t : Nat) (l m n : List Nat) (h1 : m.length = l.length) (h2 : n.length = l.length) : ext (r ^^^ s ^^^ t) (xor3 l m n) = ext r l ^^^ ext s m ^^^ ext t n := by
  induction l generalizing r s t m n with
  | nil =>
    have := List.eq_nil_of_length_eq_zero h1
    have := List.eq_nil_of_length_eq_zero h2
    subst m n; rfl
  | cons a l ih =>
    match m, n, h1, h2 with
    | b :: m, c :: n, h1, h2 =>
      show ext (oct (r ^^^ s ^^^ t) (a ^^^ b ^^^ c)) (xor3 l m n) = ext (oct r a) l ^^^ ext (oct s b) m ^^^ ext (oct t c) n
      rw [oct_xor, oct_xor, ih _ _ _ _ _ (by simpa using h1) (by simpa using h2)]
theorem crc_xor3 (l m n : List Nat) (h1 : m.length = l.length) (h2 : n.length = l.length) : crc (xor3 l m n) = crc l ^^^ crc m ^^^ crc n := by
  unfold crc
  have := ext_xor3 65535 65535 65535 l m n h1 h2
  rw [Nat.xor_self, Nat.zero_xor] at this
  rw [this]
  apply Nat.eq_of_testBit_eq
  intro i
  simp only [Nat.testBit_xor]
  cases (ext 65535 l).testBit i <;> cases (ext 65535 m).testBit i <;> cases (ext 65535 n).testBit i <;> cases Nat.testBit 65535 i <;> rfl
end Go.Proofs.YtkalpjccfknopaaDoor.Crc
