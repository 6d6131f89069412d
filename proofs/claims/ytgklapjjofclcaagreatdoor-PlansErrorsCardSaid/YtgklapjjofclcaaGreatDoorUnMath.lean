/- The plain mathematics of units: the error, the octets, the text, and that the text tells the unit. -/
import Derived.Test.YtgklapjjofclcaaGreatDoorMath
namespace Go.Proofs.YtgklapjjofclcaaGreatDoor

/-- The error of a unit. -/
def chk (a0 a2 a4 a5 : Int) (n : Nat) : Int :=
  if 127 < a0 ∨ 127 < a2 ∨ 2 < a4 ∨ 5 < a5 ∨ (a5 ≠ 0 ∧ a4 ≠ 1) then 1
  else if (a4 = 2 ∧ (n < 2 ∨ 273 < n)) ∨ (a4 ≠ 2 ∧ 0 < n) then 5 else 0
theorem chk_cases (a0 a2 a4 a5 : Int) (n : Nat) : chk a0 a2 a4 a5 n = 0 ∨ chk a0 a2 a4 a5 n = 1 ∨ chk a0 a2 a4 a5 n = 5 := by
  unfold chk; split; · simp
  split <;> simp
theorem chk_ok {a0 a2 a4 a5 : Int} {n : Nat} : chk a0 a2 a4 a5 n = 0 ↔ a0 ≤ 127 ∧ a2 ≤ 127 ∧ a4 ≤ 2 ∧ a5 ≤ 5 ∧ (a5 = 0 ∨ a4 = 1) ∧ (a4 = 2 → 2 ≤ n ∧ n ≤ 273) ∧ (a4 ≠ 2 → n = 0) := by
  unfold chk
  split
  · simp; omega
  · split
    · simp; omega
    · simp; omega
/-- A number with the bit above it. -/
def low (x : Int) (b : Bool) : Int := if b then x + 128 else x
def contL (a4 a5 : Int) (l : List Int) : List Int := if a4 = 1 then [a5] else l
def restL (c : List Int) : List Int := ((min c.length 63 : Nat) : Int) :: c
/-- The octets of a unit. -/
def encL (a0 : Int) (b1 : Bool) (a2 : Int) (b3 : Bool) (a4 a5 : Int) (l : List Int) : List Int := low a0 b1 :: low a2 b3 :: restL (contL a4 a5 l)
theorem encL_length (a0 : Int) (b1 : Bool) (a2 : Int) (b3 : Bool) (a4 a5 : Int) (l : List Int) : (encL a0 b1 a2 b3 a4 a5 l).length = 3 + (contL a4 a5 l).length := by
  simp [encL, restL]; omega
theorem contL_octs {a4 a5 : Int} {l : List Int} (h5 : 0 ≤ a5 ∧ a5 ≤ 255) (h : ∀ x ∈ l, 0 ≤ x ∧ x ≤ 255) : ∀ x ∈ contL a4 a5 l, 0 ≤ x ∧ x ≤ 255 := by
  unfold contL
  split
  · intro x hx; simp at hx; subst hx; exact h5
  · exact h
theorem low_oct {x : Int} {b : Bool} (h0 : 0 ≤ x) (h1 : x ≤ 127) : 0 ≤ low x b ∧ low x b ≤ 255 := by
  unfold low; split <;> omega
theorem encL_octs {a0 : Int} {b1 : Bool} {a2 : Int} {b3 : Bool} {a4 a5 : Int} {l : List Int} (h0 : 0 ≤ a0 ∧ a0 ≤ 127) (h2 : 0 ≤ a2 ∧ a2 ≤ 127) (h5 : 0 ≤ a5 ∧ a5 ≤ 255) (h : ∀ x ∈ l, 0 ≤ x ∧ x ≤ 255) : ∀ x ∈ encL a0 b1 a2 b3 a4 a5 l, 0 ≤ x ∧ x ≤ 255 := by
  intro x hx
  simp only [encL, restL, List.mem_cons] at hx
  rcases hx with rfl | rfl | rfl | hx
  · exact low_oct h0.1 h0.2
  · exact low_oct h2.1 h2.2
  · omega
  · exact contL_octs h5 h x hx
/-- The numeral of a number below 1000. -/
def numL (n : Nat) : List UInt8 :=
  if n < 10 then [48 + UInt8.ofNat n] else if n < 100 then [48 + UInt8.ofNat (n / 10), 48 + UInt8.ofNat (n % 10)]
  else [48 + UInt8.ofNat (n / 100), 48 + UInt8.ofNat (n / 10 % 10), 48 + UInt8.ofNat (n % 10)]
def digitB (c : UInt8) : Bool := 48 ≤ c && c ≤ 57
theorem numL_digits (n : Nat) (h : n < 128) : (numL n).all digitB = true := by
  have : ∀ i : Fin 128, (numL i.val).all digitB = true := by decide +kernel
  exact this ⟨n, h⟩
def numV (l : List UInt8) : Nat := l.foldl (fun a c => 10 * a + (c.toNat - 48)) 0
theorem numL_inj {m n : Nat} (hm : m < 128) (hn : n < 128) (h : numL m = numL n) : m = n := by
  have key : ∀ i : Fin 128, numV (numL i.val) = i.val := by decide +kernel
  have h1 := key ⟨m, hm⟩
  have h2 := key ⟨n, hn⟩
  simp only [h] at h1
  exact h1.symm.trans h2
theorem split_digits : ∀ {d1 d2 : List UInt8} {s1 s2 : UInt8} {r1 r2 : List UInt8}, d1.all digitB = true → d2.all digitB = true → digitB s1 = false → digitB s2 = false → d1 ++ s1 :: r1 = d2 ++ s2 :: r2 → d1 = d2 ∧ s1 = s2 ∧ r1 = r2
  | [], [], _, _, _, _, _, _, _, _, h => by simp at h; simp [h]
  | [], c :: _, s1, _, _, _, _, h2, h3, _, h => by
    simp at h h2
    rw [h.1, h2.1] at h3
    cases h3
  | c :: _, [], _, s2, _, _, h1, _, _, h4, h => by
    simp at h h1
    rw [← h.1, h1.1] at h4
    cases h4
  | c :: d1, c' :: d2, _, _, _, _, h1, h2, h3, h4, h => by
    simp only [List.cons_append, List.cons.injEq] at h
    simp only [List.all_cons, Bool.and_eq_true] at h1 h2
    obtain ⟨rfl, e2, e3⟩ := split_digits h1.2 h2.2 h3 h4 h.2
    exact ⟨by rw [h.1], e2, e3⟩
def signU (b : Bool) : UInt8 := if b then 43 else 45
theorem signU_no (b : Bool) : digitB (signU b) = false := by cases b <;> decide
theorem signU_inj {a b : Bool} (h : signU a = signU b) : a = b := by cases a <;> cases b <;> first | rfl | (exact absurd h (by decide))
def numT (n : Int) (b : Bool) : List UInt8 := numL n.toNat ++ [signU b]
def hexd (v : Nat) : UInt8 := if v < 10 then 48 + UInt8.ofNat v else 87 + UInt8.ofNat v
def hexL : List Int → List UInt8
  | [] => []
  | v :: l => hexd (v / 16).toNat :: hexd (v % 16).toNat :: hexL l
theorem hexd_inj {m n : Nat} (hm : m < 16) (hn : n < 16) (h : hexd m = hexd n) : m = n := by
  have : ∀ i j : Fin 16, hexd i.val = hexd j.val → i.val = j.val := by decide +kernel
  exact this ⟨m, hm⟩ ⟨n, hn⟩ h
theorem hexL_inj : ∀ {l k : List Int}, (∀ x ∈ l, 0 ≤ x ∧ x ≤ 255) → (∀ x ∈ k, 0 ≤ x ∧ x ≤ 255) → hexL l = hexL k → l = k
  | [], [], _, _, _ => rfl
  | [], _ :: _, _, _, h => by simp [hexL] at h
  | _ :: _, [], _, _, h => by simp [hexL] at h
  | x :: l, y :: k, hl, hk, h => by
    simp only [hexL, List.cons.injEq] at h
    have hx := hl x (by simp)
    have hy := hk y (by simp)
    have e1 := hexd_inj (by omega) (by omega) h.1
    have e2 := hexd_inj (by omega) (by omega) h.2.1
    have e3 := hexL_inj (fun z hz => hl z (by simp [hz])) (fun z hz => hk z (by simp [hz])) h.2.2
    rw [e3, show x = y by omega]
theorem hexL_length : ∀ l : List Int, (hexL l).length = 2 * l.length
  | [] => rfl
  | _ :: l => by simp [hexL, hexL_length l]; omega
theorem hexL_append : ∀ l k : List Int, hexL (l ++ k) = hexL l ++ hexL k
  | [], _ => rfl
  | _ :: l, k => by simp [hexL, hexL_append l k]
def contT (a4 a5 : Int) (l : List Int) : List UInt8 :=
  if a4 = 1 then [115, 116, 97, 116, 101, 32] ++ numL a5.toNat else if a4 = 2 then [108, 111, 97, 100, 32] ++ hexL l else [102, 105, 108, 108]
/-- The text of a unit. -/
def textL (a0 : Int) (b1 : Bool) (a2 : Int) (b3 : Bool) (a4 a5 : Int) (l : List Int) : List UInt8 :=
  [98, 97, 99, 107, 32] ++ (numT a0 b1 ++ ([32, 102, 111, 114, 101, 32] ++ (numT a2 b3 ++ ([32] ++ contT a4 a5 l))))
theorem textL_ne (a0 : Int) (b1 : Bool) (a2 : Int) (b3 : Bool) (a4 a5 : Int) (l : List Int) : textL a0 b1 a2 b3 a4 a5 l ≠ [] := by simp [textL]
theorem contT_inj {a4 a5 c4 c5 : Int} {l k : List Int} (ha4 : 0 ≤ a4 ∧ a4 ≤ 2) (hc4 : 0 ≤ c4 ∧ c4 ≤ 2) (ha5 : 0 ≤ a5 ∧ a5 ≤ 5) (hc5 : 0 ≤ c5 ∧ c5 ≤ 5) (ha : a5 = 0 ∨ a4 = 1) (hc : c5 = 0 ∨ c4 = 1)
    (hl : ∀ x ∈ l, 0 ≤ x ∧ x ≤ 255) (hk : ∀ x ∈ k, 0 ≤ x ∧ x ≤ 255) (hl0 : a4 ≠ 2 → l = []) (hk0 : c4 ≠ 2 → k = []) (h : contT a4 a5 l = contT c4 c5 k) : a4 = c4 ∧ a5 = c5 ∧ l = k := by
  unfold contT at h
  rcases (by omega : a4 = 0 ∨ a4 = 1 ∨ a4 = 2) with rfl | rfl | rfl <;> rcases (by omega : c4 = 0 ∨ c4 = 1 ∨ c4 = 2) with rfl | rfl | rfl
  · exact ⟨rfl, by omega, by rw [hl0 (by omega), hk0 (by omega)]⟩
  · simp at h
  · simp at h
  · simp at h
  · simp at h
    have := numL_inj (by omega) (by omega) h
    exact ⟨rfl, by omega, by rw [hl0 (by omega), hk0 (by omega)]⟩
  · simp at h
  · simp at h
  · simp at h
  · simp at h
    exact ⟨rfl, by omega, hexL_inj hl hk h⟩
theorem textL_inj {a0 a2 a4 a5 c0 c2 c4 c5 : Int} {b1 b3 d1 d3 : Bool} {l k : List Int} (ha0 : 0 ≤ a0 ∧ a0 ≤ 127) (ha2 : 0 ≤ a2 ∧ a2 ≤ 127) (hc0 : 0 ≤ c0 ∧ c0 ≤ 127) (hc2 : 0 ≤ c2 ∧ c2 ≤ 127)
    (ha4 : 0 ≤ a4 ∧ a4 ≤ 2) (hc4 : 0 ≤ c4 ∧ c4 ≤ 2) (ha5 : 0 ≤ a5 ∧ a5 ≤ 5) (hc5 : 0 ≤ c5 ∧ c5 ≤ 5) (ha : a5 = 0 ∨ a4 = 1) (hc : c5 = 0 ∨ c4 = 1)
    (hl : ∀ x ∈ l, 0 ≤ x ∧ x ≤ 255) (hk : ∀ x ∈ k, 0 ≤ x ∧ x ≤ 255) (hl0 : a4 ≠ 2 → l = []) (hk0 : c4 ≠ 2 → k = [])
    (h : textL a0 b1 a2 b3 a4 a5 l = textL c0 d1 c2 d3 c4 c5 k) : a0 = c0 ∧ b1 = d1 ∧ a2 = c2 ∧ b3 = d3 ∧ a4 = c4 ∧ a5 = c5 ∧ l = k := by
  unfold textL numT at h
  have h1 := List.append_cancel_left h
  simp only [List.append_assoc, List.singleton_append] at h1
  obtain ⟨e0, e1, h2⟩ := split_digits (numL_digits _ (by omega)) (numL_digits _ (by omega)) (signU_no b1) (signU_no d1) h1
  have h3 := List.append_cancel_left h2
  obtain ⟨e2, e3, h4⟩ := split_digits (numL_digits _ (by omega)) (numL_digits _ (by omega)) (signU_no b3) (signU_no d3) h3
  have h5 := (List.cons.inj h4).2
  obtain ⟨e4, e5, e6⟩ := contT_inj ha4 hc4 ha5 hc5 ha hc hl hk hl0 hk0 h5
  have f0 := numL_inj (by omega) (by omega) e0
  have f2 := numL_inj (by omega) (by omega) e2
  exact ⟨by omega, signU_inj e1, by omega, signU_inj e3, e4, e5, e6⟩
end Go.Proofs.YtgklapjjofclcaaGreatDoor
