/- string(b) of a row of octets. -/
import Derived.Test.YtnkpmjkbkdnfjaaUnBase
import Derived.Laws.BytesString
namespace Go.Proofs.Ytnkpmjkbkdnfjaa
open Go.RowKit

def ofI (l : List Int) : List UInt8 := l.map fun x => UInt8.ofNat x.toNat
theorem ofI_inj : ∀ {l k : List Int}, (∀ x ∈ l, 0 ≤ x ∧ x ≤ 255) → (∀ x ∈ k, 0 ≤ x ∧ x ≤ 255) → ofI l = ofI k → l = k
  | [], [], _, _, _ => rfl
  | [], _ :: _, _, _, h => by simp [ofI] at h
  | _ :: _, [], _, _, h => by simp [ofI] at h
  | x :: l, y :: k, hl, hk, h => by
    simp only [ofI, List.map_cons, List.cons.injEq] at h
    have hx := hl x (by simp)
    have hy := hk y (by simp)
    have e1 := congrArg UInt8.toNat h.1
    simp only [UInt8.toNat_ofNat'] at e1
    have e2 := ofI_inj (fun z hz => hl z (by simp [hz])) (fun z hz => hk z (by simp [hz])) h.2
    rw [e2, show x = y by omega]
theorem bs_inj {a b : List UInt8} (h : bs a = bs b) : a = b := by
  have := congrArg (fun z : ByteArray => z.data.toList) h
  simpa [bs] using this
theorem bs_toList (l : List UInt8) : (bs l).toList = l := ByteArray.toList_mk l
theorem row_string (a : Option Addr) (n c : Nat) (l : List Int) (w : World) (h : Row .u8 w a n c l) :
    (convert 52 9 (.slice a n c)).run Try.prog w = .ok (.string (bs (ofI l))) w := by
  have hl := h.len
  have hoct := fun x hx => wf_u8.1 (h.wf x hx)
  rcases Nat.eq_zero_or_pos n with h0 | h0
  · subst h0
    have := List.eq_nil_of_length_eq_zero hl
    subst this
    rw [run_convert_bytes_string w 52 9 5 _ 0 c Try.underlying52 Try.underlying5 Try.underlying9]
    cases a <;> simp [Conv.bytesToString, loadCells]
    all_goals rfl
  · rcases h.cells with h1 | ⟨b, o, rfl, hc⟩
    · omega
    have hlen : (ofI l).length = n := by simp [ofI, hl]
    have h := run_convert_bytes_back (P := Try.prog) w 52 9 5 ⟨b, o, none⟩ c (ofI l) Try.underlying52 Try.underlying5 Try.underlying9 (fun j hj => by
      have e : (⟨b, o, none⟩ : Addr).add j = ⟨b, o + j, none⟩ := by unfold Addr.add; split <;> simp_all
      have hjl : j < l.length := by rw [hlen] at hj; omega
      have ho := hoct l[j] (List.getElem_mem hjl)
      rw [e, hc j (by omega), List.getD_eq_getElem?_getD, List.getElem?_eq_getElem hjl, Option.getD_some]
      simp only [ofI, List.getElem_map, UInt8.toNat_ofNat']
      congr 2
      omega)
    rw [hlen] at h
    exact h
end Go.Proofs.Ytnkpmjkbkdnfjaa
