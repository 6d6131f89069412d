/- The code's end of a link gives what the statements ask of an end. -/
import Derived.Test.YtdjnflfcolpccaaCyNext
import Derived.Test.YtdjnflfcolpccaaEaHear
import Derived.Test.YtdjnflfcolpccaaEaRetr
import Derived.Test.YtdjnflfcolpccaaBaTwo
import Derived.Test.YtdjnflfcolpccaaEaPut
namespace Go.Proofs.Ytdjnflfcolpccaa
open Go.RowKit

def endFace : EndFace where
  At := EAt
  exc := by
    rintro w w' b S T x ⟨L, rfl, h⟩ hx hn
    exact ⟨L, rfl, h.exc hx hn⟩
  lt := by
    rintro w b S x ⟨L, rfl, h⟩
    exact h.s_lt
  self := by
    rintro w b S x ⟨L, rfl, h⟩
    exact .inl rfl
  fit := by
    rintro w b S x ⟨L, rfl, h⟩
    exact h.fit
  new := by
    intro w lm lo l1 l2 l3 l4
    refine (enew_any w lm lo l1 l2 l3 l4).mono ?_
    rintro e w' ⟨rfl, h, hb⟩
    refine ⟨⟨_, _, rfl, ⟨ELay.none, rfl, h⟩, fun k hk => ?_⟩, hb⟩
    rcases hk with hk | hk | hk | hk
    · omega
    · simp [ELay.none] at hk
    · simp [ELay.none] at hk
    · exact hk.elim
  accept := by
    rintro b S x w a n c l ⟨L, rfl, h⟩ hf h64 hr h2 h3 hs
    refine (accept_ok b x L w a n c l h hf h64 hr h2 h3).mono ?_
    rintro e w' ⟨rfl, L', h', ht⟩
    exact ⟨rfl, _, ⟨L', rfl, h'⟩, ht⟩
  acceptFull := by
    rintro b S x w a n c l ⟨L, rfl, h⟩ hf h64 hr h2 h3 hs
    have hC : chk 0 0 2 0 n = 0 := by rw [chk_ok]; omega
    refine (accept_not b x L w a n c h hf (by omega) (.inr h64)).mono ?_
    rintro e w' ⟨rfl, hb⟩
    rw [if_neg (by simp [hC])]
    exact ⟨rfl, _, ⟨L, rfl, h.later hb⟩, ⟨Exc.of_below hb, fun k hk => .inl hk⟩⟩
  next := by
    rintro b S x w ⟨L, rfl, h⟩ hf
    refine (next_ok b x L w h hf).mono ?_
    rintro e w' ⟨L', h1, h2, h3⟩
    exact ⟨_, h1, ⟨L', rfl, h2⟩, h3⟩
  hear := by
    rintro b S x w u s n c ⟨L, rfl, h⟩ hf hk hc hr hs hnf
    refine (hear_ok b x L w u s n c h hf hk hc hr (fun z hz hb => hs z hz (.inl hb))).mono ?_
    rintro e w' ⟨⟨a, c', rfl, hm, hc1⟩, L', h1, h2, h3⟩
    refine ⟨_, ⟨a, c', by rw [hnf]; rfl, hm.weak (fun k hk => hk), hc1⟩, ⟨L', h2.symm, h1⟩, ⟨h3.weak (fun k _ hk => .inl hk), fun k hk => .inl hk⟩⟩
  last := by
    rintro b S x w ⟨L, rfl, h⟩
    exact elast_any b x L w h
  waiting := by
    rintro b S x w ⟨L, rfl, h⟩
    exact ewaiting_any b x L w h
  retrieve := by
    rintro b S x w n ⟨L, rfl, h⟩ hn hle
    exact retrieve_ok b x L w n h hn hle
theorem endMore : EndMore endFace where
  retrieveBad := by
    rintro b S x w n ⟨L, rfl, h⟩ hn hno
    refine (retrieve_bad b x L w n h (by omega) (by omega)).mono ?_
    rintro e w' ⟨rfl, q, rfl⟩
    exact ⟨⟨_, rfl⟩, below_draw w q⟩
end Go.Proofs.Ytdjnflfcolpccaa
