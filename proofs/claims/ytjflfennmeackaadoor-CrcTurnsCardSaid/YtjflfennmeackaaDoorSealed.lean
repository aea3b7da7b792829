/-
  What is sealed is opened: in plain words. No condition.
-/
import Derived.Test.YtjflfennmeackaaDoorOpen
namespace Go.Proofs.YtjflfennmeackaaDoor

theorem wordN_wordB (s : Nat) (h : s < 4294967296) : wordN (wordB s) = s := by
  unfold wordB
  show (UInt8.ofNat (s % 256)).toNat + 256 * (UInt8.ofNat (s / 256 % 256)).toNat + 65536 * (UInt8.ofNat (s / 65536 % 256)).toNat + 16777216 * (UInt8.ofNat (s / 16777216 % 256)).toNat = s
  simp only [UInt8.toNat_ofNat']
  omega
theorem wordB_wordN (l : List UInt8) (h : l.length = 4) : wordB (wordN l) = l := by
  match l, h with
  | [a, b, c, d], _ =>
    have ha := a.toNat_lt
    have hb := b.toNat_lt
    have hc := c.toNat_lt
    have hd := d.toNat_lt
    have e : ∀ (x : UInt8) (n : Nat), n = x.toNat → UInt8.ofNat n = x := fun x n hn => by rw [hn]; exact UInt8.ofNat_toNat
    have hw : wordN [a, b, c, d] = a.toNat + 256 * b.toNat + 65536 * c.toNat + 16777216 * d.toNat := rfl
    rw [hw]
    unfold wordB
    rw [e a _ (by omega), e b _ (by omega), e c _ (by omega), e d _ (by omega)]
theorem wordB_len (s : Nat) : (wordB s).length = 4 := rfl
theorem sealB_len (l : List UInt8) : (sealB l).length = l.length + 4 := by unfold sealB; rw [List.length_append, wordB_len]
theorem openS_sealB (l : List UInt8) : openS (sealB l) = some l := by
  have h1 : (sealB l).length - 4 = l.length := by rw [sealB_len]; omega
  have h2 : (sealB l).drop l.length = wordB (moreN 0 l) := by unfold sealB; simp
  have h3 : (sealB l).take l.length = l := by unfold sealB; simp
  unfold openS
  rw [if_neg (by rw [sealB_len]; omega), h1, h2, h3, if_pos (wordN_wordB _ (moreN_lt 0 l))]
/-- What opens is what was sealed: nothing else. -/
theorem openS_some (l x : List UInt8) (h : openS l = some x) : sealB x = l := by
  unfold openS at h
  split at h
  · cases h
  · split at h
    · rename_i h4 hw
      injection h with h
      subst h
      unfold sealB
      rw [← hw, wordB_wordN _ (by rw [List.length_drop]; omega), List.take_append_drop]
    · cases h
theorem openS_ref (l : List UInt8) : openS l = if l.length < 4 then none else if sealB (l.take (l.length - 4)) = l then some (l.take (l.length - 4)) else none := by
  by_cases h4 : l.length < 4
  · unfold openS; rw [if_pos h4, if_pos h4]
  · rw [if_neg h4]
    by_cases hs : sealB (l.take (l.length - 4)) = l
    · rw [if_pos hs]
      have := openS_sealB (l.take (l.length - 4))
      rw [hs] at this
      exact this
    · rw [if_neg hs]
      cases ho : openS l with
      | none => rfl
      | some x =>
        have hx := openS_some l x ho
        have : x = l.take (l.length - 4) := by
          rw [← hx, sealB_len]
          unfold sealB
          simp
        rw [this] at hx
        exact absurd hx hs
end Go.Proofs.YtjflfennmeackaaDoor
