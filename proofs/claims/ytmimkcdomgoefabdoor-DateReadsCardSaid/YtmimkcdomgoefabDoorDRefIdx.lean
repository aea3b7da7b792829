/-
  The document's own place of a word among words (newsstandref04.index). Condition: the slice reads as a list of texts.
-/
import Derived.Test.YtmimkcdomgoefabDoorDRefTold
namespace Go.Proofs.YtmimkcdomgoefabDoor
open Go.RowKit

/-- The slice value v reads in w as the texts L; what is read lies below block B. -/
def RdS (w : World) (B : Nat) (v : Value) (L : List (List UInt8)) : Prop :=
  ∃ A c, v = .slice A L.length c ∧ L.length ≤ c ∧ c ≤ maxLen ∧
    (0 < L.length → ∃ b o, A = some ⟨b, o, none⟩ ∧ b < B ∧ ∀ j (h : j < L.length), w.cell? ⟨b, o + j, none⟩ = some (.string (str L[j])))
theorem RdS.keep {w w' : World} {B : Nat} {v : Value} {L : List (List UInt8)} (h : RdS w B v L) (hk : ∀ p : Addr, p.block < B → w'.cell? p = w.cell? p) : RdS w' B v L := by
  obtain ⟨A, c, rfl, h1, h2, h3⟩ := h
  refine ⟨A, c, rfl, h1, h2, fun hn => ?_⟩
  obtain ⟨b, o, rfl, hb, hc⟩ := h3 hn
  exact ⟨b, o, rfl, hb, fun j hj => by rw [hk _ hb]; exact hc j hj⟩

def idxF (s : List UInt8) : List (List UInt8) → Nat → Int
  | [], _ => -1
  | x :: r, k => if x = s then (k : Int) else idxF s r (k + 1)
def idxR (L : List (List UInt8)) (s : List UInt8) : Int := idxF s L 0
theorem idxF_bd (s : List UInt8) : ∀ (L : List (List UInt8)) (k : Nat), -1 ≤ idxF s L k ∧ idxF s L k < (k : Int) + L.length + 1
  | [], k => by unfold idxF; simp; omega
  | x :: r, k => by
    have := idxF_bd s r (k + 1)
    unfold idxF
    split
    · simp; omega
    · simp at this ⊢; omega

def IdxRel (L : List (List UInt8)) (s : List UInt8) (u : Value) : Prop := ∃ k : Nat, k ≤ L.length ∧ idxR L s = idxF s (L.drop k) k ∧ u = .int .i64 (k : Int)

set_option maxHeartbeats 1600000 in
theorem rindex_any (L : List (List UInt8)) (s : List UInt8) (v : Value) (B : Nat) (w : World) (hr : RdS w B v L) :
    Calls Tryd.prog 33 #[v, .string (str s)] w (Pure w (.int .i64 (idxR L s))) := by
  obtain ⟨A, c, rfl, hc1, hc2, hcell⟩ := hr
  have hlen : (L.length : Int) ≤ (maxLen : Int) := by omega
  unfold maxLen at hlen
  have HCELL := Lib.hid hcell
  have HLEN := Lib.hid hlen
  clear hcell hc1 hc2 hlen
  go_enter Tryd.func33, Tryd.ntmps33
  go_wp2_with fail
  go_loop [5] (IdxRel L s) (fun u => (L.length + 1 - intOf u).toNat)
  case atStart => exact ⟨0, Nat.zero_le _, rfl, rfl⟩
  case round =>
    obtain ⟨k, hk, hidx, rfl⟩ := hrel
    by_cases hkl : k < L.length
    · have hkI : (k : Int) < (L.length : Int) := by omega
      obtain ⟨b, o, rfl, _, hc⟩ := HCELL.out (by omega)
      have hck := hc k hkl
      rw [List.drop_eq_getElem_cons hkl] at hidx
      unfold idxF at hidx
      generalize L[k] = x at hck hidx
      by_cases hx : x = s
      · rw [if_pos hx] at hidx
        subst hx
        have HI := Lib.hid hidx
        clear hidx hc
        go_wp2_with fail
        go_ret
        exact ⟨by rw [HI.out]; rfl, rfl⟩
      · rw [if_neg hx] at hidx
        have hb2 : (x == s) = false := by simp [hx]
        have HI := Lib.hid hidx
        have HLN := HLEN.out
        clear hidx hc hx
        go_wp2_with fail
        go_round
        case rel => exact ⟨k + 1, by omega, HI.out, rfl⟩
        case measure => simp [intOf]; omega
    · have hkI : ¬ (k : Int) < (L.length : Int) := by omega
      rw [List.drop_eq_nil_of_le (by omega)] at hidx
      have HI := Lib.hid hidx
      clear hidx
      go_wp2_with fail
      go_ret
      exact ⟨by rw [HI.out]; rfl, rfl⟩
end Go.Proofs.YtmimkcdomgoefabDoor
