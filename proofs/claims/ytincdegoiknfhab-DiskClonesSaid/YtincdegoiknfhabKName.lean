/-
  Whether a text is a name (isName). Condition: at most 2^40 bytes.
-/
import Derived.Test.YtincdegoiknfhabKSign
import Derived.Test.YtincdegoiknfhabUStr
namespace Go.Proofs.Ytincdegoiknfhab
open Go.RowKit
open Go.Lib (decodeL encodeRune)

def nameB (l : List UInt8) : Bool := decide (1 ≤ l.length) && decide (l.length ≤ 24) && (runes l).all signB
def NameRel (l : List UInt8) (w : World) (_ : Value) (W : World) : Prop :=
  ∃ k : Nat, k ≤ l.length ∧ (runes l).all signB = (runes (l.drop k)).all signB ∧ W.heap[w.heap.size]? = some (.stringIter (str l) k) ∧ Below w.heap.size w W
theorem kiterPos {w : World} {g : Nat} {s : ByteArray} {p : Nat} (h : w.heap[g]? = some (.stringIter s p)) : w.iterPos g = p := by unfold World.iterPos; rw [h]
set_option maxHeartbeats 1600000 in
theorem kname (l : List UInt8) (w : World) (hl : l.length ≤ 1099511627776) : Calls Try.prog 56 #[.string (str l)] w (Made w (.bool (nameB l))) := by
  by_cases h1 : l.length < 1
  · have hv : nameB l = false := by unfold nameB; rw [decide_eq_false (by omega)]; rfl
    have HV := Lib.hid hv
    have h1I : (l.length : Int) < 1 := by omega
    clear hv
    go_enter Try.func56, Try.ntmps56
    go_wp2_with fail
    go_ret
    exact ⟨by rw [HV.out]; rfl, Below.refl _ _⟩
  · have h1D : decide ((l.length : Int) < 1) = false := decide_eq_false (by omega)
    by_cases h2 : 24 < l.length
    · have hv : nameB l = false := by unfold nameB; rw [decide_eq_false (show ¬ l.length ≤ 24 by omega), Bool.and_false]; rfl
      have HV := Lib.hid hv
      have h2I : (24 : Int) < (l.length : Int) := by omega
      clear hv
      go_enter Try.func56, Try.ntmps56
      go_wp2_with fail
      go_ret
      exact ⟨by rw [HV.out]; rfl, Below.refl _ _⟩
    · have h2D : decide ((24 : Int) < (l.length : Int)) = false := decide_eq_false (by omega)
      have hv : nameB l = (runes l).all signB := by unfold nameB; rw [decide_eq_true (show 1 ≤ l.length by omega), decide_eq_true (show l.length ≤ 24 by omega)]; rfl
      obtain ⟨B, hB⟩ : ∃ B, B = (runes l).all signB := ⟨_, rfl⟩
      rw [hv, ← hB]
      have HB := Lib.hid hB
      have hit0 : (w.iter (str l) 0).heap[w.heap.size]? = some (.stringIter (str l) 0) := World.iter_heap w (str l) 0
      have HIT0 := Lib.hid hit0
      clear hv hB hit0
      go_enter Try.func56, Try.ntmps56
      go_wp2_with fail
      go_loopw [4] (NameRel l w) (fun _ wr => l.length - wr.iterPos w.heap.size)
      case atStart => exact ⟨0, Nat.zero_le _, by simp, HIT0.out, (Below.refl _ _).alloc (Nat.le_refl _) _⟩
      case round =>
        obtain ⟨k, hk, hj, hit, hbw⟩ := hrel
        rw [← HB.out] at hj
        have hsz : w.heap.size < wr.heap.size := (Array.getElem?_eq_some_iff.1 hit).1
        by_cases hkl : k < l.length
        · have hnx := fun ty => nxt_at wr w.heap.size l k ty hit hkl
          have hd := dec_on hkl
          rw [runes_on hkl, List.all_cons] at hj
          have hit2 := Lib.iterAt_heap wr w.heap.size (str l) k (k + (decodeL (l.drop k)).2) hit
          have hbw2 := Lib.below_iterAt hbw (Nat.le_refl _) (str l) (k + (decodeL (l.drop k)).2)
          generalize hdd : decodeL (l.drop k) = dd at *
          generalize wr.iterAt w.heap.size (str l) (k + dd.2) = W1 at *
          have HD := Lib.hid hd
          have HIT := Lib.hid hit
          have HIT2 := Lib.hid hit2
          clear hd hdd hit hit2
          cases hs : signB (dd.1 : Int) with
          | true =>
            rw [hs, Bool.true_and] at hj
            have HJ := Lib.hid hj
            have HS := Lib.hid hs
            clear hj hs
            go_wp2_with (go_at_call 78; refine (ksign _ _).mono ?_; rw [HS.out]; rintro e w' ⟨rfl, rfl⟩)
            go_roundw
            case rel => exact ⟨k + dd.2, HD.out.2, by rw [← HB.out]; exact HJ.out, HIT2.out, hbw2⟩
            case measure =>
              have e1 := kiterPos HIT2.out
              have e2 := kiterPos HIT.out
              rw [e1, e2]
              have := HD.out
              omega
          | false =>
            rw [hs, Bool.false_and] at hj
            have HJ := Lib.hid hj
            have HS := Lib.hid hs
            clear hj hs
            go_wp2_with (go_at_call 78; refine (ksign _ _).mono ?_; rw [HS.out]; rintro e w' ⟨rfl, rfl⟩)
            go_ret
            exact ⟨by rw [HJ.out]; rfl, hbw2⟩
        · have hnx := fun ty => nxt_no wr w.heap.size l k ty hit hkl
          rw [runes_end hkl] at hj
          have HJ := Lib.hid hj
          clear hj hit
          go_wp2_with fail
          go_ret
          exact ⟨by rw [HJ.out]; rfl, hbw⟩
end Go.Proofs.Ytincdegoiknfhab
