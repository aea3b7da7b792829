/-
  The words of a text (words.Words), in order. Condition: at most 2^37 bytes.
-/
import Derived.Test.YtelhdkidnhfnbabGreatDoorWTake
namespace Go.Proofs.YtelhdkidnhfnbabGreatDoor
open Go.RowKit
open Go.Lib (decodeL encodeRune)

/-- A call that makes a row of its own of these texts. -/
def MadeStrs (w : World) (L : List (List UInt8)) (e : Ending) (w' : World) : Prop := ∃ v, e = .returned v ∧ Own w' w.heap.size 9 v (strs L) ∧ Below w.heap.size w w'
theorem WInv.iterAt {g base k : Nat} {out : List (List UInt8)} {word : List Int} {W : World} {s : ByteArray} {p : Nat} (h : WInv g base out word W) (hk1 : g + 2 < k) (hk2 : k < base) (_ : W.heap[k]? = some (.stringIter s p)) (q : Nat) : WInv g base out word (W.iterAt k s q) := by
  obtain ⟨vl, hl1, hl2⟩ := h.l
  obtain ⟨vw, hw1, hw2⟩ := h.w
  refine ⟨⟨vl, ?_, ownsRow_iterAt hl2 hk2 s q⟩, ?_, ⟨vw, ?_, ownsRow_iterAt hw2 hk2 s q⟩, h.b, by rw [Lib.iterAt_size]; exact h.s⟩
  · exact (Lib.iterAt_other _ _ _ _ _ (by omega)).trans hl1
  · exact (Lib.iterAt_other _ _ _ _ _ (by omega)).trans h.t
  · exact (Lib.iterAt_other _ _ _ _ _ (by omega)).trans hw1
def W3 (w : World) : World := ((w.alloc (.cells #[.slice none 0 0] 40)).alloc (.cells #[tellV w.heap.size] 75)).alloc (.cells #[.slice none 0 0] 62)
theorem w3_size (w : World) : (W3 w).heap.size = w.heap.size + 3 := by simp [W3]
theorem w3_below (w : World) : Below w.heap.size w (W3 w) := (((Below.refl _ _).alloc (Nat.le_refl _) _).alloc (by simp) _).alloc (by simp; omega) _
theorem wInv_new (w w4 : World) (b : Below (W3 w).heap.size (W3 w) w4) (f : ByteArray) : WInv w.heap.size (w4.heap.size + 1) [] [] (w4.iter f 0) := by
  have hz := w3_size w
  have hs := b.size
  have b2 : Below (W3 w).heap.size (W3 w) (w4.iter f 0) := b.alloc hs _
  have e1 : Blk (W3 w) w.heap.size 40 #[.slice none 0 0] := ((Blk.fresh w 40 #[.slice none 0 0]).alloc _).alloc _
  have e2 : Blk (W3 w) (w.heap.size + 1) 75 #[tellV w.heap.size] := by
    have h := Blk.fresh (w.alloc (.cells #[.slice none 0 0] 40)) 75 #[tellV w.heap.size]
    rw [show (w.alloc (.cells #[.slice none 0 0] 40)).heap.size = w.heap.size + 1 by simp] at h
    exact h.alloc _
  have e3 : Blk (W3 w) (w.heap.size + 2) 62 #[.slice none 0 0] := by
    have h := Blk.fresh ((w.alloc (.cells #[.slice none 0 0] 40)).alloc (.cells #[tellV w.heap.size] 75)) 62 #[.slice none 0 0]
    rw [show ((w.alloc (.cells #[.slice none 0 0] 40)).alloc (.cells #[tellV w.heap.size] 75)).heap.size = w.heap.size + 2 by simp] at h
    exact h
  refine ⟨⟨_, e1.below b2 (by omega), Own.nil _ _ _⟩, e2.below b2 (by omega), ⟨_, e3.below b2 (by omega), Own.nil _ _ _⟩, by omega, ?_⟩
  simp [World.iter]

def WordsRel (f : List UInt8) (w : World) (gi : Nat) (W : World) : Prop :=
  ∃ (k : Nat) (done : List Int), k ≤ f.length ∧ done ++ runes (f.drop k) = runes f ∧ WInv w.heap.size (gi + 1) (wFold done).1 (wFold done).2 W ∧ W.heap[gi]? = some (.stringIter (str f) k) ∧ Below w.heap.size w W

set_option maxHeartbeats 3200000 in
theorem words_any (l : List UInt8) (w : World) (hl : l.length ≤ 137438953472) :
    Calls Tryz.prog 52 #[.string (str l)] w (MadeStrs w (wordsS l)) := by
  have hfr := foldS_runes l
  have hrl := runes_len l
  have hF := fun W => fold_any l W (by omega)
  have hws : wordsS l = wordsR (runes (foldS l)) := by rw [hfr]; rfl
  rw [hws]
  have hrn : (runes (foldS l)).length ≤ 137438953472 := by rw [hfr, List.length_map]; omega
  generalize foldS l = f at hF hrn hws ⊢
  obtain ⟨R, hR⟩ : ∃ R, R = runes f := ⟨_, rfl⟩
  rw [← hR] at hrn ⊢
  have HR := Lib.hid hR
  have HF := Lib.hid hF
  have HRN := Lib.hid hrn
  obtain ⟨g, hg⟩ : ∃ g, g = w.heap.size := ⟨_, rfl⟩
  have hP := part_new w.heap.size (w.alloc (.cells #[.slice none 0 0] 40)) (by simp)
  unfold tellV partV at hP
  have HP := Lib.hid hP
  clear hfr hws hR hF hrl hl hrn hg hP
  go_enter Tryz.func52, Tryz.ntmps52
  go_wp2_with fail
  refine HP.out.mono ?_
  rintro e w3 ⟨rfl, hw3⟩
  have hw3' : W3 w = w3 := hw3
  clear hw3
  subst hw3'
  go_wp2_with fail
  refine (HF.out _).mono ?_
  rintro e w4 ⟨rfl, b4⟩
  have hi0 := wInv_new w w4 b4 (str f)
  have hit0 : (w4.iter (str f) 0).heap[w4.heap.size]? = some (.stringIter (str f) 0) := World.iter_heap w4 (str f) 0
  have hbw0 : Below w.heap.size w (w4.iter (str f) 0) := ((w3_below w).trans (b4.mono (w3_below w).size)).alloc (by have := b4.size; have := (w3_below w).size; omega) _
  have hs4 : w.heap.size + 3 ≤ w4.heap.size := by have := b4.size; rw [w3_size] at this; exact this
  have HI0 := Lib.hid hi0
  have HIT0 := Lib.hid hit0
  have HBW0 := Lib.hid hbw0
  clear hi0 hit0 hbw0 b4
  go_wp2_with fail
  go_loopw [] (WordsRel f w w4.heap.size) (fun wr => f.length - wr.iterPos w4.heap.size)
  case atStart => exact ⟨0, [], Nat.zero_le _, by simp, HI0.out, HIT0.out, HBW0.out⟩
  case round =>
    obtain ⟨k, done, hk, hj, hi, hit, hbw⟩ := hrel
    rw [← HR.out] at hj
    have hsz : w4.heap.size < wr.heap.size := (Array.getElem?_eq_some_iff.1 hit).1
    have hwb := wFold_bd done ([], []) (by simp)
    have hwb1 : (wFold done).2.length ≤ 32 := hwb.1
    have hwb2 : (wFold done).1.length ≤ done.length := by have := hwb.2; simp only [List.length_nil, Nat.zero_add] at this; exact this
    have hdl : done.length ≤ 137438953472 := by
      have e := congrArg List.length hj
      rw [List.length_append] at e
      have := HRN.out
      omega
    by_cases hkl : k < f.length
    · have hnx := fun ty => nxt_at wr w4.heap.size f k ty hit hkl
      have hd := dec_on hkl
      have hon := runes_on hkl
      rw [hon] at hj
      have hit2 := Lib.iterAt_heap wr w4.heap.size (str f) k (k + (decodeL (f.drop k)).2) hit
      have hbw2 := Lib.below_iterAt hbw (k := w4.heap.size) (by omega) (str f) (k + (decodeL (f.drop k)).2)
      have hi2 := hi.iterAt (by omega) (by omega) hit (k + (decodeL (f.drop k)).2)
      have hsz2 : w4.heap.size < (wr.iterAt w4.heap.size (str f) (k + (decodeL (f.drop k)).2)).heap.size := by rw [Lib.iterAt_size]; exact hsz
      have hsn := wFold_snoc done ((decodeL (f.drop k)).1 : Int)
      generalize hdd : decodeL (f.drop k) = d at *
      generalize wr.iterAt w4.heap.size (str f) (k + d.2) = W1 at *
      have hT := take_any w.heap.size (w4.heap.size + 1) (wFold done).1 (wFold done).2 (d.1 : Int) W1 hi2 (by omega) hwb1
      have HT := Lib.hid hT
      have HJ := Lib.hid hj
      have HD := Lib.hid hd
      have HIT := Lib.hid hit
      have HIT2 := Lib.hid hit2
      have HSN := Lib.hid hsn
      clear hT hj hd hdd hon hit hit2 hi hi2 hsn hwb hwb1 hwb2 hdl
      go_wp2_with (go_at_call 87; go_must (refine HT.out.mono ?_); rintro e w5 ⟨rfl, i5, p5⟩)
      have hitn : w5.heap[w4.heap.size]? = some (.stringIter (str f) (k + d.2)) := (p5.block w4.heap.size hsz2 (fun h => by omega)).trans HIT2.out
      have hbn : Below w.heap.size w w5 := hbw2.trans (Kept.to_below p5 hbw2.size (fun k hk => by omega))
      go_roundw
      case rel => exact ⟨k + d.2, done ++ [(d.1 : Int)], HD.out.2, by rw [← HR.out, List.append_assoc]; exact HJ.out, by rw [HSN.out]; exact i5, hitn, hbn⟩
      case measure =>
        rw [iterPos_of hitn, iterPos_of HIT.out]
        have := HD.out
        omega
    · have hnx := fun ty => nxt_no wr w4.heap.size f k ty hit hkl
      rw [runes_end hkl, List.append_nil] at hj
      have hT := take_any w.heap.size (w4.heap.size + 1) (wFold done).1 (wFold done).2 32 wr hi (by omega) hwb1
      have HT := Lib.hid hT
      have HJ := Lib.hid hj
      clear hT hj hi hit hwb hwb1 hwb2 hdl
      go_wp2_with (go_at_call 87; go_must (refine HT.out.mono ?_); rintro e w5 ⟨rfl, i5, p5⟩; obtain ⟨vl, hl1, hl2⟩ := i5.l; have gl := hl1.cell 0; simp only [List.getElem?_toArray, List.getElem?_cons_zero] at gl)
      have hbn : Below w.heap.size w w5 := hbw.trans (Kept.to_below p5 hbw.size (fun k hk => by omega))
      go_ret
      exact ⟨_, rfl, by rw [← HJ.out]; exact hl2.more (by omega), hbn⟩
end Go.Proofs.YtelhdkidnhfnbabGreatDoor
