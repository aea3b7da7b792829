/-
  The program's clean and folded texts, and beginnings. Condition: at most 2^40 bytes.
-/
import Derived.Test.YtelhdkidnhfnbabGreatDoorUPut
namespace Go.Proofs.YtelhdkidnhfnbabGreatDoor
open Go.RowKit
open Go.Lib (decodeL encodeRune)

def FoldRel (l : List UInt8) (w : World) (W : World) : Prop :=
  ∃ (k : Nat) (done : List Int), k ≤ l.length ∧ done ++ runes (l.drop k) = runes l ∧ W.heap[w.heap.size + 1]? = some (.stringIter (str l) k) ∧ Bld w.heap.size (put (done.map foldR)) W ∧ Below w.heap.size w W
theorem bld_iter {g k : Nat} {l : List UInt8} {w : World} {s : ByteArray} {p : Nat} (h : Bld g l w) (hk : w.heap[k]? = some (.stringIter s p)) (q : Nat) : Bld g l (w.iterAt k s q) := Lib.IsBuilderF.iterAt h hk q
theorem bld_alloc {g : Nat} {l : List UInt8} {w : World} (h : Bld g l w) (o : Obj) : Bld g l (w.alloc o) := Lib.IsBuilderF.alloc h o
theorem put_map_snoc (done : List Int) (c : Int) : put ((done ++ [c]).map foldR) = put (done.map foldR) ++ encodeRune (foldR c) := by rw [List.map_append, List.map_cons, List.map_nil, put_snoc]
set_option maxHeartbeats 1600000 in
theorem fold_any (l : List UInt8) (w : World) (hl : l.length ≤ 1099511627776) :
    Calls Tryz.prog 71 #[.string (str l)] w (Made w (.string (str (foldS l)))) := by
  obtain ⟨R, hR⟩ : ∃ R, R = runes l := ⟨_, rfl⟩
  have hrl := runes_len l
  unfold foldS
  rw [← hR] at hrl ⊢
  have HR := Lib.hid hR
  clear hR
  have hit0 := World.iter_heap (w.alloc (.cells #[.pointer none, .slice none 0 0] 44)) (str l) 0
  rw [show (w.alloc (.cells #[.pointer none, .slice none 0 0] 44)).heap.size = w.heap.size + 1 by simp] at hit0
  have HIT0 := Lib.hid hit0
  have HB0 := Lib.hid (bld_alloc (bld_new w) (.stringIter (str l) 0))
  have HW0 := Lib.hid (((Below.refl w.heap.size w).alloc (Nat.le_refl _) (.cells #[.pointer none, .slice none 0 0] 44)).alloc (by simp) (.stringIter (str l) 0))
  clear hit0
  go_enter Tryz.func71, Tryz.ntmps71
  go_wp2_with fail
  go_loopw [] (FoldRel l w) (fun wr => l.length - wr.iterPos (w.heap.size + 1))
  case atStart => exact ⟨0, [], Nat.zero_le _, by simp, HIT0.out, HB0.out, HW0.out⟩
  case round =>
    obtain ⟨k, done, hk, hj, hit, hbd, hbw⟩ := hrel
    rw [← HR.out] at hj
    have hsz : w.heap.size + 1 < wr.heap.size := (Array.getElem?_eq_some_iff.1 hit).1
    by_cases hkl : k < l.length
    · have hnx := fun ty => nxt_at wr (w.heap.size + 1) l k ty hit hkl
      have hd := dec_on hkl
      have hon := runes_on hkl
      rw [hon] at hj
      have hlen : done.length + 1 ≤ 1099511627776 := by
        have := congrArg List.length hj
        rw [List.length_append, List.length_cons] at this
        omega
      have hit2 := Lib.iterAt_heap wr (w.heap.size + 1) (str l) k (k + (decodeL (l.drop k)).2) hit
      have hbw2 := Lib.below_iterAt hbw (k := w.heap.size + 1) (by omega) (str l) (k + (decodeL (l.drop k)).2)
      have hbd2 := bld_iter hbd hit (k + (decodeL (l.drop k)).2)
      have hsz2 : w.heap.size ≤ (wr.iterAt (w.heap.size + 1) (str l) (k + (decodeL (l.drop k)).2)).heap.size := by rw [Lib.iterAt_size]; omega
      have henc := encode_str (foldR ((decodeL (l.drop k)).1 : Int))
      have hel := enc_len (foldR ((decodeL (l.drop k)).1 : Int))
      have hpl : (put (done.map foldR)).length ≤ 4 * done.length := by
        have := (put_len (done.map foldR)).2
        rwa [List.length_map] at this
      generalize hdd : decodeL (l.drop k) = d at *
      generalize wr.iterAt (w.heap.size + 1) (str l) (k + d.2) = W1 at *
      have HJ := Lib.hid hj
      have HD := Lib.hid hd
      have HIT := Lib.hid hit
      have HIT2 := Lib.hid hit2
      have HL := Lib.hid hlen
      have HEL := Lib.hid hel
      have HPL := Lib.hid hpl
      clear hj hd hdd hon hit hit2 hlen hbd hel hpl
      go_wp2_with (first
        | (go_at_call 90; refine (folded_any _ _).mono ?_; rintro e w' ⟨rfl, rfl⟩)
        | (go_at_call 28; go_must (refine (bld_string w.heap.size _ _ _ hbd2 (by have := HPL.out; have := HEL.out; have := HL.out; omega) hsz2).mono ?_); rintro e w1 ⟨rfl, h1, b1, k1⟩))
      go_roundw
      case rel => exact ⟨k + d.2, done ++ [(d.1 : Int)], HD.out.2, by rw [← HR.out, List.append_assoc]; exact HJ.out, k1.iter HIT2.out (by omega), by rw [put_map_snoc]; exact h1, hbw2.trans b1⟩
      case measure =>
        have e1 := iterPos_of (k1.iter HIT2.out (by omega : w.heap.size + 1 ≠ w.heap.size))
        have e2 := iterPos_of HIT.out
        rw [e1, e2]
        have := HD.out
        omega
    · have hnx := fun ty => nxt_no wr (w.heap.size + 1) l k ty hit hkl
      rw [runes_end hkl, List.append_nil] at hj
      have HJ := Lib.hid hj
      clear hj hit
      go_wp2_with (go_at_call 31; go_must (refine (bld_end w.heap.size _ _ hbd (by omega)).mono ?_); rintro e w1 ⟨rfl, b1⟩)
      go_ret
      exact ⟨by rw [← HJ.out]; rfl, hbw.trans b1⟩

/-! ### clean -/
def CleanRel (l : List UInt8) (w : World) (u : Value) (W : World) : Prop :=
  ∃ (k : Nat) (done : List Int) (o : List Int × Bool) (a : Bool), k ≤ l.length ∧ done ++ runes (l.drop k) = runes l ∧ o = done.foldl cleanStep ([], false) ∧ o.2 = (a && decide (o.1 ≠ [])) ∧ u = .bool a ∧
    W.heap[w.heap.size + 1]? = some (.stringIter (str l) k) ∧ Bld w.heap.size (put o.1) W ∧ Below w.heap.size w W
theorem step_blank {o : List Int × Bool} {c : Int} (h : blankB c = true) : cleanStep o c = (o.1, decide (o.1 ≠ [])) := by unfold cleanStep; rw [if_pos h]
theorem step_unseen {o : List Int × Bool} {c : Int} (h : blankB c = false) (h' : unseenB c = true) : cleanStep o c = o := by unfold cleanStep; rw [if_neg (by simp [h]), if_pos h']
theorem step_keep {o : List Int × Bool} {c : Int} (h : blankB c = false) (h' : unseenB c = false) (hw : o.2 = false) : cleanStep o c = (o.1 ++ [c], false) := by
  unfold cleanStep; rw [if_neg (by simp [h]), if_neg (by simp [h']), hw]; simp
theorem step_wait {o : List Int × Bool} {c : Int} (h : blankB c = false) (h' : unseenB c = false) (hw : o.2 = true) : cleanStep o c = (o.1 ++ [32] ++ [c], false) := by
  unfold cleanStep; rw [if_neg (by simp [h]), if_neg (by simp [h']), hw]; simp
theorem foldl_snoc (done : List Int) (c : Int) : (done ++ [c]).foldl cleanStep ([], false) = cleanStep (done.foldl cleanStep ([], false)) c := by rw [List.foldl_append]; rfl
theorem put_ne {rs : List Int} (h : rs ≠ []) : 0 < (put rs).length := by
  have h1 := (put_len rs).1
  have h2 : 0 < rs.length := List.length_pos_iff.2 h
  omega
set_option maxHeartbeats 3200000 in
theorem clean_any (l : List UInt8) (w : World) (hl : l.length ≤ 1099511627776) :
    Calls Tryz.prog 51 #[.string (str l)] w (Made w (.string (str (cleanS l)))) := by
  obtain ⟨R, hR⟩ : ∃ R, R = runes l := ⟨_, rfl⟩
  have hrl := runes_len l
  unfold cleanS
  rw [← hR] at hrl ⊢
  have HR := Lib.hid hR
  clear hR
  have hit0 := World.iter_heap (w.alloc (.cells #[.pointer none, .slice none 0 0] 44)) (str l) 0
  rw [show (w.alloc (.cells #[.pointer none, .slice none 0 0] 44)).heap.size = w.heap.size + 1 by simp] at hit0
  have HIT0 := Lib.hid hit0
  have HB0 := Lib.hid (bld_alloc (bld_new w) (.stringIter (str l) 0))
  have HW0 := Lib.hid (((Below.refl w.heap.size w).alloc (Nat.le_refl _) (.cells #[.pointer none, .slice none 0 0] 44)).alloc (by simp) (.stringIter (str l) 0))
  clear hit0
  go_enter Tryz.func51, Tryz.ntmps51
  go_wp2_with fail
  go_loopw [4] (CleanRel l w) (fun _ wr => l.length - wr.iterPos (w.heap.size + 1))
  case atStart => exact ⟨0, [], ([], false), false, Nat.zero_le _, by simp, rfl, rfl, rfl, HIT0.out, HB0.out, HW0.out⟩
  case round =>
    obtain ⟨k, done, o, a, hk, hj, ho, hw2, rfl, hit, hbd, hbw⟩ := hrel
    rw [← HR.out] at hj
    have hsz : w.heap.size + 1 < wr.heap.size := (Array.getElem?_eq_some_iff.1 hit).1
    by_cases hkl : k < l.length
    · have hnx := fun ty => nxt_at wr (w.heap.size + 1) l k ty hit hkl
      have hd := dec_on hkl
      have hon := runes_on hkl
      rw [hon] at hj
      have hlen : done.length + 1 ≤ 1099511627776 := by
        have := congrArg List.length hj
        rw [List.length_append, List.length_cons] at this
        omega
      have hit2 := Lib.iterAt_heap wr (w.heap.size + 1) (str l) k (k + (decodeL (l.drop k)).2) hit
      have hbw2 := Lib.below_iterAt hbw (k := w.heap.size + 1) (by omega) (str l) (k + (decodeL (l.drop k)).2)
      have hbd2 := bld_iter hbd hit (k + (decodeL (l.drop k)).2)
      have hsz2 : w.heap.size ≤ (wr.iterAt (w.heap.size + 1) (str l) (k + (decodeL (l.drop k)).2)).heap.size := by rw [Lib.iterAt_size]; omega
      have henc := encode_str ((decodeL (l.drop k)).1 : Int)
      have hel := enc_len ((decodeL (l.drop k)).1 : Int)
      have hol := cleanR_len done ([], false)
      rw [← ho] at hol
      have hpl := (put_len o.1).2
      simp only [List.length_nil, Nat.zero_add] at hol
      have hjn := foldl_snoc done ((decodeL (l.drop k)).1 : Int)
      rw [← ho] at hjn
      generalize hdd : decodeL (l.drop k) = d at *
      generalize wr.iterAt (w.heap.size + 1) (str l) (k + d.2) = W1 at *
      have HJ := Lib.hid hj
      have HD := Lib.hid hd
      have HIT := Lib.hid hit
      have HIT2 := Lib.hid hit2
      have hpl2 : (put o.1).length + 5 ≤ 140737488355328 := by omega
      have HPL := Lib.hid hpl2
      have HEL := Lib.hid hel
      have HW2 := Lib.hid hw2
      have HJN := Lib.hid hjn
      clear hj hd hdd hon hit hit2 hlen hbd hel hpl hpl2 hol hw2 hjn ho
      have fin : ∀ W' : World, W'.heap[w.heap.size + 1]? = some (.stringIter (str l) (k + d.2)) → l.length - W'.iterPos (w.heap.size + 1) < l.length - wr.iterPos (w.heap.size + 1) := fun W' h => by
        rw [iterPos_of h, iterPos_of HIT.out]
        have := HD.out
        omega
      have FIN := Lib.hid fin
      have hjj : done ++ [(d.1 : Int)] ++ runes (l.drop (k + d.2)) = runes l := by rw [← HR.out, List.append_assoc]; exact HJ.out
      have HJJ := Lib.hid hjj
      clear fin hjj
      cases hb : blankB (d.1 : Int) with
      | true =>
        have HS := Lib.hid (step_blank (o := o) hb)
        have HBL := Lib.hid hb
        clear hb
        go_wp2_with (go_at_call 65; refine (blank_any _ _).mono ?_; rw [HBL.out]; rintro e w' ⟨rfl, rfl⟩)
        go_roundw
        case rel => exact ⟨k + d.2, done ++ [(d.1 : Int)], _, true, HD.out.2, HJJ.out, HJN.out.symm, by rw [HS.out]; simp, rfl, HIT2.out, by rw [HS.out]; exact hbd2, hbw2⟩
        case measure => exact FIN.out _ HIT2.out
      | false =>
        cases hu : unseenB (d.1 : Int) with
        | true =>
          have HS := Lib.hid (step_unseen (o := o) hb hu)
          have HBL := Lib.hid hb
          have HUN := Lib.hid hu
          clear hb hu
          go_wp2_with (first
            | (go_at_call 65; refine (blank_any _ _).mono ?_; rw [HBL.out]; rintro e w' ⟨rfl, rfl⟩)
            | (go_at_call 66; refine (unseen_any _ _).mono ?_; rw [HUN.out]; rintro e w' ⟨rfl, rfl⟩))
          go_roundw
          case rel => exact ⟨k + d.2, done ++ [(d.1 : Int)], _, a, HD.out.2, HJJ.out, HJN.out.symm, by rw [HS.out]; exact HW2.out, rfl, HIT2.out, by rw [HS.out]; exact hbd2, hbw2⟩
          case measure => exact FIN.out _ HIT2.out
        | false =>
          have hput1 := put_snoc o.1 (d.1 : Int)
          have HP1 := Lib.hid hput1
          clear hput1
          cases a with
          | false =>
            have hw := HW2.out
            rw [Bool.false_and] at hw
            have HS := Lib.hid (step_keep (o := o) hb hu hw)
            have HBL := Lib.hid hb
            have HUN := Lib.hid hu
            clear hb hu hw
            go_wp2_with (first
              | (go_at_call 65; refine (blank_any _ _).mono ?_; rw [HBL.out]; rintro e w' ⟨rfl, rfl⟩)
              | (go_at_call 66; refine (unseen_any _ _).mono ?_; rw [HUN.out]; rintro e w' ⟨rfl, rfl⟩)
              | (go_at_call 28; go_must (refine (bld_string w.heap.size _ _ _ hbd2 (by have := HPL.out; have := HEL.out; omega) hsz2).mono ?_); rintro e w1 ⟨rfl, h1, b1, k1⟩))
            go_roundw
            case rel => exact ⟨k + d.2, done ++ [(d.1 : Int)], _, false, HD.out.2, HJJ.out, HJN.out.symm, by rw [HS.out]; rfl, rfl, k1.iter HIT2.out (by omega), by rw [HS.out]; dsimp only; rw [HP1.out]; exact h1, hbw2.trans b1⟩
            case measure => exact FIN.out _ (k1.iter HIT2.out (by omega))
          | true =>
            by_cases hne : o.1 = []
            · have hw := HW2.out
              rw [hne] at hw
              have hw : o.2 = false := by simpa using hw
              have HS := Lib.hid (step_keep (o := o) hb hu hw)
              have HBL := Lib.hid hb
              have HUN := Lib.hid hu
              have hl0 : ((put o.1).length : Int) ≤ 0 := by rw [hne]; simp [put]
              have hl1 : decide ((0 : Int) < ((put o.1).length : Int)) = false := decide_eq_false (by omega)
              have hl2 : decide (0 < (put o.1).length) = false := decide_eq_false (by omega)
              clear hb hu hw hne
              go_wp2_with (first
                | (go_at_call 65; refine (blank_any _ _).mono ?_; rw [HBL.out]; rintro e w' ⟨rfl, rfl⟩)
                | (go_at_call 66; refine (unseen_any _ _).mono ?_; rw [HUN.out]; rintro e w' ⟨rfl, rfl⟩)
                | (go_at_call 67; go_must (refine (bld_len w.heap.size _ _ hbd2).mono ?_); rintro e w1 ⟨rfl, rfl⟩)
                | (go_at_call 28; go_must (refine (bld_string w.heap.size _ _ _ hbd2 (by have := HPL.out; have := HEL.out; omega) hsz2).mono ?_); rintro e w1 ⟨rfl, h1, b1, k1⟩))
              go_roundw
              case rel => exact ⟨k + d.2, done ++ [(d.1 : Int)], _, false, HD.out.2, HJJ.out, HJN.out.symm, by rw [HS.out]; rfl, rfl, k1.iter HIT2.out (by omega), by rw [HS.out]; dsimp only; rw [HP1.out]; exact h1, hbw2.trans b1⟩
              case measure => exact FIN.out _ (k1.iter HIT2.out (by omega))
            · have hw := HW2.out
              have hw : o.2 = true := by rw [hw]; simp [hne]
              have HS := Lib.hid (step_wait (o := o) hb hu hw)
              have hpp : put (o.1 ++ [32] ++ [(d.1 : Int)]) = put o.1 ++ [32] ++ encodeRune (d.1 : Int) := by rw [put_snoc, put_snoc]; rfl
              have HPP := Lib.hid hpp
              have HBL := Lib.hid hb
              have HUN := Lib.hid hu
              have hpn := put_ne hne
              have hl0 : (0 : Int) < ((put o.1).length : Int) := by omega
              have hl1 : decide ((0 : Int) < ((put o.1).length : Int)) = true := decide_eq_true hl0
              have hl2 : decide (0 < (put o.1).length) = true := decide_eq_true hpn
              have hlx : (put o.1 ++ [32]).length + (encodeRune (d.1 : Int)).length ≤ 140737488355328 := by
                have := HPL.out
                have := HEL.out
                rw [List.length_append, List.length_singleton]
                omega
              have HLX := Lib.hid hlx
              clear hb hu hw hne hpp hlx
              go_wp2_with (first
                | (go_at_call 65; refine (blank_any _ _).mono ?_; rw [HBL.out]; rintro e w' ⟨rfl, rfl⟩)
                | (go_at_call 66; refine (unseen_any _ _).mono ?_; rw [HUN.out]; rintro e w' ⟨rfl, rfl⟩)
                | (go_at_call 67; go_must (refine (bld_len w.heap.size _ _ hbd2).mono ?_); rintro e w1 ⟨rfl, rfl⟩)
                | (go_at_call 68; go_must (refine (bld_byte w.heap.size _ 32 _ hbd2 (by have := HPL.out; omega) hsz2).mono ?_); rintro e w1 ⟨rfl, h1, b1, k1⟩; have hsz3 : w.heap.size ≤ w1.heap.size := Nat.le_trans hsz2 b1.size))
              go_wp2_with (go_at_call 28; go_must (refine (bld_string w.heap.size _ _ _ h1 HLX.out hsz3).mono ?_); rintro e w2 ⟨rfl, h2, b2, k2⟩)
              go_roundw
              case rel => exact ⟨k + d.2, done ++ [(d.1 : Int)], _, false, HD.out.2, HJJ.out, HJN.out.symm, by rw [HS.out]; rfl, rfl, k2.iter (k1.iter HIT2.out (by omega)) (by omega), by rw [HS.out]; dsimp only; rw [HPP.out]; exact h2, (hbw2.trans b1).trans b2⟩
              case measure => exact FIN.out _ (k2.iter (k1.iter HIT2.out (by omega)) (by omega))
    · have hnx := fun ty => nxt_no wr (w.heap.size + 1) l k ty hit hkl
      rw [runes_end hkl, List.append_nil] at hj
      have hfin : cleanR R = o.1 := by rw [ho, ← hj]; rfl
      have HF := Lib.hid hfin
      clear hj hit ho hw2 hfin
      go_wp2_with (go_at_call 31; go_must (refine (bld_end w.heap.size _ _ hbd (by omega)).mono ?_); rintro e w1 ⟨rfl, b1⟩)
      go_ret
      exact ⟨by rw [HF.out]; rfl, hbw.trans b1⟩
end Go.Proofs.YtelhdkidnhfnbabGreatDoor
