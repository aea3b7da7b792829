/-
  strings.Cut at one byte; whether a text has a rune of a kind (strings.ContainsFunc with entity's own function); Plain. Conditions: lengths are lengths; the table is as the program's text lays it.
-/
import Derived.Test.YthnepbdkbiieiaaDoorEName
import Derived.Test.YthnepbdkbiieiaaDoorEWMath
import Derived.Test.YthnepbdkbiieiaaDoorShelf
namespace Go.Proofs.YthnepbdkbiieiaaDoor
open Go.RowKit
open Go.Lib (decodeL encodeRune)

theorem index_none (c : UInt8) : ∀ l : List UInt8, l.all (fun b => b != c) = true → Lib.indexByte l c = -1
  | [], _ => rfl
  | b :: t, h => by
    rw [List.all_cons, Bool.and_eq_true] at h
    have hb : (b == c) = false := by simpa using h.1
    unfold Lib.indexByte
    rw [hb, index_none c t h.2]
    rfl
theorem index_some (c : UInt8) : ∀ l : List UInt8, l.all (fun b => b != c) = false → Lib.indexByte l c = ((l.takeWhile fun b => b != c).length : Int) ∧ (l.takeWhile fun b => b != c).length < l.length
  | [], h => by cases h
  | b :: t, h => by
    rw [List.all_cons] at h
    unfold Lib.indexByte
    by_cases hb : b = c
    · subst hb
      have h1 : (b == b) = true := by simp
      have h2 : (b != b) = false := by simp
      rw [h1, if_pos rfl, List.takeWhile_cons_of_neg (by rw [h2]; exact Bool.false_ne_true)]
      exact ⟨rfl, by simp⟩
    · have h1 : (b == c) = false := by simpa using hb
      have h2 : (b != c) = true := by simpa using hb
      rw [h2, Bool.true_and] at h
      obtain ⟨h3, h4⟩ := index_some c t h
      rw [h1, if_neg Bool.false_ne_true, List.takeWhile_cons_of_pos (by exact h2), h3]
      have h5 : ((((t.takeWhile fun b => b != c).length : Int)) == -1) = false := by simp
      rw [h5, if_neg Bool.false_ne_true, List.length_cons, List.length_cons]
      exact ⟨by omega, by omega⟩
theorem take_while (c : UInt8) (l : List UInt8) : l.take (l.takeWhile fun b => b != c).length = l.takeWhile fun b => b != c := by
  conv => lhs; arg 2; rw [← List.takeWhile_append_dropWhile (p := fun b => b != c) (l := l)]
  rw [List.take_left]
theorem scut_any (l : List UInt8) (c : UInt8) (w : World) (hl : l.length ≤ 1099511627776) : Calls Tryd.prog 59 #[.string (str l), .string (str [c])] w (Made w (.tuple #[.string (str (cutC c l).1), .string (str (cutC c l).2.1), .bool (cutC c l).2.2])) := by
  have k1 := fun W => Tryd.stringslite_Index_one (str l) c W
  rw [str_data] at k1
  unfold cutC
  cases ha : l.all fun b => b != c with
  | true =>
    rw [index_none c l ha] at k1
    rw [if_pos rfl]
    have K1 := Lib.hid k1
    clear k1 ha
    go_enter Tryd.func59, Tryd.ntmps59
    go_wp2_with fail
    refine (K1.out _).mono ?_
    rintro e w1 ⟨rfl, rfl⟩
    go_wp2_with fail
    go_ret3
    exact ⟨rfl, Below.refl _ _⟩
  | false =>
    obtain ⟨h1, h2⟩ := index_some c l ha
    rw [h1] at k1
    rw [if_neg Bool.false_ne_true, ← take_while c l]
    generalize hn : (l.takeWhile fun b => b != c).length = n at *
    have ht : (l.take n).length = n := by rw [List.length_take]; omega
    have e1 := slf l n (by omega)
    have e2 := slt l (n + 1) (by omega)
    rw [Int.natCast_add] at e2
    have hwr : IntKind.i64.wrap ((n : Int) + 1) = (n : Int) + 1 := IntWalk.i64_in _ (by omega)
    have K1 := Lib.hid k1
    have HT := Lib.hid ht
    rw [ht]
    clear k1 ha h1 hn ht
    go_enter Tryd.func59, Tryd.ntmps59
    go_wp2_with fail
    refine (K1.out _).mono ?_
    rintro e w1 ⟨rfl, rfl⟩
    go_wp2_with fail
    go_quiet (fail)
    go_wp2_with fail
    go_ret3
    exact ⟨by rw [← str_drop l (n + 1)]; rfl, ⟨rfl, rfl, rfl, Nat.le_refl _, fun _ _ => rfl⟩⟩
theorem cut1_any (l : List UInt8) (c : UInt8) (w : World) (hl : l.length ≤ 1099511627776) : Calls Tryd.prog 33 #[.string (str l), .string (str [c])] w (Made w (.tuple #[.string (str (cutC c l).1), .string (str (cutC c l).2.1), .bool (cutC c l).2.2])) := by
  have k1 := fun W => scut_any l c W hl
  generalize cutC c l = o at *
  have K1 := Lib.hid k1
  clear k1
  go_enter Tryd.func33, Tryd.ntmps33
  go_wp2_with fail
  refine (K1.out _).mono ?_
  rintro e w1 ⟨rfl, b1⟩
  go_wp2_with fail
  go_ret3
  exact ⟨rfl, b1⟩

/-! ### Plain -/
theorem signF_any (c : Int) (w : World) (hS : Sig w) : Calls Tryd.prog 40 #[.int .i32 c] w (Made w (.bool (signE c))) := by
  have k1 := nameOf_any c w hS
  unfold signE
  cases hn : nameE c with
  | nil =>
    rw [hn] at k1
    have K1 := Lib.hid k1
    clear k1 hn
    go_enter Tryd.func40, Tryd.ntmps40
    go_wp2_with fail
    refine K1.out.mono ?_
    rintro e w1 ⟨rfl, b1⟩
    go_wp2_with fail
    go_ret
    exact ⟨rfl, b1⟩
  | cons x r =>
    rw [hn] at k1
    have K1 := Lib.hid k1
    clear k1 hn
    go_enter Tryd.func40, Tryd.ntmps40
    go_wp2_with fail
    refine K1.out.mono ?_
    rintro e w1 ⟨rfl, b1⟩
    go_wp2_with fail
    go_ret
    exact ⟨rfl, b1⟩
def IdxRel (l : List UInt8) (w : World) (_ : Value) (W : World) : Prop :=
  ∃ k : Nat, k ≤ l.length ∧ (runes l).any signE = (runes (l.drop k)).any signE ∧ W.heap[w.heap.size]? = some (.stringIter (str l) k) ∧ Below w.heap.size w W
/-- It answers a place, or below 0. -/
def IdxAns (l : List UInt8) (w : World) (e : Ending) (w' : World) : Prop := ∃ n : Int, e = .returned (.int .i64 n) ∧ (0 ≤ n ↔ (runes l).any signE = true) ∧ Below w.heap.size w w'
set_option maxHeartbeats 1600000 in
theorem idxF_any (l : List UInt8) (w : World) (hS : Sig w) : Calls Tryd.prog 89 #[.string (str l), .func (.func 40) #[] #[], .bool true] w (IdxAns l w) := by
  have hit0 : (w.iter (str l) 0).heap[w.heap.size]? = some (.stringIter (str l) 0) := World.iter_heap w (str l) 0
  have HIT0 := Lib.hid hit0
  have HS := Lib.hid hS
  clear hit0 hS
  go_enter Tryd.func89, Tryd.ntmps89
  go_wp2_with fail
  go_loopw [11] (IdxRel l w) (fun _ wr => l.length - wr.iterPos w.heap.size)
  case atStart => exact ⟨0, Nat.zero_le _, rfl, HIT0.out, (Below.refl _ _).alloc (Nat.le_refl _) _⟩
  case round =>
    obtain ⟨k, hk, hj, hit, hbw⟩ := hrel
    have hsz : w.heap.size < wr.heap.size := (Array.getElem?_eq_some_iff.1 hit).1
    by_cases hkl : k < l.length
    · have hnx := fun ty => nxt_at wr w.heap.size l k ty hit hkl
      have hd := dec_on hkl
      rw [runes_on hkl, List.any_cons] at hj
      have hit2 := Lib.iterAt_heap wr w.heap.size (str l) k (k + (decodeL (l.drop k)).2) hit
      have hbw2 := Lib.below_iterAt hbw (Nat.le_refl _) (str l) (k + (decodeL (l.drop k)).2)
      generalize hdd : decodeL (l.drop k) = dd at *
      generalize wr.iterAt w.heap.size (str l) (k + dd.2) = W1 at *
      have kc := signF_any (dd.1 : Int) W1 (HS.out.below hbw2)
      have HD := Lib.hid hd
      have HIT := Lib.hid hit
      have HIT2 := Lib.hid hit2
      have HB2 := Lib.hid hbw2
      cases hs : signE (dd.1 : Int) with
      | true =>
        rw [hs] at kc hj
        have KC := Lib.hid kc
        have HJ := Lib.hid hj
        clear hd hdd hit hit2 hbw hbw2 kc hj hs
        go_wp2_with fail
        refine KC.out.mono ?_
        rintro e w3 ⟨rfl, b3⟩
        go_wp2_with fail
        go_ret
        refine ⟨_, rfl, ?_, HB2.out.trans (b3.mono HB2.out.size)⟩
        rw [HJ.out, Bool.true_or]
        exact ⟨fun _ => rfl, fun _ => by omega⟩
      | false =>
        rw [hs] at kc hj
        rw [Bool.false_or] at hj
        have KC := Lib.hid kc
        have HJ := Lib.hid hj
        clear hd hdd hit hit2 hbw hbw2 kc hj hs
        go_wp2_with fail
        refine KC.out.mono ?_
        rintro e w3 ⟨rfl, b3⟩
        have hblk := b3.block w.heap.size (Array.getElem?_eq_some_iff.1 HIT2.out).1
        have HBK := Lib.hid hblk
        have HB3 := Lib.hid (HB2.out.trans (b3.mono HB2.out.size))
        clear b3 hblk
        go_wp2_with fail
        go_roundw
        case rel => exact ⟨k + dd.2, HD.out.2, HJ.out, HBK.out.trans HIT2.out, HB3.out⟩
        case measure =>
          have e1 := iterPos_of (HBK.out.trans HIT2.out)
          have e2 := iterPos_of HIT.out
          rw [e1, e2]
          have := HD.out
          omega
    · have hnx := fun ty => nxt_no wr w.heap.size l k ty hit hkl
      rw [runes_end hkl] at hj
      have HJ := Lib.hid hj
      clear hj hit
      go_wp2_with fail
      go_ret
      refine ⟨_, rfl, ?_, hbw⟩
      rw [HJ.out]
      exact ⟨fun h => by omega, fun h => by cases h⟩
theorem idxT_any (l : List UInt8) (w : World) (hS : Sig w) : Calls Tryd.prog 63 #[.string (str l), .func (.func 40) #[] #[]] w (IdxAns l w) := by
  have k1 := idxF_any l w hS
  have K1 := Lib.hid k1
  clear k1 hS
  go_enter Tryd.func63, Tryd.ntmps63
  go_wp2_with fail
  refine K1.out.mono ?_
  rintro e w1 ⟨n, rfl, hn, b1⟩
  have HN := Lib.hid hn
  clear hn
  go_wp2_with fail
  go_ret
  exact ⟨n, rfl, HN.out, b1⟩
theorem contF_any (l : List UInt8) (w : World) (hS : Sig w) : Calls Tryd.prog 39 #[.string (str l), .func (.func 40) #[] #[]] w (Made w (.bool ((runes l).any signE))) := by
  have k1 := idxT_any l w hS
  have K1 := Lib.hid k1
  clear k1 hS
  go_enter Tryd.func39, Tryd.ntmps39
  go_wp2_with fail
  refine K1.out.mono ?_
  rintro e w1 ⟨n, rfl, hn, b1⟩
  cases hb : (runes l).any signE with
  | true =>
    have h0 : 0 ≤ n := hn.2 hb
    have HBB := Lib.hid hb
    clear hn hb
    go_wp2_with fail
    go_ret
    exact ⟨by rw [HBB.out]; rfl, b1⟩
  | false =>
    have h0 : decide (0 ≤ n) = false := decide_eq_false fun h => by rw [hn.1 h] at hb; cases hb
    have HBB := Lib.hid hb
    clear hn hb
    go_wp2_with fail
    go_ret
    exact ⟨by rw [HBB.out]; rfl, b1⟩
theorem plain_any (l : List UInt8) (w : World) (hS : Sig w) : Calls Tryd.prog 18 #[.string (str l)] w (Made w (.bool (plainR l))) := by
  have k1 := contF_any l w hS
  have hp : plainR l = !((runes l).any signE) := by
    rw [runes_any_low signE signE_low _ l (Nat.le_refl _)]
    unfold plainR
    rw [List.not_any_eq_all_not]
  rw [hp]
  generalize (runes l).any signE = b at *
  have K1 := Lib.hid k1
  clear k1 hS hp
  go_enter Tryd.func18, Tryd.ntmps18
  go_wp2_with fail
  refine K1.out.mono ?_
  rintro e w1 ⟨rfl, b1⟩
  go_wp2_with fail
  go_ret
  exact ⟨rfl, b1⟩
end Go.Proofs.YthnepbdkbiieiaaDoor
