/-
  What is shown of events: names, numbers, quoted texts. Conditions: the tables of names and of powers of ten lie as the program's text lays them; the library's MaxLen is a number.
-/
import Derived.Test.YtelhdkidnhfnbabGreatDoorUPut
import Derived.Test.YtelhdkidnhfnbabGreatDoorShelf
import Derived.Sort.Grow
namespace Go.Proofs.YtelhdkidnhfnbabGreatDoor
open Go.RowKit

def namesL : List (List UInt8) := [[102, 111, 108, 100, 101, 114], [117, 110, 102, 111, 108, 100, 101, 114], [102, 101, 101, 100], [117, 110, 102, 101, 101, 100], [116, 105, 116, 108, 101], [109, 111, 118, 101], [105, 116, 101, 109], [114, 101, 97, 100], [115, 116, 97, 114], [116, 97, 103], [115, 101, 97, 114, 99, 104], [117, 110, 115, 101, 97, 114, 99, 104], [99, 108, 111, 99, 107]]
def NmsAt (w : World) : Prop := 0 < w.heap.size ∧ ∀ i, (h : i < namesL.length) → w.cell? ⟨0, i, none⟩ = some (.string (str namesL[i]))
def TabP (w : World) : Prop := 1 < w.heap.size ∧ Lib.TabIs Tryz.prog w "internal/strconv.uint64pow10" .u64 Lib.pow10Tab
def MaxV (w : World) : Prop := ∃ m : Int, w.cell? ⟨2, 0, none⟩ = some (.int .i64 m)
def EvW (w : World) : Prop := NmsAt w ∧ TabP w ∧ MaxV w
theorem NmsAt.below {w w' : World} (h : NmsAt w) (hb : Below w.heap.size w w') : NmsAt w' :=
  ⟨Nat.lt_of_lt_of_le h.1 hb.size, fun i hi => (hb.cell (p := ⟨0, i, none⟩) h.1).trans (h.2 i hi)⟩
theorem TabP.below {w w' : World} (h : TabP w) (hb : Below w.heap.size w w') : TabP w' := by
  obtain ⟨h0, h⟩ := h
  refine ⟨Nat.lt_of_lt_of_le h0 hb.size, ?_⟩
  have hgn : Tryz.prog.globalNamed "internal/strconv.uint64pow10" = some 1 := by kernel_rfl
  unfold Lib.TabIs World.var? at h ⊢
  rw [hgn] at h ⊢
  simp only [Option.bind_some] at h ⊢
  rw [hb.block 1 h0]
  exact h
theorem MaxV.below {w w' : World} (h : MaxV w) (hb : Below w.heap.size w w') : MaxV w' := by
  obtain ⟨m, h⟩ := h
  exact ⟨m, (hb.cell (p := ⟨2, 0, none⟩) (World.block_lt_of_cell? w _ h)).trans h⟩
theorem EvW.below {w w' : World} (h : EvW w) (hb : Below w.heap.size w w') : EvW w' := ⟨h.1.below hb, h.2.1.below hb, h.2.2.below hb⟩

/-! ### replacing a byte -/
theorem idx_hit (c : UInt8) (t : List UInt8) : Lib.index (c :: t) [c] = 0 := by
  unfold Lib.index
  rw [if_pos]
  simp [List.isPrefixOf]
theorem idx_miss {b c : UInt8} (h : b ≠ c) (t : List UInt8) : Lib.index (b :: t) [c] = if Lib.index t [c] == -1 then -1 else Lib.index t [c] + 1 := by
  rw [Lib.index, if_neg]
  have : (c == b) = false := by simpa using fun e : c = b => h e.symm
  simp [List.isPrefixOf, this]
def repB (c : UInt8) (new : List UInt8) (b : UInt8) : List UInt8 := if b = c then new else [b]
theorem rep_none {c : UInt8} (new : List UInt8) : ∀ s : List UInt8, Lib.count s [c] = 0 → s.flatMap (repB c new) = s
  | [], _ => rfl
  | b :: t, h => by
    by_cases hb : b = c
    · subst hb
      rw [Lib.count_cons_eq] at h
      omega
    · rw [Lib.count_cons_ne _ _ _ hb] at h
      rw [List.flatMap_cons, rep_none new t h]
      unfold repB
      rw [if_neg hb]
      rfl
theorem rep_all (c : UInt8) (new : List UInt8) : ∀ s : List UInt8, Lib.replaceK [c] new (Lib.count s [c]) s = s.flatMap (repB c new)
  | [] => rfl
  | b :: t => by
    by_cases hb : b = c
    · subst hb
      rw [Lib.count_cons_eq, Nat.add_comm, Lib.replaceK_hit _ _ _ _ 0 (idx_hit b t)]
      show [] ++ new ++ Lib.replaceK [b] new (Lib.count t [b]) t = _
      rw [rep_all b new t, List.flatMap_cons]
      unfold repB
      rw [if_pos rfl]
      rfl
    · rw [Lib.count_cons_ne _ _ _ hb]
      have ih := rep_all c new t
      have e1 : (b :: t).flatMap (repB c new) = b :: t.flatMap (repB c new) := by
        rw [List.flatMap_cons]
        unfold repB
        rw [if_neg hb]
        rfl
      rw [e1, ← ih]
      cases hc : Lib.count t [c] with
      | zero => rfl
      | succ k =>
        obtain ⟨i, hi⟩ := Lib.index_of_count (s := t) (old := [c]) (by omega)
        have hm := idx_miss hb t
        have hi1 : ((i : Int) == -1) = false := by
          cases hq : ((i : Int) == -1) with
          | false => rfl
          | true => have := beq_iff_eq.1 hq; omega
        rw [hi, hi1, if_neg Bool.false_ne_true] at hm
        have hm' : Lib.index (b :: t) [c] = ((i + 1 : Nat) : Int) := by rw [hm]; omega
        rw [Lib.replaceK_hit _ _ _ _ _ hi, Lib.replaceK_hit _ _ _ _ _ hm']
        rfl
theorem replace_all (c : UInt8) (new s : List UInt8) (h : ¬ [c] = new) : Lib.replaceAll s [c] new = s.flatMap (repB c new) := by
  unfold Lib.replaceAll Lib.replace
  rw [if_neg (by simp [h])]
  unfold Lib.replaceNum
  rw [if_pos (.inl (by decide))]
  exact rep_all c new s
def escQ (b : UInt8) : List UInt8 := if b = 34 ∨ b = 92 then [92, b] else [b]
def quoteS (l : List UInt8) : List UInt8 := 34 :: (l.flatMap escQ ++ [34])
theorem esc_two (b : UInt8) : (repB 92 [92, 92] b).flatMap (repB 34 [92, 34]) = escQ b := by
  unfold repB escQ
  by_cases h1 : b = 92
  · subst h1; rfl
  · rw [if_neg h1]
    by_cases h2 : b = 34
    · subst h2; rfl
    · rw [if_neg (by simp [h1, h2])]
      show (if b = 34 then _ else [b]) ++ [] = _
      rw [if_neg h2]; rfl
theorem quote_two : ∀ l : List UInt8, (l.flatMap (repB 92 [92, 92])).flatMap (repB 34 [92, 34]) = l.flatMap escQ
  | [] => rfl
  | b :: t => by
    rw [List.flatMap_cons, List.flatMap_append, List.flatMap_cons, esc_two, quote_two t]
theorem rep_len (c : UInt8) (new : List UInt8) (hn : new.length = 2) : ∀ l : List UInt8, (l.flatMap (repB c new)).length ≤ 2 * l.length
  | [] => Nat.le_refl _
  | b :: t => by
    have := rep_len c new hn t
    have h1 : (repB c new b).length ≤ 2 := by
      unfold repB
      split
      · omega
      · exact (by decide : 1 ≤ 2)
    rw [List.flatMap_cons, List.length_append, List.length_cons]
    omega
theorem countB_small (l old : List UInt8) (h : old.length = 1) : Lib.countB (str l) (str old) ≤ l.length := by
  have := Lib.countB_le (str old) (by rw [str_size]; omega) l.length (str l) (by rw [str_size]; exact Nat.le_refl _)
  rw [str_size] at this
  exact this
theorem replaceAll_any (l : List UInt8) (c : UInt8) (new : List UInt8) (hne : ¬ [c] = new) (h2 : new.length = 2) (w : World) (hl : l.length ≤ 1000000) (hm : MaxV w) :
    Calls Tryz.prog 50 #[.string (str l), .string (str [c]), .string (str new)] w (Made w (.string (str (l.flatMap (repB c new))))) := by
  obtain ⟨m, hm⟩ := hm
  have hc := countB_small l [c] rfl
  refine (Tryz.strings_ReplaceAll (str l) (str [c]) (str new) m w (by rw [str_size]; omega) hm (by rw [str_size]; exact Nat.le_refl _) (by rw [str_size, str_size, h2]; omega)).mono ?_
  rintro e w' ⟨rfl, hb⟩
  refine ⟨?_, hb⟩
  rw [str_data, str_data, str_data, replace_all c new l hne]
  rfl
theorem itoa_any (n : Int) (h0 : -9223372036854775808 ≤ n) (h1 : n ≤ 9223372036854775807) (w : World) (hT : TabP w) : Calls Tryz.prog 29 #[.int .i64 n] w (Made w (.string (str (Lib.itoa n)))) := by
  refine (Tryz.strconv_Itoa n h0 h1 w hT.2).mono ?_
  rintro e w' ⟨rfl, k, os, rfl⟩
  refine ⟨rfl, rfl, rfl, rfl, ?_, fun q hq => ?_⟩
  · show w.heap.size ≤ (w.heap ++ os).size
    rw [Array.size_append]; omega
  · show (w.heap ++ os)[q]? = w.heap[q]?
    rw [Array.getElem?_append_left hq]

/-! ### names, items, texts -/
def nameOf (k : Int) : List UInt8 := if 1 ≤ k ∧ k ≤ 13 then namesL.getD (k.toNat - 1) [] else []
set_option maxHeartbeats 1600000 in
theorem name_any (k : Int) (w : World) (hN : NmsAt w) : Calls Tryz.prog 11 #[.int .i64 k] w (Pure w (.string (str (nameOf k)))) := by
  unfold nameOf
  by_cases h1 : 1 ≤ k
  · by_cases h2 : k ≤ 13
    · rw [if_pos ⟨h1, h2⟩]
      obtain ⟨m, rfl⟩ : ∃ m : Nat, k = ((m : Int) + 1) := ⟨(k - 1).toNat, by omega⟩
      have hm : m < 13 := by omega
      have hz := hN.2 m hm
      have e1 : ((m : Int) + 1).toNat - 1 = m := by omega
      have e2 : namesL.getD m [] = namesL[m]'hm := by rw [List.getD_eq_getElem?_getD, List.getElem?_eq_getElem hm]; rfl
      rw [e1, e2]
      generalize namesL[m]'hm = x at *
      have hmI : (m : Int) < 13 := by omega
      have d1 : decide ((m : Int) + 1 < 1) = false := decide_eq_false (by omega)
      have d2 : decide ((13 : Int) < (m : Int) + 1) = false := decide_eq_false (by omega)
      have d3 : (m : Int) + 1 - 1 = (m : Int) := by omega
      have d4 : IntKind.i64.wrap (m : Int) = (m : Int) := IntWalk.i64_in _ (by omega)
      clear hN e1 e2 h1 h2
      go_enter Tryz.func11, Tryz.ntmps11
      go_wp2_with fail
      go_ret
      exact ⟨rfl, rfl⟩
    · rw [if_neg fun h => h2 h.2]
      have d2 : decide ((13 : Int) < k) = true := decide_eq_true (by omega)
      have d1 : decide (k < 1) = false := decide_eq_false (by omega)
      have h3 : (13 : Int) < k := by omega
      have h4 : ¬ k < 1 := by omega
      clear hN h1 h2
      go_enter Tryz.func11, Tryz.ntmps11
      go_wp2_with fail
      go_ret
      exact ⟨rfl, rfl⟩
  · rw [if_neg fun h => h1 h.1]
    have d1 : decide (k < 1) = true := decide_eq_true (by omega)
    have h4 : k < 1 := by omega
    clear hN h1
    go_enter Tryz.func11, Tryz.ntmps11
    go_wp2_with fail
    go_ret
    exact ⟨rfl, rfl⟩
theorem cat_strV (l m : List UInt8) : str l ++ str m = str (l ++ m) := by unfold str; exact ByteArray.mk_append_mk l m
set_option maxHeartbeats 1600000 in
theorem quoted_any (l : List UInt8) (w : World) (hl : l.length ≤ 100000) (hm : MaxV w) : Calls Tryz.prog 30 #[.string (str l)] w (Made w (.string (str (quoteS l)))) := by
  have k1 := replaceAll_any l 92 [92, 92] (by simp) rfl w (by omega) hm
  have HL : Hid ((l.flatMap (repB 92 [92, 92])).length ≤ 200000) := Lib.hid (by have := rep_len 92 [92, 92] rfl l; omega)
  obtain ⟨x, hx⟩ : ∃ x, x = l.flatMap (repB 92 [92, 92]) := ⟨_, rfl⟩
  rw [← hx] at k1 HL
  obtain ⟨y, hy⟩ : ∃ y, y = x.flatMap (repB 34 [92, 34]) := ⟨_, rfl⟩
  have hyl : y.length ≤ 400000 := by have := rep_len 34 [92, 34] rfl x; rw [← hy] at this; have := HL.out; omega
  have HQ : Hid (quoteS l = 34 :: (y ++ [34])) := Lib.hid (by unfold quoteS; rw [hy, hx, quote_two])
  have K2 : Hid (∀ W, Below w.heap.size w W → Calls Tryz.prog 50 #[.string (str x), .string (str [34]), .string (str [92, 34])] W (Made W (.string (str y)))) := Lib.hid fun W hW => by
    have h := replaceAll_any x 34 [92, 34] (by simp) rfl W (by have := HL.out; omega) (hm.below hW)
    rw [← hy] at h
    exact h
  have K1 := Lib.hid k1
  obtain ⟨z, hz⟩ : ∃ z, z = [34] ++ y := ⟨_, rfl⟩
  obtain ⟨q, hq⟩ : ∃ q, q = z ++ [34] := ⟨_, rfl⟩
  have c1 : (⟨#[34]⟩ : ByteArray) ++ str y = str z := by rw [hz]; exact cat_strV [34] y
  have c2 : str z ++ (⟨#[34]⟩ : ByteArray) = str q := by rw [hq]; exact cat_strV z [34]
  have hzl : z.length = 1 + y.length := by rw [hz, List.length_append]; rfl
  have d1 : ¬ 9223372036854775807 < 1 + y.length := by omega
  have d2 : ¬ 9223372036854775807 < z.length + 1 := by omega
  have HQQ : Hid (quoteS l = q) := Lib.hid (by rw [HQ.out, hq, hz]; rfl)
  clear k1 hx hy hz hq hm hl hzl
  go_enter Tryz.func30, Tryz.ntmps30
  go_wp2_with (first
    | (go_at_call 50; have m1 := M1.out; clear m1; refine (K2.out w1 B1.out).mono ?_; rintro e w2 ⟨rfl, b2⟩; have B2 := Lib.hid b2; clear b2)
    | (go_at_call 50; refine K1.out.mono ?_; rintro e w1 ⟨rfl, b1⟩; have B1 := Lib.hid b1; have M1 : Hid True := Lib.hid trivial; clear b1))
  go_ret
  exact ⟨by rw [HQQ.out]; rfl, by have a := B1.out; have b := B2.out; exact ⟨b.os.trans a.os, b.tape.trans a.tape, b.output.trans a.output, Nat.le_trans a.size b.size, fun k hk => (b.block k (Nat.lt_of_lt_of_le hk a.size)).trans (a.block k hk)⟩⟩
def itemOf (k a : Int) : Int × Bool := if k = 7 ∨ k = 8 ∨ k = 9 ∨ k = 10 then (a, true) else (0, false)
end Go.Proofs.YtelhdkidnhfnbabGreatDoor
