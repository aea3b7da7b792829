/-
  The text of an event (event.Show), and the item it is about (event.Item). Conditions: the tables lie as the program's text lays them; at most 100000 bytes in each of its texts.
-/
import Derived.Test.YtelhdkidnhfnbabGreatDoorVShow
import Derived.Test.YtelhdkidnhfnbabGreatDoorUClean
import Derived.Shelf.Strings.MapGrows
namespace Go.Proofs.YtelhdkidnhfnbabGreatDoor
open Go.RowKit

theorem dec_posV (n : Nat) : 1 ≤ (Lib.decDigits n).length := by
  rw [Lib.decDigits]
  split
  · exact Nat.le_refl _
  · simp
theorem dec_lenV : ∀ (k n : Nat), n < 10 ^ (k + 1) → (Lib.decDigits n).length ≤ k + 1
  | 0, n, h => by
    rw [Lib.decDigits]
    rw [dif_pos (by omega)]
    exact Nat.le_refl _
  | k + 1, n, h => by
    by_cases h10 : n < 10
    · rw [Lib.decDigits]
      rw [dif_pos h10]
      simp
    · have ih := dec_lenV k (n / 10) (by rw [Nat.pow_succ] at h; omega)
      rw [Lib.decDigits]
      rw [dif_neg h10, List.length_append]
      simp only [List.length_singleton]
      omega
theorem itoa_len (n : Int) (h0 : -9223372036854775808 ≤ n) (h1 : n ≤ 9223372036854775807) : (Lib.itoa n).length ≤ 20 := by
  unfold Lib.itoa
  split
  · have h := dec_lenV 18 n.natAbs (by omega)
    rw [List.length_cons]
    omega
  · have h := dec_lenV 18 n.toNat (by omega)
    omega
theorem itemOf_yes {k a : Int} (h : k = 7 ∨ k = 8 ∨ k = 9 ∨ k = 10) : itemOf k a = (a, true) := by unfold itemOf; rw [if_pos h]
theorem itemOf_no {k a : Int} (h7 : ¬ k = 7) (h8 : ¬ k = 8) (h9 : ¬ k = 9) (h10 : ¬ k = 10) : itemOf k a = (0, false) := by unfold itemOf; rw [if_neg (by omega)]
set_option maxHeartbeats 1600000 in
theorem item_7 {a b n : Int} {s t u : List UInt8} (w : World) : Calls Tryz.prog 8 #[.agg #[.int .i64 7, .int .i64 a, .int .i64 b, .int .i64 n, .string (str s), .string (str t), .string (str u)]] w (Made w (.tuple #[.int .i64 a, .bool true])) := by
  go_enter Tryz.func8, Tryz.ntmps8
  go_wp2_with fail
  go_ret2
  exact ⟨rfl, (Below.refl _ _).alloc (Nat.le_refl _) _⟩
set_option maxHeartbeats 1600000 in
theorem item_8 {a b n : Int} {s t u : List UInt8} (w : World) : Calls Tryz.prog 8 #[.agg #[.int .i64 8, .int .i64 a, .int .i64 b, .int .i64 n, .string (str s), .string (str t), .string (str u)]] w (Made w (.tuple #[.int .i64 a, .bool true])) := by
  go_enter Tryz.func8, Tryz.ntmps8
  go_wp2_with fail
  go_ret2
  exact ⟨rfl, (Below.refl _ _).alloc (Nat.le_refl _) _⟩
set_option maxHeartbeats 1600000 in
theorem item_9 {a b n : Int} {s t u : List UInt8} (w : World) : Calls Tryz.prog 8 #[.agg #[.int .i64 9, .int .i64 a, .int .i64 b, .int .i64 n, .string (str s), .string (str t), .string (str u)]] w (Made w (.tuple #[.int .i64 a, .bool true])) := by
  go_enter Tryz.func8, Tryz.ntmps8
  go_wp2_with fail
  go_ret2
  exact ⟨rfl, (Below.refl _ _).alloc (Nat.le_refl _) _⟩
set_option maxHeartbeats 1600000 in
theorem item_10 {a b n : Int} {s t u : List UInt8} (w : World) : Calls Tryz.prog 8 #[.agg #[.int .i64 10, .int .i64 a, .int .i64 b, .int .i64 n, .string (str s), .string (str t), .string (str u)]] w (Made w (.tuple #[.int .i64 a, .bool true])) := by
  go_enter Tryz.func8, Tryz.ntmps8
  go_wp2_with fail
  go_ret2
  exact ⟨rfl, (Below.refl _ _).alloc (Nat.le_refl _) _⟩
set_option maxHeartbeats 1600000 in
theorem item_no {k a b n : Int} {s t u : List UInt8} (w : World) (h7 : (k == 7) = false) (h8 : (k == 8) = false) (h9 : (k == 9) = false) (h10 : (k == 10) = false) : Calls Tryz.prog 8 #[.agg #[.int .i64 k, .int .i64 a, .int .i64 b, .int .i64 n, .string (str s), .string (str t), .string (str u)]] w (Made w (.tuple #[.int .i64 0, .bool false])) := by
  go_enter Tryz.func8, Tryz.ntmps8
  go_wp2_with fail
  go_ret2
  exact ⟨rfl, (Below.refl _ _).alloc (Nat.le_refl _) _⟩
theorem item_any {k a b n : Int} {s t u : List UInt8} (w : World) : Calls Tryz.prog 8 #[.agg #[.int .i64 k, .int .i64 a, .int .i64 b, .int .i64 n, .string (str s), .string (str t), .string (str u)]] w (Made w (.tuple #[.int .i64 (itemOf k a).1, .bool (itemOf k a).2])) := by
  by_cases h7 : k = 7
  · subst h7; rw [itemOf_yes (.inl rfl)]; exact item_7 w
  · by_cases h8 : k = 8
    · subst h8; rw [itemOf_yes (.inr (.inl rfl))]; exact item_8 w
    · by_cases h9 : k = 9
      · subst h9; rw [itemOf_yes (.inr (.inr (.inl rfl)))]; exact item_9 w
      · by_cases h10 : k = 10
        · subst h10; rw [itemOf_yes (.inr (.inr (.inr rfl)))]; exact item_10 w
        · rw [itemOf_no h7 h8 h9 h10]
          exact item_no w (by simpa using h7) (by simpa using h8) (by simpa using h9) (by simpa using h10)
/-! ### Show -/
def numsS (l : List Int) : List UInt8 := l.flatMap fun x => 32 :: Lib.itoa x
def textsS (l : List (List UInt8)) : List UInt8 := l.flatMap fun x => 32 :: quoteS x
def showOf (k a b n : Int) (s t u : List UInt8) : List UInt8 := if nameOf k = [] then [63] else (nameOf k ++ numsS [a, b, n]) ++ textsS [s, t, u]
def ShN (g : Nat) (Wg : World) (out : List UInt8) (l : List Int) (u23 : Value) (W : World) : Prop := ∃ j : Nat, j ≤ 3 ∧ u23 = .int .i64 (j : Int) ∧ Bld g (out ++ numsS (l.take j)) W ∧ Below g Wg W ∧ g < W.heap.size
def ShT (g : Nat) (Wg : World) (out : List UInt8) (l : List (List UInt8)) (u38 : Value) (W : World) : Prop := ∃ j : Nat, j ≤ 3 ∧ u38 = .int .i64 (j : Int) ∧ Bld g (out ++ textsS (l.take j)) W ∧ Below g Wg W ∧ g < W.heap.size
theorem name_len (k : Int) : (nameOf k).length ≤ 12 := by
  unfold nameOf
  split
  · rename_i h
    obtain ⟨m, hm, hk⟩ : ∃ m : Nat, m < 13 ∧ k.toNat - 1 = m := ⟨k.toNat - 1, by omega, rfl⟩
    rw [hk]
    have hall : ∀ i, i < 13 → (namesL.getD i []).length ≤ 12 := by decide
    exact hall m hm
  · exact Nat.zero_le _
theorem quoteS_len (l : List UInt8) : (quoteS l).length ≤ 2 * l.length + 2 := by
  have h : ∀ l : List UInt8, (l.flatMap escQ).length ≤ 2 * l.length := fun l => by
    induction l with
    | nil => exact Nat.le_refl _
    | cons b r ih =>
      have h1 : (escQ b).length ≤ 2 := by
        unfold escQ
        split
        · exact Nat.le_refl _
        · exact (by decide : 1 ≤ 2)
      rw [List.flatMap_cons, List.length_append, List.length_cons]
      omega
  unfold quoteS
  have := h l
  simp only [List.length_cons, List.length_append, List.length_nil]
  omega
theorem beq_nilS {l : List UInt8} (h : ¬ l = []) : (l == ([] : List UInt8)) = false ∧ (([] : List UInt8) == l) = false := by
  cases l with
  | nil => exact absurd rfl h
  | cons a b => exact ⟨rfl, rfl⟩
def SmI (x : Int) : Prop := -9223372036854775808 ≤ x ∧ x ≤ 9223372036854775807
theorem numsS_len : ∀ l : List Int, (∀ x ∈ l, SmI x) → (numsS l).length ≤ 21 * l.length
  | [], _ => Nat.le_refl _
  | x :: r, h => by
    have h1 := itoa_len x (h x List.mem_cons_self).1 (h x List.mem_cons_self).2
    have h2 := numsS_len r fun y hy => h y (List.mem_cons_of_mem _ hy)
    show ((32 :: Lib.itoa x) ++ numsS r).length ≤ _
    simp only [List.length_append, List.length_cons]
    omega
theorem textsS_len : ∀ l : List (List UInt8), (∀ x ∈ l, x.length ≤ 100000) → (textsS l).length ≤ 200003 * l.length
  | [], _ => Nat.le_refl _
  | x :: r, h => by
    have h1 := quoteS_len x
    have h3 := h x List.mem_cons_self
    have h2 := textsS_len r fun y hy => h y (List.mem_cons_of_mem _ hy)
    show ((32 :: quoteS x) ++ textsS r).length ≤ _
    simp only [List.length_append, List.length_cons]
    omega
theorem numsS_next {l : List Int} {j : Nat} (h : j < l.length) : numsS (l.take (j + 1)) = numsS (l.take j) ++ (32 :: Lib.itoa l[j]) := by
  unfold numsS
  rw [List.take_succ_eq_append_getElem h, List.flatMap_append]
  simp
theorem textsS_next {l : List (List UInt8)} {j : Nat} (h : j < l.length) : textsS (l.take (j + 1)) = textsS (l.take j) ++ (32 :: quoteS l[j]) := by
  unfold textsS
  rw [List.take_succ_eq_append_getElem h, List.flatMap_append]
  simp
theorem below_thV {w a b : World} {g : Nat} (h : Below g w a) (k : Below a.heap.size a b) (hg : g ≤ a.heap.size) : Below g w b :=
  ⟨k.os.trans h.os, k.tape.trans h.tape, k.output.trans h.output, Nat.le_trans h.size k.size, fun q hq => (k.block q (Nat.lt_of_lt_of_le hq hg)).trans (h.block q hq)⟩
theorem below_thG {w a b : World} {g : Nat} (h : Below g w a) (k : Below g a b) : Below g w b :=
  ⟨k.os.trans h.os, k.tape.trans h.tape, k.output.trans h.output, Nat.le_trans h.size k.size, fun q hq => (k.block q hq).trans (h.block q hq)⟩
theorem below_thW {w a b : World} {g : Nat} (h : Below w.heap.size w a) (k : Below g a b) (hg : w.heap.size ≤ g) : Below w.heap.size w b :=
  ⟨k.os.trans h.os, k.tape.trans h.tape, k.output.trans h.output, Nat.le_trans h.size k.size, fun q hq => (k.block q (Nat.lt_of_lt_of_le hq hg)).trans (h.block q hq)⟩
theorem bldBelow {g : Nat} {l : List UInt8} {w w' : World} (h : Bld g l w) (hb : Below w.heap.size w w') : Bld g l w' := Lib.IsBuilderF.below h hb
theorem EvW.belowG {w w' : World} {g : Nat} (h : EvW w) (hb : Below g w w') (hg : w.heap.size ≤ g) : EvW w' := by
  obtain ⟨⟨n1, n2⟩, ⟨p1, p2⟩, m, hm⟩ := h
  refine ⟨⟨Nat.lt_of_lt_of_le n1 hb.size, fun i hi => (hb.cell (p := ⟨0, i, none⟩) (Nat.lt_of_lt_of_le n1 hg)).trans (n2 i hi)⟩, ⟨Nat.lt_of_lt_of_le p1 hb.size, ?_⟩, m, (hb.cell (p := ⟨2, 0, none⟩) (Nat.lt_of_lt_of_le (World.block_lt_of_cell? w _ hm) hg)).trans hm⟩
  have hgn : Tryz.prog.globalNamed "internal/strconv.uint64pow10" = some 1 := by kernel_rfl
  unfold Lib.TabIs World.var? at p2 ⊢
  rw [hgn] at p2 ⊢
  simp only [Option.bind_some] at p2 ⊢
  rw [hb.block 1 (Nat.lt_of_lt_of_le p1 hg)]
  exact p2
set_option maxHeartbeats 1600000 in
theorem show_none {k a b n : Int} {s t u : List UInt8} (w : World) (hW : EvW w) (h0 : nameOf k = []) : Calls Tryz.prog 13 #[.agg #[.int .i64 k, .int .i64 a, .int .i64 b, .int .i64 n, .string (str s), .string (str t), .string (str u)]] w (Made w (.string (str [63]))) := by
  have HB : Hid (Below w.heap.size w (w.alloc (.cells #[.int .i64 k, .int .i64 a, .int .i64 b, .int .i64 n, .string (str s), .string (str t), .string (str u)] 23))) := Lib.hid ((Below.refl _ _).alloc (Nat.le_refl _) _)
  have kn := fun W (hN : NmsAt W) => name_any k W hN
  rw [h0] at kn
  have KN := Lib.hid (kn _ (hW.1.below HB.out))
  clear kn h0 hW
  go_enter Tryz.func13, Tryz.ntmps13
  go_wp2_with (go_at_call 11; refine KN.out.mono ?_; rintro e w1 ⟨rfl, rfl⟩)
  go_ret
  exact ⟨rfl, HB.out⟩
end Go.Proofs.YtelhdkidnhfnbabGreatDoor
