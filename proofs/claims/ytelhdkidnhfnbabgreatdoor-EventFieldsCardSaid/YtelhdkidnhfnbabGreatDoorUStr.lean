/-
  Strings by their bytes: indexed, sliced, ranged over. Conditions: places within the string.
-/
import Derived.Test.YtelhdkidnhfnbabGreatDoorBlk
import Derived.Test.YtelhdkidnhfnbabGreatDoorUtf
import Derived.Laws.RangeAny
import Derived.Lib.OthersKept
import Derived.WalkSmall
namespace Go.Proofs.YtelhdkidnhfnbabGreatDoor
open Go.RowKit
open Go.Lib (decodeL encodeRune)

theorem str_take (l : List UInt8) (k : Nat) : (str l).extract 0 k = str (l.take k) := by
  apply ByteArray.ext
  apply Array.ext'
  simp [str]
theorem str_drop (l : List UInt8) (k : Nat) : (str l).extract k l.length = str (l.drop k) := by
  apply ByteArray.ext
  apply Array.ext'
  simp [str]
  exact List.take_of_length_le (by simp)
/-- The byte at a place (0: there is none). -/
def at0B (l : List UInt8) (k : Nat) : Nat := (l.getD k 0).toNat
theorem at0B_lt (l : List UInt8) (k : Nat) : at0B l k < 256 := (l.getD k 0).toNat_lt
theorem idx_at (l : List UInt8) (k : Nat) (h : k < l.length) (w : World) :
    (Instr.index 9 (.string (str l)) (.int .i64 (k : Int))).run Tryz.prog w = .ok (.int .u8 (at0B l k : Int)) w := by
  rw [run_index_string w 9 (str l) .i64 (k : Int) Tryz.underlying9]
  have hs : (0 : Int) ≤ (k : Int) ∧ (k : Int) < ((str l).size : Int) := by rw [str_size]; omega
  rw [dif_pos hs]
  unfold at0B
  rw [show l.getD k 0 = l[k] by simp [List.getD, h]]
  rfl
theorem slc (l : List UInt8) (a b : Nat) (h1 : a ≤ b) (h2 : b ≤ l.length) (w : World) :
    (Instr.slice 9 (.string (str l)) (some (.int .i64 (a : Int))) (some (.int .i64 (b : Int))) none).run Tryz.prog w = .ok (.string (str ((l.drop a).take (b - a)))) w := by
  rw [run_slice_string w 9 (str l) .i64 .i64 (a : Int) (b : Int) Tryz.underlying9 (by omega) (by omega) (by rw [str_size]; omega)]
  unfold str
  rw [ByteArray.extract_mk]
  rfl
theorem slt (l : List UInt8) (a : Nat) (h2 : a ≤ l.length) (w : World) :
    (Instr.slice 9 (.string (str l)) (some (.int .i64 (a : Int))) none none).run Tryz.prog w = .ok (.string (str (l.drop a))) w := by
  rw [run_slice_string_from_if w 9 (str l) .i64 (a : Int) Tryz.underlying9, if_pos (by rw [str_size]; omega), str_size]
  exact congrArg (fun s => Result.ok (Value.string s) w) (str_drop l a)
theorem slf (l : List UInt8) (b : Nat) (h2 : b ≤ l.length) (w : World) :
    (Instr.slice 9 (.string (str l)) none (some (.int .i64 (b : Int))) none).run Tryz.prog w = .ok (.string (str (l.take b))) w := by
  rw [run_slice_string_to_if w 9 (str l) .i64 (b : Int) Tryz.underlying9, if_pos (by rw [str_size]; omega)]
  exact congrArg (fun s => Result.ok (Value.string s) w) (str_take l b)

theorem dec_at (l : List UInt8) (k : Nat) : Utf8.decode (str l) k = decodeL (l.drop k) := by
  have h := Lib.tail_decode (str l) k 0
  rw [str_size, str_drop] at h
  exact h.symm
/-- One rune on. -/
theorem nxt_at (w : World) (g : Nat) (l : List UInt8) (k : Nat) (ty : TypeId) (hg : w.heap[g]? = some (.stringIter (str l) k)) (h : k < l.length) :
    (Instr.next (.pointer (some ⟨g, 0, none⟩)) true ty).run Tryz.prog w = .ok (.tuple #[.bool true, .int .i64 (k : Int), .int .i32 ((decodeL (l.drop k)).1 : Int)]) (w.iterAt g (str l) (k + (decodeL (l.drop k)).2)) := by
  rw [Lib.run_next_any_at w g (str l) k ty hg (by rw [str_size]; exact h), dec_at]
theorem nxt_no (w : World) (g : Nat) (l : List UInt8) (k : Nat) (ty : TypeId) (hg : w.heap[g]? = some (.stringIter (str l) k)) (h : ¬ k < l.length) :
    (Instr.next (.pointer (some ⟨g, 0, none⟩)) true ty).run Tryz.prog w = .ok (.tuple #[.bool false]) w :=
  Lib.run_next_end_at w g (str l) k ty hg (by rw [str_size]; exact h)
theorem drop_ne {l : List UInt8} {k : Nat} (h : k < l.length) : l.drop k ≠ [] := fun e => by
  have := congrArg List.length e
  rw [List.length_drop, List.length_nil] at this
  omega
/-- The runes from a place on. -/
theorem dec_on {l : List UInt8} {k : Nat} (h : k < l.length) : 1 ≤ (decodeL (l.drop k)).2 ∧ k + (decodeL (l.drop k)).2 ≤ l.length := by
  have := dec_bd (drop_ne h)
  rw [List.length_drop] at this
  omega
theorem runes_on {l : List UInt8} {k : Nat} (h : k < l.length) : runes (l.drop k) = ((decodeL (l.drop k)).1 : Int) :: runes (l.drop (k + (decodeL (l.drop k)).2)) := by
  rw [runes_step (drop_ne h), List.drop_drop]
theorem runes_end {l : List UInt8} {k : Nat} (h : ¬ k < l.length) : runes (l.drop k) = [] := by
  rw [List.drop_eq_nil_of_le (by omega)]
  rfl
/-- Runes as values. -/
def rvs (rs : List Int) : List Value := rs.map fun c => .int .i32 c
theorem rvs_length (rs : List Int) : (rvs rs).length = rs.length := by simp [rvs]
theorem rvs_snoc (rs : List Int) (c : Int) : rvs (rs ++ [c]) = rvs rs ++ [.int .i32 c] := by simp [rvs]
theorem rvs_one (rs : List Int) : ∀ u ∈ rvs rs, u.oneCell' = true := by
  intro u hu
  obtain ⟨x, _, rfl⟩ := List.mem_map.1 hu
  rfl
theorem rvs_at (rs : List Int) (j : Nat) (h : j < rs.length) : (rvs rs)[j]? = some (.int .i32 rs[j]) := by simp [rvs, h]
theorem tup2 {k k' : IntKind} {a b c d : Int} (h : a = c) (h' : b = d) : Ending.returned (.tuple #[.int k a, .int k' b]) = .returned (.tuple #[.int k c, .int k' d]) := by rw [h, h']
theorem grown_iterAt (w : World) (g : Nat) (s : ByteArray) (p : Nat) : w.grownBy (w.iterAt g s p) (some g) :=
  ⟨rfl, rfl, rfl, by rw [Lib.iterAt_size]; exact Nat.le_refl _, fun k _ hne => Lib.iterAt_other w g k s p (fun e => hne (by rw [e]))⟩
theorem Tryz.i32info : (Tryz.prog.info? 21).map (fun i => (i.zero, i.size, i.bytes)) = some (some (.int .i32 0), 1, 4) := by kernel_rfl
end Go.Proofs.YtelhdkidnhfnbabGreatDoor
