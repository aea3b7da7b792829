/-
  The program's clean and folded texts, and beginnings. Condition: at most 2^40 bytes.
-/
import Derived.Test.YthnepbdkbiieiaaDoorUPut
namespace Go.Proofs.YthnepbdkbiieiaaDoor
open Go.RowKit
open Go.Lib (decodeL encodeRune)

def FoldRel (l : List UInt8) (w : World) (W : World) : Prop :=
  ∃ (k : Nat) (done : List Int), k ≤ l.length ∧ done ++ runes (l.drop k) = runes l ∧ W.heap[w.heap.size + 1]? = some (.stringIter (str l) k) ∧ Bld w.heap.size (put (done.map foldR)) W ∧ Below w.heap.size w W
theorem bld_iter {g k : Nat} {l : List UInt8} {w : World} {s : ByteArray} {p : Nat} (h : Bld g l w) (hk : w.heap[k]? = some (.stringIter s p)) (q : Nat) : Bld g l (w.iterAt k s q) := Lib.IsBuilderF.iterAt h hk q
theorem bld_alloc {g : Nat} {l : List UInt8} {w : World} (h : Bld g l w) (o : Obj) : Bld g l (w.alloc o) := Lib.IsBuilderF.alloc h o
theorem put_map_snoc (done : List Int) (c : Int) : put ((done ++ [c]).map foldR) = put (done.map foldR) ++ encodeRune (foldR c) := by rw [List.map_append, List.map_cons, List.map_nil, put_snoc]
/-! ### clean -/
def CleanRel (l : List UInt8) (w : World) (u : Value) (W : World) : Prop :=
  ∃ (k : Nat) (done : List Int) (o : List Int × Bool) (a : Bool), k ≤ l.length ∧ done ++ runes (l.drop k) = runes l ∧ o = done.foldl cleanStep ([], false) ∧ o.2 = (a && decide (o.1 ≠ [])) ∧ u = .bool a ∧
    W.heap[w.heap.size + 1]? = some (.stringIter (str l) k) ∧ Bld w.heap.size (put o.1) W ∧ Below w.heap.size w W
theorem step_blank {o : List Int × Bool} {c : Int} (h : blankB c = true) : cleanStep o c = (o.1, decide (o.1 ≠ [])) := by unfold cleanStep; rw [if_pos h]
theorem step_unseen {o : List Int × Bool} {c : Int} (h : blankB c = false) (h' : unseenB c = true) : cleanStep o c = o := by unfold cleanStep; rw [if_neg (by simp [h]), if_pos h']
theorem step_keep {o : List Int × Bool} {c : Int} (h : blankB c = false) (h' : unseenB c = false) (hw : o.2 = false) : cleanStep o c = (o.1 ++ [c], false) := by
  unfold cleanStep; rw [if_neg (by simp [h]), if_neg (by simp [h']), hw]; simp
theorem step_wait {o : List Int × Bool} {c : Int} (h : blankB c = false) (h' : unseenB c = false) (hw : o.2 = true) : cleanStep o c = (o.1 ++ [32] ++ [c], false) := by
  unfold cleanStep; rw [if_neg (by simp [h]), if_neg (by simp [h']), hw]; simp
theorem foldl_snoc (done : List Int) (c : Int) : (done ++ [c]).foldl cleanStep ([], false) = cleanStep (done.foldl cleanStep ([], false)) c := by rw [List.foldl_append]; rfl
theorem put_ne {rs : List Int} (h : rs ≠ []) : 0 < (put rs).length := by
  have h1 := (put_len rs).1
  have h2 : 0 < rs.length := List.length_pos_iff.2 h
  omega
end Go.Proofs.YthnepbdkbiieiaaDoor
