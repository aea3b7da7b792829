/-
  The document's own parts of a text at each of a byte (newsstandref04.split). Condition: at most a million bytes.
-/
import Derived.Test.YtmimkcdomgoefabDoorDRefIdx
import Derived.Test.YtmimkcdomgoefabDoorDRefWeb
namespace Go.Proofs.YtmimkcdomgoefabDoor
open Go.RowKit

theorem Tryd.strinfo : (Tryd.prog.info? 9).map (fun i => (i.zero, i.size, i.bytes)) = some (some (.string ⟨#[]⟩), 1, 16) := by kernel_rfl

def strs (L : List (List UInt8)) : List Value := L.map fun l => .string (str l)
theorem strs_length (L : List (List UInt8)) : (strs L).length = L.length := by simp [strs]
theorem strs_snoc (L : List (List UInt8)) (x : List UInt8) : strs (L ++ [x]) = strs L ++ [.string (str x)] := by simp [strs]

def splitGo (b : Nat) : List UInt8 → List UInt8 → List (List UInt8)
  | [], cur => [cur]
  | c :: r, cur => if c.toNat = b then cur :: splitGo b r [] else splitGo b r (cur ++ [c])
def splitR (b : Nat) (l : List UInt8) : List (List UInt8) := splitGo b l []

def SplitRel (b : Nat) (l : List UInt8) (w : World) (u5 u6 u7 : Value) (w' : World) : Prop :=
  ∃ (k f : Nat) (out : List (List UInt8)), u7 = .int .i64 (k : Int) ∧ u6 = .int .i64 (f : Int) ∧ f ≤ k ∧ k ≤ l.length + 1 ∧ out.length ≤ k ∧ Own w' w.heap.size 9 u5 (strs out) ∧ Below w.heap.size w w' ∧
    (k ≤ l.length → splitR b l = out ++ splitGo b (l.drop k) ((l.drop f).take (k - f))) ∧ (l.length < k → splitR b l = out)

theorem split_hit {b : Nat} {l : List UInt8} {k f : Nat} {out : List (List UInt8)} (hk : k < l.length) (hc : l[k].toNat = b) (h : splitR b l = out ++ splitGo b (l.drop k) ((l.drop f).take (k - f))) :
    splitR b l = (out ++ [(l.drop f).take (k - f)]) ++ splitGo b (l.drop (k + 1)) ((l.drop (k + 1)).take (k + 1 - (k + 1))) := by
  rw [h, List.drop_eq_getElem_cons hk]
  show out ++ (if l[k].toNat = b then _ :: splitGo b (l.drop (k + 1)) [] else _) = _
  rw [if_pos hc, Nat.sub_self, List.take_zero, List.append_assoc]
  rfl
theorem split_go {b : Nat} {l : List UInt8} {k f : Nat} {out : List (List UInt8)} (hk : k < l.length) (hf : f ≤ k) (hc : ¬ l[k].toNat = b) (h : splitR b l = out ++ splitGo b (l.drop k) ((l.drop f).take (k - f))) :
    splitR b l = out ++ splitGo b (l.drop (k + 1)) ((l.drop f).take (k + 1 - f)) := by
  have ht : (l.drop f).take (k + 1 - f) = (l.drop f).take (k - f) ++ [l[k]] := by
    rw [show k + 1 - f = (k - f) + 1 by omega, List.take_add_one, List.getElem?_drop, show f + (k - f) = k by omega, List.getElem?_eq_getElem hk]
    rfl
  rw [h, ht]
  congr 1
  rw [List.drop_eq_getElem_cons hk]
  show (if l[k].toNat = b then _ else _) = _
  rw [if_neg hc]
theorem split_last {b : Nat} {l : List UInt8} {k f : Nat} {out : List (List UInt8)} (hk : k = l.length) (h : splitR b l = out ++ splitGo b (l.drop k) ((l.drop f).take (k - f))) :
    splitR b l = out ++ [(l.drop f).take (k - f)] := by
  rw [h, List.drop_eq_nil_of_le (by omega)]
  rfl

def SplitPost (b : Nat) (l : List UInt8) (w : World) (e : Ending) (w' : World) : Prop :=
  ∃ v, e = .returned v ∧ Own w' w.heap.size 9 v (strs (splitR b l)) ∧ Below w.heap.size w w'

set_option maxHeartbeats 3200000 in
theorem rsplit_any (b : Nat) (l : List UInt8) (w : World) (hl : l.length ≤ 1000000) :
    Calls Tryd.prog 32 #[.string (str l), .int .u8 (b : Int)] w (SplitPost b l w) := by
  have HL := Lib.hid hl
  clear hl
  go_enter Tryd.func32, Tryd.ntmps32
  go_wp2_with fail
  go_loopw [5, 6, 7] (SplitRel b l w) (fun _ _ u _ => (l.length + 2 - intOf u).toNat)
  case atStart => exact ⟨0, 0, [], rfl, rfl, Nat.le_refl _, by omega, Nat.le_refl _, Own.nil _ _ _, Below.refl _ _, fun _ => by simp [splitR], fun h => by omega⟩
  case round =>
    obtain ⟨k, f, out, rfl, rfl, hfk, hk, hol, hown, hbw, heq, hend⟩ := hrel
    have hl := HL.out
    by_cases hkl : k < l.length
    · have hk1 : (k : Int) ≤ (l.length : Int) := by omega
      have hk2 : ((k : Int) == (l.length : Int)) = false := by simp; omega
      have hix := idx_str l k hkl
      have hsl := fun W => slc l f k hfk (by omega) W
      by_cases hc : l[k].toNat = b
      · have hnew := split_hit hkl hc (heq (by omega))
        have hcb : ((l[k].toNat : Int) == (b : Int)) = true := by simp [hc]
        generalize (l.drop f).take (k - f) = p at hsl hnew
        generalize l[k].toNat = c at hix hcb
        have HN := Lib.hid hnew
        clear heq hend hnew hc
        go_wp2_with (at_builtin; go_must (refine wpList_push wr rfl (.tmp 25) (.tmp 30) _ rfl w.heap.size 9 _ 16 Tryd.underlying49 Tryd.strinfo rfl _ _ rfl (by exact hown) _ rfl rfl (by rw [strs_length]; unfold maxLen; omega) (by rw [strs_length]; omega) hbw.size ?_); intro v1 w1 hown1 hg1 hb1 _)
        go_roundw
        case rel => exact ⟨k + 1, k + 1, _, rfl, rfl, Nat.le_refl _, by omega, by simp; omega, by rw [strs_snoc]; exact hown1, hbw.trans hb1, fun _ => HN.out, fun h => by omega⟩
        case measure => simp [intOf]; omega
      · have hnew := split_go hkl hfk hc (heq (by omega))
        have hcb : ((l[k].toNat : Int) == (b : Int)) = false := by simp; omega
        generalize l[k].toNat = c at hix hcb
        have HN := Lib.hid hnew
        clear heq hend hnew hc
        go_wp2_with fail
        go_roundw
        case rel => exact ⟨k + 1, f, out, rfl, rfl, by omega, by omega, by omega, hown, hbw, fun _ => HN.out, fun h => by omega⟩
        case measure => simp [intOf]; omega
    · by_cases hke : k = l.length
      · have hk1 : (k : Int) ≤ (l.length : Int) := by omega
        have hk2 : ((k : Int) == (l.length : Int)) = true := by simp; omega
        have hsl := fun W => slc l f k hfk (by omega) W
        have hnew := split_last hke (heq (by omega))
        generalize (l.drop f).take (k - f) = p at hsl hnew
        have HN := Lib.hid hnew
        clear heq hend hnew
        have HKE := Lib.hid hke
        clear hke
        go_wp2_with (at_builtin; go_must (refine wpList_push wr rfl (.tmp 25) (.tmp 30) _ rfl w.heap.size 9 _ 16 Tryd.underlying49 Tryd.strinfo rfl _ _ rfl (by exact hown) _ rfl rfl (by rw [strs_length]; unfold maxLen; omega) (by rw [strs_length]; omega) hbw.size ?_); intro v1 w1 hown1 hg1 hb1 _)
        go_roundw
        case rel => exact ⟨k + 1, k + 1, _, rfl, rfl, Nat.le_refl _, by omega, by simp; omega, by rw [strs_snoc]; exact hown1, hbw.trans hb1, fun h => by have := HKE.out; omega, fun _ => HN.out⟩
        case measure => simp [intOf]; omega
      · have hk1 : ¬ (k : Int) ≤ (l.length : Int) := by omega
        have hfin := hend (by omega)
        have HF := Lib.hid hfin
        clear heq hend hfin
        go_wp2_with fail
        go_ret
        exact ⟨_, rfl, by rw [HF.out]; exact hown, hbw⟩
end Go.Proofs.YtmimkcdomgoefabDoor
