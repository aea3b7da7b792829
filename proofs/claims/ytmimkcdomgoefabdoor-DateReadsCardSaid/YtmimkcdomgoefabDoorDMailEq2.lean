/-
  Plain words for dates of the mail: the document's reading (mailR) as a function, and the zones of both readings. No condition.
-/
import Derived.Test.YtmimkcdomgoefabDoorDMailEq
import Derived.Test.YtmimkcdomgoefabDoorDRefNamed
import Derived.Test.YtmimkcdomgoefabDoorDWebM
namespace Go.Proofs.YtmimkcdomgoefabDoor
open Go.RowKit

def wdsL : List (List UInt8) := [[77, 111, 110, 44], [84, 117, 101, 44], [87, 101, 100, 44], [84, 104, 117, 44], [70, 114, 105, 44], [83, 97, 116, 44], [83, 117, 110, 44]]
def monsL : List (List UInt8) := [[74, 97, 110], [70, 101, 98], [77, 97, 114], [65, 112, 114], [77, 97, 121], [74, 117, 110], [74, 117, 108], [65, 117, 103], [83, 101, 112], [79, 99, 116], [78, 111, 118], [68, 101, 99]]
def yearR (y : List UInt8) : Int := if y.length = 2 ∧ 50 ≤ numR y then numR y + 1900 else if y.length = 2 ∧ 0 ≤ numR y then numR y + 2000 else numR y
def timeR (ts : List (List UInt8)) : Option (Int × Int × Int) :=
  match ts with
  | [h, i] => if h.length = 2 ∧ i.length = 2 then some (numR h, numR i, 0) else none
  | [h, i, s] => if h.length = 2 ∧ i.length = 2 ∧ s.length = 2 then some (numR h, numR i, numR s) else none
  | _ => none
def partsR (ws : List (List UInt8)) : Option Int :=
  match ws with
  | [d, m, y, t, z] =>
    if d.length ≤ 2 ∧ (y.length = 4 ∨ y.length = 2) then
      match timeR (splitR 58 t) with
      | some (h, i, s) => (match namedR z with | some n => toldR (yearR y) (1 + idxR monsL m) (numR d) h i s n | none => none)
      | none => none
    else none
  | _ => none
def mailR (l : List UInt8) : Option Int :=
  match splitR 32 l with
  | [a, d, m, y, t, z] => if 0 ≤ idxR wdsL a then partsR [d, m, y, t, z] else none
  | ws => partsR ws

theorem must_inv {x : Nat} {s : St} (h : (mustS x s).2 = false) : s.2 = false ∧ ∃ c r, s.1 = c :: r ∧ c.toNat = x ∧ mustS x s = (r, false) := by
  obtain ⟨h1, h2, h3, h4⟩ := mustS_inv h
  obtain ⟨l, q⟩ := s
  cases l with
  | nil => simp at h2
  | cons c r => exact ⟨h1, c, r, rfl, h3, h4⟩
theorem must_ok {x : Nat} {c : UInt8} {r : List UInt8} (h : c.toNat = x) : mustS x ((c :: r, false) : St) = (r, false) := mustS_ok false (by simp) h
theorem num_inv {n : Nat} {s : St} (h : (numS n s).2.2 = false) : s.2 = false ∧ ∃ t r, s.1 = t ++ r ∧ t.length = n ∧ AllDig t ∧ numS n s = (valN t, (r, false)) := by
  obtain ⟨h1, h2, h3, h4⟩ := numS_inv h
  exact ⟨h1, s.1.take n, s.1.drop n, (List.take_append_drop _ _).symm, by simp; omega, h3, h4⟩
theorem num_ok {n : Nat} {t r : List UInt8} (h : t.length = n) (hd : AllDig t) : numS n ((t ++ r, false) : St) = (valN t, (r, false)) := by
  have e : (t ++ r).take n = t := by rw [← h]; exact List.take_left' rfl
  have e' : (t ++ r).drop n = r := by rw [← h]; exact List.drop_left' rfl
  have := numS_ok (n := n) (l := t ++ r) false (by simp; omega) (by rw [e]; exact hd)
  rwa [e, e'] at this
theorem dig_all {t : List UInt8} : AllDig t ↔ AllP digB t := by
  constructor
  · intro h x hx
    obtain ⟨i, hi, rfl⟩ := List.getElem_of_mem hx
    exact (dig_iff _).2 (h i hi)
  · intro h i hi
    exact (dig_iff _).1 (h _ (List.getElem_mem hi))
theorem dig_noB {t : List UInt8} {b : Nat} (h : AllDig t) (hb : b < 48 ∨ 57 < b) : NoB b t := fun x hx e => by
  have := (dig_iff _).1 (dig_all.1 h x hx)
  omega
theorem let_noB {t : List UInt8} {b : Nat} (h : AllP letB t) (hb : b < 65 ∨ 122 < b) : NoB b t := fun x hx e => by
  have := (let_iff _).1 (h x hx)
  omega

/-- What a zone of sign, hours, minutes without a colon asks of the bytes. -/
def offD (r : List UInt8) : Prop := 5 ≤ r.length ∧ (at0B r 0 = 45 ∨ at0B r 0 = 43) ∧ AllDig ((r.drop 1).take 2) ∧ valN ((r.drop 1).take 2) ≤ 23 ∧ AllDig ((r.drop 3).take 2) ∧ valN ((r.drop 3).take 2) ≤ 59
theorem offD_inv {r : List UInt8} (h : (offS false (r, false)).2.2 = false) : offD r ∧ (offS false (r, false)).2 = (r.drop 5, false) ∧ (offS false (r, false)).1 = (if at0B r 0 = 45 then -1 else 1) * ((valN ((r.drop 1).take 2) : Int) * 3600 + (valN ((r.drop 3).take 2) : Int) * 60) := by
  unfold offS at h ⊢
  simp only [Bool.false_eq_true, if_false] at h ⊢
  obtain ⟨d1, d2, d3, d4, d5⟩ := numToS_inv h
  obtain ⟨b1, b2, b3, b4, b5⟩ := numToS_inv d1
  obtain ⟨a1, a2, a3⟩ := signS_inv b1
  have hs : (signS (r, false)).2 = (r.drop 1, false) := by
    rcases a3 with ⟨_, e⟩ | ⟨_, e⟩ <;> rw [e]
  rw [hs] at b2 b3 b4 b5
  rw [hs, b5] at d2 d3 d4 d5
  simp only [List.drop_drop, List.length_drop] at b2 d2 d3 d4 d5
  rw [hs, b5]
  simp only [List.drop_drop]
  rw [d5]
  refine ⟨⟨by omega, ?_, b3, b4, d3, d4⟩, rfl, ?_⟩
  · rcases a3 with ⟨e, _⟩ | ⟨e, _⟩
    · exact .inl e
    · exact .inr e
  · rcases a3 with ⟨e1, e⟩ | ⟨e1, e⟩
    · rw [e, if_pos e1]
    · rw [e, if_neg (by simp only at e1; omega)]
theorem offD_ok {r : List UInt8} (h : offD r) : (offS false (r, false)).2 = (r.drop 5, false) ∧ (offS false (r, false)).1 = (if at0B r 0 = 45 then -1 else 1) * ((valN ((r.drop 1).take 2) : Int) * 3600 + (valN ((r.drop 3).take 2) : Int) * 60) := by
  obtain ⟨h6, hs, d1, v1, d2, v2⟩ := h
  have hsg : signS (r, false) = ((if at0B r 0 = 45 then -1 else 1), (r.drop 1, false)) := by
    rcases hs with e | e
    · rw [signS_minus (by omega) e, if_pos e]
    · rw [signS_plus (by omega) e, if_neg (by omega)]
  unfold offS
  simp only [Bool.false_eq_true, if_false]
  rw [hsg]
  simp only
  rw [numToS_ok (by simp; omega) d1 v1]
  simp only [List.drop_drop]
  rw [numToS_ok (by simp; omega) d2 v2]
  simp only [List.drop_drop]
  exact ⟨trivial, trivial⟩
end Go.Proofs.YtmimkcdomgoefabDoor
