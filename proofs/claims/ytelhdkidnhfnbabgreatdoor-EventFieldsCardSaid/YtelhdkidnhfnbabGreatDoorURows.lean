/-
  The rows of runes of a text: the program's and the document's; two rows compared. Condition: a length within 2^40.
-/
import Derived.Test.YtelhdkidnhfnbabGreatDoorURunes
namespace Go.Proofs.YtelhdkidnhfnbabGreatDoor
open Go.RowKit
open Go.Lib (decodeL encodeRune)

/-- The slice value v reads in w as these values, one cell each. -/
def RdV (w : World) (B : Nat) (v : Value) (xs : List Value) : Prop :=
  ∃ A c, v = .slice A xs.length c ∧ xs.length ≤ c ∧ c ≤ maxLen ∧ (0 < xs.length → ∃ b o, A = some ⟨b, o, none⟩ ∧ b < B ∧ ∀ j (h : j < xs.length), w.cell? ⟨b, o + j, none⟩ = some xs[j])
theorem RdV.keep {w w' : World} {B : Nat} {v : Value} {xs : List Value} (h : RdV w B v xs) (hk : ∀ p : Addr, p.block < B → w'.cell? p = w.cell? p) : RdV w' B v xs := by
  obtain ⟨A, c, rfl, h1, h2, h3⟩ := h
  refine ⟨A, c, rfl, h1, h2, fun hn => ?_⟩
  obtain ⟨b, o, rfl, hb, hc⟩ := h3 hn
  exact ⟨b, o, rfl, hb, fun j hj => (hk _ hb).trans (hc j hj)⟩
theorem RdV.below {w w' : World} {B : Nat} {v : Value} {xs : List Value} (h : RdV w B v xs) (hb : Below B w w') : RdV w' B v xs := h.keep fun _ hp => hb.cell hp
theorem RdV.more {w : World} {B B' : Nat} {v : Value} {xs : List Value} (h : RdV w B v xs) (hB : B ≤ B') : RdV w B' v xs := by
  obtain ⟨A, c, rfl, h1, h2, h3⟩ := h
  refine ⟨A, c, rfl, h1, h2, fun hn => ?_⟩
  obtain ⟨b, o, rfl, hb, hc⟩ := h3 hn
  exact ⟨b, o, rfl, by omega, hc⟩
theorem Own.rdv {w : World} {B base e : Nat} {v : Value} {xs : List Value} (h : Own w base e v xs) (hB : w.heap.size ≤ B) : RdV w B v xs := by
  have h' := h
  obtain ⟨h1, h2⟩ := h
  rcases h2 with ⟨rfl, h0⟩ | ⟨g, cap, cur, rfl, hg, hh, hn, hc, hs, ht⟩
  · refine ⟨none, 0, by rw [h0], by omega, by unfold maxLen; omega, fun h => ?_⟩
    omega
  · refine ⟨_, cap, rfl, hn, hc, fun _ => ⟨g, 0, rfl, ?_, fun j hj => ?_⟩⟩
    · have := World.ownsRow.lt h' g rfl; omega
    · rw [Nat.zero_add, World.ownsRow.cellAt h' j (by omega)]
      simp [hj]

/-- A call that makes a row of its own of these values. -/
def MadeRow (e : TypeId) (w : World) (xs : List Value) (en : Ending) (w' : World) : Prop := ∃ v, en = .returned v ∧ Own w' w.heap.size e v xs ∧ Below w.heap.size w w'

def RunesRel (l : List UInt8) (w : World) (u : Value) (W : World) : Prop :=
  ∃ (k : Nat) (done : List Int), k ≤ l.length ∧ done ++ runes (l.drop k) = runes l ∧ W.heap[w.heap.size]? = some (.stringIter (str l) k) ∧ Below w.heap.size w W ∧ Own W (w.heap.size + 1) 21 u (rvs done)
def RRunesRel (l : List UInt8) (w : World) (u0 u3 : Value) (W : World) : Prop :=
  ∃ (k : Nat) (done : List Int), k ≤ l.length ∧ done ++ runes (l.drop k) = runes l ∧ u0 = .string (str (l.drop k)) ∧ Below w.heap.size w W ∧ Own W w.heap.size 21 u3 (rvs done)
set_option maxHeartbeats 1600000 in
theorem rrunes_any (l : List UInt8) (w : World) (hl : l.length ≤ 1099511627776) :
    Calls Tryz.prog 57 #[.string (str l)] w (MadeRow 21 w (rvs (runes l))) := by
  obtain ⟨R, hR⟩ : ∃ R, R = runes l := ⟨_, rfl⟩
  have hrl := runes_len l
  rw [← hR] at hrl ⊢
  have HR := Lib.hid hR
  clear hR
  go_enter Tryz.func57, Tryz.ntmps57
  go_wp2_with fail
  go_loopw [0, 3] (RRunesRel l w) (fun u _ _ => strLen u)
  case atStart => exact ⟨0, [], Nat.zero_le _, by simp, by simp, Below.refl _ _, Own.nil _ _ _⟩
  case round =>
    obtain ⟨k, done, hk, hj, rfl, hbw, hown⟩ := hrel
    rw [← HR.out] at hj
    have hdl : (l.drop k).length = l.length - k := List.length_drop
    by_cases hkl : k < l.length
    · have hF := fun W => rfirst_any (l.drop k) W (by omega) (by omega)
      have hd := dec_on hkl
      have hon := runes_on hkl
      have hsl := fun W => slt (l.drop k) (decodeL (l.drop k)).2 (by omega) W
      rw [hon] at hj
      rw [List.drop_drop] at hsl
      have hlen : done.length + 1 ≤ 1099511627776 := by
        have := congrArg List.length hj
        rw [List.length_append, List.length_cons] at this
        omega
      have hpos : (0 : Int) < ((l.drop k).length : Int) := by omega
      unfold FirstV at hF
      generalize hdd : decodeL (l.drop k) = d at *
      have HF := Lib.hid hF
      have HJ := Lib.hid hj
      have HD := Lib.hid hd
      have HL := Lib.hid hlen
      clear hF hj hd hdd hdl hon hlen
      go_wp2_with (first | (go_at_call 72; refine (HF.out _).mono ?_; rintro e w' ⟨rfl, rfl⟩) | (at_builtin; go_must (refine wpList_push wr rfl (.tmp 14) (.tmp 16) _ rfl w.heap.size 21 _ 4 Tryz.underlying62 Tryz.i32info rfl _ _ rfl (by exact hown) _ rfl rfl (by rw [rvs_length]; unfold maxLen; have := HL.out; omega) (by rw [rvs_length]; have := HL.out; omega) hbw.size ?_); intro v1 w1 hown1 hg1 hb1 _))
      go_roundw
      case rel => exact ⟨k + d.2, done ++ [(d.1 : Int)], HD.out.2, by rw [← HR.out, List.append_assoc]; exact HJ.out, rfl, hbw.trans hb1, by rw [rvs_snoc]; exact hown1⟩
      case measure =>
        simp only [strLen_str, List.length_drop]
        have := HD.out
        omega
    · rw [runes_end hkl, List.append_nil] at hj
      have hnil : l.drop k = [] := List.drop_eq_nil_of_le (by omega)
      rw [hnil]
      have HJ := Lib.hid hj
      clear hj hnil hdl
      go_wp2_with fail
      go_ret
      exact ⟨_, rfl, by rw [← HJ.out]; exact hown, hbw⟩

/-! ### two rows -/
def SameRel (xs ys : List Int) (w : World) (u : Value) (W : World) : Prop := ∃ k q : Nat, k ≤ xs.length ∧ xs.take k = ys.take k ∧ u = .int .i64 (k : Int) ∧ W = w.drewN q
theorem take_next {a b : List Int} {k : Nat} (h : a.take k = b.take k) (ha : k < a.length) (hb : k < b.length) (he : a[k] = b[k]) : a.take (k + 1) = b.take (k + 1) := by
  rw [List.take_succ_eq_append_getElem ha, List.take_succ_eq_append_getElem hb, h, he]
def Drew (w : World) (v : Value) (e : Ending) (w' : World) : Prop := e = .returned v ∧ ∃ q, w' = w.drewN q
end Go.Proofs.YtelhdkidnhfnbabGreatDoor
