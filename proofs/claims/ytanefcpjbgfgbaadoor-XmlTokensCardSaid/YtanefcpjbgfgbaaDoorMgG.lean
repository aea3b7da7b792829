/-
  The runes of a text, how many, whether it is right: the program's and the document's. Condition: a length within 2^40.
-/
import Derived.Test.YtanefcpjbgfgbaaDoorMgE
import Derived.Test.YtanefcpjbgfgbaaDoorShelf
namespace Go.Proofs.YtanefcpjbgfgbaaDoor
open Go.RowKit
open Go.Lib (decodeL encodeRune validD)

theorem nxt_it (w : World) (l : List UInt8) (k : Nat) (ty : TypeId) (h : k < l.length) :
    (Instr.next (.pointer (some ⟨w.heap.size, 0, none⟩)) true ty).run Tryd.prog (w.iter (str l) k) = .ok (.tuple #[.bool true, .int .i64 (k : Int), .int .i32 ((decodeL (l.drop k)).1 : Int)]) (w.iter (str l) (k + (decodeL (l.drop k)).2)) := by
  rw [run_next_any w (str l) k ty (by rw [str_size]; exact h), dec_at]
theorem nxt_itno (w : World) (l : List UInt8) (k : Nat) (ty : TypeId) (h : ¬ k < l.length) :
    (Instr.next (.pointer (some ⟨w.heap.size, 0, none⟩)) true ty).run Tryd.prog (w.iter (str l) k) = .ok (.tuple #[.bool false]) (w.iter (str l) k) :=
  run_next_end w (str l) k ty (by rw [str_size]; exact h)

def strLen : Value → Nat
  | .string s => s.size
  | _ => 0
theorem strLen_str (l : List UInt8) : strLen (.string (str l)) = l.length := str_size l

/-! ### how many -/
def CountRel (l : List UInt8) (w : World) (u : Value) (w' : World) : Prop :=
  ∃ k j : Nat, k ≤ l.length ∧ j + (runes (l.drop k)).length = (runes l).length ∧ w' = w.iter (str l) k ∧ u = .int .i64 (j : Int)
/-! ### right -/
theorem pre_bad {l : List UInt8} (h : l ≠ []) (h1 : (decodeL l).1 = 65533) : Lib.hasPrefix l [239, 191, 189] = decide ((decodeL l).2 ≠ 1) := by
  unfold Lib.hasPrefix
  by_cases h2 : (decodeL l).2 = 1
  · rw [decide_eq_false (by simp [h2])]
    refine Bool.eq_false_iff.2 fun hp => ?_
    obtain ⟨t, ht⟩ := List.isPrefixOf_iff_prefix.1 hp
    have he : encodeRune 65533 = [239, 191, 189] := rfl
    have := dec_enc 65533 t (by unfold okR; omega)
    rw [he, ht] at this
    rw [this] at h2
    cases h2
  · rw [decide_eq_true (by simp [h2])]
    have he := Lib.encode_decode l h (fun hh => h2 hh.2)
    rw [h1] at he
    have he2 : encodeRune ((65533 : Nat) : Int) = [239, 191, 189] := rfl
    rw [he2] at he
    refine List.isPrefixOf_iff_prefix.2 ⟨l.drop (decodeL l).2, ?_⟩
    rw [he]
    exact List.take_append_drop _ _
theorem valid_on {l : List UInt8} {k : Nat} (h : k < l.length) : validD (l.drop k) = if (decodeL (l.drop k)).1 = 65533 ∧ (decodeL (l.drop k)).2 = 1 then false else validD (l.drop (k + (decodeL (l.drop k)).2)) := by
  rw [Lib.validD_step _ (drop_ne h), List.drop_drop]
theorem valid_end {l : List UInt8} {k : Nat} (h : ¬ k < l.length) : validD (l.drop k) = true := by
  rw [List.drop_eq_nil_of_le (by omega)]
  rfl
def RightRel (l : List UInt8) (w : World) (w' : World) : Prop := ∃ k : Nat, k ≤ l.length ∧ validD (l.drop k) = validD l ∧ w' = w.iter (str l) k
def RRightRel (l : List UInt8) (u : Value) : Prop := ∃ k : Nat, k ≤ l.length ∧ validD (l.drop k) = validD l ∧ u = .string (str (l.drop k))
end Go.Proofs.YtanefcpjbgfgbaaDoor

/-
  The rows of runes of a text: the program's and the document's; two rows compared. Condition: a length within 2^40.
-/
namespace Go.Proofs.YtanefcpjbgfgbaaDoor
open Go.RowKit
open Go.Lib (decodeL encodeRune)

/-- The slice value v reads in w as these values, one cell each. -/
def RdV (w : World) (B : Nat) (v : Value) (xs : List Value) : Prop :=
  ∃ A c, v = .slice A xs.length c ∧ xs.length ≤ c ∧ c ≤ maxLen ∧ (0 < xs.length → ∃ b o, A = some ⟨b, o, none⟩ ∧ b < B ∧ ∀ j (h : j < xs.length), w.cell? ⟨b, o + j, none⟩ = some xs[j])
theorem RdV.keep {w w' : World} {B : Nat} {v : Value} {xs : List Value} (h : RdV w B v xs) (hk : ∀ p : Addr, p.block < B → w'.cell? p = w.cell? p) : RdV w' B v xs := by
  obtain ⟨A, c, rfl, h1, h2, h3⟩ := h
  refine ⟨A, c, rfl, h1, h2, fun hn => ?_⟩
  obtain ⟨b, o, rfl, hb, hc⟩ := h3 hn
  exact ⟨b, o, rfl, hb, fun j hj => (hk _ hb).trans (hc j hj)⟩
theorem RdV.below {w w' : World} {B : Nat} {v : Value} {xs : List Value} (h : RdV w B v xs) (hb : Below B w w') : RdV w' B v xs := h.keep fun _ hp => hb.cell hp
theorem RdV.more {w : World} {B B' : Nat} {v : Value} {xs : List Value} (h : RdV w B v xs) (hB : B ≤ B') : RdV w B' v xs := by
  obtain ⟨A, c, rfl, h1, h2, h3⟩ := h
  refine ⟨A, c, rfl, h1, h2, fun hn => ?_⟩
  obtain ⟨b, o, rfl, hb, hc⟩ := h3 hn
  exact ⟨b, o, rfl, by omega, hc⟩
theorem Own.rdv {w : World} {B base e : Nat} {v : Value} {xs : List Value} (h : Own w base e v xs) (hB : w.heap.size ≤ B) : RdV w B v xs := by
  have h' := h
  obtain ⟨h1, h2⟩ := h
  rcases h2 with ⟨rfl, h0⟩ | ⟨g, cap, cur, rfl, hg, hh, hn, hc, hs, ht⟩
  · refine ⟨none, 0, by rw [h0], by omega, by unfold maxLen; omega, fun h => ?_⟩
    omega
  · refine ⟨_, cap, rfl, hn, hc, fun _ => ⟨g, 0, rfl, ?_, fun j hj => ?_⟩⟩
    · have := World.ownsRow.lt h' g rfl; omega
    · rw [Nat.zero_add, World.ownsRow.cellAt h' j (by omega)]
      simp [hj]

/-- A call that makes a row of its own of these values. -/
def MadeRow (e : TypeId) (w : World) (xs : List Value) (en : Ending) (w' : World) : Prop := ∃ v, en = .returned v ∧ Own w' w.heap.size e v xs ∧ Below w.heap.size w w'

def RunesRel (l : List UInt8) (w : World) (u : Value) (W : World) : Prop :=
  ∃ (k : Nat) (done : List Int), k ≤ l.length ∧ done ++ runes (l.drop k) = runes l ∧ W.heap[w.heap.size]? = some (.stringIter (str l) k) ∧ Below w.heap.size w W ∧ Own W (w.heap.size + 1) 21 u (rvs done)
set_option maxHeartbeats 1600000 in
theorem runes_any (l : List UInt8) (w : World) (hl : l.length ≤ 1099511627776) :
    Calls Tryd.prog 94 #[.string (str l)] w (MadeRow 21 w (rvs (runes l))) := by
  obtain ⟨R, hR⟩ : ∃ R, R = runes l := ⟨_, rfl⟩
  have hrl := runes_len l
  rw [← hR] at hrl ⊢
  have HR := Lib.hid hR
  clear hR
  have hit0 : (w.iter (str l) 0).heap[w.heap.size]? = some (.stringIter (str l) 0) := World.iter_heap w (str l) 0
  have HIT0 := Lib.hid hit0
  clear hit0
  go_enter Tryd.func94, Tryd.ntmps94
  go_wp2_with fail
  go_loopw [3] (RunesRel l w) (fun _ wr => l.length - wr.iterPos w.heap.size)
  case atStart => exact ⟨0, [], Nat.zero_le _, by simp, HIT0.out, (Below.refl _ _).alloc (Nat.le_refl _) _, Own.nil _ _ _⟩
  case round =>
    obtain ⟨k, done, hk, hj, hit, hbw, hown⟩ := hrel
    rw [← HR.out] at hj
    have hsz : w.heap.size < wr.heap.size := (Array.getElem?_eq_some_iff.1 hit).1
    by_cases hkl : k < l.length
    · have hnx := fun ty => nxt_at wr w.heap.size l k ty hit hkl
      have hd := dec_on hkl
      have hon := runes_on hkl
      rw [hon] at hj
      have hlen : done.length + 1 ≤ 1099511627776 := by
        have := congrArg List.length hj
        rw [List.length_append, List.length_cons] at this
        omega
      have hit2 := Lib.iterAt_heap wr w.heap.size (str l) k (k + (decodeL (l.drop k)).2) hit
      have hbw2 := Lib.below_iterAt hbw (Nat.le_refl _) (str l) (k + (decodeL (l.drop k)).2)
      have hown2 : Own (wr.iterAt w.heap.size (str l) (k + (decodeL (l.drop k)).2)) (w.heap.size + 1) 21 _ (rvs done) := ownsRow_iterAt hown (by omega) (str l) (k + (decodeL (l.drop k)).2)
      have hsz2 : w.heap.size + 1 ≤ (wr.iterAt w.heap.size (str l) (k + (decodeL (l.drop k)).2)).heap.size := by rw [Lib.iterAt_size]; omega
      generalize hdd : decodeL (l.drop k) = d at *
      generalize wr.iterAt w.heap.size (str l) (k + d.2) = W1 at *
      have HJ := Lib.hid hj
      have HD := Lib.hid hd
      have HIT := Lib.hid hit
      have HIT2 := Lib.hid hit2
      have HL := Lib.hid hlen
      clear hj hd hdd hon hit hit2 hlen hown
      go_wp2_with (at_builtin; go_must (refine wpList_push W1 rfl (.tmp 11) (.tmp 13) _ rfl (w.heap.size + 1) 21 _ 4 Tryd.underlying86 Tryd.i32info rfl _ _ rfl (by exact hown2) _ rfl rfl (by rw [rvs_length]; unfold maxLen; have := HL.out; omega) (by rw [rvs_length]; have := HL.out; omega) hsz2 ?_); intro v1 w1 hown1 hg1 hb1 _)
      go_roundw
      case rel => exact ⟨k + d.2, done ++ [(d.1 : Int)], HD.out.2, by rw [← HR.out, List.append_assoc]; exact HJ.out, (hb1.block w.heap.size (by omega)).trans HIT2.out, hbw2.trans (hb1.mono (by omega)), by rw [rvs_snoc]; exact hown1⟩
      case measure =>
        have e1 := iterPos_of ((hb1.block w.heap.size (by omega)).trans HIT2.out)
        have e2 := iterPos_of HIT.out
        rw [e1, e2]
        have := HD.out
        omega
    · have hnx := fun ty => nxt_no wr w.heap.size l k ty hit hkl
      rw [runes_end hkl, List.append_nil] at hj
      have HJ := Lib.hid hj
      clear hj hit
      go_wp2_with fail
      go_ret
      exact ⟨_, rfl, by rw [← HJ.out]; exact hown.more (by omega), hbw⟩

def RRunesRel (l : List UInt8) (w : World) (u0 u3 : Value) (W : World) : Prop :=
  ∃ (k : Nat) (done : List Int), k ≤ l.length ∧ done ++ runes (l.drop k) = runes l ∧ u0 = .string (str (l.drop k)) ∧ Below w.heap.size w W ∧ Own W w.heap.size 21 u3 (rvs done)
/-! ### two rows -/
def SameRel (xs ys : List Int) (w : World) (u : Value) (W : World) : Prop := ∃ k q : Nat, k ≤ xs.length ∧ xs.take k = ys.take k ∧ u = .int .i64 (k : Int) ∧ W = w.drewN q
theorem take_next {a b : List Int} {k : Nat} (h : a.take k = b.take k) (ha : k < a.length) (hb : k < b.length) (he : a[k] = b[k]) : a.take (k + 1) = b.take (k + 1) := by
  rw [List.take_succ_eq_append_getElem ha, List.take_succ_eq_append_getElem hb, h, he]
def Drew (w : World) (v : Value) (e : Ending) (w' : World) : Prop := e = .returned v ∧ ∃ q, w' = w.drewN q
end Go.Proofs.YtanefcpjbgfgbaaDoor
