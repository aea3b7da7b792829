/-
  The runes of a text, how many, whether it is right: the program's and the document's. Condition: a length within 2^40.
-/
import Derived.Test.YtelhdkidnhfnbaaDoorMgD
import Derived.Test.YtelhdkidnhfnbaaDoorShelf
import Derived.Shelf.Strings.Builder1
import Derived.Shelf.Strings.BuilderK
import Derived.Test.YtelhdkidnhfnbaaDoorProg
namespace Go.Proofs.YtelhdkidnhfnbaaDoor
open Go.RowKit
open Go.Lib (decodeL encodeRune validD)

theorem nxt_it (w : World) (l : List UInt8) (k : Nat) (ty : TypeId) (h : k < l.length) :
    (Instr.next (.pointer (some ⟨w.heap.size, 0, none⟩)) true ty).run Tryd.prog (w.iter (str l) k) = .ok (.tuple #[.bool true, .int .i64 (k : Int), .int .i32 ((decodeL (l.drop k)).1 : Int)]) (w.iter (str l) (k + (decodeL (l.drop k)).2)) := by
  rw [run_next_any w (str l) k ty (by rw [str_size]; exact h), dec_at]
theorem nxt_itno (w : World) (l : List UInt8) (k : Nat) (ty : TypeId) (h : ¬ k < l.length) :
    (Instr.next (.pointer (some ⟨w.heap.size, 0, none⟩)) true ty).run Tryd.prog (w.iter (str l) k) = .ok (.tuple #[.bool false]) (w.iter (str l) k) :=
  run_next_end w (str l) k ty (by rw [str_size]; exact h)

def strLen : Value → Nat
  | .string s => s.size
  | _ => 0
theorem strLen_str (l : List UInt8) : strLen (.string (str l)) = l.length := str_size l

/-! ### how many -/
def CountRel (l : List UInt8) (w : World) (u : Value) (w' : World) : Prop :=
  ∃ k j : Nat, k ≤ l.length ∧ j + (runes (l.drop k)).length = (runes l).length ∧ w' = w.iter (str l) k ∧ u = .int .i64 (j : Int)
/-! ### right -/
theorem pre_bad {l : List UInt8} (h : l ≠ []) (h1 : (decodeL l).1 = 65533) : Lib.hasPrefix l [239, 191, 189] = decide ((decodeL l).2 ≠ 1) := by
  unfold Lib.hasPrefix
  by_cases h2 : (decodeL l).2 = 1
  · rw [decide_eq_false (by simp [h2])]
    refine Bool.eq_false_iff.2 fun hp => ?_
    obtain ⟨t, ht⟩ := List.isPrefixOf_iff_prefix.1 hp
    have he : encodeRune 65533 = [239, 191, 189] := rfl
    have := dec_enc 65533 t (by unfold okR; omega)
    rw [he, ht] at this
    rw [this] at h2
    cases h2
  · rw [decide_eq_true (by simp [h2])]
    have he := Lib.encode_decode l h (fun hh => h2 hh.2)
    rw [h1] at he
    have he2 : encodeRune ((65533 : Nat) : Int) = [239, 191, 189] := rfl
    rw [he2] at he
    refine List.isPrefixOf_iff_prefix.2 ⟨l.drop (decodeL l).2, ?_⟩
    rw [he]
    exact List.take_append_drop _ _
theorem valid_on {l : List UInt8} {k : Nat} (h : k < l.length) : validD (l.drop k) = if (decodeL (l.drop k)).1 = 65533 ∧ (decodeL (l.drop k)).2 = 1 then false else validD (l.drop (k + (decodeL (l.drop k)).2)) := by
  rw [Lib.validD_step _ (drop_ne h), List.drop_drop]
theorem valid_end {l : List UInt8} {k : Nat} (h : ¬ k < l.length) : validD (l.drop k) = true := by
  rw [List.drop_eq_nil_of_le (by omega)]
  rfl
def RightRel (l : List UInt8) (w : World) (w' : World) : Prop := ∃ k : Nat, k ≤ l.length ∧ validD (l.drop k) = validD l ∧ w' = w.iter (str l) k
def RRightRel (l : List UInt8) (u : Value) : Prop := ∃ k : Nat, k ≤ l.length ∧ validD (l.drop k) = validD l ∧ u = .string (str (l.drop k))
end Go.Proofs.YtelhdkidnhfnbaaDoor

/-
  The rows of runes of a text: the program's and the document's; two rows compared. Condition: a length within 2^40.
-/
namespace Go.Proofs.YtelhdkidnhfnbaaDoor
open Go.RowKit
open Go.Lib (decodeL encodeRune)

/-- The slice value v reads in w as these values, one cell each. -/
def RdV (w : World) (B : Nat) (v : Value) (xs : List Value) : Prop :=
  ∃ A c, v = .slice A xs.length c ∧ xs.length ≤ c ∧ c ≤ maxLen ∧ (0 < xs.length → ∃ b o, A = some ⟨b, o, none⟩ ∧ b < B ∧ ∀ j (h : j < xs.length), w.cell? ⟨b, o + j, none⟩ = some xs[j])
theorem RdV.keep {w w' : World} {B : Nat} {v : Value} {xs : List Value} (h : RdV w B v xs) (hk : ∀ p : Addr, p.block < B → w'.cell? p = w.cell? p) : RdV w' B v xs := by
  obtain ⟨A, c, rfl, h1, h2, h3⟩ := h
  refine ⟨A, c, rfl, h1, h2, fun hn => ?_⟩
  obtain ⟨b, o, rfl, hb, hc⟩ := h3 hn
  exact ⟨b, o, rfl, hb, fun j hj => (hk _ hb).trans (hc j hj)⟩
theorem RdV.below {w w' : World} {B : Nat} {v : Value} {xs : List Value} (h : RdV w B v xs) (hb : Below B w w') : RdV w' B v xs := h.keep fun _ hp => hb.cell hp
theorem RdV.more {w : World} {B B' : Nat} {v : Value} {xs : List Value} (h : RdV w B v xs) (hB : B ≤ B') : RdV w B' v xs := by
  obtain ⟨A, c, rfl, h1, h2, h3⟩ := h
  refine ⟨A, c, rfl, h1, h2, fun hn => ?_⟩
  obtain ⟨b, o, rfl, hb, hc⟩ := h3 hn
  exact ⟨b, o, rfl, by omega, hc⟩
theorem Own.rdv {w : World} {B base e : Nat} {v : Value} {xs : List Value} (h : Own w base e v xs) (hB : w.heap.size ≤ B) : RdV w B v xs := by
  have h' := h
  obtain ⟨h1, h2⟩ := h
  rcases h2 with ⟨rfl, h0⟩ | ⟨g, cap, cur, rfl, hg, hh, hn, hc, hs, ht⟩
  · refine ⟨none, 0, by rw [h0], by omega, by unfold maxLen; omega, fun h => ?_⟩
    omega
  · refine ⟨_, cap, rfl, hn, hc, fun _ => ⟨g, 0, rfl, ?_, fun j hj => ?_⟩⟩
    · have := World.ownsRow.lt h' g rfl; omega
    · rw [Nat.zero_add, World.ownsRow.cellAt h' j (by omega)]
      simp [hj]

/-- A call that makes a row of its own of these values. -/
def MadeRow (e : TypeId) (w : World) (xs : List Value) (en : Ending) (w' : World) : Prop := ∃ v, en = .returned v ∧ Own w' w.heap.size e v xs ∧ Below w.heap.size w w'

def RunesRel (l : List UInt8) (w : World) (u : Value) (W : World) : Prop :=
  ∃ (k : Nat) (done : List Int), k ≤ l.length ∧ done ++ runes (l.drop k) = runes l ∧ W.heap[w.heap.size]? = some (.stringIter (str l) k) ∧ Below w.heap.size w W ∧ Own W (w.heap.size + 1) 21 u (rvs done)
set_option maxHeartbeats 1600000 in
theorem runes_any (l : List UInt8) (w : World) (hl : l.length ≤ 1099511627776) :
    Calls Tryd.prog 94 #[.string (str l)] w (MadeRow 21 w (rvs (runes l))) := by
  obtain ⟨R, hR⟩ : ∃ R, R = runes l := ⟨_, rfl⟩
  have hrl := runes_len l
  rw [← hR] at hrl ⊢
  have HR := Lib.hid hR
  clear hR
  have hit0 : (w.iter (str l) 0).heap[w.heap.size]? = some (.stringIter (str l) 0) := World.iter_heap w (str l) 0
  have HIT0 := Lib.hid hit0
  clear hit0
  go_enter Tryd.func94, Tryd.ntmps94
  go_wp2_with fail
  go_loopw [3] (RunesRel l w) (fun _ wr => l.length - wr.iterPos w.heap.size)
  case atStart => exact ⟨0, [], Nat.zero_le _, by simp, HIT0.out, (Below.refl _ _).alloc (Nat.le_refl _) _, Own.nil _ _ _⟩
  case round =>
    obtain ⟨k, done, hk, hj, hit, hbw, hown⟩ := hrel
    rw [← HR.out] at hj
    have hsz : w.heap.size < wr.heap.size := (Array.getElem?_eq_some_iff.1 hit).1
    by_cases hkl : k < l.length
    · have hnx := fun ty => nxt_at wr w.heap.size l k ty hit hkl
      have hd := dec_on hkl
      have hon := runes_on hkl
      rw [hon] at hj
      have hlen : done.length + 1 ≤ 1099511627776 := by
        have := congrArg List.length hj
        rw [List.length_append, List.length_cons] at this
        omega
      have hit2 := Lib.iterAt_heap wr w.heap.size (str l) k (k + (decodeL (l.drop k)).2) hit
      have hbw2 := Lib.below_iterAt hbw (Nat.le_refl _) (str l) (k + (decodeL (l.drop k)).2)
      have hown2 : Own (wr.iterAt w.heap.size (str l) (k + (decodeL (l.drop k)).2)) (w.heap.size + 1) 21 _ (rvs done) := ownsRow_iterAt hown (by omega) (str l) (k + (decodeL (l.drop k)).2)
      have hsz2 : w.heap.size + 1 ≤ (wr.iterAt w.heap.size (str l) (k + (decodeL (l.drop k)).2)).heap.size := by rw [Lib.iterAt_size]; omega
      generalize hdd : decodeL (l.drop k) = d at *
      generalize wr.iterAt w.heap.size (str l) (k + d.2) = W1 at *
      have HJ := Lib.hid hj
      have HD := Lib.hid hd
      have HIT := Lib.hid hit
      have HIT2 := Lib.hid hit2
      have HL := Lib.hid hlen
      clear hj hd hdd hon hit hit2 hlen hown
      go_wp2_with (at_builtin; go_must (refine wpList_push W1 rfl (.tmp 11) (.tmp 13) _ rfl (w.heap.size + 1) 21 _ 4 Tryd.underlying86 Tryd.i32info rfl _ _ rfl (by exact hown2) _ rfl rfl (by rw [rvs_length]; unfold maxLen; have := HL.out; omega) (by rw [rvs_length]; have := HL.out; omega) hsz2 ?_); intro v1 w1 hown1 hg1 hb1 _)
      go_roundw
      case rel => exact ⟨k + d.2, done ++ [(d.1 : Int)], HD.out.2, by rw [← HR.out, List.append_assoc]; exact HJ.out, (hb1.block w.heap.size (by omega)).trans HIT2.out, hbw2.trans (hb1.mono (by omega)), by rw [rvs_snoc]; exact hown1⟩
      case measure =>
        have e1 := iterPos_of ((hb1.block w.heap.size (by omega)).trans HIT2.out)
        have e2 := iterPos_of HIT.out
        rw [e1, e2]
        have := HD.out
        omega
    · have hnx := fun ty => nxt_no wr w.heap.size l k ty hit hkl
      rw [runes_end hkl, List.append_nil] at hj
      have HJ := Lib.hid hj
      clear hj hit
      go_wp2_with fail
      go_ret
      exact ⟨_, rfl, by rw [← HJ.out]; exact hown.more (by omega), hbw⟩

def RRunesRel (l : List UInt8) (w : World) (u0 u3 : Value) (W : World) : Prop :=
  ∃ (k : Nat) (done : List Int), k ≤ l.length ∧ done ++ runes (l.drop k) = runes l ∧ u0 = .string (str (l.drop k)) ∧ Below w.heap.size w W ∧ Own W w.heap.size 21 u3 (rvs done)
/-! ### two rows -/
def SameRel (xs ys : List Int) (w : World) (u : Value) (W : World) : Prop := ∃ k q : Nat, k ≤ xs.length ∧ xs.take k = ys.take k ∧ u = .int .i64 (k : Int) ∧ W = w.drewN q
theorem take_next {a b : List Int} {k : Nat} (h : a.take k = b.take k) (ha : k < a.length) (hb : k < b.length) (he : a[k] = b[k]) : a.take (k + 1) = b.take (k + 1) := by
  rw [List.take_succ_eq_append_getElem ha, List.take_succ_eq_append_getElem hb, h, he]
def Drew (w : World) (v : Value) (e : Ending) (w' : World) : Prop := e = .returned v ∧ ∃ q, w' = w.drewN q
end Go.Proofs.YtelhdkidnhfnbaaDoor

/-
  What is asked of one rune: between, Blank, unseen, folded; the document's Blank and fold. No condition.
-/
namespace Go.Proofs.YtelhdkidnhfnbaaDoor
open Go.RowKit

def btwB (c a b : Int) : Bool := decide (a ≤ c ∧ c ≤ b)
theorem btw_yes {c a b : Int} (h : a ≤ c) (h' : c ≤ b) : btwB c a b = true := decide_eq_true ⟨h, h'⟩
theorem btw_no {c a b : Int} (h : ¬ (a ≤ c ∧ c ≤ b)) : btwB c a b = false := decide_eq_false h
end Go.Proofs.YtelhdkidnhfnbaaDoor

/-
  The shelf's contracts of strings.Builder's writers at this dump, where the table of numbers can't be read off the bodies (the types of the panic that copyCheck's refused line names stand written out). No condition of our own.
-/
namespace Go.Proofs
open Go.Shelf
def Tryd.xlays240_ren : Go.Shelf.Ren := ⟨fun | 240 => 60 | 276 => 74 | n => n, fun | 0 => 0 | 3 => 3 | 4 => 4 | 5 => 5 | 9 => 9 | 20 => 20 | 37 => 41 | 70 => 40 | 72 => 43 | 75 => 65 | 80 => 52 | 164 => 91 | n => n, fun | n => n⟩
theorem Tryd.xlays240 : Go.Proofs.Lays.n240 Tryd.prog Tryd.xlays240_ren := {
  mixed := by kernel_rfl
  f240 := Tryd.func60.trans (congrArg some (by kernel_rfl))
  f276 := Tryd.func74.trans (congrArg some (by kernel_rfl))
  t0 := Tryd.underlying0
  a0 := Tryd.isAgg0
  z0 := Tryd.sizeOf0
  v0 := Tryd.zeroValue0
  t4 := Tryd.underlying4
  a4 := Tryd.isAgg4
  z4 := Tryd.sizeOf4
  v4 := Tryd.zeroValue4
  t9 := Tryd.underlying9
  a9 := Tryd.isAgg9
  z9 := Tryd.sizeOf9
  v9 := Tryd.zeroValue9
  t20 := Tryd.underlying20
  a20 := Tryd.isAgg20
  z20 := Tryd.sizeOf20
  v20 := Tryd.zeroValue20
  t70 := Tryd.underlying40
  a70 := Tryd.isAgg40
  z70 := Tryd.sizeOf40
  v70 := Tryd.zeroValue40
  t72 := Tryd.underlying43
  a72 := Tryd.isAgg43
  z72 := Tryd.sizeOf43
  v72 := Tryd.zeroValue43
  t164 := Tryd.underlying91
  a164 := Tryd.isAgg91
  z164 := Tryd.sizeOf91
  v164 := Tryd.zeroValue91 }
def Tryd.xlays166_ren : Go.Shelf.Ren := ⟨fun | 166 => 37 | 240 => 60 | 276 => 74 | n => n, fun | 0 => 0 | 3 => 3 | 4 => 4 | 5 => 5 | 9 => 9 | 20 => 20 | 37 => 41 | 70 => 40 | 72 => 43 | 75 => 65 | 80 => 52 | 164 => 91 | n => n, fun | n => n⟩
theorem Tryd.xlays166 : Go.Proofs.Lays.n166 Tryd.prog Tryd.xlays166_ren := {
  mixed := by kernel_rfl
  f166 := Tryd.func37.trans (congrArg some (by kernel_rfl))
  f240 := Tryd.func60.trans (congrArg some (by kernel_rfl))
  f276 := Tryd.func74.trans (congrArg some (by kernel_rfl))
  t0 := Tryd.underlying0
  a0 := Tryd.isAgg0
  z0 := Tryd.sizeOf0
  v0 := Tryd.zeroValue0
  t3 := Tryd.underlying3
  a3 := Tryd.isAgg3
  z3 := Tryd.sizeOf3
  v3 := Tryd.zeroValue3
  t4 := Tryd.underlying4
  a4 := Tryd.isAgg4
  z4 := Tryd.sizeOf4
  v4 := Tryd.zeroValue4
  t9 := Tryd.underlying9
  a9 := Tryd.isAgg9
  z9 := Tryd.sizeOf9
  v9 := Tryd.zeroValue9
  t20 := Tryd.underlying20
  a20 := Tryd.isAgg20
  z20 := Tryd.sizeOf20
  v20 := Tryd.zeroValue20
  t37 := Tryd.underlying41
  a37 := Tryd.isAgg41
  z37 := Tryd.sizeOf41
  v37 := Tryd.zeroValue41
  t70 := Tryd.underlying40
  a70 := Tryd.isAgg40
  z70 := Tryd.sizeOf40
  v70 := Tryd.zeroValue40
  t72 := Tryd.underlying43
  a72 := Tryd.isAgg43
  z72 := Tryd.sizeOf43
  v72 := Tryd.zeroValue43
  t75 := Tryd.underlying65
  a75 := Tryd.isAgg65
  z75 := Tryd.sizeOf65
  v75 := Tryd.zeroValue65
  t164 := Tryd.underlying91
  a164 := Tryd.isAgg91
  z164 := Tryd.sizeOf91
  v164 := Tryd.zeroValue91 }
theorem Tryd.xExtra_166 : Builder.Extra Tryd.prog Tryd.xlays166_ren where
  sizeBuilder := by kernel_rfl
  liesBuilder := by kernel_rfl
  t5 := Tryd.underlying5
  a5 := Tryd.isAgg5
  z5 := Tryd.sizeOf5
  v5 := Tryd.zeroValue5
  infoByte := by kernel_rfl
  cellsByte := by kernel_rfl
  sizeByte := by kernel_rfl
  neB5 := by decide
open Go.RowKit
theorem Tryd.xWriteString (B b : Nat) (bs : List Value) (s : ByteArray) (w : World) (h : Lib.IsBuilderF 43 5 B b bs w) (hlen : bs.length + s.size ≤ 140737488355328) (hBw : B ≤ w.heap.size) :
    Calls Tryd.prog 37 #[.pointer (some ⟨b, 0, none⟩), .string s] w fun e w' => e = .returned (.tuple #[.int .i64 s.size, .nilIface]) ∧ (Lib.BuilderAtF 43 5 B b (.pointer (some ⟨b, 0, none⟩)) (bs ++ Lib.strCells s) w' ∧ Below B w w' ∧ Lib.OthersKept 5 (some b) w w') :=
  Any.Builder_WriteString_k Tryd.xlays166 Tryd.xExtra_166 B b bs s w h hlen hBw
end Go.Proofs

/-
  The text of runes: the program's and the document's. Condition: at most 2^40 runes.
-/
namespace Go.Proofs.YtelhdkidnhfnbaaDoor
open Go.RowKit
open Go.Lib (decodeL encodeRune)

theorem encode_str (c : Int) : Utf8.encode c = str (encodeRune c) := by
  have e : (fixR c).toNat = if Utf8.valid c then c.toNat else Utf8.runeError := by
    rw [validRune_eq]
    unfold validRune
    by_cases h : okR c
    · rw [fixR_of h]
      unfold okR at h
      rw [decide_eq_true (by omega), if_pos rfl]
    · have e : fixR c = 65533 := if_neg h
      rw [e]
      unfold okR at h
      rw [decide_eq_false (by omega), if_neg (by simp)]
      rfl
  have h := fixR_ok c
  rw [enc_fix]
  unfold Utf8.encode
  simp only [← e]
  generalize fixR c = d at h
  unfold okR at h
  unfold encodeRune str
  by_cases h1 : d.toNat < 128
  · rw [if_pos h1, Lib.encodeRuneZ_one (by omega) (by omega)]
    rfl
  · rw [if_neg h1]
    by_cases h2 : d.toNat < 2048
    · rw [if_pos h2, Lib.encodeRuneZ_two (by omega) (by omega)]
      simp only [List.map_cons, List.map_nil]
      rw [show (192 + d / 64).toNat = 192 + d.toNat / 64 by omega, show (128 + d % 64).toNat = 128 + d.toNat % 64 by omega]
    · rw [if_neg h2]
      by_cases h3 : d.toNat < 65536
      · rw [if_pos h3, Lib.encodeRuneZ_three (by omega)]
        simp only [List.map_cons, List.map_nil]
        rw [show (224 + d / 4096).toNat = 224 + d.toNat / 4096 by omega, show (128 + d / 64 % 64).toNat = 128 + d.toNat / 64 % 64 by omega, show (128 + d % 64).toNat = 128 + d.toNat % 64 by omega]
      · rw [if_neg h3, Lib.encodeRuneZ_four (by omega) (by omega)]
        simp only [List.map_cons, List.map_nil]
        rw [show (240 + d / 262144).toNat = 240 + d.toNat / 262144 by omega, show (128 + d / 4096 % 64).toNat = 128 + d.toNat / 4096 % 64 by omega, show (128 + d / 64 % 64).toNat = 128 + d.toNat / 64 % 64 by omega, show (128 + d % 64).toNat = 128 + d.toNat % 64 by omega]

/-- A builder of the call's own that holds these bytes. -/
def Bld (g : Nat) (l : List UInt8) (w : World) : Prop := Lib.IsBuilderF 43 5 g g (Lib.byteCells l) w
theorem bld_new (w : World) : Bld w.heap.size [] (w.alloc (.cells #[.pointer none, .slice none 0 0] 43)) := Lib.IsBuilderF.of (Lib.fresh_isBuilder 43 5 w)
theorem bld_string (g : Nat) (l : List UInt8) (s : List UInt8) (w : World) (h : Bld g l w) (hlen : l.length + s.length ≤ 140737488355328) (hg : g ≤ w.heap.size) :
    Calls Tryd.prog 37 #[.pointer (some ⟨g, 0, none⟩), .string (str s)] w fun e w' => e = .returned (.tuple #[.int .i64 s.length, .nilIface]) ∧ Bld g (l ++ s) w' ∧ Below g w w' ∧ Lib.OthersKept 5 (some g) w w' := by
  refine (Tryd.xWriteString g g (Lib.byteCells l) (str s) w h (by rw [Lib.byteCells_length, str_size]; exact hlen) hg).mono ?_
  rintro e w' ⟨rfl, h1, h2, h3⟩
  refine ⟨by rw [str_size], ?_, h2, h3⟩
  unfold Bld
  rw [Lib.byteCells_append]
  exact Or.inr h1
theorem bld_len (g : Nat) (l : List UInt8) (w : World) (h : Bld g l w) :
    Calls Tryd.prog 43 #[.pointer (some ⟨g, 0, none⟩)] w (Pure w (.int .i64 (l.length : Int))) := by
  refine (Tryd.Builder_Len_f g g (Lib.byteCells l) w h).mono ?_
  rintro e w' ⟨rfl, rfl⟩
  exact ⟨by rw [Lib.byteCells_length], rfl⟩
theorem bld_end (g : Nat) (l : List UInt8) (w : World) (h : Bld g l w) (hg : g ≤ w.heap.size) :
    Calls Tryd.prog 25 #[.pointer (some ⟨g, 0, none⟩)] w fun e w' => e = .returned (.string (str l)) ∧ Below g w w' := by
  refine (Tryd.Builder_String_any_k g g l w h hg).mono ?_
  rintro e w' ⟨rfl, _, h2, _⟩
  exact ⟨rfl, h2⟩

def PutRel (rs : List Int) (w : World) (u : Value) (W : World) : Prop :=
  ∃ k : Nat, k ≤ rs.length ∧ u = .int .i64 (k : Int) ∧ Bld w.heap.size (put (rs.take k)) W ∧ Below w.heap.size w W
theorem put_take {rs : List Int} {k : Nat} (h : k < rs.length) : put (rs.take (k + 1)) = put (rs.take k) ++ encodeRune rs[k] := by
  rw [List.take_succ_eq_append_getElem h, put_snoc]
theorem put_take_len (rs : List Int) (k : Nat) : (put (rs.take k)).length ≤ 4 * rs.length := by
  have h1 := (put_len (rs.take k)).2
  have h2 := List.length_take_le k rs
  have h3 : (rs.take k).length ≤ rs.length := by rw [List.length_take]; omega
  omega
set_option maxHeartbeats 1600000 in
theorem put_any (rs : List Int) (v : Value) (w : World) (hr : RdV w w.heap.size v (rvs rs)) (hl : rs.length ≤ 1099511627776) :
    Calls Tryd.prog 95 #[v] w (Made w (.string (str (put rs)))) := by
  obtain ⟨A, c, rfl, h1, h2, hc⟩ := hr
  rw [rvs_length] at h1
  rw [rvs_length rs]
  have hb0 := bld_new w
  have hw0 : Below w.heap.size w (w.alloc (.cells #[.pointer none, .slice none 0 0] 43)) := (Below.refl _ _).alloc (Nat.le_refl _) _
  have HB0 := Lib.hid hb0
  have HC := Lib.hid hc
  clear hb0 hc h1 h2
  go_enter Tryd.func95, Tryd.ntmps95
  go_wp2_with fail
  go_loopw [8] (PutRel rs w) (fun u _ => rs.length - (intOf u).toNat)
  case atStart => exact ⟨0, Nat.zero_le _, rfl, HB0.out, hw0⟩
  case round =>
    obtain ⟨k, hk, rfl, hbd, hbw⟩ := hrel
    have hsz := hbw.size
    by_cases hkl : k < rs.length
    · have hkI : (k : Int) < (rs.length : Int) := by omega
      obtain ⟨b, o, rfl, hbl, hcc⟩ := HC.out (by rw [rvs_length]; omega)
      have hx := hcc k (by rw [rvs_length]; exact hkl)
      have ex : (rvs rs)[k]'(by rw [rvs_length]; exact hkl) = .int .i32 rs[k] := by simp [rvs]
      rw [ex] at hx
      have hx2 := (hbw.cell (p := ⟨b, o + k, none⟩) hbl).trans hx
      have hpt := put_take hkl
      have hpl := put_take_len rs k
      have henc := encode_str rs[k]
      have hel := enc_len rs[k]
      generalize rs[k] = x at hx2 hpt henc hel
      have HPT := Lib.hid hpt
      have HPL := Lib.hid hpl
      have HEL := Lib.hid hel
      clear hpt hpl hx ex hcc hel
      go_wp2_with (go_at_call 37; go_must (refine (bld_string w.heap.size _ _ _ hbd (by have := HPL.out; have := HEL.out; omega) hsz).mono ?_); rintro e w1 ⟨rfl, h1, b1, _⟩)
      go_roundw
      case rel => exact ⟨k + 1, by omega, by go_num, by rw [HPT.out]; exact h1, hbw.trans b1⟩
      case measure => simp [intOf]; omega
    · have hkI : ¬ (k : Int) < (rs.length : Int) := by omega
      rw [List.take_of_length_le (by omega)] at hbd
      go_wp2_with (go_at_call 25; go_must (refine (bld_end w.heap.size _ _ hbd hsz).mono ?_); rintro e w1 ⟨rfl, b1⟩)
      go_ret
      exact ⟨rfl, hbw.trans b1⟩
end Go.Proofs.YtelhdkidnhfnbaaDoor

/-
  The program's clean and folded texts, and beginnings. Condition: at most 2^40 bytes.
-/
namespace Go.Proofs.YtelhdkidnhfnbaaDoor
open Go.RowKit
open Go.Lib (decodeL encodeRune)

def FoldRel (l : List UInt8) (w : World) (W : World) : Prop :=
  ∃ (k : Nat) (done : List Int), k ≤ l.length ∧ done ++ runes (l.drop k) = runes l ∧ W.heap[w.heap.size + 1]? = some (.stringIter (str l) k) ∧ Bld w.heap.size (put (done.map foldR)) W ∧ Below w.heap.size w W
theorem bld_iter {g k : Nat} {l : List UInt8} {w : World} {s : ByteArray} {p : Nat} (h : Bld g l w) (hk : w.heap[k]? = some (.stringIter s p)) (q : Nat) : Bld g l (w.iterAt k s q) := Lib.IsBuilderF.iterAt h hk q
theorem bld_alloc {g : Nat} {l : List UInt8} {w : World} (h : Bld g l w) (o : Obj) : Bld g l (w.alloc o) := Lib.IsBuilderF.alloc h o
theorem put_map_snoc (done : List Int) (c : Int) : put ((done ++ [c]).map foldR) = put (done.map foldR) ++ encodeRune (foldR c) := by rw [List.map_append, List.map_cons, List.map_nil, put_snoc]
/-! ### clean -/
def CleanRel (l : List UInt8) (w : World) (u : Value) (W : World) : Prop :=
  ∃ (k : Nat) (done : List Int) (o : List Int × Bool) (a : Bool), k ≤ l.length ∧ done ++ runes (l.drop k) = runes l ∧ o = done.foldl cleanStep ([], false) ∧ o.2 = (a && decide (o.1 ≠ [])) ∧ u = .bool a ∧
    W.heap[w.heap.size + 1]? = some (.stringIter (str l) k) ∧ Bld w.heap.size (put o.1) W ∧ Below w.heap.size w W
theorem step_blank {o : List Int × Bool} {c : Int} (h : blankB c = true) : cleanStep o c = (o.1, decide (o.1 ≠ [])) := by unfold cleanStep; rw [if_pos h]
theorem step_unseen {o : List Int × Bool} {c : Int} (h : blankB c = false) (h' : unseenB c = true) : cleanStep o c = o := by unfold cleanStep; rw [if_neg (by simp [h]), if_pos h']
theorem step_keep {o : List Int × Bool} {c : Int} (h : blankB c = false) (h' : unseenB c = false) (hw : o.2 = false) : cleanStep o c = (o.1 ++ [c], false) := by
  unfold cleanStep; rw [if_neg (by simp [h]), if_neg (by simp [h']), hw]; simp
theorem step_wait {o : List Int × Bool} {c : Int} (h : blankB c = false) (h' : unseenB c = false) (hw : o.2 = true) : cleanStep o c = (o.1 ++ [32] ++ [c], false) := by
  unfold cleanStep; rw [if_neg (by simp [h]), if_neg (by simp [h']), hw]; simp
theorem foldl_snoc (done : List Int) (c : Int) : (done ++ [c]).foldl cleanStep ([], false) = cleanStep (done.foldl cleanStep ([], false)) c := by rw [List.foldl_append]; rfl
theorem put_ne {rs : List Int} (h : rs ≠ []) : 0 < (put rs).length := by
  have h1 := (put_len rs).1
  have h2 : 0 < rs.length := List.length_pos_iff.2 h
  omega
end Go.Proofs.YtelhdkidnhfnbaaDoor

/-
  The document's text of runes, folded and clean ones, and beginnings; the program's beginnings. Condition: a length within 2^40.
-/
namespace Go.Proofs.YtelhdkidnhfnbaaDoor
open Go.RowKit
open Go.Lib (decodeL encodeRune encodeRuneZ runeCells)

/-- A call that makes these bytes, in a slice. -/
def MadeSrc (w : World) (xs : List Value) (e : Ending) (w' : World) : Prop := ∃ v, e = .returned v ∧ Src w' v xs ∧ Below w.heap.size w w'
theorem bvs_enc (c : Int) : bvs (encodeRune c) = runeCells c := Lib.byteCells_encodeRune c
theorem src_new {w : World} {e : TypeId} {xs : List Value} {n : Nat} (hn : n = xs.length) : Src (w.alloc (.cells xs.toArray e)) (.slice (some ⟨w.heap.size, 0, none⟩) n n) xs := by
  subst hn
  refine ⟨_, xs.length, rfl, fun h => (Option.some_ne_none _ h).elim, ?_⟩
  intro ad had j x hx
  injection had with had
  subst had
  have hb : (w.alloc (.cells xs.toArray e)).heap[w.heap.size]? = some (.cells xs.toArray e (0, 0)) := heap_alloc_new w _
  have hz : (⟨w.heap.size, 0, none⟩ : Addr).add j = ⟨w.heap.size, j, none⟩ := by
    simp only [Addr.add, Nat.zero_add]
    by_cases h0 : j = 0 <;> simp [h0]
  rw [hz, cell_of_row _ w.heap.size j _ e (0, 0) hb, List.getElem?_toArray]
  exact hx
theorem madeSrc_mk {w : World} {e : TypeId} {c : Int} {xs : List Value} {n : Nat} (h : runeCells c = xs) (hn : n = xs.length) :
    MadeSrc w (runeCells c) (.returned (.slice (some ⟨w.heap.size, 0, none⟩) n n)) (w.alloc (.cells xs.toArray e)) := by
  rw [h]
  exact ⟨_, rfl, src_new hn, (Below.refl _ _).alloc (Nat.le_refl _) _⟩

set_option maxRecDepth 100000 in
set_option maxHeartbeats 1600000 in
theorem one_any (c : Int) (w : World) : Calls Tryd.prog 80 #[.int .i32 c] w (MadeSrc w (runeCells c)) := by
  have a0 : c < 0 → decide (c < 0) = true := fun h => decide_eq_true h
  by_cases h0 : c < 0
  · have hd : runeCells c = [.int .u8 239, .int .u8 191, .int .u8 189] := by unfold runeCells; rw [Lib.encodeRuneZ_bad (.inl h0)]; rfl
    have d0 : decide (c < 0) = true := decide_eq_true h0
    have HD := Lib.hid hd
    clear hd a0 h0
    go_enter Tryd.func80, Tryd.ntmps80
    go_wp2_with fail
    go_ret
    exact madeSrc_mk HD.out rfl
  have d0 : decide (c < 0) = false := decide_eq_false h0
  by_cases h1 : 1114111 < c
  · have hd : runeCells c = [.int .u8 239, .int .u8 191, .int .u8 189] := by unfold runeCells; rw [Lib.encodeRuneZ_bad (.inr (.inr h1))]; rfl
    have d1 : decide (1114111 < c) = true := decide_eq_true h1
    have HD := Lib.hid hd
    clear hd a0 h0 h1
    go_enter Tryd.func80, Tryd.ntmps80
    go_wp2_with fail
    go_ret
    exact madeSrc_mk HD.out rfl
  have d1 : decide (1114111 < c) = false := decide_eq_false h1
  by_cases h2 : 55296 ≤ c ∧ c ≤ 57343
  · have hd : runeCells c = [.int .u8 239, .int .u8 191, .int .u8 189] := by unfold runeCells; rw [Lib.encodeRuneZ_bad (.inr (.inl h2))]; rfl
    have d2 : decide (55296 ≤ c) = true := decide_eq_true h2.1
    have d3 : decide (c ≤ 57343) = true := decide_eq_true h2.2
    have HD := Lib.hid hd
    clear hd a0 h0 h1 h2
    go_enter Tryd.func80, Tryd.ntmps80
    go_wp2_with fail
    go_ret
    exact madeSrc_mk HD.out rfl
  by_cases h3 : c < 128
  · have hd : runeCells c = [.int .u8 c] := by unfold runeCells; rw [Lib.encodeRuneZ_one (by omega) (by omega)]; rfl
    have d2 : decide (55296 ≤ c) = false := decide_eq_false (by omega)
    have d4 : decide (c < 128) = true := decide_eq_true h3
    have hc0 : 0 ≤ c := by omega
    have hc1 : c ≤ 127 := by omega
    have HD := Lib.hid hd
    clear hd a0 h0 h1 h2 h3
    go_enter Tryd.func80, Tryd.ntmps80
    go_wp2_with fail
    go_ret
    exact madeSrc_mk HD.out rfl
  have d4 : decide (c < 128) = false := decide_eq_false h3
  by_cases h4 : c < 2048
  · have hd : runeCells c = [.int .u8 (192 + c / 64), .int .u8 (128 + c % 64)] := by unfold runeCells; rw [Lib.encodeRuneZ_two (by omega) (by omega)]; rfl
    have d2 : decide (55296 ≤ c) = false := decide_eq_false (by omega)
    have d5 : decide (c < 2048) = true := decide_eq_true h4
    have hc0 : 0 ≤ c := by omega
    have hc1 : c ≤ 2047 := by omega
    have HD := Lib.hid hd
    clear hd a0 h0 h1 h2 h3 h4
    go_enter Tryd.func80, Tryd.ntmps80
    go_wp2_with fail
    go_ret
    exact madeSrc_mk HD.out rfl
  have d5 : decide (c < 2048) = false := decide_eq_false h4
  by_cases h5 : c < 65536
  · have hd : runeCells c = [.int .u8 (224 + c / 4096), .int .u8 (128 + c / 64 % 64), .int .u8 (128 + c % 64)] := by unfold runeCells; rw [Lib.encodeRuneZ_three (by omega)]; rfl
    have d6 : decide (c < 65536) = true := decide_eq_true h5
    have hc0 : 0 ≤ c := by omega
    have hc1 : c ≤ 65535 := by omega
    have HD := Lib.hid hd
    have hc3 : decide (55296 ≤ c) = false ∨ (decide (55296 ≤ c) = true ∧ decide (c ≤ 57343) = false) := by
      by_cases h : 55296 ≤ c
      · exact .inr ⟨decide_eq_true h, decide_eq_false (by omega)⟩
      · exact .inl (decide_eq_false h)
    clear hd a0 h0 h1 h2 h3 h4 h5
    rcases hc3 with d2 | ⟨d2, d3⟩
    all_goals
      go_enter Tryd.func80, Tryd.ntmps80
      go_wp2_with fail
      go_ret
      exact madeSrc_mk HD.out rfl
  · have hd : runeCells c = [.int .u8 (240 + c / 262144), .int .u8 (128 + c / 4096 % 64), .int .u8 (128 + c / 64 % 64), .int .u8 (128 + c % 64)] := by unfold runeCells; rw [Lib.encodeRuneZ_four (by omega) (by omega)]; rfl
    have d6 : decide (c < 65536) = false := decide_eq_false h5
    have d2 : decide (55296 ≤ c) = true := decide_eq_true (by omega)
    have d3 : decide (c ≤ 57343) = false := decide_eq_false (by omega)
    have hc0 : 0 ≤ c := by omega
    have hc1 : c ≤ 1114111 := by omega
    have HD := Lib.hid hd
    clear hd a0 h0 h1 h2 h3 h4 h5
    go_enter Tryd.func80, Tryd.ntmps80
    go_wp2_with fail
    go_ret
    exact madeSrc_mk HD.out rfl
end Go.Proofs.YtelhdkidnhfnbaaDoor
