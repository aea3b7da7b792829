/-
  Blanks, beginnings and marks of documents: the document's (newsstandref08.blank, blanks, has, find, upto), and the program's blank. Conditions: lengths.
-/
import Derived.Test.YtelhdkidnhfnbaaDoorXRefN
import Derived.Test.YtelhdkidnhfnbaaDoorMgD
namespace Go.Proofs.YtelhdkidnhfnbaaDoor
open Go.RowKit

def blkB (c : Int) : Bool := (((c == 9) || (c == 10)) || (c == 13)) || (c == 32)
def hasB (l m : List UInt8) : Bool := l.take m.length == m
/-- Where m stands first. -/
def findI (m : List UInt8) : List UInt8 → Option Nat
  | [] => if m = [] then some 0 else none
  | b :: t => if (b :: t).take m.length = m then some 0 else (findI m t).map (· + 1)
def findZ : Option Nat → Int
  | some n => (n : Int)
  | none => -1
theorem findI_yes {m l : List UInt8} (h : l.take m.length = m) : findI m l = some 0 := by
  cases l with
  | nil =>
    have : m = [] := by rw [List.take_nil] at h; exact h.symm
    unfold findI
    rw [if_pos this]
  | cons b t => unfold findI; rw [if_pos h]
theorem findI_short {m : List UInt8} : ∀ l : List UInt8, l.length < m.length → findI m l = none
  | [], h => by
    unfold findI
    rw [if_neg (fun e => by rw [e] at h; cases h)]
  | b :: t, h => by
    unfold findI
    rw [if_neg (fun e => by
      have := congrArg List.length e
      rw [List.length_take] at this
      omega), findI_short t (by rw [List.length_cons] at h; omega)]
    rfl
theorem findI_next {m l : List UInt8} {k : Nat} (hk : k < l.length) (h : ¬ (l.drop k).take m.length = m) : findI m (l.drop k) = (findI m (l.drop (k + 1))).map (· + 1) := by
  rw [drop_cons hk] at h ⊢
  conv => lhs; unfold findI
  rw [if_neg h]
theorem findI_le {m : List UInt8} : ∀ (l : List UInt8) (n : Nat), findI m l = some n → n + m.length ≤ l.length
  | [], n, h => by
    unfold findI at h
    by_cases hm : m = []
    · rw [if_pos hm] at h
      injection h with h
      rw [hm, ← h]
      exact Nat.le_refl _
    · rw [if_neg hm] at h
      cases h
  | b :: t, n, h => by
    unfold findI at h
    by_cases hm : (b :: t).take m.length = m
    · rw [if_pos hm] at h
      injection h with h
      have := congrArg List.length hm
      rw [List.length_take] at this
      omega
    · rw [if_neg hm] at h
      cases hf : findI m t with
      | none => rw [hf] at h; cases h
      | some j =>
        rw [hf] at h
        have h2 : j + 1 = n := by injection h
        have := findI_le t j hf
        rw [List.length_cons]
        omega
theorem xblank_any (c : Int) (w : World) : Calls Tryd.prog 75 #[.int .i32 c] w (Pure w (.bool (blkB c))) := by
  by_cases c9 : c = 9
  · subst c9
    go_enter Tryd.func75, Tryd.ntmps75
    go_wp2_with fail
    go_ret
    exact ⟨rfl, rfl⟩
  · have d9 : (c == 9) = false := by simpa using c9
    by_cases c10 : c = 10
    · subst c10
      go_enter Tryd.func75, Tryd.ntmps75
      go_wp2_with fail
      go_ret
      exact ⟨rfl, rfl⟩
    · have d10 : (c == 10) = false := by simpa using c10
      by_cases c13 : c = 13
      · subst c13
        go_enter Tryd.func75, Tryd.ntmps75
        go_wp2_with fail
        go_ret
        exact ⟨rfl, rfl⟩
      · have d13 : (c == 13) = false := by simpa using c13
        by_cases c32 : c = 32
        · subst c32
          go_enter Tryd.func75, Tryd.ntmps75
          go_wp2_with fail
          go_ret
          exact ⟨rfl, rfl⟩
        · have d32 : (c == 32) = false := by simpa using c32
          unfold blkB
          rw [d9, d10, d13, d32]
          go_enter Tryd.func75, Tryd.ntmps75
          go_wp2_with fail
          go_ret
          exact ⟨rfl, rfl⟩
theorem rblk_any (c : Int) (w : World) : Calls Tryd.prog 68 #[.int .u8 c] w (Pure w (.bool (blkB c))) := by
  by_cases c9 : c = 9
  · subst c9
    go_enter Tryd.func68, Tryd.ntmps68
    go_wp2_with fail
    go_ret
    exact ⟨rfl, rfl⟩
  · have d9 : (c == 9) = false := by simpa using c9
    by_cases c10 : c = 10
    · subst c10
      go_enter Tryd.func68, Tryd.ntmps68
      go_wp2_with fail
      go_ret
      exact ⟨rfl, rfl⟩
    · have d10 : (c == 10) = false := by simpa using c10
      by_cases c13 : c = 13
      · subst c13
        go_enter Tryd.func68, Tryd.ntmps68
        go_wp2_with fail
        go_ret
        exact ⟨rfl, rfl⟩
      · have d13 : (c == 13) = false := by simpa using c13
        by_cases c32 : c = 32
        · subst c32
          go_enter Tryd.func68, Tryd.ntmps68
          go_wp2_with fail
          go_ret
          exact ⟨rfl, rfl⟩
        · have d32 : (c == 32) = false := by simpa using c32
          unfold blkB
          rw [d9, d10, d13, d32]
          go_enter Tryd.func68, Tryd.ntmps68
          go_wp2_with fail
          go_ret
          exact ⟨rfl, rfl⟩
theorem rhas_any (l m : List UInt8) (w : World) : Calls Tryd.prog 47 #[.string (str l), .string (str m)] w (Pure w (.bool (hasB l m))) := by
  unfold hasB
  by_cases h : (m.length : Int) ≤ (l.length : Int)
  · have hd : decide ((m.length : Int) ≤ (l.length : Int)) = true := decide_eq_true h
    have s1 := slf l m.length (by omega)
    cases he : l.take m.length == m with
    | true =>
      generalize l.take m.length = T at *
      have he2 : T = m := by simpa using he
      subst he2
      clear he
      go_enter Tryd.func47, Tryd.ntmps47
      go_wp2_with fail
      go_ret
      exact ⟨rfl, rfl⟩
    | false =>
      generalize l.take m.length = T at *
      have he2 : (m == T) = false := by
        have hne : ¬ T = m := by simpa using he
        simpa using fun e : m = T => hne e.symm
      go_enter Tryd.func47, Tryd.ntmps47
      go_wp2_with fail
      go_ret
      exact ⟨rfl, rfl⟩
  · have hd : decide ((m.length : Int) ≤ (l.length : Int)) = false := decide_eq_false h
    have hv : (l.take m.length == m) = false := by
      have hne : ¬ l.take m.length = m := fun e => by have := congrArg List.length e; rw [List.length_take] at this; omega
      simpa using hne
    rw [hv]
    clear hv
    go_enter Tryd.func47, Tryd.ntmps47
    go_wp2_with fail
    go_ret
    exact ⟨rfl, rfl⟩
def dropB (l : List UInt8) : List UInt8 := l.dropWhile fun b => blkB (b.toNat : Int)
theorem dropB_next {l : List UInt8} {k : Nat} (hk : k < l.length) (h : blkB (l[k].toNat : Int) = true) : dropB (l.drop k) = dropB (l.drop (k + 1)) := by
  rw [drop_cons hk]
  unfold dropB
  rw [List.dropWhile_cons_of_pos (by exact h)]
theorem dropB_stop {l : List UInt8} {k : Nat} (hk : k < l.length) (h : blkB (l[k].toNat : Int) = false) : dropB (l.drop k) = l.drop k := by
  rw [drop_cons hk]
  unfold dropB
  rw [List.dropWhile_cons_of_neg (by rw [h]; decide)]
def RBlRel (l : List UInt8) (u : Value) : Prop := ∃ k : Nat, k ≤ l.length ∧ dropB l = dropB (l.drop k) ∧ u = .int .i64 (k : Int)
set_option maxHeartbeats 800000 in
theorem rblanks_any (l : List UInt8) (w : World) (hl : l.length ≤ 1099511627776) : Calls Tryd.prog 49 #[.string (str l)] w (Pure w (.string (str (dropB l)))) := by
  go_enter Tryd.func49, Tryd.ntmps49
  go_wp2_with fail
  go_loop [3] (RBlRel l) (fun u => l.length - (intOf u).toNat)
  case atStart => exact ⟨0, Nat.zero_le _, rfl, rfl⟩
  case round =>
    obtain ⟨k, hk, hal, rfl⟩ := hrel
    have s2 := slt l k hk
    by_cases hkl : k < l.length
    · have hkI : (k : Int) < (l.length : Int) := by omega
      have hky := idx_at l k hkl
      have hyy : at0B l k = l[k].toNat := by unfold at0B; rw [show l.getD k 0 = l[k] by simp [List.getD, hkl]]
      rw [hyy] at hky
      have km := fun W => rblk_any (l[k].toNat : Int) W
      cases hm : blkB (l[k].toNat : Int) with
      | false =>
        have HX := Lib.hid (hal.trans (dropB_stop hkl hm))
        rw [hm] at km
        generalize ((l[k].toNat : Nat) : Int) = y at *
        have KM := Lib.hid km
        clear km hm hal hyy
        go_wp2_with (go_at_call 68; refine (KM.out _).mono ?_; rintro e w' ⟨rfl, rfl⟩)
        go_ret
        exact ⟨by rw [HX.out]; rfl, rfl⟩
      | true =>
        have HX := Lib.hid (hal.trans (dropB_next hkl hm))
        rw [hm] at km
        generalize ((l[k].toNat : Nat) : Int) = y at *
        have KM := Lib.hid km
        clear km hm hal hyy
        go_wp2_with (go_at_call 68; refine (KM.out _).mono ?_; rintro e w' ⟨rfl, rfl⟩)
        go_round
        case rel => exact ⟨k + 1, by omega, HX.out, by go_num⟩
        case measure => simp [intOf]; omega
    · have hke : decide ((k : Int) < (l.length : Int)) = false := decide_eq_false (by omega)
      have HX : Hid (dropB l = l.drop k) := Lib.hid (by rw [hal, List.drop_of_length_le (by omega)]; rfl)
      clear hal
      go_wp2_with fail
      go_ret
      exact ⟨by rw [HX.out]; rfl, rfl⟩
def RFdRel (l m : List UInt8) (u : Value) : Prop := ∃ k : Nat, k ≤ l.length + 1 ∧ (k ≤ l.length → findI m l = (findI m (l.drop k)).map (· + k)) ∧ (l.length < k → findI m l = none) ∧ u = .int .i64 (k : Int)
set_option maxHeartbeats 800000 in
theorem rfind_any (l m : List UInt8) (w : World) (hl : l.length ≤ 1099511627776) (hm : m.length ≤ 1000) (hm1 : 1 ≤ m.length) : Calls Tryd.prog 45 #[.string (str l), .string (str m)] w (Pure w (.int .i64 (findZ (findI m l)))) := by
  go_enter Tryd.func45, Tryd.ntmps45
  go_wp2_with fail
  go_loop [5] (RFdRel l m) (fun u => l.length + 1 - (intOf u).toNat)
  case atStart => exact ⟨0, Nat.zero_le _, fun _ => by cases h : findI m l <;> simp [h], fun h => absurd h (by omega), rfl⟩
  case round =>
    obtain ⟨k, hk, hal, hno, rfl⟩ := hrel
    by_cases hkl : (k : Int) + (m.length : Int) ≤ (l.length : Int)
    · have hkd : decide ((k : Int) + (m.length : Int) ≤ (l.length : Int)) = true := decide_eq_true hkl
      have s1 := slc l k (k + m.length) (by omega) (by omega)
      rw [show ((k + m.length : Nat) : Int) = (k : Int) + (m.length : Int) from rfl, show k + m.length - k = m.length by omega] at s1
      by_cases he : (l.drop k).take m.length = m
      · have HX : Hid (findZ (findI m l) = (k : Int)) := Lib.hid (by rw [hal (by omega), findI_yes he]; show ((0 + k : Nat) : Int) = (k : Int); rw [Nat.zero_add])
        rw [he] at s1
        clear hal hno he
        go_wp2_with fail
        go_ret
        exact ⟨by rw [HX.out]; rfl, rfl⟩
      · have HX : Hid (findI m l = (findI m (l.drop (k + 1))).map (· + (k + 1))) := Lib.hid (by
          rw [hal (by omega), findI_next (by omega) he]
          cases findI m (l.drop (k + 1)) with
          | none => rfl
          | some j => show some (j + 1 + k) = some (j + (k + 1)); congr 1; omega)
        generalize (l.drop k).take m.length = T at *
        have e1 : (T == m) = false := by simpa using he
        have e2 : (m == T) = false := by simpa using fun e : m = T => he e.symm
        clear hal hno he
        go_wp2_with fail
        go_round
        case rel => exact ⟨k + 1, by omega, fun _ => HX.out, fun h => absurd h (by omega), by go_num⟩
        case measure => simp [intOf]; omega
    · have hkd : decide ((k : Int) + (m.length : Int) ≤ (l.length : Int)) = false := decide_eq_false hkl
      have HX : Hid (findI m l = none) := Lib.hid (by
        by_cases hkk : k ≤ l.length
        · rw [hal hkk, findI_short _ (by rw [List.length_drop]; omega)]; rfl
        · exact hno (by omega))
      clear hal hno
      go_wp2_with fail
      go_ret
      exact ⟨by rw [HX.out]; rfl, rfl⟩
/-- What stands behind a mark up to another, the rest behind that, whether it is there. -/
def uptoV (l a b : List UInt8) : List UInt8 × List UInt8 × Bool := match findI b (l.drop a.length) with
  | some n => ((l.drop a.length).take n, l.drop (a.length + n + b.length), true)
  | none => ([], [], false)
set_option maxHeartbeats 800000 in
theorem rupto_any (l a b : List UInt8) (w : World) (hl : l.length ≤ 1099511627776) (ha : a.length ≤ l.length) (hb : b.length ≤ 1000) (hb1 : 1 ≤ b.length) : Calls Tryd.prog 48 #[.string (str l), .string (str a), .string (str b)] w (Made w (.tuple #[.string (str (uptoV l a b).1), .string (str (uptoV l a b).2.1), .bool (uptoV l a b).2.2])) := by
  have s0 := slt l a.length ha
  have kf := fun W => rfind_any (l.drop a.length) b W (by rw [List.length_drop]; omega) hb hb1
  have hle := findI_le (m := b) (l.drop a.length)
  rw [List.length_drop] at hle
  unfold uptoV
  generalize hD : l.drop a.length = D at *
  cases hf : findI b D with
  | none =>
    rw [hf] at kf
    have KF := Lib.hid kf
    clear kf hle hf hD
    go_enter Tryd.func48, Tryd.ntmps48
    go_wp2_with fail
    refine (KF.out _).mono ?_
    unfold findZ
    rintro e w' ⟨rfl, rfl⟩
    go_wp2_with fail
    go_ret3
    exact ⟨rfl, Below.refl _ _⟩
  | some n =>
    have hn := hle n hf
    rw [hf] at kf
    have KF := Lib.hid kf
    have s1 := slc l a.length (a.length + n) (by omega) (by omega)
    rw [show ((a.length + n : Nat) : Int) = (a.length : Int) + (n : Int) from rfl, show a.length + n - a.length = n by omega, hD] at s1
    have s2 := slt l (a.length + n + b.length) (by omega)
    rw [show ((a.length + n + b.length : Nat) : Int) = (a.length : Int) + (n : Int) + (b.length : Int) from rfl] at s2
    clear kf hle hf hD
    go_enter Tryd.func48, Tryd.ntmps48
    go_wp2_with fail
    refine (KF.out _).mono ?_
    unfold findZ
    rintro e w' ⟨rfl, rfl⟩
    go_wp2_with fail
    go_quiet (fail)
    go_wp2_with fail
    go_ret3
    exact ⟨rfl, below_drewN (Below.refl _ _) _⟩
end Go.Proofs.YtelhdkidnhfnbaaDoor

/-
  The reader's take (xml): the runes that stand first of a kind. Condition: the reader lies in memory, four cells.
-/
namespace Go.Proofs.YtelhdkidnhfnbaaDoor
open Go.RowKit
open Go.Lib (decodeL encodeRune)

/-- The reader: what is left, its tokens, its Builder's two cells. -/
def RdrAt (w : World) (g : Nat) (l : List UInt8) (tk p bf : Value) : Prop := Blk w g 45 #[.string (str l), tk, p, bf]
def KeepsR (g : Nat) (w w' : World) : Prop := w.grownBy w' (some g)
theorem KeepsR.trans {g : Nat} {a b c : World} (h : KeepsR g a b) (k : KeepsR g b c) : KeepsR g a c :=
  ⟨k.os.trans h.os, k.tape.trans h.tape, k.output.trans h.output, Nat.le_trans h.size k.size, fun x hx hne => (k.block x (Nat.lt_of_lt_of_le hx h.size) hne).trans (h.block x hx hne)⟩
/-- A kind of runes that is seen by bytes. -/
def ByByte (p : Int → Bool) (pb : UInt8 → Bool) : Prop := ∀ (l : List UInt8) (k : Nat) (h : k < l.length), if p ((decodeL (l.drop k)).1 : Int) = true then ((l.drop k).take (decodeL (l.drop k)).2).all pb = true else pb l[k] = false
theorem bybyte_low {p : Int → Bool} (hp : ∀ c, p c = true → 0 ≤ c ∧ c < 128) : ByByte p (fun b : UInt8 => p (b.toNat : Int)) := by
  intro l k h
  have hk := dec_kind hp h
  by_cases hc : p ((decodeL (l.drop k)).1 : Int) = true
  · rw [if_pos hc]
    have := hp _ hc
    obtain ⟨h1, h2⟩ := dec_low_at h (by omega)
    rw [h1, drop_cons h, List.take_succ_cons, List.take_zero, List.all_cons, List.all_nil, hk, hc]
    rfl
  · rw [if_neg hc]
    show p (l[k].toNat : Int) = false
    rw [hk]
    simpa using hc
/-- All but one sign of ASCII. -/
theorem bybyte_not (n : Nat) (hn : n < 128) : ByByte (fun c => c != (n : Int)) (fun b : UInt8 => b.toNat != n) := by
  intro l k h
  have hk := @dec_kind (fun c => c == (n : Int)) (fun c hc => by
    have h0 : c = (n : Int) := by simpa using hc
    omega) l k h
  by_cases hc : (((decodeL (l.drop k)).1 : Int) != (n : Int)) = true
  · rw [if_pos hc]
    by_cases hlo : (decodeL (l.drop k)).1 < 128
    · obtain ⟨h1, h2⟩ := dec_low_at h hlo
      rw [h1, drop_cons h, List.take_succ_cons, List.take_zero, List.all_cons, List.all_nil, h2, Bool.and_true]
      have h5 : ¬ ((decodeL (l.drop k)).1 : Int) = (n : Int) := by simpa using hc
      have h6 : ¬ (decodeL (l.drop k)).1 = n := by omega
      simpa using h6
    · rw [List.all_eq_true]
      intro x hx
      rw [drop_cons h] at hlo hx
      by_cases hb : l[k].toNat < 128
      · rw [Lib.decodeL_ascii _ _ hb] at hlo
        exact (hlo hb).elim
      · have := (dec_high l[k] (l.drop (k + 1)) hb).2 x hx
        have hne : ¬ x.toNat = n := by omega
        simpa using hne
  · rw [if_neg hc]
    have he : ((decodeL (l.drop k)).1 : Int) = (n : Int) := by simpa using hc
    have h2 : ((l[k].toNat : Int) == (n : Int)) = true := by rw [hk]; simpa using he
    have h3 : (l[k].toNat : Int) = (n : Int) := by simpa using h2
    have h4 : l[k].toNat = n := by omega
    show (l[k].toNat != n) = false
    rw [h4]
    simp
def TakeV (w : World) (g : Nat) (l : List UInt8) (tk p bf : Value) (pb : UInt8 → Bool) (e : Ending) (w' : World) : Prop :=
  e = .returned (.string (str (l.takeWhile pb))) ∧ RdrAt w' g (l.dropWhile pb) tk p bf ∧ KeepsR g w w'
theorem tk_split (pb : UInt8 → Bool) (l : List UInt8) {k : Nat} (hk : k ≤ l.length) (ha : (l.take k).all pb = true) (hn : ∀ h : k < l.length, pb l[k] = false) : l.takeWhile pb = l.take k ∧ l.dropWhile pb = l.drop k := by
  have h1 := tw_at pb l k hk ha hn
  have h2 : l.takeWhile pb = l.take k := by
    have := List.takeWhile_append_dropWhile (p := pb) (l := l)
    have h3 := congrArg (List.take k) this
    rw [List.take_left' h1] at h3
    exact h3
  refine ⟨h2, ?_⟩
  have := List.takeWhile_append_dropWhile (p := pb) (l := l)
  have h3 := congrArg (List.drop k) this
  rw [List.drop_left' h1] at h3
  exact h3
theorem part1_any (c : Int) (w : World) : Calls Tryd.prog 42 #[.int .i32 c] w (Pure w (.bool (c != ((60 : Nat) : Int)))) := by
  by_cases h : c = 60
  · subst h
    go_enter Tryd.func42, Tryd.ntmps42
    go_wp2_with fail
    go_ret
    exact ⟨rfl, rfl⟩
  · have hd : (c != 60) = true := by simpa using h
    rw [show ((60 : Nat) : Int) = 60 from rfl, hd]
    go_enter Tryd.func42, Tryd.ntmps42
    go_wp2_with fail
    go_ret
    exact ⟨rfl, rfl⟩
def XTkRel (l : List UInt8) (w : World) (pb : UInt8 → Bool) (u : Value) (W : World) : Prop := ∃ k : Nat, k ≤ l.length ∧ (l.take k).all pb = true ∧ u = .string (str l) ∧ W = w.iter (str l) k
theorem blk_low (c : Int) (h : blkB c = true) : 0 ≤ c ∧ c < 128 := by
  unfold blkB at h
  simp only [Bool.or_eq_true, beq_iff_eq] at h
  omega
set_option maxHeartbeats 1600000 in
theorem take_blank {w : World} {g : Nat} {l : List UInt8} {tk p bf : Value} (hr : RdrAt w g l tk p bf) : Calls Tryd.prog 41 #[.pointer (some ⟨g, 0, none⟩), .func (.func 75) #[] #[]] w (TakeV w g l tk p bf (fun b : UInt8 => blkB (b.toNat : Int))) := by
  have hbb : ByByte blkB (fun b : UInt8 => blkB (b.toNat : Int)) := bybyte_low blk_low
  obtain ⟨pb, hpb⟩ : ∃ pb : UInt8 → Bool, pb = (fun b : UInt8 => blkB (b.toNat : Int)) := ⟨_, rfl⟩
  rw [← hpb] at hbb ⊢
  obtain ⟨q, hq⟩ : ∃ q : Int → Bool, q = blkB := ⟨_, rfl⟩
  have kq : ∀ (c : Int) (W : World), Calls Tryd.prog 75 #[.int .i32 c] W (Pure W (.bool (q c))) := fun c W => by rw [hq]; exact xblank_any c W
  rw [← hq] at hbb
  have HR := Lib.hid hr
  have c0 : w.cell? ⟨g, 0, none⟩ = some (.string (str l)) := hr.cell 0
  have ci : ∀ k, (w.iter (str l) k).cell? ⟨g, 0, none⟩ = some (.string (str l)) := fun k => (hr.alloc _).cell 0
  have fi : ∀ k, (w.iter (str l) k).frozen? ⟨g, 0, none⟩ = false := fun k => (hr.alloc _).free 0
  have KQ := Lib.hid kq
  have HBB := Lib.hid hbb
  clear hr kq hbb hq hpb
  go_enter Tryd.func41, Tryd.ntmps41
  go_wp2_with fail
  go_loopw [5] (XTkRel l w pb) (fun _ wr => l.length - wr.iterPos w.heap.size)
  case atStart => exact ⟨0, Nat.zero_le _, rfl, rfl, rfl⟩
  case round =>
    obtain ⟨k, hk, hal, rfl, rfl⟩ := hrel
    have cik := ci k
    have fik := fi k
    have s1 := slt l (l.take k).length (by rw [List.length_take]; omega)
    have hlt : (l.take k).length = k := by rw [List.length_take]; omega
    by_cases hkl : k < l.length
    · have hnx := fun ty => nxt_it w l k ty hkl
      have hbk := HBB.out l k hkl
      have hd := dec_on hkl
      have s0 := slf l k hk
      have HTA : Hid (∀ d, (l.take (k + d)) = l.take k ++ (l.drop k).take d) := Lib.hid (fun d => List.take_add)
      have cin := ci (k + (decodeL (l.drop k)).2)
      have fin_ := fi (k + (decodeL (l.drop k)).2)
      generalize decodeL (l.drop k) = dd at *
      have kc := fun W => KQ.out (dd.1 : Int) W
      cases hi : q (dd.1 : Int) with
      | false =>
        rw [hi] at kc
        rw [hi, if_neg Bool.false_ne_true] at hbk
        have HS := Lib.hid (tk_split pb l hk hal (fun _ => hbk))
        have KC := Lib.hid kc
        have HLT := Lib.hid hlt
        rw [hlt] at s1
        have hl1 : (l.take k).length = k := hlt
        generalize hT : l.take k = T at *
        clear kc hbk hi hal hlt hd hT
        go_wp2_with (go_at_call 75; refine (KC.out _).mono ?_; rintro e w' ⟨rfl, rfl⟩)
        go_ret
        exact ⟨by rw [HS.out.1]; rfl, by rw [HS.out.2]; exact ((HR.out.alloc _).set 0 _), KeepsR.trans (World.grownBy_alloc w _ _) (grown_set _ g 0 _)⟩
      | true =>
        rw [hi] at kc
        rw [hi, if_pos rfl] at hbk
        have HA : Hid ((l.take (k + dd.2)).all pb = true) := Lib.hid (by rw [HTA.out, List.all_append, hal, hbk]; rfl)
        have KC := Lib.hid kc
        clear kc hbk hi hal hlt s1
        go_wp2_with (go_at_call 75; refine (KC.out _).mono ?_; rintro e w' ⟨rfl, rfl⟩)
        go_roundw
        case rel => exact ⟨k + dd.2, hd.2, HA.out, rfl, rfl⟩
        case measure => simp; omega
    · have hnx := fun ty => nxt_itno w l k ty hkl
      have hke : k = l.length := by omega
      subst hke
      have HS := Lib.hid (tk_split pb l hk hal (fun h => absurd h (by omega)))
      rw [List.take_length, List.drop_length] at HS
      rw [List.take_length] at s1 hal
      clear hal hlt
      go_wp2_with fail
      go_ret
      exact ⟨by rw [HS.out.1]; rfl, by rw [HS.out.2]; exact ((HR.out.alloc _).set 0 _), KeepsR.trans (World.grownBy_alloc w _ _) (grown_set _ g 0 _)⟩
set_option maxHeartbeats 1600000 in
theorem take_in {w : World} {g : Nat} {l : List UInt8} {tk p bf : Value} (hr : RdrAt w g l tk p bf) : Calls Tryd.prog 41 #[.pointer (some ⟨g, 0, none⟩), .func (.func 28) #[] #[]] w (TakeV w g l tk p bf (fun b : UInt8 => inN (b.toNat : Int))) := by
  have hbb : ByByte inN (fun b : UInt8 => inN (b.toNat : Int)) := bybyte_low in_low
  obtain ⟨pb, hpb⟩ : ∃ pb : UInt8 → Bool, pb = (fun b : UInt8 => inN (b.toNat : Int)) := ⟨_, rfl⟩
  rw [← hpb] at hbb ⊢
  obtain ⟨q, hq⟩ : ∃ q : Int → Bool, q = inN := ⟨_, rfl⟩
  have kq : ∀ (c : Int) (W : World), Calls Tryd.prog 28 #[.int .i32 c] W (Pure W (.bool (q c))) := fun c W => by rw [hq]; exact xin_any c W
  rw [← hq] at hbb
  have HR := Lib.hid hr
  have c0 : w.cell? ⟨g, 0, none⟩ = some (.string (str l)) := hr.cell 0
  have ci : ∀ k, (w.iter (str l) k).cell? ⟨g, 0, none⟩ = some (.string (str l)) := fun k => (hr.alloc _).cell 0
  have fi : ∀ k, (w.iter (str l) k).frozen? ⟨g, 0, none⟩ = false := fun k => (hr.alloc _).free 0
  have KQ := Lib.hid kq
  have HBB := Lib.hid hbb
  clear hr kq hbb hq hpb
  go_enter Tryd.func41, Tryd.ntmps41
  go_wp2_with fail
  go_loopw [5] (XTkRel l w pb) (fun _ wr => l.length - wr.iterPos w.heap.size)
  case atStart => exact ⟨0, Nat.zero_le _, rfl, rfl, rfl⟩
  case round =>
    obtain ⟨k, hk, hal, rfl, rfl⟩ := hrel
    have cik := ci k
    have fik := fi k
    have s1 := slt l (l.take k).length (by rw [List.length_take]; omega)
    have hlt : (l.take k).length = k := by rw [List.length_take]; omega
    by_cases hkl : k < l.length
    · have hnx := fun ty => nxt_it w l k ty hkl
      have hbk := HBB.out l k hkl
      have hd := dec_on hkl
      have s0 := slf l k hk
      have HTA : Hid (∀ d, (l.take (k + d)) = l.take k ++ (l.drop k).take d) := Lib.hid (fun d => List.take_add)
      have cin := ci (k + (decodeL (l.drop k)).2)
      have fin_ := fi (k + (decodeL (l.drop k)).2)
      generalize decodeL (l.drop k) = dd at *
      have kc := fun W => KQ.out (dd.1 : Int) W
      cases hi : q (dd.1 : Int) with
      | false =>
        rw [hi] at kc
        rw [hi, if_neg Bool.false_ne_true] at hbk
        have HS := Lib.hid (tk_split pb l hk hal (fun _ => hbk))
        have KC := Lib.hid kc
        have HLT := Lib.hid hlt
        rw [hlt] at s1
        have hl1 : (l.take k).length = k := hlt
        generalize hT : l.take k = T at *
        clear kc hbk hi hal hlt hd hT
        go_wp2_with (go_at_call 28; refine (KC.out _).mono ?_; rintro e w' ⟨rfl, rfl⟩)
        go_ret
        exact ⟨by rw [HS.out.1]; rfl, by rw [HS.out.2]; exact ((HR.out.alloc _).set 0 _), KeepsR.trans (World.grownBy_alloc w _ _) (grown_set _ g 0 _)⟩
      | true =>
        rw [hi] at kc
        rw [hi, if_pos rfl] at hbk
        have HA : Hid ((l.take (k + dd.2)).all pb = true) := Lib.hid (by rw [HTA.out, List.all_append, hal, hbk]; rfl)
        have KC := Lib.hid kc
        clear kc hbk hi hal hlt s1
        go_wp2_with (go_at_call 28; refine (KC.out _).mono ?_; rintro e w' ⟨rfl, rfl⟩)
        go_roundw
        case rel => exact ⟨k + dd.2, hd.2, HA.out, rfl, rfl⟩
        case measure => simp; omega
    · have hnx := fun ty => nxt_itno w l k ty hkl
      have hke : k = l.length := by omega
      subst hke
      have HS := Lib.hid (tk_split pb l hk hal (fun h => absurd h (by omega)))
      rw [List.take_length, List.drop_length] at HS
      rw [List.take_length] at s1 hal
      clear hal hlt
      go_wp2_with fail
      go_ret
      exact ⟨by rw [HS.out.1]; rfl, by rw [HS.out.2]; exact ((HR.out.alloc _).set 0 _), KeepsR.trans (World.grownBy_alloc w _ _) (grown_set _ g 0 _)⟩
set_option maxHeartbeats 1600000 in
theorem take_text {w : World} {g : Nat} {l : List UInt8} {tk p bf : Value} (hr : RdrAt w g l tk p bf) : Calls Tryd.prog 41 #[.pointer (some ⟨g, 0, none⟩), .func (.func 42) #[] #[]] w (TakeV w g l tk p bf (fun b : UInt8 => b.toNat != 60)) := by
  have hbb : ByByte (fun c => c != ((60 : Nat) : Int)) (fun b : UInt8 => b.toNat != 60) := bybyte_not 60 (by decide)
  obtain ⟨pb, hpb⟩ : ∃ pb : UInt8 → Bool, pb = (fun b : UInt8 => b.toNat != 60) := ⟨_, rfl⟩
  rw [← hpb] at hbb ⊢
  obtain ⟨q, hq⟩ : ∃ q : Int → Bool, q = (fun c => c != ((60 : Nat) : Int)) := ⟨_, rfl⟩
  have kq : ∀ (c : Int) (W : World), Calls Tryd.prog 42 #[.int .i32 c] W (Pure W (.bool (q c))) := fun c W => by rw [hq]; exact part1_any c W
  rw [← hq] at hbb
  have HR := Lib.hid hr
  have c0 : w.cell? ⟨g, 0, none⟩ = some (.string (str l)) := hr.cell 0
  have ci : ∀ k, (w.iter (str l) k).cell? ⟨g, 0, none⟩ = some (.string (str l)) := fun k => (hr.alloc _).cell 0
  have fi : ∀ k, (w.iter (str l) k).frozen? ⟨g, 0, none⟩ = false := fun k => (hr.alloc _).free 0
  have KQ := Lib.hid kq
  have HBB := Lib.hid hbb
  clear hr kq hbb hq hpb
  go_enter Tryd.func41, Tryd.ntmps41
  go_wp2_with fail
  go_loopw [5] (XTkRel l w pb) (fun _ wr => l.length - wr.iterPos w.heap.size)
  case atStart => exact ⟨0, Nat.zero_le _, rfl, rfl, rfl⟩
  case round =>
    obtain ⟨k, hk, hal, rfl, rfl⟩ := hrel
    have cik := ci k
    have fik := fi k
    have s1 := slt l (l.take k).length (by rw [List.length_take]; omega)
    have hlt : (l.take k).length = k := by rw [List.length_take]; omega
    by_cases hkl : k < l.length
    · have hnx := fun ty => nxt_it w l k ty hkl
      have hbk := HBB.out l k hkl
      have hd := dec_on hkl
      have s0 := slf l k hk
      have HTA : Hid (∀ d, (l.take (k + d)) = l.take k ++ (l.drop k).take d) := Lib.hid (fun d => List.take_add)
      have cin := ci (k + (decodeL (l.drop k)).2)
      have fin_ := fi (k + (decodeL (l.drop k)).2)
      generalize decodeL (l.drop k) = dd at *
      have kc := fun W => KQ.out (dd.1 : Int) W
      cases hi : q (dd.1 : Int) with
      | false =>
        rw [hi] at kc
        rw [hi, if_neg Bool.false_ne_true] at hbk
        have HS := Lib.hid (tk_split pb l hk hal (fun _ => hbk))
        have KC := Lib.hid kc
        have HLT := Lib.hid hlt
        rw [hlt] at s1
        have hl1 : (l.take k).length = k := hlt
        generalize hT : l.take k = T at *
        clear kc hbk hi hal hlt hd hT
        go_wp2_with (go_at_call 42; refine (KC.out _).mono ?_; rintro e w' ⟨rfl, rfl⟩)
        go_ret
        exact ⟨by rw [HS.out.1]; rfl, by rw [HS.out.2]; exact ((HR.out.alloc _).set 0 _), KeepsR.trans (World.grownBy_alloc w _ _) (grown_set _ g 0 _)⟩
      | true =>
        rw [hi] at kc
        rw [hi, if_pos rfl] at hbk
        have HA : Hid ((l.take (k + dd.2)).all pb = true) := Lib.hid (by rw [HTA.out, List.all_append, hal, hbk]; rfl)
        have KC := Lib.hid kc
        clear kc hbk hi hal hlt s1
        go_wp2_with (go_at_call 42; refine (KC.out _).mono ?_; rintro e w' ⟨rfl, rfl⟩)
        go_roundw
        case rel => exact ⟨k + dd.2, hd.2, HA.out, rfl, rfl⟩
        case measure => simp; omega
    · have hnx := fun ty => nxt_itno w l k ty hkl
      have hke : k = l.length := by omega
      subst hke
      have HS := Lib.hid (tk_split pb l hk hal (fun h => absurd h (by omega)))
      rw [List.take_length, List.drop_length] at HS
      rw [List.take_length] at s1 hal
      clear hal hlt
      go_wp2_with fail
      go_ret
      exact ⟨by rw [HS.out.1]; rfl, by rw [HS.out.2]; exact ((HR.out.alloc _).set 0 _), KeepsR.trans (World.grownBy_alloc w _ _) (grown_set _ g 0 _)⟩
end Go.Proofs.YtelhdkidnhfnbaaDoor
