/-
  Blanks, beginnings and marks of documents: the document's (newsstandref08.blank, blanks, has, find, upto), and the program's blank. Conditions: lengths.
-/
import Derived.Test.YtanefcpjbgfgbaaDoorXRefN
namespace Go.Proofs.YtanefcpjbgfgbaaDoor
open Go.RowKit

def blkB (c : Int) : Bool := (((c == 9) || (c == 10)) || (c == 13)) || (c == 32)
def hasB (l m : List UInt8) : Bool := l.take m.length == m
/-- Where m stands first. -/
def findI (m : List UInt8) : List UInt8 → Option Nat
  | [] => if m = [] then some 0 else none
  | b :: t => if (b :: t).take m.length = m then some 0 else (findI m t).map (· + 1)
def findZ : Option Nat → Int
  | some n => (n : Int)
  | none => -1
theorem findI_yes {m l : List UInt8} (h : l.take m.length = m) : findI m l = some 0 := by
  cases l with
  | nil =>
    have : m = [] := by rw [List.take_nil] at h; exact h.symm
    unfold findI
    rw [if_pos this]
  | cons b t => unfold findI; rw [if_pos h]
theorem findI_short {m : List UInt8} : ∀ l : List UInt8, l.length < m.length → findI m l = none
  | [], h => by
    unfold findI
    rw [if_neg (fun e => by rw [e] at h; cases h)]
  | b :: t, h => by
    unfold findI
    rw [if_neg (fun e => by
      have := congrArg List.length e
      rw [List.length_take] at this
      omega), findI_short t (by rw [List.length_cons] at h; omega)]
    rfl
theorem findI_next {m l : List UInt8} {k : Nat} (hk : k < l.length) (h : ¬ (l.drop k).take m.length = m) : findI m (l.drop k) = (findI m (l.drop (k + 1))).map (· + 1) := by
  rw [drop_cons hk] at h ⊢
  conv => lhs; unfold findI
  rw [if_neg h]
theorem findI_le {m : List UInt8} : ∀ (l : List UInt8) (n : Nat), findI m l = some n → n + m.length ≤ l.length
  | [], n, h => by
    unfold findI at h
    by_cases hm : m = []
    · rw [if_pos hm] at h
      injection h with h
      rw [hm, ← h]
      exact Nat.le_refl _
    · rw [if_neg hm] at h
      cases h
  | b :: t, n, h => by
    unfold findI at h
    by_cases hm : (b :: t).take m.length = m
    · rw [if_pos hm] at h
      injection h with h
      have := congrArg List.length hm
      rw [List.length_take] at this
      omega
    · rw [if_neg hm] at h
      cases hf : findI m t with
      | none => rw [hf] at h; cases h
      | some j =>
        rw [hf] at h
        have h2 : j + 1 = n := by injection h
        have := findI_le t j hf
        rw [List.length_cons]
        omega
theorem xblank_any (c : Int) (w : World) : Calls Tryd.prog 75 #[.int .i32 c] w (Pure w (.bool (blkB c))) := by
  by_cases c9 : c = 9
  · subst c9
    go_enter Tryd.func75, Tryd.ntmps75
    go_wp2_with fail
    go_ret
    exact ⟨rfl, rfl⟩
  · have d9 : (c == 9) = false := by simpa using c9
    by_cases c10 : c = 10
    · subst c10
      go_enter Tryd.func75, Tryd.ntmps75
      go_wp2_with fail
      go_ret
      exact ⟨rfl, rfl⟩
    · have d10 : (c == 10) = false := by simpa using c10
      by_cases c13 : c = 13
      · subst c13
        go_enter Tryd.func75, Tryd.ntmps75
        go_wp2_with fail
        go_ret
        exact ⟨rfl, rfl⟩
      · have d13 : (c == 13) = false := by simpa using c13
        by_cases c32 : c = 32
        · subst c32
          go_enter Tryd.func75, Tryd.ntmps75
          go_wp2_with fail
          go_ret
          exact ⟨rfl, rfl⟩
        · have d32 : (c == 32) = false := by simpa using c32
          unfold blkB
          rw [d9, d10, d13, d32]
          go_enter Tryd.func75, Tryd.ntmps75
          go_wp2_with fail
          go_ret
          exact ⟨rfl, rfl⟩
theorem rblk_any (c : Int) (w : World) : Calls Tryd.prog 68 #[.int .u8 c] w (Pure w (.bool (blkB c))) := by
  by_cases c9 : c = 9
  · subst c9
    go_enter Tryd.func68, Tryd.ntmps68
    go_wp2_with fail
    go_ret
    exact ⟨rfl, rfl⟩
  · have d9 : (c == 9) = false := by simpa using c9
    by_cases c10 : c = 10
    · subst c10
      go_enter Tryd.func68, Tryd.ntmps68
      go_wp2_with fail
      go_ret
      exact ⟨rfl, rfl⟩
    · have d10 : (c == 10) = false := by simpa using c10
      by_cases c13 : c = 13
      · subst c13
        go_enter Tryd.func68, Tryd.ntmps68
        go_wp2_with fail
        go_ret
        exact ⟨rfl, rfl⟩
      · have d13 : (c == 13) = false := by simpa using c13
        by_cases c32 : c = 32
        · subst c32
          go_enter Tryd.func68, Tryd.ntmps68
          go_wp2_with fail
          go_ret
          exact ⟨rfl, rfl⟩
        · have d32 : (c == 32) = false := by simpa using c32
          unfold blkB
          rw [d9, d10, d13, d32]
          go_enter Tryd.func68, Tryd.ntmps68
          go_wp2_with fail
          go_ret
          exact ⟨rfl, rfl⟩
theorem rhas_any (l m : List UInt8) (w : World) : Calls Tryd.prog 47 #[.string (str l), .string (str m)] w (Pure w (.bool (hasB l m))) := by
  unfold hasB
  by_cases h : (m.length : Int) ≤ (l.length : Int)
  · have hd : decide ((m.length : Int) ≤ (l.length : Int)) = true := decide_eq_true h
    have s1 := slf l m.length (by omega)
    cases he : l.take m.length == m with
    | true =>
      generalize l.take m.length = T at *
      have he2 : T = m := by simpa using he
      subst he2
      clear he
      go_enter Tryd.func47, Tryd.ntmps47
      go_wp2_with fail
      go_ret
      exact ⟨rfl, rfl⟩
    | false =>
      generalize l.take m.length = T at *
      have he2 : (m == T) = false := by
        have hne : ¬ T = m := by simpa using he
        simpa using fun e : m = T => hne e.symm
      go_enter Tryd.func47, Tryd.ntmps47
      go_wp2_with fail
      go_ret
      exact ⟨rfl, rfl⟩
  · have hd : decide ((m.length : Int) ≤ (l.length : Int)) = false := decide_eq_false h
    have hv : (l.take m.length == m) = false := by
      have hne : ¬ l.take m.length = m := fun e => by have := congrArg List.length e; rw [List.length_take] at this; omega
      simpa using hne
    rw [hv]
    clear hv
    go_enter Tryd.func47, Tryd.ntmps47
    go_wp2_with fail
    go_ret
    exact ⟨rfl, rfl⟩
def dropB (l : List UInt8) : List UInt8 := l.dropWhile fun b => blkB (b.toNat : Int)
theorem dropB_next {l : List UInt8} {k : Nat} (hk : k < l.length) (h : blkB (l[k].toNat : Int) = true) : dropB (l.drop k) = dropB (l.drop (k + 1)) := by
  rw [drop_cons hk]
  unfold dropB
  rw [List.dropWhile_cons_of_pos (by exact h)]
theorem dropB_stop {l : List UInt8} {k : Nat} (hk : k < l.length) (h : blkB (l[k].toNat : Int) = false) : dropB (l.drop k) = l.drop k := by
  rw [drop_cons hk]
  unfold dropB
  rw [List.dropWhile_cons_of_neg (by rw [h]; decide)]
def RBlRel (l : List UInt8) (u : Value) : Prop := ∃ k : Nat, k ≤ l.length ∧ dropB l = dropB (l.drop k) ∧ u = .int .i64 (k : Int)
set_option maxHeartbeats 800000 in
theorem rblanks_any (l : List UInt8) (w : World) (hl : l.length ≤ 1099511627776) : Calls Tryd.prog 49 #[.string (str l)] w (Pure w (.string (str (dropB l)))) := by
  go_enter Tryd.func49, Tryd.ntmps49
  go_wp2_with fail
  go_loop [3] (RBlRel l) (fun u => l.length - (intOf u).toNat)
  case atStart => exact ⟨0, Nat.zero_le _, rfl, rfl⟩
  case round =>
    obtain ⟨k, hk, hal, rfl⟩ := hrel
    have s2 := slt l k hk
    by_cases hkl : k < l.length
    · have hkI : (k : Int) < (l.length : Int) := by omega
      have hky := idx_at l k hkl
      have hyy : at0B l k = l[k].toNat := by unfold at0B; rw [show l.getD k 0 = l[k] by simp [List.getD, hkl]]
      rw [hyy] at hky
      have km := fun W => rblk_any (l[k].toNat : Int) W
      cases hm : blkB (l[k].toNat : Int) with
      | false =>
        have HX := Lib.hid (hal.trans (dropB_stop hkl hm))
        rw [hm] at km
        generalize ((l[k].toNat : Nat) : Int) = y at *
        have KM := Lib.hid km
        clear km hm hal hyy
        go_wp2_with (go_at_call 68; refine (KM.out _).mono ?_; rintro e w' ⟨rfl, rfl⟩)
        go_ret
        exact ⟨by rw [HX.out]; rfl, rfl⟩
      | true =>
        have HX := Lib.hid (hal.trans (dropB_next hkl hm))
        rw [hm] at km
        generalize ((l[k].toNat : Nat) : Int) = y at *
        have KM := Lib.hid km
        clear km hm hal hyy
        go_wp2_with (go_at_call 68; refine (KM.out _).mono ?_; rintro e w' ⟨rfl, rfl⟩)
        go_round
        case rel => exact ⟨k + 1, by omega, HX.out, by go_num⟩
        case measure => simp [intOf]; omega
    · have hke : decide ((k : Int) < (l.length : Int)) = false := decide_eq_false (by omega)
      have HX : Hid (dropB l = l.drop k) := Lib.hid (by rw [hal, List.drop_of_length_le (by omega)]; rfl)
      clear hal
      go_wp2_with fail
      go_ret
      exact ⟨by rw [HX.out]; rfl, rfl⟩
def RFdRel (l m : List UInt8) (u : Value) : Prop := ∃ k : Nat, k ≤ l.length + 1 ∧ (k ≤ l.length → findI m l = (findI m (l.drop k)).map (· + k)) ∧ (l.length < k → findI m l = none) ∧ u = .int .i64 (k : Int)
set_option maxHeartbeats 800000 in
theorem rfind_any (l m : List UInt8) (w : World) (hl : l.length ≤ 1099511627776) (hm : m.length ≤ 1000) (hm1 : 1 ≤ m.length) : Calls Tryd.prog 45 #[.string (str l), .string (str m)] w (Pure w (.int .i64 (findZ (findI m l)))) := by
  go_enter Tryd.func45, Tryd.ntmps45
  go_wp2_with fail
  go_loop [5] (RFdRel l m) (fun u => l.length + 1 - (intOf u).toNat)
  case atStart => exact ⟨0, Nat.zero_le _, fun _ => by cases h : findI m l <;> simp [h], fun h => absurd h (by omega), rfl⟩
  case round =>
    obtain ⟨k, hk, hal, hno, rfl⟩ := hrel
    by_cases hkl : (k : Int) + (m.length : Int) ≤ (l.length : Int)
    · have hkd : decide ((k : Int) + (m.length : Int) ≤ (l.length : Int)) = true := decide_eq_true hkl
      have s1 := slc l k (k + m.length) (by omega) (by omega)
      rw [show ((k + m.length : Nat) : Int) = (k : Int) + (m.length : Int) from rfl, show k + m.length - k = m.length by omega] at s1
      by_cases he : (l.drop k).take m.length = m
      · have HX : Hid (findZ (findI m l) = (k : Int)) := Lib.hid (by rw [hal (by omega), findI_yes he]; show ((0 + k : Nat) : Int) = (k : Int); rw [Nat.zero_add])
        rw [he] at s1
        clear hal hno he
        go_wp2_with fail
        go_ret
        exact ⟨by rw [HX.out]; rfl, rfl⟩
      · have HX : Hid (findI m l = (findI m (l.drop (k + 1))).map (· + (k + 1))) := Lib.hid (by
          rw [hal (by omega), findI_next (by omega) he]
          cases findI m (l.drop (k + 1)) with
          | none => rfl
          | some j => show some (j + 1 + k) = some (j + (k + 1)); congr 1; omega)
        generalize (l.drop k).take m.length = T at *
        have e1 : (T == m) = false := by simpa using he
        have e2 : (m == T) = false := by simpa using fun e : m = T => he e.symm
        clear hal hno he
        go_wp2_with fail
        go_round
        case rel => exact ⟨k + 1, by omega, fun _ => HX.out, fun h => absurd h (by omega), by go_num⟩
        case measure => simp [intOf]; omega
    · have hkd : decide ((k : Int) + (m.length : Int) ≤ (l.length : Int)) = false := decide_eq_false hkl
      have HX : Hid (findI m l = none) := Lib.hid (by
        by_cases hkk : k ≤ l.length
        · rw [hal hkk, findI_short _ (by rw [List.length_drop]; omega)]; rfl
        · exact hno (by omega))
      clear hal hno
      go_wp2_with fail
      go_ret
      exact ⟨by rw [HX.out]; rfl, rfl⟩
/-- What stands behind a mark up to another, the rest behind that, whether it is there. -/
def uptoV (l a b : List UInt8) : List UInt8 × List UInt8 × Bool := match findI b (l.drop a.length) with
  | some n => ((l.drop a.length).take n, l.drop (a.length + n + b.length), true)
  | none => ([], [], false)
set_option maxHeartbeats 800000 in
theorem rupto_any (l a b : List UInt8) (w : World) (hl : l.length ≤ 1099511627776) (ha : a.length ≤ l.length) (hb : b.length ≤ 1000) (hb1 : 1 ≤ b.length) : Calls Tryd.prog 48 #[.string (str l), .string (str a), .string (str b)] w (Made w (.tuple #[.string (str (uptoV l a b).1), .string (str (uptoV l a b).2.1), .bool (uptoV l a b).2.2])) := by
  have s0 := slt l a.length ha
  have kf := fun W => rfind_any (l.drop a.length) b W (by rw [List.length_drop]; omega) hb hb1
  have hle := findI_le (m := b) (l.drop a.length)
  rw [List.length_drop] at hle
  unfold uptoV
  generalize hD : l.drop a.length = D at *
  cases hf : findI b D with
  | none =>
    rw [hf] at kf
    have KF := Lib.hid kf
    clear kf hle hf hD
    go_enter Tryd.func48, Tryd.ntmps48
    go_wp2_with fail
    refine (KF.out _).mono ?_
    unfold findZ
    rintro e w' ⟨rfl, rfl⟩
    go_wp2_with fail
    go_ret3
    exact ⟨rfl, Below.refl _ _⟩
  | some n =>
    have hn := hle n hf
    rw [hf] at kf
    have KF := Lib.hid kf
    have s1 := slc l a.length (a.length + n) (by omega) (by omega)
    rw [show ((a.length + n : Nat) : Int) = (a.length : Int) + (n : Int) from rfl, show a.length + n - a.length = n by omega, hD] at s1
    have s2 := slt l (a.length + n + b.length) (by omega)
    rw [show ((a.length + n + b.length : Nat) : Int) = (a.length : Int) + (n : Int) + (b.length : Int) from rfl] at s2
    clear kf hle hf hD
    go_enter Tryd.func48, Tryd.ntmps48
    go_wp2_with fail
    refine (KF.out _).mono ?_
    unfold findZ
    rintro e w' ⟨rfl, rfl⟩
    go_wp2_with fail
    go_quiet (fail)
    go_wp2_with fail
    go_ret3
    exact ⟨rfl, below_drewN (Below.refl _ _) _⟩
end Go.Proofs.YtanefcpjbgfgbaaDoor
