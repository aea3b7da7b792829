/-
  Signs that stand for others, in plain words: names, numbers, texts read and written. No condition; no run.
-/
import Derived.Test.YtelhdkidnhfnbaaDoorUtf
import Derived.Lib.TrimAscii
namespace Go.Proofs.YtelhdkidnhfnbaaDoor
open Go.Lib (decodeL encodeRune encodeRuneZ)

/-! ### letters of ASCII within texts of runes -/
theorem enc_low (c : Int) (h0 : 0 ≤ c) (h : c < 128) : encodeRune c = [c.toNat.toUInt8] := by
  unfold Go.Lib.encodeRune Go.Lib.encodeRuneZ
  rw [if_pos (by omega)]
  rfl
theorem enc_byte (b : UInt8) (h : b.toNat < 128) : encodeRune (b.toNat : Int) = [b] := by
  rw [enc_low _ (by omega) (by omega), Int.toNat_natCast]
  congr 1
  exact UInt8.ofNat_toNat
theorem enc_high (c : Int) (h : 128 ≤ c) : ∀ b ∈ encodeRune c, 128 ≤ b.toNat := by
  intro b hb
  have key : ∀ x ∈ encodeRuneZ c, 128 ≤ x ∧ x < 256 := by
    intro x hx
    unfold Go.Lib.encodeRuneZ at hx
    rw [if_neg (by omega)] at hx
    split at hx
    · simp only [List.mem_cons, List.not_mem_nil, or_false] at hx
      rcases hx with rfl | rfl <;> omega
    · split at hx
      · simp only [List.mem_cons, List.not_mem_nil, or_false] at hx
        rcases hx with rfl | rfl | rfl <;> omega
      · split at hx
        · simp only [List.mem_cons, List.not_mem_nil, or_false] at hx
          rcases hx with rfl | rfl | rfl | rfl <;> omega
        · simp only [List.mem_cons, List.not_mem_nil, or_false] at hx
          rcases hx with rfl | rfl | rfl <;> omega
  unfold Go.Lib.encodeRune at hb
  obtain ⟨x, hx, rfl⟩ := List.mem_map.1 hb
  have h2 := key x hx
  simp only [Nat.toUInt8, UInt8.toNat_ofNat']
  omega
/-- What a text begins with that begins with no letter of ASCII is none, nor has one among its bytes. -/
theorem dec_high (b : UInt8) (t : List UInt8) (h : ¬ b.toNat < 128) : 128 ≤ (decodeL (b :: t)).1 ∧ ∀ x ∈ (b :: t).take (decodeL (b :: t)).2, 128 ≤ x.toNat := by
  have hne : b :: t ≠ [] := by simp
  by_cases hv : (decodeL (b :: t)).1 = 65533 ∧ (decodeL (b :: t)).2 = 1
  · rw [hv.1, hv.2]
    refine ⟨by omega, fun x hx => ?_⟩
    rw [List.take_succ_cons, List.take_zero, List.mem_singleton] at hx
    subst hx
    omega
  · have h1 := Lib.encode_decode (b :: t) hne hv
    have h2 := Lib.decodeL_width (b :: t)
    have h3 : 128 ≤ (decodeL (b :: t)).1 := by
      refine Nat.le_of_not_lt fun hc => h ?_
      rw [enc_low _ (by omega) (by omega)] at h1
      obtain ⟨n, hn⟩ : ∃ n, (decodeL (b :: t)).2 = n + 1 := ⟨(decodeL (b :: t)).2 - 1, by omega⟩
      rw [hn, List.take_succ_cons] at h1
      injection h1 with h1 _
      rw [← h1]
      simp only [Int.toNat_natCast, Nat.toUInt8, UInt8.toNat_ofNat']
      omega
    refine ⟨h3, fun x hx => ?_⟩
    rw [← h1] at hx
    exact enc_high _ (by omega) x hx
theorem runes_low (b : UInt8) (t : List UInt8) (h : b.toNat < 128) : runes (b :: t) = (b.toNat : Int) :: runes t := by
  rw [runes_step (by simp), Lib.decodeL_ascii b t h]
  rfl
/-- Whether a text has a letter of a kind of ASCII's letters: by runes, by bytes. -/
theorem runes_any_low (p : Int → Bool) (hp : ∀ c, p c = true → 0 ≤ c ∧ c < 128) : ∀ (n : Nat) (l : List UInt8), l.length ≤ n → (runes l).any p = l.any fun b => p (b.toNat : Int)
  | 0, l, h => by
    have : l = [] := List.length_eq_zero_iff.1 (by omega)
    subst this
    rfl
  | n + 1, [], _ => rfl
  | n + 1, b :: t, h => by
    by_cases hb : b.toNat < 128
    · rw [runes_low b t hb, List.any_cons, List.any_cons, runes_any_low p hp n t (by simpa using h)]
    · obtain ⟨h1, h2⟩ := dec_high b t hb
      have hbd := dec_bd (l := b :: t) (by simp)
      rw [runes_step (by simp), List.any_cons]
      have e1 : p ((decodeL (b :: t)).1 : Int) = false := by
        cases hs : p ((decodeL (b :: t)).1 : Int) with
        | false => rfl
        | true => have := hp _ hs; omega
      have e2 : ((b :: t).take (decodeL (b :: t)).2).any (fun b => p (b.toNat : Int)) = false := by
        rw [List.any_eq_false]
        intro x hx hs
        have := hp _ hs
        have := h2 x hx
        omega
      rw [e1, Bool.false_or, runes_any_low p hp n ((b :: t).drop (decodeL (b :: t)).2) (by rw [List.length_drop]; simp only [List.length_cons] at h hbd ⊢; omega)]
      conv => rhs; rw [← List.take_append_drop (decodeL (b :: t)).2 (b :: t)]
      rw [List.any_append, e2, Bool.false_or]

/-! ### numbers -/
def digN (c : Int) : Int := if 48 ≤ c ∧ c ≤ 57 then c - 48 else if 97 ≤ c ∧ c ≤ 102 then c - 97 + 10 else if 65 ≤ c ∧ c ≤ 70 then c - 65 + 10 else -1
theorem digN_bd (c : Int) : -1 ≤ digN c ∧ digN c ≤ 15 ∧ (0 ≤ digN c → 0 ≤ c ∧ c < 128) := by
  unfold digN
  split
  · omega
  · split
    · omega
    · split <;> omega
def numStep (base : Int) (o : Option Int) (c : Int) : Option Int := match o with
  | none => none
  | some n => if digN c < 0 ∨ base ≤ digN c then none else some (n * base + digN c)
theorem numStep_some (base m c : Int) : numStep base (some m) c = if digN c < 0 ∨ base ≤ digN c then none else some (m * base + digN c) := rfl
theorem numStep_none (base c : Int) : numStep base none c = none := rfl
def numS (base : Int) (cs : List Int) : Option Int := cs.foldl (numStep base) (some 0)
def numB (base : Int) (most : Nat) (l : List UInt8) : Option Int := if l.length = 0 ∨ most < l.length then none else numS base (l.map fun b => (b.toNat : Int))
theorem numS_none (base : Int) : ∀ cs : List Int, cs.foldl (numStep base) none = none
  | [] => rfl
  | _ :: r => by rw [List.foldl_cons]; exact numS_none base r
theorem numS_runes (base : Int) : ∀ (n : Nat) (l : List UInt8) (o : Option Int), l.length ≤ n → (runes l).foldl (numStep base) o = (l.map fun b => (b.toNat : Int)).foldl (numStep base) o
  | 0, l, o, h => by
    have : l = [] := List.length_eq_zero_iff.1 (by omega)
    subst this
    rfl
  | n + 1, [], _, _ => rfl
  | n + 1, b :: t, o, h => by
    by_cases hb : b.toNat < 128
    · rw [runes_low b t hb, List.map_cons, List.foldl_cons, List.foldl_cons, numS_runes base n t _ (by simpa using h)]
    · obtain ⟨h1, h2⟩ := dec_high b t hb
      have st : ∀ c : Int, 128 ≤ c → numStep base o c = none := fun c hc => by
        unfold numStep
        cases o with
        | none => rfl
        | some m =>
          have := digN_bd c
          simp only
          rw [if_pos (by omega)]
      rw [runes_step (by simp), List.map_cons, List.foldl_cons, List.foldl_cons, st _ (by omega), st _ (by omega), numS_none, numS_none]
/-- The numbers so far stay small. -/
theorem numS_bd (base : Int) (hb : 1 ≤ base) : ∀ (cs : List Int) (m : Int) (k : Nat), (0 ≤ m ∧ m < base ^ k) → ∀ n, cs.foldl (numStep base) (some m) = some n → 0 ≤ n ∧ n < base ^ (k + cs.length)
  | [], m, k, h, n, e => by
    injection e with e
    subst e
    exact h
  | c :: r, m, k, h, n, e => by
    rw [List.foldl_cons, numStep_some] at e
    by_cases hd : digN c < 0 ∨ base ≤ digN c
    · rw [if_pos hd, numS_none] at e
      cases e
    · rw [if_neg hd] at e
      have h1 : 0 ≤ m * base + digN c ∧ m * base + digN c < base ^ (k + 1) := by
        have h2 : 0 ≤ m * base := Int.mul_nonneg h.1 (by omega)
        have h3 : (m + 1) * base ≤ base ^ k * base := Int.mul_le_mul_of_nonneg_right (by omega) (by omega)
        rw [Int.pow_succ]
        rw [Int.add_mul] at h3
        omega
      have := numS_bd base hb r _ (k + 1) h1 n e
      rw [List.length_cons]
      have e2 : k + 1 + r.length = k + (r.length + 1) := by omega
      rw [e2] at this
      exact this
def shownR (n : Int) : Int := if n < 32 ∧ n ≠ 9 ∧ n ≠ 10 ∧ n ≠ 13 then 65533 else fixR n

/-! ### names -/
def nameE (c : Int) : List UInt8 := if c = 38 then [97, 109, 112] else if c = 60 then [108, 116] else if c = 62 then [103, 116] else if c = 34 then [113, 117, 111, 116] else if c = 39 then [97, 112, 111, 115] else []
def signE (c : Int) : Bool := !(nameE c).isEmpty
theorem signE_iff (c : Int) : signE c = true ↔ (c = 38 ∨ c = 60 ∨ c = 62 ∨ c = 34 ∨ c = 39) := by
  unfold signE nameE
  by_cases h1 : c = 38
  · simp [h1]
  · by_cases h2 : c = 60
    · simp [h2]
    · by_cases h3 : c = 62
      · simp [h3]
      · by_cases h4 : c = 34
        · simp [h4]
        · by_cases h5 : c = 39
          · simp [h5]
          · simp [h1, h2, h3, h4, h5]
theorem signE_low (c : Int) (h : signE c = true) : 0 ≤ c ∧ c < 128 := by
  have := (signE_iff c).1 h
  omega
def namedR (l : List UInt8) : Option Int := if l = [97, 109, 112] then some 38 else if l = [108, 116] then some 60 else if l = [103, 116] then some 62 else if l = [113, 117, 111, 116] then some 34 else if l = [97, 112, 111, 115] then some 39 else none
def signR (l : List UInt8) : Option Int := match namedR l with
  | some c => some c
  | none => if l.take 2 = [35, 120] then (numB 16 6 (l.drop 2)).map shownR else if l.take 1 = [35] then (numB 10 7 (l.drop 1)).map shownR else none
/-- What is a name is short, and of ASCII. -/
theorem numS_low (base : Int) : ∀ (l : List UInt8) (o : Option Int) (n : Int), (l.map fun b => (b.toNat : Int)).foldl (numStep base) o = some n → ∀ b ∈ l, b.toNat < 128
  | [], _, _, _ => fun b hb => by cases hb
  | x :: r, o, n, e => by
    rw [List.map_cons, List.foldl_cons] at e
    intro b hb
    rcases List.mem_cons.1 hb with rfl | hb
    · cases o with
      | none => rw [numStep_none, numS_none] at e; cases e
      | some m =>
        rw [numStep_some] at e
        by_cases hd : digN (b.toNat : Int) < 0 ∨ base ≤ digN (b.toNat : Int)
        · rw [if_pos hd, numS_none] at e
          cases e
        · have := (digN_bd (b.toNat : Int)).2.2 (by omega)
          omega
    · exact numS_low base r _ n e b hb
theorem numB_low {base : Int} {most : Nat} {l : List UInt8} {n : Int} (h : numB base most l = some n) : l.length ≤ most ∧ ∀ b ∈ l, b.toNat < 128 := by
  unfold numB at h
  by_cases hc : l.length = 0 ∨ most < l.length
  · rw [if_pos hc] at h; cases h
  · rw [if_neg hc] at h
    exact ⟨by omega, numS_low base l _ n h⟩
theorem signR_low {l : List UInt8} {c : Int} (h : signR l = some c) : l.length ≤ 8 ∧ ∀ b ∈ l, b.toNat < 128 := by
  unfold signR at h
  cases hn : namedR l with
  | some c' =>
    clear h
    unfold namedR at hn
    by_cases h1 : l = [97, 109, 112]
    · subst h1; decide
    · by_cases h2 : l = [108, 116]
      · subst h2; decide
      · by_cases h3 : l = [103, 116]
        · subst h3; decide
        · by_cases h4 : l = [113, 117, 111, 116]
          · subst h4; decide
          · by_cases h5 : l = [97, 112, 111, 115]
            · subst h5; decide
            · rw [if_neg h1, if_neg h2, if_neg h3, if_neg h4, if_neg h5] at hn
              cases hn
  | none =>
    rw [hn] at h
    simp only at h
    by_cases h1 : l.take 2 = [35, 120]
    · rw [if_pos h1] at h
      cases hb : numB 16 6 (l.drop 2) with
      | none => rw [hb] at h; cases h
      | some m =>
        have h2 := numB_low hb
        rw [List.length_drop] at h2
        refine ⟨by omega, fun b hb => ?_⟩
        rw [← List.take_append_drop 2 l, h1] at hb
        rcases List.mem_append.1 hb with hb | hb
        · simp only [List.mem_cons, List.not_mem_nil, or_false] at hb
          rcases hb with rfl | rfl <;> decide
        · exact h2.2 b hb
    · rw [if_neg h1] at h
      by_cases h3 : l.take 1 = [35]
      · rw [if_pos h3] at h
        cases hb : numB 10 7 (l.drop 1) with
        | none => rw [hb] at h; cases h
        | some m =>
          have h2 := numB_low hb
          rw [List.length_drop] at h2
          refine ⟨by omega, fun b hb => ?_⟩
          rw [← List.take_append_drop 1 l, h3] at hb
          rcases List.mem_append.1 hb with hb | hb
          · simp only [List.mem_cons, List.not_mem_nil, or_false] at hb
            subst hb
            decide
          · exact h2.2 b hb
      · rw [if_neg h3] at h
        cases h

/-! ### writing -/
def escB (b : UInt8) : List UInt8 := if signE (b.toNat : Int) = true then 38 :: nameE (b.toNat : Int) ++ [59] else [b]
def writeR (l : List UInt8) : List UInt8 := l.flatMap escB
def plainR (l : List UInt8) : Bool := l.all fun b => !signE (b.toNat : Int)
theorem writeR_append (a b : List UInt8) : writeR (a ++ b) = writeR a ++ writeR b := by unfold writeR; rw [List.flatMap_append]
theorem escB_len (b : UInt8) : 1 ≤ (escB b).length ∧ (escB b).length ≤ 6 ∧ (signE (b.toNat : Int) = true → 2 ≤ (escB b).length) := by
  unfold escB
  by_cases h : signE (b.toNat : Int) = true
  · rw [if_pos h]
    have h1 : (nameE (b.toNat : Int)).length ≤ 4 := by
      unfold nameE
      repeat' split
      all_goals decide
    simp only [List.length_cons, List.length_append, List.length_nil, List.cons_append]
    omega
  · rw [if_neg h]
    exact ⟨Nat.le_refl _, by simp, fun x => (h x).elim⟩
theorem writeR_len : ∀ l : List UInt8, l.length ≤ (writeR l).length ∧ (writeR l).length ≤ 6 * l.length
  | [] => ⟨Nat.le_refl _, Nat.le_refl _⟩
  | b :: r => by
    have h1 := escB_len b
    have h2 := writeR_len r
    unfold writeR at *
    rw [List.flatMap_cons, List.length_append, List.length_cons]
    omega
theorem writeR_plain : ∀ l : List UInt8, plainR l = true → writeR l = l
  | [], _ => rfl
  | b :: r, h => by
    unfold plainR at h
    rw [List.all_cons, Bool.and_eq_true] at h
    have h1 : ¬ signE (b.toNat : Int) = true := by simpa using h.1
    have h2 := writeR_plain r h.2
    unfold writeR at *
    rw [List.flatMap_cons, h2]
    unfold escB
    rw [if_neg h1]
    rfl
theorem writeR_long : ∀ l : List UInt8, plainR l = false → l.length < (writeR l).length
  | [], h => by cases h
  | b :: r, h => by
    unfold plainR at h
    rw [List.all_cons, Bool.and_eq_false_iff] at h
    have h1 := escB_len b
    have h2 := writeR_len r
    unfold writeR at *
    rw [List.flatMap_cons, List.length_append, List.length_cons]
    rcases h with h | h
    · have h3 : signE (b.toNat : Int) = true := by simpa using h
      have := h1.2.2 h3
      omega
    · have h3 := writeR_long r h
      unfold writeR at h3
      omega
theorem plain_iff (l : List UInt8) : plainR l = decide (writeR l = l) := by
  cases h : plainR l with
  | true => rw [decide_eq_true (writeR_plain l h)]
  | false =>
    have := writeR_long l h
    rw [decide_eq_false (fun e => by rw [e] at this; omega)]
theorem plain_append (a b : List UInt8) : plainR (a ++ b) = (plainR a && plainR b) := by unfold plainR; rw [List.all_append]

/-! ### reading -/
/-- Where the next ; stands. -/
def semi (l : List UInt8) : Option Nat := if l.all (fun b => b != 59) = true then none else some (l.takeWhile fun b => b != 59).length
def firstR (l : List UInt8) : Option (Int × Nat) := match semi l with
  | none => none
  | some p => (signR (l.take p)).map fun c => (c, p + 1)
def readF : Nat → List UInt8 → List UInt8
  | 0, _ => []
  | _ + 1, [] => []
  | n + 1, b :: r => if b = 38 then (match firstR r with | some (c, k) => encodeRune c ++ readF n (r.drop k) | none => 38 :: readF n r) else b :: readF n r
def readR (l : List UInt8) : List UInt8 := readF l.length l
theorem readF_fuel : ∀ (n m : Nat) (l : List UInt8), l.length ≤ n → l.length ≤ m → readF n l = readF m l
  | 0, 0, _, _, _ => rfl
  | 0, m + 1, l, h, _ => by
    have : l = [] := List.length_eq_zero_iff.1 (by omega)
    subst this
    rfl
  | n + 1, 0, l, _, h => by
    have : l = [] := List.length_eq_zero_iff.1 (by omega)
    subst this
    rfl
  | n + 1, m + 1, [], _, _ => rfl
  | n + 1, m + 1, b :: r, h1, h2 => by
    have h1' : r.length ≤ n := by simpa using h1
    have h2' : r.length ≤ m := by simpa using h2
    unfold readF
    split
    · cases firstR r with
      | none => simp only; rw [readF_fuel n m r h1' h2']
      | some o => simp only; rw [readF_fuel n m (r.drop o.2) (by rw [List.length_drop]; omega) (by rw [List.length_drop]; omega)]
    · rw [readF_fuel n m r h1' h2']
theorem readR_nil : readR [] = [] := rfl
theorem readR_amp (r : List UInt8) : readR (38 :: r) = match firstR r with | some (c, k) => encodeRune c ++ readR (r.drop k) | none => 38 :: readR r := by
  unfold readR
  rw [List.length_cons, readF, if_pos rfl]
  cases firstR r with
  | none => rfl
  | some o => simp only; rw [readF_fuel r.length (r.drop o.2).length (r.drop o.2) (by rw [List.length_drop]; omega) (Nat.le_refl _)]
theorem readR_other (b : UInt8) (r : List UInt8) (h : b ≠ 38) : readR (b :: r) = b :: readR r := by
  unfold readR
  rw [List.length_cons, readF, if_neg h]
theorem readR_text : ∀ (t r : List UInt8), (∀ b ∈ t, b ≠ 38) → readR (t ++ r) = t ++ readR r
  | [], _, _ => rfl
  | b :: t, r, h => by
    rw [List.cons_append, readR_other b _ (h b (by simp)), readR_text t r fun x hx => h x (by simp [hx])]
    rfl
theorem semi_at (n r : List UInt8) (h : ∀ b ∈ n, b ≠ 59) : semi (n ++ 59 :: r) = some n.length := by
  unfold semi
  have h1 : (n ++ 59 :: r).all (fun b => b != 59) = false := by
    rw [List.all_eq_false]
    exact ⟨59, by simp, by decide⟩
  have h2 : ((n ++ 59 :: r).takeWhile fun b => b != 59) = n := by
    rw [List.takeWhile_append_of_pos (fun b hb => by simpa using h b hb)]
    simp
  rw [h1, if_neg Bool.false_ne_true, h2]
/-- What is written is read as it was. -/
theorem read_write : ∀ l : List UInt8, readR (writeR l) = l
  | [] => rfl
  | b :: r => by
    have ih := read_write r
    have e : writeR (b :: r) = escB b ++ writeR r := rfl
    rw [e]
    unfold escB
    by_cases h : signE (b.toNat : Int) = true
    · rw [if_pos h]
      have hb := (signE_iff _).1 h
      have key : ∀ (n : List UInt8) (c : Int), nameE (b.toNat : Int) = n → (∀ x ∈ n, x ≠ 59) → signR n = some c → c = (b.toNat : Int) → readR (38 :: n ++ [59] ++ writeR r) = b :: r := by
        intro n c _ h59 hs hc
        have e2 : 38 :: n ++ [59] ++ writeR r = 38 :: (n ++ 59 :: writeR r) := by simp
        rw [e2, readR_amp]
        have hf : firstR (n ++ 59 :: writeR r) = some (c, n.length + 1) := by
          unfold firstR
          rw [semi_at n _ h59]
          simp only
          rw [List.take_left, hs]
          rfl
        rw [hf]
        simp only
        have hd : (n ++ 59 :: writeR r).drop (n.length + 1) = writeR r := by
          rw [← List.drop_drop, List.drop_left]
          rfl
        rw [hd, ih, hc, enc_byte b (by omega)]
        rfl
      rcases hb with hb | hb | hb | hb | hb
      · have hn : nameE (b.toNat : Int) = [97, 109, 112] := by rw [hb]; rfl
        rw [hn]
        exact key _ 38 hn (by decide) rfl hb.symm
      · have hn : nameE (b.toNat : Int) = [108, 116] := by rw [hb]; rfl
        rw [hn]
        exact key _ 60 hn (by decide) rfl hb.symm
      · have hn : nameE (b.toNat : Int) = [103, 116] := by rw [hb]; rfl
        rw [hn]
        exact key _ 62 hn (by decide) rfl hb.symm
      · have hn : nameE (b.toNat : Int) = [113, 117, 111, 116] := by rw [hb]; rfl
        rw [hn]
        exact key _ 34 hn (by decide) rfl hb.symm
      · have hn : nameE (b.toNat : Int) = [97, 112, 111, 115] := by rw [hb]; rfl
        rw [hn]
        exact key _ 39 hn (by decide) rfl hb.symm
    · rw [if_neg h]
      have hne : b ≠ 38 := fun e => h ((signE_iff _).2 (by rw [e]; decide))
      show readR (b :: writeR r) = b :: r
      rw [readR_other b _ hne, ih]
end Go.Proofs.YtelhdkidnhfnbaaDoor
