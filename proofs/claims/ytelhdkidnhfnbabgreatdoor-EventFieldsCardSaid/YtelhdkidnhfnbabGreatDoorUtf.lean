/-
  Texts of runes in plain words: the runes of bytes, the bytes of runes, clean and folded ones. No condition; no run.
-/
import Derived.Lib.MapLaws
import Derived.Lib.ValidLaws
import Derived.Laws.Runes
import Derived.Lib.RuneCountTail
namespace Go.Proofs.YtelhdkidnhfnbabGreatDoor
open Go.Lib (decodeL encodeRune encodeRuneZ validD)

theorem dec_bd {l : List UInt8} (h : l ≠ []) : 1 ≤ (decodeL l).2 ∧ (decodeL l).2 ≤ l.length := by
  have h1 := Lib.decodeL_width l
  have h2 := Lib.decodeL_le l h
  omega

/-- Is it a rune's number? -/
def okR (c : Int) : Prop := (0 ≤ c ∧ c < 55296) ∨ (57344 ≤ c ∧ c ≤ 1114111)
instance (c : Int) : Decidable (okR c) := by unfold okR; infer_instance
def fixR (c : Int) : Int := if okR c then c else 65533
theorem fixR_ok (c : Int) : okR (fixR c) := by
  unfold fixR
  split
  · assumption
  · unfold okR; omega
theorem fixR_of {c : Int} (h : okR c) : fixR c = c := if_pos h

theorem dec_ok (l : List UInt8) : okR ((decodeL l).1 : Int) := by
  rw [Lib.decodeL_N]
  unfold okR
  have k0 := (l.getD 0 0).toNat_lt
  have k1 := (l.getD 1 0).toNat_lt
  have k2 := (l.getD 2 0).toNat_lt
  have k3 := (l.getD 3 0).toNat_lt
  rcases Lib.decodeN_shape l.length (l.getD 0 0).toNat (l.getD 1 0).toNat (l.getD 2 0).toNat (l.getD 3 0).toNat with ⟨c, e⟩ | ⟨c1, c2, c3, cv, e⟩ | ⟨c1, c2, c3, c4, cv, cs, e⟩ | ⟨c1, c2, c3, c4, c5, cv, cw, e⟩ | e
  all_goals (rw [e]; dsimp only; omega)

def runesF : Nat → List UInt8 → List Int
  | 0, _ => []
  | n + 1, l => if l = [] then [] else ((decodeL l).1 : Int) :: runesF n (l.drop (decodeL l).2)
def runes (l : List UInt8) : List Int := runesF l.length l
theorem runesF_nil : ∀ n, runesF n [] = []
  | 0 => rfl
  | _ + 1 => by simp [runesF]
theorem runesF_fuel : ∀ (n m : Nat) (l : List UInt8), l.length ≤ n → l.length ≤ m → runesF n l = runesF m l
  | 0, m, l, hn, _ => by
    have : l = [] := List.eq_nil_of_length_eq_zero (by omega)
    subst this
    rw [runesF_nil, runesF_nil]
  | n + 1, 0, l, _, hm => by
    have : l = [] := List.eq_nil_of_length_eq_zero (by omega)
    subst this
    rw [runesF_nil, runesF_nil]
  | n + 1, m + 1, l, hn, hm => by
    unfold runesF
    by_cases hne : l = []
    · simp [hne]
    · have hw := dec_bd hne
      rw [if_neg hne, if_neg hne, runesF_fuel n m (l.drop (decodeL l).2) (by rw [List.length_drop]; omega) (by rw [List.length_drop]; omega)]
theorem runes_nil : runes [] = [] := rfl
theorem runes_step {l : List UInt8} (h : l ≠ []) : runes l = ((decodeL l).1 : Int) :: runes (l.drop (decodeL l).2) := by
  have hw := dec_bd h
  obtain ⟨n, hn⟩ : ∃ n, l.length = n + 1 := ⟨l.length - 1, by omega⟩
  unfold runes
  rw [hn]
  show (if l = [] then [] else _) = _
  rw [if_neg h, runesF_fuel n (l.drop (decodeL l).2).length _ (by rw [List.length_drop]; omega) (Nat.le_refl _)]

theorem text_ind {p : List UInt8 → Prop} (h0 : p []) (hs : ∀ l, l ≠ [] → p (l.drop (decodeL l).2) → p l) : ∀ l, p l := by
  intro l
  induction hn : l.length using Nat.strongRecOn generalizing l with
  | _ n ih =>
    by_cases hne : l = []
    · rw [hne]; exact h0
    · have hw := dec_bd hne
      exact hs l hne (ih _ (by rw [List.length_drop]; omega) _ rfl)

theorem runes_ok : ∀ l, ∀ c ∈ runes l, okR c := by
  refine text_ind ?_ ?_
  · intro c hc; cases hc
  · intro l hne ih c hc
    rw [runes_step hne] at hc
    rcases List.mem_cons.1 hc with rfl | hc
    · exact dec_ok l
    · exact ih c hc
theorem runes_len : ∀ l, (runes l).length ≤ l.length := by
  refine text_ind (Nat.le_refl _) ?_
  intro l hne ih
  have hw := dec_bd hne
  rw [runes_step hne, List.length_cons]
  rw [List.length_drop] at ih
  omega

/-- The bytes of runes. -/
def put (rs : List Int) : List UInt8 := rs.flatMap encodeRune
theorem put_nil : put [] = [] := rfl
theorem put_cons (c : Int) (rs : List Int) : put (c :: rs) = encodeRune c ++ put rs := rfl
theorem put_append (a b : List Int) : put (a ++ b) = put a ++ put b := by simp [put]
theorem put_snoc (a : List Int) (c : Int) : put (a ++ [c]) = put a ++ encodeRune c := by simp [put]
theorem enc_len (c : Int) : 1 ≤ (encodeRune c).length ∧ (encodeRune c).length ≤ 4 := by
  have := Lib.encodeRuneZ_length c
  simpa [encodeRune] using this
theorem enc_fix (c : Int) : encodeRune c = encodeRune (fixR c) := by
  unfold fixR
  split
  · rfl
  · rename_i h
    unfold okR at h
    unfold encodeRune
    rw [Lib.encodeRuneZ_bad (by omega)]
    rfl
theorem put_len (rs : List Int) : rs.length ≤ (put rs).length ∧ (put rs).length ≤ 4 * rs.length := by
  induction rs with
  | nil => exact ⟨Nat.le_refl _, Nat.le_refl _⟩
  | cons c rs ih =>
    have := enc_len c
    rw [put_cons, List.length_append, List.length_cons]
    omega
theorem put_fix (rs : List Int) : put rs = put (rs.map fixR) := by
  induction rs with
  | nil => rfl
  | cons c rs ih => rw [put_cons, List.map_cons, put_cons, ih, enc_fix]

theorem getD_byte (a : List Int) (t : List UInt8) (i : Nat) (h : i < a.length) (hb : ∀ x ∈ a, 0 ≤ x ∧ x < 256) : (((a.map fun x => x.toNat.toUInt8) ++ t).getD i 0).toNat = a[i].toNat := by
  have hx := hb a[i] (List.getElem_mem h)
  rw [List.getD_eq_getElem?_getD, List.getElem?_append_left (by simpa using h)]
  simp [h]
  omega

set_option maxHeartbeats 2000000 in
/-- A rune's bytes are read as it. -/
theorem dec_enc (c : Int) (t : List UInt8) (hc : okR c) : decodeL (encodeRune c ++ t) = (c.toNat, (encodeRune c).length) := by
  rw [Lib.decodeL_N]
  unfold encodeRune
  have hb := Lib.encodeRuneZ_byte c
  unfold okR at hc
  by_cases h1 : c ≤ 127
  · have e := Lib.encodeRuneZ_one (r := c) (by omega) h1
    rw [e] at hb ⊢
    have g0 := getD_byte [c] t 0 (by simp) hb
    rw [g0]
    generalize (UInt8.toNat (List.getD _ 1 0)) = b1
    generalize (UInt8.toNat (List.getD _ 2 0)) = b2
    generalize (UInt8.toNat (List.getD _ 3 0)) = b3
    simp only [List.getElem_cons_zero]
    unfold Lib.decodeN
    rw [if_pos (by omega)]
    simp
  · by_cases h2 : c ≤ 2047
    · have e := Lib.encodeRuneZ_two (r := c) (by omega) h2
      rw [e] at hb ⊢
      have g0 := getD_byte _ t 0 (by simp) hb
      have g1 := getD_byte _ t 1 (by simp) hb
      have hn : 2 ≤ (List.map (fun x : Int => x.toNat.toUInt8) [192 + c / 64, 128 + c % 64] ++ t).length := by simp
      rw [g0, g1]
      generalize (List.map (fun x : Int => x.toNat.toUInt8) [192 + c / 64, 128 + c % 64] ++ t).length = n at hn ⊢
      generalize (UInt8.toNat (List.getD _ 2 0)) = b2
      generalize (UInt8.toNat (List.getD _ 3 0)) = b3
      simp only [List.getElem_cons_zero, List.getElem_cons_succ]
      unfold Lib.decodeN
      rw [if_neg (by omega), if_pos (by omega), if_pos (by omega)]
      apply Prod.ext
      · show _ = c.toNat
        omega
      · simp
    · by_cases h3 : c ≤ 65535
      · have e := Lib.encodeRuneZ_three (r := c) (by omega)
        rw [e] at hb ⊢
        have g0 := getD_byte _ t 0 (by simp) hb
        have g1 := getD_byte _ t 1 (by simp) hb
        have g2 := getD_byte _ t 2 (by simp) hb
        have hn : 3 ≤ (List.map (fun x : Int => x.toNat.toUInt8) [224 + c / 4096, 128 + c / 64 % 64, 128 + c % 64] ++ t).length := by simp
        rw [g0, g1, g2]
        generalize (List.map (fun x : Int => x.toNat.toUInt8) [224 + c / 4096, 128 + c / 64 % 64, 128 + c % 64] ++ t).length = n at hn ⊢
        generalize (UInt8.toNat (List.getD _ 3 0)) = b3
        simp only [List.getElem_cons_zero, List.getElem_cons_succ]
        unfold Lib.decodeN
        rw [if_neg (by omega), if_neg (by omega), if_pos (by omega), if_pos (by omega)]
        apply Prod.ext
        · show _ = c.toNat
          omega
        · simp
      · have e := Lib.encodeRuneZ_four (r := c) (by omega) (by omega)
        rw [e] at hb ⊢
        have g0 := getD_byte _ t 0 (by simp) hb
        have g1 := getD_byte _ t 1 (by simp) hb
        have g2 := getD_byte _ t 2 (by simp) hb
        have g3 := getD_byte _ t 3 (by simp) hb
        have hn : 4 ≤ (List.map (fun x : Int => x.toNat.toUInt8) [240 + c / 262144, 128 + c / 4096 % 64, 128 + c / 64 % 64, 128 + c % 64] ++ t).length := by simp
        rw [g0, g1, g2, g3]
        generalize (List.map (fun x : Int => x.toNat.toUInt8) [240 + c / 262144, 128 + c / 4096 % 64, 128 + c / 64 % 64, 128 + c % 64] ++ t).length = n at hn ⊢
        simp only [List.getElem_cons_zero, List.getElem_cons_succ]
        unfold Lib.decodeN
        rw [if_neg (by omega), if_neg (by omega), if_neg (by omega), if_pos (by omega), if_pos (by omega)]
        apply Prod.ext
        · show _ = c.toNat
          omega
        · simp

theorem dec_fix (c : Int) (t : List UInt8) : decodeL (encodeRune c ++ t) = ((fixR c).toNat, (encodeRune c).length) := by
  rw [enc_fix]
  exact dec_enc _ _ (fixR_ok c)
theorem enc_ne (c : Int) (t : List UInt8) : encodeRune c ++ t ≠ [] := by
  have := enc_len c
  intro h
  have := congrArg List.length h
  rw [List.length_append, List.length_nil] at this
  omega
theorem runes_put (rs : List Int) : runes (put rs) = rs.map fixR := by
  induction rs with
  | nil => rfl
  | cons c rs ih =>
    rw [put_cons, runes_step (enc_ne c _), dec_fix]
    have h := fixR_ok c
    unfold okR at h
    rw [List.drop_left, ih, List.map_cons]
    congr 1
    show ((fixR c).toNat : Int) = _
    omega
theorem map_fix {rs : List Int} (h : ∀ c ∈ rs, okR c) : rs.map fixR = rs := by
  conv => rhs; rw [← List.map_id rs]
  exact List.map_congr_left fun c hc => fixR_of (h c hc)
theorem runes_put_ok {rs : List Int} (h : ∀ c ∈ rs, okR c) : runes (put rs) = rs := by rw [runes_put, map_fix h]
theorem enc_bad_len (c : Int) (h : fixR c = 65533) : (encodeRune c).length = 3 := by
  rw [enc_fix, h]
  rfl
theorem valid_put (rs : List Int) : validD (put rs) = true := by
  induction rs with
  | nil => rfl
  | cons c rs ih =>
    rw [put_cons, Lib.validD_step _ (enc_ne c _), dec_fix, List.drop_left, ih, if_neg]
    rintro ⟨h1, h2⟩
    have h := fixR_ok c
    unfold okR at h
    have := enc_bad_len c (by dsimp only at h1; omega)
    dsimp only at h2
    omega

/-! ### blanks; clean and folded runes -/
def blankB (c : Int) : Bool := decide (c = 9 ∨ c = 10 ∨ c = 13 ∨ c = 32 ∨ c = 160 ∨ c = 8232 ∨ c = 8233 ∨ c = 12288)
theorem blank_iff (c : Int) : blankB c = true ↔ (c = 9 ∨ c = 10 ∨ c = 13 ∨ c = 32 ∨ c = 160 ∨ c = 8232 ∨ c = 8233 ∨ c = 12288) := by unfold blankB; exact decide_eq_true_iff
theorem blank_no (c : Int) : blankB c = false ↔ ¬ (c = 9 ∨ c = 10 ∨ c = 13 ∨ c = 32 ∨ c = 160 ∨ c = 8232 ∨ c = 8233 ∨ c = 12288) := by unfold blankB; exact decide_eq_false_iff_not
def unseenB (c : Int) : Bool := decide (c < 32 ∨ (127 ≤ c ∧ c ≤ 159))
theorem unseen_iff (c : Int) : unseenB c = true ↔ (c < 32 ∨ (127 ≤ c ∧ c ≤ 159)) := by unfold unseenB; exact decide_eq_true_iff
theorem unseen_no (c : Int) : unseenB c = false ↔ ¬ (c < 32 ∨ (127 ≤ c ∧ c ≤ 159)) := by unfold unseenB; exact decide_eq_false_iff_not

/-- One rune more: what was kept, and whether blanks wait. -/
def cleanStep (o : List Int × Bool) (c : Int) : List Int × Bool :=
  if blankB c = true then (o.1, decide (o.1 ≠ []))
  else if unseenB c = true then o
  else (o.1 ++ (if o.2 = true then [32] else []) ++ [c], false)
def cleanR (rs : List Int) : List Int := (rs.foldl cleanStep ([], false)).1

/-- What is kept is clean: no rune that is none, none unseen, no blank but single spaces, not at the ends. -/
def Keeps (o : List Int × Bool) : Prop := cleanR o.1 = o.1 ∧ o.1.foldl cleanStep ([], false) = (o.1, false) ∧ (∀ c ∈ o.1, okR c ∧ unseenB c = false) ∧ (o.2 = true → o.1 ≠ [])
theorem keeps_step {o : List Int × Bool} {c : Int} (h : Keeps o) (hc : okR c) : Keeps (cleanStep o c) := by
  obtain ⟨h1, h2, h3, h4⟩ := h
  unfold cleanStep
  by_cases hb : blankB c = true
  · rw [if_pos hb]
    exact ⟨h1, h2, h3, fun e => by simpa using e⟩
  · rw [if_neg hb]
    by_cases hu : unseenB c = true
    · rw [if_pos hu]; exact ⟨h1, h2, h3, h4⟩
    · rw [if_neg hu]
      have hu' : unseenB c = false := by simpa using hu
      have hb' : blankB c = false := by simpa using hb
      have step : ∀ a w, cleanStep (a, w) c = (a ++ (if w = true then [32] else []) ++ [c], false) := fun a w => by
        unfold cleanStep
        rw [if_neg hb, if_neg hu]
      have key : (o.1 ++ (if o.2 = true then [32] else []) ++ [c]).foldl cleanStep ([], false) = (o.1 ++ (if o.2 = true then [32] else []) ++ [c], false) := by
        cases hw : o.2 with
        | false =>
          rw [if_neg (by simp), List.append_nil, List.foldl_append, h2]
          show cleanStep (o.1, false) c = _
          rw [step, if_neg (by simp), List.append_nil]
        | true =>
          have hne := h4 hw
          rw [if_pos rfl, List.foldl_append, List.foldl_append, h2]
          show cleanStep (cleanStep (o.1, false) 32) c = _
          have e : cleanStep (o.1, false) 32 = (o.1, true) := by
            unfold cleanStep
            rw [if_pos (by decide)]
            simp [hne]
          rw [e, step, if_pos rfl]
      refine ⟨by unfold cleanR; rw [key], key, ?_, fun e => absurd e (by simp)⟩
      intro x hx
      simp only [List.mem_append, List.mem_singleton] at hx
      rcases hx with (hx | hx) | hx
      · exact h3 x hx
      · split at hx
        · simp at hx; subst hx; exact ⟨by unfold okR; omega, by decide⟩
        · cases hx
      · subst hx; exact ⟨hc, hu'⟩
theorem keeps_all : ∀ (rs : List Int) (o : List Int × Bool), Keeps o → (∀ c ∈ rs, okR c) → Keeps (rs.foldl cleanStep o)
  | [], _, h, _ => h
  | c :: rs, o, h, hr => keeps_all rs _ (keeps_step h (hr c (by simp))) fun x hx => hr x (by simp [hx])
theorem keeps_zero : Keeps ([], false) := ⟨rfl, rfl, fun c h => (by cases h), fun e => (by cases e)⟩
theorem cleanR_ok {rs : List Int} (h : ∀ c ∈ rs, okR c) : ∀ c ∈ cleanR rs, okR c := fun c hc => ((keeps_all rs _ keeps_zero h).2.2.1 c hc).1
theorem cleanR_twice {rs : List Int} (h : ∀ c ∈ rs, okR c) : cleanR (cleanR rs) = cleanR rs := (keeps_all rs _ keeps_zero h).1

def foldR (c : Int) : Int :=
  if (65 ≤ c ∧ c ≤ 90) ∨ (192 ≤ c ∧ c ≤ 222 ∧ c ≠ 215) ∨ (913 ≤ c ∧ c ≤ 937 ∧ c ≠ 930) ∨ (1040 ≤ c ∧ c ≤ 1071) then c + 32
  else if 1024 ≤ c ∧ c ≤ 1039 then c + 80 else c
theorem foldR_ok {c : Int} (h : okR c) : okR (foldR c) := by
  unfold foldR okR at *
  repeat' split
  all_goals omega
theorem foldR_twice (c : Int) : foldR (foldR c) = foldR c := by
  unfold foldR
  repeat' split
  all_goals omega

def cleanS (l : List UInt8) : List UInt8 := put (cleanR (runes l))
def foldS (l : List UInt8) : List UInt8 := put ((runes l).map foldR)
theorem cleanS_runes (l : List UInt8) : runes (cleanS l) = cleanR (runes l) := runes_put_ok (cleanR_ok (runes_ok l))
theorem cleanS_twice (l : List UInt8) : cleanS (cleanS l) = cleanS l := by
  unfold cleanS
  rw [show runes (put (cleanR (runes l))) = _ from cleanS_runes l, cleanR_twice (runes_ok l)]
theorem foldS_runes (l : List UInt8) : runes (foldS l) = (runes l).map foldR := runes_put_ok fun c hc => by
  obtain ⟨x, hx, rfl⟩ := List.mem_map.1 hc
  exact foldR_ok (runes_ok l x hx)
theorem foldS_twice (l : List UInt8) : foldS (foldS l) = foldS l := by
  have h := foldS_runes l
  unfold foldS at h ⊢
  rw [h, List.map_map]
  congr 1
  exact List.map_congr_left fun c _ => foldR_twice c
theorem cleanR_len : ∀ (rs : List Int) (o : List Int × Bool), (rs.foldl cleanStep o).1.length ≤ o.1.length + 2 * rs.length
  | [], o => by simp
  | c :: rs, o => by
    have := cleanR_len rs (cleanStep o c)
    rw [List.foldl_cons, List.length_cons]
    have h2 : (cleanStep o c).1.length ≤ o.1.length + 2 := by
      unfold cleanStep
      repeat' split
      all_goals simp
      all_goals omega
    omega

/-! ### the beginning -/
def cutF : Nat → List UInt8 → Int → Nat
  | 0, _, _ => 0
  | f + 1, l, n => if l = [] then 0 else if n < ((decodeL l).2 : Int) then 0 else (decodeL l).2 + cutF f (l.drop (decodeL l).2) (n - (decodeL l).2)
def cutN (l : List UInt8) (n : Int) : Nat := cutF l.length l n
theorem cutF_nil : ∀ f n, cutF f [] n = 0
  | 0, _ => rfl
  | _ + 1, _ => by simp [cutF]
theorem cutF_fuel : ∀ (f g : Nat) (l : List UInt8) (n : Int), l.length ≤ f → l.length ≤ g → cutF f l n = cutF g l n
  | 0, g, l, n, hn, _ => by
    have : l = [] := List.eq_nil_of_length_eq_zero (by omega)
    subst this
    rw [cutF_nil, cutF_nil]
  | f + 1, 0, l, n, _, hm => by
    have : l = [] := List.eq_nil_of_length_eq_zero (by omega)
    subst this
    rw [cutF_nil, cutF_nil]
  | f + 1, g + 1, l, n, hn, hm => by
    unfold cutF
    by_cases hne : l = []
    · simp [hne]
    · have hw := dec_bd hne
      rw [if_neg hne, if_neg hne, cutF_fuel f g (l.drop (decodeL l).2) _ (by rw [List.length_drop]; omega) (by rw [List.length_drop]; omega)]
theorem cutN_nil (n : Int) : cutN [] n = 0 := rfl
theorem cutN_step {l : List UInt8} (h : l ≠ []) (n : Int) : cutN l n = if n < ((decodeL l).2 : Int) then 0 else (decodeL l).2 + cutN (l.drop (decodeL l).2) (n - (decodeL l).2) := by
  have hw := dec_bd h
  obtain ⟨k, hk⟩ : ∃ k, l.length = k + 1 := ⟨l.length - 1, by omega⟩
  unfold cutN
  rw [hk]
  show (if l = [] then 0 else _) = _
  rw [if_neg h, cutF_fuel k (l.drop (decodeL l).2).length _ _ (by rw [List.length_drop]; omega) (Nat.le_refl _)]
theorem cutN_le : ∀ l n, cutN l n ≤ l.length := by
  refine text_ind (fun n => Nat.le_refl _) ?_
  intro l hne ih n
  have hw := dec_bd hne
  rw [cutN_step hne]
  split
  · omega
  · have := ih (n - (decodeL l).2)
    rw [List.length_drop] at this
    omega
theorem cutN_all : ∀ (l : List UInt8) (n : Int), (l.length : Int) ≤ n → cutN l n = l.length := by
  refine text_ind (fun n _ => rfl) ?_
  intro l hne ih n hn
  have hw := dec_bd hne
  rw [cutN_step hne, if_neg (by omega), ih _ (by rw [List.length_drop]; omega), List.length_drop]
  omega
theorem cutN_most : ∀ (l : List UInt8) (n : Int), 0 ≤ n → (cutN l n : Int) ≤ n := by
  refine text_ind (fun n h => h) ?_
  intro l hne ih n hn
  have hw := dec_bd hne
  rw [cutN_step hne]
  split
  · exact hn
  · have := ih (n - (decodeL l).2) (by omega)
    omega
end Go.Proofs.YtelhdkidnhfnbabGreatDoor
