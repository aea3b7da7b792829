/-
  date.reader: value, number, numberTo, has, must, sign: what each answers, and what is left. Conditions: the reader's text takes at most 2^47 bytes.
-/
import Derived.Test.YtmimkcdomgoefabDoorDRunW
namespace Go.Proofs.YtmimkcdomgoefabDoor
open Go.RowKit

/-- A reader: what is left, and whether it is bad. -/
abbrev St := List UInt8 × Bool
def RS (w : World) (g : Nat) (s : St) : Prop := Blk w g 37 #[.string (str s.1), .bool s.2]
/-- A call that answers v, and leaves the reader so. -/
def Does (w : World) (g : Nat) (v : Value) (s : St) (e : Ending) (w' : World) : Prop := e = .returned v ∧ RS w' g s ∧ w.grownBy w' (some g)
def Short (s : St) : Prop := s.1.length ≤ 140737488351232

def valN (l : List UInt8) : Nat := l.foldl (fun n x => 10 * n + (x.toNat - 48)) 0
def AllDig (l : List UInt8) : Prop := ∀ i (h : i < l.length), 48 ≤ l[i].toNat ∧ l[i].toNat ≤ 57
theorem valN_snoc (l : List UInt8) (x : UInt8) : valN (l ++ [x]) = 10 * valN l + (x.toNat - 48) := by unfold valN; rw [List.foldl_append]; rfl
theorem valN_take (l : List UInt8) (k : Nat) (h : k < l.length) : valN (l.take (k + 1)) = 10 * valN (l.take k) + (l[k].toNat - 48) := by
  rw [List.take_succ_eq_append_getElem h, valN_snoc]
theorem valN_lt (l : List UInt8) (h : AllDig l) : ∀ k, k ≤ l.length → valN (l.take k) < 10 ^ k
  | 0, _ => by simp [valN]
  | k + 1, hk => by
    have h1 := valN_lt l h k (by omega)
    have h2 := h k (by omega)
    rw [valN_take l k (by omega), Nat.pow_succ]
    omega
theorem lead_fits (p : Nat → Bool) : ∀ (m : Nat) (l : List UInt8) (i : Nat) (h : i < l.length), i < lead p m l → p l[i].toNat = true
  | 0, _, _, _, h => by simp [lead] at h
  | m + 1, x :: r, i, hl, h => by
    unfold lead at h
    by_cases hx : p x.toNat = true
    · cases i with
      | zero => exact hx
      | succ j =>
        rw [if_pos hx] at h
        exact lead_fits p m r j (by simpa using hl) (by omega)
    · rw [if_neg hx] at h
      omega
theorem runT_len (p : Nat → Bool) (a b : Nat) (l : List UInt8) : (runT p a b l).length ≤ b := by
  have := lead_le p b l
  unfold runT
  split
  · simp
  · rw [List.length_take]; omega
theorem runL_len (p : Nat → Bool) (a b : Nat) (l : List UInt8) : (runL p a b l).length ≤ l.length := by
  unfold runL
  split
  · exact Nat.le_refl _
  · rw [List.length_drop]; omega
theorem runT_dig (a b : Nat) (l : List UInt8) : AllDig (runT digB a b l) := by
  intro i hi
  have hl := lead_le digB b l
  unfold runT at hi ⊢
  split at hi
  · simp at hi
  · rename_i hc
    rw [List.length_take] at hi
    have := lead_fits digB b l i (by omega) (by omega)
    rw [dig_iff] at this
    simp only [if_neg hc, List.getElem_take]
    exact this

def ValRel (l : List UInt8) (w : World) (n : Value) (w' : World) : Prop := ∃ k : Nat, k ≤ l.length ∧ w' = w.iter (str l) k ∧ n = .int .i64 (valN (l.take k) : Int)

set_option maxHeartbeats 800000 in
theorem value_any (l : List UInt8) (w : World) (hd : AllDig l) (h9 : l.length ≤ 9) :
    Calls Tryd.prog 24 #[.string (str l)] w (Made w (.int .i64 (valN l : Int))) := by
  have HD := Lib.hid hd
  clear hd
  go_enter Tryd.func24, Tryd.ntmps24
  go_wp2_with fail
  go_loopw [3] (ValRel l w) (fun _ w' => l.length - w'.iterPos w.heap.size)
  case atStart => exact ⟨0, Nat.zero_le _, rfl, rfl⟩
  case round =>
    obtain ⟨k, hk, rfl, rfl⟩ := hrel
    have hlt := valN_lt l HD.out k hk
    have hp : (10 : Nat) ^ k ≤ 10 ^ 9 := Nat.pow_le_pow_right (by decide) (by omega)
    have hvI : (valN (l.take k) : Int) ≤ 1000000000 := by omega
    by_cases hkl : k < l.length
    · have hdig := HD.out k hkl
      have hsn := valN_take l k hkl
      have hsz : k < (str l).size := by rw [str_size]; exact hkl
      have hnx : ∀ ty, (Instr.next (.pointer (some ⟨w.heap.size, 0, none⟩)) true ty).run Tryd.prog (w.iter (str l) k) = .ok (.tuple #[.bool true, .int .i64 k, .int .i32 (l[k].toNat : Int)]) (w.iter (str l) (k + 1)) := fun ty => run_next_ascii w (str l) k ty hsz (by show l[k].toNat < 128; omega)
      generalize l[k].toNat = c at hdig hsn hnx
      generalize hv : valN (l.take k) = v at hvI hsn
      have hd1 : (48 : Int) ≤ (c : Int) := by omega
      have hd2 : (c : Int) ≤ 57 := by omega
      have HSN := Lib.hid hsn
      have HV := Lib.hid hv
      clear hlt hp hdig hsn hsz hv
      go_wp2_with fail
      go_roundw
      case rel => exact ⟨k + 1, by omega, rfl, by rw [HSN.out]; exact int_val (by omega)⟩
      case measure => simp; omega
    · have hke : k = l.length := by omega
      have hnx : ∀ ty, (Instr.next (.pointer (some ⟨w.heap.size, 0, none⟩)) true ty).run Tryd.prog (w.iter (str l) k) = _ := fun ty => run_next_end w (str l) k ty (by rw [str_size]; exact hkl)
      have hfin : valN (l.take k) = valN l := by rw [List.take_of_length_le (by omega)]
      have HF := Lib.hid hfin
      clear hlt hp hke hfin
      go_wp2_with fail
      go_ret
      exact ⟨by rw [← HF.out]; rfl, (Below.refl _ _).alloc (Nat.le_refl _) _⟩

def numS (n : Nat) (s : St) : Nat × St := (valN (runT digB n n s.1), (runL digB n n s.1, runB digB n n s.1 s.2))
def runS (p : Nat → Bool) (a b : Nat) (s : St) : List UInt8 × St := (runT p a b s.1, (runL p a b s.1, runB p a b s.1 s.2))
theorem numS_short {n : Nat} {s : St} (h : Short s) : Short (numS n s).2 := Nat.le_trans (runL_len digB n n s.1) h
theorem runS_short {p : Nat → Bool} {a b : Nat} {s : St} (h : Short s) : Short (runS p a b s).2 := Nat.le_trans (runL_len p a b s.1) h

theorem grown_made {w w1 w2 : World} {g : Nat} (h : w.grownBy w1 (some g)) (hb : Below w1.heap.size w1 w2) : w.grownBy w2 (some g) :=
  h.trans ⟨hb.os, hb.tape, hb.output, hb.size, fun k hk _ => hb.block k hk⟩

set_option maxHeartbeats 400000 in
theorem number_any (g n : Nat) (s : St) (w : World) (hr : RS w g s) (hs : Short s) (hn : n ≤ 9) :
    Calls Tryd.prog 15 #[.pointer (some ⟨g, 0, none⟩), .int .i64 (n : Int)] w (Does w g (.int .i64 ((numS n s).1 : Int)) (numS n s).2) := by
  have h1 := run_dig g n n s.1 s.2 w hr hs (by omega)
  have h2 : ∀ w1, Calls Tryd.prog 24 #[.string (str (runT digB n n s.1))] w1 (Made w1 (.int .i64 (valN (runT digB n n s.1) : Int))) := fun w1 => value_any _ w1 (runT_dig n n s.1) (Nat.le_trans (runT_len digB n n s.1) hn)
  have H1 := Lib.hid h1
  have H2 := Lib.hid h2
  clear h1 h2 hr hs
  go_enter Tryd.func15, Tryd.ntmps15
  go_wp2_with fail
  refine H1.out.mono ?_
  rintro e w1 ⟨rfl, hb1, hg1⟩
  go_wp2_with fail
  refine (H2.out w1).mono ?_
  rintro e w2 ⟨rfl, hb2⟩
  go_wp2_with fail
  go_ret
  exact ⟨rfl, hb1.below hb2 hb1.lt, grown_made hg1 hb2⟩

def numToS (most : Nat) (s : St) : Nat × St := ((numS 2 s).1, ((numS 2 s).2.1, if most < (numS 2 s).1 then true else (numS 2 s).2.2))
theorem numToS_short {n : Nat} {s : St} (h : Short s) : Short (numToS n s).2 := numS_short (n := 2) h

set_option maxHeartbeats 400000 in
theorem numberTo_any (g most : Nat) (s : St) (w : World) (hr : RS w g s) (hs : Short s) :
    Calls Tryd.prog 42 #[.pointer (some ⟨g, 0, none⟩), .int .i64 (most : Int)] w (Does w g (.int .i64 ((numToS most s).1 : Int)) (numToS most s).2) := by
  have h1 := number_any g 2 s w hr hs (by omega)
  have hp : numToS most s = ((numS 2 s).1, ((numS 2 s).2.1, if most < (numS 2 s).1 then true else (numS 2 s).2.2)) := rfl
  generalize numS 2 s = q at h1 hp
  obtain ⟨v, s1⟩ := q
  have H1 := Lib.hid h1
  have HP := Lib.hid hp
  clear h1 hr hs hp
  by_cases hc : (most : Int) < (v : Int)
  · have hc' : most < v := by omega
    have HC := Lib.hid hc'
    clear hc'
    go_enter Tryd.func42, Tryd.ntmps42
    go_wp2_with fail
    refine H1.out.mono ?_
    rintro e w1 ⟨rfl, hb1, hg1⟩
    have c1 : w1.cell? ⟨g, 1, none⟩ = some (.bool s1.2) := hb1.cell 1
    have f1 := hb1.free 1
    go_wp2_with fail
    go_ret
    refine ⟨by rw [HP.out]; rfl, ?_, hg1.trans (grown_set _ g 1 _)⟩
    rw [HP.out]
    simp only [if_pos HC.out]
    exact hb1.set 1 _
  · have hc' : ¬ most < v := by omega
    have HC := Lib.hid hc'
    clear hc'
    go_enter Tryd.func42, Tryd.ntmps42
    go_wp2_with fail
    refine H1.out.mono ?_
    rintro e w1 ⟨rfl, hb1, hg1⟩
    go_wp2_with fail
    go_ret
    refine ⟨by rw [HP.out]; rfl, ?_, hg1⟩
    rw [HP.out]
    simp only [if_neg HC.out]
    exact hb1

def hasB (x : Nat) (s : St) : Bool := match s.1 with | [] => false | c :: _ => decide (c.toNat = x)
def hasS (x : Nat) (s : St) : St := match s.1 with | [] => s | c :: r => if c.toNat = x then (r, s.2) else s
theorem hasS_short {x : Nat} {s : St} (h : Short s) : Short (hasS x s) := by
  unfold hasS
  obtain ⟨l, b⟩ := s
  cases l with
  | nil => exact h
  | cons c r =>
    show Short (if c.toNat = x then (r, b) else (c :: r, b))
    split
    · unfold Short at h ⊢
      simp at h ⊢
      omega
    · exact h
theorem has_run (x : Nat) (s : St) : (runT (sgnB x) 0 1 s.1 = if hasB x s = true then [UInt8.ofNat x] else []) ∧ ((runL (sgnB x) 0 1 s.1, runB (sgnB x) 0 1 s.1 s.2) : St) = hasS x s := by
  obtain ⟨l, b⟩ := s
  cases l with
  | nil => exact ⟨rfl, rfl⟩
  | cons c r =>
    have hl : lead (sgnB x) 1 (c :: r) = if c.toNat = x then 1 else 0 := by
      show (if decide (c.toNat = x) = true then lead (sgnB x) 0 r + 1 else 0) = _
      by_cases h : c.toNat = x
      · rw [if_pos h, if_pos (decide_eq_true h)]; rfl
      · rw [if_neg h, if_neg (by simp [h])]
    unfold runT runL runB
    by_cases h : c.toNat = x
    · rw [hl, if_pos h]
      subst h
      simp [hasB, hasS]
    · rw [hl, if_neg h]
      simp [hasB, hasS, h]

set_option maxHeartbeats 400000 in
theorem has_any (g x : Nat) (s : St) (w : World) (hr : RS w g s) (hs : Short s) (hx : x < 128) :
    Calls Tryd.prog 17 #[.pointer (some ⟨g, 0, none⟩), .int .i32 (x : Int)] w (Does w g (.bool (hasB x s)) (hasS x s)) := by
  have hlt := hr.lt
  have h1 := run_sign g 0 1 s.1 s.2 (w.alloc (.cells #[.int .i32 (x : Int)] 21)) x w.heap.size hx (Blk.fresh w 21 _) (hr.alloc _) hs (by omega)
  obtain ⟨e1, e2⟩ := has_run x s
  unfold RunPost at h1
  have H1 := Lib.hid h1
  have E1 := Lib.hid e1
  have E2 := Lib.hid e2
  clear h1 e1 e2 hr hs
  cases hb : hasB x s with
  | true =>
    have HB := Lib.hid hb
    clear hb
    go_enter Tryd.func17, Tryd.ntmps17
    go_wp2_with fail
    refine H1.out.mono ?_
    rw [E1.out, HB.out]
    rintro e w1 ⟨rfl, hb1, hg1⟩
    have hne : (str [UInt8.ofNat x]).toList = [UInt8.ofNat x] := str_toList _
    go_wp2_with fail
    go_ret
    refine ⟨rfl, ?_, (World.grownBy_alloc w _ (some g)).trans hg1⟩
    unfold RS
    rw [← E2.out]
    exact hb1
  | false =>
    have HB := Lib.hid hb
    clear hb
    go_enter Tryd.func17, Tryd.ntmps17
    go_wp2_with fail
    refine H1.out.mono ?_
    rw [E1.out, HB.out]
    rintro e w1 ⟨rfl, hb1, hg1⟩
    go_wp2_with fail
    go_ret
    refine ⟨rfl, ?_, (World.grownBy_alloc w _ (some g)).trans hg1⟩
    unfold RS
    rw [← E2.out]
    exact hb1

def mustS (x : Nat) (s : St) : St := if hasB x s = true then hasS x s else ((hasS x s).1, true)
theorem mustS_short {x : Nat} {s : St} (h : Short s) : Short (mustS x s) := by
  have := hasS_short (x := x) h
  unfold mustS
  split <;> exact this

set_option maxHeartbeats 400000 in
theorem must_any (g x : Nat) (s : St) (w : World) (hr : RS w g s) (hs : Short s) (hx : x < 128) :
    Calls Tryd.prog 16 #[.pointer (some ⟨g, 0, none⟩), .int .i32 (x : Int)] w (Does w g (.tuple #[]) (mustS x s)) := by
  have h1 := has_any g x s w hr hs hx
  cases hb : hasB x s with
  | true =>
    have hm : mustS x s = hasS x s := by unfold mustS; rw [if_pos hb]
    rw [hb] at h1
    have H1 := Lib.hid h1
    have HM := Lib.hid hm
    clear hb hm h1 hr hs
    go_enter Tryd.func16, Tryd.ntmps16
    go_wp2_with fail
    refine H1.out.mono ?_
    rintro e w1 ⟨rfl, hb1, hg1⟩
    go_wp2_with fail
    go_returns
    exact ⟨rfl, by rw [HM.out]; exact hb1, hg1⟩
  | false =>
    have hm : mustS x s = ((hasS x s).1, true) := by unfold mustS; rw [if_neg (by rw [hb]; simp)]
    rw [hb] at h1
    have H1 := Lib.hid h1
    have HM := Lib.hid hm
    clear hb hm h1 hr hs
    go_enter Tryd.func16, Tryd.ntmps16
    go_wp2_with fail
    refine H1.out.mono ?_
    rintro e w1 ⟨rfl, hb1, hg1⟩
    have c1 : w1.cell? ⟨g, 1, none⟩ = some (.bool (hasS x s).2) := hb1.cell 1
    have f1 := hb1.free 1
    go_wp2_with fail
    go_returns
    exact ⟨rfl, by rw [HM.out]; exact hb1.set 1 _, hg1.trans (grown_set _ g 1 _)⟩

def signS (s : St) : Int × St := if hasB 45 s = true then (-1, hasS 45 s) else (1, mustS 43 (hasS 45 s))
theorem signS_short {s : St} (h : Short s) : Short (signS s).2 := by
  unfold signS
  split
  · exact hasS_short h
  · exact mustS_short (hasS_short h)

set_option maxHeartbeats 400000 in
theorem sign_any (g : Nat) (s : St) (w : World) (hr : RS w g s) (hs : Short s) :
    Calls Tryd.prog 41 #[.pointer (some ⟨g, 0, none⟩)] w (Does w g (.int .i64 (signS s).1) (signS s).2) := by
  have h1 := has_any g 45 s w hr hs (by decide)
  have hs1 := hasS_short (x := 45) hs
  have HS1 := Lib.hid hs1
  cases hb : hasB 45 s with
  | true =>
    have hm : signS s = (-1, hasS 45 s) := by unfold signS; rw [if_pos hb]
    rw [hb] at h1
    have H1 := Lib.hid h1
    have HM := Lib.hid hm
    clear hb hm h1 hr hs hs1
    go_enter Tryd.func41, Tryd.ntmps41
    go_wp2_with fail
    refine H1.out.mono ?_
    rintro e w1 ⟨rfl, hb1, hg1⟩
    go_wp2_with fail
    go_ret
    exact ⟨by rw [HM.out]; rfl, by rw [HM.out]; exact hb1, hg1⟩
  | false =>
    have hm : signS s = (1, mustS 43 (hasS 45 s)) := by unfold signS; rw [if_neg (by rw [hb]; simp)]
    rw [hb] at h1
    have H1 := Lib.hid h1
    have HM := Lib.hid hm
    clear hb hm h1 hr hs hs1
    go_enter Tryd.func41, Tryd.ntmps41
    go_wp2_with fail
    refine H1.out.mono ?_
    rintro e w1 ⟨rfl, hb1, hg1⟩
    go_wp2_with fail
    refine (must_any g 43 _ w1 hb1 HS1.out (by decide)).mono ?_
    rintro e w2 ⟨rfl, hb2, hg2⟩
    go_wp2_with fail
    go_ret
    exact ⟨by rw [HM.out]; rfl, by rw [HM.out]; exact hb2, hg1.trans hg2⟩
end Go.Proofs.YtmimkcdomgoefabDoor
