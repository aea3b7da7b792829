/-
  How many bytes all files have (Used): a range over the map. Condition: at most 2^40 bytes.
-/
import Derived.Test.YtincdegoiknfhabKRead
namespace Go.Proofs.Ytincdegoiknfhab
open Go.RowKit

def usedE (E : List KEnt) : Nat := (E.map fun e => e.bytes.length).sum
def doneE (left : Lit → Bool) (E : List KEnt) : Nat := (E.map fun e => if left (.string e.name) = true then 0 else e.bytes.length).sum
theorem sum_zero {α : Type} (f : α → Nat) : ∀ (E : List α), (∀ e ∈ E, f e = 0) → (E.map f).sum = 0
  | [], _ => rfl
  | x :: r, h => by rw [List.map_cons, List.sum_cons, h x (by simp), sum_zero f r fun e he => h e (by simp [he])]
theorem sum_congr {α : Type} {f g : α → Nat} {E : List α} (h : ∀ e ∈ E, f e = g e) : (E.map f).sum = (E.map g).sum := by rw [List.map_congr_left h]
theorem sum_le {α : Type} {f g : α → Nat} : ∀ (E : List α), (∀ e ∈ E, f e ≤ g e) → (E.map f).sum ≤ (E.map g).sum
  | [], _ => Nat.le_refl _
  | x :: r, h => by
    rw [List.map_cons, List.map_cons, List.sum_cons, List.sum_cons]
    have h1 := h x (by simp)
    have h2 := sum_le r fun e he => h e (by simp [he])
    omega
theorem done_start (E : List KEnt) : doneE (Maps.has (mapD E)) E = 0 := by
  refine sum_zero _ E fun e he => ?_
  have h : Maps.has (mapD E) (.string e.name) = true := by
    rw [mapD_has, List.any_eq_true]
    exact ⟨e, he, by simp⟩
  rw [if_pos h]
theorem done_end (left : Lit → Bool) (E : List KEnt) (h : ∀ kl, left kl = false) : doneE left E = usedE E := sum_congr fun e _ => by rw [if_neg (by rw [h]; exact Bool.false_ne_true)]
theorem done_le (left : Lit → Bool) (E : List KEnt) : doneE left E ≤ usedE E := sum_le E fun e _ => by split <;> omega
theorem same_str (a b : List UInt8) : (Lit.string a).sameKey (.string b) = (a == b) := rfl
theorem done_step {E : List KEnt} (h : E.Pairwise fun e f => e.name ≠ f.name) {left : Lit → Bool} {e : KEnt} (he : e ∈ E) (hl : left (.string e.name) = true) : doneE (fun z => left z && !z.sameKey (.string e.name)) E = doneE left E + e.bytes.length := by
  unfold doneE
  induction E with
  | nil => cases he
  | cons x r ih =>
    rw [List.pairwise_cons] at h
    rw [List.map_cons, List.map_cons, List.sum_cons, List.sum_cons]
    rcases List.mem_cons.1 he with e1 | he2
    · subst e1
      have h1 : (r.map fun f => if (left (.string f.name) && !(Lit.string f.name).sameKey (.string e.name)) = true then 0 else f.bytes.length).sum = (r.map fun f => if left (.string f.name) = true then 0 else f.bytes.length).sum :=
        sum_congr fun f hf => by
          have hne : (f.name == e.name) = false := by simpa using fun x => h.1 f hf x.symm
          rw [same_str, hne, Bool.not_false, Bool.and_true]
      rw [h1]
      have h2 : (!(Lit.string e.name).sameKey (.string e.name)) = false := by rw [same_str, beq_self_eq_true]; rfl
      simp only [hl, h2, Bool.and_false, if_true, Bool.false_eq_true, if_false]
      omega
    · have hne : (x.name == e.name) = false := by simpa using h.1 e he2
      rw [ih h.2 he2]
      have h2 : (left (.string x.name) && !(Lit.string x.name).sameKey (.string e.name)) = left (.string x.name) := by rw [same_str, hne, Bool.not_false, Bool.and_true]
      simp only [h2]
      omega
/-- A pointer to a file, or none. -/
def mkV : Option Nat → Value
  | some g => .pointer (some ⟨g, 0, none⟩)
  | none => .pointer none
theorem ptrR_shape (v : Value) (y : DataW Unit × List MemPlace) (h : ptrR v = some y) : ∃ c, v = mkV c := by
  rcases ptrR_inv h with ⟨rfl, _⟩ | ⟨g, rfl, _⟩
  · exact ⟨none, rfl⟩
  · exact ⟨some g, rfl⟩
theorem key_shape (key : Value) (kl : Lit) (h : keyOf Try.prog 9 key = some kl) : ∃ x : List UInt8, key = .string (str x) := by
  cases key <;> simp [keyOf, mapKey, Try.underlying9] at h
  next s => exact ⟨s.data.toList, by simp [str]⟩
theorem key_lit (x : List UInt8) (kl : Lit) (h : keyOf Try.prog 9 (.string (str x)) = some kl) : kl = .string x := by
  simp [keyOf, mapKey, Try.underlying9, str] at h
  exact h.2.symm
theorem came_is {E : List KEnt} {x : List UInt8} {c : Option Nat} {y : DataW Unit × List MemPlace} (hR : ptrR (mkV c) = some y) (hat : ∀ zd, (mapD E).atKey (.string x) zd = y.1) : ∃ e ∈ E, e.name = x ∧ c = some e.g := by
  cases he : atE E x with
  | none =>
    have h1 := hat .nil
    have h2 := hat (.lit (.bool true))
    rw [mapD_at, he] at h1 h2
    rw [← h1] at h2
    cases h2
  | some e =>
    obtain ⟨hm, hn⟩ := atE_mem he
    refine ⟨e, hm, hn, ?_⟩
    have h1 := hat .nil
    rw [mapD_at, he] at h1
    cases c with
    | none =>
      injection hR with hR
      subst hR
      injection h1 with h1
      injection h1 with _ h1
      omega
    | some g =>
      injection hR with hR
      subst hR
      injection h1 with h1
      injection h1 with _ h1
      have : e.g = g := by omega
      rw [this]
def UsedRel (E : List KEnt) (b r : Nat) (w : World) (u : Value) (W : World) : Prop := ∃ left cnt, W.ranges Try.prog 9 ptrR b r E.length (mapD E) left cnt ∧ Below r w W ∧ u = .int .i64 (doneE left E : Int)
set_option maxHeartbeats 1600000 in
theorem kused {w : World} {lo g b : Nat} {d : KDisk} (h : DiskAt w lo g b d) (hu : usedE d.E ≤ 1099511627776) : Calls Try.prog 32 #[.pointer (some ⟨g, 0, none⟩)] w (Made w (.int .i64 (usedE d.E : Int))) := by
  have k1 := kclosed h
  have c1 : w.cell? ⟨g, 1, none⟩ = some (.map (some b)) := h.2.2.1.cell 1
  have K := Lib.hid k1
  have H := Lib.hid h
  clear k1 h
  go_enter Try.func32, Try.ntmps32
  go_wp2_with (first
    | (go_at_call 43; refine K.out.mono ?_; rintro e w' ⟨rfl, rfl⟩)
    | (at_range; refine wpList_range_own _ rfl _ 62 rfl 9 _ Try.keyed Try.underlying62 ptrR b d.E.length (mapD d.E) rfl H.out.2.2.2.1 ?_; intro w0 hrg0 hg0 hs0))
  go_frame
  have hbel : Below w'.heap.size w' w0 := (Below.refl _ _).grown hg0 (Nat.le_refl _) fun k hk => by cases hk
  go_loopw [3] (UsedRel d.E b w'.heap.size w') (fun _ W => W.rangeLeft b w'.heap.size)
  case atStart => exact ⟨_, _, hrg0, hbel, by rw [done_start]; rfl⟩
  case round =>
    obtain ⟨left, cnt, hrg, hbw, rfl⟩ := hrel
    have hle := done_le left d.E
    have HRG := Lib.hid hrg
    have HBW := Lib.hid hbw
    clear hrg hbw hrg0 hg0 hs0 hbel
    go_wp2_with (at_next; refine wpList_next_ranges _ rfl _ rfl 9 Try.keyed ptrR (fun x : List UInt8 => Value.string (str x)) mkV key_shape ptrR_shape b _ _ _ left cnt rfl HRG.out ?_ ?_)
    · intro hc0 hl0
      have hd := done_end left d.E hl0
      have HD := Lib.hid hd
      clear hc0 hl0 hd
      go_wp2_with fail
      go_ret
      exact ⟨by rw [← HD.out]; rfl, HBW.out⟩
    · intro x c kl y y2 w1 cnt1 hkey hlk hR hat hrg1 hlt hg1 hs1 hen
      have hkl := key_lit x kl hkey
      subst hkl
      obtain ⟨e, he, hn, hc⟩ := came_is hR hat
      subst hn hc
      have hst := done_step H.out.2.2.2.1.apart he hlk
      have hle2 := done_le (fun z => left z && !z.sameKey (.string e.name)) d.E
      obtain ⟨f1, f2, f3, f4⟩ := H.out.2.2.2.2.1 e he
      obtain ⟨A, cc, hA⟩ := row_shape f3
      have hbel1 : Below w'.heap.size wr w1 := (Below.refl _ _).grown hg1 (by have := HBW.out.size; omega) fun k hk => by injection hk with hk; omega
      have hbw1 := HBW.out.trans hbel1
      have c0 : w1.cell? ⟨e.g, 0, none⟩ = some (.slice A e.bytes.length cc) := by
        rw [← hA]
        exact (f2.below hbw1 f2.lt).cell 0
      have hen2 : (Instr.entry (.pointer (some ⟨w'.heap.size, 0, none⟩))).run Try.prog w1 = .ok (.tuple #[.string (str e.name), .pointer (some ⟨e.g, 0, none⟩)]) w1 := hen
      have HRG1 := Lib.hid hrg1
      have HBW1 := Lib.hid hbw1
      have HST := Lib.hid hst
      have HLT := Lib.hid hlt
      have hsum : doneE left d.E + e.bytes.length ≤ 1099511627776 := by omega
      generalize doneE left d.E = q at *
      clear hkey hlk hR hat hrg1 hlt hg1 hs1 hen hst f1 f2 f3 f4 hA hbel1 hbw1 he hle2
      go_wp2_with fail
      go_roundw
      case rel => exact ⟨_, _, HRG1.out, HBW1.out, by rw [HST.out]; go_num⟩
      case measure => rw [HRG1.out.left_eq, HRG.out.left_eq]; exact HLT.out
end Go.Proofs.Ytincdegoiknfhab
