/-
  The names of the files (Names): a range over the map that collects, and a sort. Condition: at most 10^6 files.
-/
import Derived.Test.YtincdegoiknfhabKApp
import Derived.Test.YtincdegoiknfhabShelf
import Derived.Lib.OwnBridge
import Derived.Sort.OwnSorted
import Derived.Laws.MakeOwn
namespace Go.Proofs.Ytincdegoiknfhab
open Go.RowKit

/-! ### rows of texts -/
theorem Try.strinfo : (Try.prog.info? 9).map (fun i => (i.zero, i.size, i.bytes)) = some (some (.string ⟨#[]⟩), 1, 16) := by kernel_rfl
def strs (L : List (List UInt8)) : List Value := L.map fun l => .string (str l)
theorem strs_length (L : List (List UInt8)) : (strs L).length = L.length := by simp [strs]
theorem strs_snoc (L : List (List UInt8)) (x : List UInt8) : strs (L ++ [x]) = strs L ++ [.string (str x)] := by simp [strs]
theorem strs_enc (L : List (List UInt8)) : strs L = L.map encStr := by
  unfold strs
  apply List.map_congr_left
  intro x _
  rfl
theorem own_shape {w : World} {base e : Nat} {v : Value} {xs : List Value} (h : Own w base e v xs) : ∃ A c, v = .slice A xs.length c := by
  rcases h.2 with ⟨rfl, h0⟩ | ⟨g, cap, cur, rfl, _⟩
  · exact ⟨none, 0, by rw [h0]⟩
  · exact ⟨_, cap, rfl⟩
def sortP (L : List (List UInt8)) : List (List UInt8) := L.mergeSort fun x y => decide (x ≤ y)
theorem sortP_len (L : List (List UInt8)) : (sortP L).length = L.length := List.length_mergeSort L
theorem sort_any (base : Nat) (L : List (List UInt8)) (v : Value) (w : World) (h : Own w base 9 v (strs L)) (hl : L.length ≤ 1099511627776) :
    Calls Try.prog 60 #[v] w fun e w' => e = .returned (.tuple #[]) ∧ Own w' base 9 v (strs (sortP L)) ∧ Below base w w' := by
  have h' := h
  unfold Own at h'
  rw [strs_length, strs_enc] at h'
  rcases h.2 with ⟨rfl, h0⟩ | ⟨g, cap, cur, rfl, hg, hh, hn, hc, hs, ht⟩
  · rw [strs_length] at h0
    have e0 : L = [] := List.length_eq_zero_iff.1 h0
    subst e0
    refine (Try.slices_Sort_string_none none 0 w).mono ?_
    rintro e w' ⟨rfl, rfl⟩
    have e1 : sortP [] = [] := by simp [sortP]
    rw [e1]
    exact ⟨rfl, h, Below.refl _ _⟩
  · rw [strs_length] at hn ⊢
    by_cases hz : L.length = 0
    · have e0 : L = [] := List.length_eq_zero_iff.1 hz
      subst e0
      refine (Try.slices_Sort_string_none _ cap w).mono ?_
      rintro e w' ⟨rfl, rfl⟩
      have e1 : sortP [] = [] := by simp [sortP]
      rw [e1]
      exact ⟨rfl, h, Below.refl _ _⟩
    obtain ⟨g2, cap2, e2, hb2, hlt, _, _, _, hH⟩ := Lib.holds_of_ownsRow h' (by simp)
    injection e2 with e3 e4 e5
    injection e3 with e3
    injection e3 with e3
    subst e3
    refine (Try.slices_Sort_string g 0 cap L w hH hlt (by omega)).mono ?_
    rintro e w' ⟨rfl, q, os, rfl⟩
    refine ⟨rfl, ?_, (Below.refl _ _).grown (grownBy_sorted _) (by omega) (fun k hk => by cases hk; exact hg)⟩
    have hrow := ownsRow_sorted (n := q) (os := os) (ss := L) (ts := sortP L) (sortP_len L) hg hh hn hc hs
    unfold Own
    rw [strs_length, sortP_len, strs_enc]
    exact hrow

/-! ### the order -/
theorem bb_iff : ∀ a b : List UInt8, bytesBefore a b = true ↔ a < b
  | [], [] => by simp [bytesBefore]
  | [], _ :: _ => by simp [bytesBefore]
  | _ :: _, [] => by simp [bytesBefore]
  | a :: r, b :: s => by
    have ih := bb_iff r s
    rw [List.cons_lt_cons_iff, ← ih]
    simp [bytesBefore]
def bLe (x y : List UInt8) : Prop := ¬ y < x
theorem ble_tr {x y z : List UInt8} (h : bLe x y) (k : bLe y z) : bLe x z := fun hz => k (by
  by_cases e : x = y
  · rw [← e]; exact hz
  · by_cases hx : x < y
    · exact List.lt_trans hz hx
    · exact (e (List.le_antisymm h hx)).elim)
theorem sortP_le (L : List (List UInt8)) : (sortP L).Pairwise bLe := by
  have h := List.pairwise_mergeSort (le := fun x y : List UInt8 => decide (x ≤ y)) (fun a b c h1 h2 => decide_eq_true (show a ≤ c from ble_tr (x := a) (y := b) (z := c) (of_decide_eq_true (p := a ≤ b) h1) (of_decide_eq_true (p := b ≤ c) h2)))
    (fun a b => by
      rcases List.le_total a b with h | h
      · simp [h]
      · simp [h]) L
  exact h.imp fun h => of_decide_eq_true h
/-- Rows of one set of names: sorted, it is the row that rises. -/
theorem sort_is {X Y : List (List UInt8)} (hp : X.Perm Y) (hY : Y.Pairwise fun a b => bytesBefore a b = true) : sortP X = Y := by
  refine List.Perm.eq_of_pairwise (le := bLe) (fun a b _ _ h1 h2 => List.le_antisymm h1 h2) (sortP_le X) (hY.imp fun h => ?_) ((List.mergeSort_perm _ _).trans hp)
  exact List.lt_asymm ((bb_iff _ _).1 h)
theorem MapAt.sorted {w : World} {b : Nat} {E : List KEnt} (h : MapAt w b E) : (E.map KEnt.name).Pairwise fun a b => bytesBefore a b = true := by
  obtain ⟨es, e, hp, _⟩ := World.ownsMap.canon h Try.keyed
  injection e with e
  subst e
  rw [List.pairwise_map] at hp ⊢
  exact hp

/-! ### the walk -/
def doneN (left : Lit → Bool) (E : List KEnt) : List (List UInt8) := (E.filter fun e => !left (.string e.name)).map KEnt.name
theorem doneN_start (E : List KEnt) : doneN (Maps.has (mapD E)) E = [] := by
  unfold doneN
  rw [List.map_eq_nil_iff, List.filter_eq_nil_iff]
  intro e he
  have h : Maps.has (mapD E) (.string e.name) = true := by
    rw [mapD_has, List.any_eq_true]
    exact ⟨e, he, by simp⟩
  rw [h]
  decide
theorem doneN_end (left : Lit → Bool) (E : List KEnt) (h : ∀ kl, left kl = false) : doneN left E = E.map KEnt.name := by
  unfold doneN
  rw [List.filter_eq_self.2 fun e _ => by rw [h]; rfl]
theorem doneN_len (left : Lit → Bool) (E : List KEnt) : (doneN left E).length ≤ E.length := by
  unfold doneN
  rw [List.length_map]
  exact List.length_filter_le _ _
theorem doneN_step {E : List KEnt} (h : E.Pairwise fun e f => e.name ≠ f.name) {left : Lit → Bool} {e : KEnt} (he : e ∈ E) (hl : left (.string e.name) = true) :
    (doneN left E ++ [e.name]).Perm (doneN (fun z => left z && !z.sameKey (.string e.name)) E) := by
  unfold doneN
  induction E with
  | nil => cases he
  | cons x r ih =>
    rw [List.pairwise_cons] at h
    rcases List.mem_cons.1 he with e1 | he2
    · subst e1
      have h1 : (r.filter fun f => !(left (.string f.name) && !(Lit.string f.name).sameKey (.string e.name))) = r.filter fun f => !left (.string f.name) :=
        List.filter_congr fun f hf => by
          have hne : (f.name == e.name) = false := by simpa using fun x => h.1 f hf x.symm
          rw [same_str, hne, Bool.not_false, Bool.and_true]
      have h2 : (!(left (.string e.name) && !(Lit.string e.name).sameKey (.string e.name))) = true := by rw [same_str, beq_self_eq_true, hl]; rfl
      have h3 : (!left (.string e.name)) = false := by rw [hl]; rfl
      rw [List.filter_cons_of_neg (by show ¬ (!left (.string e.name)) = true; rw [h3]; exact Bool.false_ne_true), List.filter_cons_of_pos (by exact h2), h1, List.map_cons]
      exact List.perm_append_singleton _ _
    · have hne : (x.name == e.name) = false := by simpa using h.1 e he2
      have h2 : (!(left (.string x.name) && !(Lit.string x.name).sameKey (.string e.name))) = !left (.string x.name) := by rw [same_str, hne, Bool.not_false, Bool.and_true]
      have hih := ih h.2 he2
      cases hx : (!left (.string x.name)) with
      | true =>
        rw [hx] at h2
        rw [List.filter_cons_of_pos (by exact hx), List.filter_cons_of_pos (by exact h2), List.map_cons, List.map_cons, List.cons_append]
        exact hih.cons _
      | false =>
        rw [hx] at h2
        rw [List.filter_cons_of_neg (by rw [hx]; exact Bool.false_ne_true), List.filter_cons_of_neg (by rw [h2]; exact Bool.false_ne_true)]
        exact hih
theorem names_made (N : Nat) (hN : N ≤ 1000000) : ∃ M : Array Value, (∀ W : World, (Instr.makeSlice 59 (.int .i64 0) (.int .i64 (N : Int))).run Try.prog W = .ok (.slice (some ⟨W.heap.size, 0, none⟩) 0 N) (W.alloc (.cells M 9))) ∧
    ∀ (W : World) (base : Nat), base ≤ W.heap.size → Own (W.alloc (.cells M 9)) base 9 (.slice (some ⟨W.heap.size, 0, none⟩) 0 N) [] := by
  obtain ⟨i, hi, hz, hsize, hby⟩ := info_parts Try.strinfo
  refine ⟨madeCells (Value.cells (.string ⟨#[]⟩)) (N * i.size), fun W => ?_, fun W base hb => ?_⟩
  · have h := run_makeSlice (P := Try.prog) W 59 9 i _ Try.underlying59 hi hz .i64 .i64 0 (N : Int) (Int.le_refl _) (by omega) (by rw [hsize]; omega) (by rw [hby]; omega) (by omega)
    simpa using h
  · exact World.ownsRow_made W _ N hb (by unfold maxLen; omega) (by rw [size_madeCells, hsize])
def NamesRel (E : List KEnt) (b r B : Nat) (w : World) (u : Value) (W : World) : Prop :=
  ∃ left cnt X, W.ranges Try.prog 9 ptrR b r E.length (mapD E) left cnt ∧ Below B w W ∧ Own W B 9 u (strs X) ∧ u.ownBlock ≠ some r ∧ X.Perm (doneN left E)
/-- It answers a row of these texts of its own. -/
def MadeStrs (w : World) (L : List (List UInt8)) (e : Ending) (w' : World) : Prop := ∃ v, e = .returned v ∧ Own w' w.heap.size 9 v (strs L) ∧ Below w.heap.size w w'
set_option maxHeartbeats 3200000 in
theorem knames {w : World} {lo g b : Nat} {d : KDisk} (h : DiskAt w lo g b d) (hE : d.E.length ≤ 1000000) : Calls Try.prog 31 #[.pointer (some ⟨g, 0, none⟩)] w (MadeStrs w (d.E.map KEnt.name)) := by
  have k1 := kclosed h
  have c1 : w.cell? ⟨g, 1, none⟩ = some (.map (some b)) := h.2.2.1.cell 1
  have hlen := mlen h.2.2.2.1
  obtain ⟨M, hmk, hmo⟩ := names_made d.E.length hE
  have K := Lib.hid k1
  have H := Lib.hid h
  have HMO := Lib.hid hmo
  have hb1 : Below w.heap.size w (w.alloc (.cells M 9)) := (Below.refl _ _).alloc (Nat.le_refl _) _
  have hd1 := h.below hb1
  have c2 : (w.alloc (.cells M 9)).cell? ⟨g, 1, none⟩ = some (.map (some b)) := hd1.2.2.1.cell 1
  have HD1 := Lib.hid hd1
  have hbw := h.2.2.2.1.lt
  have HBW := Lib.hid hbw
  clear k1 h hmo hb1 hd1 hbw
  go_enter Try.func31, Try.ntmps31
  go_wp2_with (first
    | (go_at_call 43; refine K.out.mono ?_; rintro e w' ⟨rfl, rfl⟩)
    | (at_range; refine wpList_range_own _ rfl _ 62 rfl 9 _ Try.keyed Try.underlying62 ptrR b d.E.length (mapD d.E) rfl HD1.out.2.2.2.1 ?_; intro w0 hrg0 hg0 hs0))
  go_frame
  obtain ⟨R, hR⟩ : ∃ R, (w'.alloc (.cells M 9)).heap.size = R := ⟨_, rfl⟩
  rw [hR] at hrg0 hs0
  rw [hR]
  have hRs : R = w'.heap.size + 1 := by rw [← hR]; simp
  have HRS := Lib.hid hRs
  have hbel : Below w'.heap.size w' w0 := ((Below.refl _ _).alloc (Nat.le_refl _) _).grown hg0 (by simp) fun k hk => by cases hk
  have hown0 : Own w0 w'.heap.size 9 (.slice (some ⟨w'.heap.size, 0, none⟩) 0 d.E.length) (strs []) := (HMO.out w' _ (Nat.le_refl _)).grown hg0 (by simp [Value.ownBlock])
  clear hR hRs
  go_loopw [3] (NamesRel d.E b R w'.heap.size w') (fun _ W => W.rangeLeft b R)
  case atStart => exact ⟨_, _, [], hrg0, hbel, hown0, by have := HRS.out; simp [Value.ownBlock]; omega, by rw [doneN_start]⟩
  case round =>
    obtain ⟨left, cnt, X, hrg, hbw, hown, hne, hperm⟩ := hrel
    have hXl := hperm.length_eq
    have hle := doneN_len left d.E
    have hlen2 : X.length ≤ 1000000 := by omega
    have HRG := Lib.hid hrg
    have HB := Lib.hid hbw
    have HO := Lib.hid hown
    have HN := Lib.hid hne
    have HP := Lib.hid hperm
    have HL := Lib.hid hlen2
    obtain ⟨A0, c0, hA0⟩ := own_shape hown
    subst hA0
    clear hrg hbw hown hne hperm hrg0 hg0 hs0 hbel hown0 hXl hle hlen2
    go_wp2_with (at_next; refine wpList_next_ranges _ rfl _ rfl 9 Try.keyed ptrR (fun x : List UInt8 => Value.string (str x)) mkV key_shape ptrR_shape b _ _ _ left cnt rfl HRG.out ?_ ?_)
    · intro hc0 hl0
      have hd := doneN_end left d.E hl0
      have HD := Lib.hid hd
      clear hc0 hl0 hd
      have hperm := HP.out
      rw [HD.out] at hperm
      have hso := sort_is hperm H.out.2.2.2.1.sorted
      have HSO := Lib.hid hso
      clear hperm hso
      go_wp2_with fail
      refine (sort_any w'.heap.size X _ _ HO.out (by have := HL.out; omega)).mono ?_
      rintro e wz ⟨rfl, hownz, hbz⟩
      rw [HSO.out] at hownz
      go_wp2_with fail
      go_ret
      exact ⟨_, rfl, hownz, HB.out.trans hbz⟩
    · intro x c kl y y2 w1 cnt1 hkey hlk hR hat hrg1 hlt hg1 hs1 hen
      have hkl := key_lit x kl hkey
      subst hkl
      obtain ⟨e, he, hn, hc⟩ := came_is hR hat
      subst hn hc
      have hst := doneN_step H.out.2.2.2.1.apart he hlk
      have hbw1 : Below w'.heap.size w' w1 := HB.out.trans ((Below.refl _ _).grown hg1 (by have := HB.out.size; omega) fun k hk => by injection hk with hk; have := HRS.out; omega)
      have hown1 := HO.out.grown hg1 (by
        have := HN.out
        cases hob : (Value.slice A0 (strs X).length c0).ownBlock with
        | none => exact .inl rfl
        | some k => right; rw [← hob]; exact this)
      have hsz1 := hbw1.size
      have HRG1 := Lib.hid hrg1
      have HB1 := Lib.hid hbw1
      have HO1 := Lib.hid hown1
      have HST := Lib.hid hst
      have HLT := Lib.hid hlt
      have HSZ := Lib.hid hsz1
      have hen2 : (Instr.entry (.pointer (some ⟨R, 0, none⟩))).run Try.prog w1 = .ok (.tuple #[.string (str e.name), .pointer (some ⟨e.g, 0, none⟩)]) w1 := hen
      clear hkey hlk hR hat hrg1 hlt hg1 hs1 hen hst hbw1 hown1 he hsz1
      go_wp2_with (at_builtin; go_must (refine wpList_push w1 (by rfl) (.tmp 22) (.tmp 24) _ (by rfl) w'.heap.size 9 _ 16 Try.underlying59 Try.strinfo rfl _ _ (by rfl) (by exact HO1.out) _ (by rfl) rfl (by rw [strs_length]; have := HL.out; unfold maxLen; omega) (by rw [strs_length]; have := HL.out; omega) HSZ.out ?_); intro v2 w2 hown2 hg2 hb2 hat2)
      go_roundw
      case rel =>
        rw [← strs_snoc] at hown2
        have hR1 := HRG1.out.lt
        have hne2 : v2.ownBlock ≠ some R := by
          rcases hat2 with h | h
          · rw [h]; exact HN.out
          · intro h3; rw [h3] at h; simp at h; omega
        refine ⟨_, _, X ++ [e.name], HRG1.out.kept hg2 ?_ (fun h => HN.out h.symm), HB1.out.trans hb2, hown2, hne2, ((HP.out.append_right _).trans HST.out)⟩
        intro h
        have h4 := World.ownsRow.lt HO1.out b h.symm
        have := HBW.out
        omega
      case measure =>
        have hR1 := HRG1.out.kept hg2 (by
          intro h
          have h4 := World.ownsRow.lt HO1.out b h.symm
          have := HBW.out
          omega) (fun h => HN.out h.symm)
        rw [hR1.left_eq, HRG.out.left_eq]; exact HLT.out
end Go.Proofs.Ytincdegoiknfhab
