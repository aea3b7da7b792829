/-
  The document's disk: where a name stands, how many bytes there are, one deed. Conditions: names' lengths are lengths; sizes within what an int holds.
-/
import Derived.Test.YtincdegoiknfhabJMem
namespace Go.Proofs.Ytincdegoiknfhab
open Go.RowKit

theorem less_yes {x y : List UInt8} (h : x < y) : Op.bytesLess x y = true := by
  rw [bytesLess_eq]
  exact decide_eq_true h
theorem less_no {x y : List UInt8} (h : ¬ x < y) : Op.bytesLess x y = false := by
  rw [bytesLess_eq]
  exact decide_eq_false h
theorem pos_at {n : List UInt8} : ∀ {L : List AFile} {k : Nat} (h : k < L.length), k ≤ posA n L → L[k].name < n → k + 1 ≤ posA n L
  | [], k, h, _, _ => absurd h (by simp)
  | f :: r, 0, _, _, h2 => by
    rw [(is_cons_lt (f := f) (r := r) h2).2]; omega
  | f :: r, k + 1, h, h1, h2 => by
    by_cases hlt : f.name < n
    · rw [(is_cons_lt (f := f) (r := r) hlt).2] at h1 ⊢
      have := pos_at (L := r) (k := k) (by simpa using h) (by omega) h2
      omega
    · rw [(pos_cons_ge (f := f) (r := r) hlt).2] at h1
      omega
theorem pos_stop {n : List UInt8} : ∀ {L : List AFile} {k : Nat} (h : k < L.length), k ≤ posA n L → ¬ L[k].name < n → posA n L = k
  | [], k, h, _, _ => absurd h (by simp)
  | f :: r, 0, _, _, h2 => (pos_cons_ge (f := f) (r := r) h2).2
  | f :: r, k + 1, h, h1, h2 => by
    by_cases hlt : f.name < n
    · rw [(is_cons_lt (f := f) (r := r) hlt).2] at h1 ⊢
      rw [pos_stop (L := r) (k := k) (by simpa using h) (by omega) h2]
    · rw [(pos_cons_ge (f := f) (r := r) hlt).2] at h1
      omega
theorem is_at {n : List UInt8} {L : List AFile} {k : Nat} (h : k < L.length) (hp : posA n L = k) : isA n L = (L[k].name == n) := by
  unfold isA
  rw [hp, List.getElem?_eq_getElem h]
theorem is_end {n : List UInt8} {L : List AFile} (hp : posA n L = L.length) : isA n L = false := by
  unfold isA
  rw [hp, List.getElem?_eq_none (Nat.le_refl _)]
theorem absR_len (d : RDisk) : (absR d).L.length = d.E.length := by unfold absR; exact List.length_map _
theorem absR_name (d : RDisk) {k : Nat} (h : k < d.E.length) (h' : k < (absR d).L.length) : ((absR d).L[k]).name = d.E[k].name := by
  show ((d.E.map absRF)[k]'(by simpa using h)).name = _
  rw [List.getElem_map]
  rfl
theorem drewNB (w : World) (n : Nat) : Below w.heap.size w (w.drewN n) := ⟨rfl, rfl, rfl, Nat.le_refl _, fun _ _ => rfl⟩
def RFindRel (n : List UInt8) (d : RDisk) (u : Value) : Prop := ∃ k : Nat, k ≤ d.E.length ∧ k ≤ posA n (absR d).L ∧ u = .int .i64 (k : Int)
def findRV (n : List UInt8) (L : List AFile) : Value := .tuple #[.int .i64 (posA n L : Int), .bool (isA n L)]
set_option maxHeartbeats 3200000 in
set_option maxRecDepth 100000 in
theorem rfind {w : World} {lo g : Nat} {d : RDisk} (h : RDiskAt w lo g d) (n : List UInt8) (hE : d.E.length ≤ 1000000) : Calls Try.prog 61 #[.pointer (some ⟨g, 0, none⟩), .string (str n)] w (Made w (findRV n (absR d).L)) := by
  obtain ⟨A, c, hv, hc1, hc2⟩ := h.vshape
  have c0 : w.cell? ⟨g, 0, none⟩ = some (.slice A d.E.length c) := by rw [← hv]; exact h.2.1.cell 0
  have H := Lib.hid h
  have HV := Lib.hid hv
  clear h hv
  unfold findRV
  go_enter Try.func61, Try.ntmps61
  go_wp2_with fail
  go_loop [6] (RFindRel n d) (fun u => d.E.length - (intOf u).toNat)
  case atStart => exact ⟨0, Nat.zero_le _, Nat.zero_le _, rfl⟩
  case round =>
    obtain ⟨k, hk, hp, rfl⟩ := hrel
    by_cases hlt : k < d.E.length
    · obtain ⟨r, c', hv2, _, _, x0, _⟩ := H.out.cells hlt
      have hl := absR_len d
      have hnm := absR_name d hlt (by omega)
      have e1 : A = some ⟨r, 0, none⟩ := by have := HV.out; rw [hv2] at this; injection this with e1 _ _; exact e1.symm
      subst e1
      have hi : (k : Int) < (d.E.length : Int) := by omega
      have hi0 : (0 : Int) ≤ (k : Int) := by omega
      by_cases hls : d.E[k].name < n
      · have hless := less_yes hls
        have HN : Hid (k + 1 ≤ posA n (absR d).L) := Lib.hid (pos_at (by omega) hp (by rw [hnm]; exact hls))
        clear hv2 hnm hls hp hl
        generalize d.E[k].name = m at *
        go_wp2_with fail
        go_round
        case rel => exact ⟨k + 1, by omega, HN.out, by go_num⟩
        case measure => simp [intOf]; omega
      · have hless := less_no hls
        have hpk : posA n (absR d).L = k := pos_stop (by omega) hp (by rw [hnm]; exact hls)
        have hik := is_at (L := (absR d).L) (by omega) hpk
        rw [hnm] at hik
        have HA := Lib.hid (And.intro hpk hik)
        clear hv2 hnm hls hp hl hpk hik
        generalize d.E[k].name = m at *
        go_wp2_with fail
        go_quiet (fail)
        go_wp2_with fail
        go_ret2
        exact ⟨by rw [HA.out.1, HA.out.2]; rfl, drewNB _ _⟩
    · have hke : k = d.E.length := by omega
      subst hke
      have hl := absR_len d
      have hpk : posA n (absR d).L = d.E.length := by have := pos_le n (absR d).L; omega
      have hik := is_end (L := (absR d).L) (n := n) (by omega)
      have HA := Lib.hid (And.intro hpk hik)
      clear hp hl hpk hik
      go_wp2_with fail
      go_quiet (fail)
      go_wp2_with fail
      go_ret2
      exact ⟨by rw [HA.out.1, HA.out.2]; rfl, drewNB _ _⟩

/-! ### how many bytes -/
theorem usedA_take {d : RDisk} {k : Nat} (h : k < d.E.length) : usedA ((absR d).L.take (k + 1)) = usedA ((absR d).L.take k) + d.E[k].bytes.length := by
  show usedA ((d.E.map absRF).take (k + 1)) = usedA ((d.E.map absRF).take k) + _
  rw [List.take_succ_eq_append_getElem (by simpa using h)]
  unfold usedA
  rw [List.map_append, List.sum_append, List.getElem_map]
  show _ + (d.E[k].bytes.length + 0) = _
  rw [Nat.add_zero]
theorem usedA_part (L : List AFile) (k : Nat) : usedA (L.take k) ≤ usedA L := by
  conv => rhs; rw [← List.take_append_drop k L]
  unfold usedA
  rw [List.map_append, List.sum_append]
  omega
def RUsedRel (d : RDisk) (u2 u3 : Value) : Prop := ∃ k : Nat, k ≤ d.E.length ∧ u2 = .int .i64 (usedA ((absR d).L.take k) : Int) ∧ u3 = .int .i64 (k : Int)
set_option maxHeartbeats 3200000 in
set_option maxRecDepth 100000 in
theorem rused {w : World} {lo g : Nat} {d : RDisk} (h : RDiskAt w lo g d) (hE : d.E.length ≤ 1000000) (hu : usedA (absR d).L ≤ 1099511627776) : Calls Try.prog 42 #[.pointer (some ⟨g, 0, none⟩)] w (Ans w (.int .i64 (usedA (absR d).L : Int))) := by
  obtain ⟨A, c, hv, hc1, hc2⟩ := h.vshape
  have c0 : w.cell? ⟨g, 0, none⟩ = some (.slice A d.E.length c) := by rw [← hv]; exact h.2.1.cell 0
  have H := Lib.hid h
  have HV := Lib.hid hv
  clear h hv
  go_enter Try.func42, Try.ntmps42
  go_wp2_with fail
  go_loop [3, 4] (RUsedRel d) (fun _ u => d.E.length - (intOf u).toNat)
  case atStart => exact ⟨0, Nat.zero_le _, rfl, rfl⟩
  case round =>
    obtain ⟨k, hk, rfl, rfl⟩ := hrel
    by_cases hlt : k < d.E.length
    · obtain ⟨r, c', hv2, _, _, _, x1, _⟩ := H.out.cells hlt
      have e1 : A = some ⟨r, 0, none⟩ := by have := HV.out; rw [hv2] at this; injection this with e1 _ _; exact e1.symm
      subst e1
      obtain ⟨A3, c3, hv3⟩ := row_shape (H.out.2.2.2 _ (List.getElem_mem hlt)).1
      rw [hv3] at x1
      have ht := usedA_take hlt
      have hp := usedA_part (absR d).L (k + 1)
      have hi : (k : Int) < (d.E.length : Int) := by omega
      clear hv2 hv3
      generalize usedA ((absR d).L.take k) = n at *
      generalize d.E[k].bytes.length = m at *
      have hb : n + m ≤ 1099511627776 := by omega
      have HT := Lib.hid ht
      clear ht hp hu
      go_wp2_with fail
      go_round
      case rel => exact ⟨k + 1, by omega, by rw [HT.out]; go_num, by go_num⟩
      case measure => simp [intOf]; omega
    · have hke : k = d.E.length := by omega
      subst hke
      have ht : (absR d).L.take d.E.length = (absR d).L := List.take_of_length_le (by rw [absR_len]; exact Nat.le_refl _)
      rw [ht]
      clear ht
      go_wp2_with fail
      go_ret
      exact ⟨rfl, rfl⟩

/-! ### one deed -/
def WfR (d : RDisk) : Prop := WfA (absR d)
def spendR (d : RDisk) : RDisk := if d.lasts = 0 then { d with off := true } else { d with lasts := if d.lasts = -1 then -1 else d.lasts - 1, deeds := d.deeds + 1 }
theorem spendR_abs (d : RDisk) : absR (spendR d) = spendA (absR d) := by
  unfold spendR spendA
  show _ = if d.lasts = 0 then _ else _
  split <;> rfl
theorem spendR_E (d : RDisk) : (spendR d).E = d.E ∧ (spendR d).v = d.v := by
  unfold spendR
  split <;> exact ⟨rfl, rfl⟩
def RDeed (w : World) (lo g : Nat) (d : RDisk) (e : Ending) (w' : World) : Prop := e = .returned (.bool (decide (d.lasts ≠ 0))) ∧ RDiskAt w' lo g (spendR d) ∧ KeptOff (fun k => k = g) w w'
set_option maxRecDepth 100000 in
theorem rdeed {w : World} {lo g : Nat} {d : RDisk} (h : RDiskAt w lo g d) (hw : WfA (absR d)) : Calls Try.prog 63 #[.pointer (some ⟨g, 0, none⟩)] w (RDeed w lo g d) := by
  obtain ⟨l1, l2, d1, d2, _, _⟩ := hw
  have l1' : -1 ≤ d.lasts := l1
  have l2' : d.lasts ≤ 9223372036854775807 := l2
  have d1' : 0 ≤ d.deeds := d1
  have d2' : d.deeds ≤ 1000000 := d2
  clear l1 l2 d1 d2
  have c2 : w.cell? ⟨g, 2, none⟩ = some (.int .i64 d.lasts) := h.2.1.cell 2
  have c3 : w.cell? ⟨g, 3, none⟩ = some (.bool d.off) := h.2.1.cell 3
  have c4 : w.cell? ⟨g, 4, none⟩ = some (.int .i64 d.deeds) := h.2.1.cell 4
  have f2 : w.frozen? ⟨g, 2, none⟩ = false := h.2.1.free 2
  have f3 : w.frozen? ⟨g, 3, none⟩ = false := h.2.1.free 3
  have f4 : w.frozen? ⟨g, 4, none⟩ = false := h.2.1.free 4
  have H := Lib.hid h
  clear h
  unfold RDeed
  by_cases h0 : d.lasts = 0
  · have hv : decide (d.lasts ≠ 0) = false := decide_eq_false fun e => e h0
    have hd : RDiskAt (w.setCell ⟨g, 3, none⟩ (.bool true)) lo g (spendR d) := by
      unfold spendR
      rw [if_pos h0]
      exact H.out.set 3 _ rfl rfl rfl
    have HV := Lib.hid hv
    have HD := Lib.hid hd
    rw [h0] at c2
    clear hv hd h0 l1' l2'
    go_enter Try.func63, Try.ntmps63
    go_wp2_with fail
    go_ret
    exact ⟨by rw [HV.out]; rfl, HD.out, KeptOff.set w g 3 _ rfl⟩
  · have hv : decide (d.lasts ≠ 0) = true := decide_eq_true h0
    have HV := Lib.hid hv
    clear hv
    by_cases h1 : d.lasts = -1
    · have hd : RDiskAt (w.setCell ⟨g, 4, none⟩ (.int .i64 (d.deeds + 1))) lo g (spendR d) := by
        unfold spendR
        rw [if_neg h0, if_pos h1]
        exact H.out.set 4 _ rfl rfl (by rw [h1]; rfl)
      have HD := Lib.hid hd
      rw [h1] at c2
      clear hd h0 h1 l1' l2'
      go_enter Try.func63, Try.ntmps63
      go_wp2_with fail
      go_ret
      exact ⟨by rw [HV.out]; rfl, by exact HD.out, KeptOff.set w g 4 _ rfl⟩
    · have hd : RDiskAt ((w.setCell ⟨g, 2, none⟩ (.int .i64 (d.lasts - 1))).setCell ⟨g, 4, none⟩ (.int .i64 (d.deeds + 1))) lo g (spendR d) := by
        unfold spendR
        rw [if_neg h0, if_neg h1]
        exact (H.out.set (d' := { d with lasts := d.lasts - 1 }) 2 _ rfl rfl rfl).set 4 _ rfl rfl rfl
      have HD := Lib.hid hd
      have hp : 1 ≤ d.lasts := by omega
      have hp0 : 0 < d.lasts := by omega
      clear hd
      go_enter Try.func63, Try.ntmps63
      go_wp2_with fail
      go_ret
      exact ⟨by rw [HV.out]; rfl, by exact HD.out, (KeptOff.set (F := fun x => x = g) w g 2 _ rfl).trans (KeptOff.set (F := fun x => x = g) _ g 4 _ rfl) (fun x hx => .inl hx)⟩

/-! ### stopping -/
def stopR (d : RDisk) (n : Int) : RDisk := if n < 0 then d else { d with lasts := n }
theorem rstop {w : World} {lo g : Nat} {d : RDisk} (h : RDiskAt w lo g d) (n : Int) : Calls Try.prog 40 #[.pointer (some ⟨g, 0, none⟩), .int .i64 n] w (RStep w lo g d (stopA (absR d) n) (.int .i64 (stopV n))) := by
  have c2 : w.cell? ⟨g, 2, none⟩ = some (.int .i64 d.lasts) := h.2.1.cell 2
  have f2 : w.frozen? ⟨g, 2, none⟩ = false := h.2.1.free 2
  have H := Lib.hid h
  clear h
  unfold stopV
  by_cases hn : n < 0
  · rw [if_pos hn]
    go_enter Try.func40, Try.ntmps40
    go_wp2_with fail
    go_ret
    exact ⟨rfl, d, H.out, by unfold stopA; rw [if_pos hn], KeptOff.refl _ _, fun k hk => .inl hk⟩
  · rw [if_neg hn]
    have hd : RDiskAt (w.setCell ⟨g, 2, none⟩ (.int .i64 n)) lo g { d with lasts := n } := H.out.set 2 _ rfl rfl rfl
    have HD := Lib.hid hd
    clear hd
    go_enter Try.func40, Try.ntmps40
    go_wp2_with fail
    go_ret
    exact ⟨rfl, { d with lasts := n }, by exact HD.out, by unfold stopA; rw [if_neg (by omega)]; rfl, KeptOff.set w g 2 _ (.inl rfl), fun k hk => .inl hk⟩
end Go.Proofs.Ytincdegoiknfhab
